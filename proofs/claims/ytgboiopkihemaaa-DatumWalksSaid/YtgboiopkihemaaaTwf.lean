/-
  datum.twin: what its loop knows.
-/
import Derived.Test.YtgboiopkihemaaaTwd
namespace Go.Proofs.Ytgboiopkihemaaa
open Go.RowKit

theorem cellsAll_at' : ∀ (l : List LT) (k : Nat) (h : k < l.length) (j : Nat), j < 7 → (cellsAll l)[k * 7 + j]? = l[k].cells[j]?
  | t :: l, 0, h, j, hj => by
    simp only [cellsAll, Nat.zero_mul, Nat.zero_add, List.getElem_cons_zero]
    rw [List.getElem?_append_left (by rw [show t.cells.length = 7 from rfl]; exact hj)]
  | t :: l, k + 1, h, j, hj => by
    simp only [cellsAll, List.getElem_cons_succ]
    rw [List.getElem?_append_right (by rw [show t.cells.length = 7 from rfl]; omega), show t.cells.length = 7 from rfl, show (k + 1) * 7 + j - 7 = k * 7 + j by omega]
    exact cellsAll_at' l k (by simpa using h) j hj
mutual
def sizeD : DT → Nat
  | .mk _ _ _ _ _ items tail => 1 + (sizesD items + sizesD tail)
def sizesD : List DT → Nat
  | [] => 0
  | t :: l => sizeD t + sizesD l
end
theorem sizesD_append (l m : List DT) : sizesD (l ++ m) = sizesD l + sizesD m := by
  induction l with
  | nil => simp [sizesD]
  | cons t l ih => simp [sizesD, ih]; omega
theorem sizeD_pos (d : DT) : 1 ≤ sizeD d := by cases d; simp only [sizeD]; omega
theorem sizesD_ge (l : List DT) : l.length ≤ sizesD l := by
  induction l with
  | nil => simp
  | cons t l ih => have := sizeD_pos t; simp only [sizesD, List.length_cons]; omega
mutual
theorem sizeD_shape : ∀ t : LT, sizeD (shape t) = t.size
  | .mk k g la ln lc ys bb s ia ic items ta tc tail => by
    have h1 := sizesD_shapes items
    have h2 := sizesD_shapes tail
    simp only [shape, sizeD, LT.size, h1, h2]
theorem sizesD_shapes : ∀ l : List LT, sizesD (shapes l) = sizes l
  | [] => by simp [shapes, sizesD, sizes]
  | t :: l => by
    have h1 := sizeD_shape t
    have h2 := sizesD_shapes l
    simp only [shapes, sizesD, sizes, h1, h2]
end
theorem shapes_at (l : List LT) (k : Nat) (hk : k < l.length) : (shapes l)[k]? = some (shape l[k]) := by
  induction l generalizing k with
  | nil => cases hk
  | cons t l ih =>
    rw [shapes_cons]
    cases k with
    | zero => rfl
    | succ k => simpa using ih k (by simpa using hk)

/-- The datum lies there as it came in: its lists are the source's. -/
def Src (w0 : World) (M : Nat) (w : World) (d : DT) (b o : Nat) : Prop := ∃ u : LT, shape u = d ∧ Held w0 M u ∧ Tame u ∧ ∀ j v, u.cells[j]? = some v → w.cell? ⟨b, o + j, none⟩ = some v
/-- A block of limbs of the call's own. -/
def Lmb (B D g R : Nat) (w : World) (k : Nat) : Prop := Fresh w B k ∧ k ≠ D ∧ k ≠ g ∧ k ≠ R
def TwRel (w0 : World) (M D g R TK cap : Nat) (t : LT) (i : Nat) (w : World) : Prop :=
  ∃ S : List DT, i ≤ S.length ∧ RoomAt w R g S.length cap ∧ w.cell? ⟨TK, 0, none⟩ = some (.func (.func 98) #[] #[.pointer (some ⟨R, 0, none⟩)]) ∧
    Parted w (Lmb (D + 5) D g R w) g S 0 (shape t) D 0 ∧ (∀ j (h : j < S.length), j < i → Parted w (Lmb (D + 5) D g R w) g S (j + 1) S[j] g (j * 7)) ∧ (∀ j (h : j < S.length), i ≤ j → Src w0 M w S[j] g (j * 7)) ∧
    i + sizesD (S.drop i) = cap ∧ Below D w0 w ∧ w.heap[D + 1]? = some (Obj.cells #[.int .i64 0, .bool false, .slice none 0 0, .bool false, .string ⟨#[]⟩, .slice none 0 0, .slice none 0 0] 27) ∧ (∀ j, w.frozen? ⟨g, j, none⟩ = false) ∧ w0.heap.size + 5 ≤ w.heap.size

theorem AtS.mono {S X : List DT} {lo p : Nat} {l : List DT} (h : AtS S lo p l) : AtS (S ++ X) lo p l := fun hne => by
  obtain ⟨h1, h2⟩ := h hne
  refine ⟨h1, fun i hi => ?_⟩
  have h3 := h2 i hi
  rw [List.getElem?_append_left (List.getElem?_eq_some_iff.1 h3).1]
  exact h3
theorem Parted.next {w w' : World} {P Q : Nat → Prop} {g : Nat} {S X : List DT} {lo : Nat} {d : DT} {b o : Nat} (h : Parted w P g S lo d b o) (hc : ∀ j, j < 7 → w'.cell? ⟨b, o + j, none⟩ = w.cell? ⟨b, o + j, none⟩) (hs : w.heap.size ≤ w'.heap.size) (hk : ∀ k, P k → Q k ∧ w'.heap[k]? = w.heap[k]?) :
    Parted w' Q g (S ++ X) lo d b o := by
  obtain ⟨la, lc, p, q, h1, h2, h3, h4, h5, h6⟩ := h
  refine ⟨la, lc, p, q, fun j v hj => ?_, ⟨h2.1.keepP hs fun hp => (hk _ (h2.2.1 hp)).2, fun hp => (hk _ (h2.2.1 hp)).1, h2.2.2⟩, h3.mono, h4.mono, h5, h6⟩
  rw [hc j (by have := (List.getElem?_eq_some_iff.1 hj).1; simpa using this)]
  exact h1 j v hj
/-- What part leaves makes a copy of it. -/
theorem PartEff.parted {w w' : World} {b o R g n cap M B D lo : Nat} {u : LT} {S : List DT} (h : PartEff w w' b o R g n cap u) (hn : S.length = n) (hlo : lo ≤ n) (hs : u.s.size ≤ maxLen) (hln : u.ln = u.ys.length) (hcap : cap ≤ maxLen) (hroom : n + u.items.length + u.tail.length ≤ cap) (hB : B ≤ w.heap.size) (hD : D < w.heap.size) (hg : g < w.heap.size) (hR : R < w.heap.size) (_hM : M ≤ B) :
    Parted w' (Lmb B D g R w') g (S ++ (shapes u.items ++ shapes u.tail)) lo (shape u) b o := by
  obtain ⟨la, lc, h1, h2, h3⟩ := h.here
  have e1 : (shape u).items = shapes u.items := by rw [shape_eq]; rfl
  have e2 : (shape u).tail = shapes u.tail := by rw [shape_eq]; rfl
  have e3 : (shape u).ys = u.ys := by rw [shape_eq]; rfl
  refine ⟨la, lc, n, n + u.items.length, ?_, ?_, ?_, ?_, ?_, ?_⟩
  · rw [e1, e2, e3, shapes_length, shapes_length, ← hln, show (shape u).k = u.k by rw [shape_eq]; rfl, show (shape u).g = u.g by rw [shape_eq]; rfl, show (shape u).bb = u.bb by rw [shape_eq]; rfl, show (shape u).s = u.s by rw [shape_eq]; rfl]
    exact h1
  · rw [e3, ← hln, show (shape u).s = u.s by rw [shape_eq]; rfl]
    refine ⟨h2, fun hp => ?_, hs⟩
    have hf := h3 hp
    exact ⟨hf.low hB, by have := hf.1; omega, by have := hf.1; omega, by have := hf.1; omega⟩
  · rw [e1]
    refine fun _ => ⟨hlo, fun i hi => ?_⟩
    rw [List.getElem?_append_right (by omega), hn, show n + i - n = i by omega, List.getElem?_append_left hi, List.getElem?_eq_getElem hi]
  · rw [e2]
    refine fun _ => ⟨by omega, fun i hi => ?_⟩
    rw [List.getElem?_append_right (by omega), hn, List.getElem?_append_right (by rw [shapes_length]; omega), shapes_length, show n + u.items.length + i - n - u.items.length = i by omega, List.getElem?_eq_getElem hi]
  · rw [e1, shapes_length]; omega
  · rw [e2, shapes_length]; omega
/-- The new places hold the source's data. -/
theorem src_new {w0 w' : World} {M g n : Nat} {l : List LT} {b o : Nat} (hl : LiesR w0 M l b o) (hT : TameR l) (hn : ∀ j v, (cellsAll l)[j]? = some v → w'.cell? ⟨g, n * 7 + j, none⟩ = some v) (i : Nat) (hi : i < l.length) : Src w0 M w' (shape l[i]) g ((n + i) * 7) := by
  have h1 := (lies_held.1 ((liesR_iff _ _ _).1 hl i hi)).2.2
  refine ⟨l[i], rfl, h1, tameR_at l i hi hT, fun j v hj => ?_⟩
  have hj7 : j < 7 := (List.getElem?_eq_some_iff.1 hj).1
  have h2 := hn (i * 7 + j) v (by rw [cellsAll_at' l i hi j hj7]; exact hj)
  rwa [show n * 7 + (i * 7 + j) = (n + i) * 7 + j by omega] at h2
end Go.Proofs.Ytgboiopkihemaaa
