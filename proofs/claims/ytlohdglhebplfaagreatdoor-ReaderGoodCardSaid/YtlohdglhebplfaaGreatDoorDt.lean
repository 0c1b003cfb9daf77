/-
  Data without where they lie; Norm of them; data that lie in blocks of some sort alone.
-/
import Derived.Test.YtlohdglhebplfaaGreatDoorAll
import Derived.Test.YtlohdglhebplfaaGreatDoorNw
namespace Go.Proofs.YtlohdglhebplfaaGreatDoor
open Go.RowKit

inductive DT where
  | mk (k : Int) (g : Bool) (ys : List Nat) (bb : Bool) (s : ByteArray) (items tail : List DT) : DT
def DT.k : DT → Int | .mk k _ _ _ _ _ _ => k
mutual
def shape : LT → DT
  | .mk k g _ _ _ ys bb s _ _ items _ _ tail => .mk k g ys bb s (shapes items) (shapes tail)
def shapes : List LT → List DT
  | [] => []
  | t :: l => shape t :: shapes l
end
theorem shape_eq (t : LT) : shape t = .mk t.k t.g t.ys t.bb t.s (shapes t.items) (shapes t.tail) := by cases t; simp [shape, LT.k, LT.g, LT.ys, LT.bb, LT.s, LT.items, LT.tail]
theorem shapes_nil : shapes [] = [] := by simp [shapes]
theorem shapes_cons (t : LT) (l : List LT) : shapes (t :: l) = shape t :: shapes l := by simp [shapes]
theorem shapes_append (l m : List LT) : shapes (l ++ m) = shapes l ++ shapes m := by
  induction l with
  | nil => simp [shapes_nil]
  | cons t l ih => simp [shapes_cons, ih]
theorem shapes_length (l : List LT) : (shapes l).length = l.length := by
  induction l with
  | nil => simp [shapes_nil]
  | cons t l ih => simp [shapes_cons, ih]

/-- Norm of what is no list. -/
def leafD (k : Int) (g : Bool) (ys : List Nat) (bb : Bool) (s : ByteArray) : DT :=
  if k = 1 then .mk 1 (decide (zOf g (val ys) < 0)) (limbs (zOf g (val ys)).natAbs) false ⟨#[]⟩ [] []
  else if k = 2 then .mk 2 false [] bb ⟨#[]⟩ [] []
  else if k = 3 ∨ k = 4 then .mk k false [] false s [] []
  else .mk k false [] false ⟨#[]⟩ [] []
/-- A list of items, and of what stands behind a dot. -/
def closeD : List DT × Option DT → DT
  | (l, none) => .mk 5 false [] false ⟨#[]⟩ l []
  | ([], some e) => e
  | (x :: l, some e) => .mk 5 false [] false ⟨#[]⟩ (x :: l) [e]
mutual
/-- The items of a list and of the lists that are its tails, and what stands behind the last dot. -/
def spineT : LT → List DT × Option DT
  | .mk k g _ _ _ ys bb s _ _ items _ _ tail => if k = 5 then (normR items ++ (spineR tail).1, (spineR tail).2) else ([], some (leafD k g ys bb s))
def spineR : List LT → List DT × Option DT
  | [] => ([], none)
  | t :: _ => spineT t
def normR : List LT → List DT
  | [] => []
  | t :: l => closeD (spineT t) :: normR l
end
def normT (t : LT) : DT := closeD (spineT t)
theorem spineT_eq (t : LT) : spineT t = if t.k = 5 then (normR t.items ++ (spineR t.tail).1, (spineR t.tail).2) else ([], some (leafD t.k t.g t.ys t.bb t.s)) := by cases t; simp only [spineT]; rfl
theorem normR_nil : normR [] = [] := by simp [normR]
theorem normR_cons (t : LT) (l : List LT) : normR (t :: l) = normT t :: normR l := by simp [normR, normT]
theorem normR_append (l m : List LT) : normR (l ++ m) = normR l ++ normR m := by
  induction l with
  | nil => simp [normR_nil]
  | cons t l ih => simp [normR_cons, ih]
theorem spineR_nil : spineR [] = ([], none) := by simp [spineR]
theorem spineR_cons (t : LT) (l : List LT) : spineR (t :: l) = spineT t := by simp [spineR]
theorem normT_leaf (t : LT) (h : t.k ≠ 5) : normT t = leafD t.k t.g t.ys t.bb t.s := by rw [normT, spineT_eq, if_neg h]; rfl
theorem normT_list (t : LT) (h : t.k = 5) : normT t = closeD (normR t.items ++ (spineR t.tail).1, (spineR t.tail).2) := by rw [normT, spineT_eq, if_pos h]

def SpotP (P : Nat → Prop) (a : Option Addr) (n c : Nat) : Prop := n ≤ c ∧ c ≤ maxLen ∧ (0 < n → a = some ⟨blk a, ofs a, none⟩ ∧ P (blk a)) ∧ (a = none → c = 0)
mutual
/-- The datum lies there, in blocks of that sort. -/
def LiesP (w : World) (P : Nat → Prop) : LT → Nat → Nat → Prop
  | .mk k g la ln lc ys bb s ia ic items ta tc tail, b, o =>
    P b ∧ (∀ j v, (LT.cells (.mk k g la ln lc ys bb s ia ic items ta tc tail))[j]? = some v → w.cell? ⟨b, o + j, none⟩ = some v) ∧
      (Sl w la ln lc ys ∧ (0 < ln → P (blk la)) ∧ s.size ≤ maxLen) ∧ SpotP P ia items.length ic ∧ SpotP P ta tail.length tc ∧ LiesPR w P items (blk ia) (ofs ia) ∧ LiesPR w P tail (blk ta) (ofs ta)
def LiesPR (w : World) (P : Nat → Prop) : List LT → Nat → Nat → Prop
  | [], _, _ => True
  | t :: l, b, o => LiesP w P t b o ∧ LiesPR w P l b (o + 7)
end
theorem liesP_eq {w : World} {P : Nat → Prop} {t : LT} {b o : Nat} : LiesP w P t b o ↔
    (P b ∧ (∀ j v, t.cells[j]? = some v → w.cell? ⟨b, o + j, none⟩ = some v) ∧ (Sl w t.la t.ln t.lc t.ys ∧ (0 < t.ln → P (blk t.la)) ∧ t.s.size ≤ maxLen) ∧ SpotP P t.ia t.items.length t.ic ∧ SpotP P t.ta t.tail.length t.tc ∧
      LiesPR w P t.items (blk t.ia) (ofs t.ia) ∧ LiesPR w P t.tail (blk t.ta) (ofs t.ta)) := by
  cases t; simp [LiesP, LT.la, LT.ln, LT.lc, LT.ys, LT.s, LT.ia, LT.ic, LT.items, LT.ta, LT.tc, LT.tail]
theorem liesPR_nil {w : World} {P : Nat → Prop} {b o : Nat} : LiesPR w P [] b o = True := by simp [LiesPR]
theorem liesPR_cons {w : World} {P : Nat → Prop} {b o : Nat} {t : LT} {l : List LT} : LiesPR w P (t :: l) b o = (LiesP w P t b o ∧ LiesPR w P l b (o + 7)) := by simp [LiesPR]
/-- What a datum's value holds lies in blocks of that sort. -/
def HeldP (w : World) (P : Nat → Prop) (t : LT) : Prop := (Sl w t.la t.ln t.lc t.ys ∧ (0 < t.ln → P (blk t.la)) ∧ t.s.size ≤ maxLen) ∧ SpotP P t.ia t.items.length t.ic ∧ SpotP P t.ta t.tail.length t.tc ∧
  LiesPR w P t.items (blk t.ia) (ofs t.ia) ∧ LiesPR w P t.tail (blk t.ta) (ofs t.ta)
theorem liesP_held {w : World} {P : Nat → Prop} {t : LT} {b o : Nat} : LiesP w P t b o ↔ (P b ∧ (∀ j v, t.cells[j]? = some v → w.cell? ⟨b, o + j, none⟩ = some v) ∧ HeldP w P t) := liesP_eq

theorem SpotP.mono {P Q : Nat → Prop} {a : Option Addr} {n c : Nat} (h : SpotP P a n c) (hPQ : ∀ k, P k → Q k) : SpotP Q a n c := ⟨h.1, h.2.1, fun hn => ⟨(h.2.2.1 hn).1, hPQ _ (h.2.2.1 hn).2⟩, h.2.2.2⟩
theorem Sl.keepP {w w' : World} {A : Option Addr} {n cap : Nat} {xs : List Nat} (h : Sl w A n cap xs) (hs : w.heap.size ≤ w'.heap.size) (hk : 0 < n → w'.heap[blk A]? = w.heap[blk A]?) : Sl w' A n cap xs := by
  refine ⟨h.len, h.le, h.max, h.ok, fun hp => ?_, h.nil_⟩
  obtain ⟨b, off, rfl, hb, hc⟩ := h.here hp
  exact ⟨b, off, rfl, by omega, fun i hi => (World.cell?_of_block (w := w) (a := ⟨b, off + i, none⟩) (hk hp)).trans (hc i hi)⟩
mutual
theorem LiesP.keep {w w' : World} {P Q : Nat → Prop} (hs : w.heap.size ≤ w'.heap.size) (hk : ∀ k, P k → Q k ∧ w'.heap[k]? = w.heap[k]?) : ∀ (t : LT) (b o : Nat), LiesP w P t b o → LiesP w' Q t b o
  | .mk k g la ln lc ys bb s ia ic items ta tc tail, b, o, h => by
    simp only [LiesP] at h ⊢
    obtain ⟨h1, h2, h3, h4, h5, h6, h7⟩ := h
    exact ⟨(hk b h1).1, fun j v hj => (World.cell?_of_block (hk b h1).2).trans (h2 j v hj), ⟨h3.1.keepP hs (fun hp => (hk _ (h3.2.1 hp)).2), fun hp => (hk _ (h3.2.1 hp)).1, h3.2.2⟩, h4.mono (fun k h => (hk k h).1), h5.mono (fun k h => (hk k h).1), LiesPR.keep hs hk items _ _ h6, LiesPR.keep hs hk tail _ _ h7⟩
theorem LiesPR.keep {w w' : World} {P Q : Nat → Prop} (hs : w.heap.size ≤ w'.heap.size) (hk : ∀ k, P k → Q k ∧ w'.heap[k]? = w.heap[k]?) : ∀ (l : List LT) (b o : Nat), LiesPR w P l b o → LiesPR w' Q l b o
  | [], _, _, _ => by simp [LiesPR]
  | t :: l, b, o, h => by
    simp only [LiesPR] at h ⊢
    exact ⟨LiesP.keep hs hk t b o h.1, LiesPR.keep hs hk l b (o + 7) h.2⟩
end
theorem HeldP.keep {w w' : World} {P Q : Nat → Prop} {t : LT} (h : HeldP w P t) (hs : w.heap.size ≤ w'.heap.size) (hk : ∀ k, P k → Q k ∧ w'.heap[k]? = w.heap[k]?) : HeldP w' Q t :=
  ⟨⟨h.1.1.keepP hs (fun hp => (hk _ (h.1.2.1 hp)).2), fun hp => (hk _ (h.1.2.1 hp)).1, h.1.2.2⟩, h.2.1.mono (fun k h => (hk k h).1), h.2.2.1.mono (fun k h => (hk k h).1), LiesPR.keep hs hk _ _ _ h.2.2.2.1, LiesPR.keep hs hk _ _ _ h.2.2.2.2⟩
theorem SpotP.spot {P : Nat → Prop} {M : Nat} {a : Option Addr} {n c : Nat} (h : SpotP P a n c) (hP : ∀ k, P k → k < M) : Spot M a n c := ⟨h.1, h.2.1, fun hn => ⟨(h.2.2.1 hn).1, hP _ (h.2.2.1 hn).2⟩, h.2.2.2⟩
mutual
theorem LiesP.lies {w : World} {P : Nat → Prop} {M : Nat} (hP : ∀ k, P k → k < M) : ∀ (t : LT) (b o : Nat), LiesP w P t b o → Lies w M t b o
  | .mk k g la ln lc ys bb s ia ic items ta tc tail, b, o, h => by
    simp only [LiesP] at h
    simp only [Lies]
    obtain ⟨h1, h2, h3, h4, h5, h6, h7⟩ := h
    exact ⟨hP b h1, h2, ⟨h3.1, fun hp => hP _ (h3.2.1 hp), h3.2.2⟩, h4.spot hP, h5.spot hP, LiesPR.lies hP items _ _ h6, LiesPR.lies hP tail _ _ h7⟩
theorem LiesPR.lies {w : World} {P : Nat → Prop} {M : Nat} (hP : ∀ k, P k → k < M) : ∀ (l : List LT) (b o : Nat), LiesPR w P l b o → LiesR w M l b o
  | [], _, _, _ => by simp [LiesR]
  | t :: l, b, o, h => by
    simp only [LiesPR] at h
    simp only [LiesR]
    exact ⟨LiesP.lies hP t b o h.1, LiesPR.lies hP l b (o + 7) h.2⟩
end
theorem HeldP.held {w : World} {P : Nat → Prop} {M : Nat} {t : LT} (h : HeldP w P t) (hP : ∀ k, P k → k < M) : Held w M t :=
  ⟨⟨h.1.1, fun hp => hP _ (h.1.2.1 hp), h.1.2.2⟩, h.2.1.spot hP, h.2.2.1.spot hP, LiesPR.lies hP _ _ _ h.2.2.2.1, LiesPR.lies hP _ _ _ h.2.2.2.2⟩

/-- All of them are held in blocks of that sort. -/
def AllP (w : World) (P : Nat → Prop) (l : List LT) : Prop := ∀ t ∈ l, HeldP w P t
theorem AllP.keep {w w' : World} {P Q : Nat → Prop} {l : List LT} (h : AllP w P l) (hs : w.heap.size ≤ w'.heap.size) (hk : ∀ k, P k → Q k ∧ w'.heap[k]? = w.heap[k]?) : AllP w' Q l := fun t ht => (h t ht).keep hs hk
theorem AllP.snoc {w : World} {P : Nat → Prop} {l : List LT} {t : LT} (h : AllP w P l) (ht : HeldP w P t) : AllP w P (l ++ [t]) := by
  intro x hx
  rcases List.mem_append.1 hx with hx | hx
  · exact h x hx
  · rw [List.mem_singleton.1 hx]; exact ht
/-- A row's cells and what its data hold make it lie there. -/
theorem liesPR_of {w : World} {P : Nat → Prop} {g : Nat} (hg : P g) : ∀ (l : List LT) (o : Nat), AllP w P l → (∀ j v, (cellsAll l)[j]? = some v → w.cell? ⟨g, o + j, none⟩ = some v) → LiesPR w P l g o
  | [], _, _, _ => by rw [liesPR_nil]; trivial
  | t :: l, o, h, hc => by
    rw [liesPR_cons]
    refine ⟨liesP_held.2 ⟨hg, fun j v hj => hc j v ?_, h t (List.mem_cons_self ..)⟩, liesPR_of hg l (o + 7) (fun x hx => h x (List.mem_cons_of_mem _ hx)) fun j v hj => ?_⟩
    · have hlt : j < t.cells.length := (List.getElem?_eq_some_iff.1 hj).1
      rw [cellsAll, List.getElem?_append_left hlt]; exact hj
    · have := hc (7 + j) v (by rw [cellsAll, List.getElem?_append_right (by rw [show t.cells.length = 7 from rfl]; omega), show t.cells.length = 7 from rfl, show 7 + j - 7 = j by omega]; exact hj)
      rwa [show o + 7 + j = o + (7 + j) by omega]
end Go.Proofs.YtlohdglhebplfaaGreatDoor
