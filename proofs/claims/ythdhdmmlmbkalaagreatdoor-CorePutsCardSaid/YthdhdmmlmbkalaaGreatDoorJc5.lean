/-
  Data without where they lie; Norm of them; data that lie in blocks of some sort alone. datum.normal of what is no list, of any shape. datum.normalList of any tree: what its loops know. Rows of a call's own as what a list holds. datum.twin's parts: slices.Clone of limbs; take.
-/
import Derived.Test.YthdhdmmlmbkalaaGreatDoorJc4
import Derived.Test.YthdhdmmlmbkalaaGreatDoorQNw
set_option linter.unusedVariables false
set_option linter.unusedSimpArgs false
set_option linter.unusedSectionVars false
set_option linter.unnecessarySimpa false
namespace Go.Proofs.YthdhdmmlmbkalaaGreatDoor
section
open Go.RowKit

inductive DT where
  | mk (k : Int) (g : Bool) (ys : List Nat) (bb : Bool) (s : ByteArray) (items tail : List DT) : DT
def DT.k : DT → Int | .mk k _ _ _ _ _ _ => k
mutual
def shape : LT → DT
  | .mk k g _ _ _ ys bb s _ _ items _ _ tail => .mk k g ys bb s (shapes items) (shapes tail)
def shapes : List LT → List DT
  | [] => []
  | t :: l => shape t :: shapes l
end
theorem shape_eq (t : LT) : shape t = .mk t.k t.g t.ys t.bb t.s (shapes t.items) (shapes t.tail) := by cases t; simp [shape, LT.k, LT.g, LT.ys, LT.bb, LT.s, LT.items, LT.tail]
theorem shapes_nil : shapes [] = [] := by simp [shapes]
theorem shapes_cons (t : LT) (l : List LT) : shapes (t :: l) = shape t :: shapes l := by simp [shapes]
theorem shapes_append (l m : List LT) : shapes (l ++ m) = shapes l ++ shapes m := by
  induction l with
  | nil => simp [shapes_nil]
  | cons t l ih => simp [shapes_cons, ih]
theorem shapes_length (l : List LT) : (shapes l).length = l.length := by
  induction l with
  | nil => simp [shapes_nil]
  | cons t l ih => simp [shapes_cons, ih]

/-- Norm of what is no list. -/
def leafD (k : Int) (g : Bool) (ys : List Nat) (bb : Bool) (s : ByteArray) : DT :=
  if k = 1 then .mk 1 (decide (zOf g (val ys) < 0)) (limbs (zOf g (val ys)).natAbs) false ⟨#[]⟩ [] []
  else if k = 2 then .mk 2 false [] bb ⟨#[]⟩ [] []
  else if k = 3 ∨ k = 4 then .mk k false [] false s [] []
  else .mk k false [] false ⟨#[]⟩ [] []
/-- A list of items, and of what stands behind a dot. -/
def closeD : List DT × Option DT → DT
  | (l, none) => .mk 5 false [] false ⟨#[]⟩ l []
  | ([], some e) => e
  | (x :: l, some e) => .mk 5 false [] false ⟨#[]⟩ (x :: l) [e]
mutual
/-- The items of a list and of the lists that are its tails, and what stands behind the last dot. -/
def spineT : LT → List DT × Option DT
  | .mk k g _ _ _ ys bb s _ _ items _ _ tail => if k = 5 then (normR items ++ (spineR tail).1, (spineR tail).2) else ([], some (leafD k g ys bb s))
def spineR : List LT → List DT × Option DT
  | [] => ([], none)
  | t :: _ => spineT t
def normR : List LT → List DT
  | [] => []
  | t :: l => closeD (spineT t) :: normR l
end
def normT (t : LT) : DT := closeD (spineT t)
theorem spineT_eq (t : LT) : spineT t = if t.k = 5 then (normR t.items ++ (spineR t.tail).1, (spineR t.tail).2) else ([], some (leafD t.k t.g t.ys t.bb t.s)) := by cases t; simp only [spineT]; rfl
theorem normR_nil : normR [] = [] := by simp [normR]
theorem normR_cons (t : LT) (l : List LT) : normR (t :: l) = normT t :: normR l := by simp [normR, normT]
theorem normR_append (l m : List LT) : normR (l ++ m) = normR l ++ normR m := by
  induction l with
  | nil => simp [normR_nil]
  | cons t l ih => simp [normR_cons, ih]
theorem spineR_nil : spineR [] = ([], none) := by simp [spineR]
theorem spineR_cons (t : LT) (l : List LT) : spineR (t :: l) = spineT t := by simp [spineR]
theorem normT_leaf (t : LT) (h : t.k ≠ 5) : normT t = leafD t.k t.g t.ys t.bb t.s := by rw [normT, spineT_eq, if_neg h]; rfl
theorem normT_list (t : LT) (h : t.k = 5) : normT t = closeD (normR t.items ++ (spineR t.tail).1, (spineR t.tail).2) := by rw [normT, spineT_eq, if_pos h]

def SpotP (P : Nat → Prop) (a : Option Addr) (n c : Nat) : Prop := n ≤ c ∧ c ≤ maxLen ∧ (0 < n → a = some ⟨blk a, ofs a, none⟩ ∧ P (blk a)) ∧ (a = none → c = 0)
mutual
/-- The datum lies there, in blocks of that sort. -/
def LiesP (w : World) (P : Nat → Prop) : LT → Nat → Nat → Prop
  | .mk k g la ln lc ys bb s ia ic items ta tc tail, b, o =>
    P b ∧ (∀ j v, (LT.cells (.mk k g la ln lc ys bb s ia ic items ta tc tail))[j]? = some v → w.cell? ⟨b, o + j, none⟩ = some v) ∧
      (Sl w la ln lc ys ∧ (0 < ln → P (blk la)) ∧ s.size ≤ maxLen) ∧ SpotP P ia items.length ic ∧ SpotP P ta tail.length tc ∧ LiesPR w P items (blk ia) (ofs ia) ∧ LiesPR w P tail (blk ta) (ofs ta)
def LiesPR (w : World) (P : Nat → Prop) : List LT → Nat → Nat → Prop
  | [], _, _ => True
  | t :: l, b, o => LiesP w P t b o ∧ LiesPR w P l b (o + 7)
end
theorem liesP_eq {w : World} {P : Nat → Prop} {t : LT} {b o : Nat} : LiesP w P t b o ↔
    (P b ∧ (∀ j v, t.cells[j]? = some v → w.cell? ⟨b, o + j, none⟩ = some v) ∧ (Sl w t.la t.ln t.lc t.ys ∧ (0 < t.ln → P (blk t.la)) ∧ t.s.size ≤ maxLen) ∧ SpotP P t.ia t.items.length t.ic ∧ SpotP P t.ta t.tail.length t.tc ∧
      LiesPR w P t.items (blk t.ia) (ofs t.ia) ∧ LiesPR w P t.tail (blk t.ta) (ofs t.ta)) := by
  cases t; simp [LiesP, LT.la, LT.ln, LT.lc, LT.ys, LT.s, LT.ia, LT.ic, LT.items, LT.ta, LT.tc, LT.tail]
theorem liesPR_nil {w : World} {P : Nat → Prop} {b o : Nat} : LiesPR w P [] b o = True := by simp [LiesPR]
theorem liesPR_cons {w : World} {P : Nat → Prop} {b o : Nat} {t : LT} {l : List LT} : LiesPR w P (t :: l) b o = (LiesP w P t b o ∧ LiesPR w P l b (o + 7)) := by simp [LiesPR]
/-- What a datum's value holds lies in blocks of that sort. -/
def HeldP (w : World) (P : Nat → Prop) (t : LT) : Prop := (Sl w t.la t.ln t.lc t.ys ∧ (0 < t.ln → P (blk t.la)) ∧ t.s.size ≤ maxLen) ∧ SpotP P t.ia t.items.length t.ic ∧ SpotP P t.ta t.tail.length t.tc ∧
  LiesPR w P t.items (blk t.ia) (ofs t.ia) ∧ LiesPR w P t.tail (blk t.ta) (ofs t.ta)
theorem liesP_held {w : World} {P : Nat → Prop} {t : LT} {b o : Nat} : LiesP w P t b o ↔ (P b ∧ (∀ j v, t.cells[j]? = some v → w.cell? ⟨b, o + j, none⟩ = some v) ∧ HeldP w P t) := liesP_eq

theorem SpotP.mono {P Q : Nat → Prop} {a : Option Addr} {n c : Nat} (h : SpotP P a n c) (hPQ : ∀ k, P k → Q k) : SpotP Q a n c := ⟨h.1, h.2.1, fun hn => ⟨(h.2.2.1 hn).1, hPQ _ (h.2.2.1 hn).2⟩, h.2.2.2⟩
theorem Sl.keepP {w w' : World} {A : Option Addr} {n cap : Nat} {xs : List Nat} (h : Sl w A n cap xs) (hs : w.heap.size ≤ w'.heap.size) (hk : 0 < n → w'.heap[blk A]? = w.heap[blk A]?) : Sl w' A n cap xs := by
  refine ⟨h.len, h.le, h.max, h.ok, fun hp => ?_, h.nil_⟩
  obtain ⟨b, off, rfl, hb, hc⟩ := h.here hp
  exact ⟨b, off, rfl, by omega, fun i hi => (World.cell?_of_block (w := w) (a := ⟨b, off + i, none⟩) (hk hp)).trans (hc i hi)⟩
mutual
theorem LiesP.keep {w w' : World} {P Q : Nat → Prop} (hs : w.heap.size ≤ w'.heap.size) (hk : ∀ k, P k → Q k ∧ w'.heap[k]? = w.heap[k]?) : ∀ (t : LT) (b o : Nat), LiesP w P t b o → LiesP w' Q t b o
  | .mk k g la ln lc ys bb s ia ic items ta tc tail, b, o, h => by
    simp only [LiesP] at h ⊢
    obtain ⟨h1, h2, h3, h4, h5, h6, h7⟩ := h
    exact ⟨(hk b h1).1, fun j v hj => (World.cell?_of_block (hk b h1).2).trans (h2 j v hj), ⟨h3.1.keepP hs (fun hp => (hk _ (h3.2.1 hp)).2), fun hp => (hk _ (h3.2.1 hp)).1, h3.2.2⟩, h4.mono (fun k h => (hk k h).1), h5.mono (fun k h => (hk k h).1), LiesPR.keep hs hk items _ _ h6, LiesPR.keep hs hk tail _ _ h7⟩
theorem LiesPR.keep {w w' : World} {P Q : Nat → Prop} (hs : w.heap.size ≤ w'.heap.size) (hk : ∀ k, P k → Q k ∧ w'.heap[k]? = w.heap[k]?) : ∀ (l : List LT) (b o : Nat), LiesPR w P l b o → LiesPR w' Q l b o
  | [], _, _, _ => by simp [LiesPR]
  | t :: l, b, o, h => by
    simp only [LiesPR] at h ⊢
    exact ⟨LiesP.keep hs hk t b o h.1, LiesPR.keep hs hk l b (o + 7) h.2⟩
end
theorem HeldP.keep {w w' : World} {P Q : Nat → Prop} {t : LT} (h : HeldP w P t) (hs : w.heap.size ≤ w'.heap.size) (hk : ∀ k, P k → Q k ∧ w'.heap[k]? = w.heap[k]?) : HeldP w' Q t :=
  ⟨⟨h.1.1.keepP hs (fun hp => (hk _ (h.1.2.1 hp)).2), fun hp => (hk _ (h.1.2.1 hp)).1, h.1.2.2⟩, h.2.1.mono (fun k h => (hk k h).1), h.2.2.1.mono (fun k h => (hk k h).1), LiesPR.keep hs hk _ _ _ h.2.2.2.1, LiesPR.keep hs hk _ _ _ h.2.2.2.2⟩
theorem SpotP.spot {P : Nat → Prop} {M : Nat} {a : Option Addr} {n c : Nat} (h : SpotP P a n c) (hP : ∀ k, P k → k < M) : Spot M a n c := ⟨h.1, h.2.1, fun hn => ⟨(h.2.2.1 hn).1, hP _ (h.2.2.1 hn).2⟩, h.2.2.2⟩
mutual
theorem LiesP.lies {w : World} {P : Nat → Prop} {M : Nat} (hP : ∀ k, P k → k < M) : ∀ (t : LT) (b o : Nat), LiesP w P t b o → Lies w M t b o
  | .mk k g la ln lc ys bb s ia ic items ta tc tail, b, o, h => by
    simp only [LiesP] at h
    simp only [Lies]
    obtain ⟨h1, h2, h3, h4, h5, h6, h7⟩ := h
    exact ⟨hP b h1, h2, ⟨h3.1, fun hp => hP _ (h3.2.1 hp), h3.2.2⟩, h4.spot hP, h5.spot hP, LiesPR.lies hP items _ _ h6, LiesPR.lies hP tail _ _ h7⟩
theorem LiesPR.lies {w : World} {P : Nat → Prop} {M : Nat} (hP : ∀ k, P k → k < M) : ∀ (l : List LT) (b o : Nat), LiesPR w P l b o → LiesR w M l b o
  | [], _, _, _ => by simp [LiesR]
  | t :: l, b, o, h => by
    simp only [LiesPR] at h
    simp only [LiesR]
    exact ⟨LiesP.lies hP t b o h.1, LiesPR.lies hP l b (o + 7) h.2⟩
end
theorem HeldP.held {w : World} {P : Nat → Prop} {M : Nat} {t : LT} (h : HeldP w P t) (hP : ∀ k, P k → k < M) : Held w M t :=
  ⟨⟨h.1.1, fun hp => hP _ (h.1.2.1 hp), h.1.2.2⟩, h.2.1.spot hP, h.2.2.1.spot hP, LiesPR.lies hP _ _ _ h.2.2.2.1, LiesPR.lies hP _ _ _ h.2.2.2.2⟩

/-- All of them are held in blocks of that sort. -/
def AllP (w : World) (P : Nat → Prop) (l : List LT) : Prop := ∀ t ∈ l, HeldP w P t
theorem AllP.keep {w w' : World} {P Q : Nat → Prop} {l : List LT} (h : AllP w P l) (hs : w.heap.size ≤ w'.heap.size) (hk : ∀ k, P k → Q k ∧ w'.heap[k]? = w.heap[k]?) : AllP w' Q l := fun t ht => (h t ht).keep hs hk
theorem AllP.snoc {w : World} {P : Nat → Prop} {l : List LT} {t : LT} (h : AllP w P l) (ht : HeldP w P t) : AllP w P (l ++ [t]) := by
  intro x hx
  rcases List.mem_append.1 hx with hx | hx
  · exact h x hx
  · rw [List.mem_singleton.1 hx]; exact ht
/-- A row's cells and what its data hold make it lie there. -/
theorem liesPR_of {w : World} {P : Nat → Prop} {g : Nat} (hg : P g) : ∀ (l : List LT) (o : Nat), AllP w P l → (∀ j v, (cellsAll l)[j]? = some v → w.cell? ⟨g, o + j, none⟩ = some v) → LiesPR w P l g o
  | [], _, _, _ => by rw [liesPR_nil]; trivial
  | t :: l, o, h, hc => by
    rw [liesPR_cons]
    refine ⟨liesP_held.2 ⟨hg, fun j v hj => hc j v ?_, h t (List.mem_cons_self ..)⟩, liesPR_of hg l (o + 7) (fun x hx => h x (List.mem_cons_of_mem _ hx)) fun j v hj => ?_⟩
    · have hlt : j < t.cells.length := (List.getElem?_eq_some_iff.1 hj).1
      rw [cellsAll, List.getElem?_append_left hlt]; exact hj
    · have := hc (7 + j) v (by rw [cellsAll, List.getElem?_append_right (by rw [show t.cells.length = 7 from rfl]; omega), show t.cells.length = 7 from rfl, show 7 + j - 7 = j by omega]; exact hj)
      rwa [show o + 7 + j = o + (7 + j) by omega]
end
end Go.Proofs.YthdhdmmlmbkalaaGreatDoor
namespace Go.Proofs.YthdhdmmlmbkalaaGreatDoor
section
open Go.RowKit

/-- A block at B or above, that is no row of bytes, and may be written. -/
def Fresh (w : World) (B k : Nat) : Prop := B ≤ k ∧ ∃ c T, w.heap[k]? = some (.cells c T (0, 0)) ∧ T ≠ 5 ∧ T ≠ 128
theorem Fresh.of {w : World} {B k : Nat} {c : Array Value} {T : TypeId} (hB : B ≤ k) (h : w.heap[k]? = some (.cells c T (0, 0))) (hT : T ≠ 5 ∧ T ≠ 128) : Fresh w B k := ⟨hB, _, _, h, hT⟩
theorem Fresh.free {w : World} {B k : Nat} (h : Fresh w B k) (o : Nat) : w.frozen? ⟨k, o, none⟩ = false := by
  obtain ⟨_, c, T, hx, _⟩ := h
  simp [World.frozen?, hx]
theorem Fresh.lt {w : World} {B k : Nat} (h : Fresh w B k) : k < w.heap.size := by
  obtain ⟨_, c, T, ho, _⟩ := h
  exact (Array.getElem?_eq_some_iff.1 ho).1
theorem Fresh.low {w : World} {B B' k : Nat} (h : Fresh w B k) (hB : B' ≤ B) : Fresh w B' k := ⟨Nat.le_trans hB h.1, h.2⟩
theorem Fresh.same {w w' : World} {B k : Nat} (h : Fresh w B k) (e : w'.heap[k]? = w.heap[k]?) : Fresh w' B k := ⟨h.1, by rw [e]; exact h.2⟩
theorem HeldP.below {w w' : World} {B B' : Nat} {t : LT} (h : HeldP w (Fresh w B) t) (hb : Below w.heap.size w w') (hB : B' ≤ B) : HeldP w' (Fresh w' B') t :=
  h.keep hb.size fun k hk => ⟨(hk.same (hb.block k hk.lt)).low hB, hb.block k hk.lt⟩
/-- Only blocks from L to U are other ones. -/
def Low (L U : Nat) (w w' : World) : Prop := w.heap.size ≤ w'.heap.size ∧ ∀ k, (k < L ∨ U ≤ k) → w'.heap[k]? = w.heap[k]?
theorem Low.refl (L U : Nat) (w : World) : Low L U w w := ⟨Nat.le_refl _, fun _ _ => rfl⟩
theorem Low.setCell {L U : Nat} {w w' : World} {p : Addr} (h : Low L U w w') (h1 : L ≤ p.block) (h2 : p.block < U) (v : Value) : Low L U w (w'.setCell p v) :=
  ⟨Nat.le_trans h.1 (KeepsWalks.setCell w' p v).size, fun k hk => (Below.heap_setCell _ _ _ _ (by omega)).trans (h.2 k hk)⟩
theorem HeldP.low {L U B : Nat} {w w' : World} {t : LT} (h : HeldP w (Fresh w U) t) (hl : Low L U w w') (hB : B ≤ U) : HeldP w' (Fresh w' B) t :=
  h.keep hl.1 fun k hk => ⟨(hk.same (hl.2 k (.inr hk.1))).low hB, hl.2 k (.inr hk.1)⟩
/-- What normal leaves. -/
def NPost (d : DT) (w : World) (e : Ending) (w' : World) : Prop := ∃ u : LT, e = .returned (.agg #[.int .i64 u.k, .bool u.g, .slice u.la u.ln u.lc, .bool u.bb, .string u.s, .slice u.ia u.items.length u.ic, .slice u.ta u.tail.length u.tc]) ∧ HeldP w' (Fresh w' w.heap.size) u ∧ shape u = d ∧ Below w.heap.size w w'
def plainT (k : Int) (g : Bool) (la : Option Addr) (ln lc : Nat) (ys : List Nat) (bb : Bool) (s : ByteArray) : LT := .mk k g la ln lc ys bb s none 0 [] none 0 []
theorem plainT_held {w : World} {P : Nat → Prop} {k : Int} {g bb : Bool} {la : Option Addr} {ln lc : Nat} {ys : List Nat} {s : ByteArray} (h : Sl w la ln lc ys ∧ (0 < ln → P (blk la)) ∧ s.size ≤ maxLen) : HeldP w P (plainT k g la ln lc ys bb s) :=
  ⟨h, ⟨by simp [plainT, LT.items, LT.ic], by simp [plainT, LT.ic], fun h => absurd h (by simp [plainT, LT.items]), fun _ => rfl⟩, ⟨by simp [plainT, LT.tail, LT.tc], by simp [plainT, LT.tc], fun h => absurd h (by simp [plainT, LT.tail]), fun _ => rfl⟩, by simp [plainT, LT.items, LiesPR], by simp [plainT, LT.tail, LiesPR]⟩
theorem plainT_shape (k : Int) (g : Bool) (la : Option Addr) (ln lc : Nat) (ys : List Nat) (bb : Bool) (s : ByteArray) : shape (plainT k g la ln lc ys bb s) = .mk k g ys bb s [] [] := by simp [plainT, shape, shapes]
theorem empty_le : (⟨#[]⟩ : ByteArray).size ≤ maxLen := by decide

set_option maxRecDepth 100000 in
set_option maxHeartbeats 3200000 in
theorem normal_23 (t : LT) (hk : t.k = 2 ∨ t.k = 3 ∨ t.k = 4) (hs : t.s.size ≤ maxLen) (w : World) : Calls Tryz.prog 112 #[.agg #[.int .i64 t.k, .bool t.g, .slice t.la t.ln t.lc, .bool t.bb, .string t.s, .slice t.ia t.items.length t.ic, .slice t.ta t.tail.length t.tc]] w (NPost (normT t) w) := by
  have hd : normT t = if t.k = 2 then .mk 2 false [] t.bb ⟨#[]⟩ [] [] else .mk t.k false [] false t.s [] [] := by
    rw [normT_leaf t (by omega)]
    unfold leafD
    rcases hk with h | h | h <;> simp [h]
  rw [hd]
  clear hd
  generalize t.k = k at *
  rcases hk with rfl | rfl | rfl
  all_goals
    go_enter Tryz.func112, Tryz.ntmps112
    go_wp2_with fail
    (try simp only [Exit.inBlock, Exit.then])
  · refine bodyPost_ret (v := .agg #[.int .i64 2, .bool false, .slice none 0 0, .bool t.bb, .string ⟨#[]⟩, .slice none 0 0, .slice none 0 0]) (results_d rfl rfl (by go_simp) (by go_simp) (by go_simp) (by go_simp) (by go_simp) (by go_simp) (by go_simp)) rfl ⟨plainT 2 false none 0 0 [] t.bb ⟨#[]⟩, rfl, plainT_held ⟨Sl.nil, fun h => absurd h (by decide), empty_le⟩, plainT_shape .., ?_⟩
    repeat (first | exact Below.refl _ _ | refine Below.setCell (hp := by first | (simp; done) | (simp; omega)) ?_ _ | refine Below.alloc ?_ (by first | (simp; done) | (simp; omega)) _)
  · refine bodyPost_ret (v := .agg #[.int .i64 3, .bool false, .slice none 0 0, .bool false, .string t.s, .slice none 0 0, .slice none 0 0]) (results_d rfl rfl (by go_simp) (by go_simp) (by go_simp) (by go_simp) (by go_simp) (by go_simp) (by go_simp)) rfl ⟨plainT 3 false none 0 0 [] false t.s, rfl, plainT_held ⟨Sl.nil, fun h => absurd h (by decide), hs⟩, plainT_shape .., ?_⟩
    repeat (first | exact Below.refl _ _ | refine Below.setCell (hp := by first | (simp; done) | (simp; omega)) ?_ _ | refine Below.alloc ?_ (by first | (simp; done) | (simp; omega)) _)
  · refine bodyPost_ret (v := .agg #[.int .i64 4, .bool false, .slice none 0 0, .bool false, .string t.s, .slice none 0 0, .slice none 0 0]) (results_d rfl rfl (by go_simp) (by go_simp) (by go_simp) (by go_simp) (by go_simp) (by go_simp) (by go_simp)) rfl ⟨plainT 4 false none 0 0 [] false t.s, rfl, plainT_held ⟨Sl.nil, fun h => absurd h (by decide), hs⟩, plainT_shape .., ?_⟩
    repeat (first | exact Below.refl _ _ | refine Below.setCell (hp := by first | (simp; done) | (simp; omega)) ?_ _ | refine Below.alloc ?_ (by first | (simp; done) | (simp; omega)) _)

set_option maxRecDepth 100000 in
set_option maxHeartbeats 3200000 in
theorem normal_other (t : LT) (h1 : t.k ≠ 1) (h2 : t.k ≠ 2) (h3 : t.k ≠ 3) (h4 : t.k ≠ 4) (h5 : t.k ≠ 5) (w : World) : Calls Tryz.prog 112 #[.agg #[.int .i64 t.k, .bool t.g, .slice t.la t.ln t.lc, .bool t.bb, .string t.s, .slice t.ia t.items.length t.ic, .slice t.ta t.tail.length t.tc]] w (NPost (normT t) w) := by
  have hd : normT t = .mk t.k false [] false ⟨#[]⟩ [] [] := by
    rw [normT_leaf t h5]
    unfold leafD
    rw [if_neg h1, if_neg h2, if_neg (by omega)]
  rw [hd]
  clear hd
  generalize t.k = k at *
  have e1 : (k == 1) = false := by simp [h1]
  have e2 : (k == 2) = false := by simp [h2]
  have e3 : (k == 3) = false := by simp [h3]
  have e4 : (k == 4) = false := by simp [h4]
  have e5 : (k == 5) = false := by simp [h5]
  go_enter Tryz.func112, Tryz.ntmps112
  go_wp2_with fail
  (try simp only [Exit.inBlock, Exit.then])
  refine bodyPost_ret (v := .agg #[.int .i64 k, .bool false, .slice none 0 0, .bool false, .string ⟨#[]⟩, .slice none 0 0, .slice none 0 0]) (results_d rfl rfl (by go_simp) (by go_simp) (by go_simp) (by go_simp) (by go_simp) (by go_simp) (by go_simp)) rfl ⟨plainT k false none 0 0 [] false ⟨#[]⟩, rfl, plainT_held ⟨Sl.nil, fun h => absurd h (by decide), empty_le⟩, plainT_shape .., ?_⟩
  repeat (first | exact Below.refl _ _ | refine Below.setCell (hp := by first | (simp; done) | (simp; omega)) ?_ _ | refine Below.alloc ?_ (by first | (simp; done) | (simp; omega)) _)

set_option maxRecDepth 100000 in
set_option maxHeartbeats 3200000 in
theorem normal_num (t : LT) (hk : t.k = 1) (hl : t.ln ≤ 35184372087808) (w : World) (hs : Sl w t.la t.ln t.lc t.ys) : Calls Tryz.prog 112 #[.agg #[.int .i64 t.k, .bool t.g, .slice t.la t.ln t.lc, .bool t.bb, .string t.s, .slice t.ia t.items.length t.ic, .slice t.ta t.tail.length t.tc]] w (NPost (normT t) w) := by
  have hd : normT t = .mk 1 (decide (zOf t.g (val t.ys) < 0)) (limbs (zOf t.g (val t.ys)).natAbs) false ⟨#[]⟩ [] [] := by
    rw [normT_leaf t (by omega)]
    unfold leafD
    rw [if_pos hk]
  rw [hd, hk]
  clear hd hk
  have HW := Lib.hid (fun W (hb : Below w.heap.size w W) => (⟨t.g, _, val t.ys, rfl, ⟨t.la, t.ln, t.lc, t.ys, rfl, hs.below hb, rfl, hl⟩, rfl⟩ : Wh W (.agg #[.bool t.g, .slice t.la t.ln t.lc]) (zOf t.g (val t.ys)) 35184372087808))
  clear hs
  go_enter Tryz.func112, Tryz.ntmps112
  go_wp2_with fail
  have hb3 : Below w.heap.size w (((w.alloc (Obj.cells #[.int .i64 1, .bool t.g, .slice t.la t.ln t.lc, .bool t.bb, .string t.s, .slice t.ia t.items.length t.ic, .slice t.ta t.tail.length t.tc] 27)).alloc (Obj.cells #[.int .i64 0, .bool false, .slice none 0 0, .bool false, .string ⟨#[]⟩, .slice none 0 0, .slice none 0 0] 27)).alloc (Obj.cells #[.int .i64 1, .bool false, .slice none 0 0, .bool false, .string ⟨#[]⟩, .slice none 0 0, .slice none 0 0] 27)) := (((Below.refl w.heap.size w).alloc (Nat.le_refl _) _).alloc (by simp) _).alloc (by simp; omega) _
  have hz3 : (((w.alloc (Obj.cells #[.int .i64 1, .bool t.g, .slice t.la t.ln t.lc, .bool t.bb, .string t.s, .slice t.ia t.items.length t.ic, .slice t.ta t.tail.length t.tc] 27)).alloc (Obj.cells #[.int .i64 0, .bool false, .slice none 0 0, .bool false, .string ⟨#[]⟩, .slice none 0 0, .slice none 0 0] 27)).alloc (Obj.cells #[.int .i64 1, .bool false, .slice none 0 0, .bool false, .string ⟨#[]⟩, .slice none 0 0, .slice none 0 0] 27)).heap.size = w.heap.size + 1 + 1 + 1 := by rw [World.size_alloc, World.size_alloc, World.size_alloc]
  have hr : (((w.alloc (Obj.cells #[.int .i64 1, .bool t.g, .slice t.la t.ln t.lc, .bool t.bb, .string t.s, .slice t.ia t.items.length t.ic, .slice t.ta t.tail.length t.tc] 27)).alloc (Obj.cells #[.int .i64 0, .bool false, .slice none 0 0, .bool false, .string ⟨#[]⟩, .slice none 0 0, .slice none 0 0] 27)).alloc (Obj.cells #[.int .i64 1, .bool false, .slice none 0 0, .bool false, .string ⟨#[]⟩, .slice none 0 0, .slice none 0 0] 27)).heap[w.heap.size + 1]? = some (Obj.cells #[.int .i64 0, .bool false, .slice none 0 0, .bool false, .string ⟨#[]⟩, .slice none 0 0, .slice none 0 0] 27) := (Below.heap_alloc _ _ _ (by simp)).trans (by have := World.alloc_heap_new (w.alloc (Obj.cells #[.int .i64 1, .bool t.g, .slice t.la t.ln t.lc, .bool t.bb, .string t.s, .slice t.ia t.items.length t.ic, .slice t.ta t.tail.length t.tc] 27)) (Obj.cells #[.int .i64 0, .bool false, .slice none 0 0, .bool false, .string ⟨#[]⟩, .slice none 0 0, .slice none 0 0] 27); rwa [World.size_alloc] at this)
  have ho : (((w.alloc (Obj.cells #[.int .i64 1, .bool t.g, .slice t.la t.ln t.lc, .bool t.bb, .string t.s, .slice t.ia t.items.length t.ic, .slice t.ta t.tail.length t.tc] 27)).alloc (Obj.cells #[.int .i64 0, .bool false, .slice none 0 0, .bool false, .string ⟨#[]⟩, .slice none 0 0, .slice none 0 0] 27)).alloc (Obj.cells #[.int .i64 1, .bool false, .slice none 0 0, .bool false, .string ⟨#[]⟩, .slice none 0 0, .slice none 0 0] 27)).heap[w.heap.size + 1 + 1]? = some (Obj.cells #[.int .i64 1, .bool false, .slice none 0 0, .bool false, .string ⟨#[]⟩, .slice none 0 0, .slice none 0 0] 27) := by
    have := World.alloc_heap_new ((w.alloc (Obj.cells #[.int .i64 1, .bool t.g, .slice t.la t.ln t.lc, .bool t.bb, .string t.s, .slice t.ia t.items.length t.ic, .slice t.ta t.tail.length t.tc] 27)).alloc (Obj.cells #[.int .i64 0, .bool false, .slice none 0 0, .bool false, .string ⟨#[]⟩, .slice none 0 0, .slice none 0 0] 27)) (Obj.cells #[.int .i64 1, .bool false, .slice none 0 0, .bool false, .string ⟨#[]⟩, .slice none 0 0, .slice none 0 0] 27)
    rwa [World.size_alloc, World.size_alloc] at this
  have H3 := Lib.hid (And.intro hb3 (And.intro hz3 (And.intro hr ho)))
  clear hb3 hz3 hr ho
  refine (wnorm_num (HW.out _ H3.out.1) (by decide)).mono ?_
  rintro e w1 ⟨v, rfl, ⟨x, rfl, A, n, c, rfl, hsl, hor⟩, b1⟩
  have hz1 : w.heap.size + 3 ≤ w1.heap.size := by have := b1.size; rw [H3.out.2.1] at this; omega
  have hr1 := (b1.block (w.heap.size + 1) (by rw [H3.out.2.1]; omega)).trans H3.out.2.2.1
  have ho1 := (b1.block (w.heap.size + 1 + 1) (by rw [H3.out.2.1]; omega)).trans H3.out.2.2.2
  have hb1 := H3.out.1.trans (b1.mono (by rw [H3.out.2.1]; omega))
  have hrs := fun j => Lib.cell_of_heap hr1 j
  have r0 := hrs 0; have r1 := hrs 1; have r2 := hrs 2; have r3 := hrs 3; have r4 := hrs 4; have r5 := hrs 5; have r6 := hrs 6
  have hrf := fun j => Lib.frozen_of_heap hr1 j
  have f0 := hrf 0; have f1 := hrf 1; have f2 := hrf 2; have f3 := hrf 3; have f4 := hrf 4; have f5 := hrf 5; have f6 := hrf 6
  have hos := fun j => Lib.cell_of_heap ho1 j
  have o0 := hos 0; have o1 := hos 1; have o2 := hos 2; have o3 := hos 3; have o4 := hos 4; have o5 := hos 5; have o6 := hos 6
  have hof := fun j => Lib.frozen_of_heap ho1 j
  have p1 := hof 1; have p2 := hof 2
  simp only [List.getElem?_toArray, List.getElem?_cons_zero, List.getElem?_cons_succ] at r0 r1 r2 r3 r4 r5 r6 o0 o1 o2 o3 o4 o5 o6
  rw [H3.out.2.1] at hor
  have HQ := Lib.hid (And.intro hsl (And.intro hor (And.intro hb1 hz1)))
  clear hrs hrf hos hof hr1 ho1 hb1 b1 hsl hor HW
  generalize hd0 : decide (zOf t.g (val t.ys) < 0) = dg at *
  generalize hl0 : limbs (zOf t.g (val t.ys)).natAbs = lz at *
  go_wp2_with fail
  (try simp only [Exit.inBlock, Exit.then])
  refine bodyPost_ret (v := .agg #[.int .i64 1, .bool dg, .slice A n c, .bool false, .string ⟨#[]⟩, .slice none 0 0, .slice none 0 0]) (results_d rfl rfl (by go_simp) (by go_simp) (by go_simp) (by go_simp) (by go_simp) (by go_simp) (by go_simp)) rfl ⟨plainT 1 dg A n c lz false ⟨#[]⟩, rfl, ?_, plainT_shape .., ?_⟩
  · refine HeldP.low (L := w.heap.size) (U := w.heap.size + 3) (w := w1) (plainT_held ⟨HQ.out.1, fun hp => ?_, empty_le⟩) (Low.setCell (p := ⟨w.heap.size + 1, 6, none⟩) (Low.setCell (p := ⟨w.heap.size + 1, 5, none⟩) (Low.setCell (p := ⟨w.heap.size + 1, 4, none⟩) (Low.setCell (p := ⟨w.heap.size + 1, 3, none⟩) (Low.setCell (p := ⟨w.heap.size + 1, 2, none⟩) (Low.setCell (p := ⟨w.heap.size + 1, 1, none⟩) (Low.setCell (p := ⟨w.heap.size + 1, 0, none⟩) (Low.setCell (p := ⟨w.heap.size + 1 + 1, 2, none⟩) (Low.setCell (p := ⟨w.heap.size + 1 + 1, 1, none⟩) (Low.refl w.heap.size (w.heap.size + 3) w1) (by show w.heap.size ≤ w.heap.size + 1 + 1; omega) (by show w.heap.size + 1 + 1 < w.heap.size + 3; omega) _) (by show w.heap.size ≤ w.heap.size + 1 + 1; omega) (by show w.heap.size + 1 + 1 < w.heap.size + 3; omega) _) (by show w.heap.size ≤ w.heap.size + 1; omega) (by show w.heap.size + 1 < w.heap.size + 3; omega) _) (by show w.heap.size ≤ w.heap.size + 1; omega) (by show w.heap.size + 1 < w.heap.size + 3; omega) _) (by show w.heap.size ≤ w.heap.size + 1; omega) (by show w.heap.size + 1 < w.heap.size + 3; omega) _) (by show w.heap.size ≤ w.heap.size + 1; omega) (by show w.heap.size + 1 < w.heap.size + 3; omega) _) (by show w.heap.size ≤ w.heap.size + 1; omega) (by show w.heap.size + 1 < w.heap.size + 3; omega) _) (by show w.heap.size ≤ w.heap.size + 1; omega) (by show w.heap.size + 1 < w.heap.size + 3; omega) _) (by show w.heap.size ≤ w.heap.size + 1; omega) (by show w.heap.size + 1 < w.heap.size + 3; omega) _) (by omega)
    rcases HQ.out.2.1 with ⟨h1, h2⟩ | ⟨g, cur, rfl, hg, hgc, _⟩
    · have h3 := HQ.out.1.le
      omega
    · exact Fresh.of hg hgc (by decide)
  · exact (Below.setCell (p := ⟨w.heap.size + 1, 6, none⟩) (hp := by show w.heap.size ≤ w.heap.size + 1; omega) (Below.setCell (p := ⟨w.heap.size + 1, 5, none⟩) (hp := by show w.heap.size ≤ w.heap.size + 1; omega) (Below.setCell (p := ⟨w.heap.size + 1, 4, none⟩) (hp := by show w.heap.size ≤ w.heap.size + 1; omega) (Below.setCell (p := ⟨w.heap.size + 1, 3, none⟩) (hp := by show w.heap.size ≤ w.heap.size + 1; omega) (Below.setCell (p := ⟨w.heap.size + 1, 2, none⟩) (hp := by show w.heap.size ≤ w.heap.size + 1; omega) (Below.setCell (p := ⟨w.heap.size + 1, 1, none⟩) (hp := by show w.heap.size ≤ w.heap.size + 1; omega) (Below.setCell (p := ⟨w.heap.size + 1, 0, none⟩) (hp := by show w.heap.size ≤ w.heap.size + 1; omega) (Below.setCell (p := ⟨w.heap.size + 1 + 1, 2, none⟩) (hp := by show w.heap.size ≤ w.heap.size + 1 + 1; omega) (Below.setCell (p := ⟨w.heap.size + 1 + 1, 1, none⟩) (hp := by show w.heap.size ≤ w.heap.size + 1 + 1; omega) (HQ.out.2.2.1) _) _) _) _) _) _) _) _) _)
end
end Go.Proofs.YthdhdmmlmbkalaaGreatDoor
namespace Go.Proofs.YthdhdmmlmbkalaaGreatDoor
section
open Go.RowKit

theorem normal_nl (t : LT) (h5 : t.k ≠ 5) (hl : t.ln ≤ 35184372087808) (hs : t.s.size ≤ maxLen) (w : World) (hsl : Sl w t.la t.ln t.lc t.ys) : Calls Tryz.prog 112 #[.agg #[.int .i64 t.k, .bool t.g, .slice t.la t.ln t.lc, .bool t.bb, .string t.s, .slice t.ia t.items.length t.ic, .slice t.ta t.tail.length t.tc]] w (NPost (normT t) w) := by
  by_cases h1 : t.k = 1
  · exact normal_num t h1 hl w hsl
  · by_cases h2 : t.k = 2 ∨ t.k = 3 ∨ t.k = 4
    · exact normal_23 t h2 hs w
    · exact normal_other t h1 (by omega) (by omega) (by omega) h5 w
mutual
/-- No number in it has more than 35184372087808 limbs. -/
def Tame : LT → Prop
  | .mk _ _ _ ln _ _ _ _ _ _ items _ _ tail => ln ≤ 35184372087808 ∧ TameR items ∧ TameR tail
def TameR : List LT → Prop
  | [] => True
  | t :: l => Tame t ∧ TameR l
end
theorem tame_eq (t : LT) : Tame t ↔ t.ln ≤ 35184372087808 ∧ TameR t.items ∧ TameR t.tail := by cases t; simp [Tame, LT.ln, LT.items, LT.tail]
theorem tameR_at : ∀ (l : List LT) (k : Nat) (h : k < l.length), TameR l → Tame l[k]
  | t :: l, 0, _, h => by simp only [TameR] at h; exact h.1
  | t :: l, k + 1, hk, h => by simp only [TameR] at h; exact tameR_at l k (by simpa using hk) h.2
theorem cells_news {w : World} {g : Nat} {u : LT} (h : w.heap[g]? = some (Obj.cells #[.int .i64 u.k, .bool u.g, .slice u.la u.ln u.lc, .bool u.bb, .string u.s, .slice u.ia u.items.length u.ic, .slice u.ta u.tail.length u.tc] 27)) : ∀ j v, u.cells[j]? = some v → w.cell? ((⟨g, 0, none⟩ : Addr).add j) = some v := by
  intro j v hv
  rw [cell_add, Nat.zero_add, Lib.cell_of_heap h]
  simpa [LT.cells] using hv
theorem lt_one (u : LT) : ∀ v ∈ u.cells, v.oneCell' = true := by
  intro v h
  simp only [LT.cells, List.mem_cons, List.mem_nil_iff, or_false] at h
  rcases h with rfl | rfl | rfl | rfl | rfl | rfl | rfl <;> rfl
def outC (V : Value) : Array Value := #[.int .i64 5, .bool false, .slice none 0 0, .bool false, .string ⟨#[]⟩, V, .slice none 0 0]
/-- The items so far. -/
def RowP (B : Nat) (V : Value) (ts : List LT) (wr : World) : Prop := wr.ownsRow (B + 3) 27 7 V ts.length (cellsAll ts) ∧ AllP wr (fun q => Fresh wr (B + 3) q ∧ V.ownBlock ≠ some q) ts
def NgRel (M B lim : Nat) (d : DT) (w : World) (q : Nat) (wr : World) : Prop :=
  ∃ (t : LT) (V : Value) (ts : List LT), t.size = q ∧ wr.heap[B]? = some (Obj.cells #[.int .i64 t.k, .bool t.g, .slice t.la t.ln t.lc, .bool t.bb, .string t.s, .slice t.ia t.items.length t.ic, .slice t.ta t.tail.length t.tc] 27) ∧ wr.heap[B + 1]? = some (Obj.cells #[.int .i64 0, .bool false, .slice none 0 0, .bool false, .string ⟨#[]⟩, .slice none 0 0, .slice none 0 0] 27) ∧ wr.heap[B + 1 + 1]? = some (.cells #[.int .i64 5, .bool false, .slice none 0 0, .bool false, .string ⟨#[]⟩, V, .slice none 0 0] 27 (0, 0)) ∧ RowP B V ts wr ∧
    Hid (closeD (shapes ts ++ (spineT t).1, (spineT t).2) = d) ∧ ts.length + t.size ≤ lim ∧ Hid (Held wr M t) ∧ Hid (Tame t) ∧ Below B w wr ∧ B + 3 ≤ wr.heap.size
def NiRel (M B lim : Nat) (t : LT) (d : DT) (w : World) (i : Value) (wr : World) : Prop :=
  ∃ (k : Nat) (V : Value) (ts : List LT), k ≤ t.items.length ∧ i = .int .i64 k ∧ wr.heap[B]? = some (Obj.cells #[.int .i64 t.k, .bool t.g, .slice t.la t.ln t.lc, .bool t.bb, .string t.s, .slice t.ia t.items.length t.ic, .slice t.ta t.tail.length t.tc] 27) ∧ wr.heap[B + 1]? = some (Obj.cells #[.int .i64 0, .bool false, .slice none 0 0, .bool false, .string ⟨#[]⟩, .slice none 0 0, .slice none 0 0] 27) ∧ wr.heap[B + 1 + 1]? = some (.cells #[.int .i64 5, .bool false, .slice none 0 0, .bool false, .string ⟨#[]⟩, V, .slice none 0 0] 27 (0, 0)) ∧ RowP B V ts wr ∧
    Hid (closeD (shapes ts ++ (normR (t.items.drop k) ++ (spineR t.tail).1), (spineR t.tail).2) = d) ∧ ts.length + (t.items.length - k) + sizes t.tail ≤ lim ∧ Hid (Held wr M t) ∧ Below B w wr ∧ B + 3 ≤ wr.heap.size

theorem ni_next {M B lim k gg cap : Nat} {t u' : LT} {d : DT} {ts : List LT} {w wr W6 w7 w8 : World} {o : Obj} {V : Value} (hk : k < t.items.length) (hM : M ≤ B)
    (hI : wr.heap[B]? = some (Obj.cells #[.int .i64 t.k, .bool t.g, .slice t.la t.ln t.lc, .bool t.bb, .string t.s, .slice t.ia t.items.length t.ic, .slice t.ta t.tail.length t.tc] 27) ∧ wr.heap[B + 1]? = some (Obj.cells #[.int .i64 0, .bool false, .slice none 0 0, .bool false, .string ⟨#[]⟩, .slice none 0 0, .slice none 0 0] 27) ∧ wr.heap[B + 1 + 1]? = some (.cells #[.int .i64 5, .bool false, .slice none 0 0, .bool false, .string ⟨#[]⟩, V, .slice none 0 0] 27 (0, 0)) ∧ Below B w wr ∧ Below wr.heap.size wr W6)
    (hR : RowP B V ts wr) (hu : HeldP w7 (Fresh w7 W6.heap.size) u') (hz6 : wr.heap.size < W6.heap.size) (hH : Held wr M t) (hsz : B + 3 ≤ wr.heap.size) (c7 : Below W6.heap.size W6 w7) (hg : (w7.alloc o).grownBy w8 V.ownBlock) (hat : V.ownBlock = some gg ∨ gg = w7.heap.size + 1)
    (own8 : w8.ownsRow (B + 3) 27 7 (.slice (some ⟨gg, 0, none⟩) (ts.length + 1) cap) (ts.length + 1) (cellsAll ts ++ u'.cells))
    (hd : closeD (shapes ts ++ (normR (t.items.drop k) ++ (spineR t.tail).1), (spineR t.tail).2) = d) (hsh : shape u' = normT t.items[k]) (hl : ts.length + (t.items.length - k) + sizes t.tail ≤ lim) (z : Int) (hz : z = ((k + 1 : Nat) : Int)) :
    NiRel M B lim t d w (.int .i64 z) (w8.setCell ⟨B + 1 + 1, 5, none⟩ (.slice (some ⟨gg, 0, none⟩) (ts.length + 1) cap)) := by
  subst hz
  obtain ⟨h0, h1, h2, hbel, hb6⟩ := hI
  have hV : ∀ g, V.ownBlock = some g → B + 3 ≤ g ∧ g < wr.heap.size := fun g h => hR.1.lt g h
  have s6 := hb6.size
  have s7 := c7.size
  have s8 := hg.size
  have hs7 : (w7.alloc o).heap.size = w7.heap.size + 1 := World.size_alloc ..
  have s9 := (KeepsWalks.setCell w8 ⟨B + 1 + 1, 5, none⟩ (.slice (some ⟨gg, 0, none⟩) (ts.length + 1) cap)).size
  have hat8 : ∀ i, i < w7.heap.size → V.ownBlock ≠ some i → w8.heap[i]? = w7.heap[i]? := fun i hi hne => (hg.block i (by omega) (fun e => hne e.symm)).trans (Below.heap_alloc w7 o i hi)
  have hat0 : ∀ i, i < wr.heap.size → V.ownBlock ≠ some i → w8.heap[i]? = wr.heap[i]? := fun i hi hne => (hat8 i (by omega) hne).trans ((c7.block i (by omega)).trans (hb6.block i hi))
  have hlow : ∀ i, i < B + 3 → w8.heap[i]? = wr.heap[i]? := fun i hi => hat0 i (by omega) (fun e => by have := (hV i e).1; omega)
  have hset : ∀ i, i ≠ B + 1 + 1 → (w8.setCell ⟨B + 1 + 1, 5, none⟩ (.slice (some ⟨gg, 0, none⟩) (ts.length + 1) cap)).heap[i]? = w8.heap[i]? := fun i hi => Below.heap_setCell _ _ _ _ hi
  have hdr := List.drop_eq_getElem_cons hk
  refine ⟨k + 1, .slice (some ⟨gg, 0, none⟩) (ts.length + 1) cap, ts ++ [u'], by omega, rfl, ?_, ?_, ?_, ⟨?_, ?_⟩, ?_, ?_, ?_, ?_, ?_⟩
  · exact (hset _ (by omega)).trans ((hlow _ (by omega)).trans h0)
  · exact (hset _ (by omega)).trans ((hlow _ (by omega)).trans h1)
  · have h3 := (hlow (B + 1 + 1) (by omega)).trans h2
    simp [World.setCell, Array.getElem?_modify, h3]
  · rw [List.length_append, cellsAll_append, show cellsAll [u'] = u'.cells from List.append_nil _]
    exact ownsRow_setCell_below own8 (a := ⟨B + 1 + 1, 5, none⟩) (by show B + 1 + 1 < B + 3; omega) _
  · refine AllP.snoc (AllP.keep hR.2 (by omega) fun q hq => ?_) (hu.keep (by omega) fun q hq => ?_)
    · have hqlt := hq.1.lt
      have hq3 := hq.1.1
      have e : (w8.setCell ⟨B + 1 + 1, 5, none⟩ (.slice (some ⟨gg, 0, none⟩) (ts.length + 1) cap)).heap[q]? = wr.heap[q]? := (hset q (by omega)).trans (hat0 q hqlt hq.2)
      refine ⟨⟨hq.1.same e, fun h => ?_⟩, e⟩
      obtain rfl : gg = q := Option.some.inj h
      rcases hat with h | h
      · exact hq.2 h
      · omega
    · have hqlt := hq.lt
      have hq6 := hq.1
      have hne : V.ownBlock ≠ some q := fun h => by have := (hV q h).2; omega
      have e : (w8.setCell ⟨B + 1 + 1, 5, none⟩ (.slice (some ⟨gg, 0, none⟩) (ts.length + 1) cap)).heap[q]? = w7.heap[q]? := (hset q (by omega)).trans (hat8 q hqlt hne)
      refine ⟨⟨(hq.same e).low (by omega), fun h => ?_⟩, e⟩
      obtain rfl : gg = q := Option.some.inj h
      rcases hat with h | h
      · exact hne h
      · omega
  · refine Lib.hid ?_
    rw [← hd, hdr, normR_cons, shapes_append, shapes_cons, shapes_nil, hsh]
    simp
  · rw [List.length_append, List.length_singleton]; omega
  · exact Lib.hid (hH.keep (by omega) fun q hq => (hset q (by omega)).trans (hlow q (by omega)))
  · have hgb : Below B (w7.alloc o) w8 := (Below.refl B _).grown hg (by omega) (fun i hi => by have := hV i hi; omega)
    have h7 : Below B w7 (w7.alloc o) := (Below.refl B w7).alloc (by omega) o
    exact ((((hbel.trans (hb6.mono (by omega))).trans (c7.mono (by omega))).trans h7).trans hgb).setCell (p := ⟨B + 1 + 1, 5, none⟩) (by show B ≤ B + 1 + 1; omega) _
  · omega
end
end Go.Proofs.YthdhdmmlmbkalaaGreatDoor
namespace Go.Proofs.YthdhdmmlmbkalaaGreatDoor
section
open Go.RowKit

def rowT (ia : Option Addr) (ic : Nat) (ts : List LT) (ta : Option Addr) (tc : Nat) (tl : List LT) : LT := .mk 5 false none 0 0 [] false ⟨#[]⟩ ia ic ts ta tc tl
theorem rowT_shape (ia : Option Addr) (ic : Nat) (ts : List LT) (ta : Option Addr) (tc : Nat) (tl : List LT) : shape (rowT ia ic ts ta tc tl) = .mk 5 false [] false ⟨#[]⟩ (shapes ts) (shapes tl) := by simp [rowT, shape]
theorem rowT_held {w : World} {P : Nat → Prop} {ia : Option Addr} {ic : Nat} {ts : List LT} {ta : Option Addr} {tc : Nat} {tl : List LT} (h1 : SpotP P ia ts.length ic) (h2 : LiesPR w P ts (blk ia) (ofs ia)) (h3 : SpotP P ta tl.length tc) (h4 : LiesPR w P tl (blk ta) (ofs ta)) : HeldP w P (rowT ia ic ts ta tc tl) :=
  ⟨⟨Sl.nil, fun h => absurd h (by simp [rowT, LT.ln]), empty_le⟩, h1, h3, h2, h4⟩
theorem row_parts {B : Nat} {V : Value} {ts : List LT} {wr : World} (h : RowP B V ts wr) : ∃ ia ic, V = .slice ia ts.length ic ∧ SpotP (Fresh wr (B + 3)) ia ts.length ic ∧ LiesPR wr (Fresh wr (B + 3)) ts (blk ia) (ofs ia) := by
  obtain ⟨hown, hall⟩ := h
  have hc := hown.2
  rcases hc with ⟨hv, h0⟩ | ⟨g, c, cur, hv, hg, hgc, h1, h2, _⟩
  · obtain rfl : ts = [] := List.length_eq_zero_iff.1 h0
    exact ⟨none, 0, hv, ⟨Nat.le_refl _, Nat.zero_le _, fun h => absurd h (by simp), fun _ => rfl⟩, by rw [liesPR_nil]; trivial⟩
  · have hf : Fresh wr (B + 3) g := Fresh.of hg hgc (by decide)
    refine ⟨some ⟨g, 0, none⟩, c, hv, ⟨h1, h2, fun _ => ⟨rfl, hf⟩, fun e => by cases e⟩, liesPR_of hf ts 0 (hall.keep (Nat.le_refl _) fun q hq => ⟨hq.1, rfl⟩) fun j v hj => ?_⟩
    have h3 := hown.cells (g := g) (by rw [hv]; rfl) j v hj
    rw [cell_add] at h3
    exact h3
theorem spotP_nil (P : Nat → Prop) : SpotP P none 0 0 := ⟨Nat.le_refl _, Nat.zero_le _, fun h => absurd h (by simp), fun _ => rfl⟩
theorem set7 {w : World} {B : Nat} {c0 c1 c2 c3 c4 c5 c6 v0 v1 v2 v3 v4 v5 v6 : Value} {T : TypeId} {fr : Nat × Nat} (h : w.heap[B]? = some (.cells #[c0, c1, c2, c3, c4, c5, c6] T fr)) :
    (((((((w.setCell ⟨B, 0, none⟩ v0).setCell ⟨B, 1, none⟩ v1).setCell ⟨B, 2, none⟩ v2).setCell ⟨B, 3, none⟩ v3).setCell ⟨B, 4, none⟩ v4).setCell ⟨B, 5, none⟩ v5).setCell ⟨B, 6, none⟩ v6).heap[B]? = some (.cells #[v0, v1, v2, v3, v4, v5, v6] T fr) := by
  simp [World.setCell, Array.getElem?_modify, h]
theorem set7_other {w : World} {B k : Nat} {v0 v1 v2 v3 v4 v5 v6 : Value} (hk : k ≠ B) :
    (((((((w.setCell ⟨B, 0, none⟩ v0).setCell ⟨B, 1, none⟩ v1).setCell ⟨B, 2, none⟩ v2).setCell ⟨B, 3, none⟩ v3).setCell ⟨B, 4, none⟩ v4).setCell ⟨B, 5, none⟩ v5).setCell ⟨B, 6, none⟩ v6).heap[k]? = w.heap[k]? := by
  rw [Below.heap_setCell _ _ _ _ (by show k ≠ B; exact hk), Below.heap_setCell _ _ _ _ (by show k ≠ B; exact hk), Below.heap_setCell _ _ _ _ (by show k ≠ B; exact hk), Below.heap_setCell _ _ _ _ (by show k ≠ B; exact hk), Below.heap_setCell _ _ _ _ (by show k ≠ B; exact hk), Below.heap_setCell _ _ _ _ (by show k ≠ B; exact hk), Below.heap_setCell _ _ _ _ (by show k ≠ B; exact hk)]
theorem set7_below {w a : World} {B L : Nat} {v0 v1 v2 v3 v4 v5 v6 : Value} (h : Below L a w) (hB : L ≤ B) :
    Below L a (((((((w.setCell ⟨B, 0, none⟩ v0).setCell ⟨B, 1, none⟩ v1).setCell ⟨B, 2, none⟩ v2).setCell ⟨B, 3, none⟩ v3).setCell ⟨B, 4, none⟩ v4).setCell ⟨B, 5, none⟩ v5).setCell ⟨B, 6, none⟩ v6) :=
  ((((((h.setCell (p := ⟨B, 0, none⟩) hB v0).setCell (p := ⟨B, 1, none⟩) hB v1).setCell (p := ⟨B, 2, none⟩) hB v2).setCell (p := ⟨B, 3, none⟩) hB v3).setCell (p := ⟨B, 4, none⟩) hB v4).setCell (p := ⟨B, 5, none⟩) hB v5).setCell (p := ⟨B, 6, none⟩) hB v6
theorem set7_low {w a : World} {B L U : Nat} {v0 v1 v2 v3 v4 v5 v6 : Value} (h : Low L U a w) (h1 : L ≤ B) (h2 : B < U) :
    Low L U a (((((((w.setCell ⟨B, 0, none⟩ v0).setCell ⟨B, 1, none⟩ v1).setCell ⟨B, 2, none⟩ v2).setCell ⟨B, 3, none⟩ v3).setCell ⟨B, 4, none⟩ v4).setCell ⟨B, 5, none⟩ v5).setCell ⟨B, 6, none⟩ v6) :=
  ((((((h.setCell (p := ⟨B, 0, none⟩) h1 h2 v0).setCell (p := ⟨B, 1, none⟩) h1 h2 v1).setCell (p := ⟨B, 2, none⟩) h1 h2 v2).setCell (p := ⟨B, 3, none⟩) h1 h2 v3).setCell (p := ⟨B, 4, none⟩) h1 h2 v4).setCell (p := ⟨B, 5, none⟩) h1 h2 v5).setCell (p := ⟨B, 6, none⟩) h1 h2 v6
theorem _root_.Go.World.ownsRow.kept_low {B U size n : Nat} {w w' : World} {e : TypeId} {v : Value} {xs : List Value} {L : Nat} (h : w.ownsRow B e size v n xs) (hU : U ≤ B) (hl : Low L U w w') : w'.ownsRow B e size v n xs := by
  refine ⟨h.1, ?_⟩
  rcases h.2 with h1 | ⟨g, c, cur, hv, hg, hgc, rest⟩
  · exact .inl h1
  · exact .inr ⟨g, c, cur, hv, hg, (hl.2 g (.inr (by omega))).trans hgc, rest⟩
theorem close_none (l : List DT) : closeD (l, none) = .mk 5 false [] false ⟨#[]⟩ l [] := by cases l <;> rfl
theorem close_some (l : List DT) (e : DT) (h : l ≠ []) : closeD (l, some e) = .mk 5 false [] false ⟨#[]⟩ l [e] := by
  cases l with
  | nil => exact absurd rfl h
  | cons x l => rfl
end
end Go.Proofs.YthdhdmmlmbkalaaGreatDoor
namespace Go.Proofs.YthdhdmmlmbkalaaGreatDoor
section
open Go.RowKit

theorem own_lit0' (w : World) (base : Nat) (hb : base ≤ w.heap.size) : Own (w.alloc (.cells #[] 149)) base (.slice (some ⟨w.heap.size, 0, none⟩) 0 0) [] :=
  ⟨Ok.nil, World.ownsRow_lit (base := base) (size := 1) w #[] 0 hb (by unfold maxLen; omega) rfl⟩
set_option maxRecDepth 100000 in
theorem nil_yes (w : World) : (binOp .eql 22 (.slice none 0 0) (.slice none 0 0)).run Tryz.prog w = .ok (.bool true) w := by
  first | rfl | kernel_rfl
set_option maxRecDepth 100000 in
theorem nil_no (ad : Addr) (n c : Nat) (w : World) : (binOp .eql 22 (.slice (some ad) n c) (.slice none 0 0)).run Tryz.prog w = .ok (.bool false) w := by
  first | rfl | kernel_rfl
/-- What Clone leaves. -/
def CPost (n : Nat) (xs : List Nat) (w : World) (e : Ending) (w' : World) : Prop := ∃ A c, e = .returned (.slice A n c) ∧ Sl w' A n c xs ∧ (0 < n → Fresh w' w.heap.size (blk A)) ∧ Below w.heap.size w w'
set_option maxHeartbeats 800000 in
theorem clone_any (A : Option Addr) (n cap : Nat) (xs : List Nat) (w : World) (h : Sl w A n cap xs) (hn : n ≤ 35184372087808) :
    Calls Tryz.prog 143 #[.slice A n cap] w (CPost n xs w) := by
  have hm := h.max
  have hl := h.le
  unfold maxLen at hm
  obtain ⟨i0, hi, hz0, hz1, hz2⟩ := info_parts info32
  cases A with
  | none =>
    have hc0 := h.nil_ rfl
    subst hc0
    obtain rfl : n = 0 := by omega
    have H := Lib.hid h
    clear h
    have hnil := nil_yes w
    go_enter Tryz.func143, Tryz.ntmps143
    go_wp2_with fail
    go_ret
    exact ⟨none, 0, rfl, H.out, fun h => absurd h (by decide), Below.refl _ _⟩
  | some ad =>
    have H := Lib.hid h
    have H2 := Lib.hid (h.alloc (.cells #[] 149))
    clear h
    have ho := own_lit0' w w.heap.size (Nat.le_refl _)
    have hnil := nil_no ad n cap w
    go_enter Tryz.func143, Tryz.ntmps143
    go_wp2_with (at_builtin; refine wpList_append_limbs rfl (.tmp 5) (.tmp 6) rfl i0 Tryz.underlying22 hi hz0 hz1 hz2 w.heap.size _ [] rfl ho _ _ _ _ rfl H2.out (by simp; omega) (by simp) ?_; intro v' w1 hown1 hg1; have HO := Lib.hid (And.intro hown1 hg1); clear hown1 hg1)
    go_ret
    have hnew := HO.out.1.new
    rw [List.nil_append] at hnew
    obtain ⟨A', n', c', rfl, hs, hf⟩ := hnew
    obtain rfl : n' = n := by rw [hs.len, H.out.len]
    refine ⟨A', c', rfl, hs, fun hp => ?_, ((Below.refl _ _).alloc (Nat.le_refl _) _).grown HO.out.2 (by simp) (fun j hj => by have h9 : some w.heap.size = some j := hj; injection h9 with h9; omega)⟩
    rcases hf with ⟨_, h0⟩ | ⟨g, cur, rfl, hg, hgc, _⟩
    · have := hs.le; omega
    · exact Fresh.of hg hgc (by decide)

theorem wpList_append_room {P : Program} {w : World} {ops : Array Oper} {rest : List Oper} {o : Oper} {a : Act} {Q : Exit → Act → World → Prop} (hgd : o.guard = none) (s x : Operand) (t : TypeId)
    (ho : o.op = .call { callee := .builtin .append, args := #[s, x], argTypes := #[t, t] }) (e : TypeId) (i : TypeInfo) (ht : P.underlying t = some (.slice e)) (hi : P.info? e = some i)
    (g sLen sCap : Nat) (cur : Array Value) (hg : w.heap[g]? = some (.cells cur e (0, 0))) (hs : a.eval s = .slice (some ⟨g, 0, none⟩) sLen sCap)
    (ad : Addr) (m c : Nat) (news : List Value) (hx : a.eval x = .slice (some ad) m c) (hl : news.length = m * i.size) (hnews : ∀ j u, news[j]? = some u → w.cell? (ad.add j) = some u) (h1 : ∀ u ∈ news, u.oneCell' = true)
    (hroom : sLen + m ≤ sCap) (hfit : sLen * i.size + news.length ≤ cur.size)
    (h : ∀ w', w' = w.setRow g (cur.toList.take (sLen * i.size) ++ news ++ cur.toList.drop (sLen * i.size + news.length)).toArray → wpList P ops Q rest (a.put o.dst (.slice (some ⟨g, 0, none⟩) (sLen + m) sCap)) w') : wpList P ops Q (o :: rest) a w := by
  refine wpList_plain hgd fun K hK => ?_
  have hrun := run_append_room (P := P) w t o.type e i ht hi g sLen sCap cur hg ad m c news hl hnews h1 hroom hfit
  unfold Oper.wp
  generalize (w.setRow g (cur.toList.take (sLen * i.size) ++ news ++ cur.toList.drop (sLen * i.size + news.length)).toArray) = w9 at h hrun
  simp [execOp, ho, resolve, invoke, builtin, hs, hx, hrun, Result.andThen]
  exact hK _ _ (h w9 rfl)

theorem setRow_other (w : World) (g k : Nat) (X : Array Value) (h : k ≠ g) : (w.setRow g X).heap[k]? = w.heap[k]? := by
  simp [World.setRow, Array.getElem?_modify, Ne.symm h]
/-- The block g with these cells from the n-th datum on. -/
def fillAt (cur : Array Value) (n : Nat) (news : List Value) : Array Value := (cur.toList.take (n * 7) ++ news ++ cur.toList.drop (n * 7 + news.length)).toArray
set_option maxRecDepth 100000 in
set_option maxHeartbeats 1600000 in
theorem take_some (R g n cap m c : Nat) (ad : Addr) (cur : Array Value) (news : List Value) (w : World) (hm : 0 < m) (hR : w.cell? ⟨R, 0, none⟩ = some (.slice (some ⟨g, 0, none⟩) n cap)) (hf : w.frozen? ⟨R, 0, none⟩ = false) (hRg : R ≠ g)
    (hg : w.heap[g]? = some (.cells cur 27 (0, 0))) (hcur : cur.size = cap * 7) (hroom : n + m ≤ cap) (hcap : cap ≤ 1000000000) (hl : news.length = m * 7) (hnews : ∀ j u, news[j]? = some u → w.cell? (ad.add j) = some u) (h1 : ∀ u ∈ news, u.oneCell' = true) :
    Calls Tryz.prog 141 #[.slice (some ad) m c, .pointer (some ⟨R, 0, none⟩)] w fun e w' => e = .returned (.slice (some ⟨g, n * 7, none⟩) m m) ∧ w' = (w.setRow g (fillAt cur n news)).setCell ⟨R, 0, none⟩ (.slice (some ⟨g, 0, none⟩) (n + m) cap) := by
  obtain ⟨i0, hi0, hz0, hz1, hz2⟩ := info_parts infoD
  have hmz : (((m : Nat) : Int) == 0) = false := beq_eq_false_iff_ne.2 (by omega)
  have hRc : ∀ X, (w.setRow g X).cell? ⟨R, 0, none⟩ = some (.slice (some ⟨g, 0, none⟩) n cap) := fun X => (World.cell?_of_block (w := w) (a := ⟨R, 0, none⟩) (setRow_other w g R X hRg)).trans hR
  have hRf : ∀ X, (w.setRow g X).frozen? ⟨R, 0, none⟩ = false := fun X => (World.frozen?_of_block (w := w) (a := ⟨R, 0, none⟩) (setRow_other w g R X hRg)).trans hf
  have HR := Lib.hid (And.intro hRc hRf)
  unfold fillAt
  clear hRc hRf
  have HH := Lib.hid (And.intro hg (And.intro hcur (And.intro hl (And.intro hnews h1))))
  clear hg hcur hl hnews h1
  go_enter Tryz.func141, Tryz.ntmps141
  go_wp2_with (at_builtin; refine wpList_append_room rfl (.tmp 10) (.tmp 11) 25 rfl 27 i0 Tryz.underlying25 hi0 g n cap cur HH.out.1 rfl ad m c news rfl (by rw [hz1]; exact HH.out.2.2.1) HH.out.2.2.2.1 HH.out.2.2.2.2 hroom (by rw [hz1, HH.out.2.1, HH.out.2.2.1]; omega) ?_; intro w9 hw9; have hRc : w9.cell? ⟨R, 0, none⟩ = some (.slice (some ⟨g, 0, none⟩) n cap) := (by rw [hw9]; exact HR.out.1 _); have hRf : w9.frozen? ⟨R, 0, none⟩ = false := (by rw [hw9]; exact HR.out.2 _); have HW9 := Lib.hid hw9; clear hw9)
  go_ret
  refine ⟨?_, ?_⟩
  · simp
  · rw [HW9.out, hz1]

set_option maxRecDepth 100000 in
theorem take_none (R c : Nat) (a : Option Addr) (w : World) : Calls Tryz.prog 141 #[.slice a 0 c, .pointer (some ⟨R, 0, none⟩)] w fun e w' => e = .returned (.slice none 0 0) ∧ w' = w := by
  go_enter Tryz.func141, Tryz.ntmps141
  go_wp2_with fail
  go_ret
  exact ⟨rfl, rfl⟩
end
end Go.Proofs.YthdhdmmlmbkalaaGreatDoor
