/-
  What a shape tells: depth, and that words are not too long; a row of data made by a call.
-/
import Derived.Test.YtgboiopkihemaaaMak
namespace Go.Proofs.Ytgboiopkihemaaa
open Go.RowKit

mutual
def depthD : DT → Nat
  | .mk _ _ _ _ _ items tail => 1 + max (depthsD items) (depthsD tail)
def depthsD : List DT → Nat
  | [] => 0
  | t :: l => max (depthD t) (depthsD l)
end
mutual
theorem depthD_shape : ∀ t : LT, depthD (shape t) = t.depth
  | .mk k g la ln lc ys bb s ia ic items ta tc tail => by
    have h1 := depthsD_shapes items
    have h2 := depthsD_shapes tail
    simp only [shape, depthD, LT.depth, h1, h2]
theorem depthsD_shapes : ∀ l : List LT, depthsD (shapes l) = depths l
  | [] => by simp [shapes, depthsD, depths]
  | t :: l => by
    have h1 := depthD_shape t
    have h2 := depthsD_shapes l
    simp only [shapes, depthsD, depths, h1, h2]
end
mutual
def tameD : DT → Prop
  | .mk _ _ ys _ _ items tail => ys.length ≤ 1000 ∧ tamesD items ∧ tamesD tail
def tamesD : List DT → Prop
  | [] => True
  | t :: l => tameD t ∧ tamesD l
end
mutual
theorem tame_lies {w : World} {M : Nat} : ∀ (t : LT) (b o : Nat), Lies w M t b o → (Tame t ↔ tameD (shape t))
  | .mk k g la ln lc ys bb s ia ic items ta tc tail, b, o, h => by
    simp only [Lies] at h
    obtain ⟨h1, h2, h3, h4, h5, h6, h7⟩ := h
    have e1 := tames_lies items _ _ h6
    have e2 := tames_lies tail _ _ h7
    have e3 := h3.1.len
    simp only [Tame, shape, tameD, e1, e2, e3]
theorem tames_lies {w : World} {M : Nat} : ∀ (l : List LT) (b o : Nat), LiesR w M l b o → (TameR l ↔ tamesD (shapes l))
  | [], _, _, _ => by simp [TameR, shapes, tamesD]
  | t :: l, b, o, h => by
    simp only [LiesR] at h
    have e1 := tame_lies t b o h.1
    have e2 := tames_lies l b (o + 7) h.2
    simp only [TameR, shapes, tamesD, e1, e2]
end
theorem tame_held {w : World} {M : Nat} {t : LT} (h : Held w M t) : Tame t ↔ tameD (shape t) := by
  have e1 := tames_lies t.items _ _ h.2.2.2.1
  have e2 := tames_lies t.tail _ _ h.2.2.2.2
  have e3 := h.1.1.len
  rw [tame_eq, shape_eq]
  simp only [tameD, e1, e2, e3]
/-- What has the shape of one that is not too long is not too long either. -/
theorem tame_same {w w' : World} {M N : Nat} {t u : LT} (h : Held w M t) (h' : Held w' N u) (hs : shape u = shape t) (hT : Tame t) : Tame u := by
  rw [tame_held h', hs, ← tame_held h]
  exact hT
theorem size_same {t u : LT} (hs : shape u = shape t) : u.size = t.size := by rw [← sizeD_shape, hs, sizeD_shape]
theorem depth_same {t u : LT} (hs : shape u = shape t) : u.depth = t.depth := by rw [← depthD_shape, hs, depthD_shape]
theorem rowL_size (a : Option Addr) (c : Nat) (l : List LT) : (rowL a c l).size = 1 + sizes l := by simp [rowL, LT.size, sizes]
theorem rowL_depth (a : Option Addr) (c : Nat) (l : List LT) : (rowL a c l).depth = 1 + depths l := by simp [rowL, LT.depth, depths]
theorem rowL_tame (a : Option Addr) (c : Nat) (l : List LT) : Tame (rowL a c l) ↔ TameR l := by simp [rowL, Tame, TameR]
/-- A row that a call wrote out. -/
theorem rowL_held {M D : Nat} {l : List LT} {W : World} {T : TypeId} {fr : Nat × Nat} (hD : M ≤ D) (h : W.heap[D]? = some (.cells (cellsAll l).toArray T fr)) (hn : l.length ≤ 100) (hl : ∀ x ∈ l, Held W M x) : Held W (D + 1) (rowL (some ⟨D, 0, none⟩) l.length l) := by
  refine ⟨⟨Sl.nil, fun h => absurd h (Nat.lt_irrefl _), empty_le⟩, ⟨Nat.le_refl _, by show l.length ≤ maxLen; unfold maxLen; omega, fun _ => ⟨rfl, by show D < D + 1; omega⟩, fun h => by cases h⟩, ⟨Nat.le_refl _, by show 0 ≤ maxLen; decide, fun h => absurd h (Nat.lt_irrefl _), fun _ => rfl⟩, ?_, ?_⟩
  · show LiesR W (D + 1) l D 0
    refine (liesR_iff _ _ _).2 fun i hi => lies_held.2 ⟨by omega, fun j v hj => ?_, (hl _ (List.getElem_mem hi)).upP (by omega)⟩
    have hj7 : j < 7 := (List.getElem?_eq_some_iff.1 hj).1
    rw [Lib.cell_of_heap h, List.getElem?_toArray, show 0 + 7 * i + j = i * 7 + j by omega, cellsAll_at' l i hi j hj7]
    exact hj
  · show LiesR W (D + 1) [] _ _
    simp [LiesR]
end Go.Proofs.Ytgboiopkihemaaa
