/-
  What PrimTells asks: light of two data; eqB both ways.
-/
import Derived.Test.YtocnlapbkidinaaGreatDoorPl1
import Derived.Test.YtocnlapbkidinaaGreatDoorQPtl
set_option linter.unusedVariables false
set_option linter.unusedSimpArgs false
set_option linter.unusedSectionVars false
set_option linter.unnecessarySimpa false
namespace Go.Proofs.YtocnlapbkidinaaGreatDoor
open Go.RowKit
set_option maxRecDepth 100000

theorem spot_upQ {M N : Nat} {a : Option Addr} {n c : Nat} (h : Spot M a n c) (hMN : M ≤ N) : Spot N a n c := ⟨h.1, h.2.1, fun hp => ⟨(h.2.2.1 hp).1, Nat.lt_of_lt_of_le (h.2.2.1 hp).2 hMN⟩, h.2.2.2⟩
mutual
theorem lies_upQ {w : World} {M N : Nat} (hMN : M ≤ N) : ∀ (t : LT) (b o : Nat), Lies w M t b o → Lies w N t b o
  | .mk k g la ln lc ys bb s ia ic items ta tc tail, b, o, h => by
    simp only [Lies] at h ⊢
    obtain ⟨h1, h2, h3, h4, h5, h6, h7⟩ := h
    exact ⟨by omega, h2, ⟨h3.1, fun hp => Nat.lt_of_lt_of_le (h3.2.1 hp) hMN, h3.2.2⟩, spot_upQ h4 hMN, spot_upQ h5 hMN, liesR_upQ hMN _ _ _ h6, liesR_upQ hMN _ _ _ h7⟩
theorem liesR_upQ {w : World} {M N : Nat} (hMN : M ≤ N) : ∀ (l : List LT) (b o : Nat), LiesR w M l b o → LiesR w N l b o
  | [], _, _, _ => by simp [LiesR]
  | t :: l, b, o, h => by
    simp only [LiesR] at h ⊢
    exact ⟨lies_upQ hMN t b o h.1, liesR_upQ hMN l b (o + 7) h.2⟩
end
theorem held_upQ {w : World} {M N : Nat} {t : LT} (h : Held w M t) (hMN : M ≤ N) : Held w N t := ⟨⟨h.1.1, fun hp => Nat.lt_of_lt_of_le (h.1.2.1 hp) hMN, h.1.2.2⟩, spot_upQ h.2.1 hMN, spot_upQ h.2.2.1 hMN, liesR_upQ hMN _ _ _ h.2.2.2.1, liesR_upQ hMN _ _ _ h.2.2.2.2⟩
theorem held_onQ {w w' : World} {t : LT} (h : Held w w.heap.size t) (hb : Below w.heap.size w w') : Held w' w'.heap.size t := held_upQ (h.below (Nat.le_refl _) hb) hb.size
theorem eqB_comm (a b : LT) : eqB a b = eqB b a := by
  unfold eqB
  by_cases h : a.k = b.k
  · have e1 : ¬ (a.k ≠ b.k) := by simp [h]
    have e2 : ¬ (b.k ≠ a.k) := by simp [h]
    rw [if_neg e1, if_neg e2, h, sameB_comm a b, Bool.and_comm (decide (a.items.length = 0))]
  · rw [if_pos h, if_pos (Ne.symm h)]
theorem light_few {t : LT} (h : lightX t = true) : t.size ≤ 100 ∧ t.depth ≤ 30 := by
  unfold lightX at h
  simp only [Bool.and_eq_true, decide_eq_true_eq] at h
  have := budT_few t 100 30 (by decide) h.1.1
  omega
/-- Two data in a row, as a call's own. -/
def rowO (x y : LT) : Obj := .cells #[.int .i64 x.k, .bool x.g, .slice x.la x.ln x.lc, .bool x.bb, .string x.s, .slice x.ia x.items.length x.ic, .slice x.ta x.tail.length x.tc, .int .i64 y.k, .bool y.g, .slice y.la y.ln y.lc, .bool y.bb, .string y.s, .slice y.ia y.items.length y.ic, .slice y.ta y.tail.length y.tc] 29
theorem pair_lies (x y : LT) (w : World) (hA : Held w w.heap.size x) (hB : Held w w.heap.size y) : LiesR (w.alloc (rowO x y)) (w.heap.size + 1) [x, y] w.heap.size 0 := by
  have hR : RowAt (w.alloc (rowO x y)) w.heap.size 0 [x, y] := row2_new x y w
  have hb : Below w.heap.size w (w.alloc (rowO x y)) := (Below.refl _ _).alloc (Nat.le_refl _) _
  have p1 := held_onQ hA hb
  have p2 := held_onQ hB hb
  rw [World.size_alloc] at p1 p2
  rw [liesR_cons, liesR_cons, liesR_nil]
  exact ⟨lies_held.2 ⟨Nat.lt_succ_self _, hR.first, p1⟩, lies_held.2 ⟨Nat.lt_succ_self _, hR.second, p2⟩, trivial⟩
theorem light_pair (x y : LT) (w : World) (hA : Held w w.heap.size x) (hB : Held w w.heap.size y) :
    Calls Tryz.prog 6 #[.slice (some ⟨w.heap.size, 0, none⟩) 2 2] (w.alloc (rowO x y)) fun e w' => e = .returned (.bool (lightX x && lightX y)) ∧ Below w.heap.size w w' := by
  have hb : Below w.heap.size w (w.alloc (rowO x y)) := (Below.refl _ _).alloc (Nat.le_refl _) _
  have := light9_any (w.heap.size + 1) (some ⟨w.heap.size, 0, none⟩) 2 [x, y] _ (by rw [World.size_alloc]; omega) (by simp) ⟨Nat.le_refl _, by simp [maxLen], fun _ => ⟨rfl, Nat.lt_succ_self _⟩, fun h => by cases h⟩ (pair_lies x y w hA hB)
  refine this.mono ?_
  rintro e w' ⟨rfl, h⟩
  refine ⟨?_, hb.trans (h.mono hb.size)⟩
  simp only [List.all_cons, List.all_nil, Bool.and_true]
end Go.Proofs.YtocnlapbkidinaaGreatDoor
