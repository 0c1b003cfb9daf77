/-
  pavaneref03.Small and Few of any tree.
-/
import Derived.Test.YtlohdglhebplfaaGreatDoorBud
namespace Go.Proofs.YtlohdglhebplfaaGreatDoor
open Go.RowKit

/-- A datum's value, open. -/
def LT.val (t : LT) : Value := .agg #[.int .i64 t.k, .bool t.g, .slice t.la t.ln t.lc, .bool t.bb, .string t.s, .slice t.ia t.items.length t.ic, .slice t.ta t.tail.length t.tc]

set_option maxRecDepth 100000 in
set_option maxHeartbeats 1600000 in
theorem small_any (M : Nat) (t : LT) (most deep : Int) (w : World) (hM : M ≤ w.heap.size) (hH : Held w M t) (hl0 : 0 ≤ most) (hl1 : most ≤ 1000000) (hd0 : 0 ≤ deep) (hd1 : deep ≤ 1000000) :
    Calls Tryz.prog 42 #[t.val, .int .i64 most, .int .i64 deep] w fun e w' => e = .returned (.bool (decide (0 ≤ budT t most deep))) ∧ Below w.heap.size w w' := by
  have hba : Below w.heap.size w (w.alloc (Obj.cells #[.int .i64 t.k, .bool t.g, .slice t.la t.ln t.lc, .bool t.bb, .string t.s, .slice t.ia t.items.length t.ic, .slice t.ta t.tail.length t.tc] 31)) := (Below.refl _ w).alloc (Nat.le_refl _) _
  have HC := Lib.hid (budget_ok M t.size t (Nat.le_refl _) most deep (w.alloc (Obj.cells #[.int .i64 t.k, .bool t.g, .slice t.la t.ln t.lc, .bool t.bb, .string t.s, .slice t.ia t.items.length t.ic, .slice t.ta t.tail.length t.tc] 31)) (Nat.le_trans hM hba.size) (hH.keep hba.size (fun q hq => hba.block q (by omega))) hl0 hl1 hd0 hd1)
  have HB := Lib.hid hba
  clear hba hH
  unfold LT.val
  generalize budT t most deep = r at *
  go_enter Tryz.func42, Tryz.ntmps42
  go_wp2_with fail
  refine HC.out.mono ?_
  rintro e w1 ⟨rfl, b1⟩
  go_wp2_with fail
  go_ret
  exact ⟨rfl, bnext HB.out b1⟩

set_option maxRecDepth 100000 in
set_option maxHeartbeats 1600000 in
theorem few_any (M : Nat) (t : LT) (w : World) (hM : M ≤ w.heap.size) (hH : Held w M t) :
    Calls Tryz.prog 44 #[t.val] w fun e w' => e = .returned (.bool (decide (0 ≤ budT t 100000 10000))) ∧ Below w.heap.size w w' := by
  have hba : Below w.heap.size w (w.alloc (Obj.cells #[.int .i64 t.k, .bool t.g, .slice t.la t.ln t.lc, .bool t.bb, .string t.s, .slice t.ia t.items.length t.ic, .slice t.ta t.tail.length t.tc] 31)) := (Below.refl _ w).alloc (Nat.le_refl _) _
  have HC := Lib.hid (budget_ok M t.size t (Nat.le_refl _) 100000 10000 (w.alloc (Obj.cells #[.int .i64 t.k, .bool t.g, .slice t.la t.ln t.lc, .bool t.bb, .string t.s, .slice t.ia t.items.length t.ic, .slice t.ta t.tail.length t.tc] 31)) (Nat.le_trans hM hba.size) (hH.keep hba.size (fun q hq => hba.block q (by omega))) (by decide) (by decide) (by decide) (by decide))
  have HB := Lib.hid hba
  clear hba hH
  unfold LT.val
  generalize budT t 100000 10000 = r at *
  go_enter Tryz.func44, Tryz.ntmps44
  go_wp2_with fail
  refine HC.out.mono ?_
  rintro e w1 ⟨rfl, b1⟩
  go_wp2_with fail
  go_ret
  exact ⟨rfl, bnext HB.out b1⟩

/-! ### what the count tells: how many, and how deep -/
mutual
theorem budT_few : ∀ (t : LT) (left deep : Int), 0 ≤ left → 0 ≤ budT t left deep → budT t left deep = left - t.size ∧ (t.depth : Int) ≤ deep
  | .mk k g la ln lc ys bb s ia ic items ta tc tail, left, deep, h, h2 => by
    rw [budT_eq] at h2 ⊢
    by_cases hx : left - 1 < 0 ∨ deep ≤ 0
    · rw [if_pos hx] at h2; omega
    · rw [if_neg hx] at h2 ⊢
      simp only [LT.items, LT.tail] at h2 ⊢
      have hneg : ¬ budR items (left - 1) (deep - 1) < 0 := by
        intro hn
        have hb := (budR_bd items (left - 1) (deep - 1) (by omega)).1
        rw [show budR items (left - 1) (deep - 1) = -1 by omega, budR_neg] at h2
        omega
      have h3 := budR_few items (left - 1) (deep - 1) (by omega) (by omega)
      have h4 := budR_few tail (budR items (left - 1) (deep - 1)) (deep - 1) (by omega) h2
      rw [h4.1, h3.1]
      have e1 : LT.size (.mk k g la ln lc ys bb s ia ic items ta tc tail) = 1 + (sizes items + sizes tail) := by simp [LT.size]
      have e2 : LT.depth (.mk k g la ln lc ys bb s ia ic items ta tc tail) = 1 + max (depths items) (depths tail) := by simp [LT.depth]
      rw [e1, e2]
      omega
theorem budR_few : ∀ (l : List LT) (left deep : Int), 0 ≤ left → 0 ≤ budR l left deep → budR l left deep = left - sizes l ∧ ((depths l : Int) ≤ max 0 deep)
  | [], left, deep, h, h2 => by
    rw [budR_nil]
    simp [sizes, depths]
    omega
  | t :: l, left, deep, h, h2 => by
    rw [budR_cons] at h2 ⊢
    by_cases hx : budT t left deep < 0
    · rw [if_pos hx] at h2; omega
    · rw [if_neg hx] at h2 ⊢
      have h3 := budT_few t left deep h (by omega)
      have h4 := budR_few l (budT t left deep) deep (by omega) h2
      rw [h4.1, h3.1]
      simp only [sizes, depths]
      omega
end
end Go.Proofs.YtlohdglhebplfaaGreatDoor
