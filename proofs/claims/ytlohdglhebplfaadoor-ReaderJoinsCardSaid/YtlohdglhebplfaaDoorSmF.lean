/-
  pavaneref03.Small and Few of any tree.
-/
import Derived.Test.YtlohdglhebplfaaDoorBud
namespace Go.Proofs.YtlohdglhebplfaaDoor
open Go.RowKit

/-- A datum's value, open. -/
def LT.val (t : LT) : Value := .agg #[.int .i64 t.k, .bool t.g, .slice t.la t.ln t.lc, .bool t.bb, .string t.s, .slice t.ia t.items.length t.ic, .slice t.ta t.tail.length t.tc]

/-! ### what the count tells: how many, and how deep -/
mutual
theorem budT_few : ∀ (t : LT) (left deep : Int), 0 ≤ left → 0 ≤ budT t left deep → budT t left deep = left - t.size ∧ (t.depth : Int) ≤ deep
  | .mk k g la ln lc ys bb s ia ic items ta tc tail, left, deep, h, h2 => by
    rw [budT_eq] at h2 ⊢
    by_cases hx : left - 1 < 0 ∨ deep ≤ 0
    · rw [if_pos hx] at h2; omega
    · rw [if_neg hx] at h2 ⊢
      simp only [LT.items, LT.tail] at h2 ⊢
      have hneg : ¬ budR items (left - 1) (deep - 1) < 0 := by
        intro hn
        have hb := (budR_bd items (left - 1) (deep - 1) (by omega)).1
        rw [show budR items (left - 1) (deep - 1) = -1 by omega, budR_neg] at h2
        omega
      have h3 := budR_few items (left - 1) (deep - 1) (by omega) (by omega)
      have h4 := budR_few tail (budR items (left - 1) (deep - 1)) (deep - 1) (by omega) h2
      rw [h4.1, h3.1]
      have e1 : LT.size (.mk k g la ln lc ys bb s ia ic items ta tc tail) = 1 + (sizes items + sizes tail) := by simp [LT.size]
      have e2 : LT.depth (.mk k g la ln lc ys bb s ia ic items ta tc tail) = 1 + max (depths items) (depths tail) := by simp [LT.depth]
      rw [e1, e2]
      omega
theorem budR_few : ∀ (l : List LT) (left deep : Int), 0 ≤ left → 0 ≤ budR l left deep → budR l left deep = left - sizes l ∧ ((depths l : Int) ≤ max 0 deep)
  | [], left, deep, h, h2 => by
    rw [budR_nil]
    simp [sizes, depths]
    omega
  | t :: l, left, deep, h, h2 => by
    rw [budR_cons] at h2 ⊢
    by_cases hx : budT t left deep < 0
    · rw [if_pos hx] at h2; omega
    · rw [if_neg hx] at h2 ⊢
      have h3 := budT_few t left deep h (by omega)
      have h4 := budR_few l (budT t left deep) deep (by omega) h2
      rw [h4.1, h3.1]
      simp only [sizes, depths]
      omega
end
end Go.Proofs.YtlohdglhebplfaaDoor
