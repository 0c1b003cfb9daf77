/-
  pavaneref03.budget of any tree: how many data there are, counted down.
-/
import Derived.Test.YtlohdglhebplfaaDoorOd
import Derived.OwnWalk
namespace Go.Proofs.YtlohdglhebplfaaDoor
open Go.RowKit

mutual
def budT : LT → Int → Int → Int
  | .mk _ _ _ _ _ _ _ _ _ _ items _ _ tail, left, deep => if left - 1 < 0 ∨ deep ≤ 0 then -1 else budR tail (budR items (left - 1) (deep - 1)) (deep - 1)
def budR : List LT → Int → Int → Int
  | [], left, _ => left
  | t :: l, left, deep => if budT t left deep < 0 then -1 else budR l (budT t left deep) deep
end
theorem budT_eq (t : LT) (left deep : Int) : budT t left deep = if left - 1 < 0 ∨ deep ≤ 0 then -1 else budR t.tail (budR t.items (left - 1) (deep - 1)) (deep - 1) := by cases t; simp [budT, LT.items, LT.tail]
theorem budR_cons (t : LT) (l : List LT) (left deep : Int) : budR (t :: l) left deep = if budT t left deep < 0 then -1 else budR l (budT t left deep) deep := by simp [budR]
theorem budR_nil (left deep : Int) : budR [] left deep = left := by simp [budR]
theorem budR_neg (l : List LT) (deep : Int) : budR l (-1) deep = -1 := by
  cases l with
  | nil => exact budR_nil _ _
  | cons t l =>
    have : budT t (-1) deep = -1 := by rw [budT_eq, if_pos (.inl (by decide))]
    rw [budR_cons, this, if_pos (by decide)]
mutual
theorem budT_bd : ∀ (t : LT) (left deep : Int), 0 ≤ left → -1 ≤ budT t left deep ∧ budT t left deep ≤ left
  | .mk k g la ln lc ys bb s ia ic items ta tc tail, left, deep, h => by
    rw [budT_eq]
    by_cases hx : left - 1 < 0 ∨ deep ≤ 0
    · rw [if_pos hx]; omega
    · rw [if_neg hx]
      have h1 := budR_bd items (left - 1) (deep - 1) (by omega)
      have h2 := budR_bd tail (budR items (left - 1) (deep - 1)) (deep - 1) (by omega)
      simp only [LT.items, LT.tail]
      omega
theorem budR_bd : ∀ (l : List LT) (left deep : Int), -1 ≤ left → -1 ≤ budR l left deep ∧ budR l left deep ≤ left
  | [], left, deep, h => by rw [budR_nil]; omega
  | t :: l, left, deep, h => by
    by_cases hl : left = -1
    · subst hl; rw [budR_neg]; omega
    · have h1 := budT_bd t left deep (by omega)
      rw [budR_cons]
      by_cases hx : budT t left deep < 0
      · rw [if_pos hx]; omega
      · rw [if_neg hx]
        have h2 := budR_bd l (budT t left deep) deep (by omega)
        omega
end
/-- What is left to count. -/
def restB (t : LT) (d : Int) (j : Nat) (L : Int) : Int := match j with | 0 => budR t.tail (budR t.items L d) d | 1 => budR t.tail L d | _ => L
def listB (t : LT) (j : Nat) : List LT := match j with | 0 => t.items | _ => t.tail
theorem restB_step (t : LT) (d : Int) (j : Nat) (hj : j < 2) (L : Int) : restB t d j L = restB t d (j + 1) (budR (listB t j) L d) := by
  rcases (show j = 0 ∨ j = 1 by omega) with rfl | rfl <;> rfl
theorem restB_neg (t : LT) (d : Int) (j : Nat) (hj : j < 2) : restB t d (j + 1) (-1) = -1 := by
  rcases (show j = 0 ∨ j = 1 by omega) with rfl | rfl
  · exact budR_neg _ _
  · rfl
theorem Held.keep {w w' : World} {M : Nat} {t : LT} (h : Held w M t) (hs : w.heap.size ≤ w'.heap.size) (hk : ∀ k, k < M → w'.heap[k]? = w.heap[k]?) : Held w' M t :=
  ⟨⟨h.1.1.keepM hs h.1.2.1 hk, h.1.2⟩, h.2.1, h.2.2.1, h.2.2.2.1.keep hs hk, h.2.2.2.2.keep hs hk⟩
theorem sizes_mem {l : List LT} {k : Nat} (h : k < l.length) : l[k].size ≤ sizes l := by
  induction l generalizing k with
  | nil => simp at h
  | cons t l ih =>
    simp only [sizes]
    cases k with
    | zero => simp
    | succ k =>
      have := ih (k := k) (by simpa using h)
      simp only [List.getElem_cons_succ]
      omega

end Go.Proofs.YtlohdglhebplfaaDoor
