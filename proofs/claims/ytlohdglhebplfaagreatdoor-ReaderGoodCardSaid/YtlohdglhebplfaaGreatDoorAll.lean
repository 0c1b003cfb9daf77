/-
  pavaneref03.All of any tree: the data in the order of Walk, in a list of the call's own.
-/
import Derived.Test.YtlohdglhebplfaaGreatDoorSmF
import Derived.Test.YtlohdglhebplfaaGreatDoorNl
namespace Go.Proofs.YtlohdglhebplfaaGreatDoor
open Go.RowKit

mutual
def allT : LT → List LT
  | .mk k g la ln lc ys bb s ia ic items ta tc tail => .mk k g la ln lc ys bb s ia ic items ta tc tail :: (allR items ++ allR tail)
def allR : List LT → List LT
  | [] => []
  | t :: l => allT t ++ allR l
end
theorem allT_eq (t : LT) : allT t = t :: (allR t.items ++ allR t.tail) := by cases t; simp [allT, LT.items, LT.tail]
theorem allR_cons (t : LT) (l : List LT) : allR (t :: l) = allT t ++ allR l := by simp [allR]
theorem allR_nil : allR [] = [] := by simp [allR]
mutual
theorem allT_length : ∀ t : LT, (allT t).length = t.size
  | .mk k g la ln lc ys bb s ia ic items ta tc tail => by
    have h1 := allR_length items
    have h2 := allR_length tail
    rw [allT_eq, LT.size_eq]
    simp only [List.length_cons, List.length_append, LT.items, LT.tail]
    omega
theorem allR_length : ∀ l : List LT, (allR l).length = sizes l
  | [] => by simp [allR, sizes]
  | t :: l => by
    have h1 := allT_length t
    have h2 := allR_length l
    simp only [allR_cons, List.length_append, sizes]
    omega
end
def cellsAll : List LT → List Value
  | [] => []
  | t :: l => t.cells ++ cellsAll l
theorem cellsAll_append (l m : List LT) : cellsAll (l ++ m) = cellsAll l ++ cellsAll m := by induction l with | nil => rfl | cons t l ih => simp [cellsAll, ih]
theorem cellsAll_length (l : List LT) : (cellsAll l).length = l.length * 7 := by
  induction l with
  | nil => rfl
  | cons t l ih => simp only [cellsAll, List.length_append, ih, List.length_cons]; rw [show t.cells.length = 7 from rfl]; omega
theorem cellsAll_one : ∀ (l : List LT), ∀ u ∈ cellsAll l, u.oneCell' = true
  | [], u, h => by simp [cellsAll] at h
  | t :: l, u, h => by
    simp only [cellsAll, List.mem_append] at h
    rcases h with h | h
    · simp only [LT.cells, List.mem_cons, List.mem_nil_iff, or_false] at h
      rcases h with rfl | rfl | rfl | rfl | rfl | rfl | rfl <;> rfl
    · exact cellsAll_one l u h
def restA (t : LT) (j : Nat) : List LT := match j with | 0 => allR t.items ++ allR t.tail | 1 => allR t.tail | _ => []
theorem restA_step (t : LT) (j : Nat) (hj : j < 2) : restA t j = allR (listB t j) ++ restA t (j + 1) := by
  rcases (show j = 0 ∨ j = 1 by omega) with rfl | rfl
  · rfl
  · exact (List.append_nil _).symm
theorem own_open7 {w : World} {base size n : Nat} {e : TypeId} {v : Value} {xs : List Value} (h : w.ownsRow base e size v n xs) (hn : 1 ≤ n) : ∃ gb c, v = .slice (some ⟨gb, 0, none⟩) n c ∧ base ≤ gb := by
  rcases h.2 with ⟨_, h0⟩ | ⟨gb, c, cur, hv, hb, hg, h1, h2, _⟩
  · omega
  · exact ⟨gb, c, hv, hb⟩

end Go.Proofs.YtlohdglhebplfaaGreatDoor
