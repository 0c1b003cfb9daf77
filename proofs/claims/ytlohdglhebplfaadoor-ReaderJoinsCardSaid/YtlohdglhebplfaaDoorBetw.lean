/-
  write.between, write.Quote: a text between two marks.
-/
import Derived.Test.YtlohdglhebplfaaDoorEsc
namespace Go.Proofs.YtlohdglhebplfaaDoor
open Go.RowKit

def escs (M : Nat) : List UInt8 → List UInt8
  | [] => []
  | c :: l => esc M c.toNat ++ escs M l
theorem escs_append (M : Nat) (l m : List UInt8) : escs M (l ++ m) = escs M l ++ escs M m := by induction l with | nil => rfl | cons c l ih => simp [escs, ih]
theorem escs_length (M : Nat) (l : List UInt8) : l.length ≤ (escs M l).length ∧ (escs M l).length ≤ 5 * l.length := by
  induction l with
  | nil => simp [escs]
  | cons c l ih => have := esc_length M c.toNat; simp only [escs, List.length_append, List.length_cons]; omega
def betw (M : Nat) (l : List UInt8) : List UInt8 := by8 M :: (escs M l ++ [by8 M])
theorem take_snoc8 (s : ByteArray) (k : Nat) (h : k < s.size) : s.data.toList.take (k + 1) = s.data.toList.take k ++ [s[k]] := by
  rw [List.take_succ_eq_append_getElem (by simpa using h)]; rfl

end Go.Proofs.YtlohdglhebplfaaDoor
