/-
  What of a datum by itself Good asks: as a proposition.
-/
import Derived.Test.YtgboiopkihemaaaDt
namespace Go.Proofs.Ytgboiopkihemaaa
open Go.RowKit

def goodI (g : Bool) (ys : List Nat) : Bool := if ys.length = 0 then !g else decide (lim ys (ys.length - 1) ≠ 0)
/-- What Good asks of a datum by itself. -/
structure GoodA (t : LT) : Prop where
  num : t.k ≠ 1 → t.g = false ∧ t.ys = []
  bool : t.k ≠ 2 → t.bb = false
  str : t.k ≠ 3 → t.k ≠ 4 → t.s = ⟨#[]⟩
  list : t.k ≠ 5 → t.items = [] ∧ t.tail = []
  norm : t.k = 1 → goodI t.g t.ys = true
  tail : t.k = 5 → t.tail = [] ∨ (t.items ≠ [] ∧ ∃ u, t.tail = [u] ∧ u.k ≠ 5)
end Go.Proofs.Ytgboiopkihemaaa
