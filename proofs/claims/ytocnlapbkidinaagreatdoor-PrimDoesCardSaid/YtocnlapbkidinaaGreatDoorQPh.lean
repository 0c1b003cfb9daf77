/-
  Drawn regions in two parts, over what the slice of trees holds.
-/
import Derived.Test.YtocnlapbkidinaaGreatDoorPn7
import Derived.Test.YtocnlapbkidinaaGreatDoorQPrs
set_option linter.unusedVariables false
set_option linter.unusedSimpArgs false
set_option linter.unusedSectionVars false
set_option linter.unnecessarySimpa false
namespace Go.Proofs.YtocnlapbkidinaaGreatDoor
open Go.RowKit

theorem exec_call_const {P : Program} {a : Act} {w : World} {o : Oper} {f : Nat} {T : TypeId} {c : Value} (ho : o.op = .call { callee := .value (.func f), args := #[.const c], argTypes := #[T] }) :
    (execOp a.eval o).run P w = (callFunc f #[c]).run P w := by
  simp [execOp, ho, Act.eval, go_sem]
end Go.Proofs.YtocnlapbkidinaaGreatDoor
