/-
  datum.normalList of any tree: the walk.
-/
import Derived.Test.YthdhdmmlmbkalaaGreatDoorJr4
set_option linter.unusedVariables false
set_option linter.unusedSimpArgs false
set_option linter.unusedSectionVars false
set_option linter.unnecessarySimpa false
namespace Go.Proofs.YthdhdmmlmbkalaaGreatDoor
open Go.RowKit

end Go.Proofs.YthdhdmmlmbkalaaGreatDoor
