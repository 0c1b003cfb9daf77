/-
  DERIVED. GIVEN WITH THE SEED: THE CARDS: each row of YtocnlapbkidinaaGreatDoorRows.lean that lists a variable, with what it lists TIED to the program's text (the seventh form; the later family's looks); each row that meets fmt, with fmt's text TOLD by the authors' own Lean function (tested against real Go, not proved from fmt's source: count such statements apart). THE CARD IS WHAT COUNTS. Prove the row's statement (the work); the ties are given (YtocnlapbkidinaaGreatDoorTie.lean); close each card by the builder's one call (the guide's Derived/Test/ToyasCard.lean, 'card_holds'). Laid BY PROGRAM, IN A SANDBOX (cutbox-door.mjs). By AI agents, Wed Nov 11 2026. No macro, syntax, notation, axiom, sorry.
-/
import Derived.Test.YtocnlapbkidinaaGreatDoorRows
import GoSem.ClaimSeven
namespace Go.Proofs.YtocnlapbkidinaaGreatDoor
namespace Rows

/-- THE TIED CARD OF 'pavanelaw09.PrimDoes'. -/
def primDoesCard : Claim7 := { stood := { row := primDoesRow, standIns := [], harness := (true, "e1882a6ca2d7593ff6174d86b6fed627b461b1ca19b076b16a2e9542682d35bb"), looks := false }, kinds := [], alts := [], laidByText := true, laidKinds := [.data, .data, .data, .pinned], laidTests := true, laidLooks := .later }
def PrimDoesCardSaid : Prop := Claim7.holds Tryz.pinned (.plain (OpenSpec.ofChange primDoesSpec)) primDoesCard

/-- THE TIED CARD OF 'pavanelaw09.PrimTells'. -/
def primTellsCard : Claim7 := { stood := { row := primTellsRow, standIns := [], harness := (true, "e1882a6ca2d7593ff6174d86b6fed627b461b1ca19b076b16a2e9542682d35bb"), looks := false }, kinds := [], alts := [], laidByText := true, laidKinds := [.data, .pinned], laidTests := true, laidLooks := .later }
def PrimTellsCardSaid : Prop := Claim7.holds Tryz.pinned (.plain (OpenSpec.ofChange primTellsSpec)) primTellsCard

/-- THE TIED CARD OF 'pavanelaw09.PrimGood'. -/
def primGoodCard : Claim7 := { stood := { row := primGoodRow, standIns := [], harness := (true, "e1882a6ca2d7593ff6174d86b6fed627b461b1ca19b076b16a2e9542682d35bb"), looks := false }, kinds := [], alts := [], laidByText := true, laidKinds := [.data, .pinned], laidTests := true, laidLooks := .later }
def PrimGoodCardSaid : Prop := Claim7.holds Tryz.pinned (.plain (OpenSpec.ofChange primGoodSpec)) primGoodCard

/-- THE SECOND FORM's CARD OF 'pavanelaw09.PrimDoes'. -/
def primDoesUptoCard : Claim7 := { stood := { row := primDoesUptoRow, standIns := [], harness := (true, "e1882a6ca2d7593ff6174d86b6fed627b461b1ca19b076b16a2e9542682d35bb"), looks := false }, kinds := [], alts := [], laidByText := true, laidKinds := [.data, .data, .data, .pinned], laidTests := true, laidLooks := .later }
def PrimDoesUptoCardSaid : Prop := Claim7.holds Tryz.pinned (.plain (OpenSpec.upto primDoesSpec)) primDoesUptoCard

/-- THE SECOND FORM's CARD OF 'pavanelaw09.PrimTells'. -/
def primTellsUptoCard : Claim7 := { stood := { row := primTellsUptoRow, standIns := [], harness := (true, "e1882a6ca2d7593ff6174d86b6fed627b461b1ca19b076b16a2e9542682d35bb"), looks := false }, kinds := [], alts := [], laidByText := true, laidKinds := [.data, .pinned], laidTests := true, laidLooks := .later }
def PrimTellsUptoCardSaid : Prop := Claim7.holds Tryz.pinned (.plain (OpenSpec.upto primTellsSpec)) primTellsUptoCard

/-- THE SECOND FORM's CARD OF 'pavanelaw09.PrimGood'. -/
def primGoodUptoCard : Claim7 := { stood := { row := primGoodUptoRow, standIns := [], harness := (true, "e1882a6ca2d7593ff6174d86b6fed627b461b1ca19b076b16a2e9542682d35bb"), looks := false }, kinds := [], alts := [], laidByText := true, laidKinds := [.data, .pinned], laidTests := true, laidLooks := .later }
def PrimGoodUptoCardSaid : Prop := Claim7.holds Tryz.pinned (.plain (OpenSpec.upto primGoodSpec)) primGoodUptoCard
end Rows
end Go.Proofs.YtocnlapbkidinaaGreatDoor
