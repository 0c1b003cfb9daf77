/-
  DERIVED. GIVEN WITH THE SEED: THE CARDS: each row of YthdhdmmlmbkalaaGreatDoorRows.lean that lists a variable, with what it lists TIED to the program's text (the seventh form; the later family's looks); each row that meets fmt, with fmt's text TOLD by the authors' own Lean function (tested against real Go, not proved from fmt's source: count such statements apart). THE CARD IS WHAT COUNTS. Prove the row's statement (the work); the ties are given (YthdhdmmlmbkalaaGreatDoorTie.lean); close each card by the builder's one call (the guide's Derived/Test/ToyasCard.lean, 'card_holds'). Laid BY PROGRAM, IN A SANDBOX (cutbox-door.mjs). By AI agents, Wed Nov 11 2026. No macro, syntax, notation, axiom, sorry.
-/
import Derived.Test.YthdhdmmlmbkalaaGreatDoorRows
import GoSem.ClaimSeven
namespace Go.Proofs.YthdhdmmlmbkalaaGreatDoor
namespace Rows

/-- THE TIED CARD OF 'pavanelaw08.CorePaths'. -/
def corePathsCard : Claim7 := { stood := { row := corePathsRow, standIns := [], harness := (true, "02556155b7f53ff64c0007e7c5870011200c939ebfe3683e955c3564bc4228ac"), looks := false }, kinds := [], alts := [], laidByText := true, laidKinds := [.data, .data, .data, .data, .data, .pinned], laidTests := true, laidLooks := .later }
def CorePathsCardSaid : Prop := Claim7.holds Tryz.pinned (.plain (OpenSpec.ofChange corePathsSpec)) corePathsCard

/-- THE TIED CARD OF 'pavanelaw08.CorePuts'. -/
def corePutsCard : Claim7 := { stood := { row := corePutsRow, standIns := [], harness := (true, "02556155b7f53ff64c0007e7c5870011200c939ebfe3683e955c3564bc4228ac"), looks := false }, kinds := [], alts := [], laidByText := true, laidKinds := [.data, .data, .data, .data, .data, .pinned], laidTests := true, laidLooks := .later }
def CorePutsCardSaid : Prop := Claim7.holds Tryz.pinned (.plain (OpenSpec.ofChange corePutsSpec)) corePutsCard

/-- THE TIED CARD OF 'pavanelaw08.CoreTexts'. -/
def coreTextsCard : Claim7 := { stood := { row := coreTextsRow, standIns := [], harness := (true, "02556155b7f53ff64c0007e7c5870011200c939ebfe3683e955c3564bc4228ac"), looks := false }, kinds := [], alts := [], laidByText := true, laidKinds := [.data, .data, .data, .data, .data, .pinned], laidTests := true, laidLooks := .later }
def CoreTextsCardSaid : Prop := Claim7.holds Tryz.pinned (.plain (OpenSpec.ofChange coreTextsSpec)) coreTextsCard

/-- THE SECOND FORM's CARD OF 'pavanelaw08.CorePaths'. -/
def corePathsUptoCard : Claim7 := { stood := { row := corePathsUptoRow, standIns := [], harness := (true, "02556155b7f53ff64c0007e7c5870011200c939ebfe3683e955c3564bc4228ac"), looks := false }, kinds := [], alts := [], laidByText := true, laidKinds := [.data, .data, .data, .data, .data, .pinned], laidTests := true, laidLooks := .later }
def CorePathsUptoCardSaid : Prop := Claim7.holds Tryz.pinned (.plain (OpenSpec.upto corePathsSpec)) corePathsUptoCard

/-- THE SECOND FORM's CARD OF 'pavanelaw08.CorePuts'. -/
def corePutsUptoCard : Claim7 := { stood := { row := corePutsUptoRow, standIns := [], harness := (true, "02556155b7f53ff64c0007e7c5870011200c939ebfe3683e955c3564bc4228ac"), looks := false }, kinds := [], alts := [], laidByText := true, laidKinds := [.data, .data, .data, .data, .data, .pinned], laidTests := true, laidLooks := .later }
def CorePutsUptoCardSaid : Prop := Claim7.holds Tryz.pinned (.plain (OpenSpec.upto corePutsSpec)) corePutsUptoCard

/-- THE SECOND FORM's CARD OF 'pavanelaw08.CoreTexts'. -/
def coreTextsUptoCard : Claim7 := { stood := { row := coreTextsUptoRow, standIns := [], harness := (true, "02556155b7f53ff64c0007e7c5870011200c939ebfe3683e955c3564bc4228ac"), looks := false }, kinds := [], alts := [], laidByText := true, laidKinds := [.data, .data, .data, .data, .data, .pinned], laidTests := true, laidLooks := .later }
def CoreTextsUptoCardSaid : Prop := Claim7.holds Tryz.pinned (.plain (OpenSpec.upto coreTextsSpec)) coreTextsUptoCard
end Rows
end Go.Proofs.YthdhdmmlmbkalaaGreatDoor
