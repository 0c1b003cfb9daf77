/-
  DERIVED. GIVEN WITH THE SEED: THE CARDS: each row of YtlohdglhebplfaaGreatDoorRows.lean that lists a variable, with what it lists TIED to the program's text (the seventh form; the later family's looks); each row that meets fmt, with fmt's text TOLD by the authors' own Lean function (tested against real Go, not proved from fmt's source: count such statements apart). THE CARD IS WHAT COUNTS. Prove the row's statement (the work); the ties are given (YtlohdglhebplfaaGreatDoorTie.lean); close each card by the builder's one call (the guide's Derived/Test/ToyasCard.lean, 'card_holds'). Laid BY PROGRAM, IN A SANDBOX (cutbox-door.mjs). By AI agents, Wed Nov 11 2026. No macro, syntax, notation, axiom, sorry.
-/
import Derived.Test.YtlohdglhebplfaaGreatDoorRows
import GoSem.ClaimSeven
namespace Go.Proofs.YtlohdglhebplfaaGreatDoor
namespace Rows

/-- THE TIED CARD OF 'pavanelaw05.ReaderGood'. -/
def readerGoodCard : Claim7 := { stood := { row := readerGoodRow, standIns := [], harness := (true, "a4fc672c08f311532321833caf75065bb4b9c1ada7d61690616561bbd62a0e5b"), looks := false }, kinds := [], alts := [], laidByText := true, laidKinds := [.data, .data, .data, .data, .pinned], laidTests := true, laidLooks := .later }
def ReaderGoodCardSaid : Prop := Claim7.holds Tryz.pinned (.plain (OpenSpec.ofChange readerGoodSpec)) readerGoodCard

/-- THE TIED CARD OF 'pavanelaw08.CorePaths'. -/
def corePathsCard : Claim7 := { stood := { row := corePathsRow, standIns := [], harness := (true, "a4fc672c08f311532321833caf75065bb4b9c1ada7d61690616561bbd62a0e5b"), looks := false }, kinds := [], alts := [], laidByText := true, laidKinds := [.data, .data, .data, .data, .data, .pinned], laidTests := true, laidLooks := .later }
def CorePathsCardSaid : Prop := Claim7.holds Tryz.pinned (.plain (OpenSpec.ofChange corePathsSpec)) corePathsCard

/-- THE TIED CARD OF 'pavanelaw08.CoreBoxes'. -/
def coreBoxesCard : Claim7 := { stood := { row := coreBoxesRow, standIns := [], harness := (true, "a4fc672c08f311532321833caf75065bb4b9c1ada7d61690616561bbd62a0e5b"), looks := false }, kinds := [], alts := [], laidByText := true, laidKinds := [.data, .data, .data, .data, .data, .pinned], laidTests := true, laidLooks := .later }
def CoreBoxesCardSaid : Prop := Claim7.holds Tryz.pinned (.plain (OpenSpec.ofChange coreBoxesSpec)) coreBoxesCard

/-- THE TIED CARD OF 'pavanelaw08.CoreClean'. -/
def coreCleanCard : Claim7 := { stood := { row := coreCleanRow, standIns := [], harness := (true, "a4fc672c08f311532321833caf75065bb4b9c1ada7d61690616561bbd62a0e5b"), looks := false }, kinds := [], alts := [], laidByText := true, laidKinds := [.data, .data, .data, .data, .data, .pinned], laidTests := true, laidLooks := .later }
def CoreCleanCardSaid : Prop := Claim7.holds Tryz.pinned (.plain (OpenSpec.ofChange coreCleanSpec)) coreCleanCard

/-- THE TIED CARD OF 'pavanelaw08.CoreAlike'. -/
def coreAlikeCard : Claim7 := { stood := { row := coreAlikeRow, standIns := [], harness := (true, "a4fc672c08f311532321833caf75065bb4b9c1ada7d61690616561bbd62a0e5b"), looks := false }, kinds := [], alts := [], laidByText := true, laidKinds := [.data, .data, .data, .data, .data, .pinned], laidTests := true, laidLooks := .later }
def CoreAlikeCardSaid : Prop := Claim7.holds Tryz.pinned (.plain (OpenSpec.ofChange coreAlikeSpec)) coreAlikeCard

/-- THE TIED CARD OF 'pavanelaw08.CorePuts'. -/
def corePutsCard : Claim7 := { stood := { row := corePutsRow, standIns := [], harness := (true, "a4fc672c08f311532321833caf75065bb4b9c1ada7d61690616561bbd62a0e5b"), looks := false }, kinds := [], alts := [], laidByText := true, laidKinds := [.data, .data, .data, .data, .data, .pinned], laidTests := true, laidLooks := .later }
def CorePutsCardSaid : Prop := Claim7.holds Tryz.pinned (.plain (OpenSpec.ofChange corePutsSpec)) corePutsCard

/-- THE TIED CARD OF 'pavanelaw08.CoreSwaps'. -/
def coreSwapsCard : Claim7 := { stood := { row := coreSwapsRow, standIns := [], harness := (true, "a4fc672c08f311532321833caf75065bb4b9c1ada7d61690616561bbd62a0e5b"), looks := false }, kinds := [], alts := [], laidByText := true, laidKinds := [.data, .data, .data, .data, .data, .pinned], laidTests := true, laidLooks := .later }
def CoreSwapsCardSaid : Prop := Claim7.holds Tryz.pinned (.plain (OpenSpec.ofChange coreSwapsSpec)) coreSwapsCard

/-- THE TIED CARD OF 'pavanelaw08.CoreTexts'. -/
def coreTextsCard : Claim7 := { stood := { row := coreTextsRow, standIns := [], harness := (true, "a4fc672c08f311532321833caf75065bb4b9c1ada7d61690616561bbd62a0e5b"), looks := false }, kinds := [], alts := [], laidByText := true, laidKinds := [.data, .data, .data, .data, .data, .pinned], laidTests := true, laidLooks := .later }
def CoreTextsCardSaid : Prop := Claim7.holds Tryz.pinned (.plain (OpenSpec.ofChange coreTextsSpec)) coreTextsCard

/-- THE SECOND FORM's CARD OF 'pavanelaw05.ReaderGood'. -/
def readerGoodUptoCard : Claim7 := { stood := { row := readerGoodUptoRow, standIns := [], harness := (true, "a4fc672c08f311532321833caf75065bb4b9c1ada7d61690616561bbd62a0e5b"), looks := false }, kinds := [], alts := [], laidByText := true, laidKinds := [.data, .data, .data, .data, .pinned], laidTests := true, laidLooks := .later }
def ReaderGoodUptoCardSaid : Prop := Claim7.holds Tryz.pinned (.plain (OpenSpec.upto readerGoodSpec)) readerGoodUptoCard

/-- THE SECOND FORM's CARD OF 'pavanelaw08.CorePaths'. -/
def corePathsUptoCard : Claim7 := { stood := { row := corePathsUptoRow, standIns := [], harness := (true, "a4fc672c08f311532321833caf75065bb4b9c1ada7d61690616561bbd62a0e5b"), looks := false }, kinds := [], alts := [], laidByText := true, laidKinds := [.data, .data, .data, .data, .data, .pinned], laidTests := true, laidLooks := .later }
def CorePathsUptoCardSaid : Prop := Claim7.holds Tryz.pinned (.plain (OpenSpec.upto corePathsSpec)) corePathsUptoCard

/-- THE SECOND FORM's CARD OF 'pavanelaw08.CoreBoxes'. -/
def coreBoxesUptoCard : Claim7 := { stood := { row := coreBoxesUptoRow, standIns := [], harness := (true, "a4fc672c08f311532321833caf75065bb4b9c1ada7d61690616561bbd62a0e5b"), looks := false }, kinds := [], alts := [], laidByText := true, laidKinds := [.data, .data, .data, .data, .data, .pinned], laidTests := true, laidLooks := .later }
def CoreBoxesUptoCardSaid : Prop := Claim7.holds Tryz.pinned (.plain (OpenSpec.upto coreBoxesSpec)) coreBoxesUptoCard

/-- THE SECOND FORM's CARD OF 'pavanelaw08.CoreClean'. -/
def coreCleanUptoCard : Claim7 := { stood := { row := coreCleanUptoRow, standIns := [], harness := (true, "a4fc672c08f311532321833caf75065bb4b9c1ada7d61690616561bbd62a0e5b"), looks := false }, kinds := [], alts := [], laidByText := true, laidKinds := [.data, .data, .data, .data, .data, .pinned], laidTests := true, laidLooks := .later }
def CoreCleanUptoCardSaid : Prop := Claim7.holds Tryz.pinned (.plain (OpenSpec.upto coreCleanSpec)) coreCleanUptoCard

/-- THE SECOND FORM's CARD OF 'pavanelaw08.CoreAlike'. -/
def coreAlikeUptoCard : Claim7 := { stood := { row := coreAlikeUptoRow, standIns := [], harness := (true, "a4fc672c08f311532321833caf75065bb4b9c1ada7d61690616561bbd62a0e5b"), looks := false }, kinds := [], alts := [], laidByText := true, laidKinds := [.data, .data, .data, .data, .data, .pinned], laidTests := true, laidLooks := .later }
def CoreAlikeUptoCardSaid : Prop := Claim7.holds Tryz.pinned (.plain (OpenSpec.upto coreAlikeSpec)) coreAlikeUptoCard

/-- THE SECOND FORM's CARD OF 'pavanelaw08.CorePuts'. -/
def corePutsUptoCard : Claim7 := { stood := { row := corePutsUptoRow, standIns := [], harness := (true, "a4fc672c08f311532321833caf75065bb4b9c1ada7d61690616561bbd62a0e5b"), looks := false }, kinds := [], alts := [], laidByText := true, laidKinds := [.data, .data, .data, .data, .data, .pinned], laidTests := true, laidLooks := .later }
def CorePutsUptoCardSaid : Prop := Claim7.holds Tryz.pinned (.plain (OpenSpec.upto corePutsSpec)) corePutsUptoCard

/-- THE SECOND FORM's CARD OF 'pavanelaw08.CoreSwaps'. -/
def coreSwapsUptoCard : Claim7 := { stood := { row := coreSwapsUptoRow, standIns := [], harness := (true, "a4fc672c08f311532321833caf75065bb4b9c1ada7d61690616561bbd62a0e5b"), looks := false }, kinds := [], alts := [], laidByText := true, laidKinds := [.data, .data, .data, .data, .data, .pinned], laidTests := true, laidLooks := .later }
def CoreSwapsUptoCardSaid : Prop := Claim7.holds Tryz.pinned (.plain (OpenSpec.upto coreSwapsSpec)) coreSwapsUptoCard

/-- THE SECOND FORM's CARD OF 'pavanelaw08.CoreTexts'. -/
def coreTextsUptoCard : Claim7 := { stood := { row := coreTextsUptoRow, standIns := [], harness := (true, "a4fc672c08f311532321833caf75065bb4b9c1ada7d61690616561bbd62a0e5b"), looks := false }, kinds := [], alts := [], laidByText := true, laidKinds := [.data, .data, .data, .data, .data, .pinned], laidTests := true, laidLooks := .later }
def CoreTextsUptoCardSaid : Prop := Claim7.holds Tryz.pinned (.plain (OpenSpec.upto coreTextsSpec)) coreTextsUptoCard
end Rows
end Go.Proofs.YtlohdglhebplfaaGreatDoor
