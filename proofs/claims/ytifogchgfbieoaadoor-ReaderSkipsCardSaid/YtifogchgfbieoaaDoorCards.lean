/-
  DERIVED. GIVEN WITH THE SEED: THE CARDS: each row of YtifogchgfbieoaaDoorRows.lean that lists a variable, with what it lists TIED to the program's text (the seventh form; the later family's looks); each row that meets fmt, with fmt's text TOLD by the authors' own Lean function (tested against real Go, not proved from fmt's source: count such statements apart). THE CARD IS WHAT COUNTS. Prove the row's statement (the work); the ties are given (YtifogchgfbieoaaDoorTie.lean); close each card by the builder's one call (the guide's Derived/Test/ToyasCard.lean, 'card_holds'). Laid BY PROGRAM, IN A SANDBOX (cutbox-door.mjs). By AI agents, Wed Nov 11 2026. No macro, syntax, notation, axiom, sorry.
-/
import Derived.Test.YtifogchgfbieoaaDoorRows
import GoSem.ClaimSeven
namespace Go.Proofs.YtifogchgfbieoaaDoor
namespace Rows

/-- THE TIED CARD OF 'pavanelaw05.ReaderJoins'. -/
def readerJoinsCard : Claim7 := { stood := { row := readerJoinsRow, standIns := [], harness := (true, "85a6dde82eee06acf4e17a1c20dd8f888f4d7a2cca3b4c85b9a13a4f33d093df"), looks := false }, kinds := [], alts := [], laidByText := true, laidKinds := [.data, .data, .data, .data, .pinned], laidTests := true, laidLooks := .later }
def ReaderJoinsCardSaid : Prop := Claim7.holds Tryd.pinned (.plain (OpenSpec.ofChange readerJoinsSpec)) readerJoinsCard

/-- THE TIED CARD OF 'pavanelaw05.ReaderDeep'. -/
def readerDeepCard : Claim7 := { stood := { row := readerDeepRow, standIns := [], harness := (true, "85a6dde82eee06acf4e17a1c20dd8f888f4d7a2cca3b4c85b9a13a4f33d093df"), looks := false }, kinds := [], alts := [], laidByText := true, laidKinds := [.data, .data, .data, .data, .pinned], laidTests := true, laidLooks := .later }
def ReaderDeepCardSaid : Prop := Claim7.holds Tryd.pinned (.plain (OpenSpec.ofChange readerDeepSpec)) readerDeepCard

/-- THE TIED CARD OF 'pavanelaw05.ReaderSkips'. -/
def readerSkipsCard : Claim7 := { stood := { row := readerSkipsRow, standIns := [], harness := (true, "85a6dde82eee06acf4e17a1c20dd8f888f4d7a2cca3b4c85b9a13a4f33d093df"), looks := false }, kinds := [], alts := [], laidByText := true, laidKinds := [.data, .data, .data, .data, .pinned], laidTests := true, laidLooks := .later }
def ReaderSkipsCardSaid : Prop := Claim7.holds Tryd.pinned (.plain (OpenSpec.ofChange readerSkipsSpec)) readerSkipsCard

/-- THE SECOND FORM's CARD OF 'pavanelaw05.ReaderJoins'. -/
def readerJoinsUptoCard : Claim7 := { stood := { row := readerJoinsUptoRow, standIns := [], harness := (true, "85a6dde82eee06acf4e17a1c20dd8f888f4d7a2cca3b4c85b9a13a4f33d093df"), looks := false }, kinds := [], alts := [], laidByText := true, laidKinds := [.data, .data, .data, .data, .pinned], laidTests := true, laidLooks := .later }
def ReaderJoinsUptoCardSaid : Prop := Claim7.holds Tryd.pinned (.plain (OpenSpec.upto readerJoinsSpec)) readerJoinsUptoCard

/-- THE SECOND FORM's CARD OF 'pavanelaw05.ReaderDeep'. -/
def readerDeepUptoCard : Claim7 := { stood := { row := readerDeepUptoRow, standIns := [], harness := (true, "85a6dde82eee06acf4e17a1c20dd8f888f4d7a2cca3b4c85b9a13a4f33d093df"), looks := false }, kinds := [], alts := [], laidByText := true, laidKinds := [.data, .data, .data, .data, .pinned], laidTests := true, laidLooks := .later }
def ReaderDeepUptoCardSaid : Prop := Claim7.holds Tryd.pinned (.plain (OpenSpec.upto readerDeepSpec)) readerDeepUptoCard

/-- THE SECOND FORM's CARD OF 'pavanelaw05.ReaderSkips'. -/
def readerSkipsUptoCard : Claim7 := { stood := { row := readerSkipsUptoRow, standIns := [], harness := (true, "85a6dde82eee06acf4e17a1c20dd8f888f4d7a2cca3b4c85b9a13a4f33d093df"), looks := false }, kinds := [], alts := [], laidByText := true, laidKinds := [.data, .data, .data, .data, .pinned], laidTests := true, laidLooks := .later }
def ReaderSkipsUptoCardSaid : Prop := Claim7.holds Tryd.pinned (.plain (OpenSpec.upto readerSkipsSpec)) readerSkipsUptoCard
end Rows
end Go.Proofs.YtifogchgfbieoaaDoor
