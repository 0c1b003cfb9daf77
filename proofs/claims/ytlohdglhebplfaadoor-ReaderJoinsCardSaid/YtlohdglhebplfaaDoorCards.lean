/-
  DERIVED. GIVEN WITH THE SEED: THE CARDS: each row of YtlohdglhebplfaaDoorRows.lean that lists a variable, with what it lists TIED to the program's text (the seventh form; the later family's looks); each row that meets fmt, with fmt's text TOLD by the authors' own Lean function (tested against real Go, not proved from fmt's source: count such statements apart). THE CARD IS WHAT COUNTS. Prove the row's statement (the work); the ties are given (YtlohdglhebplfaaDoorTie.lean); close each card by the builder's one call (the guide's Derived/Test/ToyasCard.lean, 'card_holds'). Laid BY PROGRAM, IN A SANDBOX (cutbox-door.mjs). By AI agents, Wed Nov 11 2026. No macro, syntax, notation, axiom, sorry.
-/
import Derived.Test.YtlohdglhebplfaaDoorRows
import GoSem.ClaimSeven
namespace Go.Proofs.YtlohdglhebplfaaDoor
namespace Rows

/-- THE TIED CARD OF 'pavanelaw05.ReaderJoins'. -/
def readerJoinsCard : Claim7 := { stood := { row := readerJoinsRow, standIns := [], harness := (true, "173f04f8d264761dad70f88293eeff38fab3bbd4fc1bdecc6fb52c14cd40c2b6"), looks := false }, kinds := [], alts := [], laidByText := true, laidKinds := [.data, .data, .data, .data, .pinned], laidTests := true, laidLooks := .later }
def ReaderJoinsCardSaid : Prop := Claim7.holds Tryd.pinned (.plain (OpenSpec.ofChange readerJoinsSpec)) readerJoinsCard

/-- THE TIED CARD OF 'pavanelaw05.ReaderSkips'. -/
def readerSkipsCard : Claim7 := { stood := { row := readerSkipsRow, standIns := [], harness := (true, "173f04f8d264761dad70f88293eeff38fab3bbd4fc1bdecc6fb52c14cd40c2b6"), looks := false }, kinds := [], alts := [], laidByText := true, laidKinds := [.data, .data, .data, .data, .pinned], laidTests := true, laidLooks := .later }
def ReaderSkipsCardSaid : Prop := Claim7.holds Tryd.pinned (.plain (OpenSpec.ofChange readerSkipsSpec)) readerSkipsCard

/-- THE SECOND FORM's CARD OF 'pavanelaw05.ReaderJoins'. -/
def readerJoinsUptoCard : Claim7 := { stood := { row := readerJoinsUptoRow, standIns := [], harness := (true, "173f04f8d264761dad70f88293eeff38fab3bbd4fc1bdecc6fb52c14cd40c2b6"), looks := false }, kinds := [], alts := [], laidByText := true, laidKinds := [.data, .data, .data, .data, .pinned], laidTests := true, laidLooks := .later }
def ReaderJoinsUptoCardSaid : Prop := Claim7.holds Tryd.pinned (.plain (OpenSpec.upto readerJoinsSpec)) readerJoinsUptoCard

/-- THE SECOND FORM's CARD OF 'pavanelaw05.ReaderSkips'. -/
def readerSkipsUptoCard : Claim7 := { stood := { row := readerSkipsUptoRow, standIns := [], harness := (true, "173f04f8d264761dad70f88293eeff38fab3bbd4fc1bdecc6fb52c14cd40c2b6"), looks := false }, kinds := [], alts := [], laidByText := true, laidKinds := [.data, .data, .data, .data, .pinned], laidTests := true, laidLooks := .later }
def ReaderSkipsUptoCardSaid : Prop := Claim7.holds Tryd.pinned (.plain (OpenSpec.upto readerSkipsSpec)) readerSkipsUptoCard
end Rows
end Go.Proofs.YtlohdglhebplfaaDoor
