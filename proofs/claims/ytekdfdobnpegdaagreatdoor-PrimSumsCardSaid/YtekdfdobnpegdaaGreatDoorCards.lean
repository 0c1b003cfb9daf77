/-
  DERIVED. GIVEN WITH THE SEED: THE CARDS: each row of YtekdfdobnpegdaaGreatDoorRows.lean that lists a variable, with what it lists TIED to the program's text (the seventh form; the later family's looks); each row that meets fmt, with fmt's text TOLD by the authors' own Lean function (tested against real Go, not proved from fmt's source: count such statements apart). THE CARD IS WHAT COUNTS. Prove the row's statement (the work); the ties are given (YtekdfdobnpegdaaGreatDoorTie.lean); close each card by the builder's one call (the guide's Derived/Test/ToyasCard.lean, 'card_holds'). Laid BY PROGRAM, IN A SANDBOX (cutbox-door.mjs). By AI agents, Wed Nov 11 2026. No macro, syntax, notation, axiom, sorry.
-/
import Derived.Test.YtekdfdobnpegdaaGreatDoorRows
import GoSem.ClaimSeven
namespace Go.Proofs.YtekdfdobnpegdaaGreatDoor
namespace Rows

/-- THE TIED CARD OF 'pavanelaw09.PrimDoes'. -/
def primDoesCard : Claim7 := { stood := { row := primDoesRow, standIns := [], harness := (true, "76044a78d7e4cd6e42a73d407ad095106058e63b219542190e3bebe8f70ed5a2"), looks := false }, kinds := [], alts := [], laidByText := true, laidKinds := [.data, .data, .data, .pinned], laidTests := true, laidLooks := .later }
def PrimDoesCardSaid : Prop := Claim7.holds Tryz.pinned (.plain (OpenSpec.ofChange primDoesSpec)) primDoesCard

/-- THE TIED CARD OF 'pavanelaw09.PrimTells'. -/
def primTellsCard : Claim7 := { stood := { row := primTellsRow, standIns := [], harness := (true, "76044a78d7e4cd6e42a73d407ad095106058e63b219542190e3bebe8f70ed5a2"), looks := false }, kinds := [], alts := [], laidByText := true, laidKinds := [.data, .pinned], laidTests := true, laidLooks := .later }
def PrimTellsCardSaid : Prop := Claim7.holds Tryz.pinned (.plain (OpenSpec.ofChange primTellsSpec)) primTellsCard

/-- THE TIED CARD OF 'pavanelaw09.PrimGood'. -/
def primGoodCard : Claim7 := { stood := { row := primGoodRow, standIns := [], harness := (true, "76044a78d7e4cd6e42a73d407ad095106058e63b219542190e3bebe8f70ed5a2"), looks := false }, kinds := [], alts := [], laidByText := true, laidKinds := [.data, .pinned], laidTests := true, laidLooks := .later }
def PrimGoodCardSaid : Prop := Claim7.holds Tryz.pinned (.plain (OpenSpec.ofChange primGoodSpec)) primGoodCard

/-- THE TIED CARD OF 'pavanelaw09.PrimSums'. -/
def primSumsCard : Claim7 := { stood := { row := primSumsRow, standIns := [], harness := (true, "76044a78d7e4cd6e42a73d407ad095106058e63b219542190e3bebe8f70ed5a2"), looks := false }, kinds := [], alts := [], laidByText := true, laidKinds := [.data, .pinned], laidTests := true, laidLooks := .later }
def PrimSumsCardSaid : Prop := Claim7.holds Tryz.pinned (.plain (OpenSpec.ofChange primSumsSpec)) primSumsCard

/-- THE TIED CARD OF 'pavanelaw09.PrimOrder'. -/
def primOrderCard : Claim7 := { stood := { row := primOrderRow, standIns := [], harness := (true, "76044a78d7e4cd6e42a73d407ad095106058e63b219542190e3bebe8f70ed5a2"), looks := false }, kinds := [], alts := [], laidByText := true, laidKinds := [.data, .pinned], laidTests := true, laidLooks := .later }
def PrimOrderCardSaid : Prop := Claim7.holds Tryz.pinned (.plain (OpenSpec.ofChange primOrderSpec)) primOrderCard

/-- THE TIED CARD OF 'pavanelaw09.PrimTexts'. -/
def primTextsCard : Claim7 := { stood := { row := primTextsRow, standIns := [], harness := (true, "76044a78d7e4cd6e42a73d407ad095106058e63b219542190e3bebe8f70ed5a2"), looks := false }, kinds := [], alts := [], laidByText := true, laidKinds := [.data, .pinned], laidTests := true, laidLooks := .later }
def PrimTextsCardSaid : Prop := Claim7.holds Tryz.pinned (.plain (OpenSpec.ofChange primTextsSpec)) primTextsCard

/-- THE SECOND FORM's CARD OF 'pavanelaw09.PrimDoes'. -/
def primDoesUptoCard : Claim7 := { stood := { row := primDoesUptoRow, standIns := [], harness := (true, "76044a78d7e4cd6e42a73d407ad095106058e63b219542190e3bebe8f70ed5a2"), looks := false }, kinds := [], alts := [], laidByText := true, laidKinds := [.data, .data, .data, .pinned], laidTests := true, laidLooks := .later }
def PrimDoesUptoCardSaid : Prop := Claim7.holds Tryz.pinned (.plain (OpenSpec.upto primDoesSpec)) primDoesUptoCard

/-- THE SECOND FORM's CARD OF 'pavanelaw09.PrimTells'. -/
def primTellsUptoCard : Claim7 := { stood := { row := primTellsUptoRow, standIns := [], harness := (true, "76044a78d7e4cd6e42a73d407ad095106058e63b219542190e3bebe8f70ed5a2"), looks := false }, kinds := [], alts := [], laidByText := true, laidKinds := [.data, .pinned], laidTests := true, laidLooks := .later }
def PrimTellsUptoCardSaid : Prop := Claim7.holds Tryz.pinned (.plain (OpenSpec.upto primTellsSpec)) primTellsUptoCard

/-- THE SECOND FORM's CARD OF 'pavanelaw09.PrimGood'. -/
def primGoodUptoCard : Claim7 := { stood := { row := primGoodUptoRow, standIns := [], harness := (true, "76044a78d7e4cd6e42a73d407ad095106058e63b219542190e3bebe8f70ed5a2"), looks := false }, kinds := [], alts := [], laidByText := true, laidKinds := [.data, .pinned], laidTests := true, laidLooks := .later }
def PrimGoodUptoCardSaid : Prop := Claim7.holds Tryz.pinned (.plain (OpenSpec.upto primGoodSpec)) primGoodUptoCard

/-- THE SECOND FORM's CARD OF 'pavanelaw09.PrimSums'. -/
def primSumsUptoCard : Claim7 := { stood := { row := primSumsUptoRow, standIns := [], harness := (true, "76044a78d7e4cd6e42a73d407ad095106058e63b219542190e3bebe8f70ed5a2"), looks := false }, kinds := [], alts := [], laidByText := true, laidKinds := [.data, .pinned], laidTests := true, laidLooks := .later }
def PrimSumsUptoCardSaid : Prop := Claim7.holds Tryz.pinned (.plain (OpenSpec.upto primSumsSpec)) primSumsUptoCard

/-- THE SECOND FORM's CARD OF 'pavanelaw09.PrimOrder'. -/
def primOrderUptoCard : Claim7 := { stood := { row := primOrderUptoRow, standIns := [], harness := (true, "76044a78d7e4cd6e42a73d407ad095106058e63b219542190e3bebe8f70ed5a2"), looks := false }, kinds := [], alts := [], laidByText := true, laidKinds := [.data, .pinned], laidTests := true, laidLooks := .later }
def PrimOrderUptoCardSaid : Prop := Claim7.holds Tryz.pinned (.plain (OpenSpec.upto primOrderSpec)) primOrderUptoCard

/-- THE SECOND FORM's CARD OF 'pavanelaw09.PrimTexts'. -/
def primTextsUptoCard : Claim7 := { stood := { row := primTextsUptoRow, standIns := [], harness := (true, "76044a78d7e4cd6e42a73d407ad095106058e63b219542190e3bebe8f70ed5a2"), looks := false }, kinds := [], alts := [], laidByText := true, laidKinds := [.data, .pinned], laidTests := true, laidLooks := .later }
def PrimTextsUptoCardSaid : Prop := Claim7.holds Tryz.pinned (.plain (OpenSpec.upto primTextsSpec)) primTextsUptoCard
end Rows
end Go.Proofs.YtekdfdobnpegdaaGreatDoor
