/-
  NARROWER THAN 'FOR EVERY INPUT', by the rows' own cells (each row's printed sentence says how): PrimDoes: loops, laid · PrimTells: loops, laid · PrimGood: loops, laid.
  DERIVED. THE GIVEN ROWS OF THIS SEAT. 3 by the template 'for every input the law returns true; each argument reads behind the call as it read before'; 0 by the template 'total and deterministic' (their statements: YtocnlapbkidinaaGreatDoorTotals.lean).
  GIVEN WITH THE SEED: the statements are not yours to turn. If you find one false, say at which input.
  Laid BY PROGRAM, IN A SANDBOX (cutbox-rows.mjs): the forced cells as the released guide's own fill.sh prints them over the translation 5b8683ca43834acf… (all of the seat's roots in one cut). By AI agents, Wed Nov 11 2026. No macro, syntax, notation, axiom, sorry.
-/
import Derived.Test.YtocnlapbkidinaaGreatDoorChecked
import GoSem.PinnedTables
import GoSem.Claim
import GoSem.ClaimJoined
import GoSem.ClaimMapViews
import Derived.JoinedTies
import Derived.KernelRfl
namespace Go.Proofs.YtocnlapbkidinaaGreatDoor
/- THE CELL 'sum', in the pinned program and in every row, IS THE sha256 OF THE DUMP (.gsa) THAT YtocnlapbkidinaaGreatDoorProg.lean LOADS. Nothing in Lean hashes anything: it is a label: what it is worth is what the hold of that sum in a sandbox is worth. -/
noncomputable def Tryz.pinned : Pinned := { name := "ytocnlapbkidinaagreatdoor", sum := "5b8683ca43834acf2bb7ce5395a6f6f7111f5b465a54f6e30b78e8114239db75", checked := Tryz.checked }
namespace Rows
def none {H : Type} : Left H := { results := [], args := [] }

/- WHAT THE LISTED PACKAGE-LEVEL VARIABLES READ AS WHEN THE CALL BEGINS. Each datum BY PROGRAM (the guide's laid-datum.mjs) off the statement by which the dump's own 'gosem.cut.vars' lays the variable. In a bare row this is a premise. The card (YtocnlapbkidinaaGreatDoorCards.lean) ties it to the program's text. -/
def laid_unicode_utf8_acceptRanges {H : Type} : DataW H := .agg [.agg [.lit (.int .u8 128), .lit (.int .u8 191)], .agg [.lit (.int .u8 160), .lit (.int .u8 191)], .agg [.lit (.int .u8 128), .lit (.int .u8 159)], .agg [.lit (.int .u8 144), .lit (.int .u8 191)], .agg [.lit (.int .u8 128), .lit (.int .u8 143)], .agg [.lit (.int .u8 0), .lit (.int .u8 0)], .agg [.lit (.int .u8 0), .lit (.int .u8 0)], .agg [.lit (.int .u8 0), .lit (.int .u8 0)], .agg [.lit (.int .u8 0), .lit (.int .u8 0)], .agg [.lit (.int .u8 0), .lit (.int .u8 0)], .agg [.lit (.int .u8 0), .lit (.int .u8 0)], .agg [.lit (.int .u8 0), .lit (.int .u8 0)], .agg [.lit (.int .u8 0), .lit (.int .u8 0)], .agg [.lit (.int .u8 0), .lit (.int .u8 0)], .agg [.lit (.int .u8 0), .lit (.int .u8 0)], .agg [.lit (.int .u8 0), .lit (.int .u8 0)]]
def laid_pavane_prim_names {H : Type} : DataW H := .agg [.lit (.string [43]), .lit (.string [45]), .lit (.string [42]), .lit (.string [113, 117, 111, 116, 105, 101, 110, 116]), .lit (.string [114, 101, 109, 97, 105, 110, 100, 101, 114]), .lit (.string [109, 111, 100, 117, 108, 111]), .lit (.string [61]), .lit (.string [60]), .lit (.string [99, 111, 110, 115]), .lit (.string [99, 97, 114]), .lit (.string [99, 100, 114]), .lit (.string [115, 101, 116, 45, 99, 97, 114, 33]), .lit (.string [115, 101, 116, 45, 99, 100, 114, 33]), .lit (.string [110, 117, 108, 108, 63]), .lit (.string [112, 97, 105, 114, 63]), .lit (.string [105, 110, 116, 101, 103, 101, 114, 63]), .lit (.string [115, 121, 109, 98, 111, 108, 63]), .lit (.string [115, 116, 114, 105, 110, 103, 63]), .lit (.string [98, 111, 111, 108, 101, 97, 110, 63]), .lit (.string [112, 114, 111, 99, 101, 100, 117, 114, 101, 63]), .lit (.string [101, 113, 63]), .lit (.string [110, 111, 116]), .lit (.string [115, 116, 114, 105, 110, 103, 45, 108, 101, 110, 103, 116, 104]), .lit (.string [115, 116, 114, 105, 110, 103, 45, 97, 112, 112, 101, 110, 100]), .lit (.string [115, 116, 114, 105, 110, 103, 61, 63]), .lit (.string [115, 121, 109, 98, 111, 108, 45, 62, 115, 116, 114, 105, 110, 103]), .lit (.string [110, 117, 109, 98, 101, 114, 45, 62, 115, 116, 114, 105, 110, 103]), .lit (.string [119, 114, 105, 116, 101]), .lit (.string [100, 105, 115, 112, 108, 97, 121]), .lit (.string [110, 101, 119, 108, 105, 110, 101]), .lit (.string [114, 101, 97, 100, 45, 98, 121, 116, 101]), .lit (.string [114, 97, 105, 115, 101]), .lit (.string [99, 97, 108, 108, 47, 99, 99]), .lit (.string [97, 112, 112, 108, 121]), .lit (.string [98, 111, 120]), .lit (.string [117, 110, 98, 111, 120]), .lit (.string [115, 101, 116, 45, 98, 111, 120, 33]), .lit (.string [118, 111, 105, 100])]
def laid_pavane_prim_makers {H : Type} : DataW H := .agg [.lit (.int .i64 24), .lit (.int .i64 26), .lit (.int .i64 27)]
/-- One of Go's own tables, pinned by name: the form's constant. -/
def laid_unicode_utf8_first : DataW Unit := Go.Pinned.utf8First

/-- 'pavanelaw09.PrimDoes': WHATEVER THE INPUT: true; the input reads as it did. -/
def primDoesSpec : ChangeSpec := { name := "primDoes", fn := fun _ => fun
  | [d1, d2] => { results := [.lit (.bool true)], args := [d1, d2] }
  | _ => none }
def primDoesRow : OpenClaim := { program := "ytocnlapbkidinaagreatdoor", sum := "5b8683ca43834acf2bb7ce5395a6f6f7111f5b465a54f6e30b78e8114239db75", func := "pavane/pavanelaw09.PrimDoes", spec := "primDoes", inPlace := ["internal/bytealg.IndexByteString", "internal/bytealg.IndexString"], unfollowed := true, recurses := true, named := ["unicode/utf8.first", "unicode/utf8.acceptRanges", "pavane/prim.makers", "pavane/prim.names", "internal/bytealg.MaxLen"], loops := true, apart := false, laid := [("unicode/utf8.acceptRanges", laid_unicode_utf8_acceptRanges), ("pavane/prim.names", laid_pavane_prim_names), ("pavane/prim.makers", laid_pavane_prim_makers), ("unicode/utf8.first", laid_unicode_utf8_first)] }
def PrimDoesSaid : Prop := primDoesRow.holds Tryz.pinned (OpenSpec.ofChange primDoesSpec)

/-- ITS FALSE NEIGHBOUR: 'it returns false'. Refute it at one input. -/
def primDoesWrong : ChangeSpec := { name := "primDoes", fn := fun _ => fun
  | [d1, d2] => { results := [.lit (.bool false)], args := [d1, d2] }
  | _ => none }
def PrimDoesWrongFalsely : Prop := primDoesRow.holds Tryz.pinned (OpenSpec.ofChange primDoesWrong)

/-- 'pavanelaw09.PrimTells': WHATEVER THE INPUT: true; the input reads as it did. -/
def primTellsSpec : ChangeSpec := { name := "primTells", fn := fun _ => fun
  | [d1, d2] => { results := [.lit (.bool true)], args := [d1, d2] }
  | _ => none }
def primTellsRow : OpenClaim := { program := "ytocnlapbkidinaagreatdoor", sum := "5b8683ca43834acf2bb7ce5395a6f6f7111f5b465a54f6e30b78e8114239db75", func := "pavane/pavanelaw09.PrimTells", spec := "primTells", inPlace := ["internal/bytealg.IndexByteString", "internal/bytealg.IndexString"], unfollowed := true, recurses := true, named := ["unicode/utf8.first", "unicode/utf8.acceptRanges", "internal/bytealg.MaxLen"], loops := true, apart := false, laid := [("unicode/utf8.acceptRanges", laid_unicode_utf8_acceptRanges), ("unicode/utf8.first", laid_unicode_utf8_first)] }
def PrimTellsSaid : Prop := primTellsRow.holds Tryz.pinned (OpenSpec.ofChange primTellsSpec)

/-- ITS FALSE NEIGHBOUR: 'it returns false'. Refute it at one input. -/
def primTellsWrong : ChangeSpec := { name := "primTells", fn := fun _ => fun
  | [d1, d2] => { results := [.lit (.bool false)], args := [d1, d2] }
  | _ => none }
def PrimTellsWrongFalsely : Prop := primTellsRow.holds Tryz.pinned (OpenSpec.ofChange primTellsWrong)

/-- 'pavanelaw09.PrimGood': WHATEVER THE INPUT: true; the input reads as it did. -/
def primGoodSpec : ChangeSpec := { name := "primGood", fn := fun _ => fun
  | [d1, d2] => { results := [.lit (.bool true)], args := [d1, d2] }
  | _ => none }
def primGoodRow : OpenClaim := { program := "ytocnlapbkidinaagreatdoor", sum := "5b8683ca43834acf2bb7ce5395a6f6f7111f5b465a54f6e30b78e8114239db75", func := "pavane/pavanelaw09.PrimGood", spec := "primGood", inPlace := ["internal/bytealg.IndexByteString", "internal/bytealg.IndexString"], unfollowed := true, recurses := true, named := ["unicode/utf8.first", "unicode/utf8.acceptRanges", "internal/bytealg.MaxLen"], loops := true, apart := false, laid := [("unicode/utf8.acceptRanges", laid_unicode_utf8_acceptRanges), ("unicode/utf8.first", laid_unicode_utf8_first)] }
def PrimGoodSaid : Prop := primGoodRow.holds Tryz.pinned (OpenSpec.ofChange primGoodSpec)

/-- ITS FALSE NEIGHBOUR: 'it returns false'. Refute it at one input. -/
def primGoodWrong : ChangeSpec := { name := "primGood", fn := fun _ => fun
  | [d1, d2] => { results := [.lit (.bool false)], args := [d1, d2] }
  | _ => none }
def PrimGoodWrongFalsely : Prop := primGoodRow.holds Tryz.pinned (OpenSpec.ofChange primGoodWrong)

/- THE SECOND FORM. 'bulk': how many values and letters a reading holds, each counted each time it is reached (what is shared counts as often as it is met; a slice's spare places count too). A statement '..UptoSaid' is the law's where the arguments, and the package variables that the reading takes, are together of bulk at most 1048576: NARROWER than '..Said'. Prove '..Said' where nothing that the law and all that it calls make is longer than what came in: it says more and counts as full. Else prove '..UptoSaid'. A law counts once. -/
mutual
def uptoBulk {H : Type} : DataW H → Nat
  | .lit (.string bytes) => bytes.length + 1
  | .lit _ => 1
  | .nil => 1
  | .ptr d => uptoBulk d + 1
  | .slice elems spare => uptoBulkAll elems + uptoBulkAll spare + 1
  | .agg parts => uptoBulkAll parts + 1
  | .iface _ d => uptoBulk d + 1
  | .map entries => uptoBulkEntries entries + 1
  | .held _ => 1
def uptoBulkAll {H : Type} : List (DataW H) → Nat
  | [] => 0
  | d :: r => uptoBulk d + uptoBulkAll r
def uptoBulkEntries {H : Type} : List (Lit × DataW H) → Nat
  | [] => 0
  | x :: r => uptoBulkEntry x + uptoBulkEntries r
def uptoBulkEntry {H : Type} : Lit × DataW H → Nat
  | (.string bytes, d) => bytes.length + uptoBulk d + 1
  | (_, d) => uptoBulk d + 1
 end
def uptoSmall : (H : Type) → List (DataW H) → Bool := fun _ ds => decide (uptoBulkAll ds ≤ 1048576)
def OpenSpec.upto (s : _root_.Go.ChangeSpec) : _root_.Go.OpenSpec := { _root_.Go.OpenSpec.ofChange s with cond := some uptoSmall }

/-- 'pavanelaw09.PrimDoes', WHERE WHAT IT READS IS OF BULK AT MOST 1048576: true; the input reads as it did. -/
def primDoesUptoRow : OpenClaim := { program := "ytocnlapbkidinaagreatdoor", sum := "5b8683ca43834acf2bb7ce5395a6f6f7111f5b465a54f6e30b78e8114239db75", func := "pavane/pavanelaw09.PrimDoes", spec := "primDoes", inPlace := ["internal/bytealg.IndexByteString", "internal/bytealg.IndexString"], unfollowed := true, recurses := true, named := ["unicode/utf8.first", "unicode/utf8.acceptRanges", "pavane/prim.makers", "pavane/prim.names", "internal/bytealg.MaxLen"], loops := true, apart := false, laid := [("unicode/utf8.acceptRanges", laid_unicode_utf8_acceptRanges), ("pavane/prim.names", laid_pavane_prim_names), ("pavane/prim.makers", laid_pavane_prim_makers), ("unicode/utf8.first", laid_unicode_utf8_first)], narrowed := true }
def PrimDoesUptoSaid : Prop := primDoesUptoRow.holds Tryz.pinned (OpenSpec.upto primDoesSpec)

/-- 'pavanelaw09.PrimTells', WHERE WHAT IT READS IS OF BULK AT MOST 1048576: true; the input reads as it did. -/
def primTellsUptoRow : OpenClaim := { program := "ytocnlapbkidinaagreatdoor", sum := "5b8683ca43834acf2bb7ce5395a6f6f7111f5b465a54f6e30b78e8114239db75", func := "pavane/pavanelaw09.PrimTells", spec := "primTells", inPlace := ["internal/bytealg.IndexByteString", "internal/bytealg.IndexString"], unfollowed := true, recurses := true, named := ["unicode/utf8.first", "unicode/utf8.acceptRanges", "internal/bytealg.MaxLen"], loops := true, apart := false, laid := [("unicode/utf8.acceptRanges", laid_unicode_utf8_acceptRanges), ("unicode/utf8.first", laid_unicode_utf8_first)], narrowed := true }
def PrimTellsUptoSaid : Prop := primTellsUptoRow.holds Tryz.pinned (OpenSpec.upto primTellsSpec)

/-- 'pavanelaw09.PrimGood', WHERE WHAT IT READS IS OF BULK AT MOST 1048576: true; the input reads as it did. -/
def primGoodUptoRow : OpenClaim := { program := "ytocnlapbkidinaagreatdoor", sum := "5b8683ca43834acf2bb7ce5395a6f6f7111f5b465a54f6e30b78e8114239db75", func := "pavane/pavanelaw09.PrimGood", spec := "primGood", inPlace := ["internal/bytealg.IndexByteString", "internal/bytealg.IndexString"], unfollowed := true, recurses := true, named := ["unicode/utf8.first", "unicode/utf8.acceptRanges", "internal/bytealg.MaxLen"], loops := true, apart := false, laid := [("unicode/utf8.acceptRanges", laid_unicode_utf8_acceptRanges), ("unicode/utf8.first", laid_unicode_utf8_first)], narrowed := true }
def PrimGoodUptoSaid : Prop := primGoodUptoRow.holds Tryz.pinned (OpenSpec.upto primGoodSpec)

end Rows
end Go.Proofs.YtocnlapbkidinaaGreatDoor
