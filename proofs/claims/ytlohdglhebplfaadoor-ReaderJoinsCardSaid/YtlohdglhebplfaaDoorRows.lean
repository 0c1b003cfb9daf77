/-
  NARROWER THAN 'FOR EVERY INPUT', by the rows' own cells (each row's printed sentence says how): ReaderJoins: laid · ReaderSkips: laid.
  DERIVED. THE GIVEN ROWS OF THIS SEAT. 2 by the template 'for every input the law returns true; each argument reads behind the call as it read before'; 0 by the template 'total and deterministic' (their statements: YtlohdglhebplfaaDoorTotals.lean).
  GIVEN WITH THE SEED: the statements are not yours to turn. If you find one false, say at which input.
  Laid BY PROGRAM, IN A SANDBOX (cutbox-rows.mjs): the forced cells as the released guide's own fill.sh prints them over the translation 6aac557c527eb994… (all of the seat's roots in one cut). By AI agents, Wed Nov 11 2026. No macro, syntax, notation, axiom, sorry.
-/
import Derived.Test.YtlohdglhebplfaaDoorChecked
import GoSem.PinnedTables
import GoSem.Claim
import GoSem.ClaimJoined
import GoSem.ClaimMapViews
import Derived.JoinedTies
import Derived.KernelRfl
namespace Go.Proofs.YtlohdglhebplfaaDoor
/- THE CELL 'sum', in the pinned program and in every row, IS THE sha256 OF THE DUMP (.gsa) THAT YtlohdglhebplfaaDoorProg.lean LOADS. Nothing in Lean hashes anything: it is a label: what it is worth is what the hold of that sum in a sandbox is worth. -/
noncomputable def Tryd.pinned : Pinned := { name := "ytlohdglhebplfaadoor", sum := "6aac557c527eb9941c9ec658bb0fe58e09f158da1aaf58b985097612824f2508", checked := Tryd.checked }
namespace Rows
def none {H : Type} : Left H := { results := [], args := [] }

/- WHAT THE LISTED PACKAGE-LEVEL VARIABLES READ AS WHEN THE CALL BEGINS. Each datum BY PROGRAM (the guide's laid-datum.mjs) off the statement by which the dump's own 'gosem.cut.vars' lays the variable. In a bare row this is a premise. The card (YtlohdglhebplfaaDoorCards.lean) ties it to the program's text. -/
def laid_unicode_utf8_acceptRanges {H : Type} : DataW H := .agg [.agg [.lit (.int .u8 128), .lit (.int .u8 191)], .agg [.lit (.int .u8 160), .lit (.int .u8 191)], .agg [.lit (.int .u8 128), .lit (.int .u8 159)], .agg [.lit (.int .u8 144), .lit (.int .u8 191)], .agg [.lit (.int .u8 128), .lit (.int .u8 143)], .agg [.lit (.int .u8 0), .lit (.int .u8 0)], .agg [.lit (.int .u8 0), .lit (.int .u8 0)], .agg [.lit (.int .u8 0), .lit (.int .u8 0)], .agg [.lit (.int .u8 0), .lit (.int .u8 0)], .agg [.lit (.int .u8 0), .lit (.int .u8 0)], .agg [.lit (.int .u8 0), .lit (.int .u8 0)], .agg [.lit (.int .u8 0), .lit (.int .u8 0)], .agg [.lit (.int .u8 0), .lit (.int .u8 0)], .agg [.lit (.int .u8 0), .lit (.int .u8 0)], .agg [.lit (.int .u8 0), .lit (.int .u8 0)], .agg [.lit (.int .u8 0), .lit (.int .u8 0)]]
def laid_pavane_write_signs {H : Type} : DataW H := .agg [.lit (.int .u8 33), .lit (.int .u8 36), .lit (.int .u8 37), .lit (.int .u8 38), .lit (.int .u8 42), .lit (.int .u8 47), .lit (.int .u8 58), .lit (.int .u8 60), .lit (.int .u8 61), .lit (.int .u8 62), .lit (.int .u8 63), .lit (.int .u8 94), .lit (.int .u8 95), .lit (.int .u8 126), .lit (.int .u8 43), .lit (.int .u8 45), .lit (.int .u8 46), .lit (.int .u8 64)]
def laid_pavane_reader_marks {H : Type} : DataW H := .agg [.lit (.int .u8 40), .lit (.int .u8 41), .lit (.int .u8 91), .lit (.int .u8 93), .lit (.int .u8 34), .lit (.int .u8 59), .lit (.int .u8 39), .lit (.int .u8 96), .lit (.int .u8 44), .lit (.int .u8 124)]
def laid_pavane_reader_quotes {H : Type} : DataW H := .agg [.agg [.lit (.string [39]), .lit (.string [113, 117, 111, 116, 101])], .agg [.lit (.string [96]), .lit (.string [113, 117, 97, 115, 105, 113, 117, 111, 116, 101])], .agg [.lit (.string [44, 64]), .lit (.string [117, 110, 113, 117, 111, 116, 101, 45, 115, 112, 108, 105, 99, 105, 110, 103])], .agg [.lit (.string [44]), .lit (.string [117, 110, 113, 117, 111, 116, 101])]]
/-- One of Go's own tables, pinned by name: the form's constant. -/
def laid_unicode_utf8_first : DataW Unit := Go.Pinned.utf8First

/-- 'pavanelaw05.ReaderJoins': WHATEVER THE INPUT: true; the input reads as it did. -/
def readerJoinsSpec : ChangeSpec := { name := "readerJoins", fn := fun _ => fun
  | [d1, d2] => { results := [.lit (.bool true)], args := [d1, d2] }
  | _ => none }
def readerJoinsRow : OpenClaim := { program := "ytlohdglhebplfaadoor", sum := "6aac557c527eb9941c9ec658bb0fe58e09f158da1aaf58b985097612824f2508", func := "pavane/pavanelaw05.ReaderJoins", spec := "readerJoins", inPlace := ["internal/bytealg.IndexByteString", "internal/bytealg.IndexString", "internal/abi.NoEscape"], unfollowed := true, recurses := true, named := ["pavane/reader.marks", "pavane/reader.quotes", "unicode/utf8.first", "unicode/utf8.acceptRanges", "pavane/write.signs", "internal/bytealg.MaxLen"], apart := false, laid := [("unicode/utf8.acceptRanges", laid_unicode_utf8_acceptRanges), ("pavane/write.signs", laid_pavane_write_signs), ("pavane/reader.marks", laid_pavane_reader_marks), ("pavane/reader.quotes", laid_pavane_reader_quotes), ("unicode/utf8.first", laid_unicode_utf8_first)] }
def ReaderJoinsSaid : Prop := readerJoinsRow.holds Tryd.pinned (OpenSpec.ofChange readerJoinsSpec)

/-- ITS FALSE NEIGHBOUR: 'it returns false'. Refute it at one input. -/
def readerJoinsWrong : ChangeSpec := { name := "readerJoins", fn := fun _ => fun
  | [d1, d2] => { results := [.lit (.bool false)], args := [d1, d2] }
  | _ => none }
def ReaderJoinsWrongFalsely : Prop := readerJoinsRow.holds Tryd.pinned (OpenSpec.ofChange readerJoinsWrong)

/-- 'pavanelaw05.ReaderSkips': WHATEVER THE INPUT: true; the input reads as it did. -/
def readerSkipsSpec : ChangeSpec := { name := "readerSkips", fn := fun _ => fun
  | [d1, d2] => { results := [.lit (.bool true)], args := [d1, d2] }
  | _ => none }
def readerSkipsRow : OpenClaim := { program := "ytlohdglhebplfaadoor", sum := "6aac557c527eb9941c9ec658bb0fe58e09f158da1aaf58b985097612824f2508", func := "pavane/pavanelaw05.ReaderSkips", spec := "readerSkips", inPlace := ["internal/bytealg.IndexByteString", "internal/bytealg.IndexString", "internal/abi.NoEscape"], unfollowed := true, recurses := true, named := ["pavane/reader.marks", "pavane/reader.quotes", "unicode/utf8.first", "unicode/utf8.acceptRanges", "pavane/write.signs", "internal/bytealg.MaxLen"], apart := false, laid := [("unicode/utf8.acceptRanges", laid_unicode_utf8_acceptRanges), ("pavane/write.signs", laid_pavane_write_signs), ("pavane/reader.marks", laid_pavane_reader_marks), ("pavane/reader.quotes", laid_pavane_reader_quotes), ("unicode/utf8.first", laid_unicode_utf8_first)] }
def ReaderSkipsSaid : Prop := readerSkipsRow.holds Tryd.pinned (OpenSpec.ofChange readerSkipsSpec)

/-- ITS FALSE NEIGHBOUR: 'it returns false'. Refute it at one input. -/
def readerSkipsWrong : ChangeSpec := { name := "readerSkips", fn := fun _ => fun
  | [d1, d2] => { results := [.lit (.bool false)], args := [d1, d2] }
  | _ => none }
def ReaderSkipsWrongFalsely : Prop := readerSkipsRow.holds Tryd.pinned (OpenSpec.ofChange readerSkipsWrong)

/- THE SECOND FORM. 'bulk': how many values and letters a reading holds, each counted each time it is reached (what is shared counts as often as it is met; a slice's spare places count too). A statement '..UptoSaid' is the law's where the arguments, and the package variables that the reading takes, are together of bulk at most 1048576: NARROWER than '..Said'. Prove '..Said' where nothing that the law and all that it calls make is longer than what came in: it says more and counts as full. Else prove '..UptoSaid'. A law counts once. -/
mutual
def uptoBulk {H : Type} : DataW H → Nat
  | .lit (.string bytes) => bytes.length + 1
  | .lit _ => 1
  | .nil => 1
  | .ptr d => uptoBulk d + 1
  | .slice elems spare => uptoBulkAll elems + uptoBulkAll spare + 1
  | .agg parts => uptoBulkAll parts + 1
  | .iface _ d => uptoBulk d + 1
  | .map entries => uptoBulkEntries entries + 1
  | .held _ => 1
def uptoBulkAll {H : Type} : List (DataW H) → Nat
  | [] => 0
  | d :: r => uptoBulk d + uptoBulkAll r
def uptoBulkEntries {H : Type} : List (Lit × DataW H) → Nat
  | [] => 0
  | x :: r => uptoBulkEntry x + uptoBulkEntries r
def uptoBulkEntry {H : Type} : Lit × DataW H → Nat
  | (.string bytes, d) => bytes.length + uptoBulk d + 1
  | (_, d) => uptoBulk d + 1
 end
def uptoSmall : (H : Type) → List (DataW H) → Bool := fun _ ds => decide (uptoBulkAll ds ≤ 1048576)
def OpenSpec.upto (s : _root_.Go.ChangeSpec) : _root_.Go.OpenSpec := { _root_.Go.OpenSpec.ofChange s with cond := some uptoSmall }

/-- 'pavanelaw05.ReaderJoins', WHERE WHAT IT READS IS OF BULK AT MOST 1048576: true; the input reads as it did. -/
def readerJoinsUptoRow : OpenClaim := { program := "ytlohdglhebplfaadoor", sum := "6aac557c527eb9941c9ec658bb0fe58e09f158da1aaf58b985097612824f2508", func := "pavane/pavanelaw05.ReaderJoins", spec := "readerJoins", inPlace := ["internal/bytealg.IndexByteString", "internal/bytealg.IndexString", "internal/abi.NoEscape"], unfollowed := true, recurses := true, named := ["pavane/reader.marks", "pavane/reader.quotes", "unicode/utf8.first", "unicode/utf8.acceptRanges", "pavane/write.signs", "internal/bytealg.MaxLen"], apart := false, laid := [("unicode/utf8.acceptRanges", laid_unicode_utf8_acceptRanges), ("pavane/write.signs", laid_pavane_write_signs), ("pavane/reader.marks", laid_pavane_reader_marks), ("pavane/reader.quotes", laid_pavane_reader_quotes), ("unicode/utf8.first", laid_unicode_utf8_first)], narrowed := true }
def ReaderJoinsUptoSaid : Prop := readerJoinsUptoRow.holds Tryd.pinned (OpenSpec.upto readerJoinsSpec)

/-- 'pavanelaw05.ReaderSkips', WHERE WHAT IT READS IS OF BULK AT MOST 1048576: true; the input reads as it did. -/
def readerSkipsUptoRow : OpenClaim := { program := "ytlohdglhebplfaadoor", sum := "6aac557c527eb9941c9ec658bb0fe58e09f158da1aaf58b985097612824f2508", func := "pavane/pavanelaw05.ReaderSkips", spec := "readerSkips", inPlace := ["internal/bytealg.IndexByteString", "internal/bytealg.IndexString", "internal/abi.NoEscape"], unfollowed := true, recurses := true, named := ["pavane/reader.marks", "pavane/reader.quotes", "unicode/utf8.first", "unicode/utf8.acceptRanges", "pavane/write.signs", "internal/bytealg.MaxLen"], apart := false, laid := [("unicode/utf8.acceptRanges", laid_unicode_utf8_acceptRanges), ("pavane/write.signs", laid_pavane_write_signs), ("pavane/reader.marks", laid_pavane_reader_marks), ("pavane/reader.quotes", laid_pavane_reader_quotes), ("unicode/utf8.first", laid_unicode_utf8_first)], narrowed := true }
def ReaderSkipsUptoSaid : Prop := readerSkipsUptoRow.holds Tryd.pinned (OpenSpec.upto readerSkipsSpec)

end Rows
end Go.Proofs.YtlohdglhebplfaaDoor
