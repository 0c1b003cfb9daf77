/-
  NARROWER THAN 'FOR EVERY INPUT', by the rows' own cells (each row's printed sentence says how): DatumBack: loops · DatumOwn: loops · DatumWalks: loops · DatumSizes: loops.
  DERIVED. THE GIVEN ROWS OF THIS SEAT. 4 by the template 'for every input the law returns true; each argument reads behind the call as it read before'; 0 by the template 'total and deterministic' (their statements: YtgfamihldecmbaaTotals.lean).
  GIVEN WITH THE SEED: the statements are not yours to turn. If you find one false, say at which input.
  Laid BY PROGRAM, IN A SANDBOX (cutbox-rows.mjs): the forced cells as the released guide's own fill.sh prints them over the translation 3f17d3fc96acb2b5… (all of the seat's roots in one cut). By AI agents, Wed Nov 11 2026. No macro, syntax, notation, axiom, sorry.
-/
import Derived.Test.YtgfamihldecmbaaChecked
import GoSem.Claim
import GoSem.ClaimJoined
import GoSem.ClaimMapViews
import Derived.JoinedTies
import Derived.KernelRfl
namespace Go.Proofs.Ytgfamihldecmbaa
/- THE CELL 'sum', in the pinned program and in every row, IS THE sha256 OF THE DUMP (.gsa) THAT YtgfamihldecmbaaProg.lean LOADS. Nothing in Lean hashes anything: it is a label: what it is worth is what the hold of that sum in a sandbox is worth. -/
noncomputable def Try.pinned : Pinned := { name := "ytgfamihldecmbaa", sum := "3f17d3fc96acb2b5cf19c3e9bfe67f591bb2837ded69dfec45932332b2e40cb8", checked := Try.checked }
namespace Rows
def none {H : Type} : Left H := { results := [], args := [] }

/-- 'pavanelaw03.DatumBack': WHATEVER THE INPUT: true; the input reads as it did. -/
def datumBackSpec : ChangeSpec := { name := "datumBack", fn := fun _ => fun
  | [d1, d2] => { results := [.lit (.bool true)], args := [d1, d2] }
  | _ => none }
def datumBackRow : OpenClaim := { program := "ytgfamihldecmbaa", sum := "3f17d3fc96acb2b5cf19c3e9bfe67f591bb2837ded69dfec45932332b2e40cb8", func := "pavane/pavanelaw03.DatumBack", spec := "datumBack", unfollowed := true, recurses := true, loops := true, apart := false }
def DatumBackSaid : Prop := datumBackRow.holds Try.pinned (OpenSpec.ofChange datumBackSpec)

/-- ITS FALSE NEIGHBOUR: 'it returns false'. Refute it at one input. -/
def datumBackWrong : ChangeSpec := { name := "datumBack", fn := fun _ => fun
  | [d1, d2] => { results := [.lit (.bool false)], args := [d1, d2] }
  | _ => none }
def DatumBackWrongFalsely : Prop := datumBackRow.holds Try.pinned (OpenSpec.ofChange datumBackWrong)

/-- 'pavanelaw03.DatumOwn': WHATEVER THE INPUT: true; the input reads as it did. -/
def datumOwnSpec : ChangeSpec := { name := "datumOwn", fn := fun _ => fun
  | [d] => { results := [.lit (.bool true)], args := [d] }
  | _ => none }
def datumOwnRow : OpenClaim := { program := "ytgfamihldecmbaa", sum := "3f17d3fc96acb2b5cf19c3e9bfe67f591bb2837ded69dfec45932332b2e40cb8", func := "pavane/pavanelaw03.DatumOwn", spec := "datumOwn", unfollowed := true, recurses := true, loops := true, apart := false }
def DatumOwnSaid : Prop := datumOwnRow.holds Try.pinned (OpenSpec.ofChange datumOwnSpec)

/-- ITS FALSE NEIGHBOUR: 'it returns false'. Refute it at one input. -/
def datumOwnWrong : ChangeSpec := { name := "datumOwn", fn := fun _ => fun
  | [d] => { results := [.lit (.bool false)], args := [d] }
  | _ => none }
def DatumOwnWrongFalsely : Prop := datumOwnRow.holds Try.pinned (OpenSpec.ofChange datumOwnWrong)

/-- 'pavanelaw03.DatumWalks': WHATEVER THE INPUT: true; the input reads as it did. -/
def datumWalksSpec : ChangeSpec := { name := "datumWalks", fn := fun _ => fun
  | [d1, d2] => { results := [.lit (.bool true)], args := [d1, d2] }
  | _ => none }
def datumWalksRow : OpenClaim := { program := "ytgfamihldecmbaa", sum := "3f17d3fc96acb2b5cf19c3e9bfe67f591bb2837ded69dfec45932332b2e40cb8", func := "pavane/pavanelaw03.DatumWalks", spec := "datumWalks", unfollowed := true, recurses := true, loops := true, apart := false }
def DatumWalksSaid : Prop := datumWalksRow.holds Try.pinned (OpenSpec.ofChange datumWalksSpec)

/-- ITS FALSE NEIGHBOUR: 'it returns false'. Refute it at one input. -/
def datumWalksWrong : ChangeSpec := { name := "datumWalks", fn := fun _ => fun
  | [d1, d2] => { results := [.lit (.bool false)], args := [d1, d2] }
  | _ => none }
def DatumWalksWrongFalsely : Prop := datumWalksRow.holds Try.pinned (OpenSpec.ofChange datumWalksWrong)

/-- 'pavanelaw03.DatumSizes': WHATEVER THE INPUT: true; the input reads as it did. -/
def datumSizesSpec : ChangeSpec := { name := "datumSizes", fn := fun _ => fun
  | [d] => { results := [.lit (.bool true)], args := [d] }
  | _ => none }
def datumSizesRow : OpenClaim := { program := "ytgfamihldecmbaa", sum := "3f17d3fc96acb2b5cf19c3e9bfe67f591bb2837ded69dfec45932332b2e40cb8", func := "pavane/pavanelaw03.DatumSizes", spec := "datumSizes", unfollowed := true, recurses := true, loops := true, apart := false }
def DatumSizesSaid : Prop := datumSizesRow.holds Try.pinned (OpenSpec.ofChange datumSizesSpec)

/-- ITS FALSE NEIGHBOUR: 'it returns false'. Refute it at one input. -/
def datumSizesWrong : ChangeSpec := { name := "datumSizes", fn := fun _ => fun
  | [d] => { results := [.lit (.bool false)], args := [d] }
  | _ => none }
def DatumSizesWrongFalsely : Prop := datumSizesRow.holds Try.pinned (OpenSpec.ofChange datumSizesWrong)

/- THE SECOND FORM. 'bulk': how many values and letters a reading holds, each counted each time it is reached (what is shared counts as often as it is met; a slice's spare places count too). A statement '..UptoSaid' is the law's where the arguments, and the package variables that the reading takes, are together of bulk at most 1048576: NARROWER than '..Said'. Prove '..Said' where nothing that the law and all that it calls make is longer than what came in: it says more and counts as full. Else prove '..UptoSaid'. A law counts once. -/
mutual
def uptoBulk {H : Type} : DataW H → Nat
  | .lit (.string bytes) => bytes.length + 1
  | .lit _ => 1
  | .nil => 1
  | .ptr d => uptoBulk d + 1
  | .slice elems spare => uptoBulkAll elems + uptoBulkAll spare + 1
  | .agg parts => uptoBulkAll parts + 1
  | .iface _ d => uptoBulk d + 1
  | .map entries => uptoBulkEntries entries + 1
  | .held _ => 1
def uptoBulkAll {H : Type} : List (DataW H) → Nat
  | [] => 0
  | d :: r => uptoBulk d + uptoBulkAll r
def uptoBulkEntries {H : Type} : List (Lit × DataW H) → Nat
  | [] => 0
  | x :: r => uptoBulkEntry x + uptoBulkEntries r
def uptoBulkEntry {H : Type} : Lit × DataW H → Nat
  | (.string bytes, d) => bytes.length + uptoBulk d + 1
  | (_, d) => uptoBulk d + 1
 end
def uptoSmall : (H : Type) → List (DataW H) → Bool := fun _ ds => decide (uptoBulkAll ds ≤ 1048576)
def OpenSpec.upto (s : _root_.Go.ChangeSpec) : _root_.Go.OpenSpec := { _root_.Go.OpenSpec.ofChange s with cond := some uptoSmall }

/-- 'pavanelaw03.DatumBack', WHERE WHAT IT READS IS OF BULK AT MOST 1048576: true; the input reads as it did. -/
def datumBackUptoRow : OpenClaim := { program := "ytgfamihldecmbaa", sum := "3f17d3fc96acb2b5cf19c3e9bfe67f591bb2837ded69dfec45932332b2e40cb8", func := "pavane/pavanelaw03.DatumBack", spec := "datumBack", unfollowed := true, recurses := true, loops := true, apart := false, narrowed := true }
def DatumBackUptoSaid : Prop := datumBackUptoRow.holds Try.pinned (OpenSpec.upto datumBackSpec)

/-- 'pavanelaw03.DatumOwn', WHERE WHAT IT READS IS OF BULK AT MOST 1048576: true; the input reads as it did. -/
def datumOwnUptoRow : OpenClaim := { program := "ytgfamihldecmbaa", sum := "3f17d3fc96acb2b5cf19c3e9bfe67f591bb2837ded69dfec45932332b2e40cb8", func := "pavane/pavanelaw03.DatumOwn", spec := "datumOwn", unfollowed := true, recurses := true, loops := true, apart := false, narrowed := true }
def DatumOwnUptoSaid : Prop := datumOwnUptoRow.holds Try.pinned (OpenSpec.upto datumOwnSpec)

/-- 'pavanelaw03.DatumWalks', WHERE WHAT IT READS IS OF BULK AT MOST 1048576: true; the input reads as it did. -/
def datumWalksUptoRow : OpenClaim := { program := "ytgfamihldecmbaa", sum := "3f17d3fc96acb2b5cf19c3e9bfe67f591bb2837ded69dfec45932332b2e40cb8", func := "pavane/pavanelaw03.DatumWalks", spec := "datumWalks", unfollowed := true, recurses := true, loops := true, apart := false, narrowed := true }
def DatumWalksUptoSaid : Prop := datumWalksUptoRow.holds Try.pinned (OpenSpec.upto datumWalksSpec)

/-- 'pavanelaw03.DatumSizes', WHERE WHAT IT READS IS OF BULK AT MOST 1048576: true; the input reads as it did. -/
def datumSizesUptoRow : OpenClaim := { program := "ytgfamihldecmbaa", sum := "3f17d3fc96acb2b5cf19c3e9bfe67f591bb2837ded69dfec45932332b2e40cb8", func := "pavane/pavanelaw03.DatumSizes", spec := "datumSizes", unfollowed := true, recurses := true, loops := true, apart := false, narrowed := true }
def DatumSizesUptoSaid : Prop := datumSizesUptoRow.holds Try.pinned (OpenSpec.upto datumSizesSpec)

end Rows
end Go.Proofs.Ytgfamihldecmbaa
