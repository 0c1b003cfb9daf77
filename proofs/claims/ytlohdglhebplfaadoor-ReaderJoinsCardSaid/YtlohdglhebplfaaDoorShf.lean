/-
  The library's contracts at this program's numbers: strings.HasPrefix, strings.TrimLeft of blanks, strings.Clone.
-/
import Derived.Shelf.Strings.Prefix
import Derived.Shelf.Strings.SlTrimAscii
import Derived.Shelf.Strconv.Clone
import Derived.Test.YtlohdglhebplfaaDoorChecked
namespace Go.Proofs.YtlohdglhebplfaaDoor
open Go.RowKit

def renS : Go.Shelf.Ren := { f := fun n => if n = 99 then 35 else if n = 119 then 92 else if n = 137 then 91 else if n = 151 then 88 else if n = 152 then 90 else if n = 161 then 81 else if n = 197 then 87 else if n = 206 then 58 else if n = 217 then 95 else if n = 224 then 93 else if n = 225 then 94 else if n = 227 then 83 else if n = 228 then 86 else if n = 231 then 82 else if n = 233 then 84 else if n = 235 then 85 else if n = 260 then 89 else if n = 266 then 96 else if n = 316 then 69 else 0, t := fun n => if n = 0 then 0 else if n = 3 then 3 else if n = 4 then 4 else if n = 5 then 5 else if n = 9 then 9 else if n = 20 then 20 else if n = 21 then 21 else if n = 37 then 90 else if n = 46 then 30 else if n = 51 then 88 else if n = 53 then 110 else if n = 75 then 96 else if n = 105 then 123 else if n = 115 then 117 else if n = 116 then 118 else if n = 117 then 119 else if n = 119 then 127 else if n = 123 then 121 else if n = 124 then 122 else if n = 127 then 104 else if n = 137 then 128 else if n = 138 then 129 else if n = 139 then 130 else 0, g := fun n => if n = 1 then 5 else if n = 3 then 3 else if n = 4 then 4 else 0 }
theorem lays99 : Go.Proofs.Lays.n99 Tryd.prog renS := by constructor <;> intros <;> kernel_rfl
theorem lays161 : Go.Proofs.Lays.n161 Tryd.prog renS := by constructor <;> intros <;> kernel_rfl
theorem lays316b : Go.Proofs.Lays.n316 Tryd.prog renS := by constructor <;> intros <;> kernel_rfl
theorem lays316 : Go.Proofs.LaysM.n316 Tryd.prog renS := by
  constructor
  · exact lays316b
  all_goals (intros; kernel_rfl)
theorem prefix_any (s p : ByteArray) (w : World) : Calls Tryd.prog 35 #[.string s, .string p] w fun e w' => e = .returned (.bool (Lib.hasPrefix s.data.toList p.data.toList)) ∧ w' = w := Any.strings_HasPrefix lays99 s p w
theorem trimSet_any (s cutset : ByteArray) (w : World) (hcs : cutset.size < 4294967281) (hascii : ∀ (j : Nat) b, cutset.data.toList[j]? = some b → b.toNat < 128) :
    Calls Tryd.prog 81 #[.string s, .string cutset] w fun e w' => e = .returned (.string ⟨(Lib.trimLeftS s.data.toList cutset.data.toList).toArray⟩) ∧ Below w.heap.size w w' :=
  Any.strings_TrimLeft_laid lays161 (by kernel_rfl) s cutset w hcs hascii
theorem sclone_any (s : ByteArray) (w : World) (hlim : s.size ≤ 281474976710656) : Calls Tryd.prog 69 #[.string s] w fun e w' => e = .returned (.string s) ∧ Below w.heap.size w w' := Any.stringslite_Clone lays316 s w hlim
end Go.Proofs.YtlohdglhebplfaaDoor
