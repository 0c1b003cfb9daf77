/-
  The library's contracts at this program's numbers: strings.HasPrefix, strings.TrimLeft of blanks, strings.Clone.
-/
import Derived.Shelf.Strings.Prefix
import Derived.Shelf.Strings.SlTrimAscii
import Derived.Shelf.Strconv.Clone
import Derived.Test.YtlohdglhebplfaaGreatDoorChecked
namespace Go.Proofs.YtlohdglhebplfaaGreatDoor
open Go.RowKit

def renS : Go.Shelf.Ren := { f := fun n => if n = 99 then 139 else if n = 119 then 281 else if n = 137 then 280 else if n = 151 then 277 else if n = 152 then 279 else if n = 161 then 268 else if n = 197 then 276 else if n = 206 then 183 else if n = 217 then 284 else if n = 224 then 282 else if n = 225 then 283 else if n = 227 then 272 else if n = 228 then 275 else if n = 231 then 271 else if n = 233 then 273 else if n = 235 then 274 else if n = 260 then 278 else if n = 266 then 285 else if n = 316 then 217 else 0, t := fun n => if n = 0 then 0 else if n = 3 then 3 else if n = 4 then 4 else if n = 5 then 5 else if n = 9 then 9 else if n = 20 then 20 else if n = 21 then 21 else if n = 37 then 107 else if n = 46 then 56 else if n = 51 then 162 else if n = 53 then 196 else if n = 75 then 146 else if n = 105 then 273 else if n = 115 then 265 else if n = 116 then 266 else if n = 117 then 267 else if n = 119 then 277 else if n = 123 then 269 else if n = 124 then 270 else if n = 127 then 151 else if n = 137 then 278 else if n = 138 then 279 else if n = 139 then 280 else 0, g := fun n => if n = 1 then 8 else if n = 3 then 6 else if n = 4 then 7 else 0 }
theorem lays99 : Go.Proofs.Lays.n99 Tryz.prog renS := by constructor <;> intros <;> kernel_rfl
theorem lays161 : Go.Proofs.Lays.n161 Tryz.prog renS := by constructor <;> intros <;> kernel_rfl
theorem lays316b : Go.Proofs.Lays.n316 Tryz.prog renS := by constructor <;> intros <;> kernel_rfl
theorem lays316 : Go.Proofs.LaysM.n316 Tryz.prog renS := by
  constructor
  · exact lays316b
  all_goals (intros; kernel_rfl)
theorem prefix_any (s p : ByteArray) (w : World) : Calls Tryz.prog 139 #[.string s, .string p] w fun e w' => e = .returned (.bool (Lib.hasPrefix s.data.toList p.data.toList)) ∧ w' = w := Any.strings_HasPrefix lays99 s p w
theorem trimSet_any (s cutset : ByteArray) (w : World) (hcs : cutset.size < 4294967281) (hascii : ∀ (j : Nat) b, cutset.data.toList[j]? = some b → b.toNat < 128) :
    Calls Tryz.prog 268 #[.string s, .string cutset] w fun e w' => e = .returned (.string ⟨(Lib.trimLeftS s.data.toList cutset.data.toList).toArray⟩) ∧ Below w.heap.size w w' :=
  Any.strings_TrimLeft_laid lays161 (by kernel_rfl) s cutset w hcs hascii
theorem sclone_any (s : ByteArray) (w : World) (hlim : s.size ≤ 281474976710656) : Calls Tryz.prog 217 #[.string s] w fun e w' => e = .returned (.string s) ∧ Below w.heap.size w w' := Any.stringslite_Clone lays316 s w hlim
end Go.Proofs.YtlohdglhebplfaaGreatDoor
