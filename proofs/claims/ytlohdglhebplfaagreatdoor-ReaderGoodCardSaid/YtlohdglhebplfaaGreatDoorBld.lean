/-
  strings.Builder, at this program's numbers (the library's contracts): a byte, a text, and what it holds.
-/
import Derived.Shelf.Strings.BuilderK
import Derived.Test.YtlohdglhebplfaaGreatDoorChecked
namespace Go.Proofs.YtlohdglhebplfaaGreatDoor
open Go.RowKit

def renB : Go.Shelf.Ren := { f := fun n => if n = 166 then 120 else if n = 167 then 205 else if n = 169 then 77 else if n = 240 then 161 else if n = 276 then 208 else 0, t := fun n => if n = 0 then 0 else if n = 3 then 3 else if n = 4 then 4 else if n = 5 then 5 else if n = 9 then 9 else if n = 20 then 20 else if n = 37 then 107 else if n = 70 then 106 else if n = 72 then 109 else if n = 75 then 146 else if n = 80 then 113 else if n = 127 then 151 else if n = 164 then 218 else 0, g := fun _ => 0 }
theorem lays166 : Go.Proofs.Lays.n166 Tryz.prog renB := by constructor <;> intros <;> kernel_rfl
theorem lays167 : Go.Proofs.Lays.n167 Tryz.prog renB := by constructor <;> intros <;> kernel_rfl
theorem lays169 : Go.Proofs.Lays.n169 Tryz.prog renB := by constructor <;> intros <;> kernel_rfl
theorem layX72 : Go.Proofs.Builder.X72 Tryz.prog renB := by constructor <;> kernel_rfl
theorem layExtra : Go.Proofs.Builder.Extra Tryz.prog renB := { toX72 := layX72, t5 := by kernel_rfl, a5 := fun _ => by kernel_rfl, z5 := fun _ => by kernel_rfl, v5 := fun _ => by kernel_rfl, infoByte := by kernel_rfl, cellsByte := by kernel_rfl, sizeByte := by kernel_rfl, neB5 := by decide }

/-- A builder in block b, from base on, holds these bytes. -/
def Bl (base b : Nat) (l : List UInt8) (w : World) : Prop := Lib.IsBuilderF 109 5 base b (Lib.byteCells l) w
/-- What a writer leaves: the bytes; what lay below base; whatever is neither the builder's block nor a row of bytes. -/
def Wrote (base b : Nat) (l : List UInt8) (w w' : World) : Prop := Bl base b l w' ∧ Below base w w' ∧ Lib.OthersKept 5 (some b) w w'

theorem byteCells_append (l m : List UInt8) : Lib.byteCells (l ++ m) = Lib.byteCells l ++ Lib.byteCells m := by simp [Lib.byteCells]
theorem byteCells_length (l : List UInt8) : (Lib.byteCells l).length = l.length := by simp [Lib.byteCells]

theorem putByte (base b : Nat) (l : List UInt8) (c : UInt8) (w : World) (h : Bl base b l w) (hl : l.length < 100000000000000) (hb : base ≤ w.heap.size) :
    Calls Tryz.prog 205 #[.pointer (some ⟨b, 0, none⟩), .int .u8 (c.toNat : Int)] w fun e w' => e = .returned .nilIface ∧ Wrote base b (l ++ [c]) w w' := by
  refine (Go.Proofs.Any.Builder_WriteByte_k lays167 layExtra base b (Lib.byteCells l) (c.toNat : Int) w h (by rw [byteCells_length]; omega) hb).mono ?_
  rintro e w' ⟨he, h1, h2, h3⟩
  refine ⟨he, ?_, h2, h3⟩
  unfold Bl
  rw [byteCells_append]
  exact .inr h1
theorem putText (base b : Nat) (l : List UInt8) (s : ByteArray) (w : World) (h : Bl base b l w) (hl : l.length + s.size < 100000000000000) (hb : base ≤ w.heap.size) :
    Calls Tryz.prog 120 #[.pointer (some ⟨b, 0, none⟩), .string s] w fun e w' => e = .returned (.tuple #[.int .i64 s.size, .nilIface]) ∧ Wrote base b (l ++ s.data.toList) w w' := by
  refine (Go.Proofs.Any.Builder_WriteString_k lays166 layExtra base b (Lib.byteCells l) s w h (by rw [byteCells_length]; omega) hb).mono ?_
  rintro e w' ⟨he, h1, h2, h3⟩
  refine ⟨he, ?_, h2, h3⟩
  unfold Bl
  rw [byteCells_append]
  exact .inr h1
theorem built (base b : Nat) (l : List UInt8) (w : World) (h : Bl base b l w) (hb : base ≤ w.heap.size) :
    Calls Tryz.prog 77 #[.pointer (some ⟨b, 0, none⟩)] w fun e w' => e = .returned (.string ⟨l.toArray⟩) ∧ Wrote base b l w w' :=
  (Go.Proofs.Any.Builder_String_any_k lays169 layExtra base b l w h hb).mono fun _ _ ⟨he, h1, h2, h3⟩ => ⟨he, h1, h2, h3⟩
theorem Bl.fresh (w : World) : Bl w.heap.size w.heap.size [] (w.alloc (.cells #[.pointer none, .slice none 0 0] 109)) := Lib.IsBuilderF.of (Lib.fresh_isBuilder _ _ w)
end Go.Proofs.YtlohdglhebplfaaGreatDoor
