/-
  write.putInside, write.between: a text between two marks.
-/
import Derived.Test.YtlohdglhebplfaaDoorBld
import Derived.WalkKit
import Derived.Lib.Hide
import Derived.IntWalk
namespace Go.Proofs.YtlohdglhebplfaaDoor
open Go.RowKit

/-- The number's byte. -/
def by8 (n : Nat) : UInt8 := UInt8.ofNat n
theorem putZ (base b : Nat) (l : List UInt8) (z : Int) (w : World) (h : Bl base b l w) (hl : l.length < 100000000000000) (hb : base ≤ w.heap.size) (h0 : 0 ≤ z) (h1 : z < 256) :
    Calls Tryd.prog 63 #[.pointer (some ⟨b, 0, none⟩), .int .u8 z] w fun e w' => e = .returned .nilIface ∧ Wrote base b (l ++ [by8 z.toNat]) w w' := by
  obtain ⟨n, rfl⟩ := Int.eq_ofNat_of_zero_le h0
  have := putByte base b l (by8 n) w h hl hb
  have e : (by8 n).toNat = n := by unfold by8; rw [UInt8.toNat_ofNat']; omega
  rw [e] at this
  exact this
theorem Wrote.size {base b : Nat} {l : List UInt8} {w w' : World} (h : Wrote base b l w w') : w.heap.size ≤ w'.heap.size := h.2.1.size
theorem Wrote.trans {base b : Nat} {l m : List UInt8} {w w1 w2 : World} (h : Wrote base b l w w1) (k : Wrote base b m w1 w2) : Wrote base b m w w2 := ⟨k.1, h.2.1.trans k.2.1, h.2.2.trans k.2.2⟩

def hexd (i : Nat) : UInt8 := if i < 10 then by8 (48 + i) else by8 (87 + i)
theorem hex_at (i : Nat) (h : i < (⟨#[48, 49, 50, 51, 52, 53, 54, 55, 56, 57, 97, 98, 99, 100, 101, 102]⟩ : ByteArray).size) : (⟨#[48, 49, 50, 51, 52, 53, 54, 55, 56, 57, 97, 98, 99, 100, 101, 102]⟩ : ByteArray)[i] = hexd i := by
  have key : ∀ k : Fin 16, (⟨#[48, 49, 50, 51, 52, 53, 54, 55, 56, 57, 97, 98, 99, 100, 101, 102]⟩ : ByteArray)[k.val]'(k.isLt) = hexd k.val := by decide
  exact key ⟨i, h⟩
/-- A byte between two marks. -/
def esc (M n : Nat) : List UInt8 := if n = M ∨ n = 92 then [by8 92, by8 n] else if M = 34 ∧ n = 10 then [by8 92, by8 110] else if M = 34 ∧ n = 9 then [by8 92, by8 116]
  else if n < 32 ∨ 126 < n then [by8 92, by8 120, hexd (n / 16), hexd (n % 16), by8 59] else [by8 n]
theorem esc_length (M n : Nat) : 1 ≤ (esc M n).length ∧ (esc M n).length ≤ 5 := by unfold esc; (repeat' split) <;> simp

end Go.Proofs.YtlohdglhebplfaaDoor
