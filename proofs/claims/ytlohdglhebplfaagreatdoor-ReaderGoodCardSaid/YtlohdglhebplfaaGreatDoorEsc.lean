/-
  write.putInside, write.between: a text between two marks.
-/
import Derived.Test.YtlohdglhebplfaaGreatDoorBld
import Derived.WalkKit
import Derived.Lib.Hide
import Derived.IntWalk
namespace Go.Proofs.YtlohdglhebplfaaGreatDoor
open Go.RowKit

/-- The number's byte. -/
def by8 (n : Nat) : UInt8 := UInt8.ofNat n
theorem putZ (base b : Nat) (l : List UInt8) (z : Int) (w : World) (h : Bl base b l w) (hl : l.length < 100000000000000) (hb : base ≤ w.heap.size) (h0 : 0 ≤ z) (h1 : z < 256) :
    Calls Tryz.prog 205 #[.pointer (some ⟨b, 0, none⟩), .int .u8 z] w fun e w' => e = .returned .nilIface ∧ Wrote base b (l ++ [by8 z.toNat]) w w' := by
  obtain ⟨n, rfl⟩ := Int.eq_ofNat_of_zero_le h0
  have := putByte base b l (by8 n) w h hl hb
  have e : (by8 n).toNat = n := by unfold by8; rw [UInt8.toNat_ofNat']; omega
  rw [e] at this
  exact this
theorem Wrote.size {base b : Nat} {l : List UInt8} {w w' : World} (h : Wrote base b l w w') : w.heap.size ≤ w'.heap.size := h.2.1.size
theorem Wrote.trans {base b : Nat} {l m : List UInt8} {w w1 w2 : World} (h : Wrote base b l w w1) (k : Wrote base b m w1 w2) : Wrote base b m w w2 := ⟨k.1, h.2.1.trans k.2.1, h.2.2.trans k.2.2⟩

def hexd (i : Nat) : UInt8 := if i < 10 then by8 (48 + i) else by8 (87 + i)
theorem hex_at (i : Nat) (h : i < (⟨#[48, 49, 50, 51, 52, 53, 54, 55, 56, 57, 97, 98, 99, 100, 101, 102]⟩ : ByteArray).size) : (⟨#[48, 49, 50, 51, 52, 53, 54, 55, 56, 57, 97, 98, 99, 100, 101, 102]⟩ : ByteArray)[i] = hexd i := by
  have key : ∀ k : Fin 16, (⟨#[48, 49, 50, 51, 52, 53, 54, 55, 56, 57, 97, 98, 99, 100, 101, 102]⟩ : ByteArray)[k.val]'(k.isLt) = hexd k.val := by decide
  exact key ⟨i, h⟩
/-- A byte between two marks. -/
def esc (M n : Nat) : List UInt8 := if n = M ∨ n = 92 then [by8 92, by8 n] else if M = 34 ∧ n = 10 then [by8 92, by8 110] else if M = 34 ∧ n = 9 then [by8 92, by8 116]
  else if n < 32 ∨ 126 < n then [by8 92, by8 120, hexd (n / 16), hexd (n % 16), by8 59] else [by8 n]
theorem esc_length (M n : Nat) : 1 ≤ (esc M n).length ∧ (esc M n).length ≤ 5 := by unfold esc; (repeat' split) <;> simp

set_option maxRecDepth 100000 in
set_option maxHeartbeats 3200000 in
theorem putIn_bar_mark (base b : Nat) (l : List UInt8) (w : World) (h : Bl base b l w) (hl : l.length < 10000000000000) (hb : base ≤ w.heap.size) :
    Calls Tryz.prog 235 #[.func (.func 205) #[.pointer (some ⟨b, 0, none⟩)] #[], .int .u8 124, .int .u8 124] w fun e w' => e = .returned (.tuple #[]) ∧ Wrote base b (l ++ esc 124 124) w w' := by
  go_enter Tryz.func235, Tryz.ntmps235
  go_wp2_with fail
  refine (putZ base b _ _ _ h (by omega) (by omega) (by omega) (by omega)).mono ?_
  rintro e w1 ⟨rfl, h1⟩
  have z1 := h1.size
  go_wp2_with fail
  refine (putZ base b _ _ _ h1.1 (by simp; omega) (by omega) (by omega) (by omega)).mono ?_
  rintro e w2 ⟨rfl, h2⟩
  have z2 := h2.size
  go_wp2_with fail
  go_end0
  refine ⟨rfl, ?_⟩
  have hw := (h1).trans h2
  simpa [esc, by8] using hw

set_option maxRecDepth 100000 in
set_option maxHeartbeats 3200000 in
theorem putIn_bar_back (base b : Nat) (l : List UInt8) (w : World) (h : Bl base b l w) (hl : l.length < 10000000000000) (hb : base ≤ w.heap.size) :
    Calls Tryz.prog 235 #[.func (.func 205) #[.pointer (some ⟨b, 0, none⟩)] #[], .int .u8 124, .int .u8 92] w fun e w' => e = .returned (.tuple #[]) ∧ Wrote base b (l ++ esc 124 92) w w' := by
  go_enter Tryz.func235, Tryz.ntmps235
  go_wp2_with fail
  refine (putZ base b _ _ _ h (by omega) (by omega) (by omega) (by omega)).mono ?_
  rintro e w1 ⟨rfl, h1⟩
  have z1 := h1.size
  go_wp2_with fail
  refine (putZ base b _ _ _ h1.1 (by simp; omega) (by omega) (by omega) (by omega)).mono ?_
  rintro e w2 ⟨rfl, h2⟩
  have z2 := h2.size
  go_wp2_with fail
  go_end0
  refine ⟨rfl, ?_⟩
  have hw := (h1).trans h2
  simpa [esc, by8] using hw

set_option maxRecDepth 100000 in
set_option maxHeartbeats 3200000 in
theorem putIn_bar_low (base b : Nat) (l : List UInt8) (n : Nat) (w : World) (h : Bl base b l w) (hl : l.length < 10000000000000) (hb : base ≤ w.heap.size) (hn : n < 256) (hm : n ≠ 124) (hk : n ≠ 92) (hx : n < 32) :
    Calls Tryz.prog 235 #[.func (.func 205) #[.pointer (some ⟨b, 0, none⟩)] #[], .int .u8 124, .int .u8 (n : Int)] w fun e w' => e = .returned (.tuple #[]) ∧ Wrote base b (l ++ esc 124 n) w w' := by
  have t1 : ((n : Int) == 124) = false := by simp; omega
  have t2 : ((n : Int) == 92) = false := by simp; omega
  have t3 : decide ((n : Int) < 32) = true := by simp; omega
  have HE := Lib.hid (And.intro hm hk)
  clear hm hk
  go_enter Tryz.func235, Tryz.ntmps235
  go_wp2_with fail
  refine (putZ base b _ _ _ h (by omega) (by omega) (by omega) (by omega)).mono ?_
  rintro e w1 ⟨rfl, h1⟩
  have z1 := h1.size
  go_wp2_with fail
  refine (putZ base b _ _ _ h1.1 (by simp; omega) (by omega) (by omega) (by omega)).mono ?_
  rintro e w2 ⟨rfl, h2⟩
  have z2 := h2.size
  go_wp2_with fail
  refine (putByte base b _ _ _ h2.1 (by simp; omega) (by omega)).mono ?_
  rintro e w3 ⟨rfl, h3⟩
  have z3 := h3.size
  go_wp2_with fail
  refine (putByte base b _ _ _ h3.1 (by simp; omega) (by omega)).mono ?_
  rintro e w4 ⟨rfl, h4⟩
  have z4 := h4.size
  go_wp2_with fail
  refine (putZ base b _ _ _ h4.1 (by simp; omega) (by omega) (by omega) (by omega)).mono ?_
  rintro e w5 ⟨rfl, h5⟩
  have z5 := h5.size
  go_wp2_with fail
  go_end0
  refine ⟨rfl, ?_⟩
  have hw := ((((h1).trans h2).trans h3).trans h4).trans h5
  rw [esc, if_neg (by have := HE.out; omega), if_neg (by omega), if_neg (by omega), if_pos (by omega)]
  rw [hex_at, hex_at] at hw
  simpa [by8] using hw

set_option maxRecDepth 100000 in
set_option maxHeartbeats 3200000 in
theorem putIn_bar_high (base b : Nat) (l : List UInt8) (n : Nat) (w : World) (h : Bl base b l w) (hl : l.length < 10000000000000) (hb : base ≤ w.heap.size) (hn : n < 256) (hm : n ≠ 124) (hk : n ≠ 92) (hx : 126 < n) :
    Calls Tryz.prog 235 #[.func (.func 205) #[.pointer (some ⟨b, 0, none⟩)] #[], .int .u8 124, .int .u8 (n : Int)] w fun e w' => e = .returned (.tuple #[]) ∧ Wrote base b (l ++ esc 124 n) w w' := by
  have t1 : ((n : Int) == 124) = false := by simp; omega
  have t2 : ((n : Int) == 92) = false := by simp; omega
  have t3 : decide ((n : Int) < 32) = false := by simp; omega
  have t4 : decide (126 < (n : Int)) = true := by simp; omega
  have HE := Lib.hid (And.intro hm hk)
  clear hm hk
  go_enter Tryz.func235, Tryz.ntmps235
  go_wp2_with fail
  refine (putZ base b _ _ _ h (by omega) (by omega) (by omega) (by omega)).mono ?_
  rintro e w1 ⟨rfl, h1⟩
  have z1 := h1.size
  go_wp2_with fail
  refine (putZ base b _ _ _ h1.1 (by simp; omega) (by omega) (by omega) (by omega)).mono ?_
  rintro e w2 ⟨rfl, h2⟩
  have z2 := h2.size
  go_wp2_with fail
  refine (putByte base b _ _ _ h2.1 (by simp; omega) (by omega)).mono ?_
  rintro e w3 ⟨rfl, h3⟩
  have z3 := h3.size
  go_wp2_with fail
  refine (putByte base b _ _ _ h3.1 (by simp; omega) (by omega)).mono ?_
  rintro e w4 ⟨rfl, h4⟩
  have z4 := h4.size
  go_wp2_with fail
  refine (putZ base b _ _ _ h4.1 (by simp; omega) (by omega) (by omega) (by omega)).mono ?_
  rintro e w5 ⟨rfl, h5⟩
  have z5 := h5.size
  go_wp2_with fail
  go_end0
  refine ⟨rfl, ?_⟩
  have hw := ((((h1).trans h2).trans h3).trans h4).trans h5
  rw [esc, if_neg (by have := HE.out; omega), if_neg (by omega), if_neg (by omega), if_pos (by omega)]
  rw [hex_at, hex_at] at hw
  simpa [by8] using hw

set_option maxRecDepth 100000 in
set_option maxHeartbeats 3200000 in
theorem putIn_bar_plain (base b : Nat) (l : List UInt8) (n : Nat) (w : World) (h : Bl base b l w) (hl : l.length < 10000000000000) (hb : base ≤ w.heap.size) (hn : n < 256) (hm : n ≠ 124) (hk : n ≠ 92) (hx : 32 ≤ n) (hy : n ≤ 126) :
    Calls Tryz.prog 235 #[.func (.func 205) #[.pointer (some ⟨b, 0, none⟩)] #[], .int .u8 124, .int .u8 (n : Int)] w fun e w' => e = .returned (.tuple #[]) ∧ Wrote base b (l ++ esc 124 n) w w' := by
  have t1 : ((n : Int) == 124) = false := by simp; omega
  have t2 : ((n : Int) == 92) = false := by simp; omega
  have t3 : decide ((n : Int) < 32) = false := by simp; omega
  have t4 : decide (126 < (n : Int)) = false := by simp; omega
  have HE := Lib.hid (And.intro hm hk)
  clear hm hk
  go_enter Tryz.func235, Tryz.ntmps235
  go_wp2_with fail
  refine (putZ base b _ _ _ h (by omega) (by omega) (by omega) (by omega)).mono ?_
  rintro e w1 ⟨rfl, h1⟩
  have z1 := h1.size
  go_wp2_with fail
  go_end0
  refine ⟨rfl, ?_⟩
  have hw := h1
  rw [esc, if_neg (by have := HE.out; omega), if_neg (by omega), if_neg (by omega), if_neg (by omega)]
  simpa [by8] using hw

set_option maxRecDepth 100000 in
set_option maxHeartbeats 3200000 in
theorem putIn_quo_mark (base b : Nat) (l : List UInt8) (w : World) (h : Bl base b l w) (hl : l.length < 10000000000000) (hb : base ≤ w.heap.size) :
    Calls Tryz.prog 235 #[.func (.func 205) #[.pointer (some ⟨b, 0, none⟩)] #[], .int .u8 34, .int .u8 34] w fun e w' => e = .returned (.tuple #[]) ∧ Wrote base b (l ++ esc 34 34) w w' := by
  go_enter Tryz.func235, Tryz.ntmps235
  go_wp2_with fail
  refine (putZ base b _ _ _ h (by omega) (by omega) (by omega) (by omega)).mono ?_
  rintro e w1 ⟨rfl, h1⟩
  have z1 := h1.size
  go_wp2_with fail
  refine (putZ base b _ _ _ h1.1 (by simp; omega) (by omega) (by omega) (by omega)).mono ?_
  rintro e w2 ⟨rfl, h2⟩
  have z2 := h2.size
  go_wp2_with fail
  go_end0
  refine ⟨rfl, ?_⟩
  have hw := (h1).trans h2
  simpa [esc, by8] using hw

set_option maxRecDepth 100000 in
set_option maxHeartbeats 3200000 in
theorem putIn_quo_back (base b : Nat) (l : List UInt8) (w : World) (h : Bl base b l w) (hl : l.length < 10000000000000) (hb : base ≤ w.heap.size) :
    Calls Tryz.prog 235 #[.func (.func 205) #[.pointer (some ⟨b, 0, none⟩)] #[], .int .u8 34, .int .u8 92] w fun e w' => e = .returned (.tuple #[]) ∧ Wrote base b (l ++ esc 34 92) w w' := by
  go_enter Tryz.func235, Tryz.ntmps235
  go_wp2_with fail
  refine (putZ base b _ _ _ h (by omega) (by omega) (by omega) (by omega)).mono ?_
  rintro e w1 ⟨rfl, h1⟩
  have z1 := h1.size
  go_wp2_with fail
  refine (putZ base b _ _ _ h1.1 (by simp; omega) (by omega) (by omega) (by omega)).mono ?_
  rintro e w2 ⟨rfl, h2⟩
  have z2 := h2.size
  go_wp2_with fail
  go_end0
  refine ⟨rfl, ?_⟩
  have hw := (h1).trans h2
  simpa [esc, by8] using hw

set_option maxRecDepth 100000 in
set_option maxHeartbeats 3200000 in
theorem putIn_quo_feed (base b : Nat) (l : List UInt8) (w : World) (h : Bl base b l w) (hl : l.length < 10000000000000) (hb : base ≤ w.heap.size) :
    Calls Tryz.prog 235 #[.func (.func 205) #[.pointer (some ⟨b, 0, none⟩)] #[], .int .u8 34, .int .u8 10] w fun e w' => e = .returned (.tuple #[]) ∧ Wrote base b (l ++ esc 34 10) w w' := by
  go_enter Tryz.func235, Tryz.ntmps235
  go_wp2_with fail
  refine (putZ base b _ _ _ h (by omega) (by omega) (by omega) (by omega)).mono ?_
  rintro e w1 ⟨rfl, h1⟩
  have z1 := h1.size
  go_wp2_with fail
  refine (putZ base b _ _ _ h1.1 (by simp; omega) (by omega) (by omega) (by omega)).mono ?_
  rintro e w2 ⟨rfl, h2⟩
  have z2 := h2.size
  go_wp2_with fail
  go_end0
  refine ⟨rfl, ?_⟩
  have hw := (h1).trans h2
  simpa [esc, by8] using hw

set_option maxRecDepth 100000 in
set_option maxHeartbeats 3200000 in
theorem putIn_quo_tab (base b : Nat) (l : List UInt8) (w : World) (h : Bl base b l w) (hl : l.length < 10000000000000) (hb : base ≤ w.heap.size) :
    Calls Tryz.prog 235 #[.func (.func 205) #[.pointer (some ⟨b, 0, none⟩)] #[], .int .u8 34, .int .u8 9] w fun e w' => e = .returned (.tuple #[]) ∧ Wrote base b (l ++ esc 34 9) w w' := by
  go_enter Tryz.func235, Tryz.ntmps235
  go_wp2_with fail
  refine (putZ base b _ _ _ h (by omega) (by omega) (by omega) (by omega)).mono ?_
  rintro e w1 ⟨rfl, h1⟩
  have z1 := h1.size
  go_wp2_with fail
  refine (putZ base b _ _ _ h1.1 (by simp; omega) (by omega) (by omega) (by omega)).mono ?_
  rintro e w2 ⟨rfl, h2⟩
  have z2 := h2.size
  go_wp2_with fail
  go_end0
  refine ⟨rfl, ?_⟩
  have hw := (h1).trans h2
  simpa [esc, by8] using hw

set_option maxRecDepth 100000 in
set_option maxHeartbeats 3200000 in
theorem putIn_quo_low (base b : Nat) (l : List UInt8) (n : Nat) (w : World) (h : Bl base b l w) (hl : l.length < 10000000000000) (hb : base ≤ w.heap.size) (hn : n < 256) (hm : n ≠ 34) (hk : n ≠ 92) (hf : n ≠ 10) (ht : n ≠ 9) (hx : n < 32) :
    Calls Tryz.prog 235 #[.func (.func 205) #[.pointer (some ⟨b, 0, none⟩)] #[], .int .u8 34, .int .u8 (n : Int)] w fun e w' => e = .returned (.tuple #[]) ∧ Wrote base b (l ++ esc 34 n) w w' := by
  have t1 : ((n : Int) == 34) = false := by simp; omega
  have t2 : ((n : Int) == 92) = false := by simp; omega
  have t5 : ((n : Int) == 10) = false := by simp; omega
  have t6 : ((n : Int) == 9) = false := by simp; omega
  have t3 : decide ((n : Int) < 32) = true := by simp; omega
  have HE := Lib.hid (And.intro hm (And.intro hk (And.intro hf ht)))
  clear hm hk hf ht
  go_enter Tryz.func235, Tryz.ntmps235
  go_wp2_with fail
  refine (putZ base b _ _ _ h (by omega) (by omega) (by omega) (by omega)).mono ?_
  rintro e w1 ⟨rfl, h1⟩
  have z1 := h1.size
  go_wp2_with fail
  refine (putZ base b _ _ _ h1.1 (by simp; omega) (by omega) (by omega) (by omega)).mono ?_
  rintro e w2 ⟨rfl, h2⟩
  have z2 := h2.size
  go_wp2_with fail
  refine (putByte base b _ _ _ h2.1 (by simp; omega) (by omega)).mono ?_
  rintro e w3 ⟨rfl, h3⟩
  have z3 := h3.size
  go_wp2_with fail
  refine (putByte base b _ _ _ h3.1 (by simp; omega) (by omega)).mono ?_
  rintro e w4 ⟨rfl, h4⟩
  have z4 := h4.size
  go_wp2_with fail
  refine (putZ base b _ _ _ h4.1 (by simp; omega) (by omega) (by omega) (by omega)).mono ?_
  rintro e w5 ⟨rfl, h5⟩
  have z5 := h5.size
  go_wp2_with fail
  go_end0
  refine ⟨rfl, ?_⟩
  have hw := ((((h1).trans h2).trans h3).trans h4).trans h5
  rw [esc, if_neg (by have := HE.out; omega), if_neg (by have := HE.out; omega), if_neg (by have := HE.out; omega), if_pos (by omega)]
  rw [hex_at, hex_at] at hw
  simpa [by8] using hw

set_option maxRecDepth 100000 in
set_option maxHeartbeats 3200000 in
theorem putIn_quo_high (base b : Nat) (l : List UInt8) (n : Nat) (w : World) (h : Bl base b l w) (hl : l.length < 10000000000000) (hb : base ≤ w.heap.size) (hn : n < 256) (hm : n ≠ 34) (hk : n ≠ 92) (hf : n ≠ 10) (ht : n ≠ 9) (hx : 126 < n) :
    Calls Tryz.prog 235 #[.func (.func 205) #[.pointer (some ⟨b, 0, none⟩)] #[], .int .u8 34, .int .u8 (n : Int)] w fun e w' => e = .returned (.tuple #[]) ∧ Wrote base b (l ++ esc 34 n) w w' := by
  have t1 : ((n : Int) == 34) = false := by simp; omega
  have t2 : ((n : Int) == 92) = false := by simp; omega
  have t5 : ((n : Int) == 10) = false := by simp; omega
  have t6 : ((n : Int) == 9) = false := by simp; omega
  have t3 : decide ((n : Int) < 32) = false := by simp; omega
  have t4 : decide (126 < (n : Int)) = true := by simp; omega
  have HE := Lib.hid (And.intro hm (And.intro hk (And.intro hf ht)))
  clear hm hk hf ht
  go_enter Tryz.func235, Tryz.ntmps235
  go_wp2_with fail
  refine (putZ base b _ _ _ h (by omega) (by omega) (by omega) (by omega)).mono ?_
  rintro e w1 ⟨rfl, h1⟩
  have z1 := h1.size
  go_wp2_with fail
  refine (putZ base b _ _ _ h1.1 (by simp; omega) (by omega) (by omega) (by omega)).mono ?_
  rintro e w2 ⟨rfl, h2⟩
  have z2 := h2.size
  go_wp2_with fail
  refine (putByte base b _ _ _ h2.1 (by simp; omega) (by omega)).mono ?_
  rintro e w3 ⟨rfl, h3⟩
  have z3 := h3.size
  go_wp2_with fail
  refine (putByte base b _ _ _ h3.1 (by simp; omega) (by omega)).mono ?_
  rintro e w4 ⟨rfl, h4⟩
  have z4 := h4.size
  go_wp2_with fail
  refine (putZ base b _ _ _ h4.1 (by simp; omega) (by omega) (by omega) (by omega)).mono ?_
  rintro e w5 ⟨rfl, h5⟩
  have z5 := h5.size
  go_wp2_with fail
  go_end0
  refine ⟨rfl, ?_⟩
  have hw := ((((h1).trans h2).trans h3).trans h4).trans h5
  rw [esc, if_neg (by have := HE.out; omega), if_neg (by have := HE.out; omega), if_neg (by have := HE.out; omega), if_pos (by omega)]
  rw [hex_at, hex_at] at hw
  simpa [by8] using hw

set_option maxRecDepth 100000 in
set_option maxHeartbeats 3200000 in
theorem putIn_quo_plain (base b : Nat) (l : List UInt8) (n : Nat) (w : World) (h : Bl base b l w) (hl : l.length < 10000000000000) (hb : base ≤ w.heap.size) (hn : n < 256) (hm : n ≠ 34) (hk : n ≠ 92) (hf : n ≠ 10) (ht : n ≠ 9) (hx : 32 ≤ n) (hy : n ≤ 126) :
    Calls Tryz.prog 235 #[.func (.func 205) #[.pointer (some ⟨b, 0, none⟩)] #[], .int .u8 34, .int .u8 (n : Int)] w fun e w' => e = .returned (.tuple #[]) ∧ Wrote base b (l ++ esc 34 n) w w' := by
  have t1 : ((n : Int) == 34) = false := by simp; omega
  have t2 : ((n : Int) == 92) = false := by simp; omega
  have t5 : ((n : Int) == 10) = false := by simp; omega
  have t6 : ((n : Int) == 9) = false := by simp; omega
  have t3 : decide ((n : Int) < 32) = false := by simp; omega
  have t4 : decide (126 < (n : Int)) = false := by simp; omega
  have HE := Lib.hid (And.intro hm (And.intro hk (And.intro hf ht)))
  clear hm hk hf ht
  go_enter Tryz.func235, Tryz.ntmps235
  go_wp2_with fail
  refine (putZ base b _ _ _ h (by omega) (by omega) (by omega) (by omega)).mono ?_
  rintro e w1 ⟨rfl, h1⟩
  have z1 := h1.size
  go_wp2_with fail
  go_end0
  refine ⟨rfl, ?_⟩
  have hw := h1
  rw [esc, if_neg (by have := HE.out; omega), if_neg (by have := HE.out; omega), if_neg (by have := HE.out; omega), if_neg (by omega)]
  simpa [by8] using hw

theorem putIn_any (M : Nat) (hM : M = 124 ∨ M = 34) (base b : Nat) (l : List UInt8) (n : Nat) (w : World) (h : Bl base b l w) (hl : l.length < 10000000000000) (hb : base ≤ w.heap.size) (hn : n < 256) :
    Calls Tryz.prog 235 #[.func (.func 205) #[.pointer (some ⟨b, 0, none⟩)] #[], .int .u8 (M : Int), .int .u8 (n : Int)] w fun e w' => e = .returned (.tuple #[]) ∧ Wrote base b (l ++ esc M n) w w' := by
  rcases hM with rfl | rfl
  · by_cases h1 : n = 124
    · subst h1; exact putIn_bar_mark base b l w h hl hb
    · by_cases h2 : n = 92
      · subst h2; exact putIn_bar_back base b l w h hl hb
      · by_cases h3 : n < 32
        · exact putIn_bar_low base b l n w h hl hb hn h1 h2 h3
        · by_cases h4 : 126 < n
          · exact putIn_bar_high base b l n w h hl hb hn h1 h2 h4
          · exact putIn_bar_plain base b l n w h hl hb hn h1 h2 (by omega) (by omega)
  · by_cases h1 : n = 34
    · subst h1; exact putIn_quo_mark base b l w h hl hb
    · by_cases h2 : n = 92
      · subst h2; exact putIn_quo_back base b l w h hl hb
      · by_cases h5 : n = 10
        · subst h5; exact putIn_quo_feed base b l w h hl hb
        · by_cases h6 : n = 9
          · subst h6; exact putIn_quo_tab base b l w h hl hb
          · by_cases h3 : n < 32
            · exact putIn_quo_low base b l n w h hl hb hn h1 h2 h5 h6 h3
            · by_cases h4 : 126 < n
              · exact putIn_quo_high base b l n w h hl hb hn h1 h2 h5 h6 h4
              · exact putIn_quo_plain base b l n w h hl hb hn h1 h2 h5 h6 (by omega) (by omega)
end Go.Proofs.YtlohdglhebplfaaGreatDoor
