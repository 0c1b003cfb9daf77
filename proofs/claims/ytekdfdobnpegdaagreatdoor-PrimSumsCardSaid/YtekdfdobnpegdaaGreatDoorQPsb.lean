/-
  Do of two numbers, told by the numbers that they are.
-/
import Derived.Test.YtekdfdobnpegdaaGreatDoorQPsa
set_option linter.unusedVariables false
set_option linter.unusedSimpArgs false
set_option linter.unusedSectionVars false
set_option linter.unnecessarySimpa false
namespace Go.Proofs.YtekdfdobnpegdaaGreatDoor
open Go.RowKit
theorem abs_small {w : World} {A : Option Addr} {n c : Nat} {z : Int} (h : Sl w A n c (limbs z.natAbs)) (hn : n ≤ 60) : z.natAbs < 4294967296 ^ 60 := by
  have := val_lt h.ok
  rw [limbs_val, ← h.len] at this
  exact Nat.lt_of_lt_of_le this (Nat.pow_le_pow_right (by decide) hn)
theorem small_up {z : Int} (h : z.natAbs < 4294967296 ^ 60) : z.natAbs < 4294967296 ^ 64 := Nat.lt_of_lt_of_le h (Nat.pow_le_pow_right (by decide) (by decide))
theorem sum_small {x y : Int} (hx : x.natAbs < 4294967296 ^ 60) (hy : y.natAbs < 4294967296 ^ 60) : (x + y).natAbs < 4294967296 ^ 64 :=
  Nat.lt_of_le_of_lt (Int.natAbs_add_le x y) (Nat.lt_of_lt_of_le (Nat.add_lt_add hx hy) (by decide))
theorem sl_small {w : World} {A : Option Addr} {n c : Nat} {z : Int} (h : Sl w A n c (limbs z.natAbs)) (hz : z.natAbs < 4294967296 ^ 64) : n ≤ 1000 := by
  have := sl_le h hz
  omega
section
variable {w : World} {b b' : Bool} {A A' : Option Addr} {n n' c c' : Nat} {x y z : Int}
theorem add_xy (hb : decide (x < 0) = b) (hb' : decide (y < 0) = b') (h0 : Sl w A n c (limbs x.natAbs)) (h1 : Sl w A' n' c' (limbs y.natAbs)) (n0 : n ≤ 1000) (n1 : n' ≤ 1000) (e : x + y = z) (hz : z.natAbs < 4294967296 ^ 64) : Calls Tryz.prog 11 #[.int .i64 1, .slice (some ⟨w.heap.size, 0, none⟩) 2 2] (w.alloc (.cells #[.int .i64 1, .bool b, .slice A n c, .bool false, .string ⟨#[]⟩, .slice none 0 0, .slice none 0 0, .int .i64 1, .bool b', .slice A' n' c', .bool false, .string ⟨#[]⟩, .slice none 0 0, .slice none 0 0] 29)) (TelP w 1 (decide (z < 0)) (limbs z.natAbs) false ⟨#[]⟩ 0) := by
  have h := add_row (s0 := b) (s1 := b') h0 h1 n0 n1
  rw [← hb, ← hb', zOf_limbs, zOf_limbs, e] at h
  rw [← hb, ← hb']
  exact h hz
theorem sub_xy (hb : decide (x < 0) = b) (hb' : decide (y < 0) = b') (h0 : Sl w A n c (limbs x.natAbs)) (h1 : Sl w A' n' c' (limbs y.natAbs)) (n0 : n ≤ 1000) (n1 : n' ≤ 1000) (e : x - y = z) (hz : z.natAbs < 4294967296 ^ 64) : Calls Tryz.prog 11 #[.int .i64 2, .slice (some ⟨w.heap.size, 0, none⟩) 2 2] (w.alloc (.cells #[.int .i64 1, .bool b, .slice A n c, .bool false, .string ⟨#[]⟩, .slice none 0 0, .slice none 0 0, .int .i64 1, .bool b', .slice A' n' c', .bool false, .string ⟨#[]⟩, .slice none 0 0, .slice none 0 0] 29)) (TelP w 1 (decide (z < 0)) (limbs z.natAbs) false ⟨#[]⟩ 0) := by
  have h := sub_row (s0 := b) (s1 := b') h0 h1 n0 n1
  rw [← hb, ← hb', zOf_limbs, zOf_limbs, e] at h
  rw [← hb, ← hb']
  exact h hz
theorem mul_xy (hb : decide (x < 0) = b) (hb' : decide (y < 0) = b') (h0 : Sl w A n c (limbs x.natAbs)) (h1 : Sl w A' n' c' (limbs y.natAbs)) (n0 : n ≤ 1000) (n1 : n' ≤ 1000) (e : x * y = z) (hz : z.natAbs < 4294967296 ^ 64) : Calls Tryz.prog 11 #[.int .i64 3, .slice (some ⟨w.heap.size, 0, none⟩) 2 2] (w.alloc (.cells #[.int .i64 1, .bool b, .slice A n c, .bool false, .string ⟨#[]⟩, .slice none 0 0, .slice none 0 0, .int .i64 1, .bool b', .slice A' n' c', .bool false, .string ⟨#[]⟩, .slice none 0 0, .slice none 0 0] 29)) (TelP w 1 (decide (z < 0)) (limbs z.natAbs) false ⟨#[]⟩ 0) := by
  have h := mul_row (s0 := b) (s1 := b') h0 h1 n0 n1
  rw [← hb, ← hb', zOf_limbs, zOf_limbs, e] at h
  rw [← hb, ← hb']
  exact h hz
theorem quo_xy (hb : decide (x < 0) = b) (hb' : decide (y < 0) = b') (h0 : Sl w A n c (limbs x.natAbs)) (h1 : Sl w A' n' c' (limbs y.natAbs)) (n0 : n ≤ 1000) (n1 : n' ≤ 1000) (e : quoQ x y = z) (hz : z.natAbs < 4294967296 ^ 64) (hne : y ≠ 0) : Calls Tryz.prog 11 #[.int .i64 4, .slice (some ⟨w.heap.size, 0, none⟩) 2 2] (w.alloc (.cells #[.int .i64 1, .bool b, .slice A n c, .bool false, .string ⟨#[]⟩, .slice none 0 0, .slice none 0 0, .int .i64 1, .bool b', .slice A' n' c', .bool false, .string ⟨#[]⟩, .slice none 0 0, .slice none 0 0] 29)) (TelP w 1 (decide (z < 0)) (limbs z.natAbs) false ⟨#[]⟩ 0) := by
  have h := quo_row (s0 := b) (s1 := b') h0 h1 n0 n1
  rw [← hb, ← hb', zOf_limbs, zOf_limbs, e] at h
  rw [← hb, ← hb']
  exact h hz hne
theorem rem_xy (hb : decide (x < 0) = b) (hb' : decide (y < 0) = b') (h0 : Sl w A n c (limbs x.natAbs)) (h1 : Sl w A' n' c' (limbs y.natAbs)) (n0 : n ≤ 1000) (n1 : n' ≤ 1000) (e : quoR x y = z) (hz : z.natAbs < 4294967296 ^ 64) (hne : y ≠ 0) : Calls Tryz.prog 11 #[.int .i64 5, .slice (some ⟨w.heap.size, 0, none⟩) 2 2] (w.alloc (.cells #[.int .i64 1, .bool b, .slice A n c, .bool false, .string ⟨#[]⟩, .slice none 0 0, .slice none 0 0, .int .i64 1, .bool b', .slice A' n' c', .bool false, .string ⟨#[]⟩, .slice none 0 0, .slice none 0 0] 29)) (TelP w 1 (decide (z < 0)) (limbs z.natAbs) false ⟨#[]⟩ 0) := by
  have h := rem_row (s0 := b) (s1 := b') h0 h1 n0 n1
  rw [← hb, ← hb', zOf_limbs, zOf_limbs, e] at h
  rw [← hb, ← hb']
  exact h hz hne
theorem quo0_xy (hb : decide (x < 0) = b) (hb' : decide (y < 0) = b') (h0 : Sl w A n c (limbs x.natAbs)) (h1 : Sl w A' n' c' (limbs y.natAbs)) (n0 : n ≤ 1000) (n1 : n' ≤ 1000) (hne : y = 0) : Calls Tryz.prog 11 #[.int .i64 4, .slice (some ⟨w.heap.size, 0, none⟩) 2 2] (w.alloc (.cells #[.int .i64 1, .bool b, .slice A n c, .bool false, .string ⟨#[]⟩, .slice none 0 0, .slice none 0 0, .int .i64 1, .bool b', .slice A' n' c', .bool false, .string ⟨#[]⟩, .slice none 0 0, .slice none 0 0] 29)) (TelP w 0 false [] false ⟨#[]⟩ 3) := by
  have h := quo0_row (s0 := b) (s1 := b') h0 h1 n0 n1
  rw [← hb', zOf_limbs] at h
  rw [← hb']
  exact h hne
theorem rem0_xy (hb : decide (x < 0) = b) (hb' : decide (y < 0) = b') (h0 : Sl w A n c (limbs x.natAbs)) (h1 : Sl w A' n' c' (limbs y.natAbs)) (n0 : n ≤ 1000) (n1 : n' ≤ 1000) (hne : y = 0) : Calls Tryz.prog 11 #[.int .i64 5, .slice (some ⟨w.heap.size, 0, none⟩) 2 2] (w.alloc (.cells #[.int .i64 1, .bool b, .slice A n c, .bool false, .string ⟨#[]⟩, .slice none 0 0, .slice none 0 0, .int .i64 1, .bool b', .slice A' n' c', .bool false, .string ⟨#[]⟩, .slice none 0 0, .slice none 0 0] 29)) (TelP w 0 false [] false ⟨#[]⟩ 3) := by
  have h := rem0_row (s0 := b) (s1 := b') h0 h1 n0 n1
  rw [← hb', zOf_limbs] at h
  rw [← hb']
  exact h hne
theorem same_xy {v : World} (h0 : Sl v A n c (limbs x.natAbs)) (h1 : Sl v A' n' c' (limbs x.natAbs)) (n0 : n ≤ 1000) (n1 : n' ≤ 1000) :
    Calls Tryz.prog 13 #[.agg #[.int .i64 1, .bool b, .slice A n c, .bool false, .string ⟨#[]⟩, .slice none 0 0, .slice none 0 0], .agg #[.int .i64 1, .bool b, .slice A' n' c', .bool false, .string ⟨#[]⟩, .slice none 0 0, .slice none 0 0]] v fun e w' => e = .returned (.bool true) ∧ Below v.heap.size v w' := by
  have h := rsame_plain (k := 1) (k' := 1) (g := b) (g' := b) (b := false) (b' := false) (s := ⟨#[]⟩) (s' := ⟨#[]⟩) h0 h1 (show 0 ≤ maxLen from Nat.zero_le _) (show 0 ≤ maxLen from Nat.zero_le _) (by omega) (by omega)
  rw [sameB_plain.2 ⟨rfl, rfl, rfl, rfl⟩] at h
  exact h
theorem quoQ_small (hy : y ≠ 0) (hx : x.natAbs < 4294967296 ^ 60) : (quoQ x y).natAbs < 4294967296 ^ 60 := Nat.lt_of_le_of_lt (quo_absQ hy) hx
theorem quoR_small (hx : x.natAbs < 4294967296 ^ 60) : (quoR x y).natAbs < 4294967296 ^ 60 := by
  refine Nat.lt_of_le_of_lt ?_ hx
  unfold quoR
  split
  · simp
  · rw [Int.natAbs_tmod]; exact Nat.mod_le _ _
theorem qy_small (hy : y ≠ 0) (hx : x.natAbs < 4294967296 ^ 60) : (quoQ x y * y).natAbs < 4294967296 ^ 64 := by
  have h := quo_back (a := x) hy
  have h2 := quoR_small (y := y) hx
  rw [show quoQ x y * y = x + (- quoR x y) by omega]
  exact sum_small hx (by rw [Int.natAbs_neg]; exact h2)
end
end Go.Proofs.YtekdfdobnpegdaaGreatDoor
