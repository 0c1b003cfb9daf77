/-
  nat.Shift over values of which the number alone is known; bits of a shifted number.
-/
import Derived.Test.YtjildimhflondaaDoorShift
namespace Go.Proofs.YtjildimhflondaaDoor
open Go.RowKit

theorem shl_num {w : World} {u : Value} {a K s : Nat} (hu : Num w u a K) (hK : K ≤ 1000000000) (hs : s ≤ 4096) : Calls Tryd.prog 14 #[u, .int .i64 (s : Int)] w (Gives w (a * 2 ^ s)) := by
  obtain ⟨A1, n1, c1, xs, rfl, s1, rfl, k1⟩ := hu
  exact shift_up_any _ _ _ _ _ _ s1 (by omega) hs
theorem shr_num {w : World} {u : Value} {a K s : Nat} (hu : Num w u a K) (hK : K ≤ 1000000000) (hs0 : 0 < s) (hs : s ≤ 4096) : Calls Tryd.prog 14 #[u, .int .i64 (-(s : Int))] w (Gives w (a / 2 ^ s)) := by
  obtain ⟨A1, n1, c1, xs, rfl, s1, rfl, k1⟩ := hu
  exact shift_down_any _ _ _ _ _ _ s1 (by omega) hs0 hs
theorem shl0_num {w : World} {u : Value} {a K : Nat} (hu : Num w u a K) (hK : K ≤ 1000000000) : Calls Tryd.prog 14 #[u, .int .i64 0] w (Gives w a) := by
  have := shl_num (s := 0) hu hK (by omega)
  rwa [Nat.pow_zero, Nat.mul_one] at this
theorem lt_shl {a K s j : Nat} (ha : a < 4294967296 ^ K) (hs : s ≤ 32 * j) : a * 2 ^ s < 4294967296 ^ (K + j) := by
  rw [Nat.pow_add]
  have h : 2 ^ s ≤ 4294967296 ^ j := by
    rw [show (4294967296 : Nat) = 2 ^ 32 by decide, ← Nat.pow_mul]
    exact Nat.pow_le_pow_right (by decide) hs
  exact Nat.lt_of_lt_of_le (Nat.mul_lt_mul_of_pos_right ha (Nat.pow_pos (by decide))) (Nat.mul_le_mul_left _ h)
theorem bl_shl (a s : Nat) (h : a ≠ 0) : bl (a * 2 ^ s) = bl a + s := by
  have h1 := bl_lt a
  have h2 := bl_le a h
  have h3 := bl_pos a h
  have hp : 0 < 2 ^ s := Nat.pow_pos (by decide)
  refine (bl_unique (Nat.mul_ne_zero h (by omega)) ?_ ?_ (by omega)).symm
  · rw [Nat.pow_add]; exact Nat.mul_lt_mul_of_pos_right h1 hp
  · rw [show bl a + s - 1 = bl a - 1 + s by omega, Nat.pow_add]; exact Nat.mul_le_mul_right _ h2
theorem bl_bd {a K : Nat} (h : a < 4294967296 ^ K) : bl a ≤ 32 * K := by
  rcases Nat.eq_zero_or_pos a with h0 | h0
  · subst h0; rw [bl_zero]; omega
  · have h2 := bl_le a (by omega)
    have h3 : 2 ^ (bl a - 1) < 2 ^ (32 * K) := by
      rw [Nat.pow_mul]; exact Nat.lt_of_le_of_lt h2 h
    have := (Nat.pow_lt_pow_iff_right (by decide : 1 < 2)).1 h3
    omega
end Go.Proofs.YtjildimhflondaaDoor
