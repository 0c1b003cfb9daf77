/-
  The law NatShifts: its walk.
-/
import Derived.Test.YtbcehgmicgddiaaDoorSmallN
import Derived.OpenShut
namespace Go.Proofs.YtbcehgmicgddiaaDoor
open Go.RowKit

set_option maxHeartbeats 1600000 in
theorem natShifts_mid_small (a0 : Option Addr) (len0 cap0 : Nat) (A : Nat) (nn : Int) (w : World) (n_a : Num w (.slice a0 len0 cap0) A 40) (k0 : len0 ≤ 40) (h1 : 600 < nn) (h2 : nn ≤ 4096) :
    Calls Tryd.prog 5 #[.slice a0 len0 cap0, .int .i64 nn] w fun e w' => e = .returned (.bool true) ∧ Below w.heap.size w w' := by
  have l_a := n_a.lt
  have hall : ∀ i, i < 1 → ∃ A n c, (w.alloc (.cells #[.slice a0 len0 cap0] 22)).cell? ⟨w.heap.size, i, none⟩ = some (.slice A n c) ∧ n ≤ 40 := by
    intro i hi
    obtain rfl : i = 0 := by omega
    · exact ⟨a0, len0, cap0, by simp, k0⟩
  have HA := Lib.hid hall
  clear hall
  have hb : Below w.heap.size w (w.alloc (.cells #[.slice a0 len0 cap0] 22)) := (Below.refl _ _).alloc (Nat.le_refl _) _
  go_enter Tryd.func5, Tryd.ntmps5
  go_wp2_with fail
  refine (small_yes w.heap.size 1 _ (by decide) HA.out).mono ?_
  rintro e w0 ⟨rfl, rfl⟩
  replace n_a := n_a.below hb
  clear HA
  go_wp2_with fail
  refine (lives_yes _).mono ?_
  rintro e w1 ⟨rfl, b1⟩
  replace hb := bnext hb b1
  go_wp2_with fail
  go_ret
  exact ⟨rfl, hb⟩

set_option maxHeartbeats 1600000 in
theorem natShifts_far_small (a0 : Option Addr) (len0 cap0 : Nat) (A : Nat) (nn : Int) (w : World) (n_a : Num w (.slice a0 len0 cap0) A 40) (k0 : len0 ≤ 40) (h1 : 600 < nn) (h2 : 4096 < nn) (hn64 : nn ≤ 9223372036854775807) :
    Calls Tryd.prog 5 #[.slice a0 len0 cap0, .int .i64 nn] w fun e w' => e = .returned (.bool true) ∧ Below w.heap.size w w' := by
  have l_a := n_a.lt
  have hall : ∀ i, i < 1 → ∃ A n c, (w.alloc (.cells #[.slice a0 len0 cap0] 22)).cell? ⟨w.heap.size, i, none⟩ = some (.slice A n c) ∧ n ≤ 40 := by
    intro i hi
    obtain rfl : i = 0 := by omega
    · exact ⟨a0, len0, cap0, by simp, k0⟩
  have HA := Lib.hid hall
  clear hall
  have hb : Below w.heap.size w (w.alloc (.cells #[.slice a0 len0 cap0] 22)) := (Below.refl _ _).alloc (Nat.le_refl _) _
  go_enter Tryd.func5, Tryd.ntmps5
  go_wp2_with fail
  refine (small_yes w.heap.size 1 _ (by decide) HA.out).mono ?_
  rintro e w0 ⟨rfl, rfl⟩
  replace n_a := n_a.below hb
  clear HA
  go_wp2_with fail
  refine (nsmall_num n_a (by decide)).mono ?_
  rintro e w1 ⟨rfl, rfl⟩
  go_wp2_with fail
  refine (rsmall_num n_a (by decide)).mono ?_
  rintro e w2 ⟨rfl, b2⟩
  replace hb := bnext hb b2
  replace n_a := n_a.below b2
  clear b2
  go_wp2_with fail
  refine (bits_num n_a (by decide)).mono ?_
  rintro e w3 ⟨rfl, rfl⟩
  go_wp2_with fail
  refine (rbits_num n_a (by decide)).mono ?_
  rintro e w4 ⟨rfl, b4⟩
  replace hb := bnext hb b4
  clear n_a
  clear b4
  go_wp2_with fail
  refine (lives_yes _).mono ?_
  rintro e w5 ⟨rfl, b5⟩
  replace hb := bnext hb b5
  go_wp2_with fail
  go_ret
  exact ⟨rfl, hb⟩

set_option maxHeartbeats 1600000 in
theorem natShifts_up_small (a0 : Option Addr) (len0 cap0 : Nat) (A : Nat) (s : Nat) (w : World) (n_a : Num w (.slice a0 len0 cap0) A 40) (k0 : len0 ≤ 40) (hs : s ≤ 600) :
    Calls Tryd.prog 5 #[.slice a0 len0 cap0, .int .i64 (s : Int)] w fun e w' => e = .returned (.bool true) ∧ Below w.heap.size w w' := by
  have l_a := n_a.lt
  have hall : ∀ i, i < 1 → ∃ A n c, (w.alloc (.cells #[.slice a0 len0 cap0] 22)).cell? ⟨w.heap.size, i, none⟩ = some (.slice A n c) ∧ n ≤ 40 := by
    intro i hi
    obtain rfl : i = 0 := by omega
    · exact ⟨a0, len0, cap0, by simp, k0⟩
  have HA := Lib.hid hall
  clear hall
  have hb : Below w.heap.size w (w.alloc (.cells #[.slice a0 len0 cap0] 22)) := (Below.refl _ _).alloc (Nat.le_refl _) _
  go_enter Tryd.func5, Tryd.ntmps5
  go_wp2_with fail
  refine (small_yes w.heap.size 1 _ (by decide) HA.out).mono ?_
  rintro e w0 ⟨rfl, rfl⟩
  replace n_a := n_a.below hb
  clear HA
  have l_x : A * 2 ^ s < 4294967296 ^ 59 := lt_shl (j := 19) l_a (by omega)
  have l_y : A * 2 ^ s < 4294967296 ^ 59 := lt_shl (j := 19) l_a (by omega)
  go_wp2_with fail
  refine (nsmall_num n_a (by decide)).mono ?_
  rintro e w1 ⟨rfl, rfl⟩
  go_wp2_with fail
  refine (rsmall_num n_a (by decide)).mono ?_
  rintro e w2 ⟨rfl, b2⟩
  replace hb := bnext hb b2
  replace n_a := n_a.below b2
  clear b2
  go_wp2_with fail
  refine (shl_num n_a (by decide) (by omega)).mono ?_
  rintro e w3 ⟨v_x, rfl, x_x, b3⟩
  replace hb := bnext hb b3
  replace n_a := n_a.below b3
  clear b3
  go_wp2_with fail
  refine (rshl_num n_a (by decide) (by omega)).mono ?_
  rintro e w4 ⟨v_y, rfl, x_y, b4⟩
  replace hb := bnext hb b4
  replace n_a := n_a.below b4
  replace x_x := x_x.next b4
  clear b4
  go_wp2_with fail
  refine (same_new _ _ _ _ _ _ x_x x_y (Nat.le_trans (limbs_len_le l_x) (by decide))).mono ?_
  rintro e w5 ⟨rfl, b5⟩
  replace hb := bnext hb b5
  replace n_a := n_a.below b5
  clear x_x
  clear x_y
  clear b5
  go_wp2_with fail
  refine (bits_num n_a (by decide)).mono ?_
  rintro e w6 ⟨rfl, rfl⟩
  go_wp2_with fail
  refine (rbits_num n_a (by decide)).mono ?_
  rintro e w7 ⟨rfl, b7⟩
  replace hb := bnext hb b7
  clear n_a
  clear b7
  go_wp2_with fail
  refine (lives_yes _).mono ?_
  rintro e w8 ⟨rfl, b8⟩
  replace hb := bnext hb b8
  go_wp2_with fail
  go_ret
  exact ⟨rfl, hb⟩

set_option maxHeartbeats 1600000 in
theorem natShifts_down_small (a0 : Option Addr) (len0 cap0 : Nat) (A : Nat) (s : Nat) (w : World) (n_a : Num w (.slice a0 len0 cap0) A 40) (k0 : len0 ≤ 40) (hs0 : 0 < s) (hs : s ≤ 4096) :
    Calls Tryd.prog 5 #[.slice a0 len0 cap0, .int .i64 (-(s : Int))] w fun e w' => e = .returned (.bool true) ∧ Below w.heap.size w w' := by
  have l_a := n_a.lt
  have hall : ∀ i, i < 1 → ∃ A n c, (w.alloc (.cells #[.slice a0 len0 cap0] 22)).cell? ⟨w.heap.size, i, none⟩ = some (.slice A n c) ∧ n ≤ 40 := by
    intro i hi
    obtain rfl : i = 0 := by omega
    · exact ⟨a0, len0, cap0, by simp, k0⟩
  have HA := Lib.hid hall
  clear hall
  have hb : Below w.heap.size w (w.alloc (.cells #[.slice a0 len0 cap0] 22)) := (Below.refl _ _).alloc (Nat.le_refl _) _
  go_enter Tryd.func5, Tryd.ntmps5
  go_wp2_with fail
  refine (small_yes w.heap.size 1 _ (by decide) HA.out).mono ?_
  rintro e w0 ⟨rfl, rfl⟩
  replace n_a := n_a.below hb
  clear HA
  have l_x : A / 2 ^ s < 4294967296 ^ 40 := Nat.lt_of_le_of_lt (Nat.div_le_self _ _) l_a
  have l_y : A / 2 ^ s < 4294967296 ^ 40 := Nat.lt_of_le_of_lt (Nat.div_le_self _ _) l_a
  go_wp2_with fail
  refine (nsmall_num n_a (by decide)).mono ?_
  rintro e w1 ⟨rfl, rfl⟩
  go_wp2_with fail
  refine (rsmall_num n_a (by decide)).mono ?_
  rintro e w2 ⟨rfl, b2⟩
  replace hb := bnext hb b2
  replace n_a := n_a.below b2
  clear b2
  go_wp2_with fail
  refine (shr_num n_a (by decide) hs0 hs).mono ?_
  rintro e w3 ⟨v_x, rfl, x_x, b3⟩
  replace hb := bnext hb b3
  replace n_a := n_a.below b3
  clear b3
  go_wp2_with fail
  refine (rshr_num n_a (by decide) hs).mono ?_
  rintro e w4 ⟨v_y, rfl, x_y, b4⟩
  replace hb := bnext hb b4
  replace n_a := n_a.below b4
  replace x_x := x_x.next b4
  clear b4
  go_wp2_with fail
  refine (same_new _ _ _ _ _ _ x_x x_y (Nat.le_trans (limbs_len_le l_x) (by decide))).mono ?_
  rintro e w5 ⟨rfl, b5⟩
  replace hb := bnext hb b5
  replace n_a := n_a.below b5
  clear x_x
  clear x_y
  clear b5
  go_wp2_with fail
  refine (bits_num n_a (by decide)).mono ?_
  rintro e w6 ⟨rfl, rfl⟩
  go_wp2_with fail
  refine (rbits_num n_a (by decide)).mono ?_
  rintro e w7 ⟨rfl, b7⟩
  replace hb := bnext hb b7
  clear n_a
  clear b7
  go_wp2_with fail
  refine (lives_yes _).mono ?_
  rintro e w8 ⟨rfl, b8⟩
  replace hb := bnext hb b8
  go_wp2_with fail
  go_ret
  exact ⟨rfl, hb⟩

set_option maxHeartbeats 1600000 in
theorem natShifts_low_small (a0 : Option Addr) (len0 cap0 : Nat) (A : Nat) (nn : Int) (w : World) (n_a : Num w (.slice a0 len0 cap0) A 40) (k0 : len0 ≤ 40) (hn0 : -9223372036854775808 ≤ nn) (hn1 : nn < -4096) :
    Calls Tryd.prog 5 #[.slice a0 len0 cap0, .int .i64 nn] w fun e w' => e = .returned (.bool true) ∧ Below w.heap.size w w' := by
  have l_a := n_a.lt
  have hall : ∀ i, i < 1 → ∃ A n c, (w.alloc (.cells #[.slice a0 len0 cap0] 22)).cell? ⟨w.heap.size, i, none⟩ = some (.slice A n c) ∧ n ≤ 40 := by
    intro i hi
    obtain rfl : i = 0 := by omega
    · exact ⟨a0, len0, cap0, by simp, k0⟩
  have HA := Lib.hid hall
  clear hall
  have hb : Below w.heap.size w (w.alloc (.cells #[.slice a0 len0 cap0] 22)) := (Below.refl _ _).alloc (Nat.le_refl _) _
  go_enter Tryd.func5, Tryd.ntmps5
  go_wp2_with fail
  refine (small_yes w.heap.size 1 _ (by decide) HA.out).mono ?_
  rintro e w0 ⟨rfl, rfl⟩
  replace n_a := n_a.below hb
  clear HA
  have l_x : 0 < 4294967296 ^ 40 := pow_pos' _
  have l_y : 0 < 4294967296 ^ 40 := pow_pos' _
  go_wp2_with fail
  refine (nsmall_num n_a (by decide)).mono ?_
  rintro e w1 ⟨rfl, rfl⟩
  go_wp2_with fail
  refine (rsmall_num n_a (by decide)).mono ?_
  rintro e w2 ⟨rfl, b2⟩
  replace hb := bnext hb b2
  replace n_a := n_a.below b2
  clear b2
  go_wp2_with fail
  refine (nlow_num n_a (by decide) nn hn0 hn1).mono ?_
  rintro e w3 ⟨v_x, rfl, x_x, b3⟩
  replace hb := bnext hb b3
  replace n_a := n_a.below b3
  clear b3
  go_wp2_with fail
  refine (rshift_low n_a (by decide) nn hn0 hn1).mono ?_
  rintro e w4 ⟨v_y, rfl, x_y, b4⟩
  replace hb := bnext hb b4
  replace n_a := n_a.below b4
  replace x_x := x_x.next b4
  clear b4
  go_wp2_with fail
  refine (same_new _ _ _ _ _ _ x_x x_y (Nat.le_trans (limbs_len_le l_x) (by decide))).mono ?_
  rintro e w5 ⟨rfl, b5⟩
  replace hb := bnext hb b5
  replace n_a := n_a.below b5
  clear x_x
  clear x_y
  clear b5
  go_wp2_with fail
  refine (bits_num n_a (by decide)).mono ?_
  rintro e w6 ⟨rfl, rfl⟩
  go_wp2_with fail
  refine (rbits_num n_a (by decide)).mono ?_
  rintro e w7 ⟨rfl, b7⟩
  replace hb := bnext hb b7
  clear n_a
  clear b7
  go_wp2_with fail
  refine (lives_yes _).mono ?_
  rintro e w8 ⟨rfl, b8⟩
  replace hb := bnext hb b8
  go_wp2_with fail
  go_ret
  exact ⟨rfl, hb⟩

set_option maxHeartbeats 800000 in
theorem natShifts_big (a0 : Option Addr) (len0 cap0 : Nat) (nn : Int) (w : World) (m0 : len0 ≤ maxLen) (h : 40 < len0)  :
    Calls Tryd.prog 5 #[.slice a0 len0 cap0, .int .i64 nn] w fun e w' => e = .returned (.bool true) ∧ Below w.heap.size w w' := by
  have hall : ∀ i, i < 1 → ∃ A n c, (w.alloc (.cells #[.slice a0 len0 cap0] 22)).cell? ⟨w.heap.size, i, none⟩ = some (.slice A n c) ∧ n ≤ maxLen := by
    intro i hi
    obtain rfl : i = 0 := by omega
    · exact ⟨a0, len0, cap0, by simp, m0⟩
  obtain ⟨m, hm, hbig⟩ : ∃ m, m < 1 ∧ ∃ A n c, (w.alloc (.cells #[.slice a0 len0 cap0] 22)).cell? ⟨w.heap.size, m, none⟩ = some (.slice A n c) ∧ 40 < n := by
    · exact ⟨0, by omega, a0, len0, cap0, by simp, h⟩
  have HA := Lib.hid (And.intro hall hbig)
  clear hall hbig h m0
  have hb : Below w.heap.size w (w.alloc (.cells #[.slice a0 len0 cap0] 22)) := (Below.refl _ _).alloc (Nat.le_refl _) _
  go_enter Tryd.func5, Tryd.ntmps5
  go_wp2_with fail
  refine (small_no w.heap.size 1 _ (by decide) HA.out.1 m hm HA.out.2).mono ?_
  rintro e w0 ⟨rfl, rfl⟩
  go_wp2_with fail
  refine (lives_yes _).mono ?_
  rintro e w1 ⟨rfl, b1⟩
  go_wp2_with fail
  go_ret
  exact ⟨rfl, bnext hb b1⟩

theorem natShifts_walk (a0 : Option Addr) (len0 cap0 : Nat) (ys0 : List Nat) (nn : Int) (w : World) (s0 : Sl w a0 len0 cap0 ys0) (hn : (Lit.int .i64 nn).wf = true) :
    Calls Tryd.prog 5 #[.slice a0 len0 cap0, .int .i64 nn] w fun e w' => e = .returned (.bool true) ∧ Below w.heap.size w w' := by
  have hbd := bounds_i64 hn
  by_cases h : 40 < len0
  · exact natShifts_big a0 len0 cap0 nn w (Nat.le_trans s0.le s0.max) h
  · have n0 := Num.of_sl s0 (show len0 ≤ 40 by omega)
    by_cases h1 : 600 < nn
    · by_cases h2 : nn ≤ 4096
      · exact natShifts_mid_small _ _ _ _ nn w n0 (by omega) h1 h2
      · exact natShifts_far_small _ _ _ _ nn w n0 (by omega) h1 (by omega) hbd.2
    · by_cases h2 : nn < -4096
      · exact natShifts_low_small _ _ _ _ nn w n0 (by omega) hbd.1 h2
      · by_cases h3 : nn < 0
        · have := natShifts_down_small _ _ _ _ (-nn).toNat w n0 (by omega) (by omega) (by omega)
          rwa [show -(((-nn).toNat : Nat) : Int) = nn by omega] at this
        · have := natShifts_up_small _ _ _ _ nn.toNat w n0 (by omega) (by omega)
          rwa [show ((nn.toNat : Nat) : Int) = nn by omega] at this
end Go.Proofs.YtbcehgmicgddiaaDoor
