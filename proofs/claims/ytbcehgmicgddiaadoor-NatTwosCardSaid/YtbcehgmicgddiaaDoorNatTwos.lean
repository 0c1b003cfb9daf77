/-
  The law NatTwos: its walk.
-/
import Derived.Test.YtbcehgmicgddiaaDoorShiftN
import Derived.OpenShut
namespace Go.Proofs.YtbcehgmicgddiaaDoor
open Go.RowKit

set_option maxHeartbeats 1600000 in
theorem natTwos_zero_small (a0 : Option Addr) (len0 cap0 : Nat) (A : Nat) (k : Nat) (nn : Int) (w : World) (n_a : Num w (.slice a0 len0 cap0) A 40) (k0 : len0 ≤ 40) (hk : nn % 200 = (k : Int)) (hk0 : 0 < k) (_hk2 : k < 200) (hnn : 0 ≤ nn) (hn64 : nn ≤ 18446744073709551615) (hA : A = 0) :
    Calls Tryd.prog 9 #[.slice a0 len0 cap0, .int .u64 nn] w fun e w' => e = .returned (.bool true) ∧ Below w.heap.size w w' := by
  have l_a := n_a.lt
  have hall : ∀ i, i < 1 → ∃ A n c, (w.alloc (.cells #[.slice a0 len0 cap0] 22)).cell? ⟨w.heap.size, i, none⟩ = some (.slice A n c) ∧ n ≤ 40 := by
    intro i hi
    obtain rfl : i = 0 := by omega
    · exact ⟨a0, len0, cap0, by simp, k0⟩
  have hcm : cmpN (A / 2 ^ k * 2 ^ k) A ≤ 0 := (cmpN_le_zero _ _).2 (Nat.div_mul_le_self _ _)
  have hcb := cmpN_bd (A / 2 ^ k * 2 ^ k) A
  have HB := Lib.hid (show bl A = 0 by rw [hA]; rfl)
  clear hA
  have HA := Lib.hid hall
  clear hall
  have hb : Below w.heap.size w (w.alloc (.cells #[.slice a0 len0 cap0] 22)) := (Below.refl _ _).alloc (Nat.le_refl _) _
  go_enter Tryd.func9, Tryd.ntmps9
  go_wp2_with fail
  refine (small_yes w.heap.size 1 _ (by decide) HA.out).mono ?_
  rintro e w0 ⟨rfl, rfl⟩
  replace n_a := n_a.below hb
  clear HA
  have l_x : A * 2 ^ k < 4294967296 ^ 47 := lt_shl (j := 7) l_a (by omega)
  have l_r1 : A * 2 ^ k / 2 ^ k < 4294967296 ^ 47 := Nat.lt_of_le_of_lt (Nat.div_le_self _ _) l_x
  have e_r1 : A * 2 ^ k / 2 ^ k = A := Nat.mul_div_cancel _ (Nat.pow_pos (by decide))
  rw [e_r1] at l_r1
  have E_r1 := Lib.hid e_r1; clear e_r1
  have l_r2 : A < 4294967296 ^ 40 := l_a
  have l_r3 : A * 2 ^ 1 < 4294967296 ^ 41 := lt_shl (j := 1) l_a (by omega)
  have e_r3 : A * 2 ^ 1 = (A + A) := by omega
  rw [e_r3] at l_r3
  have E_r3 := Lib.hid e_r3; clear e_r3
  have l_r4 : (A + A) < 4294967296 ^ 41 := lt_up (lt_add l_a l_a) (by decide)
  have l_r5 : A / 2 ^ k < 4294967296 ^ 40 := Nat.lt_of_le_of_lt (Nat.div_le_self _ _) l_a
  have l_r6 : A / 2 ^ k * 2 ^ k < 4294967296 ^ 47 := lt_shl (j := 7) l_r5 (by omega)
  go_wp2_with fail
  refine (shl_num n_a (by decide) (by omega)).mono ?_
  rintro e w1 ⟨v_x, rfl, x_x, b1⟩
  replace hb := bnext hb b1
  replace n_a := n_a.below b1
  clear b1
  have n_x := x_x.num 47 l_x
  clear x_x
  go_wp2_with fail
  refine (shr_num n_x (by decide) hk0 (by omega)).mono ?_
  rintro e w2 ⟨v_r1, rfl, x_r1, b2⟩
  replace hb := bnext hb b2
  replace n_a := n_a.below b2
  clear n_x
  clear b2
  rw [E_r1.out] at x_r1
  go_wp2_with fail
  refine (norm_num n_a (by decide)).mono ?_
  rintro e w3 ⟨v_r2, rfl, x_r2, b3⟩
  replace hb := bnext hb b3
  replace n_a := n_a.below b3
  replace x_r1 := x_r1.next b3
  clear b3
  go_wp2_with fail
  refine (same_new _ _ _ _ _ _ x_r1 x_r2 (Nat.le_trans (limbs_len_le l_r1) (by decide))).mono ?_
  rintro e w4 ⟨rfl, b4⟩
  replace hb := bnext hb b4
  replace n_a := n_a.below b4
  clear x_r1
  clear x_r2
  clear b4
  go_wp2_with fail
  refine (shl_num (s := 1) n_a (by decide) (by omega)).mono ?_
  rintro e w5 ⟨v_r3, rfl, x_r3, b5⟩
  replace hb := bnext hb b5
  replace n_a := n_a.below b5
  clear b5
  rw [E_r3.out] at x_r3
  go_wp2_with fail
  refine (add_num n_a n_a (by decide) (by decide)).mono ?_
  rintro e w6 ⟨v_r4, rfl, x_r4, b6⟩
  replace hb := bnext hb b6
  replace n_a := n_a.below b6
  replace x_r3 := x_r3.next b6
  clear b6
  go_wp2_with fail
  refine (same_new _ _ _ _ _ _ x_r3 x_r4 (Nat.le_trans (limbs_len_le l_r3) (by decide))).mono ?_
  rintro e w7 ⟨rfl, b7⟩
  replace hb := bnext hb b7
  replace n_a := n_a.below b7
  clear x_r3
  clear x_r4
  clear b7
  go_wp2_with fail
  refine (bits_num n_a (by decide)).mono ?_
  rw [HB.out]
  rintro e w8 ⟨rfl, rfl⟩
  go_wp2_with fail
  refine (shr_num n_a (by decide) hk0 (by omega)).mono ?_
  rintro e w9 ⟨v_r5, rfl, x_r5, b9⟩
  replace hb := bnext hb b9
  replace n_a := n_a.below b9
  clear b9
  have n_r5 := x_r5.num 40 l_r5
  clear x_r5
  go_wp2_with fail
  refine (shl_num n_r5 (by decide) (by omega)).mono ?_
  rintro e w10 ⟨v_r6, rfl, x_r6, b10⟩
  replace hb := bnext hb b10
  replace n_a := n_a.below b10
  clear n_r5
  clear b10
  have n_r6 := x_r6.num 47 l_r6
  clear x_r6
  go_wp2_with fail
  refine (cmp_num n_r6 n_a (by decide) (by decide)).mono ?_
  rintro e w11 ⟨rfl, rfl⟩
  clear n_a
  clear n_r6
  go_wp2_with fail
  refine (lives_yes _).mono ?_
  rintro e w12 ⟨rfl, b12⟩
  replace hb := bnext hb b12
  go_wp2_with fail
  go_ret
  exact ⟨rfl, hb⟩

set_option maxHeartbeats 1600000 in
theorem natTwos_pos_small (a0 : Option Addr) (len0 cap0 : Nat) (A : Nat) (k : Nat) (nn : Int) (w : World) (n_a : Num w (.slice a0 len0 cap0) A 40) (k0 : len0 ≤ 40) (hk : nn % 200 = (k : Int)) (hk0 : 0 < k) (_hk2 : k < 200) (hnn : 0 ≤ nn) (hn64 : nn ≤ 18446744073709551615) (hA : A ≠ 0) :
    Calls Tryd.prog 9 #[.slice a0 len0 cap0, .int .u64 nn] w fun e w' => e = .returned (.bool true) ∧ Below w.heap.size w w' := by
  have l_a := n_a.lt
  have hall : ∀ i, i < 1 → ∃ A n c, (w.alloc (.cells #[.slice a0 len0 cap0] 22)).cell? ⟨w.heap.size, i, none⟩ = some (.slice A n c) ∧ n ≤ 40 := by
    intro i hi
    obtain rfl : i = 0 := by omega
    · exact ⟨a0, len0, cap0, by simp, k0⟩
  have hcm : cmpN (A / 2 ^ k * 2 ^ k) A ≤ 0 := (cmpN_le_zero _ _).2 (Nat.div_mul_le_self _ _)
  have hcb := cmpN_bd (A / 2 ^ k * 2 ^ k) A
  have hbp := bl_pos A hA
  have hbd := bl_bd l_a
  have HBX := Lib.hid (bl_shl A k hA)
  clear hA
  have HA := Lib.hid hall
  clear hall
  have hb : Below w.heap.size w (w.alloc (.cells #[.slice a0 len0 cap0] 22)) := (Below.refl _ _).alloc (Nat.le_refl _) _
  go_enter Tryd.func9, Tryd.ntmps9
  go_wp2_with fail
  refine (small_yes w.heap.size 1 _ (by decide) HA.out).mono ?_
  rintro e w0 ⟨rfl, rfl⟩
  replace n_a := n_a.below hb
  clear HA
  have l_x : A * 2 ^ k < 4294967296 ^ 47 := lt_shl (j := 7) l_a (by omega)
  have l_r1 : A * 2 ^ k / 2 ^ k < 4294967296 ^ 47 := Nat.lt_of_le_of_lt (Nat.div_le_self _ _) l_x
  have e_r1 : A * 2 ^ k / 2 ^ k = A := Nat.mul_div_cancel _ (Nat.pow_pos (by decide))
  rw [e_r1] at l_r1
  have E_r1 := Lib.hid e_r1; clear e_r1
  have l_r2 : A < 4294967296 ^ 40 := l_a
  have l_r3 : A * 2 ^ 1 < 4294967296 ^ 41 := lt_shl (j := 1) l_a (by omega)
  have e_r3 : A * 2 ^ 1 = (A + A) := by omega
  rw [e_r3] at l_r3
  have E_r3 := Lib.hid e_r3; clear e_r3
  have l_r4 : (A + A) < 4294967296 ^ 41 := lt_up (lt_add l_a l_a) (by decide)
  have l_r5 : A / 2 ^ k < 4294967296 ^ 40 := Nat.lt_of_le_of_lt (Nat.div_le_self _ _) l_a
  have l_r6 : A / 2 ^ k * 2 ^ k < 4294967296 ^ 47 := lt_shl (j := 7) l_r5 (by omega)
  go_wp2_with fail
  refine (shl_num n_a (by decide) (by omega)).mono ?_
  rintro e w1 ⟨v_x, rfl, x_x, b1⟩
  replace hb := bnext hb b1
  replace n_a := n_a.below b1
  clear b1
  have n_x := x_x.num 47 l_x
  clear x_x
  go_wp2_with fail
  refine (shr_num n_x (by decide) hk0 (by omega)).mono ?_
  rintro e w2 ⟨v_r1, rfl, x_r1, b2⟩
  replace hb := bnext hb b2
  replace n_a := n_a.below b2
  replace n_x := n_x.below b2
  clear b2
  rw [E_r1.out] at x_r1
  go_wp2_with fail
  refine (norm_num n_a (by decide)).mono ?_
  rintro e w3 ⟨v_r2, rfl, x_r2, b3⟩
  replace hb := bnext hb b3
  replace n_a := n_a.below b3
  replace n_x := n_x.below b3
  replace x_r1 := x_r1.next b3
  clear b3
  go_wp2_with fail
  refine (same_new _ _ _ _ _ _ x_r1 x_r2 (Nat.le_trans (limbs_len_le l_r1) (by decide))).mono ?_
  rintro e w4 ⟨rfl, b4⟩
  replace hb := bnext hb b4
  replace n_a := n_a.below b4
  replace n_x := n_x.below b4
  clear x_r1
  clear x_r2
  clear b4
  go_wp2_with fail
  refine (shl_num (s := 1) n_a (by decide) (by omega)).mono ?_
  rintro e w5 ⟨v_r3, rfl, x_r3, b5⟩
  replace hb := bnext hb b5
  replace n_a := n_a.below b5
  replace n_x := n_x.below b5
  clear b5
  rw [E_r3.out] at x_r3
  go_wp2_with fail
  refine (add_num n_a n_a (by decide) (by decide)).mono ?_
  rintro e w6 ⟨v_r4, rfl, x_r4, b6⟩
  replace hb := bnext hb b6
  replace n_a := n_a.below b6
  replace n_x := n_x.below b6
  replace x_r3 := x_r3.next b6
  clear b6
  go_wp2_with fail
  refine (same_new _ _ _ _ _ _ x_r3 x_r4 (Nat.le_trans (limbs_len_le l_r3) (by decide))).mono ?_
  rintro e w7 ⟨rfl, b7⟩
  replace hb := bnext hb b7
  replace n_a := n_a.below b7
  replace n_x := n_x.below b7
  clear x_r3
  clear x_r4
  clear b7
  go_wp2_with fail
  refine (bits_num n_a (by decide)).mono ?_
  rintro e w8 ⟨rfl, rfl⟩
  go_wp2_with fail
  refine (bits_num n_x (by decide)).mono ?_
  rw [HBX.out]
  rintro e w9 ⟨rfl, rfl⟩
  clear n_x
  go_wp2_with fail
  refine (bits_num n_a (by decide)).mono ?_
  rintro e w10 ⟨rfl, rfl⟩
  go_wp2_with fail
  refine (shr_num n_a (by decide) hk0 (by omega)).mono ?_
  rintro e w11 ⟨v_r5, rfl, x_r5, b11⟩
  replace hb := bnext hb b11
  replace n_a := n_a.below b11
  clear b11
  have n_r5 := x_r5.num 40 l_r5
  clear x_r5
  go_wp2_with fail
  refine (shl_num n_r5 (by decide) (by omega)).mono ?_
  rintro e w12 ⟨v_r6, rfl, x_r6, b12⟩
  replace hb := bnext hb b12
  replace n_a := n_a.below b12
  clear n_r5
  clear b12
  have n_r6 := x_r6.num 47 l_r6
  clear x_r6
  go_wp2_with fail
  refine (cmp_num n_r6 n_a (by decide) (by decide)).mono ?_
  rintro e w13 ⟨rfl, rfl⟩
  clear n_a
  clear n_r6
  go_wp2_with fail
  refine (lives_yes _).mono ?_
  rintro e w14 ⟨rfl, b14⟩
  replace hb := bnext hb b14
  go_wp2_with fail
  go_ret
  exact ⟨rfl, hb⟩

set_option maxHeartbeats 1600000 in
theorem natTwos0_zero_small (a0 : Option Addr) (len0 cap0 : Nat) (A : Nat) (nn : Int) (w : World) (n_a : Num w (.slice a0 len0 cap0) A 40) (k0 : len0 ≤ 40) (hk : nn % 200 = 0) (hnn : 0 ≤ nn) (hn64 : nn ≤ 18446744073709551615) (hA : A = 0) :
    Calls Tryd.prog 9 #[.slice a0 len0 cap0, .int .u64 nn] w fun e w' => e = .returned (.bool true) ∧ Below w.heap.size w w' := by
  have l_a := n_a.lt
  have hall : ∀ i, i < 1 → ∃ A n c, (w.alloc (.cells #[.slice a0 len0 cap0] 22)).cell? ⟨w.heap.size, i, none⟩ = some (.slice A n c) ∧ n ≤ 40 := by
    intro i hi
    obtain rfl : i = 0 := by omega
    · exact ⟨a0, len0, cap0, by simp, k0⟩
  have hcm : cmpN A A ≤ 0 := (cmpN_le_zero _ _).2 (Nat.le_refl _)
  have hcb := cmpN_bd A A
  have HB := Lib.hid (show bl A = 0 by rw [hA]; rfl)
  clear hA
  have HA := Lib.hid hall
  clear hall
  have hb : Below w.heap.size w (w.alloc (.cells #[.slice a0 len0 cap0] 22)) := (Below.refl _ _).alloc (Nat.le_refl _) _
  go_enter Tryd.func9, Tryd.ntmps9
  go_wp2_with fail
  refine (small_yes w.heap.size 1 _ (by decide) HA.out).mono ?_
  rintro e w0 ⟨rfl, rfl⟩
  replace n_a := n_a.below hb
  clear HA
  have l_x : A < 4294967296 ^ 40 := l_a
  have l_r1 : A < 4294967296 ^ 40 := l_a
  have l_r2 : A < 4294967296 ^ 40 := l_a
  have l_r3 : A * 2 ^ 1 < 4294967296 ^ 41 := lt_shl (j := 1) l_a (by omega)
  have e_r3 : A * 2 ^ 1 = (A + A) := by omega
  rw [e_r3] at l_r3
  have E_r3 := Lib.hid e_r3; clear e_r3
  have l_r4 : (A + A) < 4294967296 ^ 41 := lt_up (lt_add l_a l_a) (by decide)
  have l_r5 : A < 4294967296 ^ 40 := l_a
  have l_r6 : A < 4294967296 ^ 40 := l_a
  go_wp2_with fail
  refine (shl0_num n_a (by decide)).mono ?_
  rintro e w1 ⟨v_x, rfl, x_x, b1⟩
  replace hb := bnext hb b1
  replace n_a := n_a.below b1
  clear b1
  have n_x := x_x.num 40 l_x
  clear x_x
  go_wp2_with fail
  refine (shl0_num n_x (by decide)).mono ?_
  rintro e w2 ⟨v_r1, rfl, x_r1, b2⟩
  replace hb := bnext hb b2
  replace n_a := n_a.below b2
  clear n_x
  clear b2
  go_wp2_with fail
  refine (norm_num n_a (by decide)).mono ?_
  rintro e w3 ⟨v_r2, rfl, x_r2, b3⟩
  replace hb := bnext hb b3
  replace n_a := n_a.below b3
  replace x_r1 := x_r1.next b3
  clear b3
  go_wp2_with fail
  refine (same_new _ _ _ _ _ _ x_r1 x_r2 (Nat.le_trans (limbs_len_le l_r1) (by decide))).mono ?_
  rintro e w4 ⟨rfl, b4⟩
  replace hb := bnext hb b4
  replace n_a := n_a.below b4
  clear x_r1
  clear x_r2
  clear b4
  go_wp2_with fail
  refine (shl_num (s := 1) n_a (by decide) (by omega)).mono ?_
  rintro e w5 ⟨v_r3, rfl, x_r3, b5⟩
  replace hb := bnext hb b5
  replace n_a := n_a.below b5
  clear b5
  rw [E_r3.out] at x_r3
  go_wp2_with fail
  refine (add_num n_a n_a (by decide) (by decide)).mono ?_
  rintro e w6 ⟨v_r4, rfl, x_r4, b6⟩
  replace hb := bnext hb b6
  replace n_a := n_a.below b6
  replace x_r3 := x_r3.next b6
  clear b6
  go_wp2_with fail
  refine (same_new _ _ _ _ _ _ x_r3 x_r4 (Nat.le_trans (limbs_len_le l_r3) (by decide))).mono ?_
  rintro e w7 ⟨rfl, b7⟩
  replace hb := bnext hb b7
  replace n_a := n_a.below b7
  clear x_r3
  clear x_r4
  clear b7
  go_wp2_with fail
  refine (bits_num n_a (by decide)).mono ?_
  rw [HB.out]
  rintro e w8 ⟨rfl, rfl⟩
  go_wp2_with fail
  refine (shl0_num n_a (by decide)).mono ?_
  rintro e w9 ⟨v_r5, rfl, x_r5, b9⟩
  replace hb := bnext hb b9
  replace n_a := n_a.below b9
  clear b9
  have n_r5 := x_r5.num 40 l_r5
  clear x_r5
  go_wp2_with fail
  refine (shl0_num n_r5 (by decide)).mono ?_
  rintro e w10 ⟨v_r6, rfl, x_r6, b10⟩
  replace hb := bnext hb b10
  replace n_a := n_a.below b10
  clear n_r5
  clear b10
  have n_r6 := x_r6.num 40 l_r6
  clear x_r6
  go_wp2_with fail
  refine (cmp_num n_r6 n_a (by decide) (by decide)).mono ?_
  rintro e w11 ⟨rfl, rfl⟩
  clear n_a
  clear n_r6
  go_wp2_with fail
  refine (lives_yes _).mono ?_
  rintro e w12 ⟨rfl, b12⟩
  replace hb := bnext hb b12
  go_wp2_with fail
  go_ret
  exact ⟨rfl, hb⟩

set_option maxHeartbeats 1600000 in
theorem natTwos0_pos_small (a0 : Option Addr) (len0 cap0 : Nat) (A : Nat) (nn : Int) (w : World) (n_a : Num w (.slice a0 len0 cap0) A 40) (k0 : len0 ≤ 40) (hk : nn % 200 = 0) (hnn : 0 ≤ nn) (hn64 : nn ≤ 18446744073709551615) (hA : A ≠ 0) :
    Calls Tryd.prog 9 #[.slice a0 len0 cap0, .int .u64 nn] w fun e w' => e = .returned (.bool true) ∧ Below w.heap.size w w' := by
  have l_a := n_a.lt
  have hall : ∀ i, i < 1 → ∃ A n c, (w.alloc (.cells #[.slice a0 len0 cap0] 22)).cell? ⟨w.heap.size, i, none⟩ = some (.slice A n c) ∧ n ≤ 40 := by
    intro i hi
    obtain rfl : i = 0 := by omega
    · exact ⟨a0, len0, cap0, by simp, k0⟩
  have hcm : cmpN A A ≤ 0 := (cmpN_le_zero _ _).2 (Nat.le_refl _)
  have hcb := cmpN_bd A A
  have hbp := bl_pos A hA
  have hbd := bl_bd l_a
  clear hA
  have HA := Lib.hid hall
  clear hall
  have hb : Below w.heap.size w (w.alloc (.cells #[.slice a0 len0 cap0] 22)) := (Below.refl _ _).alloc (Nat.le_refl _) _
  go_enter Tryd.func9, Tryd.ntmps9
  go_wp2_with fail
  refine (small_yes w.heap.size 1 _ (by decide) HA.out).mono ?_
  rintro e w0 ⟨rfl, rfl⟩
  replace n_a := n_a.below hb
  clear HA
  have l_x : A < 4294967296 ^ 40 := l_a
  have l_r1 : A < 4294967296 ^ 40 := l_a
  have l_r2 : A < 4294967296 ^ 40 := l_a
  have l_r3 : A * 2 ^ 1 < 4294967296 ^ 41 := lt_shl (j := 1) l_a (by omega)
  have e_r3 : A * 2 ^ 1 = (A + A) := by omega
  rw [e_r3] at l_r3
  have E_r3 := Lib.hid e_r3; clear e_r3
  have l_r4 : (A + A) < 4294967296 ^ 41 := lt_up (lt_add l_a l_a) (by decide)
  have l_r5 : A < 4294967296 ^ 40 := l_a
  have l_r6 : A < 4294967296 ^ 40 := l_a
  go_wp2_with fail
  refine (shl0_num n_a (by decide)).mono ?_
  rintro e w1 ⟨v_x, rfl, x_x, b1⟩
  replace hb := bnext hb b1
  replace n_a := n_a.below b1
  clear b1
  have n_x := x_x.num 40 l_x
  clear x_x
  go_wp2_with fail
  refine (shl0_num n_x (by decide)).mono ?_
  rintro e w2 ⟨v_r1, rfl, x_r1, b2⟩
  replace hb := bnext hb b2
  replace n_a := n_a.below b2
  replace n_x := n_x.below b2
  clear b2
  go_wp2_with fail
  refine (norm_num n_a (by decide)).mono ?_
  rintro e w3 ⟨v_r2, rfl, x_r2, b3⟩
  replace hb := bnext hb b3
  replace n_a := n_a.below b3
  replace n_x := n_x.below b3
  replace x_r1 := x_r1.next b3
  clear b3
  go_wp2_with fail
  refine (same_new _ _ _ _ _ _ x_r1 x_r2 (Nat.le_trans (limbs_len_le l_r1) (by decide))).mono ?_
  rintro e w4 ⟨rfl, b4⟩
  replace hb := bnext hb b4
  replace n_a := n_a.below b4
  replace n_x := n_x.below b4
  clear x_r1
  clear x_r2
  clear b4
  go_wp2_with fail
  refine (shl_num (s := 1) n_a (by decide) (by omega)).mono ?_
  rintro e w5 ⟨v_r3, rfl, x_r3, b5⟩
  replace hb := bnext hb b5
  replace n_a := n_a.below b5
  replace n_x := n_x.below b5
  clear b5
  rw [E_r3.out] at x_r3
  go_wp2_with fail
  refine (add_num n_a n_a (by decide) (by decide)).mono ?_
  rintro e w6 ⟨v_r4, rfl, x_r4, b6⟩
  replace hb := bnext hb b6
  replace n_a := n_a.below b6
  replace n_x := n_x.below b6
  replace x_r3 := x_r3.next b6
  clear b6
  go_wp2_with fail
  refine (same_new _ _ _ _ _ _ x_r3 x_r4 (Nat.le_trans (limbs_len_le l_r3) (by decide))).mono ?_
  rintro e w7 ⟨rfl, b7⟩
  replace hb := bnext hb b7
  replace n_a := n_a.below b7
  replace n_x := n_x.below b7
  clear x_r3
  clear x_r4
  clear b7
  go_wp2_with fail
  refine (bits_num n_a (by decide)).mono ?_
  rintro e w8 ⟨rfl, rfl⟩
  go_wp2_with fail
  refine (bits_num n_x (by decide)).mono ?_
  rintro e w9 ⟨rfl, rfl⟩
  clear n_x
  go_wp2_with fail
  refine (bits_num n_a (by decide)).mono ?_
  rintro e w10 ⟨rfl, rfl⟩
  go_wp2_with fail
  refine (shl0_num n_a (by decide)).mono ?_
  rintro e w11 ⟨v_r5, rfl, x_r5, b11⟩
  replace hb := bnext hb b11
  replace n_a := n_a.below b11
  clear b11
  have n_r5 := x_r5.num 40 l_r5
  clear x_r5
  go_wp2_with fail
  refine (shl0_num n_r5 (by decide)).mono ?_
  rintro e w12 ⟨v_r6, rfl, x_r6, b12⟩
  replace hb := bnext hb b12
  replace n_a := n_a.below b12
  clear n_r5
  clear b12
  have n_r6 := x_r6.num 40 l_r6
  clear x_r6
  go_wp2_with fail
  refine (cmp_num n_r6 n_a (by decide) (by decide)).mono ?_
  rintro e w13 ⟨rfl, rfl⟩
  clear n_a
  clear n_r6
  go_wp2_with fail
  refine (lives_yes _).mono ?_
  rintro e w14 ⟨rfl, b14⟩
  replace hb := bnext hb b14
  go_wp2_with fail
  go_ret
  exact ⟨rfl, hb⟩

set_option maxHeartbeats 800000 in
theorem natTwos_big (a0 : Option Addr) (len0 cap0 : Nat) (nn : Int) (w : World) (m0 : len0 ≤ maxLen) (h : 40 < len0)  :
    Calls Tryd.prog 9 #[.slice a0 len0 cap0, .int .u64 nn] w fun e w' => e = .returned (.bool true) ∧ Below w.heap.size w w' := by
  have hall : ∀ i, i < 1 → ∃ A n c, (w.alloc (.cells #[.slice a0 len0 cap0] 22)).cell? ⟨w.heap.size, i, none⟩ = some (.slice A n c) ∧ n ≤ maxLen := by
    intro i hi
    obtain rfl : i = 0 := by omega
    · exact ⟨a0, len0, cap0, by simp, m0⟩
  obtain ⟨m, hm, hbig⟩ : ∃ m, m < 1 ∧ ∃ A n c, (w.alloc (.cells #[.slice a0 len0 cap0] 22)).cell? ⟨w.heap.size, m, none⟩ = some (.slice A n c) ∧ 40 < n := by
    · exact ⟨0, by omega, a0, len0, cap0, by simp, h⟩
  have HA := Lib.hid (And.intro hall hbig)
  clear hall hbig h m0
  have hb : Below w.heap.size w (w.alloc (.cells #[.slice a0 len0 cap0] 22)) := (Below.refl _ _).alloc (Nat.le_refl _) _
  go_enter Tryd.func9, Tryd.ntmps9
  go_wp2_with fail
  refine (small_no w.heap.size 1 _ (by decide) HA.out.1 m hm HA.out.2).mono ?_
  rintro e w0 ⟨rfl, rfl⟩
  go_wp2_with fail
  refine (lives_yes _).mono ?_
  rintro e w1 ⟨rfl, b1⟩
  go_wp2_with fail
  go_ret
  exact ⟨rfl, bnext hb b1⟩

theorem natTwos_walk (a0 : Option Addr) (len0 cap0 : Nat) (ys0 : List Nat) (nn : Int) (w : World) (s0 : Sl w a0 len0 cap0 ys0) (hn : (Lit.int .u64 nn).wf = true) :
    Calls Tryd.prog 9 #[.slice a0 len0 cap0, .int .u64 nn] w fun e w' => e = .returned (.bool true) ∧ Below w.heap.size w w' := by
  have hbd := bounds_u64 hn
  by_cases h : 40 < len0
  · exact natTwos_big a0 len0 cap0 nn w (Nat.le_trans s0.le s0.max) h
  · have n0 := Num.of_sl s0 (show len0 ≤ 40 by omega)
    by_cases hA : val ys0 = 0
    · by_cases hk : nn % 200 = 0
      · exact natTwos0_zero_small _ _ _ _ nn w n0 (by omega) hk hbd.1 hbd.2 hA
      · exact natTwos_zero_small _ _ _ _ (nn % 200).toNat nn w n0 (by omega) (by omega) (by omega) (by omega) hbd.1 hbd.2 hA
    · by_cases hk : nn % 200 = 0
      · exact natTwos0_pos_small _ _ _ _ nn w n0 (by omega) hk hbd.1 hbd.2 hA
      · exact natTwos_pos_small _ _ _ _ (nn % 200).toNat nn w n0 (by omega) (by omega) (by omega) (by omega) hbd.1 hbd.2 hA
end Go.Proofs.YtbcehgmicgddiaaDoor
