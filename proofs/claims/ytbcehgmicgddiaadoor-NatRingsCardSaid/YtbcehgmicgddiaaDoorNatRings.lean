/-
  The law NatRings: its walk.
-/
import Derived.Test.YtbcehgmicgddiaaDoorNat
namespace Go.Proofs.YtbcehgmicgddiaaDoor
open Go.RowKit

set_option maxHeartbeats 1600000 in
theorem natRings_small (a0 : Option Addr) (len0 cap0 : Nat) (a1 : Option Addr) (len1 cap1 : Nat) (a2 : Option Addr) (len2 cap2 : Nat) (A B C : Nat) (w : World) (n_a : Num w (.slice a0 len0 cap0) A 40) (n_b : Num w (.slice a1 len1 cap1) B 40) (n_c : Num w (.slice a2 len2 cap2) C 40) (k0 : len0 ≤ 40) (k1 : len1 ≤ 40) (k2 : len2 ≤ 40) :
    Calls Tryd.prog 8 #[.slice a0 len0 cap0, .slice a1 len1 cap1, .slice a2 len2 cap2] w fun e w' => e = .returned (.bool true) ∧ Below w.heap.size w w' := by
  have l_a := n_a.lt
  have l_b := n_b.lt
  have l_c := n_c.lt
  have hall : ∀ i, i < 3 → ∃ A n c, (w.alloc (.cells #[.slice a0 len0 cap0, .slice a1 len1 cap1, .slice a2 len2 cap2] 22)).cell? ⟨w.heap.size, i, none⟩ = some (.slice A n c) ∧ n ≤ 40 := by
    intro i hi
    rcases (show i = 0 ∨ i = 1 ∨ i = 2 by omega) with rfl | rfl | rfl
    · exact ⟨a0, len0, cap0, by simp, k0⟩
    · exact ⟨a1, len1, cap1, by simp, k1⟩
    · exact ⟨a2, len2, cap2, by simp, k2⟩
  have HA := Lib.hid hall
  clear hall
  have hb : Below w.heap.size w (w.alloc (.cells #[.slice a0 len0 cap0, .slice a1 len1 cap1, .slice a2 len2 cap2] 22)) := (Below.refl _ _).alloc (Nat.le_refl _) _
  go_enter Tryd.func8, Tryd.ntmps8
  go_wp2_with fail
  refine (small_yes w.heap.size 3 _ (by decide) HA.out).mono ?_
  rintro e w0 ⟨rfl, rfl⟩
  replace n_a := n_a.below hb
  replace n_b := n_b.below hb
  replace n_c := n_c.below hb
  clear HA
  have l_r1 : (B + C) < 4294967296 ^ 41 := lt_up (lt_add l_b l_c) (by decide)
  have l_x : (A * (B + C)) < 4294967296 ^ 81 := lt_up (lt_mul l_a l_r1) (by decide)
  have l_r2 : (B * A) < 4294967296 ^ 80 := lt_up (lt_mul l_b l_a) (by decide)
  have l_r3 : (C * A) < 4294967296 ^ 80 := lt_up (lt_mul l_c l_a) (by decide)
  have l_y : ((B * A) + (C * A)) < 4294967296 ^ 81 := lt_up (lt_add l_r2 l_r3) (by decide)
  have e_y : ((B * A) + (C * A)) = (A * (B + C)) := by rw [Nat.mul_add, Nat.mul_comm B A, Nat.mul_comm C A]
  rw [e_y] at l_y
  have E_y := Lib.hid e_y; clear e_y
  have l_r4 : (B + C) < 4294967296 ^ 41 := lt_up (lt_add l_b l_c) (by decide)
  have l_r5 : (A + (B + C)) < 4294967296 ^ 42 := lt_up (lt_add l_a l_r4) (by decide)
  have l_r6 : (C + A) < 4294967296 ^ 41 := lt_up (lt_add l_c l_a) (by decide)
  have l_r7 : ((C + A) + B) < 4294967296 ^ 42 := lt_up (lt_add l_r6 l_b) (by decide)
  have e_r7 : ((C + A) + B) = (A + (B + C)) := by omega
  rw [e_r7] at l_r7
  have E_r7 := Lib.hid e_r7; clear e_r7
  have l_r8 : (B * C) < 4294967296 ^ 80 := lt_up (lt_mul l_b l_c) (by decide)
  have l_r9 : (A * (B * C)) < 4294967296 ^ 120 := lt_up (lt_mul l_a l_r8) (by decide)
  have l_r10 : (A * B) < 4294967296 ^ 80 := lt_up (lt_mul l_a l_b) (by decide)
  have l_r11 : ((A * B) * C) < 4294967296 ^ 120 := lt_up (lt_mul l_r10 l_c) (by decide)
  have e_r11 : ((A * B) * C) = (A * (B * C)) := by rw [Nat.mul_assoc]
  rw [e_r11] at l_r11
  have E_r11 := Lib.hid e_r11; clear e_r11
  go_wp2_with fail
  refine (add_num n_b n_c (by decide) (by decide)).mono ?_
  rintro e w1 ⟨v_r1, rfl, x_r1, b1⟩
  replace hb := bnext hb b1
  replace n_a := n_a.below b1
  replace n_b := n_b.below b1
  replace n_c := n_c.below b1
  clear b1
  have n_r1 := x_r1.num 41 l_r1
  clear x_r1
  go_wp2_with fail
  refine (mul_num' n_a n_r1 (by decide) (by decide)).mono ?_
  rintro e w2 ⟨v_x, rfl, x_x, b2⟩
  replace hb := bnext hb b2
  replace n_a := n_a.below b2
  replace n_b := n_b.below b2
  replace n_c := n_c.below b2
  clear n_r1
  clear b2
  go_wp2_with fail
  refine (mul_num' n_b n_a (by decide) (by decide)).mono ?_
  rintro e w3 ⟨v_r2, rfl, x_r2, b3⟩
  replace hb := bnext hb b3
  replace n_a := n_a.below b3
  replace n_b := n_b.below b3
  replace n_c := n_c.below b3
  replace x_x := x_x.next b3
  clear b3
  have n_r2 := x_r2.num 80 l_r2
  clear x_r2
  go_wp2_with fail
  refine (mul_num' n_c n_a (by decide) (by decide)).mono ?_
  rintro e w4 ⟨v_r3, rfl, x_r3, b4⟩
  replace hb := bnext hb b4
  replace n_a := n_a.below b4
  replace n_b := n_b.below b4
  replace n_c := n_c.below b4
  replace x_x := x_x.next b4
  replace n_r2 := n_r2.below b4
  clear b4
  have n_r3 := x_r3.num 80 l_r3
  clear x_r3
  go_wp2_with fail
  refine (add_num n_r2 n_r3 (by decide) (by decide)).mono ?_
  rintro e w5 ⟨v_y, rfl, x_y, b5⟩
  replace hb := bnext hb b5
  replace n_a := n_a.below b5
  replace n_b := n_b.below b5
  replace n_c := n_c.below b5
  replace x_x := x_x.next b5
  clear n_r2
  clear n_r3
  clear b5
  rw [E_y.out] at x_y
  go_wp2_with fail
  refine (same_new _ _ _ _ _ _ x_x x_y (Nat.le_trans (limbs_len_le l_x) (by decide))).mono ?_
  rintro e w6 ⟨rfl, b6⟩
  replace hb := bnext hb b6
  replace n_a := n_a.below b6
  replace n_b := n_b.below b6
  replace n_c := n_c.below b6
  clear x_x
  clear x_y
  clear b6
  go_wp2_with fail
  refine (add_num n_b n_c (by decide) (by decide)).mono ?_
  rintro e w7 ⟨v_r4, rfl, x_r4, b7⟩
  replace hb := bnext hb b7
  replace n_a := n_a.below b7
  replace n_b := n_b.below b7
  replace n_c := n_c.below b7
  clear b7
  have n_r4 := x_r4.num 41 l_r4
  clear x_r4
  go_wp2_with fail
  refine (add_num n_a n_r4 (by decide) (by decide)).mono ?_
  rintro e w8 ⟨v_r5, rfl, x_r5, b8⟩
  replace hb := bnext hb b8
  replace n_a := n_a.below b8
  replace n_b := n_b.below b8
  replace n_c := n_c.below b8
  clear n_r4
  clear b8
  go_wp2_with fail
  refine (add_num n_c n_a (by decide) (by decide)).mono ?_
  rintro e w9 ⟨v_r6, rfl, x_r6, b9⟩
  replace hb := bnext hb b9
  replace n_a := n_a.below b9
  replace n_b := n_b.below b9
  replace n_c := n_c.below b9
  replace x_r5 := x_r5.next b9
  clear b9
  have n_r6 := x_r6.num 41 l_r6
  clear x_r6
  go_wp2_with fail
  refine (add_num n_r6 n_b (by decide) (by decide)).mono ?_
  rintro e w10 ⟨v_r7, rfl, x_r7, b10⟩
  replace hb := bnext hb b10
  replace n_a := n_a.below b10
  replace n_b := n_b.below b10
  replace n_c := n_c.below b10
  replace x_r5 := x_r5.next b10
  clear n_r6
  clear b10
  rw [E_r7.out] at x_r7
  go_wp2_with fail
  refine (same_new _ _ _ _ _ _ x_r5 x_r7 (Nat.le_trans (limbs_len_le l_r5) (by decide))).mono ?_
  rintro e w11 ⟨rfl, b11⟩
  replace hb := bnext hb b11
  replace n_a := n_a.below b11
  replace n_b := n_b.below b11
  replace n_c := n_c.below b11
  clear x_r5
  clear x_r7
  clear b11
  go_wp2_with fail
  refine (mul_num' n_b n_c (by decide) (by decide)).mono ?_
  rintro e w12 ⟨v_r8, rfl, x_r8, b12⟩
  replace hb := bnext hb b12
  replace n_a := n_a.below b12
  replace n_b := n_b.below b12
  replace n_c := n_c.below b12
  clear b12
  have n_r8 := x_r8.num 80 l_r8
  clear x_r8
  go_wp2_with fail
  refine (mul_num' n_a n_r8 (by decide) (by decide)).mono ?_
  rintro e w13 ⟨v_r9, rfl, x_r9, b13⟩
  replace hb := bnext hb b13
  replace n_a := n_a.below b13
  replace n_b := n_b.below b13
  replace n_c := n_c.below b13
  clear n_r8
  clear b13
  go_wp2_with fail
  refine (mul_num' n_a n_b (by decide) (by decide)).mono ?_
  rintro e w14 ⟨v_r10, rfl, x_r10, b14⟩
  replace hb := bnext hb b14
  clear n_a
  clear n_b
  replace n_c := n_c.below b14
  replace x_r9 := x_r9.next b14
  clear b14
  have n_r10 := x_r10.num 80 l_r10
  clear x_r10
  go_wp2_with fail
  refine (mul_num' n_r10 n_c (by decide) (by decide)).mono ?_
  rintro e w15 ⟨v_r11, rfl, x_r11, b15⟩
  replace hb := bnext hb b15
  clear n_c
  replace x_r9 := x_r9.next b15
  clear n_r10
  clear b15
  rw [E_r11.out] at x_r11
  go_wp2_with fail
  refine (same_new _ _ _ _ _ _ x_r9 x_r11 (Nat.le_trans (limbs_len_le l_r9) (by decide))).mono ?_
  rintro e w16 ⟨rfl, b16⟩
  replace hb := bnext hb b16
  clear x_r9
  clear x_r11
  clear b16
  go_wp2_with fail
  refine (lives_yes _).mono ?_
  rintro e w17 ⟨rfl, b17⟩
  replace hb := bnext hb b17
  go_wp2_with fail
  go_ret
  exact ⟨rfl, hb⟩

set_option maxHeartbeats 800000 in
theorem natRings_big (a0 : Option Addr) (len0 cap0 : Nat) (a1 : Option Addr) (len1 cap1 : Nat) (a2 : Option Addr) (len2 cap2 : Nat) (w : World) (m0 : len0 ≤ maxLen) (m1 : len1 ≤ maxLen) (m2 : len2 ≤ maxLen) (h : 40 < len0 ∨ 40 < len1 ∨ 40 < len2) :
    Calls Tryd.prog 8 #[.slice a0 len0 cap0, .slice a1 len1 cap1, .slice a2 len2 cap2] w fun e w' => e = .returned (.bool true) ∧ Below w.heap.size w w' := by
  have hall : ∀ i, i < 3 → ∃ A n c, (w.alloc (.cells #[.slice a0 len0 cap0, .slice a1 len1 cap1, .slice a2 len2 cap2] 22)).cell? ⟨w.heap.size, i, none⟩ = some (.slice A n c) ∧ n ≤ maxLen := by
    intro i hi
    rcases (show i = 0 ∨ i = 1 ∨ i = 2 by omega) with rfl | rfl | rfl
    · exact ⟨a0, len0, cap0, by simp, m0⟩
    · exact ⟨a1, len1, cap1, by simp, m1⟩
    · exact ⟨a2, len2, cap2, by simp, m2⟩
  obtain ⟨m, hm, hbig⟩ : ∃ m, m < 3 ∧ ∃ A n c, (w.alloc (.cells #[.slice a0 len0 cap0, .slice a1 len1 cap1, .slice a2 len2 cap2] 22)).cell? ⟨w.heap.size, m, none⟩ = some (.slice A n c) ∧ 40 < n := by
    rcases h with h | h | h
    · exact ⟨0, by omega, a0, len0, cap0, by simp, h⟩
    · exact ⟨1, by omega, a1, len1, cap1, by simp, h⟩
    · exact ⟨2, by omega, a2, len2, cap2, by simp, h⟩
  have HA := Lib.hid (And.intro hall hbig)
  clear hall hbig h m0 m1 m2
  have hb : Below w.heap.size w (w.alloc (.cells #[.slice a0 len0 cap0, .slice a1 len1 cap1, .slice a2 len2 cap2] 22)) := (Below.refl _ _).alloc (Nat.le_refl _) _
  go_enter Tryd.func8, Tryd.ntmps8
  go_wp2_with fail
  refine (small_no w.heap.size 3 _ (by decide) HA.out.1 m hm HA.out.2).mono ?_
  rintro e w0 ⟨rfl, rfl⟩
  go_wp2_with fail
  refine (lives_yes _).mono ?_
  rintro e w1 ⟨rfl, b1⟩
  go_wp2_with fail
  go_ret
  exact ⟨rfl, bnext hb b1⟩

theorem natRings_walk (a0 : Option Addr) (len0 cap0 : Nat) (ys0 : List Nat) (a1 : Option Addr) (len1 cap1 : Nat) (ys1 : List Nat) (a2 : Option Addr) (len2 cap2 : Nat) (ys2 : List Nat) (w : World) (s0 : Sl w a0 len0 cap0 ys0) (s1 : Sl w a1 len1 cap1 ys1) (s2 : Sl w a2 len2 cap2 ys2) :
    Calls Tryd.prog 8 #[.slice a0 len0 cap0, .slice a1 len1 cap1, .slice a2 len2 cap2] w fun e w' => e = .returned (.bool true) ∧ Below w.heap.size w w' := by
  by_cases h : 40 < len0 ∨ 40 < len1 ∨ 40 < len2
  · exact natRings_big a0 len0 cap0 a1 len1 cap1 a2 len2 cap2 w (Nat.le_trans s0.le s0.max) (Nat.le_trans s1.le s1.max) (Nat.le_trans s2.le s2.max) h
  · exact natRings_small _ _ _ _ _ _ _ _ _ _ _ _ w (Num.of_sl s0 (by omega)) (Num.of_sl s1 (by omega)) (Num.of_sl s2 (by omega)) (by omega) (by omega) (by omega)
end Go.Proofs.YtbcehgmicgddiaaDoor
