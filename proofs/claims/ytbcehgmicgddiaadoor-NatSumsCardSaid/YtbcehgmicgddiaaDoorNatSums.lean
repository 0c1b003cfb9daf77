/-
  The law NatSums: its walk.
-/
import Derived.Test.YtbcehgmicgddiaaDoorRefMul
namespace Go.Proofs.YtbcehgmicgddiaaDoor
open Go.RowKit

set_option maxHeartbeats 1600000 in
theorem natSums_small (a0 : Option Addr) (len0 cap0 : Nat) (a1 : Option Addr) (len1 cap1 : Nat) (A B : Nat)  (w : World) (n_a : Num w (.slice a0 len0 cap0) A 40) (n_b : Num w (.slice a1 len1 cap1) B 40) (k0 : len0 ≤ 40) (k1 : len1 ≤ 40)  :
    Calls Tryd.prog 3 #[.slice a0 len0 cap0, .slice a1 len1 cap1] w fun e w' => e = .returned (.bool true) ∧ Below w.heap.size w w' := by
  have l_a := n_a.lt
  have l_b := n_b.lt
  have hall : ∀ i, i < 2 → ∃ A n c, (w.alloc (.cells #[.slice a0 len0 cap0, .slice a1 len1 cap1] 22)).cell? ⟨w.heap.size, i, none⟩ = some (.slice A n c) ∧ n ≤ 40 := by
    intro i hi
    rcases (show i = 0 ∨ i = 1 by omega) with rfl | rfl
    · exact ⟨a0, len0, cap0, by simp, k0⟩
    · exact ⟨a1, len1, cap1, by simp, k1⟩
  have HA := Lib.hid hall
  clear hall
  have hb : Below w.heap.size w (w.alloc (.cells #[.slice a0 len0 cap0, .slice a1 len1 cap1] 22)) := (Below.refl _ _).alloc (Nat.le_refl _) _
  go_enter Tryd.func3, Tryd.ntmps3
  go_wp2_with fail
  refine (small_yes w.heap.size 2 _ (by decide) HA.out).mono ?_
  rintro e w0 ⟨rfl, rfl⟩
  replace n_a := n_a.below hb
  replace n_b := n_b.below hb
  clear HA
  have l_x1 : A < 4294967296 ^ 40 := l_a
  have l_y1 : A < 4294967296 ^ 40 := l_a
  have l_x2 : (A + B) < 4294967296 ^ 41 := lt_up (lt_add l_a l_b) (by decide)
  have l_y2 : (A + B) < 4294967296 ^ 41 := lt_up (lt_add l_a l_b) (by decide)
  have l_x3 : (A - B) < 4294967296 ^ 40 := Nat.lt_of_le_of_lt (Nat.sub_le _ _) l_a
  have l_y3 : (A - B) < 4294967296 ^ 40 := Nat.lt_of_le_of_lt (Nat.sub_le _ _) l_a
  have l_x4 : (A * B) < 4294967296 ^ 80 := lt_up (lt_mul l_a l_b) (by decide)
  have l_y4 : (A * B) < 4294967296 ^ 80 := lt_up (lt_mul l_a l_b) (by decide)
  go_wp2_with fail
  refine (norm_num n_a (by decide)).mono ?_
  rintro e w1 ⟨v_x1, rfl, x_x1, b1⟩
  replace hb := bnext hb b1
  replace n_a := n_a.below b1
  replace n_b := n_b.below b1
  clear b1
  go_wp2_with fail
  refine (rnorm_num n_a (by decide)).mono ?_
  rintro e w2 ⟨v_y1, rfl, x_y1, b2⟩
  replace hb := bnext hb b2
  replace n_a := n_a.below b2
  replace n_b := n_b.below b2
  replace x_x1 := x_x1.next b2
  clear b2
  go_wp2_with fail
  refine (same_new _ _ _ _ _ _ x_x1 x_y1 (Nat.le_trans (limbs_len_le l_x1) (by decide))).mono ?_
  rintro e w3 ⟨rfl, b3⟩
  replace hb := bnext hb b3
  replace n_a := n_a.below b3
  replace n_b := n_b.below b3
  clear x_x1
  clear x_y1
  clear b3
  go_wp2_with fail
  refine (add_num n_a n_b (by decide) (by decide)).mono ?_
  rintro e w4 ⟨v_x2, rfl, x_x2, b4⟩
  replace hb := bnext hb b4
  replace n_a := n_a.below b4
  replace n_b := n_b.below b4
  clear b4
  go_wp2_with fail
  refine (radd_num n_a n_b (by decide) (by decide)).mono ?_
  rintro e w5 ⟨v_y2, rfl, x_y2, b5⟩
  replace hb := bnext hb b5
  replace n_a := n_a.below b5
  replace n_b := n_b.below b5
  replace x_x2 := x_x2.next b5
  clear b5
  go_wp2_with fail
  refine (same_new _ _ _ _ _ _ x_x2 x_y2 (Nat.le_trans (limbs_len_le l_x2) (by decide))).mono ?_
  rintro e w6 ⟨rfl, b6⟩
  replace hb := bnext hb b6
  replace n_a := n_a.below b6
  replace n_b := n_b.below b6
  clear x_x2
  clear x_y2
  clear b6
  go_wp2_with fail
  refine (sub_num n_a n_b (by decide) (by decide)).mono ?_
  rintro e w7 ⟨v_x3, rfl, x_x3, b7⟩
  replace hb := bnext hb b7
  replace n_a := n_a.below b7
  replace n_b := n_b.below b7
  clear b7
  go_wp2_with fail
  refine (rsub_num n_a n_b (by decide) (by decide)).mono ?_
  rintro e w8 ⟨v_y3, rfl, x_y3, b8⟩
  replace hb := bnext hb b8
  replace n_a := n_a.below b8
  replace n_b := n_b.below b8
  replace x_x3 := x_x3.next b8
  clear b8
  go_wp2_with fail
  refine (same_new _ _ _ _ _ _ x_x3 x_y3 (Nat.le_trans (limbs_len_le l_x3) (by decide))).mono ?_
  rintro e w9 ⟨rfl, b9⟩
  replace hb := bnext hb b9
  replace n_a := n_a.below b9
  replace n_b := n_b.below b9
  clear x_x3
  clear x_y3
  clear b9
  go_wp2_with fail
  refine (mul_num' n_a n_b (by decide) (by decide)).mono ?_
  rintro e w10 ⟨v_x4, rfl, x_x4, b10⟩
  replace hb := bnext hb b10
  replace n_a := n_a.below b10
  replace n_b := n_b.below b10
  clear b10
  go_wp2_with fail
  refine (rmul_num n_a n_b (by decide) (by decide)).mono ?_
  rintro e w11 ⟨v_y4, rfl, x_y4, b11⟩
  replace hb := bnext hb b11
  replace n_a := n_a.below b11
  replace n_b := n_b.below b11
  replace x_x4 := x_x4.next b11
  clear b11
  go_wp2_with fail
  refine (same_new _ _ _ _ _ _ x_x4 x_y4 (Nat.le_trans (limbs_len_le l_x4) (by decide))).mono ?_
  rintro e w12 ⟨rfl, b12⟩
  replace hb := bnext hb b12
  replace n_a := n_a.below b12
  replace n_b := n_b.below b12
  clear x_x4
  clear x_y4
  clear b12
  go_wp2_with fail
  refine (cmp_num n_a n_b (by decide) (by decide)).mono ?_
  rintro e w13 ⟨rfl, rfl⟩
  go_wp2_with fail
  refine (rcmp_num n_a n_b (by decide) (by decide)).mono ?_
  rintro e w14 ⟨rfl, b14⟩
  replace hb := bnext hb b14
  clear n_a
  clear n_b
  clear b14
  go_wp2_with fail
  refine (lives_yes _).mono ?_
  rintro e w15 ⟨rfl, b15⟩
  replace hb := bnext hb b15
  go_wp2_with fail
  go_ret
  exact ⟨rfl, hb⟩

set_option maxHeartbeats 800000 in
theorem natSums_big (a0 : Option Addr) (len0 cap0 : Nat) (a1 : Option Addr) (len1 cap1 : Nat)  (w : World) (m0 : len0 ≤ maxLen) (m1 : len1 ≤ maxLen) (h : 40 < len0 ∨ 40 < len1)  :
    Calls Tryd.prog 3 #[.slice a0 len0 cap0, .slice a1 len1 cap1] w fun e w' => e = .returned (.bool true) ∧ Below w.heap.size w w' := by
  have hall : ∀ i, i < 2 → ∃ A n c, (w.alloc (.cells #[.slice a0 len0 cap0, .slice a1 len1 cap1] 22)).cell? ⟨w.heap.size, i, none⟩ = some (.slice A n c) ∧ n ≤ maxLen := by
    intro i hi
    rcases (show i = 0 ∨ i = 1 by omega) with rfl | rfl
    · exact ⟨a0, len0, cap0, by simp, m0⟩
    · exact ⟨a1, len1, cap1, by simp, m1⟩
  obtain ⟨m, hm, hbig⟩ : ∃ m, m < 2 ∧ ∃ A n c, (w.alloc (.cells #[.slice a0 len0 cap0, .slice a1 len1 cap1] 22)).cell? ⟨w.heap.size, m, none⟩ = some (.slice A n c) ∧ 40 < n := by
    rcases h with h | h
    · exact ⟨0, by omega, a0, len0, cap0, by simp, h⟩
    · exact ⟨1, by omega, a1, len1, cap1, by simp, h⟩
  have HA := Lib.hid (And.intro hall hbig)
  clear hall hbig h m0 m1
  have hb : Below w.heap.size w (w.alloc (.cells #[.slice a0 len0 cap0, .slice a1 len1 cap1] 22)) := (Below.refl _ _).alloc (Nat.le_refl _) _
  go_enter Tryd.func3, Tryd.ntmps3
  go_wp2_with fail
  refine (small_no w.heap.size 2 _ (by decide) HA.out.1 m hm HA.out.2).mono ?_
  rintro e w0 ⟨rfl, rfl⟩
  go_wp2_with fail
  refine (lives_yes _).mono ?_
  rintro e w1 ⟨rfl, b1⟩
  go_wp2_with fail
  go_ret
  exact ⟨rfl, bnext hb b1⟩

theorem natSums_walk (a0 : Option Addr) (len0 cap0 : Nat) (ys0 : List Nat) (a1 : Option Addr) (len1 cap1 : Nat) (ys1 : List Nat)  (w : World) (s0 : Sl w a0 len0 cap0 ys0) (s1 : Sl w a1 len1 cap1 ys1)  :
    Calls Tryd.prog 3 #[.slice a0 len0 cap0, .slice a1 len1 cap1] w fun e w' => e = .returned (.bool true) ∧ Below w.heap.size w w' := by
  by_cases h : 40 < len0 ∨ 40 < len1
  · exact natSums_big a0 len0 cap0 a1 len1 cap1 w (Nat.le_trans s0.le s0.max) (Nat.le_trans s1.le s1.max) h
  · exact natSums_small _ _ _ _ _ _ _ _ w (Num.of_sl s0 (by omega)) (Num.of_sl s1 (by omega)) (by omega) (by omega)
end Go.Proofs.YtbcehgmicgddiaaDoor
