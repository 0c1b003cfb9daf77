/-
  The law NatBack: its walk.
-/
import Derived.Test.YtbcehgmicgddiaaDoorDivAll
namespace Go.Proofs.YtbcehgmicgddiaaDoor
open Go.RowKit

set_option maxHeartbeats 1600000 in
theorem natBack_zero_small (a0 : Option Addr) (len0 cap0 : Nat) (a1 : Option Addr) (len1 cap1 : Nat) (A B : Nat)  (w : World) (n_a : Num w (.slice a0 len0 cap0) A 40) (n_b : Num w (.slice a1 len1 cap1) B 40) (k0 : len0 ≤ 40) (k1 : len1 ≤ 40) (hB : B = 0) :
    Calls Tryd.prog 7 #[.slice a0 len0 cap0, .slice a1 len1 cap1] w fun e w' => e = .returned (.bool true) ∧ Below w.heap.size w w' := by
  have l_a := n_a.lt
  have l_b := n_b.lt
  have hall : ∀ i, i < 2 → ∃ A n c, (w.alloc (.cells #[.slice a0 len0 cap0, .slice a1 len1 cap1] 22)).cell? ⟨w.heap.size, i, none⟩ = some (.slice A n c) ∧ n ≤ 40 := by
    intro i hi
    rcases (show i = 0 ∨ i = 1 by omega) with rfl | rfl
    · exact ⟨a0, len0, cap0, by simp, k0⟩
    · exact ⟨a1, len1, cap1, by simp, k1⟩
  have HA := Lib.hid hall
  clear hall
  have hb : Below w.heap.size w (w.alloc (.cells #[.slice a0 len0 cap0, .slice a1 len1 cap1] 22)) := (Below.refl _ _).alloc (Nat.le_refl _) _
  go_enter Tryd.func7, Tryd.ntmps7
  go_wp2_with fail
  refine (small_yes w.heap.size 2 _ (by decide) HA.out).mono ?_
  rintro e w0 ⟨rfl, rfl⟩
  replace n_a := n_a.below hb
  replace n_b := n_b.below hb
  clear HA
  go_wp2_with fail
  refine (div_num n_a n_b (by decide)).mono ?_
  rintro e w1 ⟨u, v, rfl, xu, xv, b1⟩
  replace hb := bnext hb b1
  replace n_b := n_b.below b1
  have eq0 : A / B = 0 := by rw [hB, Nat.div_zero]
  have er0 : remZ A B = 0 := by unfold remZ; rw [if_pos hB]
  rw [eq0, limbs_zero] at xu
  rw [er0, limbs_zero] at xv
  obtain ⟨A5, c5, rfl, s5⟩ := xu.sl
  obtain ⟨A6, c6, rfl, s6⟩ := xv.sl
  have HB := Lib.hid (show bl B = 0 by rw [hB]; rfl)
  clear eq0 er0 hB xu xv s5 s6 n_a b1
  go_wp2_with fail
  refine (bits_num n_b (by decide)).mono ?_
  rw [HB.out]
  rintro e w2 ⟨rfl, rfl⟩
  go_wp2_with fail
  refine (lives_yes _).mono ?_
  rintro e w3 ⟨rfl, b3⟩
  replace hb := bnext hb b3
  go_wp2_with fail
  go_ret
  exact ⟨rfl, hb⟩

set_option maxHeartbeats 1600000 in
theorem natBack_pos_small (a0 : Option Addr) (len0 cap0 : Nat) (a1 : Option Addr) (len1 cap1 : Nat) (A B : Nat)  (w : World) (n_a : Num w (.slice a0 len0 cap0) A 40) (n_b : Num w (.slice a1 len1 cap1) B 40) (k0 : len0 ≤ 40) (k1 : len1 ≤ 40) (hB : B ≠ 0) :
    Calls Tryd.prog 7 #[.slice a0 len0 cap0, .slice a1 len1 cap1] w fun e w' => e = .returned (.bool true) ∧ Below w.heap.size w w' := by
  have l_a := n_a.lt
  have l_b := n_b.lt
  have hall : ∀ i, i < 2 → ∃ A n c, (w.alloc (.cells #[.slice a0 len0 cap0, .slice a1 len1 cap1] 22)).cell? ⟨w.heap.size, i, none⟩ = some (.slice A n c) ∧ n ≤ 40 := by
    intro i hi
    rcases (show i = 0 ∨ i = 1 by omega) with rfl | rfl
    · exact ⟨a0, len0, cap0, by simp, k0⟩
    · exact ⟨a1, len1, cap1, by simp, k1⟩
  have HA := Lib.hid hall
  clear hall
  have hb : Below w.heap.size w (w.alloc (.cells #[.slice a0 len0 cap0, .slice a1 len1 cap1] 22)) := (Below.refl _ _).alloc (Nat.le_refl _) _
  go_enter Tryd.func7, Tryd.ntmps7
  go_wp2_with fail
  refine (small_yes w.heap.size 2 _ (by decide) HA.out).mono ?_
  rintro e w0 ⟨rfl, rfl⟩
  replace n_a := n_a.below hb
  replace n_b := n_b.below hb
  clear HA
  go_wp2_with fail
  refine (div_num n_a n_b (by decide)).mono ?_
  rintro e w1 ⟨v_q, v_r, rfl, x_q, x_r, b1⟩
  replace hb := bnext hb b1
  replace n_a := n_a.below b1
  replace n_b := n_b.below b1
  have er0 : remZ A B = A % B := by unfold remZ; rw [if_neg hB]
  rw [er0] at x_r
  have l_q : A / B < 4294967296 ^ 40 := Nat.lt_of_le_of_lt (Nat.div_le_self _ _) l_a
  have l_r : A % B < 4294967296 ^ 40 := Nat.lt_of_le_of_lt (Nat.mod_le _ _) l_a
  have n_q := x_q.num 40 l_q
  have n_r := x_r.num 40 l_r
  clear x_q x_r er0 b1
  have hbp := bl_pos B hB
  have hbd := bl_bd l_b
  have hbz : ((bl B : Int) == 0) = false := beq_eq_false_iff_ne.2 (by omega)
  have Hlt := Lib.hid (cmpN_lt (Nat.mod_lt A (Nat.pos_of_ne_zero hB)))
  have Heq := Lib.hid (cmpN_eq A)
  clear hB
  go_wp2_with fail
  refine (bits_num n_b (by decide)).mono ?_
  rintro e w2 ⟨rfl, rfl⟩
  have l_x1 : ((A / B) * B) < 4294967296 ^ 80 := lt_up (lt_mul l_q l_b) (by decide)
  have l_x2 : (((A / B) * B) + (A % B)) < 4294967296 ^ 81 := lt_up (lt_add l_x1 l_r) (by decide)
  have e_x2 : (((A / B) * B) + (A % B)) = A := Nat.div_add_mod' A B
  rw [e_x2] at l_x2
  have E_x2 := Lib.hid e_x2; clear e_x2
  have l_x3 : (A + B) < 4294967296 ^ 41 := lt_up (lt_add l_a l_b) (by decide)
  have l_x4 : ((A + B) - B) < 4294967296 ^ 41 := Nat.lt_of_le_of_lt (Nat.sub_le _ _) l_x3
  have e_x4 : ((A + B) - B) = A := Nat.add_sub_cancel ..
  rw [e_x4] at l_x4
  have E_x4 := Lib.hid e_x4; clear e_x4
  go_wp2_with fail
  refine (mul_num' n_q n_b (by decide) (by decide)).mono ?_
  rintro e w3 ⟨v_x1, rfl, x_x1, b3⟩
  replace hb := bnext hb b3
  replace n_a := n_a.below b3
  replace n_b := n_b.below b3
  clear n_q
  replace n_r := n_r.below b3
  clear b3
  have n_x1 := x_x1.num 80 l_x1
  clear x_x1
  go_wp2_with fail
  refine (add_num n_x1 n_r (by decide) (by decide)).mono ?_
  rintro e w4 ⟨v_x2, rfl, x_x2, b4⟩
  replace hb := bnext hb b4
  replace n_a := n_a.below b4
  replace n_b := n_b.below b4
  replace n_r := n_r.below b4
  clear n_x1
  clear b4
  rw [E_x2.out] at x_x2
  have n_x2 := x_x2.num 81 l_x2
  clear x_x2
  go_wp2_with fail
  refine (cmp_num n_x2 n_a (by decide) (by decide)).mono ?_
  rw [Heq.out]
  rintro e w5 ⟨rfl, rfl⟩
  clear n_x2
  go_wp2_with fail
  refine (cmp_num n_r n_b (by decide) (by decide)).mono ?_
  rw [Hlt.out]
  rintro e w6 ⟨rfl, rfl⟩
  clear n_r
  go_wp2_with fail
  refine (add_num n_a n_b (by decide) (by decide)).mono ?_
  rintro e w7 ⟨v_x3, rfl, x_x3, b7⟩
  replace hb := bnext hb b7
  replace n_a := n_a.below b7
  replace n_b := n_b.below b7
  clear b7
  have n_x3 := x_x3.num 41 l_x3
  clear x_x3
  go_wp2_with fail
  refine (sub_num n_x3 n_b (by decide) (by decide)).mono ?_
  rintro e w8 ⟨v_x4, rfl, x_x4, b8⟩
  replace hb := bnext hb b8
  replace n_a := n_a.below b8
  clear n_b
  clear n_x3
  clear b8
  rw [E_x4.out] at x_x4
  have n_x4 := x_x4.num 41 l_x4
  clear x_x4
  go_wp2_with fail
  refine (cmp_num n_x4 n_a (by decide) (by decide)).mono ?_
  rw [Heq.out]
  rintro e w9 ⟨rfl, rfl⟩
  clear n_a
  clear n_x4
  go_wp2_with fail
  refine (lives_yes _).mono ?_
  rintro e w10 ⟨rfl, b10⟩
  replace hb := bnext hb b10
  go_wp2_with fail
  go_ret
  exact ⟨rfl, hb⟩

set_option maxHeartbeats 800000 in
theorem natBack_big (a0 : Option Addr) (len0 cap0 : Nat) (a1 : Option Addr) (len1 cap1 : Nat)  (w : World) (m0 : len0 ≤ maxLen) (m1 : len1 ≤ maxLen) (h : 40 < len0 ∨ 40 < len1)  :
    Calls Tryd.prog 7 #[.slice a0 len0 cap0, .slice a1 len1 cap1] w fun e w' => e = .returned (.bool true) ∧ Below w.heap.size w w' := by
  have hall : ∀ i, i < 2 → ∃ A n c, (w.alloc (.cells #[.slice a0 len0 cap0, .slice a1 len1 cap1] 22)).cell? ⟨w.heap.size, i, none⟩ = some (.slice A n c) ∧ n ≤ maxLen := by
    intro i hi
    rcases (show i = 0 ∨ i = 1 by omega) with rfl | rfl
    · exact ⟨a0, len0, cap0, by simp, m0⟩
    · exact ⟨a1, len1, cap1, by simp, m1⟩
  obtain ⟨m, hm, hbig⟩ : ∃ m, m < 2 ∧ ∃ A n c, (w.alloc (.cells #[.slice a0 len0 cap0, .slice a1 len1 cap1] 22)).cell? ⟨w.heap.size, m, none⟩ = some (.slice A n c) ∧ 40 < n := by
    rcases h with h | h
    · exact ⟨0, by omega, a0, len0, cap0, by simp, h⟩
    · exact ⟨1, by omega, a1, len1, cap1, by simp, h⟩
  have HA := Lib.hid (And.intro hall hbig)
  clear hall hbig h m0 m1
  have hb : Below w.heap.size w (w.alloc (.cells #[.slice a0 len0 cap0, .slice a1 len1 cap1] 22)) := (Below.refl _ _).alloc (Nat.le_refl _) _
  go_enter Tryd.func7, Tryd.ntmps7
  go_wp2_with fail
  refine (small_no w.heap.size 2 _ (by decide) HA.out.1 m hm HA.out.2).mono ?_
  rintro e w0 ⟨rfl, rfl⟩
  go_wp2_with fail
  refine (lives_yes _).mono ?_
  rintro e w1 ⟨rfl, b1⟩
  go_wp2_with fail
  go_ret
  exact ⟨rfl, bnext hb b1⟩

theorem natBack_walk (a0 : Option Addr) (len0 cap0 : Nat) (ys0 : List Nat) (a1 : Option Addr) (len1 cap1 : Nat) (ys1 : List Nat)  (w : World) (s0 : Sl w a0 len0 cap0 ys0) (s1 : Sl w a1 len1 cap1 ys1)  :
    Calls Tryd.prog 7 #[.slice a0 len0 cap0, .slice a1 len1 cap1] w fun e w' => e = .returned (.bool true) ∧ Below w.heap.size w w' := by
  by_cases h : 40 < len0 ∨ 40 < len1
  · exact natBack_big a0 len0 cap0 a1 len1 cap1 w (Nat.le_trans s0.le s0.max) (Nat.le_trans s1.le s1.max) h
  · by_cases hB : val ys1 = 0
    · exact natBack_zero_small _ _ _ _ _ _ _ _ w (Num.of_sl s0 (by omega)) (Num.of_sl s1 (by omega)) (by omega) (by omega) hB
    · exact natBack_pos_small _ _ _ _ _ _ _ _ w (Num.of_sl s0 (by omega)) (Num.of_sl s1 (by omega)) (by omega) (by omega) hB
end Go.Proofs.YtbcehgmicgddiaaDoor
