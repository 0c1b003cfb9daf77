/-
  The law NatDivs: its walk.
-/
import Derived.Test.YtbcehgmicgddiaaDoorRefDivS
import Derived.OpenShut
namespace Go.Proofs.YtbcehgmicgddiaaDoor
open Go.RowKit

set_option maxHeartbeats 1600000 in
theorem natDivs_mid_small (a0 : Option Addr) (len0 cap0 : Nat) (a1 : Option Addr) (len1 cap1 : Nat) (A B : Nat) (d : Nat) (w : World) (n_a : Num w (.slice a0 len0 cap0) A 40) (n_b : Num w (.slice a1 len1 cap1) B 40) (k0 : len0 ≤ 40) (k1 : len1 ≤ 40) (h1 : 24 < len0) (_hd : d < 4294967296) :
    Calls Tryd.prog 4 #[.slice a0 len0 cap0, .slice a1 len1 cap1, .int .u32 (d : Int)] w fun e w' => e = .returned (.bool true) ∧ Below w.heap.size w w' := by
  have l_a := n_a.lt
  have l_b := n_b.lt
  have hall : ∀ i, i < 2 → ∃ A n c, (w.alloc (.cells #[.slice a0 len0 cap0, .slice a1 len1 cap1] 22)).cell? ⟨w.heap.size, i, none⟩ = some (.slice A n c) ∧ n ≤ 40 := by
    intro i hi
    rcases (show i = 0 ∨ i = 1 by omega) with rfl | rfl
    · exact ⟨a0, len0, cap0, by simp, k0⟩
    · exact ⟨a1, len1, cap1, by simp, k1⟩
  have HA := Lib.hid hall
  clear hall
  have hb : Below w.heap.size w (w.alloc (.cells #[.slice a0 len0 cap0, .slice a1 len1 cap1] 22)) := (Below.refl _ _).alloc (Nat.le_refl _) _
  go_enter Tryd.func4, Tryd.ntmps4
  go_wp2_with fail
  refine (small_yes w.heap.size 2 _ (by decide) HA.out).mono ?_
  rintro e w0 ⟨rfl, rfl⟩
  replace n_a := n_a.below hb
  replace n_b := n_b.below hb
  clear HA
  go_wp2_with fail
  refine (lives_yes _).mono ?_
  rintro e w1 ⟨rfl, b1⟩
  replace hb := bnext hb b1
  go_wp2_with fail
  go_ret
  exact ⟨rfl, hb⟩

set_option maxHeartbeats 1600000 in
theorem natDivs_in_small (a0 : Option Addr) (len0 cap0 : Nat) (a1 : Option Addr) (len1 cap1 : Nat) (A B : Nat) (d : Nat) (w : World) (n_a : Num w (.slice a0 len0 cap0) A 40) (n_b : Num w (.slice a1 len1 cap1) B 40) (k0 : len0 ≤ 40) (k1 : len1 ≤ 40) (h1 : len0 ≤ 24) (hd : d < 4294967296) :
    Calls Tryd.prog 4 #[.slice a0 len0 cap0, .slice a1 len1 cap1, .int .u32 (d : Int)] w fun e w' => e = .returned (.bool true) ∧ Below w.heap.size w w' := by
  have l_a := n_a.lt
  have l_b := n_b.lt
  have hall : ∀ i, i < 2 → ∃ A n c, (w.alloc (.cells #[.slice a0 len0 cap0, .slice a1 len1 cap1] 22)).cell? ⟨w.heap.size, i, none⟩ = some (.slice A n c) ∧ n ≤ 40 := by
    intro i hi
    rcases (show i = 0 ∨ i = 1 by omega) with rfl | rfl
    · exact ⟨a0, len0, cap0, by simp, k0⟩
    · exact ⟨a1, len1, cap1, by simp, k1⟩
  have HA := Lib.hid hall
  clear hall
  have hb : Below w.heap.size w (w.alloc (.cells #[.slice a0 len0 cap0, .slice a1 len1 cap1] 22)) := (Below.refl _ _).alloc (Nat.le_refl _) _
  go_enter Tryd.func4, Tryd.ntmps4
  go_wp2_with fail
  refine (small_yes w.heap.size 2 _ (by decide) HA.out).mono ?_
  rintro e w0 ⟨rfl, rfl⟩
  replace n_a := n_a.below hb
  replace n_b := n_b.below hb
  clear HA
  have l_q : A / B < 4294967296 ^ 40 := Nat.lt_of_le_of_lt (Nat.div_le_self _ _) l_a
  have l_r : remZ A B < 4294967296 ^ 40 := by
    unfold remZ
    split
    · exact pow_pos' _
    · exact Nat.lt_of_le_of_lt (Nat.mod_le _ _) l_a
  have l_x : A / d < 4294967296 ^ 40 := Nat.lt_of_le_of_lt (Nat.div_le_self _ _) l_a
  go_wp2_with fail
  refine (div_num n_a n_b (by decide)).mono ?_
  rintro e w1 ⟨vq, vr, rfl, x_q, x_r, b1⟩
  replace hb := bnext hb b1
  replace n_a := n_a.below b1
  replace n_b := n_b.below b1
  clear b1
  go_wp2_with fail
  refine (rdiv_num n_a n_b (by decide) (by decide)).mono ?_
  rintro e w2 ⟨vp, vs, rfl, x_p, x_s, b1⟩
  replace hb := bnext hb b1
  replace n_a := n_a.below b1
  replace x_q := x_q.next b1
  replace x_r := x_r.next b1
  clear b1 n_b
  go_wp2_with fail
  refine (ndivSmall_num n_a (by decide) hd).mono ?_
  rintro e w3 ⟨vx, rfl, x_x, b1⟩
  replace hb := bnext hb b1
  replace n_a := n_a.below b1
  replace x_q := x_q.next b1
  replace x_r := x_r.next b1
  replace x_p := x_p.next b1
  replace x_s := x_s.next b1
  clear b1
  go_wp2_with fail
  refine (rdivSmall_num n_a (by decide) hd).mono ?_
  rintro e w4 ⟨vy, rfl, x_y, b1⟩
  replace hb := bnext hb b1
  replace x_q := x_q.next b1
  replace x_r := x_r.next b1
  replace x_p := x_p.next b1
  replace x_s := x_s.next b1
  replace x_x := x_x.next b1
  clear b1 n_a
  go_wp2_with fail
  refine (same_new _ _ _ _ _ _ x_q x_p (Nat.le_trans (limbs_len_le l_q) (by decide))).mono ?_
  rintro e w5 ⟨rfl, b1⟩
  replace hb := bnext hb b1
  replace x_r := x_r.next b1
  replace x_s := x_s.next b1
  replace x_x := x_x.next b1
  replace x_y := x_y.next b1
  clear b1 x_q x_p
  go_wp2_with fail
  refine (same_new _ _ _ _ _ _ x_r x_s (Nat.le_trans (limbs_len_le l_r) (by decide))).mono ?_
  rintro e w6 ⟨rfl, b1⟩
  replace hb := bnext hb b1
  replace x_x := x_x.next b1
  replace x_y := x_y.next b1
  clear b1 x_r x_s
  go_wp2_with fail
  refine (same_new _ _ _ _ _ _ x_x x_y (Nat.le_trans (limbs_len_le l_x) (by decide))).mono ?_
  rintro e w7 ⟨rfl, b1⟩
  replace hb := bnext hb b1
  clear b1 x_x x_y
  go_wp2_with fail
  refine (lives_yes _).mono ?_
  rintro e w8 ⟨rfl, b1⟩
  replace hb := bnext hb b1
  go_wp2_with fail
  go_ret
  exact ⟨rfl, hb⟩

set_option maxHeartbeats 800000 in
theorem natDivs_big (a0 : Option Addr) (len0 cap0 : Nat) (a1 : Option Addr) (len1 cap1 : Nat) (d : Nat) (w : World) (m0 : len0 ≤ maxLen) (m1 : len1 ≤ maxLen) (h : 40 < len0 ∨ 40 < len1)  :
    Calls Tryd.prog 4 #[.slice a0 len0 cap0, .slice a1 len1 cap1, .int .u32 (d : Int)] w fun e w' => e = .returned (.bool true) ∧ Below w.heap.size w w' := by
  have hall : ∀ i, i < 2 → ∃ A n c, (w.alloc (.cells #[.slice a0 len0 cap0, .slice a1 len1 cap1] 22)).cell? ⟨w.heap.size, i, none⟩ = some (.slice A n c) ∧ n ≤ maxLen := by
    intro i hi
    rcases (show i = 0 ∨ i = 1 by omega) with rfl | rfl
    · exact ⟨a0, len0, cap0, by simp, m0⟩
    · exact ⟨a1, len1, cap1, by simp, m1⟩
  obtain ⟨m, hm, hbig⟩ : ∃ m, m < 2 ∧ ∃ A n c, (w.alloc (.cells #[.slice a0 len0 cap0, .slice a1 len1 cap1] 22)).cell? ⟨w.heap.size, m, none⟩ = some (.slice A n c) ∧ 40 < n := by
    rcases h with h | h
    · exact ⟨0, by omega, a0, len0, cap0, by simp, h⟩
    · exact ⟨1, by omega, a1, len1, cap1, by simp, h⟩
  have HA := Lib.hid (And.intro hall hbig)
  clear hall hbig h m0 m1
  have hb : Below w.heap.size w (w.alloc (.cells #[.slice a0 len0 cap0, .slice a1 len1 cap1] 22)) := (Below.refl _ _).alloc (Nat.le_refl _) _
  go_enter Tryd.func4, Tryd.ntmps4
  go_wp2_with fail
  refine (small_no w.heap.size 2 _ (by decide) HA.out.1 m hm HA.out.2).mono ?_
  rintro e w0 ⟨rfl, rfl⟩
  go_wp2_with fail
  refine (lives_yes _).mono ?_
  rintro e w1 ⟨rfl, b1⟩
  go_wp2_with fail
  go_ret
  exact ⟨rfl, bnext hb b1⟩

theorem natDivs_walk (a0 : Option Addr) (len0 cap0 : Nat) (ys0 : List Nat) (a1 : Option Addr) (len1 cap1 : Nat) (ys1 : List Nat) (nn : Int) (w : World) (s0 : Sl w a0 len0 cap0 ys0) (s1 : Sl w a1 len1 cap1 ys1) (hn : (Lit.int .u32 nn).wf = true) :
    Calls Tryd.prog 4 #[.slice a0 len0 cap0, .slice a1 len1 cap1, .int .u32 nn] w fun e w' => e = .returned (.bool true) ∧ Below w.heap.size w w' := by
  have hbd := bounds_u32 hn
  obtain ⟨d, rfl⟩ := Int.eq_ofNat_of_zero_le hbd.1
  by_cases h : 40 < len0 ∨ 40 < len1
  · exact natDivs_big a0 len0 cap0 a1 len1 cap1 d w (Nat.le_trans s0.le s0.max) (Nat.le_trans s1.le s1.max) h
  · by_cases h1 : 24 < len0
    · exact natDivs_mid_small _ _ _ _ _ _ _ _ d w (Num.of_sl s0 (by omega)) (Num.of_sl s1 (by omega)) (by omega) (by omega) h1 (by omega)
    · exact natDivs_in_small _ _ _ _ _ _ _ _ d w (Num.of_sl s0 (by omega)) (Num.of_sl s1 (by omega)) (by omega) (by omega) (by omega) (by omega)
end Go.Proofs.YtbcehgmicgddiaaDoor
