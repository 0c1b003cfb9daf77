/-
  The law WholeDivs: its walk.
-/
import Derived.Test.YtjildimhflondaaDoorWrfl
import Derived.Test.YtjildimhflondaaDoorWrgc
namespace Go.Proofs.YtjildimhflondaaDoor
open Go.RowKit

theorem gcd_abs {a b : Int} {K L : Nat} (ha : a.natAbs < 4294967296 ^ K) (hb : b.natAbs < 4294967296 ^ L) (hK : K ≤ L) : (gcdZ a b).natAbs < 4294967296 ^ L := by
  unfold gcdZ
  rw [Int.natAbs_natCast]
  rcases Nat.eq_zero_or_pos a.natAbs with h | h
  · rw [h, Nat.gcd_zero_left]; exact hb
  · exact Nat.lt_of_le_of_lt (Nat.gcd_le_left _ h) (lt_up ha hK)

set_option maxRecDepth 20000 in
set_option maxHeartbeats 32000000 in
theorem wholeDivs_small (s0 : Bool) (a0 : Option Addr) (len0 cap0 : Nat) (s1 : Bool) (a1 : Option Addr) (len1 cap1 : Nat) (A B : Int)  (w : World) (h_a : Wh w (.agg #[.bool s0, .slice a0 len0 cap0]) A 12) (h_b : Wh w (.agg #[.bool s1, .slice a1 len1 cap1]) B 12) (k0 : len0 ≤ 12) (k1 : len1 ≤ 12)  :
    Calls Tryd.prog 5 #[.agg #[.bool s0, .slice a0 len0 cap0], .agg #[.bool s1, .slice a1 len1 cap1]] w fun e w' => e = .returned (.bool true) ∧ Below w.heap.size w w' := by
  have l_a := h_a.lt
  have l_b := h_b.lt
  obtain ⟨V0, V1, hb0⟩ := ents2 w (.bool s0) (.slice a0 len0 cap0) (.bool s1) (.slice a1 len1 cap1)
  have hsz : ((w.alloc (.cells #[.bool s0, .slice a0 len0 cap0] 36)).alloc (.cells #[.bool s1, .slice a1 len1 cap1] 36)).heap.size = w.heap.size + 1 + 1 := by simp
  have hall : ∀ i, i < 2 → ∃ s A n c, (((w.alloc (.cells #[.bool s0, .slice a0 len0 cap0] 36)).alloc (.cells #[.bool s1, .slice a1 len1 cap1] 36)).alloc (.cells #[.bool s0, .slice a0 len0 cap0, .bool s1, .slice a1 len1 cap1] 36)).cell? ⟨w.heap.size + 1 + 1, i * 2, none⟩ = some (.bool s) ∧ (((w.alloc (.cells #[.bool s0, .slice a0 len0 cap0] 36)).alloc (.cells #[.bool s1, .slice a1 len1 cap1] 36)).alloc (.cells #[.bool s0, .slice a0 len0 cap0, .bool s1, .slice a1 len1 cap1] 36)).cell? ⟨w.heap.size + 1 + 1, i * 2 + 1, none⟩ = some (.slice A n c) ∧ n ≤ 24 := by
    intro i hi
    rw [← hsz]
    rcases (show i = 0 ∨ i = 1 by omega) with rfl | rfl
    · exact ⟨s0, a0, len0, cap0, (cell_new _ _ _ _).trans rfl, (cell_new _ _ _ _).trans rfl, Nat.le_trans k0 (by decide)⟩
    · exact ⟨s1, a1, len1, cap1, (cell_new _ _ _ _).trans rfl, (cell_new _ _ _ _).trans rfl, Nat.le_trans k1 (by decide)⟩
  have hglt : w.heap.size + 1 + 1 < (((w.alloc (.cells #[.bool s0, .slice a0 len0 cap0] 36)).alloc (.cells #[.bool s1, .slice a1 len1 cap1] 36)).alloc (.cells #[.bool s0, .slice a0 len0 cap0, .bool s1, .slice a1 len1 cap1] 36)).heap.size := by rw [← hsz]; simp
  have HA := Lib.hid (And.intro hglt hall)
  clear hall hglt hsz
  have hb : Below w.heap.size w (((w.alloc (.cells #[.bool s0, .slice a0 len0 cap0] 36)).alloc (.cells #[.bool s1, .slice a1 len1 cap1] 36)).alloc (.cells #[.bool s0, .slice a0 len0 cap0, .bool s1, .slice a1 len1 cap1] 36)) := bnew hb0 _
  replace V0 := V0.alloc (.cells #[.bool s0, .slice a0 len0 cap0, .bool s1, .slice a1 len1 cap1] 36)
  replace V1 := V1.alloc (.cells #[.bool s0, .slice a0 len0 cap0, .bool s1, .slice a1 len1 cap1] 36)
  have V00 := (ents2 w (.bool s0) (.slice a0 len0 cap0) (.bool s1) (.slice a1 len1 cap1)).1.c0
  have V01 := (ents2 w (.bool s0) (.slice a0 len0 cap0) (.bool s1) (.slice a1 len1 cap1)).1.c1
  have V10 := (ents2 w (.bool s0) (.slice a0 len0 cap0) (.bool s1) (.slice a1 len1 cap1)).2.1.c0
  have V11 := (ents2 w (.bool s0) (.slice a0 len0 cap0) (.bool s1) (.slice a1 len1 cap1)).2.1.c1
  clear hb0
  go_enter Tryd.func5, Tryd.ntmps5
  go_wp2_with fail
  refine (wlsmall_yes (w.heap.size + 1 + 1) 2 _ (by decide) HA.out.1 HA.out.2).mono ?_
  rintro e w0 ⟨rfl, b0⟩
  replace hb := bnext hb b0
  clear HA V00 V01 V10 V11
  replace V0 := V0.next b0
  replace V1 := V1.next b0
  replace h_a := h_a.below hb
  replace h_b := h_b.below hb
  clear b0
  have hbd : (quoQ A B).natAbs < 4294967296 ^ 12 ∧ (quoR A B).natAbs < 4294967296 ^ 12 ∧ (flQ A B).natAbs < 4294967296 ^ 13 ∧ (flR A B).natAbs < 4294967296 ^ 12 := by
    by_cases hB : B = 0
    · unfold quoQ quoR flQ flR
      simp only [if_pos hB]
      decide
    · refine ⟨Nat.lt_of_le_of_lt (quo_absQ hB) l_a, Nat.lt_trans (by have := @quo_bd A B hB; omega) l_b, Nat.lt_of_le_of_lt (fl_absQ hB) (Nat.lt_of_le_of_lt (Nat.succ_le_of_lt l_a) (by decide)), Nat.lt_trans (by have := @fl_bd A B hB; omega) l_b⟩
  have lg := gcd_abs l_a l_b (Nat.le_refl _)
  have HL := Lib.hid (And.intro hbd lg)
  have HQ1 := Lib.hid (fun (W : World) (u v : Value) (hu : Wh W u A 12) (hv : Wh W v B 12) => wquo_num hu hv (by decide) (by decide))
  have HQ2 := Lib.hid (fun (W : World) (u v : Value) (hu : Wh W u A 12) (hv : Wh W v B 12) => rwquo_num hu hv (by decide) (by decide))
  have HF1 := Lib.hid (fun (W : World) (u v : Value) (hu : Wh W u A 12) (hv : Wh W v B 12) => wfloor_num hu hv (by decide) (by decide))
  have HF2 := Lib.hid (fun (W : World) (u v : Value) (hu : Wh W u A 12) (hv : Wh W v B 12) => rwfloor_num hu hv (by decide) (by decide))
  clear hbd lg l_a l_b
  generalize quoE B = er at *
  by_cases h6 : 6 < len0
  · have V00 := V0.c0
    have V01 := V0.c1
    have V10 := V1.c0
    have V11 := V1.c1
    go_wp2_with fail
    refine (HQ1.out _ _ _ h_a h_b).mono ?_
    rintro e w1 ⟨v_q, v_r, rfl, x_q, x_r, b1⟩
    replace hb := bnext hb b1
    clear V00 V01 V10 V11
    replace V0 := V0.next b1
    replace V1 := V1.next b1
    replace h_a := h_a.below b1
    replace h_b := h_b.below b1
    have V00 := V0.c0
    have V01 := V0.c1
    have V10 := V1.c0
    have V11 := V1.c1
    clear b1
    obtain ⟨s_q, A_q, n_q, c_q, rfl, g_q⟩ := x_q.opened
    obtain ⟨s_r, A_r, n_r, c_r, rfl, g_r⟩ := x_r.opened
    have bl : Below w1.heap.size w1 ((w1.alloc (.cells #[.bool s_q, .slice A_q n_q c_q] 36)).alloc (.cells #[.bool s_r, .slice A_r n_r c_r] 36)) := (bnew (bnew (Below.refl _ _) _) _)
    obtain ⟨V_q, V_r⟩ := mk2 w1 (.bool s_q) (.slice A_q n_q c_q) (.bool s_r) (.slice A_r n_r c_r)
    replace hb := bnext hb bl
    clear V00 V01 V10 V11
    replace V0 := V0.next bl
    replace V1 := V1.next bl
    replace x_q := x_q.next bl
    replace x_r := x_r.next bl
    replace h_a := h_a.below bl
    replace h_b := h_b.below bl
    have V00 := V0.c0
    have V01 := V0.c1
    have V10 := V1.c0
    have V11 := V1.c1
    clear bl
    clear g_q
    clear g_r
    clear V00 V01 V10 V11
    have V00 := V0.c0
    have V01 := V0.c1
    have V10 := V1.c0
    have V11 := V1.c1
    have V_q0 := V_q.c0
    have V_q1 := V_q.c1
    have V_r0 := V_r.c0
    have V_r1 := V_r.c1
    go_wp2_with fail
    refine (HQ2.out _ _ _ h_a h_b).mono ?_
    rintro e w2 ⟨v_p, v_s, rfl, x_p, x_s, b2⟩
    replace hb := bnext hb b2
    clear V00 V01 V10 V11 V_q0 V_q1 V_r0 V_r1
    replace V0 := V0.next b2
    replace V1 := V1.next b2
    replace V_q := V_q.next b2
    replace V_r := V_r.next b2
    replace x_q := x_q.next b2
    replace x_r := x_r.next b2
    replace h_a := h_a.below b2
    replace h_b := h_b.below b2
    have V00 := V0.c0
    have V01 := V0.c1
    have V10 := V1.c0
    have V11 := V1.c1
    have V_q0 := V_q.c0
    have V_q1 := V_q.c1
    have V_r0 := V_r.c0
    have V_r1 := V_r.c1
    clear b2
    obtain ⟨s_p, A_p, n_p, c_p, rfl, g_p⟩ := x_p.opened
    obtain ⟨s_s, A_s, n_s, c_s, rfl, g_s⟩ := x_s.opened
    have bl : Below w2.heap.size w2 ((w2.alloc (.cells #[.bool s_p, .slice A_p n_p c_p] 36)).alloc (.cells #[.bool s_s, .slice A_s n_s c_s] 36)) := (bnew (bnew (Below.refl _ _) _) _)
    obtain ⟨V_p, V_s⟩ := mk2 w2 (.bool s_p) (.slice A_p n_p c_p) (.bool s_s) (.slice A_s n_s c_s)
    replace hb := bnext hb bl
    clear V00 V01 V10 V11 V_q0 V_q1 V_r0 V_r1
    replace V0 := V0.next bl
    replace V1 := V1.next bl
    replace V_q := V_q.next bl
    replace V_r := V_r.next bl
    replace x_q := x_q.next bl
    replace x_r := x_r.next bl
    replace x_p := x_p.next bl
    replace x_s := x_s.next bl
    replace h_a := h_a.below bl
    replace h_b := h_b.below bl
    have V00 := V0.c0
    have V01 := V0.c1
    have V10 := V1.c0
    have V11 := V1.c1
    have V_q0 := V_q.c0
    have V_q1 := V_q.c1
    have V_r0 := V_r.c0
    have V_r1 := V_r.c1
    clear bl
    clear g_p
    clear g_s
    clear V00 V01 V10 V11 V_q0 V_q1 V_r0 V_r1
    have V00 := V0.c0
    have V01 := V0.c1
    have V10 := V1.c0
    have V11 := V1.c1
    have V_q0 := V_q.c0
    have V_q1 := V_q.c1
    have V_r0 := V_r.c0
    have V_r1 := V_r.c1
    have V_p0 := V_p.c0
    have V_p1 := V_p.c1
    have V_s0 := V_s.c0
    have V_s1 := V_s.c1
    go_wp2_with fail
    refine (HF1.out _ _ _ h_a h_b).mono ?_
    rintro e w3 ⟨v_x, v_y, rfl, x_x, x_y, b3⟩
    replace hb := bnext hb b3
    clear V00 V01 V10 V11 V_q0 V_q1 V_r0 V_r1 V_p0 V_p1 V_s0 V_s1
    replace V0 := V0.next b3
    replace V1 := V1.next b3
    replace V_q := V_q.next b3
    replace V_r := V_r.next b3
    replace V_p := V_p.next b3
    replace V_s := V_s.next b3
    replace x_q := x_q.next b3
    replace x_r := x_r.next b3
    replace x_p := x_p.next b3
    replace x_s := x_s.next b3
    replace h_a := h_a.below b3
    replace h_b := h_b.below b3
    have V00 := V0.c0
    have V01 := V0.c1
    have V10 := V1.c0
    have V11 := V1.c1
    have V_q0 := V_q.c0
    have V_q1 := V_q.c1
    have V_r0 := V_r.c0
    have V_r1 := V_r.c1
    have V_p0 := V_p.c0
    have V_p1 := V_p.c1
    have V_s0 := V_s.c0
    have V_s1 := V_s.c1
    clear b3
    obtain ⟨s_x, A_x, n_x, c_x, rfl, g_x⟩ := x_x.opened
    obtain ⟨s_y, A_y, n_y, c_y, rfl, g_y⟩ := x_y.opened
    have bl : Below w3.heap.size w3 ((w3.alloc (.cells #[.bool s_x, .slice A_x n_x c_x] 36)).alloc (.cells #[.bool s_y, .slice A_y n_y c_y] 36)) := (bnew (bnew (Below.refl _ _) _) _)
    obtain ⟨V_x, V_y⟩ := mk2 w3 (.bool s_x) (.slice A_x n_x c_x) (.bool s_y) (.slice A_y n_y c_y)
    replace hb := bnext hb bl
    clear V00 V01 V10 V11 V_q0 V_q1 V_r0 V_r1 V_p0 V_p1 V_s0 V_s1
    replace V0 := V0.next bl
    replace V1 := V1.next bl
    replace V_q := V_q.next bl
    replace V_r := V_r.next bl
    replace V_p := V_p.next bl
    replace V_s := V_s.next bl
    replace x_q := x_q.next bl
    replace x_r := x_r.next bl
    replace x_p := x_p.next bl
    replace x_s := x_s.next bl
    replace x_x := x_x.next bl
    replace x_y := x_y.next bl
    replace h_a := h_a.below bl
    replace h_b := h_b.below bl
    have V00 := V0.c0
    have V01 := V0.c1
    have V10 := V1.c0
    have V11 := V1.c1
    have V_q0 := V_q.c0
    have V_q1 := V_q.c1
    have V_r0 := V_r.c0
    have V_r1 := V_r.c1
    have V_p0 := V_p.c0
    have V_p1 := V_p.c1
    have V_s0 := V_s.c0
    have V_s1 := V_s.c1
    clear bl
    clear g_x
    clear g_y
    clear V00 V01 V10 V11 V_q0 V_q1 V_r0 V_r1 V_p0 V_p1 V_s0 V_s1
    have V00 := V0.c0
    have V01 := V0.c1
    have V10 := V1.c0
    have V11 := V1.c1
    have V_q0 := V_q.c0
    have V_q1 := V_q.c1
    have V_r0 := V_r.c0
    have V_r1 := V_r.c1
    have V_p0 := V_p.c0
    have V_p1 := V_p.c1
    have V_s0 := V_s.c0
    have V_s1 := V_s.c1
    have V_x0 := V_x.c0
    have V_x1 := V_x.c1
    have V_y0 := V_y.c0
    have V_y1 := V_y.c1
    go_wp2_with fail
    refine (HF2.out _ _ _ h_a h_b).mono ?_
    rintro e w4 ⟨v_u, v_v, rfl, x_u, x_v, b4⟩
    replace hb := bnext hb b4
    clear V00 V01 V10 V11 V_q0 V_q1 V_r0 V_r1 V_p0 V_p1 V_s0 V_s1 V_x0 V_x1 V_y0 V_y1
    replace V0 := V0.next b4
    replace V1 := V1.next b4
    replace V_q := V_q.next b4
    replace V_r := V_r.next b4
    replace V_p := V_p.next b4
    replace V_s := V_s.next b4
    replace V_x := V_x.next b4
    replace V_y := V_y.next b4
    replace x_q := x_q.next b4
    replace x_r := x_r.next b4
    replace x_p := x_p.next b4
    replace x_s := x_s.next b4
    replace x_x := x_x.next b4
    replace x_y := x_y.next b4
    replace h_a := h_a.below b4
    replace h_b := h_b.below b4
    have V00 := V0.c0
    have V01 := V0.c1
    have V10 := V1.c0
    have V11 := V1.c1
    have V_q0 := V_q.c0
    have V_q1 := V_q.c1
    have V_r0 := V_r.c0
    have V_r1 := V_r.c1
    have V_p0 := V_p.c0
    have V_p1 := V_p.c1
    have V_s0 := V_s.c0
    have V_s1 := V_s.c1
    have V_x0 := V_x.c0
    have V_x1 := V_x.c1
    have V_y0 := V_y.c0
    have V_y1 := V_y.c1
    clear b4
    obtain ⟨s_u, A_u, n_u, c_u, rfl, g_u⟩ := x_u.opened
    obtain ⟨s_v, A_v, n_v, c_v, rfl, g_v⟩ := x_v.opened
    have bl : Below w4.heap.size w4 ((w4.alloc (.cells #[.bool s_u, .slice A_u n_u c_u] 36)).alloc (.cells #[.bool s_v, .slice A_v n_v c_v] 36)) := (bnew (bnew (Below.refl _ _) _) _)
    obtain ⟨V_u, V_v⟩ := mk2 w4 (.bool s_u) (.slice A_u n_u c_u) (.bool s_v) (.slice A_v n_v c_v)
    replace hb := bnext hb bl
    clear V00 V01 V10 V11 V_q0 V_q1 V_r0 V_r1 V_p0 V_p1 V_s0 V_s1 V_x0 V_x1 V_y0 V_y1
    replace V0 := V0.next bl
    replace V1 := V1.next bl
    replace V_q := V_q.next bl
    replace V_r := V_r.next bl
    replace V_p := V_p.next bl
    replace V_s := V_s.next bl
    replace V_x := V_x.next bl
    replace V_y := V_y.next bl
    replace x_q := x_q.next bl
    replace x_r := x_r.next bl
    replace x_p := x_p.next bl
    replace x_s := x_s.next bl
    replace x_x := x_x.next bl
    replace x_y := x_y.next bl
    replace x_u := x_u.next bl
    replace x_v := x_v.next bl
    replace h_a := h_a.below bl
    replace h_b := h_b.below bl
    have V00 := V0.c0
    have V01 := V0.c1
    have V10 := V1.c0
    have V11 := V1.c1
    have V_q0 := V_q.c0
    have V_q1 := V_q.c1
    have V_r0 := V_r.c0
    have V_r1 := V_r.c1
    have V_p0 := V_p.c0
    have V_p1 := V_p.c1
    have V_s0 := V_s.c0
    have V_s1 := V_s.c1
    have V_x0 := V_x.c0
    have V_x1 := V_x.c1
    have V_y0 := V_y.c0
    have V_y1 := V_y.c1
    clear bl
    clear g_u
    clear g_v
    clear V00 V01 V10 V11 V_q0 V_q1 V_r0 V_r1 V_p0 V_p1 V_s0 V_s1 V_x0 V_x1 V_y0 V_y1
    have V00 := V0.c0
    have V01 := V0.c1
    have V10 := V1.c0
    have V11 := V1.c1
    have V_q0 := V_q.c0
    have V_q1 := V_q.c1
    have V_r0 := V_r.c0
    have V_r1 := V_r.c1
    have V_p0 := V_p.c0
    have V_p1 := V_p.c1
    have V_s0 := V_s.c0
    have V_s1 := V_s.c1
    have V_x0 := V_x.c0
    have V_x1 := V_x.c1
    have V_y0 := V_y.c0
    have V_y1 := V_y.c1
    have V_u0 := V_u.c0
    have V_u1 := V_u.c1
    have V_v0 := V_v.c0
    have V_v1 := V_v.c1
    go_wp2_with fail
    clear HQ1 HQ2 HF1 HF2
    have hd1 : decide (6 < (len0 : Int)) = true := decide_eq_true (by omega)
    have hd2 : decide ((len0 : Int) > 6) = true := decide_eq_true (by omega)
    have hd3 : decide (6 < len0) = true := decide_eq_true (by omega)
    clear V00 V01 V10 V11 V_q0 V_q1 V_r0 V_r1 V_p0 V_p1 V_s0 V_s1 V_x0 V_x1 V_y0 V_y1 V_u0 V_u1 V_v0 V_v1
    replace V0 := V0.next (Below.refl _ _).drew
    replace V1 := V1.next (Below.refl _ _).drew
    replace V_q := V_q.next (Below.refl _ _).drew
    replace V_r := V_r.next (Below.refl _ _).drew
    replace V_p := V_p.next (Below.refl _ _).drew
    replace V_s := V_s.next (Below.refl _ _).drew
    replace V_x := V_x.next (Below.refl _ _).drew
    replace V_y := V_y.next (Below.refl _ _).drew
    replace V_u := V_u.next (Below.refl _ _).drew
    replace V_v := V_v.next (Below.refl _ _).drew
    replace x_q := x_q.next (Below.refl _ _).drew
    replace x_r := x_r.next (Below.refl _ _).drew
    replace x_p := x_p.next (Below.refl _ _).drew
    replace x_s := x_s.next (Below.refl _ _).drew
    replace x_x := x_x.next (Below.refl _ _).drew
    replace x_y := x_y.next (Below.refl _ _).drew
    replace x_u := x_u.next (Below.refl _ _).drew
    replace x_v := x_v.next (Below.refl _ _).drew
    replace h_a := h_a.below (Below.refl _ _).drew
    replace h_b := h_b.below (Below.refl _ _).drew
    replace hb := hb.drew
    refine wp_region_noPanic ?_
    refine wp_region_held_drew (S := fun w' => w'.cell? ⟨w.heap.size, 0, none⟩ = some (.bool s0) ∧ w'.cell? ⟨w.heap.size, 1, none⟩ = some (.slice a0 len0 cap0) ∧ w'.cell? ⟨w.heap.size + 1, 0, none⟩ = some (.bool s1) ∧ w'.cell? ⟨w.heap.size + 1, 1, none⟩ = some (.slice a1 len1 cap1) ∧ w'.cell? ⟨w1.heap.size, 0, none⟩ = some (.bool s_q) ∧ w'.cell? ⟨w1.heap.size, 1, none⟩ = some (.slice A_q n_q c_q) ∧ w'.cell? ⟨w1.heap.size + 1, 0, none⟩ = some (.bool s_r) ∧ w'.cell? ⟨w1.heap.size + 1, 1, none⟩ = some (.slice A_r n_r c_r) ∧ w'.cell? ⟨w2.heap.size, 0, none⟩ = some (.bool s_p) ∧ w'.cell? ⟨w2.heap.size, 1, none⟩ = some (.slice A_p n_p c_p) ∧ w'.cell? ⟨w2.heap.size + 1, 0, none⟩ = some (.bool s_s) ∧ w'.cell? ⟨w2.heap.size + 1, 1, none⟩ = some (.slice A_s n_s c_s) ∧ w'.cell? ⟨w3.heap.size, 0, none⟩ = some (.bool s_x) ∧ w'.cell? ⟨w3.heap.size, 1, none⟩ = some (.slice A_x n_x c_x) ∧ w'.cell? ⟨w3.heap.size + 1, 0, none⟩ = some (.bool s_y) ∧ w'.cell? ⟨w3.heap.size + 1, 1, none⟩ = some (.slice A_y n_y c_y) ∧ w'.cell? ⟨w4.heap.size, 0, none⟩ = some (.bool s_u) ∧ w'.cell? ⟨w4.heap.size, 1, none⟩ = some (.slice A_u n_u c_u) ∧ w'.cell? ⟨w4.heap.size + 1, 0, none⟩ = some (.bool s_v) ∧ w'.cell? ⟨w4.heap.size + 1, 1, none⟩ = some (.slice A_v n_v c_v)) (by kernel_rfl) ?_ (fun hHeld => ?_)
    · exact ⟨V0.c0, V0.c1, V1.c0, V1.c1, V_q.c0, V_q.c1, V_r.c0, V_r.c1, V_p.c0, V_p.c1, V_s.c0, V_s.c1, V_x.c0, V_x.c1, V_y.c0, V_y.c1, V_u.c0, V_u.c1, V_v.c0, V_v.c1⟩
    refine wpAnyH_take (i := 0) (oi := { dst := some 63, op := Op.load 36 (Operand.tmp 5), type := 36, pos := "law.go:50", after := #[], guard := none }) (v := ?_) rfl (by kernel_rfl) (by kernel_rfl) (by kernel_rfl) (fun _ _ _ h => h) (Or.inl ⟨by rfl, ?_⟩) hHeld ?_
    rotate_left
    · intro w hSw
      try dsimp only at hSw
      go_simp
      try with_reducible rfl
    try simp only [Act.put, List.setIfInBounds_toArray, List.set_cons_zero, List.set_cons_succ]
    refine wpAnyH_take (i := 1) (oi := { dst := some 64, op := Op.load 36 (Operand.tmp 8), type := 36, pos := "law.go:50", after := #[], guard := none }) (v := ?_) rfl (by kernel_rfl) (by kernel_rfl) (by kernel_rfl) (fun _ _ _ h => h) (Or.inl ⟨by rfl, ?_⟩) hHeld ?_
    rotate_left
    · intro w hSw
      try dsimp only at hSw
      go_simp
      try with_reducible rfl
    try simp only [Act.put, List.setIfInBounds_toArray, List.set_cons_zero, List.set_cons_succ]
    refine wpAnyH_ready (rs := [2]) (by kernel_rfl) (by simp) ?_
    refine AllReadyH.cons (o := { dst := some 65, op := Op.call { callee := Callee.value (Operand.func 20), args := #[Operand.tmp 63, Operand.tmp 64], argTypes := #[36, 36] }, type := 4, pos := "law.go:50", after := #[{ on := 0, ground := Ground.data }, { on := 1, ground := Ground.data }], guard := none }) rfl (fun K hK => ?_) AllReadyH.nil
    go_simp
    go_at_call 20
    refine (wsame_new x_q x_p (K := 12) HL.out.1.1 (by decide)).mono ?_
    rintro e w5 ⟨rfl, b5⟩
    replace hb := bnext hb b5
    replace V0 := V0.next b5
    replace V1 := V1.next b5
    replace V_q := V_q.next b5
    replace V_r := V_r.next b5
    replace V_p := V_p.next b5
    replace V_s := V_s.next b5
    replace V_x := V_x.next b5
    replace V_y := V_y.next b5
    replace V_u := V_u.next b5
    replace V_v := V_v.next b5
    replace x_q := x_q.next b5
    replace x_r := x_r.next b5
    replace x_p := x_p.next b5
    replace x_s := x_s.next b5
    replace x_x := x_x.next b5
    replace x_y := x_y.next b5
    replace x_u := x_u.next b5
    replace x_v := x_v.next b5
    replace h_a := h_a.below b5
    replace h_b := h_b.below b5
    clear hHeld
    refine hK.out _ _ ?_ (fun hHeld => ?_)
    · exact ⟨V0.c0, V0.c1, V1.c0, V1.c1, V_q.c0, V_q.c1, V_r.c0, V_r.c1, V_p.c0, V_p.c1, V_s.c0, V_s.c1, V_x.c0, V_x.c1, V_y.c0, V_y.c1, V_u.c0, V_u.c1, V_v.c0, V_v.c1⟩
    clear hK K
    try simp only [Act.put, List.setIfInBounds_toArray, List.set_cons_zero, List.set_cons_succ]
    refine wpAnyH_take (i := 3) (oi := { dst := some 66, op := Op.move (Operand.tmp 65), type := 4, pos := "law.go:50", after := #[{ on := 2, ground := Ground.data }, { on := 2, ground := Ground.chain }], guard := none }) (v := ?_) rfl (by kernel_rfl) (by kernel_rfl) (by kernel_rfl) (fun _ _ _ h => h) (Or.inl ⟨by rfl, ?_⟩) hHeld ?_
    rotate_left
    · intro w hSw
      try dsimp only at hSw
      go_simp
      try with_reducible rfl
    try simp only [Act.put, List.setIfInBounds_toArray, List.set_cons_zero, List.set_cons_succ]
    refine wpAnyH_take (i := 4) (oi := { dst := some 67, op := Op.load 36 (Operand.tmp 6), type := 36, pos := "law.go:50", after := #[{ on := 3, ground := Ground.guard }], guard := some (3, true) }) (v := ?_) rfl (by kernel_rfl) (by kernel_rfl) (by kernel_rfl) (fun _ _ _ h => h) (Or.inl ⟨by rfl, ?_⟩) hHeld ?_
    rotate_left
    · intro w hSw
      try dsimp only at hSw
      go_simp
      try with_reducible rfl
    try simp only [Act.put, List.setIfInBounds_toArray, List.set_cons_zero, List.set_cons_succ]
    refine wpAnyH_take (i := 5) (oi := { dst := some 68, op := Op.load 36 (Operand.tmp 9), type := 36, pos := "law.go:50", after := #[{ on := 3, ground := Ground.guard }], guard := some (3, true) }) (v := ?_) rfl (by kernel_rfl) (by kernel_rfl) (by kernel_rfl) (fun _ _ _ h => h) (Or.inl ⟨by rfl, ?_⟩) hHeld ?_
    rotate_left
    · intro w hSw
      try dsimp only at hSw
      go_simp
      try with_reducible rfl
    try simp only [Act.put, List.setIfInBounds_toArray, List.set_cons_zero, List.set_cons_succ]
    refine wpAnyH_ready (rs := [6]) (by kernel_rfl) (by simp) ?_
    refine AllReadyH.cons (o := { dst := some 69, op := Op.call { callee := Callee.value (Operand.func 20), args := #[Operand.tmp 67, Operand.tmp 68], argTypes := #[36, 36] }, type := 4, pos := "law.go:50", after := #[{ on := 4, ground := Ground.data }, { on := 5, ground := Ground.data }, { on := 3, ground := Ground.chain }, { on := 3, ground := Ground.guard }], guard := some (3, true) }) rfl (fun K hK => ?_) AllReadyH.nil
    go_simp
    go_at_call 20
    refine (wsame_new x_r x_s (K := 12) HL.out.1.2.1 (by decide)).mono ?_
    rintro e w6 ⟨rfl, b6⟩
    replace hb := bnext hb b6
    replace V0 := V0.next b6
    replace V1 := V1.next b6
    replace V_q := V_q.next b6
    replace V_r := V_r.next b6
    replace V_p := V_p.next b6
    replace V_s := V_s.next b6
    replace V_x := V_x.next b6
    replace V_y := V_y.next b6
    replace V_u := V_u.next b6
    replace V_v := V_v.next b6
    replace x_q := x_q.next b6
    replace x_r := x_r.next b6
    replace x_p := x_p.next b6
    replace x_s := x_s.next b6
    replace x_x := x_x.next b6
    replace x_y := x_y.next b6
    replace x_u := x_u.next b6
    replace x_v := x_v.next b6
    replace h_a := h_a.below b6
    replace h_b := h_b.below b6
    clear hHeld
    refine hK.out _ _ ?_ (fun hHeld => ?_)
    · exact ⟨V0.c0, V0.c1, V1.c0, V1.c1, V_q.c0, V_q.c1, V_r.c0, V_r.c1, V_p.c0, V_p.c1, V_s.c0, V_s.c1, V_x.c0, V_x.c1, V_y.c0, V_y.c1, V_u.c0, V_u.c1, V_v.c0, V_v.c1⟩
    clear hK K
    try simp only [Act.put, List.setIfInBounds_toArray, List.set_cons_zero, List.set_cons_succ]
    refine wpAnyH_take (i := 7) (oi := { dst := some 70, op := Op.pick (Operand.tmp 66) (Operand.tmp 69) (Operand.const (Value.bool false)), type := 4, pos := "law.go:50", after := #[{ on := 3, ground := Ground.data }, { on := 6, ground := Ground.data }], guard := none }) (v := ?_) rfl (by kernel_rfl) (by kernel_rfl) (by kernel_rfl) (fun _ _ _ h => h) (Or.inl ⟨by rfl, ?_⟩) hHeld ?_
    rotate_left
    · intro w hSw
      try dsimp only at hSw
      go_simp
      try with_reducible rfl
    try simp only [Act.put, List.setIfInBounds_toArray, List.set_cons_zero, List.set_cons_succ]
    refine wpAnyH_take (i := 8) (oi := { dst := some 71, op := Op.move (Operand.tmp 70), type := 4, pos := "law.go:50", after := #[{ on := 7, ground := Ground.data }, { on := 6, ground := Ground.chain }], guard := none }) (v := ?_) rfl (by kernel_rfl) (by kernel_rfl) (by kernel_rfl) (fun _ _ _ h => h) (Or.inl ⟨by rfl, ?_⟩) hHeld ?_
    rotate_left
    · intro w hSw
      try dsimp only at hSw
      go_simp
      try with_reducible rfl
    try simp only [Act.put, List.setIfInBounds_toArray, List.set_cons_zero, List.set_cons_succ]
    refine wpAnyH_take (i := 9) (oi := { dst := some 72, op := Op.move (Operand.tmp 7), type := 47, pos := "law.go:50", after := #[{ on := 8, ground := Ground.guard }], guard := some (8, true) }) (v := ?_) rfl (by kernel_rfl) (by kernel_rfl) (by kernel_rfl) (fun _ _ _ h => h) (Or.inl ⟨by rfl, ?_⟩) hHeld ?_
    rotate_left
    · intro w hSw
      try dsimp only at hSw
      go_simp
      try with_reducible rfl
    try simp only [Act.put, List.setIfInBounds_toArray, List.set_cons_zero, List.set_cons_succ]
    refine wpAnyH_take (i := 10) (oi := { dst := some 73, op := Op.move (Operand.tmp 10), type := 3, pos := "law.go:50", after := #[{ on := 8, ground := Ground.guard }], guard := some (8, true) }) (v := ?_) rfl (by kernel_rfl) (by kernel_rfl) (by kernel_rfl) (fun _ _ _ h => h) (Or.inl ⟨by rfl, ?_⟩) hHeld ?_
    rotate_left
    · intro w hSw
      try dsimp only at hSw
      go_simp
      try with_reducible rfl
    try simp only [Act.put, List.setIfInBounds_toArray, List.set_cons_zero, List.set_cons_succ]
    refine wpAnyH_take (i := 11) (oi := { dst := some 74, op := Op.binOp BinOp.eql 3 (Operand.tmp 72) (Operand.tmp 73) 3, type := 4, pos := "law.go:50", after := #[{ on := 9, ground := Ground.data }, { on := 10, ground := Ground.data }, { on := 8, ground := Ground.guard }], guard := some (8, true) }) (v := ?_) rfl (by kernel_rfl) (by kernel_rfl) (by kernel_rfl) (fun _ _ _ h => h) (Or.inl ⟨by rfl, ?_⟩) hHeld ?_
    rotate_left
    · intro w hSw
      try dsimp only at hSw
      go_simp
      try with_reducible rfl
    try simp only [Act.put, List.setIfInBounds_toArray, List.set_cons_zero, List.set_cons_succ]
    refine wpAnyH_take (i := 12) (oi := { dst := some 75, op := Op.pick (Operand.tmp 71) (Operand.tmp 74) (Operand.const (Value.bool false)), type := 4, pos := "law.go:50", after := #[{ on := 8, ground := Ground.data }, { on := 11, ground := Ground.data }], guard := none }) (v := ?_) rfl (by kernel_rfl) (by kernel_rfl) (by kernel_rfl) (fun _ _ _ h => h) (Or.inl ⟨by rfl, ?_⟩) hHeld ?_
    rotate_left
    · intro w hSw
      try dsimp only at hSw
      go_simp
      try with_reducible rfl
    try simp only [Act.put, List.setIfInBounds_toArray, List.set_cons_zero, List.set_cons_succ]
    refine wpAnyH_take (i := 13) (oi := { dst := some 76, op := Op.move (Operand.tmp 75), type := 4, pos := "law.go:50", after := #[{ on := 12, ground := Ground.data }, { on := 8, ground := Ground.chain }], guard := none }) (v := ?_) rfl (by kernel_rfl) (by kernel_rfl) (by kernel_rfl) (fun _ _ _ h => h) (Or.inl ⟨by rfl, ?_⟩) hHeld ?_
    rotate_left
    · intro w hSw
      try dsimp only at hSw
      go_simp
      try with_reducible rfl
    try simp only [Act.put, List.setIfInBounds_toArray, List.set_cons_zero, List.set_cons_succ]
    refine wpAnyH_take (i := 14) (oi := { dst := some 77, op := Op.load 36 (Operand.tmp 11), type := 36, pos := "law.go:50", after := #[{ on := 13, ground := Ground.guard }], guard := some (13, true) }) (v := ?_) rfl (by kernel_rfl) (by kernel_rfl) (by kernel_rfl) (fun _ _ _ h => h) (Or.inl ⟨by rfl, ?_⟩) hHeld ?_
    rotate_left
    · intro w hSw
      try dsimp only at hSw
      go_simp
      try with_reducible rfl
    try simp only [Act.put, List.setIfInBounds_toArray, List.set_cons_zero, List.set_cons_succ]
    refine wpAnyH_take (i := 15) (oi := { dst := some 78, op := Op.load 36 (Operand.tmp 14), type := 36, pos := "law.go:50", after := #[{ on := 13, ground := Ground.guard }], guard := some (13, true) }) (v := ?_) rfl (by kernel_rfl) (by kernel_rfl) (by kernel_rfl) (fun _ _ _ h => h) (Or.inl ⟨by rfl, ?_⟩) hHeld ?_
    rotate_left
    · intro w hSw
      try dsimp only at hSw
      go_simp
      try with_reducible rfl
    try simp only [Act.put, List.setIfInBounds_toArray, List.set_cons_zero, List.set_cons_succ]
    refine wpAnyH_ready (rs := [16]) (by kernel_rfl) (by simp) ?_
    refine AllReadyH.cons (o := { dst := some 79, op := Op.call { callee := Callee.value (Operand.func 20), args := #[Operand.tmp 77, Operand.tmp 78], argTypes := #[36, 36] }, type := 4, pos := "law.go:50", after := #[{ on := 14, ground := Ground.data }, { on := 15, ground := Ground.data }, { on := 13, ground := Ground.chain }, { on := 13, ground := Ground.guard }], guard := some (13, true) }) rfl (fun K hK => ?_) AllReadyH.nil
    go_simp
    go_at_call 20
    refine (wsame_new x_x x_u (K := 13) HL.out.1.2.2.1 (by decide)).mono ?_
    rintro e w7 ⟨rfl, b7⟩
    replace hb := bnext hb b7
    replace V0 := V0.next b7
    replace V1 := V1.next b7
    replace V_q := V_q.next b7
    replace V_r := V_r.next b7
    replace V_p := V_p.next b7
    replace V_s := V_s.next b7
    replace V_x := V_x.next b7
    replace V_y := V_y.next b7
    replace V_u := V_u.next b7
    replace V_v := V_v.next b7
    replace x_q := x_q.next b7
    replace x_r := x_r.next b7
    replace x_p := x_p.next b7
    replace x_s := x_s.next b7
    replace x_x := x_x.next b7
    replace x_y := x_y.next b7
    replace x_u := x_u.next b7
    replace x_v := x_v.next b7
    replace h_a := h_a.below b7
    replace h_b := h_b.below b7
    clear hHeld
    refine hK.out _ _ ?_ (fun hHeld => ?_)
    · exact ⟨V0.c0, V0.c1, V1.c0, V1.c1, V_q.c0, V_q.c1, V_r.c0, V_r.c1, V_p.c0, V_p.c1, V_s.c0, V_s.c1, V_x.c0, V_x.c1, V_y.c0, V_y.c1, V_u.c0, V_u.c1, V_v.c0, V_v.c1⟩
    clear hK K
    try simp only [Act.put, List.setIfInBounds_toArray, List.set_cons_zero, List.set_cons_succ]
    refine wpAnyH_take (i := 17) (oi := { dst := some 80, op := Op.pick (Operand.tmp 76) (Operand.tmp 79) (Operand.const (Value.bool false)), type := 4, pos := "law.go:50", after := #[{ on := 13, ground := Ground.data }, { on := 16, ground := Ground.data }], guard := none }) (v := ?_) rfl (by kernel_rfl) (by kernel_rfl) (by kernel_rfl) (fun _ _ _ h => h) (Or.inl ⟨by rfl, ?_⟩) hHeld ?_
    rotate_left
    · intro w hSw
      try dsimp only at hSw
      go_simp
      try with_reducible rfl
    try simp only [Act.put, List.setIfInBounds_toArray, List.set_cons_zero, List.set_cons_succ]
    refine wpAnyH_take (i := 18) (oi := { dst := some 81, op := Op.move (Operand.tmp 80), type := 4, pos := "law.go:50", after := #[{ on := 17, ground := Ground.data }, { on := 16, ground := Ground.chain }], guard := none }) (v := ?_) rfl (by kernel_rfl) (by kernel_rfl) (by kernel_rfl) (fun _ _ _ h => h) (Or.inl ⟨by rfl, ?_⟩) hHeld ?_
    rotate_left
    · intro w hSw
      try dsimp only at hSw
      go_simp
      try with_reducible rfl
    try simp only [Act.put, List.setIfInBounds_toArray, List.set_cons_zero, List.set_cons_succ]
    refine wpAnyH_take (i := 19) (oi := { dst := some 82, op := Op.load 36 (Operand.tmp 12), type := 36, pos := "law.go:50", after := #[{ on := 18, ground := Ground.guard }], guard := some (18, true) }) (v := ?_) rfl (by kernel_rfl) (by kernel_rfl) (by kernel_rfl) (fun _ _ _ h => h) (Or.inl ⟨by rfl, ?_⟩) hHeld ?_
    rotate_left
    · intro w hSw
      try dsimp only at hSw
      go_simp
      try with_reducible rfl
    try simp only [Act.put, List.setIfInBounds_toArray, List.set_cons_zero, List.set_cons_succ]
    refine wpAnyH_take (i := 20) (oi := { dst := some 83, op := Op.load 36 (Operand.tmp 15), type := 36, pos := "law.go:50", after := #[{ on := 18, ground := Ground.guard }], guard := some (18, true) }) (v := ?_) rfl (by kernel_rfl) (by kernel_rfl) (by kernel_rfl) (fun _ _ _ h => h) (Or.inl ⟨by rfl, ?_⟩) hHeld ?_
    rotate_left
    · intro w hSw
      try dsimp only at hSw
      go_simp
      try with_reducible rfl
    try simp only [Act.put, List.setIfInBounds_toArray, List.set_cons_zero, List.set_cons_succ]
    refine wpAnyH_ready (rs := [21]) (by kernel_rfl) (by simp) ?_
    refine AllReadyH.cons (o := { dst := some 84, op := Op.call { callee := Callee.value (Operand.func 20), args := #[Operand.tmp 82, Operand.tmp 83], argTypes := #[36, 36] }, type := 4, pos := "law.go:50", after := #[{ on := 19, ground := Ground.data }, { on := 20, ground := Ground.data }, { on := 18, ground := Ground.chain }, { on := 18, ground := Ground.guard }], guard := some (18, true) }) rfl (fun K hK => ?_) AllReadyH.nil
    go_simp
    go_at_call 20
    refine (wsame_new x_y x_v (K := 12) HL.out.1.2.2.2 (by decide)).mono ?_
    rintro e w8 ⟨rfl, b8⟩
    replace hb := bnext hb b8
    replace V0 := V0.next b8
    replace V1 := V1.next b8
    replace V_q := V_q.next b8
    replace V_r := V_r.next b8
    replace V_p := V_p.next b8
    replace V_s := V_s.next b8
    replace V_x := V_x.next b8
    replace V_y := V_y.next b8
    replace V_u := V_u.next b8
    replace V_v := V_v.next b8
    replace x_q := x_q.next b8
    replace x_r := x_r.next b8
    replace x_p := x_p.next b8
    replace x_s := x_s.next b8
    replace x_x := x_x.next b8
    replace x_y := x_y.next b8
    replace x_u := x_u.next b8
    replace x_v := x_v.next b8
    replace h_a := h_a.below b8
    replace h_b := h_b.below b8
    clear hHeld
    refine hK.out _ _ ?_ (fun hHeld => ?_)
    · exact ⟨V0.c0, V0.c1, V1.c0, V1.c1, V_q.c0, V_q.c1, V_r.c0, V_r.c1, V_p.c0, V_p.c1, V_s.c0, V_s.c1, V_x.c0, V_x.c1, V_y.c0, V_y.c1, V_u.c0, V_u.c1, V_v.c0, V_v.c1⟩
    clear hK K
    try simp only [Act.put, List.setIfInBounds_toArray, List.set_cons_zero, List.set_cons_succ]
    refine wpAnyH_take (i := 22) (oi := { dst := some 85, op := Op.pick (Operand.tmp 81) (Operand.tmp 84) (Operand.const (Value.bool false)), type := 4, pos := "law.go:50", after := #[{ on := 18, ground := Ground.data }, { on := 21, ground := Ground.data }], guard := none }) (v := ?_) rfl (by kernel_rfl) (by kernel_rfl) (by kernel_rfl) (fun _ _ _ h => h) (Or.inl ⟨by rfl, ?_⟩) hHeld ?_
    rotate_left
    · intro w hSw
      try dsimp only at hSw
      go_simp
      try with_reducible rfl
    try simp only [Act.put, List.setIfInBounds_toArray, List.set_cons_zero, List.set_cons_succ]
    refine wpAnyH_take (i := 23) (oi := { dst := some 86, op := Op.move (Operand.tmp 85), type := 4, pos := "law.go:50", after := #[{ on := 22, ground := Ground.data }, { on := 21, ground := Ground.chain }], guard := none }) (v := ?_) rfl (by kernel_rfl) (by kernel_rfl) (by kernel_rfl) (fun _ _ _ h => h) (Or.inl ⟨by rfl, ?_⟩) hHeld ?_
    rotate_left
    · intro w hSw
      try dsimp only at hSw
      go_simp
      try with_reducible rfl
    try simp only [Act.put, List.setIfInBounds_toArray, List.set_cons_zero, List.set_cons_succ]
    refine wpAnyH_take (i := 24) (oi := { dst := some 87, op := Op.move (Operand.tmp 13), type := 47, pos := "law.go:50", after := #[{ on := 23, ground := Ground.guard }], guard := some (23, true) }) (v := ?_) rfl (by kernel_rfl) (by kernel_rfl) (by kernel_rfl) (fun _ _ _ h => h) (Or.inl ⟨by rfl, ?_⟩) hHeld ?_
    rotate_left
    · intro w hSw
      try dsimp only at hSw
      go_simp
      try with_reducible rfl
    try simp only [Act.put, List.setIfInBounds_toArray, List.set_cons_zero, List.set_cons_succ]
    refine wpAnyH_take (i := 25) (oi := { dst := some 88, op := Op.move (Operand.tmp 16), type := 3, pos := "law.go:50", after := #[{ on := 23, ground := Ground.guard }], guard := some (23, true) }) (v := ?_) rfl (by kernel_rfl) (by kernel_rfl) (by kernel_rfl) (fun _ _ _ h => h) (Or.inl ⟨by rfl, ?_⟩) hHeld ?_
    rotate_left
    · intro w hSw
      try dsimp only at hSw
      go_simp
      try with_reducible rfl
    try simp only [Act.put, List.setIfInBounds_toArray, List.set_cons_zero, List.set_cons_succ]
    refine wpAnyH_take (i := 26) (oi := { dst := some 89, op := Op.binOp BinOp.eql 3 (Operand.tmp 87) (Operand.tmp 88) 3, type := 4, pos := "law.go:50", after := #[{ on := 24, ground := Ground.data }, { on := 25, ground := Ground.data }, { on := 23, ground := Ground.guard }], guard := some (23, true) }) (v := ?_) rfl (by kernel_rfl) (by kernel_rfl) (by kernel_rfl) (fun _ _ _ h => h) (Or.inl ⟨by rfl, ?_⟩) hHeld ?_
    rotate_left
    · intro w hSw
      try dsimp only at hSw
      go_simp
      try with_reducible rfl
    try simp only [Act.put, List.setIfInBounds_toArray, List.set_cons_zero, List.set_cons_succ]
    refine wpAnyH_take (i := 27) (oi := { dst := some 90, op := Op.pick (Operand.tmp 86) (Operand.tmp 89) (Operand.const (Value.bool false)), type := 4, pos := "law.go:50", after := #[{ on := 23, ground := Ground.data }, { on := 26, ground := Ground.data }], guard := none }) (v := ?_) rfl (by kernel_rfl) (by kernel_rfl) (by kernel_rfl) (fun _ _ _ h => h) (Or.inl ⟨by rfl, ?_⟩) hHeld ?_
    rotate_left
    · intro w hSw
      try dsimp only at hSw
      go_simp
      try with_reducible rfl
    try simp only [Act.put, List.setIfInBounds_toArray, List.set_cons_zero, List.set_cons_succ]
    refine wpAnyH_take (i := 28) (oi := { dst := some 91, op := Op.move (Operand.tmp 90), type := 4, pos := "law.go:50", after := #[{ on := 27, ground := Ground.data }, { on := 23, ground := Ground.chain }], guard := none }) (v := ?_) rfl (by kernel_rfl) (by kernel_rfl) (by kernel_rfl) (fun _ _ _ h => h) (Or.inl ⟨by rfl, ?_⟩) hHeld ?_
    rotate_left
    · intro w hSw
      try dsimp only at hSw
      go_simp
      try with_reducible rfl
    try simp only [Act.put, List.setIfInBounds_toArray, List.set_cons_zero, List.set_cons_succ]
    refine wpAnyH_take (i := 29) (oi := { dst := some 92, op := Op.fieldAddr 36 (Operand.tmp 2) 1, type := 0, pos := "law.go:50", after := #[{ on := 28, ground := Ground.guard }], guard := some (28, true) }) (v := ?_) rfl (by kernel_rfl) (by kernel_rfl) (by kernel_rfl) (fun _ _ _ h => h) (Or.inl ⟨by rfl, ?_⟩) hHeld ?_
    rotate_left
    · intro w hSw
      try dsimp only at hSw
      go_simp
      try with_reducible rfl
    try simp only [Act.put, List.setIfInBounds_toArray, List.set_cons_zero, List.set_cons_succ]
    refine wpAnyH_take (i := 30) (oi := { dst := some 93, op := Op.load 22 (Operand.tmp 92), type := 22, pos := "law.go:50", after := #[{ on := 29, ground := Ground.data }, { on := 28, ground := Ground.guard }], guard := some (28, true) }) (v := ?_) rfl (by kernel_rfl) (by kernel_rfl) (by kernel_rfl) (fun _ _ _ h => h) (Or.inl ⟨by rfl, ?_⟩) hHeld ?_
    rotate_left
    · intro w hSw
      try dsimp only at hSw
      go_simp
      try with_reducible rfl
    try simp only [Act.put, List.setIfInBounds_toArray, List.set_cons_zero, List.set_cons_succ]
    refine wpAnyH_take (i := 31) (oi := { dst := some 94, op := Op.call { callee := Callee.builtin Builtin.len, args := #[Operand.tmp 93], argTypes := #[22] }, type := 3, pos := "law.go:50", after := #[{ on := 30, ground := Ground.data }, { on := 28, ground := Ground.guard }], guard := some (28, true) }) (v := ?_) rfl (by kernel_rfl) (by kernel_rfl) (by kernel_rfl) (fun _ _ _ h => h) (Or.inl ⟨by rfl, ?_⟩) hHeld ?_
    rotate_left
    · intro w hSw
      try dsimp only at hSw
      go_simp
      try with_reducible rfl
    try simp only [Act.put, List.setIfInBounds_toArray, List.set_cons_zero, List.set_cons_succ]
    refine wpAnyH_take (i := 32) (oi := { dst := some 95, op := Op.binOp BinOp.gtr 3 (Operand.tmp 94) (Operand.const (Value.int IntKind.i64 6)) 3, type := 4, pos := "law.go:50", after := #[{ on := 31, ground := Ground.data }, { on := 28, ground := Ground.guard }], guard := some (28, true) }) (v := ?_) rfl (by kernel_rfl) (by kernel_rfl) (by kernel_rfl) (fun _ _ _ h => h) (Or.inl ⟨by rfl, ?_⟩) hHeld ?_
    rotate_left
    · intro w hSw
      try dsimp only at hSw
      go_simp
      try with_reducible rfl
    try simp only [Act.put, List.setIfInBounds_toArray, List.set_cons_zero, List.set_cons_succ]
    refine wpAnyH_take (i := 33) (oi := { dst := some 96, op := Op.move (Operand.tmp 95), type := 4, pos := "law.go:50", after := #[{ on := 32, ground := Ground.data }, { on := 28, ground := Ground.chain }, { on := 28, ground := Ground.guard }], guard := some (28, true) }) (v := ?_) rfl (by kernel_rfl) (by kernel_rfl) (by kernel_rfl) (fun _ _ _ h => h) (Or.inl ⟨by rfl, ?_⟩) hHeld ?_
    rotate_left
    · intro w hSw
      try dsimp only at hSw
      go_simp
      try with_reducible rfl
    try simp only [Act.put, List.setIfInBounds_toArray, List.set_cons_zero, List.set_cons_succ]
    refine wpAnyH_take (i := 34) (oi := { dst := some 97, op := Op.load 36 (Operand.tmp 2), type := 36, pos := "law.go:50", after := #[{ on := 33, ground := Ground.guard }], guard := some (33, false) }) (v := undef) rfl (by kernel_rfl) (by kernel_rfl) (by kernel_rfl) (fun _ _ _ h => h) (Or.inr ⟨by rfl, rfl⟩) hHeld ?_
    try simp only [Act.put, List.setIfInBounds_toArray, List.set_cons_zero, List.set_cons_succ]
    refine wpAnyH_take (i := 35) (oi := { dst := some 98, op := Op.load 36 (Operand.tmp 3), type := 36, pos := "law.go:50", after := #[{ on := 33, ground := Ground.guard }], guard := some (33, false) }) (v := undef) rfl (by kernel_rfl) (by kernel_rfl) (by kernel_rfl) (fun _ _ _ h => h) (Or.inr ⟨by rfl, rfl⟩) hHeld ?_
    try simp only [Act.put, List.setIfInBounds_toArray, List.set_cons_zero, List.set_cons_succ]
    refine wpAnyH_take (i := 37) (oi := { dst := some 100, op := Op.load 36 (Operand.tmp 2), type := 36, pos := "law.go:50", after := #[{ on := 33, ground := Ground.guard }], guard := some (33, false) }) (v := undef) rfl (by kernel_rfl) (by kernel_rfl) (by kernel_rfl) (fun _ _ _ h => h) (Or.inr ⟨by rfl, rfl⟩) hHeld ?_
    try simp only [Act.put, List.setIfInBounds_toArray, List.set_cons_zero, List.set_cons_succ]
    refine wpAnyH_take (i := 38) (oi := { dst := some 101, op := Op.load 36 (Operand.tmp 3), type := 36, pos := "law.go:50", after := #[{ on := 33, ground := Ground.guard }], guard := some (33, false) }) (v := undef) rfl (by kernel_rfl) (by kernel_rfl) (by kernel_rfl) (fun _ _ _ h => h) (Or.inr ⟨by rfl, rfl⟩) hHeld ?_
    try simp only [Act.put, List.setIfInBounds_toArray, List.set_cons_zero, List.set_cons_succ]
    refine wpAnyH_ready (rs := [36]) (by kernel_rfl) (by simp) ?_
    refine AllReadyH.cons (o := { dst := some 99, op := Op.call { callee := Callee.value (Operand.func 41), args := #[Operand.tmp 97, Operand.tmp 98], argTypes := #[36, 36] }, type := 36, pos := "law.go:50", after := #[{ on := 34, ground := Ground.data }, { on := 35, ground := Ground.data }, { on := 33, ground := Ground.chain }, { on := 33, ground := Ground.guard }], guard := some (33, false) }) rfl (fun K hK => ?_) AllReadyH.nil
    go_simp
    clear hHeld
    refine hK.out _ _ ?_ (fun hHeld => ?_)
    · exact ⟨V0.c0, V0.c1, V1.c0, V1.c1, V_q.c0, V_q.c1, V_r.c0, V_r.c1, V_p.c0, V_p.c1, V_s.c0, V_s.c1, V_x.c0, V_x.c1, V_y.c0, V_y.c1, V_u.c0, V_u.c1, V_v.c0, V_v.c1⟩
    clear hK K
    try simp only [Act.put, List.setIfInBounds_toArray, List.set_cons_zero, List.set_cons_succ]
    refine wpAnyH_ready (rs := [39]) (by kernel_rfl) (by simp) ?_
    refine AllReadyH.cons (o := { dst := some 102, op := Op.call { callee := Callee.value (Operand.func 42), args := #[Operand.tmp 100, Operand.tmp 101], argTypes := #[36, 36] }, type := 36, pos := "law.go:50", after := #[{ on := 37, ground := Ground.data }, { on := 38, ground := Ground.data }, { on := 36, ground := Ground.chain }, { on := 33, ground := Ground.guard }], guard := some (33, false) }) rfl (fun K hK => ?_) AllReadyH.nil
    go_simp
    clear hHeld
    refine hK.out _ _ ?_ (fun hHeld => ?_)
    · exact ⟨V0.c0, V0.c1, V1.c0, V1.c1, V_q.c0, V_q.c1, V_r.c0, V_r.c1, V_p.c0, V_p.c1, V_s.c0, V_s.c1, V_x.c0, V_x.c1, V_y.c0, V_y.c1, V_u.c0, V_u.c1, V_v.c0, V_v.c1⟩
    clear hK K
    try simp only [Act.put, List.setIfInBounds_toArray, List.set_cons_zero, List.set_cons_succ]
    refine wpAnyH_ready (rs := [40]) (by kernel_rfl) (by simp) ?_
    refine AllReadyH.cons (o := { dst := some 103, op := Op.call { callee := Callee.value (Operand.func 20), args := #[Operand.tmp 99, Operand.tmp 102], argTypes := #[36, 36] }, type := 4, pos := "law.go:50", after := #[{ on := 36, ground := Ground.data }, { on := 39, ground := Ground.data }, { on := 39, ground := Ground.chain }, { on := 33, ground := Ground.guard }], guard := some (33, false) }) rfl (fun K hK => ?_) AllReadyH.nil
    go_simp
    clear hHeld
    refine hK.out _ _ ?_ (fun hHeld => ?_)
    · exact ⟨V0.c0, V0.c1, V1.c0, V1.c1, V_q.c0, V_q.c1, V_r.c0, V_r.c1, V_p.c0, V_p.c1, V_s.c0, V_s.c1, V_x.c0, V_x.c1, V_y.c0, V_y.c1, V_u.c0, V_u.c1, V_v.c0, V_v.c1⟩
    clear hK K
    try simp only [Act.put, List.setIfInBounds_toArray, List.set_cons_zero, List.set_cons_succ]
    refine wpAnyH_take (i := 41) (oi := { dst := some 104, op := Op.pick (Operand.tmp 96) (Operand.const (Value.bool true)) (Operand.tmp 103), type := 4, pos := "law.go:50", after := #[{ on := 33, ground := Ground.data }, { on := 40, ground := Ground.data }, { on := 28, ground := Ground.guard }], guard := some (28, true) }) (v := ?_) rfl (by kernel_rfl) (by kernel_rfl) (by kernel_rfl) (fun _ _ _ h => h) (Or.inl ⟨by rfl, ?_⟩) hHeld ?_
    rotate_left
    · intro w hSw
      try dsimp only at hSw
      go_simp
      try with_reducible rfl
    try simp only [Act.put, List.setIfInBounds_toArray, List.set_cons_zero, List.set_cons_succ]
    refine wpAnyH_take (i := 42) (oi := { dst := some 105, op := Op.pick (Operand.tmp 91) (Operand.tmp 104) (Operand.const (Value.bool false)), type := 4, pos := "law.go:50", after := #[{ on := 28, ground := Ground.data }, { on := 41, ground := Ground.data }], guard := none }) (v := ?_) rfl (by kernel_rfl) (by kernel_rfl) (by kernel_rfl) (fun _ _ _ h => h) (Or.inl ⟨by rfl, ?_⟩) hHeld ?_
    rotate_left
    · intro w hSw
      try dsimp only at hSw
      go_simp
      try with_reducible rfl
    try simp only [Act.put, List.setIfInBounds_toArray, List.set_cons_zero, List.set_cons_succ]
    refine wpAnyH_take (i := 43) (oi := { dst := some 106, op := Op.move (Operand.tmp 105), type := 4, pos := "law.go:50", after := #[{ on := 42, ground := Ground.data }, { on := 40, ground := Ground.chain }], guard := none }) (v := ?_) rfl (by kernel_rfl) (by kernel_rfl) (by kernel_rfl) (fun _ _ _ h => h) (Or.inl ⟨by rfl, ?_⟩) hHeld ?_
    rotate_left
    · intro w hSw
      try dsimp only at hSw
      go_simp
      try with_reducible rfl
    try simp only [Act.put, List.setIfInBounds_toArray, List.set_cons_zero, List.set_cons_succ]
    refine wpAnyH_ready (rs := [44]) (by kernel_rfl) (by simp) ?_
    refine AllReadyH.cons (o := { dst := some 107, op := Op.call { callee := Callee.value (Operand.func 17), args := #[], argTypes := #[] }, type := 4, pos := "law.go:50", after := #[{ on := 43, ground := Ground.chain }, { on := 43, ground := Ground.guard }], guard := some (43, true) }) rfl (fun K hK => ?_) AllReadyH.nil
    go_simp
    go_at_call 17
    refine (wlives_yes _).mono ?_
    rintro e w9 ⟨rfl, b9⟩
    replace hb := bnext hb b9
    replace V0 := V0.next b9
    replace V1 := V1.next b9
    replace V_q := V_q.next b9
    replace V_r := V_r.next b9
    replace V_p := V_p.next b9
    replace V_s := V_s.next b9
    replace V_x := V_x.next b9
    replace V_y := V_y.next b9
    replace V_u := V_u.next b9
    replace V_v := V_v.next b9
    replace x_q := x_q.next b9
    replace x_r := x_r.next b9
    replace x_p := x_p.next b9
    replace x_s := x_s.next b9
    replace x_x := x_x.next b9
    replace x_y := x_y.next b9
    replace x_u := x_u.next b9
    replace x_v := x_v.next b9
    replace h_a := h_a.below b9
    replace h_b := h_b.below b9
    clear hHeld
    refine hK.out _ _ ?_ (fun hHeld => ?_)
    · exact ⟨V0.c0, V0.c1, V1.c0, V1.c1, V_q.c0, V_q.c1, V_r.c0, V_r.c1, V_p.c0, V_p.c1, V_s.c0, V_s.c1, V_x.c0, V_x.c1, V_y.c0, V_y.c1, V_u.c0, V_u.c1, V_v.c0, V_v.c1⟩
    clear hK K
    try simp only [Act.put, List.setIfInBounds_toArray, List.set_cons_zero, List.set_cons_succ]
    refine wpAnyH_take (i := 45) (oi := { dst := some 108, op := Op.pick (Operand.tmp 106) (Operand.tmp 107) (Operand.const (Value.bool false)), type := 4, pos := "law.go:50", after := #[{ on := 43, ground := Ground.data }, { on := 44, ground := Ground.data }], guard := none }) (v := ?_) rfl (by kernel_rfl) (by kernel_rfl) (by kernel_rfl) (fun _ _ _ h => h) (Or.inl ⟨by rfl, ?_⟩) hHeld ?_
    rotate_left
    · intro w hSw
      try dsimp only at hSw
      go_simp
      try with_reducible rfl
    try simp only [Act.put, List.setIfInBounds_toArray, List.set_cons_zero, List.set_cons_succ]
    refine wpAnyH_ready (rs := [46]) (by kernel_rfl) (by simp) ?_
    refine AllReadyH.cons (o := _) rfl (fun K hK => ?_) AllReadyH.nil
    go_simp
    clear hHeld
    refine hK.out _ _ ?_ (fun hHeld => ?_)
    · exact ⟨V0.c0, V0.c1, V1.c0, V1.c1, V_q.c0, V_q.c1, V_r.c0, V_r.c1, V_p.c0, V_p.c1, V_s.c0, V_s.c1, V_x.c0, V_x.c1, V_y.c0, V_y.c1, V_u.c0, V_u.c1, V_v.c0, V_v.c1⟩
    clear hK K
    try simp only [Act.put, List.setIfInBounds_toArray, List.set_cons_zero, List.set_cons_succ]
    refine wpAnyH_done (by kernel_rfl) ?_ _
    refine NoPanic.normal ?_
    go_wp2_with fail
    go_ret
    exact ⟨rfl, hb⟩
  · have V00 := V0.c0
    have V01 := V0.c1
    have V10 := V1.c0
    have V11 := V1.c1
    go_wp2_with fail
    refine (HQ1.out _ _ _ h_a h_b).mono ?_
    rintro e w1 ⟨v_q, v_r, rfl, x_q, x_r, b1⟩
    replace hb := bnext hb b1
    clear V00 V01 V10 V11
    replace V0 := V0.next b1
    replace V1 := V1.next b1
    replace h_a := h_a.below b1
    replace h_b := h_b.below b1
    have V00 := V0.c0
    have V01 := V0.c1
    have V10 := V1.c0
    have V11 := V1.c1
    clear b1
    obtain ⟨s_q, A_q, n_q, c_q, rfl, g_q⟩ := x_q.opened
    obtain ⟨s_r, A_r, n_r, c_r, rfl, g_r⟩ := x_r.opened
    have bl : Below w1.heap.size w1 ((w1.alloc (.cells #[.bool s_q, .slice A_q n_q c_q] 36)).alloc (.cells #[.bool s_r, .slice A_r n_r c_r] 36)) := (bnew (bnew (Below.refl _ _) _) _)
    obtain ⟨V_q, V_r⟩ := mk2 w1 (.bool s_q) (.slice A_q n_q c_q) (.bool s_r) (.slice A_r n_r c_r)
    replace hb := bnext hb bl
    clear V00 V01 V10 V11
    replace V0 := V0.next bl
    replace V1 := V1.next bl
    replace x_q := x_q.next bl
    replace x_r := x_r.next bl
    replace h_a := h_a.below bl
    replace h_b := h_b.below bl
    have V00 := V0.c0
    have V01 := V0.c1
    have V10 := V1.c0
    have V11 := V1.c1
    clear bl
    clear g_q
    clear g_r
    clear V00 V01 V10 V11
    have V00 := V0.c0
    have V01 := V0.c1
    have V10 := V1.c0
    have V11 := V1.c1
    have V_q0 := V_q.c0
    have V_q1 := V_q.c1
    have V_r0 := V_r.c0
    have V_r1 := V_r.c1
    go_wp2_with fail
    refine (HQ2.out _ _ _ h_a h_b).mono ?_
    rintro e w2 ⟨v_p, v_s, rfl, x_p, x_s, b2⟩
    replace hb := bnext hb b2
    clear V00 V01 V10 V11 V_q0 V_q1 V_r0 V_r1
    replace V0 := V0.next b2
    replace V1 := V1.next b2
    replace V_q := V_q.next b2
    replace V_r := V_r.next b2
    replace x_q := x_q.next b2
    replace x_r := x_r.next b2
    replace h_a := h_a.below b2
    replace h_b := h_b.below b2
    have V00 := V0.c0
    have V01 := V0.c1
    have V10 := V1.c0
    have V11 := V1.c1
    have V_q0 := V_q.c0
    have V_q1 := V_q.c1
    have V_r0 := V_r.c0
    have V_r1 := V_r.c1
    clear b2
    obtain ⟨s_p, A_p, n_p, c_p, rfl, g_p⟩ := x_p.opened
    obtain ⟨s_s, A_s, n_s, c_s, rfl, g_s⟩ := x_s.opened
    have bl : Below w2.heap.size w2 ((w2.alloc (.cells #[.bool s_p, .slice A_p n_p c_p] 36)).alloc (.cells #[.bool s_s, .slice A_s n_s c_s] 36)) := (bnew (bnew (Below.refl _ _) _) _)
    obtain ⟨V_p, V_s⟩ := mk2 w2 (.bool s_p) (.slice A_p n_p c_p) (.bool s_s) (.slice A_s n_s c_s)
    replace hb := bnext hb bl
    clear V00 V01 V10 V11 V_q0 V_q1 V_r0 V_r1
    replace V0 := V0.next bl
    replace V1 := V1.next bl
    replace V_q := V_q.next bl
    replace V_r := V_r.next bl
    replace x_q := x_q.next bl
    replace x_r := x_r.next bl
    replace x_p := x_p.next bl
    replace x_s := x_s.next bl
    replace h_a := h_a.below bl
    replace h_b := h_b.below bl
    have V00 := V0.c0
    have V01 := V0.c1
    have V10 := V1.c0
    have V11 := V1.c1
    have V_q0 := V_q.c0
    have V_q1 := V_q.c1
    have V_r0 := V_r.c0
    have V_r1 := V_r.c1
    clear bl
    clear g_p
    clear g_s
    clear V00 V01 V10 V11 V_q0 V_q1 V_r0 V_r1
    have V00 := V0.c0
    have V01 := V0.c1
    have V10 := V1.c0
    have V11 := V1.c1
    have V_q0 := V_q.c0
    have V_q1 := V_q.c1
    have V_r0 := V_r.c0
    have V_r1 := V_r.c1
    have V_p0 := V_p.c0
    have V_p1 := V_p.c1
    have V_s0 := V_s.c0
    have V_s1 := V_s.c1
    go_wp2_with fail
    refine (HF1.out _ _ _ h_a h_b).mono ?_
    rintro e w3 ⟨v_x, v_y, rfl, x_x, x_y, b3⟩
    replace hb := bnext hb b3
    clear V00 V01 V10 V11 V_q0 V_q1 V_r0 V_r1 V_p0 V_p1 V_s0 V_s1
    replace V0 := V0.next b3
    replace V1 := V1.next b3
    replace V_q := V_q.next b3
    replace V_r := V_r.next b3
    replace V_p := V_p.next b3
    replace V_s := V_s.next b3
    replace x_q := x_q.next b3
    replace x_r := x_r.next b3
    replace x_p := x_p.next b3
    replace x_s := x_s.next b3
    replace h_a := h_a.below b3
    replace h_b := h_b.below b3
    have V00 := V0.c0
    have V01 := V0.c1
    have V10 := V1.c0
    have V11 := V1.c1
    have V_q0 := V_q.c0
    have V_q1 := V_q.c1
    have V_r0 := V_r.c0
    have V_r1 := V_r.c1
    have V_p0 := V_p.c0
    have V_p1 := V_p.c1
    have V_s0 := V_s.c0
    have V_s1 := V_s.c1
    clear b3
    obtain ⟨s_x, A_x, n_x, c_x, rfl, g_x⟩ := x_x.opened
    obtain ⟨s_y, A_y, n_y, c_y, rfl, g_y⟩ := x_y.opened
    have bl : Below w3.heap.size w3 ((w3.alloc (.cells #[.bool s_x, .slice A_x n_x c_x] 36)).alloc (.cells #[.bool s_y, .slice A_y n_y c_y] 36)) := (bnew (bnew (Below.refl _ _) _) _)
    obtain ⟨V_x, V_y⟩ := mk2 w3 (.bool s_x) (.slice A_x n_x c_x) (.bool s_y) (.slice A_y n_y c_y)
    replace hb := bnext hb bl
    clear V00 V01 V10 V11 V_q0 V_q1 V_r0 V_r1 V_p0 V_p1 V_s0 V_s1
    replace V0 := V0.next bl
    replace V1 := V1.next bl
    replace V_q := V_q.next bl
    replace V_r := V_r.next bl
    replace V_p := V_p.next bl
    replace V_s := V_s.next bl
    replace x_q := x_q.next bl
    replace x_r := x_r.next bl
    replace x_p := x_p.next bl
    replace x_s := x_s.next bl
    replace x_x := x_x.next bl
    replace x_y := x_y.next bl
    replace h_a := h_a.below bl
    replace h_b := h_b.below bl
    have V00 := V0.c0
    have V01 := V0.c1
    have V10 := V1.c0
    have V11 := V1.c1
    have V_q0 := V_q.c0
    have V_q1 := V_q.c1
    have V_r0 := V_r.c0
    have V_r1 := V_r.c1
    have V_p0 := V_p.c0
    have V_p1 := V_p.c1
    have V_s0 := V_s.c0
    have V_s1 := V_s.c1
    clear bl
    clear g_x
    clear g_y
    clear V00 V01 V10 V11 V_q0 V_q1 V_r0 V_r1 V_p0 V_p1 V_s0 V_s1
    have V00 := V0.c0
    have V01 := V0.c1
    have V10 := V1.c0
    have V11 := V1.c1
    have V_q0 := V_q.c0
    have V_q1 := V_q.c1
    have V_r0 := V_r.c0
    have V_r1 := V_r.c1
    have V_p0 := V_p.c0
    have V_p1 := V_p.c1
    have V_s0 := V_s.c0
    have V_s1 := V_s.c1
    have V_x0 := V_x.c0
    have V_x1 := V_x.c1
    have V_y0 := V_y.c0
    have V_y1 := V_y.c1
    go_wp2_with fail
    refine (HF2.out _ _ _ h_a h_b).mono ?_
    rintro e w4 ⟨v_u, v_v, rfl, x_u, x_v, b4⟩
    replace hb := bnext hb b4
    clear V00 V01 V10 V11 V_q0 V_q1 V_r0 V_r1 V_p0 V_p1 V_s0 V_s1 V_x0 V_x1 V_y0 V_y1
    replace V0 := V0.next b4
    replace V1 := V1.next b4
    replace V_q := V_q.next b4
    replace V_r := V_r.next b4
    replace V_p := V_p.next b4
    replace V_s := V_s.next b4
    replace V_x := V_x.next b4
    replace V_y := V_y.next b4
    replace x_q := x_q.next b4
    replace x_r := x_r.next b4
    replace x_p := x_p.next b4
    replace x_s := x_s.next b4
    replace x_x := x_x.next b4
    replace x_y := x_y.next b4
    replace h_a := h_a.below b4
    replace h_b := h_b.below b4
    have V00 := V0.c0
    have V01 := V0.c1
    have V10 := V1.c0
    have V11 := V1.c1
    have V_q0 := V_q.c0
    have V_q1 := V_q.c1
    have V_r0 := V_r.c0
    have V_r1 := V_r.c1
    have V_p0 := V_p.c0
    have V_p1 := V_p.c1
    have V_s0 := V_s.c0
    have V_s1 := V_s.c1
    have V_x0 := V_x.c0
    have V_x1 := V_x.c1
    have V_y0 := V_y.c0
    have V_y1 := V_y.c1
    clear b4
    obtain ⟨s_u, A_u, n_u, c_u, rfl, g_u⟩ := x_u.opened
    obtain ⟨s_v, A_v, n_v, c_v, rfl, g_v⟩ := x_v.opened
    have bl : Below w4.heap.size w4 ((w4.alloc (.cells #[.bool s_u, .slice A_u n_u c_u] 36)).alloc (.cells #[.bool s_v, .slice A_v n_v c_v] 36)) := (bnew (bnew (Below.refl _ _) _) _)
    obtain ⟨V_u, V_v⟩ := mk2 w4 (.bool s_u) (.slice A_u n_u c_u) (.bool s_v) (.slice A_v n_v c_v)
    replace hb := bnext hb bl
    clear V00 V01 V10 V11 V_q0 V_q1 V_r0 V_r1 V_p0 V_p1 V_s0 V_s1 V_x0 V_x1 V_y0 V_y1
    replace V0 := V0.next bl
    replace V1 := V1.next bl
    replace V_q := V_q.next bl
    replace V_r := V_r.next bl
    replace V_p := V_p.next bl
    replace V_s := V_s.next bl
    replace V_x := V_x.next bl
    replace V_y := V_y.next bl
    replace x_q := x_q.next bl
    replace x_r := x_r.next bl
    replace x_p := x_p.next bl
    replace x_s := x_s.next bl
    replace x_x := x_x.next bl
    replace x_y := x_y.next bl
    replace x_u := x_u.next bl
    replace x_v := x_v.next bl
    replace h_a := h_a.below bl
    replace h_b := h_b.below bl
    have V00 := V0.c0
    have V01 := V0.c1
    have V10 := V1.c0
    have V11 := V1.c1
    have V_q0 := V_q.c0
    have V_q1 := V_q.c1
    have V_r0 := V_r.c0
    have V_r1 := V_r.c1
    have V_p0 := V_p.c0
    have V_p1 := V_p.c1
    have V_s0 := V_s.c0
    have V_s1 := V_s.c1
    have V_x0 := V_x.c0
    have V_x1 := V_x.c1
    have V_y0 := V_y.c0
    have V_y1 := V_y.c1
    clear bl
    clear g_u
    clear g_v
    clear V00 V01 V10 V11 V_q0 V_q1 V_r0 V_r1 V_p0 V_p1 V_s0 V_s1 V_x0 V_x1 V_y0 V_y1
    have V00 := V0.c0
    have V01 := V0.c1
    have V10 := V1.c0
    have V11 := V1.c1
    have V_q0 := V_q.c0
    have V_q1 := V_q.c1
    have V_r0 := V_r.c0
    have V_r1 := V_r.c1
    have V_p0 := V_p.c0
    have V_p1 := V_p.c1
    have V_s0 := V_s.c0
    have V_s1 := V_s.c1
    have V_x0 := V_x.c0
    have V_x1 := V_x.c1
    have V_y0 := V_y.c0
    have V_y1 := V_y.c1
    have V_u0 := V_u.c0
    have V_u1 := V_u.c1
    have V_v0 := V_v.c0
    have V_v1 := V_v.c1
    go_wp2_with fail
    clear HQ1 HQ2 HF1 HF2
    have hd1 : decide (6 < (len0 : Int)) = false := decide_eq_false (by omega)
    have hd2 : decide ((len0 : Int) > 6) = false := decide_eq_false (by omega)
    have hd3 : decide (6 < len0) = false := decide_eq_false (by omega)
    clear V00 V01 V10 V11 V_q0 V_q1 V_r0 V_r1 V_p0 V_p1 V_s0 V_s1 V_x0 V_x1 V_y0 V_y1 V_u0 V_u1 V_v0 V_v1
    replace V0 := V0.next (Below.refl _ _).drew
    replace V1 := V1.next (Below.refl _ _).drew
    replace V_q := V_q.next (Below.refl _ _).drew
    replace V_r := V_r.next (Below.refl _ _).drew
    replace V_p := V_p.next (Below.refl _ _).drew
    replace V_s := V_s.next (Below.refl _ _).drew
    replace V_x := V_x.next (Below.refl _ _).drew
    replace V_y := V_y.next (Below.refl _ _).drew
    replace V_u := V_u.next (Below.refl _ _).drew
    replace V_v := V_v.next (Below.refl _ _).drew
    replace x_q := x_q.next (Below.refl _ _).drew
    replace x_r := x_r.next (Below.refl _ _).drew
    replace x_p := x_p.next (Below.refl _ _).drew
    replace x_s := x_s.next (Below.refl _ _).drew
    replace x_x := x_x.next (Below.refl _ _).drew
    replace x_y := x_y.next (Below.refl _ _).drew
    replace x_u := x_u.next (Below.refl _ _).drew
    replace x_v := x_v.next (Below.refl _ _).drew
    replace h_a := h_a.below (Below.refl _ _).drew
    replace h_b := h_b.below (Below.refl _ _).drew
    replace hb := hb.drew
    go_region_held3 (fun w' => w'.cell? ⟨w.heap.size, 0, none⟩ = some (.bool s0) ∧ w'.cell? ⟨w.heap.size, 1, none⟩ = some (.slice a0 len0 cap0) ∧ w'.cell? ⟨w.heap.size + 1, 0, none⟩ = some (.bool s1) ∧ w'.cell? ⟨w.heap.size + 1, 1, none⟩ = some (.slice a1 len1 cap1) ∧ w'.cell? ⟨w1.heap.size, 0, none⟩ = some (.bool s_q) ∧ w'.cell? ⟨w1.heap.size, 1, none⟩ = some (.slice A_q n_q c_q) ∧ w'.cell? ⟨w1.heap.size + 1, 0, none⟩ = some (.bool s_r) ∧ w'.cell? ⟨w1.heap.size + 1, 1, none⟩ = some (.slice A_r n_r c_r) ∧ w'.cell? ⟨w2.heap.size, 0, none⟩ = some (.bool s_p) ∧ w'.cell? ⟨w2.heap.size, 1, none⟩ = some (.slice A_p n_p c_p) ∧ w'.cell? ⟨w2.heap.size + 1, 0, none⟩ = some (.bool s_s) ∧ w'.cell? ⟨w2.heap.size + 1, 1, none⟩ = some (.slice A_s n_s c_s) ∧ w'.cell? ⟨w3.heap.size, 0, none⟩ = some (.bool s_x) ∧ w'.cell? ⟨w3.heap.size, 1, none⟩ = some (.slice A_x n_x c_x) ∧ w'.cell? ⟨w3.heap.size + 1, 0, none⟩ = some (.bool s_y) ∧ w'.cell? ⟨w3.heap.size + 1, 1, none⟩ = some (.slice A_y n_y c_y) ∧ w'.cell? ⟨w4.heap.size, 0, none⟩ = some (.bool s_u) ∧ w'.cell? ⟨w4.heap.size, 1, none⟩ = some (.slice A_u n_u c_u) ∧ w'.cell? ⟨w4.heap.size + 1, 0, none⟩ = some (.bool s_v) ∧ w'.cell? ⟨w4.heap.size + 1, 1, none⟩ = some (.slice A_v n_v c_v))
      (exact ⟨V0.c0, V0.c1, V1.c0, V1.c1, V_q.c0, V_q.c1, V_r.c0, V_r.c1, V_p.c0, V_p.c1, V_s.c0, V_s.c1, V_x.c0, V_x.c1, V_y.c0, V_y.c1, V_u.c0, V_u.c1, V_v.c0, V_v.c1⟩)
      (first
      | (go_at_call 20; (fail_if_success (have hh := b5)); refine (wsame_new x_q x_p (K := 12) HL.out.1.1 (by decide)).mono ?_; rintro e w5 ⟨rfl, b5⟩; replace hb := bnext hb b5; replace V0 := V0.next b5; replace V1 := V1.next b5; replace V_q := V_q.next b5; replace V_r := V_r.next b5; replace V_p := V_p.next b5; replace V_s := V_s.next b5; replace V_x := V_x.next b5; replace V_y := V_y.next b5; replace V_u := V_u.next b5; replace V_v := V_v.next b5; replace x_q := x_q.next b5; replace x_r := x_r.next b5; replace x_p := x_p.next b5; replace x_s := x_s.next b5; replace x_x := x_x.next b5; replace x_y := x_y.next b5; replace x_u := x_u.next b5; replace x_v := x_v.next b5; replace h_a := h_a.below b5; replace h_b := h_b.below b5)
      | (go_at_call 20; (fail_if_success (have hh := b6)); refine (wsame_new x_r x_s (K := 12) HL.out.1.2.1 (by decide)).mono ?_; rintro e w6 ⟨rfl, b6⟩; replace hb := bnext hb b6; replace V0 := V0.next b6; replace V1 := V1.next b6; replace V_q := V_q.next b6; replace V_r := V_r.next b6; replace V_p := V_p.next b6; replace V_s := V_s.next b6; replace V_x := V_x.next b6; replace V_y := V_y.next b6; replace V_u := V_u.next b6; replace V_v := V_v.next b6; replace x_q := x_q.next b6; replace x_r := x_r.next b6; replace x_p := x_p.next b6; replace x_s := x_s.next b6; replace x_x := x_x.next b6; replace x_y := x_y.next b6; replace x_u := x_u.next b6; replace x_v := x_v.next b6; replace h_a := h_a.below b6; replace h_b := h_b.below b6)
      | (go_at_call 20; (fail_if_success (have hh := b7)); refine (wsame_new x_x x_u (K := 13) HL.out.1.2.2.1 (by decide)).mono ?_; rintro e w7 ⟨rfl, b7⟩; replace hb := bnext hb b7; replace V0 := V0.next b7; replace V1 := V1.next b7; replace V_q := V_q.next b7; replace V_r := V_r.next b7; replace V_p := V_p.next b7; replace V_s := V_s.next b7; replace V_x := V_x.next b7; replace V_y := V_y.next b7; replace V_u := V_u.next b7; replace V_v := V_v.next b7; replace x_q := x_q.next b7; replace x_r := x_r.next b7; replace x_p := x_p.next b7; replace x_s := x_s.next b7; replace x_x := x_x.next b7; replace x_y := x_y.next b7; replace x_u := x_u.next b7; replace x_v := x_v.next b7; replace h_a := h_a.below b7; replace h_b := h_b.below b7)
      | (go_at_call 20; (fail_if_success (have hh := b8)); refine (wsame_new x_y x_v (K := 12) HL.out.1.2.2.2 (by decide)).mono ?_; rintro e w8 ⟨rfl, b8⟩; replace hb := bnext hb b8; replace V0 := V0.next b8; replace V1 := V1.next b8; replace V_q := V_q.next b8; replace V_r := V_r.next b8; replace V_p := V_p.next b8; replace V_s := V_s.next b8; replace V_x := V_x.next b8; replace V_y := V_y.next b8; replace V_u := V_u.next b8; replace V_v := V_v.next b8; replace x_q := x_q.next b8; replace x_r := x_r.next b8; replace x_p := x_p.next b8; replace x_s := x_s.next b8; replace x_x := x_x.next b8; replace x_y := x_y.next b8; replace x_u := x_u.next b8; replace x_v := x_v.next b8; replace h_a := h_a.below b8; replace h_b := h_b.below b8)
      | (go_at_call 41; (fail_if_success (have hh := b9)); refine (wgcd_num h_a h_b (by decide) (by decide)).mono ?_; rintro e w9 ⟨v_g, rfl, x_g, b9⟩; replace hb := bnext hb b9; replace V0 := V0.next b9; replace V1 := V1.next b9; replace V_q := V_q.next b9; replace V_r := V_r.next b9; replace V_p := V_p.next b9; replace V_s := V_s.next b9; replace V_x := V_x.next b9; replace V_y := V_y.next b9; replace V_u := V_u.next b9; replace V_v := V_v.next b9; replace x_q := x_q.next b9; replace x_r := x_r.next b9; replace x_p := x_p.next b9; replace x_s := x_s.next b9; replace x_x := x_x.next b9; replace x_y := x_y.next b9; replace x_u := x_u.next b9; replace x_v := x_v.next b9; replace h_a := h_a.below b9; replace h_b := h_b.below b9)
      | (go_at_call 42; (fail_if_success (have hh := b10)); refine (rwgcd_num h_a h_b (by decide) (by decide)).mono ?_; rintro e w10 ⟨v_h, rfl, x_h, b10⟩; replace hb := bnext hb b10; replace V0 := V0.next b10; replace V1 := V1.next b10; replace V_q := V_q.next b10; replace V_r := V_r.next b10; replace V_p := V_p.next b10; replace V_s := V_s.next b10; replace V_x := V_x.next b10; replace V_y := V_y.next b10; replace V_u := V_u.next b10; replace V_v := V_v.next b10; replace x_q := x_q.next b10; replace x_r := x_r.next b10; replace x_p := x_p.next b10; replace x_s := x_s.next b10; replace x_x := x_x.next b10; replace x_y := x_y.next b10; replace x_u := x_u.next b10; replace x_v := x_v.next b10; replace x_g := x_g.next b10; replace h_a := h_a.below b10; replace h_b := h_b.below b10)
      | (go_at_call 20; (fail_if_success (have hh := b11)); refine (wsame_new x_g x_h (K := 12) HL.out.2 (by decide)).mono ?_; rintro e w11 ⟨rfl, b11⟩; replace hb := bnext hb b11; replace V0 := V0.next b11; replace V1 := V1.next b11; replace V_q := V_q.next b11; replace V_r := V_r.next b11; replace V_p := V_p.next b11; replace V_s := V_s.next b11; replace V_x := V_x.next b11; replace V_y := V_y.next b11; replace V_u := V_u.next b11; replace V_v := V_v.next b11; replace x_q := x_q.next b11; replace x_r := x_r.next b11; replace x_p := x_p.next b11; replace x_s := x_s.next b11; replace x_x := x_x.next b11; replace x_y := x_y.next b11; replace x_u := x_u.next b11; replace x_v := x_v.next b11; replace x_g := x_g.next b11; replace x_h := x_h.next b11; replace h_a := h_a.below b11; replace h_b := h_b.below b11; clear x_g x_h)
      | (go_at_call 17; (fail_if_success (have hh := b12)); refine (wlives_yes _).mono ?_; rintro e w12 ⟨rfl, b12⟩; replace hb := bnext hb b12; replace V0 := V0.next b12; replace V1 := V1.next b12; replace V_q := V_q.next b12; replace V_r := V_r.next b12; replace V_p := V_p.next b12; replace V_s := V_s.next b12; replace V_x := V_x.next b12; replace V_y := V_y.next b12; replace V_u := V_u.next b12; replace V_v := V_v.next b12; replace x_q := x_q.next b12; replace x_r := x_r.next b12; replace x_p := x_p.next b12; replace x_s := x_s.next b12; replace x_x := x_x.next b12; replace x_y := x_y.next b12; replace x_u := x_u.next b12; replace x_v := x_v.next b12; replace h_a := h_a.below b12; replace h_b := h_b.below b12))
    go_wp2_with fail
    go_ret
    exact ⟨rfl, hb⟩

set_option maxRecDepth 20000 in
set_option maxHeartbeats 32000000 in
theorem wholeDivs_mida (s0 : Bool) (a0 : Option Addr) (len0 cap0 : Nat) (s1 : Bool) (a1 : Option Addr) (len1 cap1 : Nat) (A B : Int)  (w : World) (h_a : Wh w (.agg #[.bool s0, .slice a0 len0 cap0]) A 24) (h_b : Wh w (.agg #[.bool s1, .slice a1 len1 cap1]) B 24) (k0 : len0 ≤ 24) (k1 : len1 ≤ 24) (g0 : 12 < len0)  :
    Calls Tryd.prog 5 #[.agg #[.bool s0, .slice a0 len0 cap0], .agg #[.bool s1, .slice a1 len1 cap1]] w fun e w' => e = .returned (.bool true) ∧ Below w.heap.size w w' := by
  obtain ⟨V0, V1, hb0⟩ := ents2 w (.bool s0) (.slice a0 len0 cap0) (.bool s1) (.slice a1 len1 cap1)
  have hsz : ((w.alloc (.cells #[.bool s0, .slice a0 len0 cap0] 36)).alloc (.cells #[.bool s1, .slice a1 len1 cap1] 36)).heap.size = w.heap.size + 1 + 1 := by simp
  have hall : ∀ i, i < 2 → ∃ s A n c, (((w.alloc (.cells #[.bool s0, .slice a0 len0 cap0] 36)).alloc (.cells #[.bool s1, .slice a1 len1 cap1] 36)).alloc (.cells #[.bool s0, .slice a0 len0 cap0, .bool s1, .slice a1 len1 cap1] 36)).cell? ⟨w.heap.size + 1 + 1, i * 2, none⟩ = some (.bool s) ∧ (((w.alloc (.cells #[.bool s0, .slice a0 len0 cap0] 36)).alloc (.cells #[.bool s1, .slice a1 len1 cap1] 36)).alloc (.cells #[.bool s0, .slice a0 len0 cap0, .bool s1, .slice a1 len1 cap1] 36)).cell? ⟨w.heap.size + 1 + 1, i * 2 + 1, none⟩ = some (.slice A n c) ∧ n ≤ 24 := by
    intro i hi
    rw [← hsz]
    rcases (show i = 0 ∨ i = 1 by omega) with rfl | rfl
    · exact ⟨s0, a0, len0, cap0, (cell_new _ _ _ _).trans rfl, (cell_new _ _ _ _).trans rfl, k0⟩
    · exact ⟨s1, a1, len1, cap1, (cell_new _ _ _ _).trans rfl, (cell_new _ _ _ _).trans rfl, k1⟩
  have hglt : w.heap.size + 1 + 1 < (((w.alloc (.cells #[.bool s0, .slice a0 len0 cap0] 36)).alloc (.cells #[.bool s1, .slice a1 len1 cap1] 36)).alloc (.cells #[.bool s0, .slice a0 len0 cap0, .bool s1, .slice a1 len1 cap1] 36)).heap.size := by rw [← hsz]; simp
  have HA := Lib.hid (And.intro hglt hall)
  clear hall hglt hsz
  have hb : Below w.heap.size w (((w.alloc (.cells #[.bool s0, .slice a0 len0 cap0] 36)).alloc (.cells #[.bool s1, .slice a1 len1 cap1] 36)).alloc (.cells #[.bool s0, .slice a0 len0 cap0, .bool s1, .slice a1 len1 cap1] 36)) := bnew hb0 _
  replace V0 := V0.alloc (.cells #[.bool s0, .slice a0 len0 cap0, .bool s1, .slice a1 len1 cap1] 36)
  replace V1 := V1.alloc (.cells #[.bool s0, .slice a0 len0 cap0, .bool s1, .slice a1 len1 cap1] 36)
  have V00 := (ents2 w (.bool s0) (.slice a0 len0 cap0) (.bool s1) (.slice a1 len1 cap1)).1.c0
  have V01 := (ents2 w (.bool s0) (.slice a0 len0 cap0) (.bool s1) (.slice a1 len1 cap1)).1.c1
  have V10 := (ents2 w (.bool s0) (.slice a0 len0 cap0) (.bool s1) (.slice a1 len1 cap1)).2.1.c0
  have V11 := (ents2 w (.bool s0) (.slice a0 len0 cap0) (.bool s1) (.slice a1 len1 cap1)).2.1.c1
  clear hb0
  go_enter Tryd.func5, Tryd.ntmps5
  go_wp2_with fail
  refine (wlsmall_yes (w.heap.size + 1 + 1) 2 _ (by decide) HA.out.1 HA.out.2).mono ?_
  rintro e w0 ⟨rfl, b0⟩
  replace hb := bnext hb b0
  clear HA V00 V01 V10 V11
  replace V0 := V0.next b0
  replace V1 := V1.next b0
  replace h_a := h_a.below hb
  replace h_b := h_b.below hb
  clear b0
  have V00 := V0.c0
  have V01 := V0.c1
  have V10 := V1.c0
  have V11 := V1.c1
  go_wp2_with fail
  refine (wlives_yes _).mono ?_
  rintro e w1 ⟨rfl, b1⟩
  replace hb := bnext hb b1
  clear V00 V01 V10 V11
  replace V0 := V0.next b1
  replace V1 := V1.next b1
  replace h_a := h_a.below b1
  replace h_b := h_b.below b1
  have V00 := V0.c0
  have V01 := V0.c1
  have V10 := V1.c0
  have V11 := V1.c1
  clear b1
  go_wp2_with fail
  go_ret
  exact ⟨rfl, hb⟩

set_option maxRecDepth 20000 in
set_option maxHeartbeats 32000000 in
theorem wholeDivs_midb (s0 : Bool) (a0 : Option Addr) (len0 cap0 : Nat) (s1 : Bool) (a1 : Option Addr) (len1 cap1 : Nat) (A B : Int)  (w : World) (h_a : Wh w (.agg #[.bool s0, .slice a0 len0 cap0]) A 24) (h_b : Wh w (.agg #[.bool s1, .slice a1 len1 cap1]) B 24) (k0 : len0 ≤ 24) (k1 : len1 ≤ 24) (g0 : len0 ≤ 12) (g1 : 12 < len1)  :
    Calls Tryd.prog 5 #[.agg #[.bool s0, .slice a0 len0 cap0], .agg #[.bool s1, .slice a1 len1 cap1]] w fun e w' => e = .returned (.bool true) ∧ Below w.heap.size w w' := by
  obtain ⟨V0, V1, hb0⟩ := ents2 w (.bool s0) (.slice a0 len0 cap0) (.bool s1) (.slice a1 len1 cap1)
  have hsz : ((w.alloc (.cells #[.bool s0, .slice a0 len0 cap0] 36)).alloc (.cells #[.bool s1, .slice a1 len1 cap1] 36)).heap.size = w.heap.size + 1 + 1 := by simp
  have hall : ∀ i, i < 2 → ∃ s A n c, (((w.alloc (.cells #[.bool s0, .slice a0 len0 cap0] 36)).alloc (.cells #[.bool s1, .slice a1 len1 cap1] 36)).alloc (.cells #[.bool s0, .slice a0 len0 cap0, .bool s1, .slice a1 len1 cap1] 36)).cell? ⟨w.heap.size + 1 + 1, i * 2, none⟩ = some (.bool s) ∧ (((w.alloc (.cells #[.bool s0, .slice a0 len0 cap0] 36)).alloc (.cells #[.bool s1, .slice a1 len1 cap1] 36)).alloc (.cells #[.bool s0, .slice a0 len0 cap0, .bool s1, .slice a1 len1 cap1] 36)).cell? ⟨w.heap.size + 1 + 1, i * 2 + 1, none⟩ = some (.slice A n c) ∧ n ≤ 24 := by
    intro i hi
    rw [← hsz]
    rcases (show i = 0 ∨ i = 1 by omega) with rfl | rfl
    · exact ⟨s0, a0, len0, cap0, (cell_new _ _ _ _).trans rfl, (cell_new _ _ _ _).trans rfl, k0⟩
    · exact ⟨s1, a1, len1, cap1, (cell_new _ _ _ _).trans rfl, (cell_new _ _ _ _).trans rfl, k1⟩
  have hglt : w.heap.size + 1 + 1 < (((w.alloc (.cells #[.bool s0, .slice a0 len0 cap0] 36)).alloc (.cells #[.bool s1, .slice a1 len1 cap1] 36)).alloc (.cells #[.bool s0, .slice a0 len0 cap0, .bool s1, .slice a1 len1 cap1] 36)).heap.size := by rw [← hsz]; simp
  have HA := Lib.hid (And.intro hglt hall)
  clear hall hglt hsz
  have hb : Below w.heap.size w (((w.alloc (.cells #[.bool s0, .slice a0 len0 cap0] 36)).alloc (.cells #[.bool s1, .slice a1 len1 cap1] 36)).alloc (.cells #[.bool s0, .slice a0 len0 cap0, .bool s1, .slice a1 len1 cap1] 36)) := bnew hb0 _
  replace V0 := V0.alloc (.cells #[.bool s0, .slice a0 len0 cap0, .bool s1, .slice a1 len1 cap1] 36)
  replace V1 := V1.alloc (.cells #[.bool s0, .slice a0 len0 cap0, .bool s1, .slice a1 len1 cap1] 36)
  have V00 := (ents2 w (.bool s0) (.slice a0 len0 cap0) (.bool s1) (.slice a1 len1 cap1)).1.c0
  have V01 := (ents2 w (.bool s0) (.slice a0 len0 cap0) (.bool s1) (.slice a1 len1 cap1)).1.c1
  have V10 := (ents2 w (.bool s0) (.slice a0 len0 cap0) (.bool s1) (.slice a1 len1 cap1)).2.1.c0
  have V11 := (ents2 w (.bool s0) (.slice a0 len0 cap0) (.bool s1) (.slice a1 len1 cap1)).2.1.c1
  clear hb0
  go_enter Tryd.func5, Tryd.ntmps5
  go_wp2_with fail
  refine (wlsmall_yes (w.heap.size + 1 + 1) 2 _ (by decide) HA.out.1 HA.out.2).mono ?_
  rintro e w0 ⟨rfl, b0⟩
  replace hb := bnext hb b0
  clear HA V00 V01 V10 V11
  replace V0 := V0.next b0
  replace V1 := V1.next b0
  replace h_a := h_a.below hb
  replace h_b := h_b.below hb
  clear b0
  have V00 := V0.c0
  have V01 := V0.c1
  have V10 := V1.c0
  have V11 := V1.c1
  go_wp2_with fail
  refine (wlives_yes _).mono ?_
  rintro e w1 ⟨rfl, b1⟩
  replace hb := bnext hb b1
  clear V00 V01 V10 V11
  replace V0 := V0.next b1
  replace V1 := V1.next b1
  replace h_a := h_a.below b1
  replace h_b := h_b.below b1
  have V00 := V0.c0
  have V01 := V0.c1
  have V10 := V1.c0
  have V11 := V1.c1
  clear b1
  go_wp2_with fail
  go_ret
  exact ⟨rfl, hb⟩

set_option maxRecDepth 20000 in
set_option maxHeartbeats 1600000 in
theorem wholeDivs_big (s0 : Bool) (a0 : Option Addr) (len0 cap0 : Nat) (s1 : Bool) (a1 : Option Addr) (len1 cap1 : Nat)  (w : World) (m0 : len0 ≤ maxLen) (m1 : len1 ≤ maxLen) (h : 24 < len0 ∨ 24 < len1)  :
    Calls Tryd.prog 5 #[.agg #[.bool s0, .slice a0 len0 cap0], .agg #[.bool s1, .slice a1 len1 cap1]] w fun e w' => e = .returned (.bool true) ∧ Below w.heap.size w w' := by
  obtain ⟨V0, V1, hb0⟩ := ents2 w (.bool s0) (.slice a0 len0 cap0) (.bool s1) (.slice a1 len1 cap1)
  have hsz : ((w.alloc (.cells #[.bool s0, .slice a0 len0 cap0] 36)).alloc (.cells #[.bool s1, .slice a1 len1 cap1] 36)).heap.size = w.heap.size + 1 + 1 := by simp
  have hall : ∀ i, i < 2 → ∃ s A n c, (((w.alloc (.cells #[.bool s0, .slice a0 len0 cap0] 36)).alloc (.cells #[.bool s1, .slice a1 len1 cap1] 36)).alloc (.cells #[.bool s0, .slice a0 len0 cap0, .bool s1, .slice a1 len1 cap1] 36)).cell? ⟨w.heap.size + 1 + 1, i * 2, none⟩ = some (.bool s) ∧ (((w.alloc (.cells #[.bool s0, .slice a0 len0 cap0] 36)).alloc (.cells #[.bool s1, .slice a1 len1 cap1] 36)).alloc (.cells #[.bool s0, .slice a0 len0 cap0, .bool s1, .slice a1 len1 cap1] 36)).cell? ⟨w.heap.size + 1 + 1, i * 2 + 1, none⟩ = some (.slice A n c) ∧ n ≤ maxLen := by
    intro i hi
    rw [← hsz]
    rcases (show i = 0 ∨ i = 1 by omega) with rfl | rfl
    · exact ⟨s0, a0, len0, cap0, (cell_new _ _ _ _).trans rfl, (cell_new _ _ _ _).trans rfl, m0⟩
    · exact ⟨s1, a1, len1, cap1, (cell_new _ _ _ _).trans rfl, (cell_new _ _ _ _).trans rfl, m1⟩
  have hglt : w.heap.size + 1 + 1 < (((w.alloc (.cells #[.bool s0, .slice a0 len0 cap0] 36)).alloc (.cells #[.bool s1, .slice a1 len1 cap1] 36)).alloc (.cells #[.bool s0, .slice a0 len0 cap0, .bool s1, .slice a1 len1 cap1] 36)).heap.size := by rw [← hsz]; simp
  have hb : Below w.heap.size w (((w.alloc (.cells #[.bool s0, .slice a0 len0 cap0] 36)).alloc (.cells #[.bool s1, .slice a1 len1 cap1] 36)).alloc (.cells #[.bool s0, .slice a0 len0 cap0, .bool s1, .slice a1 len1 cap1] 36)) := bnew hb0 _
  have V00 := V0.c0
  have V01 := V0.c1
  have V10 := V1.c0
  have V11 := V1.c1
  clear hb0
  obtain ⟨m, hm, hbig⟩ : ∃ m, m < 2 ∧ ∃ A n c, (((w.alloc (.cells #[.bool s0, .slice a0 len0 cap0] 36)).alloc (.cells #[.bool s1, .slice a1 len1 cap1] 36)).alloc (.cells #[.bool s0, .slice a0 len0 cap0, .bool s1, .slice a1 len1 cap1] 36)).cell? ⟨w.heap.size + 1 + 1, m * 2 + 1, none⟩ = some (.slice A n c) ∧ 24 < n := by
    rw [← hsz]
    rcases h with h | h
    · exact ⟨0, by omega, a0, len0, cap0, (cell_new _ _ _ _).trans rfl, h⟩
    · exact ⟨1, by omega, a1, len1, cap1, (cell_new _ _ _ _).trans rfl, h⟩
  have HA := Lib.hid (And.intro hglt (And.intro hall hbig))
  clear hall hbig hglt hsz h m0 m1 V0 V1
  go_enter Tryd.func5, Tryd.ntmps5
  go_wp2_with fail
  refine (wlsmall_no (w.heap.size + 1 + 1) 2 _ (by decide) HA.out.1 HA.out.2.1 m hm HA.out.2.2).mono ?_
  rintro e w0 ⟨rfl, b0⟩
  clear HA
  go_wp2_with fail
  refine (wlives_yes _).mono ?_
  rintro e w1 ⟨rfl, b1⟩
  go_wp2_with fail
  go_ret
  exact ⟨rfl, bnext (bnext hb b0) b1⟩

theorem wholeDivs_walk (s0 : Bool) (a0 : Option Addr) (len0 cap0 : Nat) (ys0 : List Nat) (s1 : Bool) (a1 : Option Addr) (len1 cap1 : Nat) (ys1 : List Nat)  (w : World) (h0 : Sl w a0 len0 cap0 ys0) (h1 : Sl w a1 len1 cap1 ys1)  :
    Calls Tryd.prog 5 #[.agg #[.bool s0, .slice a0 len0 cap0], .agg #[.bool s1, .slice a1 len1 cap1]] w fun e w' => e = .returned (.bool true) ∧ Below w.heap.size w w' := by
  by_cases h : 24 < len0 ∨ 24 < len1
  · exact wholeDivs_big _ _ _ _ _ _ _ _ w (Nat.le_trans h0.le h0.max) (Nat.le_trans h1.le h1.max) h
  · by_cases h12 : 12 < len0
    · exact wholeDivs_mida _ _ _ _ _ _ _ _ _ _ w (Wh.of_sl s0 h0 (by omega)) (Wh.of_sl s1 h1 (by omega)) (by omega) (by omega) h12
    · by_cases h13 : 12 < len1
      · exact wholeDivs_midb _ _ _ _ _ _ _ _ _ _ w (Wh.of_sl s0 h0 (by omega)) (Wh.of_sl s1 h1 (by omega)) (by omega) (by omega) (by omega) h13
      · exact wholeDivs_small _ _ _ _ _ _ _ _ _ _ w (Wh.of_sl s0 h0 (by omega)) (Wh.of_sl s1 h1 (by omega)) (by omega) (by omega)
end Go.Proofs.YtjildimhflondaaDoor
