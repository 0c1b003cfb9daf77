/-
  The law WholeBack: its walk.
-/
import Derived.Test.YtabdnlhehickoaaDoorWc
namespace Go.Proofs.YtabdnlhehickoaaDoor
open Go.RowKit

set_option maxRecDepth 20000 in
set_option maxHeartbeats 32000000 in
theorem wholeBack_small (s0 : Bool) (a0 : Option Addr) (len0 cap0 : Nat) (s1 : Bool) (a1 : Option Addr) (len1 cap1 : Nat) (A B : Int)  (w : World) (h_a : Wh w (.agg #[.bool s0, .slice a0 len0 cap0]) A 24) (h_b : Wh w (.agg #[.bool s1, .slice a1 len1 cap1]) B 24) (k0 : len0 ≤ 24) (k1 : len1 ≤ 24)  :
    Calls Tryd.prog 7 #[.agg #[.bool s0, .slice a0 len0 cap0], .agg #[.bool s1, .slice a1 len1 cap1]] w fun e w' => e = .returned (.bool true) ∧ Below w.heap.size w w' := by
  have Hh_a := Lib.hid h_a
  have Hh_b := Lib.hid h_b
  have l_a := h_a.lt
  have l_b := h_b.lt
  obtain ⟨V0, V1, hb0⟩ := ents2 w (.bool s0) (.slice a0 len0 cap0) (.bool s1) (.slice a1 len1 cap1)
  have hsz : ((w.alloc (.cells #[.bool s0, .slice a0 len0 cap0] 36)).alloc (.cells #[.bool s1, .slice a1 len1 cap1] 36)).heap.size = w.heap.size + 1 + 1 := by simp
  have hall : ∀ i, i < 2 → ∃ s A n c, (((w.alloc (.cells #[.bool s0, .slice a0 len0 cap0] 36)).alloc (.cells #[.bool s1, .slice a1 len1 cap1] 36)).alloc (.cells #[.bool s0, .slice a0 len0 cap0, .bool s1, .slice a1 len1 cap1] 36)).cell? ⟨w.heap.size + 1 + 1, i * 2, none⟩ = some (.bool s) ∧ (((w.alloc (.cells #[.bool s0, .slice a0 len0 cap0] 36)).alloc (.cells #[.bool s1, .slice a1 len1 cap1] 36)).alloc (.cells #[.bool s0, .slice a0 len0 cap0, .bool s1, .slice a1 len1 cap1] 36)).cell? ⟨w.heap.size + 1 + 1, i * 2 + 1, none⟩ = some (.slice A n c) ∧ n ≤ 24 := by
    intro i hi
    rw [← hsz]
    rcases (show i = 0 ∨ i = 1 by omega) with rfl | rfl
    · exact ⟨s0, a0, len0, cap0, (cell_new _ _ _ _).trans rfl, (cell_new _ _ _ _).trans rfl, k0⟩
    · exact ⟨s1, a1, len1, cap1, (cell_new _ _ _ _).trans rfl, (cell_new _ _ _ _).trans rfl, k1⟩
  have hglt : w.heap.size + 1 + 1 < (((w.alloc (.cells #[.bool s0, .slice a0 len0 cap0] 36)).alloc (.cells #[.bool s1, .slice a1 len1 cap1] 36)).alloc (.cells #[.bool s0, .slice a0 len0 cap0, .bool s1, .slice a1 len1 cap1] 36)).heap.size := by rw [← hsz]; simp
  have HA := Lib.hid (And.intro hglt hall)
  clear hall hglt hsz
  have hb : Below w.heap.size w (((w.alloc (.cells #[.bool s0, .slice a0 len0 cap0] 36)).alloc (.cells #[.bool s1, .slice a1 len1 cap1] 36)).alloc (.cells #[.bool s0, .slice a0 len0 cap0, .bool s1, .slice a1 len1 cap1] 36)) := bnew hb0 _
  replace V0 := V0.alloc (.cells #[.bool s0, .slice a0 len0 cap0, .bool s1, .slice a1 len1 cap1] 36)
  replace V1 := V1.alloc (.cells #[.bool s0, .slice a0 len0 cap0, .bool s1, .slice a1 len1 cap1] 36)
  have V00 := (ents2 w (.bool s0) (.slice a0 len0 cap0) (.bool s1) (.slice a1 len1 cap1)).1.c0
  have V01 := (ents2 w (.bool s0) (.slice a0 len0 cap0) (.bool s1) (.slice a1 len1 cap1)).1.c1
  have V10 := (ents2 w (.bool s0) (.slice a0 len0 cap0) (.bool s1) (.slice a1 len1 cap1)).2.1.c0
  have V11 := (ents2 w (.bool s0) (.slice a0 len0 cap0) (.bool s1) (.slice a1 len1 cap1)).2.1.c1
  clear hb0
  go_enter Tryd.func7, Tryd.ntmps7
  go_wp2_with fail
  refine (wlsmall_yes (w.heap.size + 1 + 1) 2 _ (by decide) HA.out.1 HA.out.2).mono ?_
  rintro e w0 ⟨rfl, b0⟩
  replace hb := bnext hb b0
  clear HA V00 V01 V10 V11
  replace V0 := V0.next b0
  replace V1 := V1.next b0
  replace h_a := h_a.below hb
  replace h_b := h_b.below hb
  clear b0
  by_cases hB : B = 0
  · have HE : Hid (quoE B = 3) := Lib.hid (by unfold quoE; rw [if_pos hB])
    have V00 := V0.c0
    have V01 := V0.c1
    have V10 := V1.c0
    have V11 := V1.c1
    have HZ : Hid (cmpZ B 0 = 0) := Lib.hid ((cmpZ_zero _ _).2 hB)
    clear hB l_a l_b
    go_wp2_with fail
    refine (wquo_num h_a h_b (by decide) (by decide)).mono ?_
    rintro e w1 ⟨v_q, v_r, rfl, x_q, x_r, b1⟩
    replace hb := bnext hb b1
    clear V00 V01 V10 V11
    replace V0 := V0.next b1
    replace V1 := V1.next b1
    replace h_a := h_a.below b1
    replace h_b := h_b.below b1
    have V00 := V0.c0
    have V01 := V0.c1
    have V10 := V1.c0
    have V11 := V1.c1
    clear b1
    rw [HE.out]
    obtain ⟨s_q, A_q, n_q, c_q, rfl, g_q⟩ := x_q.opened
    obtain ⟨s_r, A_r, n_r, c_r, rfl, g_r⟩ := x_r.opened
    have bl : Below w1.heap.size w1 ((w1.alloc (.cells #[.bool s_q, .slice A_q n_q c_q] 36)).alloc (.cells #[.bool s_r, .slice A_r n_r c_r] 36)) := (bnew (bnew (Below.refl _ _) _) _)
    obtain ⟨V_q, V_r⟩ := mk2 w1 (.bool s_q) (.slice A_q n_q c_q) (.bool s_r) (.slice A_r n_r c_r)
    replace hb := bnext hb bl
    clear V00 V01 V10 V11
    replace V0 := V0.next bl
    replace V1 := V1.next bl
    replace x_q := x_q.next bl
    replace x_r := x_r.next bl
    replace h_a := h_a.below bl
    replace h_b := h_b.below bl
    have V00 := V0.c0
    have V01 := V0.c1
    have V10 := V1.c0
    have V11 := V1.c1
    clear bl
    clear g_q
    clear g_r
    clear V00 V01 V10 V11
    have V00 := V0.c0
    have V01 := V0.c1
    have V10 := V1.c0
    have V11 := V1.c1
    have V_q0 := V_q.c0
    have V_q1 := V_q.c1
    have V_r0 := V_r.c0
    have V_r1 := V_r.c1
    clear V_q0 V_q1
    clear V_r0 V_r1
    clear x_q x_r V_q V_r
    go_wp2_with fail
    refine (wfloor_num h_a h_b (by decide) (by decide)).mono ?_
    rintro e w2 ⟨v_p, v_s, rfl, x_p, x_s, b2⟩
    replace hb := bnext hb b2
    clear V00 V01 V10 V11
    replace V0 := V0.next b2
    replace V1 := V1.next b2
    replace h_a := h_a.below b2
    replace h_b := h_b.below b2
    have V00 := V0.c0
    have V01 := V0.c1
    have V10 := V1.c0
    have V11 := V1.c1
    clear b2
    rw [HE.out]
    obtain ⟨s_p, A_p, n_p, c_p, rfl, g_p⟩ := x_p.opened
    obtain ⟨s_s, A_s, n_s, c_s, rfl, g_s⟩ := x_s.opened
    have bl : Below w2.heap.size w2 ((w2.alloc (.cells #[.bool s_p, .slice A_p n_p c_p] 36)).alloc (.cells #[.bool s_s, .slice A_s n_s c_s] 36)) := (bnew (bnew (Below.refl _ _) _) _)
    obtain ⟨V_p, V_s⟩ := mk2 w2 (.bool s_p) (.slice A_p n_p c_p) (.bool s_s) (.slice A_s n_s c_s)
    replace hb := bnext hb bl
    clear V00 V01 V10 V11
    replace V0 := V0.next bl
    replace V1 := V1.next bl
    replace x_p := x_p.next bl
    replace x_s := x_s.next bl
    replace h_a := h_a.below bl
    replace h_b := h_b.below bl
    have V00 := V0.c0
    have V01 := V0.c1
    have V10 := V1.c0
    have V11 := V1.c1
    clear bl
    clear g_p
    clear g_s
    clear V00 V01 V10 V11
    have V00 := V0.c0
    have V01 := V0.c1
    have V10 := V1.c0
    have V11 := V1.c1
    have V_p0 := V_p.c0
    have V_p1 := V_p.c1
    have V_s0 := V_s.c0
    have V_s1 := V_s.c1
    clear V_p0 V_p1
    clear V_s0 V_s1
    clear x_p x_s V_p V_s
    go_wp2_with fail
    refine (wof_num 0 _ (by decide) (by decide)).mono ?_
    rintro e w3 ⟨v_z, rfl, x_z, b3⟩
    replace hb := bnext hb b3
    clear V00 V01 V10 V11
    replace V0 := V0.next b3
    replace V1 := V1.next b3
    replace h_a := h_a.below b3
    replace h_b := h_b.below b3
    have V00 := V0.c0
    have V01 := V0.c1
    have V10 := V1.c0
    have V11 := V1.c1
    clear b3
    obtain ⟨s_z, A_z, n_z, c_z, rfl, g_z⟩ := x_z.opened
    have bl : Below w3.heap.size w3 (w3.alloc (.cells #[.bool s_z, .slice A_z n_z c_z] 36)) := (bnew (Below.refl _ _) _)
    have V_z := Var.mk_ w3 (.bool s_z) (.slice A_z n_z c_z)
    replace hb := bnext hb bl
    clear V00 V01 V10 V11
    replace V0 := V0.next bl
    replace V1 := V1.next bl
    replace x_z := x_z.next bl
    replace h_a := h_a.below bl
    replace h_b := h_b.below bl
    have V00 := V0.c0
    have V01 := V0.c1
    have V10 := V1.c0
    have V11 := V1.c1
    clear bl
    clear g_z
    clear V00 V01 V10 V11
    have V00 := V0.c0
    have V01 := V0.c1
    have V10 := V1.c0
    have V11 := V1.c1
    have V_z0 := V_z.c0
    have V_z1 := V_z.c1
    go_wp2_with fail
    refine (wcmp_num h_b (x_z.wh 1 (by decide)) (by decide) (by decide)).mono ?_
    rintro e w4 ⟨rfl, b4⟩
    replace hb := bnext hb b4
    clear V00 V01 V10 V11 V_z0 V_z1
    replace V0 := V0.next b4
    replace V1 := V1.next b4
    replace V_z := V_z.next b4
    replace x_z := x_z.next b4
    replace h_a := h_a.below b4
    replace h_b := h_b.below b4
    have V00 := V0.c0
    have V01 := V0.c1
    have V10 := V1.c0
    have V11 := V1.c1
    have V_z0 := V_z.c0
    have V_z1 := V_z.c1
    clear b4
    rw [HZ.out]
    clear V_z0 V_z1
    clear x_z V_z
    go_wp2_with fail
    refine (wlives_yes _).mono ?_
    rintro e w5 ⟨rfl, b5⟩
    replace hb := bnext hb b5
    clear V00 V01 V10 V11
    replace V0 := V0.next b5
    replace V1 := V1.next b5
    replace h_a := h_a.below b5
    replace h_b := h_b.below b5
    have V00 := V0.c0
    have V01 := V0.c1
    have V10 := V1.c0
    have V11 := V1.c1
    clear b5
    go_wp2_with fail
    go_ret
    exact ⟨rfl, hb⟩
  · have HE : Hid (quoE B = 0) := Lib.hid (by unfold quoE; rw [if_neg hB])
    have V00 := V0.c0
    have V01 := V0.c1
    have V10 := V1.c0
    have V11 := V1.c1
    have hnz : cmpZ B 0 ≠ 0 := fun h => hB ((cmpZ_zero _ _).1 h)
    have lQ : (quoQ A B).natAbs < 4294967296 ^ 24 := Nat.lt_of_le_of_lt (quo_absQ hB) l_a
    have lP : (flQ A B).natAbs < 4294967296 ^ 25 := Nat.lt_of_le_of_lt (fl_absQ hB) (Nat.lt_of_le_of_lt (Nat.succ_le_of_lt l_a) (by decide))
    have lR : (quoR A B).natAbs < 4294967296 ^ 24 := Nat.lt_trans (by have := @quo_bd A B hB; omega) l_b
    have lS : (flR A B).natAbs < 4294967296 ^ 24 := Nat.lt_trans (by have := @fl_bd A B hB; omega) l_b
    have lm1 := lt_up (lt_mulZ lQ l_b) (show 24 + 24 ≤ 49 by decide)
    have lm2 := lt_up (lt_mulZ lP l_b) (show 25 + 24 ≤ 49 by decide)
    have hbk1 := @quo_back A B hB
    have hbk2 := @fl_back A B hB
    have ls1 : (quoQ A B * B + quoR A B).natAbs < 4294967296 ^ 24 := by rw [hbk1]; exact l_a
    have ls2 : (flQ A B * B + flR A B).natAbs < 4294967296 ^ 24 := by rw [hbk2]; exact l_a
    have HL := Lib.hid (And.intro lQ (And.intro lP (And.intro lR (And.intro lS (And.intro lm1 (And.intro lm2 (And.intro ls1 ls2)))))))
    have HK := Lib.hid (And.intro hbk1 hbk2)
    have HM := Lib.hid (And.intro (@quo_bd A B hB) (And.intro (@fl_bd A B hB) (And.intro (@quo_sign A B hB) (@fl_sign A B hB))))
    have HLb := Lib.hid l_b
    have HB := Lib.hid hB
    clear lQ lP lR lS lm1 lm2 hbk1 hbk2 ls1 ls2 l_a l_b hB
    have HQ := Lib.hid (fun (W : World) (u v : Value) (hu : Wh W u A 24) (hv : Wh W v B 24) => wquo_num hu hv (by decide) (by decide))
    have HF := Lib.hid (fun (W : World) (u v : Value) (hu : Wh W u A 24) (hv : Wh W v B 24) => wfloor_num hu hv (by decide) (by decide))
    generalize quoQ A B = Q at *
    generalize quoR A B = R at *
    generalize flQ A B = P at *
    generalize flR A B = S at *
    go_wp2_with fail
    refine (HQ.out _ _ _ h_a h_b).mono ?_
    rintro e w1 ⟨v_q, v_r, rfl, x_q, x_r, b1⟩
    replace hb := bnext hb b1
    clear V00 V01 V10 V11
    replace V0 := V0.next b1
    replace V1 := V1.next b1
    replace h_a := h_a.below b1
    replace h_b := h_b.below b1
    have V00 := V0.c0
    have V01 := V0.c1
    have V10 := V1.c0
    have V11 := V1.c1
    clear b1
    obtain ⟨s_q, A_q, n_q, c_q, rfl, g_q⟩ := x_q.opened
    obtain ⟨s_r, A_r, n_r, c_r, rfl, g_r⟩ := x_r.opened
    have bl : Below w1.heap.size w1 ((w1.alloc (.cells #[.bool s_q, .slice A_q n_q c_q] 36)).alloc (.cells #[.bool s_r, .slice A_r n_r c_r] 36)) := (bnew (bnew (Below.refl _ _) _) _)
    obtain ⟨V_q, V_r⟩ := mk2 w1 (.bool s_q) (.slice A_q n_q c_q) (.bool s_r) (.slice A_r n_r c_r)
    replace hb := bnext hb bl
    clear V00 V01 V10 V11
    replace V0 := V0.next bl
    replace V1 := V1.next bl
    replace x_q := x_q.next bl
    replace x_r := x_r.next bl
    replace h_a := h_a.below bl
    replace h_b := h_b.below bl
    have V00 := V0.c0
    have V01 := V0.c1
    have V10 := V1.c0
    have V11 := V1.c1
    clear bl
    clear g_q
    clear g_r
    clear V00 V01 V10 V11
    have V00 := V0.c0
    have V01 := V0.c1
    have V10 := V1.c0
    have V11 := V1.c1
    have V_q0 := V_q.c0
    have V_q1 := V_q.c1
    have V_r0 := V_r.c0
    have V_r1 := V_r.c1
    rw [HE.out]
    go_wp2_with fail
    refine (HF.out _ _ _ h_a h_b).mono ?_
    rintro e w2 ⟨v_p, v_s, rfl, x_p, x_s, b2⟩
    replace hb := bnext hb b2
    clear V00 V01 V10 V11 V_q0 V_q1 V_r0 V_r1
    replace V0 := V0.next b2
    replace V1 := V1.next b2
    replace V_q := V_q.next b2
    replace V_r := V_r.next b2
    replace x_q := x_q.next b2
    replace x_r := x_r.next b2
    replace h_a := h_a.below b2
    replace h_b := h_b.below b2
    have V00 := V0.c0
    have V01 := V0.c1
    have V10 := V1.c0
    have V11 := V1.c1
    have V_q0 := V_q.c0
    have V_q1 := V_q.c1
    have V_r0 := V_r.c0
    have V_r1 := V_r.c1
    clear b2
    obtain ⟨s_p, A_p, n_p, c_p, rfl, g_p⟩ := x_p.opened
    obtain ⟨s_s, A_s, n_s, c_s, rfl, g_s⟩ := x_s.opened
    have bl : Below w2.heap.size w2 ((w2.alloc (.cells #[.bool s_p, .slice A_p n_p c_p] 36)).alloc (.cells #[.bool s_s, .slice A_s n_s c_s] 36)) := (bnew (bnew (Below.refl _ _) _) _)
    obtain ⟨V_p, V_s⟩ := mk2 w2 (.bool s_p) (.slice A_p n_p c_p) (.bool s_s) (.slice A_s n_s c_s)
    replace hb := bnext hb bl
    clear V00 V01 V10 V11 V_q0 V_q1 V_r0 V_r1
    replace V0 := V0.next bl
    replace V1 := V1.next bl
    replace V_q := V_q.next bl
    replace V_r := V_r.next bl
    replace x_q := x_q.next bl
    replace x_r := x_r.next bl
    replace x_p := x_p.next bl
    replace x_s := x_s.next bl
    replace h_a := h_a.below bl
    replace h_b := h_b.below bl
    have V00 := V0.c0
    have V01 := V0.c1
    have V10 := V1.c0
    have V11 := V1.c1
    have V_q0 := V_q.c0
    have V_q1 := V_q.c1
    have V_r0 := V_r.c0
    have V_r1 := V_r.c1
    clear bl
    clear g_p
    clear g_s
    clear V00 V01 V10 V11 V_q0 V_q1 V_r0 V_r1
    have V00 := V0.c0
    have V01 := V0.c1
    have V10 := V1.c0
    have V11 := V1.c1
    have V_q0 := V_q.c0
    have V_q1 := V_q.c1
    have V_r0 := V_r.c0
    have V_r1 := V_r.c1
    have V_p0 := V_p.c0
    have V_p1 := V_p.c1
    have V_s0 := V_s.c0
    have V_s1 := V_s.c1
    rw [HE.out]
    clear HQ HF HE
    go_wp2_with fail
    refine (wof_num 0 _ (by decide) (by decide)).mono ?_
    rintro e w3 ⟨v_z, rfl, x_z, b3⟩
    replace hb := bnext hb b3
    clear V00 V01 V10 V11 V_q0 V_q1 V_r0 V_r1 V_p0 V_p1 V_s0 V_s1
    replace V0 := V0.next b3
    replace V1 := V1.next b3
    replace V_q := V_q.next b3
    replace V_r := V_r.next b3
    replace V_p := V_p.next b3
    replace V_s := V_s.next b3
    replace x_q := x_q.next b3
    replace x_r := x_r.next b3
    replace x_p := x_p.next b3
    replace x_s := x_s.next b3
    replace h_a := h_a.below b3
    replace h_b := h_b.below b3
    have V00 := V0.c0
    have V01 := V0.c1
    have V10 := V1.c0
    have V11 := V1.c1
    have V_q0 := V_q.c0
    have V_q1 := V_q.c1
    have V_r0 := V_r.c0
    have V_r1 := V_r.c1
    have V_p0 := V_p.c0
    have V_p1 := V_p.c1
    have V_s0 := V_s.c0
    have V_s1 := V_s.c1
    clear b3
    obtain ⟨s_z, A_z, n_z, c_z, rfl, g_z⟩ := x_z.opened
    have bl : Below w3.heap.size w3 (w3.alloc (.cells #[.bool s_z, .slice A_z n_z c_z] 36)) := (bnew (Below.refl _ _) _)
    have V_z := Var.mk_ w3 (.bool s_z) (.slice A_z n_z c_z)
    replace hb := bnext hb bl
    clear V00 V01 V10 V11 V_q0 V_q1 V_r0 V_r1 V_p0 V_p1 V_s0 V_s1
    replace V0 := V0.next bl
    replace V1 := V1.next bl
    replace V_q := V_q.next bl
    replace V_r := V_r.next bl
    replace V_p := V_p.next bl
    replace V_s := V_s.next bl
    replace x_q := x_q.next bl
    replace x_r := x_r.next bl
    replace x_p := x_p.next bl
    replace x_s := x_s.next bl
    replace x_z := x_z.next bl
    replace h_a := h_a.below bl
    replace h_b := h_b.below bl
    have V00 := V0.c0
    have V01 := V0.c1
    have V10 := V1.c0
    have V11 := V1.c1
    have V_q0 := V_q.c0
    have V_q1 := V_q.c1
    have V_r0 := V_r.c0
    have V_r1 := V_r.c1
    have V_p0 := V_p.c0
    have V_p1 := V_p.c1
    have V_s0 := V_s.c0
    have V_s1 := V_s.c1
    clear bl
    clear g_z
    clear V00 V01 V10 V11 V_q0 V_q1 V_r0 V_r1 V_p0 V_p1 V_s0 V_s1
    have V00 := V0.c0
    have V01 := V0.c1
    have V10 := V1.c0
    have V11 := V1.c1
    have V_q0 := V_q.c0
    have V_q1 := V_q.c1
    have V_r0 := V_r.c0
    have V_r1 := V_r.c1
    have V_p0 := V_p.c0
    have V_p1 := V_p.c1
    have V_s0 := V_s.c0
    have V_s1 := V_s.c1
    have V_z0 := V_z.c0
    have V_z1 := V_z.c1
    generalize hcb : cmpZ B 0 = cb at hnz
    have hbd := cmpZ_bd B 0
    have HCB := Lib.hid (fun (W : World) (u v : Value) (hu : Wh W u B 24) (hv : Wh W v 0 1) => wcmp_num hu hv (by decide) (by decide))
    rw [hcb] at HCB hbd
    have hcb0 : (cb == 0) = false := beq_eq_false_iff_ne.2 hnz
    have HCb := Lib.hid hcb
    clear hcb hnz
    go_wp2_with fail
    refine (HCB.out _ _ _ h_b (x_z.wh 1 (by decide))).mono ?_
    rintro e w4 ⟨rfl, b4⟩
    replace hb := bnext hb b4
    clear V00 V01 V10 V11 V_q0 V_q1 V_r0 V_r1 V_p0 V_p1 V_s0 V_s1 V_z0 V_z1
    replace V0 := V0.next b4
    replace V1 := V1.next b4
    replace V_q := V_q.next b4
    replace V_r := V_r.next b4
    replace V_p := V_p.next b4
    replace V_s := V_s.next b4
    replace V_z := V_z.next b4
    replace x_q := x_q.next b4
    replace x_r := x_r.next b4
    replace x_p := x_p.next b4
    replace x_s := x_s.next b4
    replace x_z := x_z.next b4
    replace h_a := h_a.below b4
    replace h_b := h_b.below b4
    have V00 := V0.c0
    have V01 := V0.c1
    have V10 := V1.c0
    have V11 := V1.c1
    have V_q0 := V_q.c0
    have V_q1 := V_q.c1
    have V_r0 := V_r.c0
    have V_r1 := V_r.c1
    have V_p0 := V_p.c0
    have V_p1 := V_p.c1
    have V_s0 := V_s.c0
    have V_s1 := V_s.c1
    have V_z0 := V_z.c0
    have V_z1 := V_z.c1
    clear b4
    go_wp2_with fail
    have HCA := Lib.hid (fun (W : World) (u v : Value) (hu : Wh W u A 24) (hv : Wh W v A 24) => wcmp_num hu hv (by decide) (by decide))
    rw [(cmpZ_zero A A).2 rfl] at HCA
    have HLa := Lib.hid h_a.lt
    clear V00 V01 V10 V11 V_q0 V_q1 V_r0 V_r1 V_p0 V_p1 V_s0 V_s1 V_z0 V_z1
    replace V0 := V0.next (Below.refl _ _).drew
    replace V1 := V1.next (Below.refl _ _).drew
    replace V_q := V_q.next (Below.refl _ _).drew
    replace V_r := V_r.next (Below.refl _ _).drew
    replace V_p := V_p.next (Below.refl _ _).drew
    replace V_s := V_s.next (Below.refl _ _).drew
    replace V_z := V_z.next (Below.refl _ _).drew
    replace x_q := x_q.next (Below.refl _ _).drew
    replace x_r := x_r.next (Below.refl _ _).drew
    replace x_p := x_p.next (Below.refl _ _).drew
    replace x_s := x_s.next (Below.refl _ _).drew
    replace x_z := x_z.next (Below.refl _ _).drew
    replace h_a := h_a.below (Below.refl _ _).drew
    replace h_b := h_b.below (Below.refl _ _).drew
    replace hb := hb.drew
    go_region_held3 (fun w' => w'.cell? ⟨w.heap.size, 0, none⟩ = some (.bool s0) ∧ w'.cell? ⟨w.heap.size, 1, none⟩ = some (.slice a0 len0 cap0) ∧ w'.cell? ⟨w.heap.size + 1, 0, none⟩ = some (.bool s1) ∧ w'.cell? ⟨w.heap.size + 1, 1, none⟩ = some (.slice a1 len1 cap1) ∧ w'.cell? ⟨w1.heap.size, 0, none⟩ = some (.bool s_q) ∧ w'.cell? ⟨w1.heap.size, 1, none⟩ = some (.slice A_q n_q c_q) ∧ w'.cell? ⟨w1.heap.size + 1, 0, none⟩ = some (.bool s_r) ∧ w'.cell? ⟨w1.heap.size + 1, 1, none⟩ = some (.slice A_r n_r c_r) ∧ w'.cell? ⟨w2.heap.size, 0, none⟩ = some (.bool s_p) ∧ w'.cell? ⟨w2.heap.size, 1, none⟩ = some (.slice A_p n_p c_p) ∧ w'.cell? ⟨w2.heap.size + 1, 0, none⟩ = some (.bool s_s) ∧ w'.cell? ⟨w2.heap.size + 1, 1, none⟩ = some (.slice A_s n_s c_s) ∧ w'.cell? ⟨w3.heap.size, 0, none⟩ = some (.bool s_z) ∧ w'.cell? ⟨w3.heap.size, 1, none⟩ = some (.slice A_z n_z c_z))
      (exact ⟨V0.c0, V0.c1, V1.c0, V1.c1, V_q.c0, V_q.c1, V_r.c0, V_r.c1, V_p.c0, V_p.c1, V_s.c0, V_s.c1, V_z.c0, V_z.c1⟩)
      (first
      | (go_at_call 34; (fail_if_success (have hh := b5)); refine (wmul_num (x_q.wh 24 HL.out.1) h_b (by decide) (by decide)).mono ?_; rintro e w5 ⟨v_t, rfl, x_t, b5⟩; replace hb := bnext hb b5; replace V0 := V0.next b5; replace V1 := V1.next b5; replace V_q := V_q.next b5; replace V_r := V_r.next b5; replace V_p := V_p.next b5; replace V_s := V_s.next b5; replace V_z := V_z.next b5; replace x_q := x_q.next b5; replace x_r := x_r.next b5; replace x_p := x_p.next b5; replace x_s := x_s.next b5; replace x_z := x_z.next b5; replace h_a := h_a.below b5; replace h_b := h_b.below b5)
      | (go_at_call 30; (fail_if_success (have hh := b6)); refine (wadd_num (x_t.wh 49 HL.out.2.2.2.2.1) (x_r.wh 24 HL.out.2.2.1) (by decide) (by decide)).mono ?_; rintro e w6 ⟨v_u, rfl, x_u, b6⟩; replace hb := bnext hb b6; replace V0 := V0.next b6; replace V1 := V1.next b6; replace V_q := V_q.next b6; replace V_r := V_r.next b6; replace V_p := V_p.next b6; replace V_s := V_s.next b6; replace V_z := V_z.next b6; replace x_q := x_q.next b6; replace x_r := x_r.next b6; replace x_p := x_p.next b6; replace x_s := x_s.next b6; replace x_z := x_z.next b6; replace x_t := x_t.next b6; replace h_a := h_a.below b6; replace h_b := h_b.below b6; clear x_t; rw [HK.out.1] at x_u)
      | (go_at_call 38; (fail_if_success (have hh := b7)); refine (HCA.out _ _ _ (x_u.wh 24 HLa.out) h_a).mono ?_; rintro e w7 ⟨rfl, b7⟩; replace hb := bnext hb b7; replace V0 := V0.next b7; replace V1 := V1.next b7; replace V_q := V_q.next b7; replace V_r := V_r.next b7; replace V_p := V_p.next b7; replace V_s := V_s.next b7; replace V_z := V_z.next b7; replace x_q := x_q.next b7; replace x_r := x_r.next b7; replace x_p := x_p.next b7; replace x_s := x_s.next b7; replace x_z := x_z.next b7; replace x_u := x_u.next b7; replace h_a := h_a.below b7; replace h_b := h_b.below b7; clear x_u)
      | (go_at_call 34; (fail_if_success (have hh := b8)); refine (wmul_num (x_p.wh 25 HL.out.2.1) h_b (by decide) (by decide)).mono ?_; rintro e w8 ⟨v_t2, rfl, x_t2, b8⟩; replace hb := bnext hb b8; replace V0 := V0.next b8; replace V1 := V1.next b8; replace V_q := V_q.next b8; replace V_r := V_r.next b8; replace V_p := V_p.next b8; replace V_s := V_s.next b8; replace V_z := V_z.next b8; replace x_q := x_q.next b8; replace x_r := x_r.next b8; replace x_p := x_p.next b8; replace x_s := x_s.next b8; replace x_z := x_z.next b8; replace h_a := h_a.below b8; replace h_b := h_b.below b8)
      | (go_at_call 30; (fail_if_success (have hh := b9)); refine (wadd_num (x_t2.wh 49 HL.out.2.2.2.2.2.1) (x_s.wh 24 HL.out.2.2.2.1) (by decide) (by decide)).mono ?_; rintro e w9 ⟨v_u2, rfl, x_u2, b9⟩; replace hb := bnext hb b9; replace V0 := V0.next b9; replace V1 := V1.next b9; replace V_q := V_q.next b9; replace V_r := V_r.next b9; replace V_p := V_p.next b9; replace V_s := V_s.next b9; replace V_z := V_z.next b9; replace x_q := x_q.next b9; replace x_r := x_r.next b9; replace x_p := x_p.next b9; replace x_s := x_s.next b9; replace x_z := x_z.next b9; replace x_t2 := x_t2.next b9; replace h_a := h_a.below b9; replace h_b := h_b.below b9; clear x_t2; rw [HK.out.2] at x_u2)
      | (go_at_call 38; (fail_if_success (have hh := b10)); refine (HCA.out _ _ _ (x_u2.wh 24 HLa.out) h_a).mono ?_; rintro e w10 ⟨rfl, b10⟩; replace hb := bnext hb b10; replace V0 := V0.next b10; replace V1 := V1.next b10; replace V_q := V_q.next b10; replace V_r := V_r.next b10; replace V_p := V_p.next b10; replace V_s := V_s.next b10; replace V_z := V_z.next b10; replace x_q := x_q.next b10; replace x_r := x_r.next b10; replace x_p := x_p.next b10; replace x_s := x_s.next b10; replace x_z := x_z.next b10; replace x_u2 := x_u2.next b10; replace h_a := h_a.below b10; replace h_b := h_b.below b10; clear x_u2))
    clear HCA HLa HK
    clear V_q V_p x_q x_p
    have hway : cb < 0 ∨ ¬ cb < 0 := by omega
    rcases hway with hway | hway
    · have V00 := V0.c0
      have V01 := V0.c1
      have V10 := V1.c0
      have V11 := V1.c1
      have V_r0 := V_r.c0
      have V_r1 := V_r.c1
      have V_s0 := V_s.c0
      have V_s1 := V_s.c1
      have V_z0 := V_z.c0
      have V_z1 := V_z.c1
      have lt_V0 := V0.lt
      have lt_V1 := V1.lt
      have lt_V_r := V_r.lt
      have lt_V_s := V_s.lt
      have lt_V_z := V_z.lt
      have bl : Below w10.heap.size w10 (w10.alloc (.cells #[.bool s1, .slice a1 len1 cap1] 36)) := bnew (Below.refl _ _) _
      have V_n := Var.mk_ w10 (.bool s1) (.slice a1 len1 cap1)
      replace hb := bnext hb bl
      clear V00 V01 V10 V11 V_r0 V_r1 V_s0 V_s1 V_z0 V_z1
      replace V0 := V0.next bl
      replace V1 := V1.next bl
      replace V_r := V_r.next bl
      replace V_s := V_s.next bl
      replace V_z := V_z.next bl
      replace x_r := x_r.next bl
      replace x_s := x_s.next bl
      replace x_z := x_z.next bl
      replace h_a := h_a.below bl
      replace h_b := h_b.below bl
      have V00 := V0.c0
      have V01 := V0.c1
      have V10 := V1.c0
      have V11 := V1.c1
      have V_r0 := V_r.c0
      have V_r1 := V_r.c1
      have V_s0 := V_s.c0
      have V_s1 := V_s.c1
      have V_z0 := V_z.c0
      have V_z1 := V_z.c1
      clear bl
      clear V00 V01 V10 V11 V_r0 V_r1 V_s0 V_s1 V_z0 V_z1
      have V00 := V0.c0
      have V01 := V0.c1
      have V10 := V1.c0
      have V11 := V1.c1
      have V_r0 := V_r.c0
      have V_r1 := V_r.c1
      have V_s0 := V_s.c0
      have V_s1 := V_s.c1
      have V_z0 := V_z.c0
      have V_z1 := V_z.c1
      have V_n0 := V_n.c0
      have V_n1 := V_n.c1
      go_wp2_with fail
      refine (HCB.out _ _ _ h_b (x_z.wh 1 (by decide))).mono ?_
      rintro e w11 ⟨rfl, b11⟩
      replace hb := bnext hb b11
      clear V00 V01 V10 V11 V_r0 V_r1 V_s0 V_s1 V_z0 V_z1 V_n0 V_n1
      replace V0 := V0.next b11
      replace V1 := V1.next b11
      replace V_r := V_r.next b11
      replace V_s := V_s.next b11
      replace V_z := V_z.next b11
      replace V_n := V_n.next b11
      replace x_r := x_r.next b11
      replace x_s := x_s.next b11
      replace x_z := x_z.next b11
      replace h_a := h_a.below b11
      replace h_b := h_b.below b11
      have V00 := V0.c0
      have V01 := V0.c1
      have V10 := V1.c0
      have V11 := V1.c1
      have V_r0 := V_r.c0
      have V_r1 := V_r.c1
      have V_s0 := V_s.c0
      have V_s1 := V_s.c1
      have V_z0 := V_z.c0
      have V_z1 := V_z.c1
      have V_n0 := V_n.c0
      have V_n1 := V_n.c1
      clear b11
      go_wp2_with fail
      refine (wneg_num h_b (by decide)).mono ?_
      rintro e w12 ⟨v_m, rfl, x_m, b12⟩
      replace hb := bnext hb b12
      clear V00 V01 V10 V11 V_r0 V_r1 V_s0 V_s1 V_z0 V_z1 V_n0 V_n1
      replace V0 := V0.next b12
      replace V1 := V1.next b12
      replace V_r := V_r.next b12
      replace V_s := V_s.next b12
      replace V_z := V_z.next b12
      replace V_n := V_n.next b12
      replace x_r := x_r.next b12
      replace x_s := x_s.next b12
      replace x_z := x_z.next b12
      replace h_a := h_a.below b12
      replace h_b := h_b.below b12
      have V00 := V0.c0
      have V01 := V0.c1
      have V10 := V1.c0
      have V11 := V1.c1
      have V_r0 := V_r.c0
      have V_r1 := V_r.c1
      have V_s0 := V_s.c0
      have V_s1 := V_s.c1
      have V_z0 := V_z.c0
      have V_z1 := V_z.c1
      have V_n0 := V_n.c0
      have V_n1 := V_n.c1
      clear b12
      obtain ⟨s_m, A_m, n_m, c_m, rfl, g_m⟩ := x_m.opened
      obtain ⟨q1, q2, q3, q4, q5, q6⟩ := V_n.room (.bool s_m)
      go_wp2_with fail
      clear q1 q2 q3 q4 q5 q6 g_m
      clear V00 V01 V10 V11 V_r0 V_r1 V_s0 V_s1 V_z0 V_z1 V_n0 V_n1
      replace x_r := WNew.farSet (V_n.set0 (.bool s_m)) (WNew.farSet V_n x_r 0 (.bool s_m)) 1 (.slice A_m n_m c_m)
      replace x_s := WNew.farSet (V_n.set0 (.bool s_m)) (WNew.farSet V_n x_s 0 (.bool s_m)) 1 (.slice A_m n_m c_m)
      replace x_z := WNew.farSet (V_n.set0 (.bool s_m)) (WNew.farSet V_n x_z 0 (.bool s_m)) 1 (.slice A_m n_m c_m)
      replace x_m := WNew.farSet (V_n.set0 (.bool s_m)) (WNew.farSet V_n x_m 0 (.bool s_m)) 1 (.slice A_m n_m c_m)
      replace V0 := (V0.far (p := ⟨w10.heap.size, 0, none⟩) (by dsimp only; omega) (.bool s_m)).far (p := ⟨w10.heap.size, 1, none⟩) (by dsimp only; omega) (.slice A_m n_m c_m)
      replace V1 := (V1.far (p := ⟨w10.heap.size, 0, none⟩) (by dsimp only; omega) (.bool s_m)).far (p := ⟨w10.heap.size, 1, none⟩) (by dsimp only; omega) (.slice A_m n_m c_m)
      replace V_r := (V_r.far (p := ⟨w10.heap.size, 0, none⟩) (by dsimp only; omega) (.bool s_m)).far (p := ⟨w10.heap.size, 1, none⟩) (by dsimp only; omega) (.slice A_m n_m c_m)
      replace V_s := (V_s.far (p := ⟨w10.heap.size, 0, none⟩) (by dsimp only; omega) (.bool s_m)).far (p := ⟨w10.heap.size, 1, none⟩) (by dsimp only; omega) (.slice A_m n_m c_m)
      replace V_z := (V_z.far (p := ⟨w10.heap.size, 0, none⟩) (by dsimp only; omega) (.bool s_m)).far (p := ⟨w10.heap.size, 1, none⟩) (by dsimp only; omega) (.slice A_m n_m c_m)
      replace V_n := (V_n.set0 (.bool s_m)).set1 (.slice A_m n_m c_m)
      replace hb := (hb.setCell (p := ⟨w10.heap.size, 0, none⟩) (by dsimp only; omega) (.bool s_m)).setCell (p := ⟨w10.heap.size, 1, none⟩) (by dsimp only; omega) (.slice A_m n_m c_m)
      replace h_a := Hh_a.out.below hb
      replace h_b := Hh_b.out.below hb
      have V00 := V0.c0
      have V01 := V0.c1
      have V10 := V1.c0
      have V11 := V1.c1
      have V_r0 := V_r.c0
      have V_r1 := V_r.c1
      have V_s0 := V_s.c0
      have V_s1 := V_s.c1
      have V_z0 := V_z.c0
      have V_z1 := V_z.c1
      have V_n0 := V_n.c0
      have V_n1 := V_n.c1
      go_wp2_with fail
      refine (wneg_num (x_m.wh 24 (lt_negZ HLb.out)) (by decide)).mono ?_
      rintro e w13 ⟨v_l, rfl, x_l, b13⟩
      replace hb := bnext hb b13
      clear V00 V01 V10 V11 V_r0 V_r1 V_s0 V_s1 V_z0 V_z1 V_n0 V_n1
      replace V0 := V0.next b13
      replace V1 := V1.next b13
      replace V_r := V_r.next b13
      replace V_s := V_s.next b13
      replace V_z := V_z.next b13
      replace V_n := V_n.next b13
      replace x_r := x_r.next b13
      replace x_s := x_s.next b13
      replace x_z := x_z.next b13
      replace x_m := x_m.next b13
      replace h_a := h_a.below b13
      replace h_b := h_b.below b13
      have V00 := V0.c0
      have V01 := V0.c1
      have V10 := V1.c0
      have V11 := V1.c1
      have V_r0 := V_r.c0
      have V_r1 := V_r.c1
      have V_s0 := V_s.c0
      have V_s1 := V_s.c1
      have V_z0 := V_z.c0
      have V_z1 := V_z.c1
      have V_n0 := V_n.c0
      have V_n1 := V_n.c1
      clear b13
      have hsg : (B.natAbs : Int) = -B := by have := (cmpZ_lt B 0).1 (by rw [HCb.out]; exact hway); omega
      obtain ⟨s_l, A_l, n_l, c_l, rfl, g_l⟩ := x_l.opened
      have bl : Below w13.heap.size w13 (w13.alloc (.cells #[.bool s_l, .slice A_l n_l c_l] 36)) := (bnew (Below.refl _ _) _)
      have V_l := Var.mk_ w13 (.bool s_l) (.slice A_l n_l c_l)
      replace hb := bnext hb bl
      clear V00 V01 V10 V11 V_r0 V_r1 V_s0 V_s1 V_z0 V_z1 V_n0 V_n1
      replace V0 := V0.next bl
      replace V1 := V1.next bl
      replace V_r := V_r.next bl
      replace V_s := V_s.next bl
      replace V_z := V_z.next bl
      replace V_n := V_n.next bl
      replace x_r := x_r.next bl
      replace x_s := x_s.next bl
      replace x_z := x_z.next bl
      replace x_m := x_m.next bl
      replace x_l := x_l.next bl
      replace h_a := h_a.below bl
      replace h_b := h_b.below bl
      have V00 := V0.c0
      have V01 := V0.c1
      have V10 := V1.c0
      have V11 := V1.c1
      have V_r0 := V_r.c0
      have V_r1 := V_r.c1
      have V_s0 := V_s.c0
      have V_s1 := V_s.c1
      have V_z0 := V_z.c0
      have V_z1 := V_z.c1
      have V_n0 := V_n.c0
      have V_n1 := V_n.c1
      clear bl
      clear g_l
      clear V00 V01 V10 V11 V_r0 V_r1 V_s0 V_s1 V_z0 V_z1 V_n0 V_n1
      have V00 := V0.c0
      have V01 := V0.c1
      have V10 := V1.c0
      have V11 := V1.c1
      have V_r0 := V_r.c0
      have V_r1 := V_r.c1
      have V_s0 := V_s.c0
      have V_s1 := V_s.c1
      have V_z0 := V_z.c0
      have V_z1 := V_z.c1
      have V_n0 := V_n.c0
      have V_n1 := V_n.c1
      have V_l0 := V_l.c0
      have V_l1 := V_l.c1
      have C1 := fun (W : World) (u v : Value) (hu : Wh W u R 24) (hv : Wh W v (-B) 24) => wcmp_num hu hv (by decide) (by decide)
      have C2 := fun (W : World) (u v : Value) (hu : Wh W u R 24) (hv : Wh W v (-(-B)) 24) => wcmp_num hu hv (by decide) (by decide)
      have C3 := fun (W : World) (u v : Value) (hu : Wh W u S 24) (hv : Wh W v (-B) 24) => wcmp_num hu hv (by decide) (by decide)
      have C4 := fun (W : World) (u v : Value) (hu : Wh W u S 24) (hv : Wh W v (-(-B)) 24) => wcmp_num hu hv (by decide) (by decide)
      have m1 := HM.out.1
      have m2 := HM.out.2.1
      rw [hsg] at m1 m2
      rw [show cmpZ R (-B) = -1 by unfold cmpZ; rw [if_pos m1.1]] at C1
      rw [show cmpZ R (-(-B)) = 1 by unfold cmpZ; rw [if_neg (by omega), if_pos m1.2]] at C2
      rw [show cmpZ S (-B) = -1 by unfold cmpZ; rw [if_pos m2.1]] at C3
      rw [show cmpZ S (-(-B)) = 1 by unfold cmpZ; rw [if_neg (by omega), if_pos m2.2]] at C4
      have HCC := Lib.hid (And.intro C1 (And.intro C2 (And.intro C3 C4)))
      clear C1 C2 C3 C4 m1 m2 hsg
      go_wp2_with fail
      refine (HCC.out.1 _ _ _ (x_r.wh 24 HL.out.2.2.1) (x_m.wh 24 (lt_negZ HLb.out))).mono ?_
      rintro e w14 ⟨rfl, b14⟩
      replace hb := bnext hb b14
      clear V00 V01 V10 V11 V_r0 V_r1 V_s0 V_s1 V_z0 V_z1 V_n0 V_n1 V_l0 V_l1
      replace V0 := V0.next b14
      replace V1 := V1.next b14
      replace V_r := V_r.next b14
      replace V_s := V_s.next b14
      replace V_z := V_z.next b14
      replace V_n := V_n.next b14
      replace V_l := V_l.next b14
      replace x_r := x_r.next b14
      replace x_s := x_s.next b14
      replace x_z := x_z.next b14
      replace x_m := x_m.next b14
      replace x_l := x_l.next b14
      replace h_a := h_a.below b14
      replace h_b := h_b.below b14
      have V00 := V0.c0
      have V01 := V0.c1
      have V10 := V1.c0
      have V11 := V1.c1
      have V_r0 := V_r.c0
      have V_r1 := V_r.c1
      have V_s0 := V_s.c0
      have V_s1 := V_s.c1
      have V_z0 := V_z.c0
      have V_z1 := V_z.c1
      have V_n0 := V_n.c0
      have V_n1 := V_n.c1
      have V_l0 := V_l.c0
      have V_l1 := V_l.c1
      clear b14
      go_wp2_with fail
      refine (HCC.out.2.1 _ _ _ (x_r.wh 24 HL.out.2.2.1) (x_l.wh 24 (lt_negZ (lt_negZ HLb.out)))).mono ?_
      rintro e w15 ⟨rfl, b15⟩
      replace hb := bnext hb b15
      clear V00 V01 V10 V11 V_r0 V_r1 V_s0 V_s1 V_z0 V_z1 V_n0 V_n1 V_l0 V_l1
      replace V0 := V0.next b15
      replace V1 := V1.next b15
      replace V_r := V_r.next b15
      replace V_s := V_s.next b15
      replace V_z := V_z.next b15
      replace V_n := V_n.next b15
      replace V_l := V_l.next b15
      replace x_r := x_r.next b15
      replace x_s := x_s.next b15
      replace x_z := x_z.next b15
      replace x_m := x_m.next b15
      replace x_l := x_l.next b15
      replace h_a := h_a.below b15
      replace h_b := h_b.below b15
      have V00 := V0.c0
      have V01 := V0.c1
      have V10 := V1.c0
      have V11 := V1.c1
      have V_r0 := V_r.c0
      have V_r1 := V_r.c1
      have V_s0 := V_s.c0
      have V_s1 := V_s.c1
      have V_z0 := V_z.c0
      have V_z1 := V_z.c1
      have V_n0 := V_n.c0
      have V_n1 := V_n.c1
      have V_l0 := V_l.c0
      have V_l1 := V_l.c1
      clear b15
      go_wp2_with fail
      refine (HCC.out.2.2.1 _ _ _ (x_s.wh 24 HL.out.2.2.2.1) (x_m.wh 24 (lt_negZ HLb.out))).mono ?_
      rintro e w16 ⟨rfl, b16⟩
      replace hb := bnext hb b16
      clear V00 V01 V10 V11 V_r0 V_r1 V_s0 V_s1 V_z0 V_z1 V_n0 V_n1 V_l0 V_l1
      replace V0 := V0.next b16
      replace V1 := V1.next b16
      replace V_r := V_r.next b16
      replace V_s := V_s.next b16
      replace V_z := V_z.next b16
      replace V_n := V_n.next b16
      replace V_l := V_l.next b16
      replace x_r := x_r.next b16
      replace x_s := x_s.next b16
      replace x_z := x_z.next b16
      replace x_m := x_m.next b16
      replace x_l := x_l.next b16
      replace h_a := h_a.below b16
      replace h_b := h_b.below b16
      have V00 := V0.c0
      have V01 := V0.c1
      have V10 := V1.c0
      have V11 := V1.c1
      have V_r0 := V_r.c0
      have V_r1 := V_r.c1
      have V_s0 := V_s.c0
      have V_s1 := V_s.c1
      have V_z0 := V_z.c0
      have V_z1 := V_z.c1
      have V_n0 := V_n.c0
      have V_n1 := V_n.c1
      have V_l0 := V_l.c0
      have V_l1 := V_l.c1
      clear b16
      go_wp2_with fail
      refine (HCC.out.2.2.2 _ _ _ (x_s.wh 24 HL.out.2.2.2.1) (x_l.wh 24 (lt_negZ (lt_negZ HLb.out)))).mono ?_
      rintro e w17 ⟨rfl, b17⟩
      replace hb := bnext hb b17
      clear V00 V01 V10 V11 V_r0 V_r1 V_s0 V_s1 V_z0 V_z1 V_n0 V_n1 V_l0 V_l1
      replace V0 := V0.next b17
      replace V1 := V1.next b17
      replace V_r := V_r.next b17
      replace V_s := V_s.next b17
      replace V_z := V_z.next b17
      replace V_n := V_n.next b17
      replace V_l := V_l.next b17
      replace x_r := x_r.next b17
      replace x_s := x_s.next b17
      replace x_z := x_z.next b17
      replace x_m := x_m.next b17
      replace x_l := x_l.next b17
      replace h_a := h_a.below b17
      replace h_b := h_b.below b17
      have V00 := V0.c0
      have V01 := V0.c1
      have V10 := V1.c0
      have V11 := V1.c1
      have V_r0 := V_r.c0
      have V_r1 := V_r.c1
      have V_s0 := V_s.c0
      have V_s1 := V_s.c1
      have V_z0 := V_z.c0
      have V_z1 := V_z.c1
      have V_n0 := V_n.c0
      have V_n1 := V_n.c1
      have V_l0 := V_l.c0
      have V_l1 := V_l.c1
      clear b17
      clear HCC hway
      clear V_n0 V_n1
      clear V_l0 V_l1
      clear V_n V_l x_l x_m
      by_cases hR : R = 0
      · by_cases hS : S = 0
        · have HR0 := Lib.hid (fun (W : World) (u v : Value) (hu : Wh W u R 24) (hv : Wh W v 0 1) => wcmp_num hu hv (by decide) (by decide))
          have HS0 := Lib.hid (fun (W : World) (u v : Value) (hu : Wh W u S 24) (hv : Wh W v 0 1) => wcmp_num hu hv (by decide) (by decide))
          have HA0 := Lib.hid (fun (W : World) (u v : Value) (hu : Wh W u A 24) (hv : Wh W v 0 1) => wcmp_num hu hv (by decide) (by decide))
          rw [(cmpZ_zero R 0).2 hR] at HR0
          rw [(cmpZ_zero S 0).2 hS] at HS0
          clear hR hS HM
          go_wp2_with fail
          clear V00 V01 V10 V11 V_r0 V_r1 V_s0 V_s1 V_z0 V_z1
          replace V0 := V0.next (Below.refl _ _).drew
          replace V1 := V1.next (Below.refl _ _).drew
          replace V_r := V_r.next (Below.refl _ _).drew
          replace V_s := V_s.next (Below.refl _ _).drew
          replace V_z := V_z.next (Below.refl _ _).drew
          replace x_r := x_r.next (Below.refl _ _).drew
          replace x_s := x_s.next (Below.refl _ _).drew
          replace x_z := x_z.next (Below.refl _ _).drew
          replace h_a := h_a.below (Below.refl _ _).drew
          replace h_b := h_b.below (Below.refl _ _).drew
          replace hb := hb.drew
          refine wp_region_noPanic ?_
          refine wp_region_held_drew (S := fun w' => w'.cell? ⟨w.heap.size, 0, none⟩ = some (.bool s0) ∧ w'.cell? ⟨w.heap.size, 1, none⟩ = some (.slice a0 len0 cap0) ∧ w'.cell? ⟨w.heap.size + 1, 0, none⟩ = some (.bool s1) ∧ w'.cell? ⟨w.heap.size + 1, 1, none⟩ = some (.slice a1 len1 cap1) ∧ w'.cell? ⟨w1.heap.size + 1, 0, none⟩ = some (.bool s_r) ∧ w'.cell? ⟨w1.heap.size + 1, 1, none⟩ = some (.slice A_r n_r c_r) ∧ w'.cell? ⟨w2.heap.size + 1, 0, none⟩ = some (.bool s_s) ∧ w'.cell? ⟨w2.heap.size + 1, 1, none⟩ = some (.slice A_s n_s c_s) ∧ w'.cell? ⟨w3.heap.size, 0, none⟩ = some (.bool s_z) ∧ w'.cell? ⟨w3.heap.size, 1, none⟩ = some (.slice A_z n_z c_z)) (by kernel_rfl) ?_ (fun hHeld => ?_)
          · exact ⟨V0.c0, V0.c1, V1.c0, V1.c1, V_r.c0, V_r.c1, V_s.c0, V_s.c1, V_z.c0, V_z.c1⟩
          refine wpAnyH_take (i := 0) (oi := { dst := some 105, op := Op.load 36 (Operand.tmp 6), type := 36, pos := "law.go:87", after := #[], guard := none }) (v := ?_) rfl (by kernel_rfl) (by kernel_rfl) (by kernel_rfl) (fun _ _ _ h => h) (Or.inl ⟨by rfl, ?_⟩) hHeld ?_
          rotate_left
          · intro w hSw
            try dsimp only at hSw
            go_simp
            try with_reducible rfl
          try simp only [Act.put, List.setIfInBounds_toArray, List.set_cons_zero, List.set_cons_succ]
          refine wpAnyH_take (i := 1) (oi := { dst := some 106, op := Op.load 36 (Operand.tmp 11), type := 36, pos := "law.go:87", after := #[], guard := none }) (v := ?_) rfl (by kernel_rfl) (by kernel_rfl) (by kernel_rfl) (fun _ _ _ h => h) (Or.inl ⟨by rfl, ?_⟩) hHeld ?_
          rotate_left
          · intro w hSw
            try dsimp only at hSw
            go_simp
            try with_reducible rfl
          try simp only [Act.put, List.setIfInBounds_toArray, List.set_cons_zero, List.set_cons_succ]
          refine wpAnyH_ready (rs := [2]) (by kernel_rfl) (by simp) ?_
          refine AllReadyH.cons (o := { dst := some 107, op := Op.call { callee := Callee.value (Operand.func 38), args := #[Operand.tmp 105, Operand.tmp 106], argTypes := #[36, 36] }, type := 3, pos := "law.go:87", after := #[{ on := 0, ground := Ground.data }, { on := 1, ground := Ground.data }], guard := none }) rfl (fun K hK => ?_) AllReadyH.nil
          go_simp
          go_at_call 38
          refine (HR0.out _ _ _ (x_r.wh 24 HL.out.2.2.1) (x_z.wh 1 (by decide))).mono ?_
          rintro e w18 ⟨rfl, b18⟩
          replace hb := bnext hb b18
          replace V0 := V0.next b18
          replace V1 := V1.next b18
          replace V_r := V_r.next b18
          replace V_s := V_s.next b18
          replace V_z := V_z.next b18
          replace x_r := x_r.next b18
          replace x_s := x_s.next b18
          replace x_z := x_z.next b18
          replace h_a := h_a.below b18
          replace h_b := h_b.below b18
          clear hHeld
          refine hK.out _ _ ?_ (fun hHeld => ?_)
          · exact ⟨V0.c0, V0.c1, V1.c0, V1.c1, V_r.c0, V_r.c1, V_s.c0, V_s.c1, V_z.c0, V_z.c1⟩
          clear hK K
          try simp only [Act.put, List.setIfInBounds_toArray, List.set_cons_zero, List.set_cons_succ]
          refine wpAnyH_take (i := 3) (oi := { dst := some 108, op := Op.binOp BinOp.eql 3 (Operand.tmp 107) (Operand.const (Value.int IntKind.i64 0)) 3, type := 4, pos := "law.go:87", after := #[{ on := 2, ground := Ground.data }], guard := none }) (v := ?_) rfl (by kernel_rfl) (by kernel_rfl) (by kernel_rfl) (fun _ _ _ h => h) (Or.inl ⟨by rfl, ?_⟩) hHeld ?_
          rotate_left
          · intro w hSw
            try dsimp only at hSw
            go_simp
            try with_reducible rfl
          try simp only [Act.put, List.setIfInBounds_toArray, List.set_cons_zero, List.set_cons_succ]
          refine wpAnyH_take (i := 4) (oi := { dst := some 109, op := Op.move (Operand.tmp 108), type := 4, pos := "law.go:87", after := #[{ on := 3, ground := Ground.data }, { on := 2, ground := Ground.chain }], guard := none }) (v := ?_) rfl (by kernel_rfl) (by kernel_rfl) (by kernel_rfl) (fun _ _ _ h => h) (Or.inl ⟨by rfl, ?_⟩) hHeld ?_
          rotate_left
          · intro w hSw
            try dsimp only at hSw
            go_simp
            try with_reducible rfl
          try simp only [Act.put, List.setIfInBounds_toArray, List.set_cons_zero, List.set_cons_succ]
          refine wpAnyH_take (i := 5) (oi := { dst := some 110, op := Op.load 36 (Operand.tmp 6), type := 36, pos := "law.go:87", after := #[{ on := 4, ground := Ground.guard }], guard := some (4, false) }) (v := undef) rfl (by kernel_rfl) (by kernel_rfl) (by kernel_rfl) (fun _ _ _ h => h) (Or.inr ⟨by rfl, rfl⟩) hHeld ?_
          try simp only [Act.put, List.setIfInBounds_toArray, List.set_cons_zero, List.set_cons_succ]
          refine wpAnyH_take (i := 6) (oi := { dst := some 111, op := Op.load 36 (Operand.tmp 11), type := 36, pos := "law.go:87", after := #[{ on := 4, ground := Ground.guard }], guard := some (4, false) }) (v := undef) rfl (by kernel_rfl) (by kernel_rfl) (by kernel_rfl) (fun _ _ _ h => h) (Or.inr ⟨by rfl, rfl⟩) hHeld ?_
          try simp only [Act.put, List.setIfInBounds_toArray, List.set_cons_zero, List.set_cons_succ]
          refine wpAnyH_take (i := 8) (oi := { dst := some 113, op := Op.load 36 (Operand.tmp 2), type := 36, pos := "law.go:87", after := #[{ on := 4, ground := Ground.guard }], guard := some (4, false) }) (v := undef) rfl (by kernel_rfl) (by kernel_rfl) (by kernel_rfl) (fun _ _ _ h => h) (Or.inr ⟨by rfl, rfl⟩) hHeld ?_
          try simp only [Act.put, List.setIfInBounds_toArray, List.set_cons_zero, List.set_cons_succ]
          refine wpAnyH_take (i := 9) (oi := { dst := some 114, op := Op.load 36 (Operand.tmp 11), type := 36, pos := "law.go:87", after := #[{ on := 4, ground := Ground.guard }], guard := some (4, false) }) (v := undef) rfl (by kernel_rfl) (by kernel_rfl) (by kernel_rfl) (fun _ _ _ h => h) (Or.inr ⟨by rfl, rfl⟩) hHeld ?_
          try simp only [Act.put, List.setIfInBounds_toArray, List.set_cons_zero, List.set_cons_succ]
          refine wpAnyH_ready (rs := [7]) (by kernel_rfl) (by simp) ?_
          refine AllReadyH.cons (o := { dst := some 112, op := Op.call { callee := Callee.value (Operand.func 38), args := #[Operand.tmp 110, Operand.tmp 111], argTypes := #[36, 36] }, type := 3, pos := "law.go:87", after := #[{ on := 5, ground := Ground.data }, { on := 6, ground := Ground.data }, { on := 4, ground := Ground.chain }, { on := 4, ground := Ground.guard }], guard := some (4, false) }) rfl (fun K hK => ?_) AllReadyH.nil
          go_simp
          clear hHeld
          refine hK.out _ _ ?_ (fun hHeld => ?_)
          · exact ⟨V0.c0, V0.c1, V1.c0, V1.c1, V_r.c0, V_r.c1, V_s.c0, V_s.c1, V_z.c0, V_z.c1⟩
          clear hK K
          try simp only [Act.put, List.setIfInBounds_toArray, List.set_cons_zero, List.set_cons_succ]
          refine wpAnyH_ready (rs := [10]) (by kernel_rfl) (by simp) ?_
          refine AllReadyH.cons (o := { dst := some 115, op := Op.call { callee := Callee.value (Operand.func 38), args := #[Operand.tmp 113, Operand.tmp 114], argTypes := #[36, 36] }, type := 3, pos := "law.go:87", after := #[{ on := 8, ground := Ground.data }, { on := 9, ground := Ground.data }, { on := 7, ground := Ground.chain }, { on := 4, ground := Ground.guard }], guard := some (4, false) }) rfl (fun K hK => ?_) AllReadyH.nil
          go_simp
          clear hHeld
          refine hK.out _ _ ?_ (fun hHeld => ?_)
          · exact ⟨V0.c0, V0.c1, V1.c0, V1.c1, V_r.c0, V_r.c1, V_s.c0, V_s.c1, V_z.c0, V_z.c1⟩
          clear hK K
          try simp only [Act.put, List.setIfInBounds_toArray, List.set_cons_zero, List.set_cons_succ]
          refine wpAnyH_take (i := 11) (oi := { dst := some 116, op := Op.binOp BinOp.eql 3 (Operand.tmp 112) (Operand.tmp 115) 3, type := 4, pos := "law.go:87", after := #[{ on := 7, ground := Ground.data }, { on := 10, ground := Ground.data }, { on := 4, ground := Ground.guard }], guard := some (4, false) }) (v := undef) rfl (by kernel_rfl) (by kernel_rfl) (by kernel_rfl) (fun _ _ _ h => h) (Or.inr ⟨by rfl, rfl⟩) hHeld ?_
          try simp only [Act.put, List.setIfInBounds_toArray, List.set_cons_zero, List.set_cons_succ]
          refine wpAnyH_take (i := 12) (oi := { dst := some 117, op := Op.pick (Operand.tmp 109) (Operand.const (Value.bool true)) (Operand.tmp 116), type := 4, pos := "law.go:87", after := #[{ on := 4, ground := Ground.data }, { on := 11, ground := Ground.data }], guard := none }) (v := ?_) rfl (by kernel_rfl) (by kernel_rfl) (by kernel_rfl) (fun _ _ _ h => h) (Or.inl ⟨by rfl, ?_⟩) hHeld ?_
          rotate_left
          · intro w hSw
            try dsimp only at hSw
            go_simp
            try with_reducible rfl
          try simp only [Act.put, List.setIfInBounds_toArray, List.set_cons_zero, List.set_cons_succ]
          refine wpAnyH_take (i := 13) (oi := { dst := some 118, op := Op.move (Operand.tmp 117), type := 4, pos := "law.go:87", after := #[{ on := 12, ground := Ground.data }, { on := 10, ground := Ground.chain }], guard := none }) (v := ?_) rfl (by kernel_rfl) (by kernel_rfl) (by kernel_rfl) (fun _ _ _ h => h) (Or.inl ⟨by rfl, ?_⟩) hHeld ?_
          rotate_left
          · intro w hSw
            try dsimp only at hSw
            go_simp
            try with_reducible rfl
          try simp only [Act.put, List.setIfInBounds_toArray, List.set_cons_zero, List.set_cons_succ]
          refine wpAnyH_take (i := 14) (oi := { dst := some 119, op := Op.load 36 (Operand.tmp 9), type := 36, pos := "law.go:87", after := #[{ on := 13, ground := Ground.guard }], guard := some (13, true) }) (v := ?_) rfl (by kernel_rfl) (by kernel_rfl) (by kernel_rfl) (fun _ _ _ h => h) (Or.inl ⟨by rfl, ?_⟩) hHeld ?_
          rotate_left
          · intro w hSw
            try dsimp only at hSw
            go_simp
            try with_reducible rfl
          try simp only [Act.put, List.setIfInBounds_toArray, List.set_cons_zero, List.set_cons_succ]
          refine wpAnyH_take (i := 15) (oi := { dst := some 120, op := Op.load 36 (Operand.tmp 11), type := 36, pos := "law.go:87", after := #[{ on := 13, ground := Ground.guard }], guard := some (13, true) }) (v := ?_) rfl (by kernel_rfl) (by kernel_rfl) (by kernel_rfl) (fun _ _ _ h => h) (Or.inl ⟨by rfl, ?_⟩) hHeld ?_
          rotate_left
          · intro w hSw
            try dsimp only at hSw
            go_simp
            try with_reducible rfl
          try simp only [Act.put, List.setIfInBounds_toArray, List.set_cons_zero, List.set_cons_succ]
          refine wpAnyH_ready (rs := [16]) (by kernel_rfl) (by simp) ?_
          refine AllReadyH.cons (o := { dst := some 121, op := Op.call { callee := Callee.value (Operand.func 38), args := #[Operand.tmp 119, Operand.tmp 120], argTypes := #[36, 36] }, type := 3, pos := "law.go:87", after := #[{ on := 14, ground := Ground.data }, { on := 15, ground := Ground.data }, { on := 13, ground := Ground.chain }, { on := 13, ground := Ground.guard }], guard := some (13, true) }) rfl (fun K hK => ?_) AllReadyH.nil
          go_simp
          go_at_call 38
          refine (HS0.out _ _ _ (x_s.wh 24 HL.out.2.2.2.1) (x_z.wh 1 (by decide))).mono ?_
          rintro e w19 ⟨rfl, b19⟩
          replace hb := bnext hb b19
          replace V0 := V0.next b19
          replace V1 := V1.next b19
          replace V_r := V_r.next b19
          replace V_s := V_s.next b19
          replace V_z := V_z.next b19
          replace x_r := x_r.next b19
          replace x_s := x_s.next b19
          replace x_z := x_z.next b19
          replace h_a := h_a.below b19
          replace h_b := h_b.below b19
          clear hHeld
          refine hK.out _ _ ?_ (fun hHeld => ?_)
          · exact ⟨V0.c0, V0.c1, V1.c0, V1.c1, V_r.c0, V_r.c1, V_s.c0, V_s.c1, V_z.c0, V_z.c1⟩
          clear hK K
          try simp only [Act.put, List.setIfInBounds_toArray, List.set_cons_zero, List.set_cons_succ]
          refine wpAnyH_take (i := 17) (oi := { dst := some 122, op := Op.binOp BinOp.eql 3 (Operand.tmp 121) (Operand.const (Value.int IntKind.i64 0)) 3, type := 4, pos := "law.go:87", after := #[{ on := 16, ground := Ground.data }, { on := 13, ground := Ground.guard }], guard := some (13, true) }) (v := ?_) rfl (by kernel_rfl) (by kernel_rfl) (by kernel_rfl) (fun _ _ _ h => h) (Or.inl ⟨by rfl, ?_⟩) hHeld ?_
          rotate_left
          · intro w hSw
            try dsimp only at hSw
            go_simp
            try with_reducible rfl
          try simp only [Act.put, List.setIfInBounds_toArray, List.set_cons_zero, List.set_cons_succ]
          refine wpAnyH_take (i := 18) (oi := { dst := some 123, op := Op.move (Operand.tmp 122), type := 4, pos := "law.go:87", after := #[{ on := 17, ground := Ground.data }, { on := 16, ground := Ground.chain }, { on := 13, ground := Ground.guard }], guard := some (13, true) }) (v := ?_) rfl (by kernel_rfl) (by kernel_rfl) (by kernel_rfl) (fun _ _ _ h => h) (Or.inl ⟨by rfl, ?_⟩) hHeld ?_
          rotate_left
          · intro w hSw
            try dsimp only at hSw
            go_simp
            try with_reducible rfl
          try simp only [Act.put, List.setIfInBounds_toArray, List.set_cons_zero, List.set_cons_succ]
          refine wpAnyH_take (i := 19) (oi := { dst := some 124, op := Op.load 36 (Operand.tmp 9), type := 36, pos := "law.go:87", after := #[{ on := 18, ground := Ground.guard }], guard := some (18, false) }) (v := undef) rfl (by kernel_rfl) (by kernel_rfl) (by kernel_rfl) (fun _ _ _ h => h) (Or.inr ⟨by rfl, rfl⟩) hHeld ?_
          try simp only [Act.put, List.setIfInBounds_toArray, List.set_cons_zero, List.set_cons_succ]
          refine wpAnyH_take (i := 20) (oi := { dst := some 125, op := Op.load 36 (Operand.tmp 11), type := 36, pos := "law.go:87", after := #[{ on := 18, ground := Ground.guard }], guard := some (18, false) }) (v := undef) rfl (by kernel_rfl) (by kernel_rfl) (by kernel_rfl) (fun _ _ _ h => h) (Or.inr ⟨by rfl, rfl⟩) hHeld ?_
          try simp only [Act.put, List.setIfInBounds_toArray, List.set_cons_zero, List.set_cons_succ]
          refine wpAnyH_take (i := 22) (oi := { dst := some 127, op := Op.load 36 (Operand.tmp 3), type := 36, pos := "law.go:87", after := #[{ on := 18, ground := Ground.guard }], guard := some (18, false) }) (v := undef) rfl (by kernel_rfl) (by kernel_rfl) (by kernel_rfl) (fun _ _ _ h => h) (Or.inr ⟨by rfl, rfl⟩) hHeld ?_
          try simp only [Act.put, List.setIfInBounds_toArray, List.set_cons_zero, List.set_cons_succ]
          refine wpAnyH_take (i := 23) (oi := { dst := some 128, op := Op.load 36 (Operand.tmp 11), type := 36, pos := "law.go:87", after := #[{ on := 18, ground := Ground.guard }], guard := some (18, false) }) (v := undef) rfl (by kernel_rfl) (by kernel_rfl) (by kernel_rfl) (fun _ _ _ h => h) (Or.inr ⟨by rfl, rfl⟩) hHeld ?_
          try simp only [Act.put, List.setIfInBounds_toArray, List.set_cons_zero, List.set_cons_succ]
          refine wpAnyH_ready (rs := [21]) (by kernel_rfl) (by simp) ?_
          refine AllReadyH.cons (o := { dst := some 126, op := Op.call { callee := Callee.value (Operand.func 38), args := #[Operand.tmp 124, Operand.tmp 125], argTypes := #[36, 36] }, type := 3, pos := "law.go:87", after := #[{ on := 19, ground := Ground.data }, { on := 20, ground := Ground.data }, { on := 18, ground := Ground.chain }, { on := 18, ground := Ground.guard }], guard := some (18, false) }) rfl (fun K hK => ?_) AllReadyH.nil
          go_simp
          clear hHeld
          refine hK.out _ _ ?_ (fun hHeld => ?_)
          · exact ⟨V0.c0, V0.c1, V1.c0, V1.c1, V_r.c0, V_r.c1, V_s.c0, V_s.c1, V_z.c0, V_z.c1⟩
          clear hK K
          try simp only [Act.put, List.setIfInBounds_toArray, List.set_cons_zero, List.set_cons_succ]
          refine wpAnyH_ready (rs := [24]) (by kernel_rfl) (by simp) ?_
          refine AllReadyH.cons (o := { dst := some 129, op := Op.call { callee := Callee.value (Operand.func 38), args := #[Operand.tmp 127, Operand.tmp 128], argTypes := #[36, 36] }, type := 3, pos := "law.go:87", after := #[{ on := 22, ground := Ground.data }, { on := 23, ground := Ground.data }, { on := 21, ground := Ground.chain }, { on := 18, ground := Ground.guard }], guard := some (18, false) }) rfl (fun K hK => ?_) AllReadyH.nil
          go_simp
          clear hHeld
          refine hK.out _ _ ?_ (fun hHeld => ?_)
          · exact ⟨V0.c0, V0.c1, V1.c0, V1.c1, V_r.c0, V_r.c1, V_s.c0, V_s.c1, V_z.c0, V_z.c1⟩
          clear hK K
          try simp only [Act.put, List.setIfInBounds_toArray, List.set_cons_zero, List.set_cons_succ]
          refine wpAnyH_take (i := 25) (oi := { dst := some 130, op := Op.binOp BinOp.eql 3 (Operand.tmp 126) (Operand.tmp 129) 3, type := 4, pos := "law.go:87", after := #[{ on := 21, ground := Ground.data }, { on := 24, ground := Ground.data }, { on := 18, ground := Ground.guard }], guard := some (18, false) }) (v := undef) rfl (by kernel_rfl) (by kernel_rfl) (by kernel_rfl) (fun _ _ _ h => h) (Or.inr ⟨by rfl, rfl⟩) hHeld ?_
          try simp only [Act.put, List.setIfInBounds_toArray, List.set_cons_zero, List.set_cons_succ]
          refine wpAnyH_take (i := 26) (oi := { dst := some 131, op := Op.pick (Operand.tmp 123) (Operand.const (Value.bool true)) (Operand.tmp 130), type := 4, pos := "law.go:87", after := #[{ on := 18, ground := Ground.data }, { on := 25, ground := Ground.data }, { on := 13, ground := Ground.guard }], guard := some (13, true) }) (v := ?_) rfl (by kernel_rfl) (by kernel_rfl) (by kernel_rfl) (fun _ _ _ h => h) (Or.inl ⟨by rfl, ?_⟩) hHeld ?_
          rotate_left
          · intro w hSw
            try dsimp only at hSw
            go_simp
            try with_reducible rfl
          try simp only [Act.put, List.setIfInBounds_toArray, List.set_cons_zero, List.set_cons_succ]
          refine wpAnyH_take (i := 27) (oi := { dst := some 132, op := Op.pick (Operand.tmp 118) (Operand.tmp 131) (Operand.const (Value.bool false)), type := 4, pos := "law.go:87", after := #[{ on := 13, ground := Ground.data }, { on := 26, ground := Ground.data }], guard := none }) (v := ?_) rfl (by kernel_rfl) (by kernel_rfl) (by kernel_rfl) (fun _ _ _ h => h) (Or.inl ⟨by rfl, ?_⟩) hHeld ?_
          rotate_left
          · intro w hSw
            try dsimp only at hSw
            go_simp
            try with_reducible rfl
          try simp only [Act.put, List.setIfInBounds_toArray, List.set_cons_zero, List.set_cons_succ]
          refine wpAnyH_take (i := 28) (oi := { dst := some 133, op := Op.move (Operand.tmp 132), type := 4, pos := "law.go:87", after := #[{ on := 27, ground := Ground.data }, { on := 24, ground := Ground.chain }], guard := none }) (v := ?_) rfl (by kernel_rfl) (by kernel_rfl) (by kernel_rfl) (fun _ _ _ h => h) (Or.inl ⟨by rfl, ?_⟩) hHeld ?_
          rotate_left
          · intro w hSw
            try dsimp only at hSw
            go_simp
            try with_reducible rfl
          try simp only [Act.put, List.setIfInBounds_toArray, List.set_cons_zero, List.set_cons_succ]
          refine wpAnyH_ready (rs := [29]) (by kernel_rfl) (by simp) ?_
          refine AllReadyH.cons (o := { dst := some 134, op := Op.call { callee := Callee.value (Operand.func 22), args := #[], argTypes := #[] }, type := 4, pos := "law.go:87", after := #[{ on := 28, ground := Ground.chain }, { on := 28, ground := Ground.guard }], guard := some (28, true) }) rfl (fun K hK => ?_) AllReadyH.nil
          go_simp
          go_at_call 22
          refine (wlives_yes _).mono ?_
          rintro e w20 ⟨rfl, b20⟩
          replace hb := bnext hb b20
          replace V0 := V0.next b20
          replace V1 := V1.next b20
          replace V_r := V_r.next b20
          replace V_s := V_s.next b20
          replace V_z := V_z.next b20
          replace x_r := x_r.next b20
          replace x_s := x_s.next b20
          replace x_z := x_z.next b20
          replace h_a := h_a.below b20
          replace h_b := h_b.below b20
          clear hHeld
          refine hK.out _ _ ?_ (fun hHeld => ?_)
          · exact ⟨V0.c0, V0.c1, V1.c0, V1.c1, V_r.c0, V_r.c1, V_s.c0, V_s.c1, V_z.c0, V_z.c1⟩
          clear hK K
          try simp only [Act.put, List.setIfInBounds_toArray, List.set_cons_zero, List.set_cons_succ]
          refine wpAnyH_take (i := 30) (oi := { dst := some 135, op := Op.pick (Operand.tmp 133) (Operand.tmp 134) (Operand.const (Value.bool false)), type := 4, pos := "law.go:87", after := #[{ on := 28, ground := Ground.data }, { on := 29, ground := Ground.data }], guard := none }) (v := ?_) rfl (by kernel_rfl) (by kernel_rfl) (by kernel_rfl) (fun _ _ _ h => h) (Or.inl ⟨by rfl, ?_⟩) hHeld ?_
          rotate_left
          · intro w hSw
            try dsimp only at hSw
            go_simp
            try with_reducible rfl
          try simp only [Act.put, List.setIfInBounds_toArray, List.set_cons_zero, List.set_cons_succ]
          refine wpAnyH_ready (rs := [31]) (by kernel_rfl) (by simp) ?_
          refine AllReadyH.cons (o := _) rfl (fun K hK => ?_) AllReadyH.nil
          go_simp
          clear hHeld
          refine hK.out _ _ ?_ (fun hHeld => ?_)
          · exact ⟨V0.c0, V0.c1, V1.c0, V1.c1, V_r.c0, V_r.c1, V_s.c0, V_s.c1, V_z.c0, V_z.c1⟩
          clear hK K
          try simp only [Act.put, List.setIfInBounds_toArray, List.set_cons_zero, List.set_cons_succ]
          refine wpAnyH_done (by kernel_rfl) ?_ _
          refine NoPanic.normal ?_
          go_wp2_with fail
          go_ret
          exact ⟨rfl, hb⟩
        · have HR0 := Lib.hid (fun (W : World) (u v : Value) (hu : Wh W u R 24) (hv : Wh W v 0 1) => wcmp_num hu hv (by decide) (by decide))
          have HS0 := Lib.hid (fun (W : World) (u v : Value) (hu : Wh W u S 24) (hv : Wh W v 0 1) => wcmp_num hu hv (by decide) (by decide))
          have HA0 := Lib.hid (fun (W : World) (u v : Value) (hu : Wh W u A 24) (hv : Wh W v 0 1) => wcmp_num hu hv (by decide) (by decide))
          rw [(cmpZ_zero R 0).2 hR] at HR0
          have hsb := HM.out.2.2.2.resolve_left hS
          rw [hsb, HCb.out] at HS0
          clear hsb
          clear hR hS HM
          go_wp2_with fail
          clear V00 V01 V10 V11 V_r0 V_r1 V_s0 V_s1 V_z0 V_z1
          replace V0 := V0.next (Below.refl _ _).drew
          replace V1 := V1.next (Below.refl _ _).drew
          replace V_r := V_r.next (Below.refl _ _).drew
          replace V_s := V_s.next (Below.refl _ _).drew
          replace V_z := V_z.next (Below.refl _ _).drew
          replace x_r := x_r.next (Below.refl _ _).drew
          replace x_s := x_s.next (Below.refl _ _).drew
          replace x_z := x_z.next (Below.refl _ _).drew
          replace h_a := h_a.below (Below.refl _ _).drew
          replace h_b := h_b.below (Below.refl _ _).drew
          replace hb := hb.drew
          refine wp_region_noPanic ?_
          refine wp_region_held_drew (S := fun w' => w'.cell? ⟨w.heap.size, 0, none⟩ = some (.bool s0) ∧ w'.cell? ⟨w.heap.size, 1, none⟩ = some (.slice a0 len0 cap0) ∧ w'.cell? ⟨w.heap.size + 1, 0, none⟩ = some (.bool s1) ∧ w'.cell? ⟨w.heap.size + 1, 1, none⟩ = some (.slice a1 len1 cap1) ∧ w'.cell? ⟨w1.heap.size + 1, 0, none⟩ = some (.bool s_r) ∧ w'.cell? ⟨w1.heap.size + 1, 1, none⟩ = some (.slice A_r n_r c_r) ∧ w'.cell? ⟨w2.heap.size + 1, 0, none⟩ = some (.bool s_s) ∧ w'.cell? ⟨w2.heap.size + 1, 1, none⟩ = some (.slice A_s n_s c_s) ∧ w'.cell? ⟨w3.heap.size, 0, none⟩ = some (.bool s_z) ∧ w'.cell? ⟨w3.heap.size, 1, none⟩ = some (.slice A_z n_z c_z)) (by kernel_rfl) ?_ (fun hHeld => ?_)
          · exact ⟨V0.c0, V0.c1, V1.c0, V1.c1, V_r.c0, V_r.c1, V_s.c0, V_s.c1, V_z.c0, V_z.c1⟩
          refine wpAnyH_take (i := 0) (oi := { dst := some 105, op := Op.load 36 (Operand.tmp 6), type := 36, pos := "law.go:87", after := #[], guard := none }) (v := ?_) rfl (by kernel_rfl) (by kernel_rfl) (by kernel_rfl) (fun _ _ _ h => h) (Or.inl ⟨by rfl, ?_⟩) hHeld ?_
          rotate_left
          · intro w hSw
            try dsimp only at hSw
            go_simp
            try with_reducible rfl
          try simp only [Act.put, List.setIfInBounds_toArray, List.set_cons_zero, List.set_cons_succ]
          refine wpAnyH_take (i := 1) (oi := { dst := some 106, op := Op.load 36 (Operand.tmp 11), type := 36, pos := "law.go:87", after := #[], guard := none }) (v := ?_) rfl (by kernel_rfl) (by kernel_rfl) (by kernel_rfl) (fun _ _ _ h => h) (Or.inl ⟨by rfl, ?_⟩) hHeld ?_
          rotate_left
          · intro w hSw
            try dsimp only at hSw
            go_simp
            try with_reducible rfl
          try simp only [Act.put, List.setIfInBounds_toArray, List.set_cons_zero, List.set_cons_succ]
          refine wpAnyH_ready (rs := [2]) (by kernel_rfl) (by simp) ?_
          refine AllReadyH.cons (o := { dst := some 107, op := Op.call { callee := Callee.value (Operand.func 38), args := #[Operand.tmp 105, Operand.tmp 106], argTypes := #[36, 36] }, type := 3, pos := "law.go:87", after := #[{ on := 0, ground := Ground.data }, { on := 1, ground := Ground.data }], guard := none }) rfl (fun K hK => ?_) AllReadyH.nil
          go_simp
          go_at_call 38
          refine (HR0.out _ _ _ (x_r.wh 24 HL.out.2.2.1) (x_z.wh 1 (by decide))).mono ?_
          rintro e w18 ⟨rfl, b18⟩
          replace hb := bnext hb b18
          replace V0 := V0.next b18
          replace V1 := V1.next b18
          replace V_r := V_r.next b18
          replace V_s := V_s.next b18
          replace V_z := V_z.next b18
          replace x_r := x_r.next b18
          replace x_s := x_s.next b18
          replace x_z := x_z.next b18
          replace h_a := h_a.below b18
          replace h_b := h_b.below b18
          clear hHeld
          refine hK.out _ _ ?_ (fun hHeld => ?_)
          · exact ⟨V0.c0, V0.c1, V1.c0, V1.c1, V_r.c0, V_r.c1, V_s.c0, V_s.c1, V_z.c0, V_z.c1⟩
          clear hK K
          try simp only [Act.put, List.setIfInBounds_toArray, List.set_cons_zero, List.set_cons_succ]
          refine wpAnyH_take (i := 3) (oi := { dst := some 108, op := Op.binOp BinOp.eql 3 (Operand.tmp 107) (Operand.const (Value.int IntKind.i64 0)) 3, type := 4, pos := "law.go:87", after := #[{ on := 2, ground := Ground.data }], guard := none }) (v := ?_) rfl (by kernel_rfl) (by kernel_rfl) (by kernel_rfl) (fun _ _ _ h => h) (Or.inl ⟨by rfl, ?_⟩) hHeld ?_
          rotate_left
          · intro w hSw
            try dsimp only at hSw
            go_simp
            try with_reducible rfl
          try simp only [Act.put, List.setIfInBounds_toArray, List.set_cons_zero, List.set_cons_succ]
          refine wpAnyH_take (i := 4) (oi := { dst := some 109, op := Op.move (Operand.tmp 108), type := 4, pos := "law.go:87", after := #[{ on := 3, ground := Ground.data }, { on := 2, ground := Ground.chain }], guard := none }) (v := ?_) rfl (by kernel_rfl) (by kernel_rfl) (by kernel_rfl) (fun _ _ _ h => h) (Or.inl ⟨by rfl, ?_⟩) hHeld ?_
          rotate_left
          · intro w hSw
            try dsimp only at hSw
            go_simp
            try with_reducible rfl
          try simp only [Act.put, List.setIfInBounds_toArray, List.set_cons_zero, List.set_cons_succ]
          refine wpAnyH_take (i := 5) (oi := { dst := some 110, op := Op.load 36 (Operand.tmp 6), type := 36, pos := "law.go:87", after := #[{ on := 4, ground := Ground.guard }], guard := some (4, false) }) (v := undef) rfl (by kernel_rfl) (by kernel_rfl) (by kernel_rfl) (fun _ _ _ h => h) (Or.inr ⟨by rfl, rfl⟩) hHeld ?_
          try simp only [Act.put, List.setIfInBounds_toArray, List.set_cons_zero, List.set_cons_succ]
          refine wpAnyH_take (i := 6) (oi := { dst := some 111, op := Op.load 36 (Operand.tmp 11), type := 36, pos := "law.go:87", after := #[{ on := 4, ground := Ground.guard }], guard := some (4, false) }) (v := undef) rfl (by kernel_rfl) (by kernel_rfl) (by kernel_rfl) (fun _ _ _ h => h) (Or.inr ⟨by rfl, rfl⟩) hHeld ?_
          try simp only [Act.put, List.setIfInBounds_toArray, List.set_cons_zero, List.set_cons_succ]
          refine wpAnyH_take (i := 8) (oi := { dst := some 113, op := Op.load 36 (Operand.tmp 2), type := 36, pos := "law.go:87", after := #[{ on := 4, ground := Ground.guard }], guard := some (4, false) }) (v := undef) rfl (by kernel_rfl) (by kernel_rfl) (by kernel_rfl) (fun _ _ _ h => h) (Or.inr ⟨by rfl, rfl⟩) hHeld ?_
          try simp only [Act.put, List.setIfInBounds_toArray, List.set_cons_zero, List.set_cons_succ]
          refine wpAnyH_take (i := 9) (oi := { dst := some 114, op := Op.load 36 (Operand.tmp 11), type := 36, pos := "law.go:87", after := #[{ on := 4, ground := Ground.guard }], guard := some (4, false) }) (v := undef) rfl (by kernel_rfl) (by kernel_rfl) (by kernel_rfl) (fun _ _ _ h => h) (Or.inr ⟨by rfl, rfl⟩) hHeld ?_
          try simp only [Act.put, List.setIfInBounds_toArray, List.set_cons_zero, List.set_cons_succ]
          refine wpAnyH_ready (rs := [7]) (by kernel_rfl) (by simp) ?_
          refine AllReadyH.cons (o := { dst := some 112, op := Op.call { callee := Callee.value (Operand.func 38), args := #[Operand.tmp 110, Operand.tmp 111], argTypes := #[36, 36] }, type := 3, pos := "law.go:87", after := #[{ on := 5, ground := Ground.data }, { on := 6, ground := Ground.data }, { on := 4, ground := Ground.chain }, { on := 4, ground := Ground.guard }], guard := some (4, false) }) rfl (fun K hK => ?_) AllReadyH.nil
          go_simp
          clear hHeld
          refine hK.out _ _ ?_ (fun hHeld => ?_)
          · exact ⟨V0.c0, V0.c1, V1.c0, V1.c1, V_r.c0, V_r.c1, V_s.c0, V_s.c1, V_z.c0, V_z.c1⟩
          clear hK K
          try simp only [Act.put, List.setIfInBounds_toArray, List.set_cons_zero, List.set_cons_succ]
          refine wpAnyH_ready (rs := [10]) (by kernel_rfl) (by simp) ?_
          refine AllReadyH.cons (o := { dst := some 115, op := Op.call { callee := Callee.value (Operand.func 38), args := #[Operand.tmp 113, Operand.tmp 114], argTypes := #[36, 36] }, type := 3, pos := "law.go:87", after := #[{ on := 8, ground := Ground.data }, { on := 9, ground := Ground.data }, { on := 7, ground := Ground.chain }, { on := 4, ground := Ground.guard }], guard := some (4, false) }) rfl (fun K hK => ?_) AllReadyH.nil
          go_simp
          clear hHeld
          refine hK.out _ _ ?_ (fun hHeld => ?_)
          · exact ⟨V0.c0, V0.c1, V1.c0, V1.c1, V_r.c0, V_r.c1, V_s.c0, V_s.c1, V_z.c0, V_z.c1⟩
          clear hK K
          try simp only [Act.put, List.setIfInBounds_toArray, List.set_cons_zero, List.set_cons_succ]
          refine wpAnyH_take (i := 11) (oi := { dst := some 116, op := Op.binOp BinOp.eql 3 (Operand.tmp 112) (Operand.tmp 115) 3, type := 4, pos := "law.go:87", after := #[{ on := 7, ground := Ground.data }, { on := 10, ground := Ground.data }, { on := 4, ground := Ground.guard }], guard := some (4, false) }) (v := undef) rfl (by kernel_rfl) (by kernel_rfl) (by kernel_rfl) (fun _ _ _ h => h) (Or.inr ⟨by rfl, rfl⟩) hHeld ?_
          try simp only [Act.put, List.setIfInBounds_toArray, List.set_cons_zero, List.set_cons_succ]
          refine wpAnyH_take (i := 12) (oi := { dst := some 117, op := Op.pick (Operand.tmp 109) (Operand.const (Value.bool true)) (Operand.tmp 116), type := 4, pos := "law.go:87", after := #[{ on := 4, ground := Ground.data }, { on := 11, ground := Ground.data }], guard := none }) (v := ?_) rfl (by kernel_rfl) (by kernel_rfl) (by kernel_rfl) (fun _ _ _ h => h) (Or.inl ⟨by rfl, ?_⟩) hHeld ?_
          rotate_left
          · intro w hSw
            try dsimp only at hSw
            go_simp
            try with_reducible rfl
          try simp only [Act.put, List.setIfInBounds_toArray, List.set_cons_zero, List.set_cons_succ]
          refine wpAnyH_take (i := 13) (oi := { dst := some 118, op := Op.move (Operand.tmp 117), type := 4, pos := "law.go:87", after := #[{ on := 12, ground := Ground.data }, { on := 10, ground := Ground.chain }], guard := none }) (v := ?_) rfl (by kernel_rfl) (by kernel_rfl) (by kernel_rfl) (fun _ _ _ h => h) (Or.inl ⟨by rfl, ?_⟩) hHeld ?_
          rotate_left
          · intro w hSw
            try dsimp only at hSw
            go_simp
            try with_reducible rfl
          try simp only [Act.put, List.setIfInBounds_toArray, List.set_cons_zero, List.set_cons_succ]
          refine wpAnyH_take (i := 14) (oi := { dst := some 119, op := Op.load 36 (Operand.tmp 9), type := 36, pos := "law.go:87", after := #[{ on := 13, ground := Ground.guard }], guard := some (13, true) }) (v := ?_) rfl (by kernel_rfl) (by kernel_rfl) (by kernel_rfl) (fun _ _ _ h => h) (Or.inl ⟨by rfl, ?_⟩) hHeld ?_
          rotate_left
          · intro w hSw
            try dsimp only at hSw
            go_simp
            try with_reducible rfl
          try simp only [Act.put, List.setIfInBounds_toArray, List.set_cons_zero, List.set_cons_succ]
          refine wpAnyH_take (i := 15) (oi := { dst := some 120, op := Op.load 36 (Operand.tmp 11), type := 36, pos := "law.go:87", after := #[{ on := 13, ground := Ground.guard }], guard := some (13, true) }) (v := ?_) rfl (by kernel_rfl) (by kernel_rfl) (by kernel_rfl) (fun _ _ _ h => h) (Or.inl ⟨by rfl, ?_⟩) hHeld ?_
          rotate_left
          · intro w hSw
            try dsimp only at hSw
            go_simp
            try with_reducible rfl
          try simp only [Act.put, List.setIfInBounds_toArray, List.set_cons_zero, List.set_cons_succ]
          refine wpAnyH_ready (rs := [16]) (by kernel_rfl) (by simp) ?_
          refine AllReadyH.cons (o := { dst := some 121, op := Op.call { callee := Callee.value (Operand.func 38), args := #[Operand.tmp 119, Operand.tmp 120], argTypes := #[36, 36] }, type := 3, pos := "law.go:87", after := #[{ on := 14, ground := Ground.data }, { on := 15, ground := Ground.data }, { on := 13, ground := Ground.chain }, { on := 13, ground := Ground.guard }], guard := some (13, true) }) rfl (fun K hK => ?_) AllReadyH.nil
          go_simp
          go_at_call 38
          refine (HS0.out _ _ _ (x_s.wh 24 HL.out.2.2.2.1) (x_z.wh 1 (by decide))).mono ?_
          rintro e w19 ⟨rfl, b19⟩
          replace hb := bnext hb b19
          replace V0 := V0.next b19
          replace V1 := V1.next b19
          replace V_r := V_r.next b19
          replace V_s := V_s.next b19
          replace V_z := V_z.next b19
          replace x_r := x_r.next b19
          replace x_s := x_s.next b19
          replace x_z := x_z.next b19
          replace h_a := h_a.below b19
          replace h_b := h_b.below b19
          clear hHeld
          refine hK.out _ _ ?_ (fun hHeld => ?_)
          · exact ⟨V0.c0, V0.c1, V1.c0, V1.c1, V_r.c0, V_r.c1, V_s.c0, V_s.c1, V_z.c0, V_z.c1⟩
          clear hK K
          try simp only [Act.put, List.setIfInBounds_toArray, List.set_cons_zero, List.set_cons_succ]
          refine wpAnyH_take (i := 17) (oi := { dst := some 122, op := Op.binOp BinOp.eql 3 (Operand.tmp 121) (Operand.const (Value.int IntKind.i64 0)) 3, type := 4, pos := "law.go:87", after := #[{ on := 16, ground := Ground.data }, { on := 13, ground := Ground.guard }], guard := some (13, true) }) (v := ?_) rfl (by kernel_rfl) (by kernel_rfl) (by kernel_rfl) (fun _ _ _ h => h) (Or.inl ⟨by rfl, ?_⟩) hHeld ?_
          rotate_left
          · intro w hSw
            try dsimp only at hSw
            go_simp
            try with_reducible rfl
          try simp only [Act.put, List.setIfInBounds_toArray, List.set_cons_zero, List.set_cons_succ]
          refine wpAnyH_take (i := 18) (oi := { dst := some 123, op := Op.move (Operand.tmp 122), type := 4, pos := "law.go:87", after := #[{ on := 17, ground := Ground.data }, { on := 16, ground := Ground.chain }, { on := 13, ground := Ground.guard }], guard := some (13, true) }) (v := ?_) rfl (by kernel_rfl) (by kernel_rfl) (by kernel_rfl) (fun _ _ _ h => h) (Or.inl ⟨by rfl, ?_⟩) hHeld ?_
          rotate_left
          · intro w hSw
            try dsimp only at hSw
            go_simp
            try with_reducible rfl
          try simp only [Act.put, List.setIfInBounds_toArray, List.set_cons_zero, List.set_cons_succ]
          refine wpAnyH_take (i := 19) (oi := { dst := some 124, op := Op.load 36 (Operand.tmp 9), type := 36, pos := "law.go:87", after := #[{ on := 18, ground := Ground.guard }], guard := some (18, false) }) (v := ?_) rfl (by kernel_rfl) (by kernel_rfl) (by kernel_rfl) (fun _ _ _ h => h) (Or.inl ⟨by rfl, ?_⟩) hHeld ?_
          rotate_left
          · intro w hSw
            try dsimp only at hSw
            go_simp
            try with_reducible rfl
          try simp only [Act.put, List.setIfInBounds_toArray, List.set_cons_zero, List.set_cons_succ]
          refine wpAnyH_take (i := 20) (oi := { dst := some 125, op := Op.load 36 (Operand.tmp 11), type := 36, pos := "law.go:87", after := #[{ on := 18, ground := Ground.guard }], guard := some (18, false) }) (v := ?_) rfl (by kernel_rfl) (by kernel_rfl) (by kernel_rfl) (fun _ _ _ h => h) (Or.inl ⟨by rfl, ?_⟩) hHeld ?_
          rotate_left
          · intro w hSw
            try dsimp only at hSw
            go_simp
            try with_reducible rfl
          try simp only [Act.put, List.setIfInBounds_toArray, List.set_cons_zero, List.set_cons_succ]
          refine wpAnyH_take (i := 22) (oi := { dst := some 127, op := Op.load 36 (Operand.tmp 3), type := 36, pos := "law.go:87", after := #[{ on := 18, ground := Ground.guard }], guard := some (18, false) }) (v := ?_) rfl (by kernel_rfl) (by kernel_rfl) (by kernel_rfl) (fun _ _ _ h => h) (Or.inl ⟨by rfl, ?_⟩) hHeld ?_
          rotate_left
          · intro w hSw
            try dsimp only at hSw
            go_simp
            try with_reducible rfl
          try simp only [Act.put, List.setIfInBounds_toArray, List.set_cons_zero, List.set_cons_succ]
          refine wpAnyH_take (i := 23) (oi := { dst := some 128, op := Op.load 36 (Operand.tmp 11), type := 36, pos := "law.go:87", after := #[{ on := 18, ground := Ground.guard }], guard := some (18, false) }) (v := ?_) rfl (by kernel_rfl) (by kernel_rfl) (by kernel_rfl) (fun _ _ _ h => h) (Or.inl ⟨by rfl, ?_⟩) hHeld ?_
          rotate_left
          · intro w hSw
            try dsimp only at hSw
            go_simp
            try with_reducible rfl
          try simp only [Act.put, List.setIfInBounds_toArray, List.set_cons_zero, List.set_cons_succ]
          refine wpAnyH_ready (rs := [21]) (by kernel_rfl) (by simp) ?_
          refine AllReadyH.cons (o := { dst := some 126, op := Op.call { callee := Callee.value (Operand.func 38), args := #[Operand.tmp 124, Operand.tmp 125], argTypes := #[36, 36] }, type := 3, pos := "law.go:87", after := #[{ on := 19, ground := Ground.data }, { on := 20, ground := Ground.data }, { on := 18, ground := Ground.chain }, { on := 18, ground := Ground.guard }], guard := some (18, false) }) rfl (fun K hK => ?_) AllReadyH.nil
          go_simp
          go_at_call 38
          refine (HS0.out _ _ _ (x_s.wh 24 HL.out.2.2.2.1) (x_z.wh 1 (by decide))).mono ?_
          rintro e w20 ⟨rfl, b20⟩
          replace hb := bnext hb b20
          replace V0 := V0.next b20
          replace V1 := V1.next b20
          replace V_r := V_r.next b20
          replace V_s := V_s.next b20
          replace V_z := V_z.next b20
          replace x_r := x_r.next b20
          replace x_s := x_s.next b20
          replace x_z := x_z.next b20
          replace h_a := h_a.below b20
          replace h_b := h_b.below b20
          clear hHeld
          refine hK.out _ _ ?_ (fun hHeld => ?_)
          · exact ⟨V0.c0, V0.c1, V1.c0, V1.c1, V_r.c0, V_r.c1, V_s.c0, V_s.c1, V_z.c0, V_z.c1⟩
          clear hK K
          try simp only [Act.put, List.setIfInBounds_toArray, List.set_cons_zero, List.set_cons_succ]
          refine wpAnyH_ready (rs := [24]) (by kernel_rfl) (by simp) ?_
          refine AllReadyH.cons (o := { dst := some 129, op := Op.call { callee := Callee.value (Operand.func 38), args := #[Operand.tmp 127, Operand.tmp 128], argTypes := #[36, 36] }, type := 3, pos := "law.go:87", after := #[{ on := 22, ground := Ground.data }, { on := 23, ground := Ground.data }, { on := 21, ground := Ground.chain }, { on := 18, ground := Ground.guard }], guard := some (18, false) }) rfl (fun K hK => ?_) AllReadyH.nil
          go_simp
          go_at_call 38
          refine (HCB.out _ _ _ h_b (x_z.wh 1 (by decide))).mono ?_
          rintro e w21 ⟨rfl, b21⟩
          replace hb := bnext hb b21
          replace V0 := V0.next b21
          replace V1 := V1.next b21
          replace V_r := V_r.next b21
          replace V_s := V_s.next b21
          replace V_z := V_z.next b21
          replace x_r := x_r.next b21
          replace x_s := x_s.next b21
          replace x_z := x_z.next b21
          replace h_a := h_a.below b21
          replace h_b := h_b.below b21
          clear hHeld
          refine hK.out _ _ ?_ (fun hHeld => ?_)
          · exact ⟨V0.c0, V0.c1, V1.c0, V1.c1, V_r.c0, V_r.c1, V_s.c0, V_s.c1, V_z.c0, V_z.c1⟩
          clear hK K
          try simp only [Act.put, List.setIfInBounds_toArray, List.set_cons_zero, List.set_cons_succ]
          refine wpAnyH_take (i := 25) (oi := { dst := some 130, op := Op.binOp BinOp.eql 3 (Operand.tmp 126) (Operand.tmp 129) 3, type := 4, pos := "law.go:87", after := #[{ on := 21, ground := Ground.data }, { on := 24, ground := Ground.data }, { on := 18, ground := Ground.guard }], guard := some (18, false) }) (v := ?_) rfl (by kernel_rfl) (by kernel_rfl) (by kernel_rfl) (fun _ _ _ h => h) (Or.inl ⟨by rfl, ?_⟩) hHeld ?_
          rotate_left
          · intro w hSw
            try dsimp only at hSw
            go_simp
            try with_reducible rfl
          try simp only [Act.put, List.setIfInBounds_toArray, List.set_cons_zero, List.set_cons_succ]
          refine wpAnyH_take (i := 26) (oi := { dst := some 131, op := Op.pick (Operand.tmp 123) (Operand.const (Value.bool true)) (Operand.tmp 130), type := 4, pos := "law.go:87", after := #[{ on := 18, ground := Ground.data }, { on := 25, ground := Ground.data }, { on := 13, ground := Ground.guard }], guard := some (13, true) }) (v := ?_) rfl (by kernel_rfl) (by kernel_rfl) (by kernel_rfl) (fun _ _ _ h => h) (Or.inl ⟨by rfl, ?_⟩) hHeld ?_
          rotate_left
          · intro w hSw
            try dsimp only at hSw
            go_simp
            try with_reducible rfl
          try simp only [Act.put, List.setIfInBounds_toArray, List.set_cons_zero, List.set_cons_succ]
          refine wpAnyH_take (i := 27) (oi := { dst := some 132, op := Op.pick (Operand.tmp 118) (Operand.tmp 131) (Operand.const (Value.bool false)), type := 4, pos := "law.go:87", after := #[{ on := 13, ground := Ground.data }, { on := 26, ground := Ground.data }], guard := none }) (v := ?_) rfl (by kernel_rfl) (by kernel_rfl) (by kernel_rfl) (fun _ _ _ h => h) (Or.inl ⟨by rfl, ?_⟩) hHeld ?_
          rotate_left
          · intro w hSw
            try dsimp only at hSw
            go_simp
            try with_reducible rfl
          try simp only [Act.put, List.setIfInBounds_toArray, List.set_cons_zero, List.set_cons_succ]
          refine wpAnyH_take (i := 28) (oi := { dst := some 133, op := Op.move (Operand.tmp 132), type := 4, pos := "law.go:87", after := #[{ on := 27, ground := Ground.data }, { on := 24, ground := Ground.chain }], guard := none }) (v := ?_) rfl (by kernel_rfl) (by kernel_rfl) (by kernel_rfl) (fun _ _ _ h => h) (Or.inl ⟨by rfl, ?_⟩) hHeld ?_
          rotate_left
          · intro w hSw
            try dsimp only at hSw
            go_simp
            try with_reducible rfl
          try simp only [Act.put, List.setIfInBounds_toArray, List.set_cons_zero, List.set_cons_succ]
          refine wpAnyH_ready (rs := [29]) (by kernel_rfl) (by simp) ?_
          refine AllReadyH.cons (o := { dst := some 134, op := Op.call { callee := Callee.value (Operand.func 22), args := #[], argTypes := #[] }, type := 4, pos := "law.go:87", after := #[{ on := 28, ground := Ground.chain }, { on := 28, ground := Ground.guard }], guard := some (28, true) }) rfl (fun K hK => ?_) AllReadyH.nil
          go_simp
          go_at_call 22
          refine (wlives_yes _).mono ?_
          rintro e w22 ⟨rfl, b22⟩
          replace hb := bnext hb b22
          replace V0 := V0.next b22
          replace V1 := V1.next b22
          replace V_r := V_r.next b22
          replace V_s := V_s.next b22
          replace V_z := V_z.next b22
          replace x_r := x_r.next b22
          replace x_s := x_s.next b22
          replace x_z := x_z.next b22
          replace h_a := h_a.below b22
          replace h_b := h_b.below b22
          clear hHeld
          refine hK.out _ _ ?_ (fun hHeld => ?_)
          · exact ⟨V0.c0, V0.c1, V1.c0, V1.c1, V_r.c0, V_r.c1, V_s.c0, V_s.c1, V_z.c0, V_z.c1⟩
          clear hK K
          try simp only [Act.put, List.setIfInBounds_toArray, List.set_cons_zero, List.set_cons_succ]
          refine wpAnyH_take (i := 30) (oi := { dst := some 135, op := Op.pick (Operand.tmp 133) (Operand.tmp 134) (Operand.const (Value.bool false)), type := 4, pos := "law.go:87", after := #[{ on := 28, ground := Ground.data }, { on := 29, ground := Ground.data }], guard := none }) (v := ?_) rfl (by kernel_rfl) (by kernel_rfl) (by kernel_rfl) (fun _ _ _ h => h) (Or.inl ⟨by rfl, ?_⟩) hHeld ?_
          rotate_left
          · intro w hSw
            try dsimp only at hSw
            go_simp
            try with_reducible rfl
          try simp only [Act.put, List.setIfInBounds_toArray, List.set_cons_zero, List.set_cons_succ]
          refine wpAnyH_ready (rs := [31]) (by kernel_rfl) (by simp) ?_
          refine AllReadyH.cons (o := _) rfl (fun K hK => ?_) AllReadyH.nil
          go_simp
          clear hHeld
          refine hK.out _ _ ?_ (fun hHeld => ?_)
          · exact ⟨V0.c0, V0.c1, V1.c0, V1.c1, V_r.c0, V_r.c1, V_s.c0, V_s.c1, V_z.c0, V_z.c1⟩
          clear hK K
          try simp only [Act.put, List.setIfInBounds_toArray, List.set_cons_zero, List.set_cons_succ]
          refine wpAnyH_done (by kernel_rfl) ?_ _
          refine NoPanic.normal ?_
          go_wp2_with fail
          go_ret
          exact ⟨rfl, hb⟩
      · by_cases hS : S = 0
        · have HR0 := Lib.hid (fun (W : World) (u v : Value) (hu : Wh W u R 24) (hv : Wh W v 0 1) => wcmp_num hu hv (by decide) (by decide))
          have HS0 := Lib.hid (fun (W : World) (u v : Value) (hu : Wh W u S 24) (hv : Wh W v 0 1) => wcmp_num hu hv (by decide) (by decide))
          have HA0 := Lib.hid (fun (W : World) (u v : Value) (hu : Wh W u A 24) (hv : Wh W v 0 1) => wcmp_num hu hv (by decide) (by decide))
          have hra := HM.out.2.2.1.resolve_left hR
          have hn1 : cmpZ A 0 ≠ 0 := fun h => hR ((cmpZ_zero R 0).1 (hra.trans h))
          rw [hra] at HR0
          clear hra
          generalize cmpZ A 0 = ca at *
          have hca : (ca == 0) = false := beq_eq_false_iff_ne.2 hn1
          clear hn1
          rw [(cmpZ_zero S 0).2 hS] at HS0
          clear hR hS HM
          go_wp2_with fail
          clear V00 V01 V10 V11 V_r0 V_r1 V_s0 V_s1 V_z0 V_z1
          replace V0 := V0.next (Below.refl _ _).drew
          replace V1 := V1.next (Below.refl _ _).drew
          replace V_r := V_r.next (Below.refl _ _).drew
          replace V_s := V_s.next (Below.refl _ _).drew
          replace V_z := V_z.next (Below.refl _ _).drew
          replace x_r := x_r.next (Below.refl _ _).drew
          replace x_s := x_s.next (Below.refl _ _).drew
          replace x_z := x_z.next (Below.refl _ _).drew
          replace h_a := h_a.below (Below.refl _ _).drew
          replace h_b := h_b.below (Below.refl _ _).drew
          replace hb := hb.drew
          refine wp_region_noPanic ?_
          refine wp_region_held_drew (S := fun w' => w'.cell? ⟨w.heap.size, 0, none⟩ = some (.bool s0) ∧ w'.cell? ⟨w.heap.size, 1, none⟩ = some (.slice a0 len0 cap0) ∧ w'.cell? ⟨w.heap.size + 1, 0, none⟩ = some (.bool s1) ∧ w'.cell? ⟨w.heap.size + 1, 1, none⟩ = some (.slice a1 len1 cap1) ∧ w'.cell? ⟨w1.heap.size + 1, 0, none⟩ = some (.bool s_r) ∧ w'.cell? ⟨w1.heap.size + 1, 1, none⟩ = some (.slice A_r n_r c_r) ∧ w'.cell? ⟨w2.heap.size + 1, 0, none⟩ = some (.bool s_s) ∧ w'.cell? ⟨w2.heap.size + 1, 1, none⟩ = some (.slice A_s n_s c_s) ∧ w'.cell? ⟨w3.heap.size, 0, none⟩ = some (.bool s_z) ∧ w'.cell? ⟨w3.heap.size, 1, none⟩ = some (.slice A_z n_z c_z)) (by kernel_rfl) ?_ (fun hHeld => ?_)
          · exact ⟨V0.c0, V0.c1, V1.c0, V1.c1, V_r.c0, V_r.c1, V_s.c0, V_s.c1, V_z.c0, V_z.c1⟩
          refine wpAnyH_take (i := 0) (oi := { dst := some 105, op := Op.load 36 (Operand.tmp 6), type := 36, pos := "law.go:87", after := #[], guard := none }) (v := ?_) rfl (by kernel_rfl) (by kernel_rfl) (by kernel_rfl) (fun _ _ _ h => h) (Or.inl ⟨by rfl, ?_⟩) hHeld ?_
          rotate_left
          · intro w hSw
            try dsimp only at hSw
            go_simp
            try with_reducible rfl
          try simp only [Act.put, List.setIfInBounds_toArray, List.set_cons_zero, List.set_cons_succ]
          refine wpAnyH_take (i := 1) (oi := { dst := some 106, op := Op.load 36 (Operand.tmp 11), type := 36, pos := "law.go:87", after := #[], guard := none }) (v := ?_) rfl (by kernel_rfl) (by kernel_rfl) (by kernel_rfl) (fun _ _ _ h => h) (Or.inl ⟨by rfl, ?_⟩) hHeld ?_
          rotate_left
          · intro w hSw
            try dsimp only at hSw
            go_simp
            try with_reducible rfl
          try simp only [Act.put, List.setIfInBounds_toArray, List.set_cons_zero, List.set_cons_succ]
          refine wpAnyH_ready (rs := [2]) (by kernel_rfl) (by simp) ?_
          refine AllReadyH.cons (o := { dst := some 107, op := Op.call { callee := Callee.value (Operand.func 38), args := #[Operand.tmp 105, Operand.tmp 106], argTypes := #[36, 36] }, type := 3, pos := "law.go:87", after := #[{ on := 0, ground := Ground.data }, { on := 1, ground := Ground.data }], guard := none }) rfl (fun K hK => ?_) AllReadyH.nil
          go_simp
          go_at_call 38
          refine (HR0.out _ _ _ (x_r.wh 24 HL.out.2.2.1) (x_z.wh 1 (by decide))).mono ?_
          rintro e w18 ⟨rfl, b18⟩
          replace hb := bnext hb b18
          replace V0 := V0.next b18
          replace V1 := V1.next b18
          replace V_r := V_r.next b18
          replace V_s := V_s.next b18
          replace V_z := V_z.next b18
          replace x_r := x_r.next b18
          replace x_s := x_s.next b18
          replace x_z := x_z.next b18
          replace h_a := h_a.below b18
          replace h_b := h_b.below b18
          clear hHeld
          refine hK.out _ _ ?_ (fun hHeld => ?_)
          · exact ⟨V0.c0, V0.c1, V1.c0, V1.c1, V_r.c0, V_r.c1, V_s.c0, V_s.c1, V_z.c0, V_z.c1⟩
          clear hK K
          try simp only [Act.put, List.setIfInBounds_toArray, List.set_cons_zero, List.set_cons_succ]
          refine wpAnyH_take (i := 3) (oi := { dst := some 108, op := Op.binOp BinOp.eql 3 (Operand.tmp 107) (Operand.const (Value.int IntKind.i64 0)) 3, type := 4, pos := "law.go:87", after := #[{ on := 2, ground := Ground.data }], guard := none }) (v := ?_) rfl (by kernel_rfl) (by kernel_rfl) (by kernel_rfl) (fun _ _ _ h => h) (Or.inl ⟨by rfl, ?_⟩) hHeld ?_
          rotate_left
          · intro w hSw
            try dsimp only at hSw
            go_simp
            try with_reducible rfl
          try simp only [Act.put, List.setIfInBounds_toArray, List.set_cons_zero, List.set_cons_succ]
          refine wpAnyH_take (i := 4) (oi := { dst := some 109, op := Op.move (Operand.tmp 108), type := 4, pos := "law.go:87", after := #[{ on := 3, ground := Ground.data }, { on := 2, ground := Ground.chain }], guard := none }) (v := ?_) rfl (by kernel_rfl) (by kernel_rfl) (by kernel_rfl) (fun _ _ _ h => h) (Or.inl ⟨by rfl, ?_⟩) hHeld ?_
          rotate_left
          · intro w hSw
            try dsimp only at hSw
            go_simp
            try with_reducible rfl
          try simp only [Act.put, List.setIfInBounds_toArray, List.set_cons_zero, List.set_cons_succ]
          refine wpAnyH_take (i := 5) (oi := { dst := some 110, op := Op.load 36 (Operand.tmp 6), type := 36, pos := "law.go:87", after := #[{ on := 4, ground := Ground.guard }], guard := some (4, false) }) (v := ?_) rfl (by kernel_rfl) (by kernel_rfl) (by kernel_rfl) (fun _ _ _ h => h) (Or.inl ⟨by rfl, ?_⟩) hHeld ?_
          rotate_left
          · intro w hSw
            try dsimp only at hSw
            go_simp
            try with_reducible rfl
          try simp only [Act.put, List.setIfInBounds_toArray, List.set_cons_zero, List.set_cons_succ]
          refine wpAnyH_take (i := 6) (oi := { dst := some 111, op := Op.load 36 (Operand.tmp 11), type := 36, pos := "law.go:87", after := #[{ on := 4, ground := Ground.guard }], guard := some (4, false) }) (v := ?_) rfl (by kernel_rfl) (by kernel_rfl) (by kernel_rfl) (fun _ _ _ h => h) (Or.inl ⟨by rfl, ?_⟩) hHeld ?_
          rotate_left
          · intro w hSw
            try dsimp only at hSw
            go_simp
            try with_reducible rfl
          try simp only [Act.put, List.setIfInBounds_toArray, List.set_cons_zero, List.set_cons_succ]
          refine wpAnyH_take (i := 8) (oi := { dst := some 113, op := Op.load 36 (Operand.tmp 2), type := 36, pos := "law.go:87", after := #[{ on := 4, ground := Ground.guard }], guard := some (4, false) }) (v := ?_) rfl (by kernel_rfl) (by kernel_rfl) (by kernel_rfl) (fun _ _ _ h => h) (Or.inl ⟨by rfl, ?_⟩) hHeld ?_
          rotate_left
          · intro w hSw
            try dsimp only at hSw
            go_simp
            try with_reducible rfl
          try simp only [Act.put, List.setIfInBounds_toArray, List.set_cons_zero, List.set_cons_succ]
          refine wpAnyH_take (i := 9) (oi := { dst := some 114, op := Op.load 36 (Operand.tmp 11), type := 36, pos := "law.go:87", after := #[{ on := 4, ground := Ground.guard }], guard := some (4, false) }) (v := ?_) rfl (by kernel_rfl) (by kernel_rfl) (by kernel_rfl) (fun _ _ _ h => h) (Or.inl ⟨by rfl, ?_⟩) hHeld ?_
          rotate_left
          · intro w hSw
            try dsimp only at hSw
            go_simp
            try with_reducible rfl
          try simp only [Act.put, List.setIfInBounds_toArray, List.set_cons_zero, List.set_cons_succ]
          refine wpAnyH_ready (rs := [7]) (by kernel_rfl) (by simp) ?_
          refine AllReadyH.cons (o := { dst := some 112, op := Op.call { callee := Callee.value (Operand.func 38), args := #[Operand.tmp 110, Operand.tmp 111], argTypes := #[36, 36] }, type := 3, pos := "law.go:87", after := #[{ on := 5, ground := Ground.data }, { on := 6, ground := Ground.data }, { on := 4, ground := Ground.chain }, { on := 4, ground := Ground.guard }], guard := some (4, false) }) rfl (fun K hK => ?_) AllReadyH.nil
          go_simp
          go_at_call 38
          refine (HR0.out _ _ _ (x_r.wh 24 HL.out.2.2.1) (x_z.wh 1 (by decide))).mono ?_
          rintro e w19 ⟨rfl, b19⟩
          replace hb := bnext hb b19
          replace V0 := V0.next b19
          replace V1 := V1.next b19
          replace V_r := V_r.next b19
          replace V_s := V_s.next b19
          replace V_z := V_z.next b19
          replace x_r := x_r.next b19
          replace x_s := x_s.next b19
          replace x_z := x_z.next b19
          replace h_a := h_a.below b19
          replace h_b := h_b.below b19
          clear hHeld
          refine hK.out _ _ ?_ (fun hHeld => ?_)
          · exact ⟨V0.c0, V0.c1, V1.c0, V1.c1, V_r.c0, V_r.c1, V_s.c0, V_s.c1, V_z.c0, V_z.c1⟩
          clear hK K
          try simp only [Act.put, List.setIfInBounds_toArray, List.set_cons_zero, List.set_cons_succ]
          refine wpAnyH_ready (rs := [10]) (by kernel_rfl) (by simp) ?_
          refine AllReadyH.cons (o := { dst := some 115, op := Op.call { callee := Callee.value (Operand.func 38), args := #[Operand.tmp 113, Operand.tmp 114], argTypes := #[36, 36] }, type := 3, pos := "law.go:87", after := #[{ on := 8, ground := Ground.data }, { on := 9, ground := Ground.data }, { on := 7, ground := Ground.chain }, { on := 4, ground := Ground.guard }], guard := some (4, false) }) rfl (fun K hK => ?_) AllReadyH.nil
          go_simp
          go_at_call 38
          refine (HA0.out _ _ _ h_a (x_z.wh 1 (by decide))).mono ?_
          rintro e w20 ⟨rfl, b20⟩
          replace hb := bnext hb b20
          replace V0 := V0.next b20
          replace V1 := V1.next b20
          replace V_r := V_r.next b20
          replace V_s := V_s.next b20
          replace V_z := V_z.next b20
          replace x_r := x_r.next b20
          replace x_s := x_s.next b20
          replace x_z := x_z.next b20
          replace h_a := h_a.below b20
          replace h_b := h_b.below b20
          clear hHeld
          refine hK.out _ _ ?_ (fun hHeld => ?_)
          · exact ⟨V0.c0, V0.c1, V1.c0, V1.c1, V_r.c0, V_r.c1, V_s.c0, V_s.c1, V_z.c0, V_z.c1⟩
          clear hK K
          try simp only [Act.put, List.setIfInBounds_toArray, List.set_cons_zero, List.set_cons_succ]
          refine wpAnyH_take (i := 11) (oi := { dst := some 116, op := Op.binOp BinOp.eql 3 (Operand.tmp 112) (Operand.tmp 115) 3, type := 4, pos := "law.go:87", after := #[{ on := 7, ground := Ground.data }, { on := 10, ground := Ground.data }, { on := 4, ground := Ground.guard }], guard := some (4, false) }) (v := ?_) rfl (by kernel_rfl) (by kernel_rfl) (by kernel_rfl) (fun _ _ _ h => h) (Or.inl ⟨by rfl, ?_⟩) hHeld ?_
          rotate_left
          · intro w hSw
            try dsimp only at hSw
            go_simp
            try with_reducible rfl
          try simp only [Act.put, List.setIfInBounds_toArray, List.set_cons_zero, List.set_cons_succ]
          refine wpAnyH_take (i := 12) (oi := { dst := some 117, op := Op.pick (Operand.tmp 109) (Operand.const (Value.bool true)) (Operand.tmp 116), type := 4, pos := "law.go:87", after := #[{ on := 4, ground := Ground.data }, { on := 11, ground := Ground.data }], guard := none }) (v := ?_) rfl (by kernel_rfl) (by kernel_rfl) (by kernel_rfl) (fun _ _ _ h => h) (Or.inl ⟨by rfl, ?_⟩) hHeld ?_
          rotate_left
          · intro w hSw
            try dsimp only at hSw
            go_simp
            try with_reducible rfl
          try simp only [Act.put, List.setIfInBounds_toArray, List.set_cons_zero, List.set_cons_succ]
          refine wpAnyH_take (i := 13) (oi := { dst := some 118, op := Op.move (Operand.tmp 117), type := 4, pos := "law.go:87", after := #[{ on := 12, ground := Ground.data }, { on := 10, ground := Ground.chain }], guard := none }) (v := ?_) rfl (by kernel_rfl) (by kernel_rfl) (by kernel_rfl) (fun _ _ _ h => h) (Or.inl ⟨by rfl, ?_⟩) hHeld ?_
          rotate_left
          · intro w hSw
            try dsimp only at hSw
            go_simp
            try with_reducible rfl
          try simp only [Act.put, List.setIfInBounds_toArray, List.set_cons_zero, List.set_cons_succ]
          refine wpAnyH_take (i := 14) (oi := { dst := some 119, op := Op.load 36 (Operand.tmp 9), type := 36, pos := "law.go:87", after := #[{ on := 13, ground := Ground.guard }], guard := some (13, true) }) (v := ?_) rfl (by kernel_rfl) (by kernel_rfl) (by kernel_rfl) (fun _ _ _ h => h) (Or.inl ⟨by rfl, ?_⟩) hHeld ?_
          rotate_left
          · intro w hSw
            try dsimp only at hSw
            go_simp
            try with_reducible rfl
          try simp only [Act.put, List.setIfInBounds_toArray, List.set_cons_zero, List.set_cons_succ]
          refine wpAnyH_take (i := 15) (oi := { dst := some 120, op := Op.load 36 (Operand.tmp 11), type := 36, pos := "law.go:87", after := #[{ on := 13, ground := Ground.guard }], guard := some (13, true) }) (v := ?_) rfl (by kernel_rfl) (by kernel_rfl) (by kernel_rfl) (fun _ _ _ h => h) (Or.inl ⟨by rfl, ?_⟩) hHeld ?_
          rotate_left
          · intro w hSw
            try dsimp only at hSw
            go_simp
            try with_reducible rfl
          try simp only [Act.put, List.setIfInBounds_toArray, List.set_cons_zero, List.set_cons_succ]
          refine wpAnyH_ready (rs := [16]) (by kernel_rfl) (by simp) ?_
          refine AllReadyH.cons (o := { dst := some 121, op := Op.call { callee := Callee.value (Operand.func 38), args := #[Operand.tmp 119, Operand.tmp 120], argTypes := #[36, 36] }, type := 3, pos := "law.go:87", after := #[{ on := 14, ground := Ground.data }, { on := 15, ground := Ground.data }, { on := 13, ground := Ground.chain }, { on := 13, ground := Ground.guard }], guard := some (13, true) }) rfl (fun K hK => ?_) AllReadyH.nil
          go_simp
          go_at_call 38
          refine (HS0.out _ _ _ (x_s.wh 24 HL.out.2.2.2.1) (x_z.wh 1 (by decide))).mono ?_
          rintro e w21 ⟨rfl, b21⟩
          replace hb := bnext hb b21
          replace V0 := V0.next b21
          replace V1 := V1.next b21
          replace V_r := V_r.next b21
          replace V_s := V_s.next b21
          replace V_z := V_z.next b21
          replace x_r := x_r.next b21
          replace x_s := x_s.next b21
          replace x_z := x_z.next b21
          replace h_a := h_a.below b21
          replace h_b := h_b.below b21
          clear hHeld
          refine hK.out _ _ ?_ (fun hHeld => ?_)
          · exact ⟨V0.c0, V0.c1, V1.c0, V1.c1, V_r.c0, V_r.c1, V_s.c0, V_s.c1, V_z.c0, V_z.c1⟩
          clear hK K
          try simp only [Act.put, List.setIfInBounds_toArray, List.set_cons_zero, List.set_cons_succ]
          refine wpAnyH_take (i := 17) (oi := { dst := some 122, op := Op.binOp BinOp.eql 3 (Operand.tmp 121) (Operand.const (Value.int IntKind.i64 0)) 3, type := 4, pos := "law.go:87", after := #[{ on := 16, ground := Ground.data }, { on := 13, ground := Ground.guard }], guard := some (13, true) }) (v := ?_) rfl (by kernel_rfl) (by kernel_rfl) (by kernel_rfl) (fun _ _ _ h => h) (Or.inl ⟨by rfl, ?_⟩) hHeld ?_
          rotate_left
          · intro w hSw
            try dsimp only at hSw
            go_simp
            try with_reducible rfl
          try simp only [Act.put, List.setIfInBounds_toArray, List.set_cons_zero, List.set_cons_succ]
          refine wpAnyH_take (i := 18) (oi := { dst := some 123, op := Op.move (Operand.tmp 122), type := 4, pos := "law.go:87", after := #[{ on := 17, ground := Ground.data }, { on := 16, ground := Ground.chain }, { on := 13, ground := Ground.guard }], guard := some (13, true) }) (v := ?_) rfl (by kernel_rfl) (by kernel_rfl) (by kernel_rfl) (fun _ _ _ h => h) (Or.inl ⟨by rfl, ?_⟩) hHeld ?_
          rotate_left
          · intro w hSw
            try dsimp only at hSw
            go_simp
            try with_reducible rfl
          try simp only [Act.put, List.setIfInBounds_toArray, List.set_cons_zero, List.set_cons_succ]
          refine wpAnyH_take (i := 19) (oi := { dst := some 124, op := Op.load 36 (Operand.tmp 9), type := 36, pos := "law.go:87", after := #[{ on := 18, ground := Ground.guard }], guard := some (18, false) }) (v := undef) rfl (by kernel_rfl) (by kernel_rfl) (by kernel_rfl) (fun _ _ _ h => h) (Or.inr ⟨by rfl, rfl⟩) hHeld ?_
          try simp only [Act.put, List.setIfInBounds_toArray, List.set_cons_zero, List.set_cons_succ]
          refine wpAnyH_take (i := 20) (oi := { dst := some 125, op := Op.load 36 (Operand.tmp 11), type := 36, pos := "law.go:87", after := #[{ on := 18, ground := Ground.guard }], guard := some (18, false) }) (v := undef) rfl (by kernel_rfl) (by kernel_rfl) (by kernel_rfl) (fun _ _ _ h => h) (Or.inr ⟨by rfl, rfl⟩) hHeld ?_
          try simp only [Act.put, List.setIfInBounds_toArray, List.set_cons_zero, List.set_cons_succ]
          refine wpAnyH_take (i := 22) (oi := { dst := some 127, op := Op.load 36 (Operand.tmp 3), type := 36, pos := "law.go:87", after := #[{ on := 18, ground := Ground.guard }], guard := some (18, false) }) (v := undef) rfl (by kernel_rfl) (by kernel_rfl) (by kernel_rfl) (fun _ _ _ h => h) (Or.inr ⟨by rfl, rfl⟩) hHeld ?_
          try simp only [Act.put, List.setIfInBounds_toArray, List.set_cons_zero, List.set_cons_succ]
          refine wpAnyH_take (i := 23) (oi := { dst := some 128, op := Op.load 36 (Operand.tmp 11), type := 36, pos := "law.go:87", after := #[{ on := 18, ground := Ground.guard }], guard := some (18, false) }) (v := undef) rfl (by kernel_rfl) (by kernel_rfl) (by kernel_rfl) (fun _ _ _ h => h) (Or.inr ⟨by rfl, rfl⟩) hHeld ?_
          try simp only [Act.put, List.setIfInBounds_toArray, List.set_cons_zero, List.set_cons_succ]
          refine wpAnyH_ready (rs := [21]) (by kernel_rfl) (by simp) ?_
          refine AllReadyH.cons (o := { dst := some 126, op := Op.call { callee := Callee.value (Operand.func 38), args := #[Operand.tmp 124, Operand.tmp 125], argTypes := #[36, 36] }, type := 3, pos := "law.go:87", after := #[{ on := 19, ground := Ground.data }, { on := 20, ground := Ground.data }, { on := 18, ground := Ground.chain }, { on := 18, ground := Ground.guard }], guard := some (18, false) }) rfl (fun K hK => ?_) AllReadyH.nil
          go_simp
          clear hHeld
          refine hK.out _ _ ?_ (fun hHeld => ?_)
          · exact ⟨V0.c0, V0.c1, V1.c0, V1.c1, V_r.c0, V_r.c1, V_s.c0, V_s.c1, V_z.c0, V_z.c1⟩
          clear hK K
          try simp only [Act.put, List.setIfInBounds_toArray, List.set_cons_zero, List.set_cons_succ]
          refine wpAnyH_ready (rs := [24]) (by kernel_rfl) (by simp) ?_
          refine AllReadyH.cons (o := { dst := some 129, op := Op.call { callee := Callee.value (Operand.func 38), args := #[Operand.tmp 127, Operand.tmp 128], argTypes := #[36, 36] }, type := 3, pos := "law.go:87", after := #[{ on := 22, ground := Ground.data }, { on := 23, ground := Ground.data }, { on := 21, ground := Ground.chain }, { on := 18, ground := Ground.guard }], guard := some (18, false) }) rfl (fun K hK => ?_) AllReadyH.nil
          go_simp
          clear hHeld
          refine hK.out _ _ ?_ (fun hHeld => ?_)
          · exact ⟨V0.c0, V0.c1, V1.c0, V1.c1, V_r.c0, V_r.c1, V_s.c0, V_s.c1, V_z.c0, V_z.c1⟩
          clear hK K
          try simp only [Act.put, List.setIfInBounds_toArray, List.set_cons_zero, List.set_cons_succ]
          refine wpAnyH_take (i := 25) (oi := { dst := some 130, op := Op.binOp BinOp.eql 3 (Operand.tmp 126) (Operand.tmp 129) 3, type := 4, pos := "law.go:87", after := #[{ on := 21, ground := Ground.data }, { on := 24, ground := Ground.data }, { on := 18, ground := Ground.guard }], guard := some (18, false) }) (v := undef) rfl (by kernel_rfl) (by kernel_rfl) (by kernel_rfl) (fun _ _ _ h => h) (Or.inr ⟨by rfl, rfl⟩) hHeld ?_
          try simp only [Act.put, List.setIfInBounds_toArray, List.set_cons_zero, List.set_cons_succ]
          refine wpAnyH_take (i := 26) (oi := { dst := some 131, op := Op.pick (Operand.tmp 123) (Operand.const (Value.bool true)) (Operand.tmp 130), type := 4, pos := "law.go:87", after := #[{ on := 18, ground := Ground.data }, { on := 25, ground := Ground.data }, { on := 13, ground := Ground.guard }], guard := some (13, true) }) (v := ?_) rfl (by kernel_rfl) (by kernel_rfl) (by kernel_rfl) (fun _ _ _ h => h) (Or.inl ⟨by rfl, ?_⟩) hHeld ?_
          rotate_left
          · intro w hSw
            try dsimp only at hSw
            go_simp
            try with_reducible rfl
          try simp only [Act.put, List.setIfInBounds_toArray, List.set_cons_zero, List.set_cons_succ]
          refine wpAnyH_take (i := 27) (oi := { dst := some 132, op := Op.pick (Operand.tmp 118) (Operand.tmp 131) (Operand.const (Value.bool false)), type := 4, pos := "law.go:87", after := #[{ on := 13, ground := Ground.data }, { on := 26, ground := Ground.data }], guard := none }) (v := ?_) rfl (by kernel_rfl) (by kernel_rfl) (by kernel_rfl) (fun _ _ _ h => h) (Or.inl ⟨by rfl, ?_⟩) hHeld ?_
          rotate_left
          · intro w hSw
            try dsimp only at hSw
            go_simp
            try with_reducible rfl
          try simp only [Act.put, List.setIfInBounds_toArray, List.set_cons_zero, List.set_cons_succ]
          refine wpAnyH_take (i := 28) (oi := { dst := some 133, op := Op.move (Operand.tmp 132), type := 4, pos := "law.go:87", after := #[{ on := 27, ground := Ground.data }, { on := 24, ground := Ground.chain }], guard := none }) (v := ?_) rfl (by kernel_rfl) (by kernel_rfl) (by kernel_rfl) (fun _ _ _ h => h) (Or.inl ⟨by rfl, ?_⟩) hHeld ?_
          rotate_left
          · intro w hSw
            try dsimp only at hSw
            go_simp
            try with_reducible rfl
          try simp only [Act.put, List.setIfInBounds_toArray, List.set_cons_zero, List.set_cons_succ]
          refine wpAnyH_ready (rs := [29]) (by kernel_rfl) (by simp) ?_
          refine AllReadyH.cons (o := { dst := some 134, op := Op.call { callee := Callee.value (Operand.func 22), args := #[], argTypes := #[] }, type := 4, pos := "law.go:87", after := #[{ on := 28, ground := Ground.chain }, { on := 28, ground := Ground.guard }], guard := some (28, true) }) rfl (fun K hK => ?_) AllReadyH.nil
          go_simp
          go_at_call 22
          refine (wlives_yes _).mono ?_
          rintro e w22 ⟨rfl, b22⟩
          replace hb := bnext hb b22
          replace V0 := V0.next b22
          replace V1 := V1.next b22
          replace V_r := V_r.next b22
          replace V_s := V_s.next b22
          replace V_z := V_z.next b22
          replace x_r := x_r.next b22
          replace x_s := x_s.next b22
          replace x_z := x_z.next b22
          replace h_a := h_a.below b22
          replace h_b := h_b.below b22
          clear hHeld
          refine hK.out _ _ ?_ (fun hHeld => ?_)
          · exact ⟨V0.c0, V0.c1, V1.c0, V1.c1, V_r.c0, V_r.c1, V_s.c0, V_s.c1, V_z.c0, V_z.c1⟩
          clear hK K
          try simp only [Act.put, List.setIfInBounds_toArray, List.set_cons_zero, List.set_cons_succ]
          refine wpAnyH_take (i := 30) (oi := { dst := some 135, op := Op.pick (Operand.tmp 133) (Operand.tmp 134) (Operand.const (Value.bool false)), type := 4, pos := "law.go:87", after := #[{ on := 28, ground := Ground.data }, { on := 29, ground := Ground.data }], guard := none }) (v := ?_) rfl (by kernel_rfl) (by kernel_rfl) (by kernel_rfl) (fun _ _ _ h => h) (Or.inl ⟨by rfl, ?_⟩) hHeld ?_
          rotate_left
          · intro w hSw
            try dsimp only at hSw
            go_simp
            try with_reducible rfl
          try simp only [Act.put, List.setIfInBounds_toArray, List.set_cons_zero, List.set_cons_succ]
          refine wpAnyH_ready (rs := [31]) (by kernel_rfl) (by simp) ?_
          refine AllReadyH.cons (o := _) rfl (fun K hK => ?_) AllReadyH.nil
          go_simp
          clear hHeld
          refine hK.out _ _ ?_ (fun hHeld => ?_)
          · exact ⟨V0.c0, V0.c1, V1.c0, V1.c1, V_r.c0, V_r.c1, V_s.c0, V_s.c1, V_z.c0, V_z.c1⟩
          clear hK K
          try simp only [Act.put, List.setIfInBounds_toArray, List.set_cons_zero, List.set_cons_succ]
          refine wpAnyH_done (by kernel_rfl) ?_ _
          refine NoPanic.normal ?_
          go_wp2_with fail
          go_ret
          exact ⟨rfl, hb⟩
        · have HR0 := Lib.hid (fun (W : World) (u v : Value) (hu : Wh W u R 24) (hv : Wh W v 0 1) => wcmp_num hu hv (by decide) (by decide))
          have HS0 := Lib.hid (fun (W : World) (u v : Value) (hu : Wh W u S 24) (hv : Wh W v 0 1) => wcmp_num hu hv (by decide) (by decide))
          have HA0 := Lib.hid (fun (W : World) (u v : Value) (hu : Wh W u A 24) (hv : Wh W v 0 1) => wcmp_num hu hv (by decide) (by decide))
          have hra := HM.out.2.2.1.resolve_left hR
          have hn1 : cmpZ A 0 ≠ 0 := fun h => hR ((cmpZ_zero R 0).1 (hra.trans h))
          rw [hra] at HR0
          clear hra
          generalize cmpZ A 0 = ca at *
          have hca : (ca == 0) = false := beq_eq_false_iff_ne.2 hn1
          clear hn1
          have hsb := HM.out.2.2.2.resolve_left hS
          rw [hsb, HCb.out] at HS0
          clear hsb
          clear hR hS HM
          go_wp2_with fail
          clear V00 V01 V10 V11 V_r0 V_r1 V_s0 V_s1 V_z0 V_z1
          replace V0 := V0.next (Below.refl _ _).drew
          replace V1 := V1.next (Below.refl _ _).drew
          replace V_r := V_r.next (Below.refl _ _).drew
          replace V_s := V_s.next (Below.refl _ _).drew
          replace V_z := V_z.next (Below.refl _ _).drew
          replace x_r := x_r.next (Below.refl _ _).drew
          replace x_s := x_s.next (Below.refl _ _).drew
          replace x_z := x_z.next (Below.refl _ _).drew
          replace h_a := h_a.below (Below.refl _ _).drew
          replace h_b := h_b.below (Below.refl _ _).drew
          replace hb := hb.drew
          go_region_held3 (fun w' => w'.cell? ⟨w.heap.size, 0, none⟩ = some (.bool s0) ∧ w'.cell? ⟨w.heap.size, 1, none⟩ = some (.slice a0 len0 cap0) ∧ w'.cell? ⟨w.heap.size + 1, 0, none⟩ = some (.bool s1) ∧ w'.cell? ⟨w.heap.size + 1, 1, none⟩ = some (.slice a1 len1 cap1) ∧ w'.cell? ⟨w1.heap.size + 1, 0, none⟩ = some (.bool s_r) ∧ w'.cell? ⟨w1.heap.size + 1, 1, none⟩ = some (.slice A_r n_r c_r) ∧ w'.cell? ⟨w2.heap.size + 1, 0, none⟩ = some (.bool s_s) ∧ w'.cell? ⟨w2.heap.size + 1, 1, none⟩ = some (.slice A_s n_s c_s) ∧ w'.cell? ⟨w3.heap.size, 0, none⟩ = some (.bool s_z) ∧ w'.cell? ⟨w3.heap.size, 1, none⟩ = some (.slice A_z n_z c_z))
            (exact ⟨V0.c0, V0.c1, V1.c0, V1.c1, V_r.c0, V_r.c1, V_s.c0, V_s.c1, V_z.c0, V_z.c1⟩)
            (first
            | (go_at_call 38; (fail_if_success (have hh := b18)); refine (HR0.out _ _ _ (x_r.wh 24 HL.out.2.2.1) (x_z.wh 1 (by decide))).mono ?_; rintro e w18 ⟨rfl, b18⟩; replace hb := bnext hb b18; replace V0 := V0.next b18; replace V1 := V1.next b18; replace V_r := V_r.next b18; replace V_s := V_s.next b18; replace V_z := V_z.next b18; replace x_r := x_r.next b18; replace x_s := x_s.next b18; replace x_z := x_z.next b18; replace h_a := h_a.below b18; replace h_b := h_b.below b18)
            | (go_at_call 38; (fail_if_success (have hh := b19)); refine (HR0.out _ _ _ (x_r.wh 24 HL.out.2.2.1) (x_z.wh 1 (by decide))).mono ?_; rintro e w19 ⟨rfl, b19⟩; replace hb := bnext hb b19; replace V0 := V0.next b19; replace V1 := V1.next b19; replace V_r := V_r.next b19; replace V_s := V_s.next b19; replace V_z := V_z.next b19; replace x_r := x_r.next b19; replace x_s := x_s.next b19; replace x_z := x_z.next b19; replace h_a := h_a.below b19; replace h_b := h_b.below b19)
            | (go_at_call 38; (fail_if_success (have hh := b20)); refine (HA0.out _ _ _ h_a (x_z.wh 1 (by decide))).mono ?_; rintro e w20 ⟨rfl, b20⟩; replace hb := bnext hb b20; replace V0 := V0.next b20; replace V1 := V1.next b20; replace V_r := V_r.next b20; replace V_s := V_s.next b20; replace V_z := V_z.next b20; replace x_r := x_r.next b20; replace x_s := x_s.next b20; replace x_z := x_z.next b20; replace h_a := h_a.below b20; replace h_b := h_b.below b20)
            | (go_at_call 38; (fail_if_success (have hh := b21)); refine (HS0.out _ _ _ (x_s.wh 24 HL.out.2.2.2.1) (x_z.wh 1 (by decide))).mono ?_; rintro e w21 ⟨rfl, b21⟩; replace hb := bnext hb b21; replace V0 := V0.next b21; replace V1 := V1.next b21; replace V_r := V_r.next b21; replace V_s := V_s.next b21; replace V_z := V_z.next b21; replace x_r := x_r.next b21; replace x_s := x_s.next b21; replace x_z := x_z.next b21; replace h_a := h_a.below b21; replace h_b := h_b.below b21)
            | (go_at_call 38; (fail_if_success (have hh := b22)); refine (HS0.out _ _ _ (x_s.wh 24 HL.out.2.2.2.1) (x_z.wh 1 (by decide))).mono ?_; rintro e w22 ⟨rfl, b22⟩; replace hb := bnext hb b22; replace V0 := V0.next b22; replace V1 := V1.next b22; replace V_r := V_r.next b22; replace V_s := V_s.next b22; replace V_z := V_z.next b22; replace x_r := x_r.next b22; replace x_s := x_s.next b22; replace x_z := x_z.next b22; replace h_a := h_a.below b22; replace h_b := h_b.below b22)
            | (go_at_call 38; (fail_if_success (have hh := b23)); refine (HCB.out _ _ _ h_b (x_z.wh 1 (by decide))).mono ?_; rintro e w23 ⟨rfl, b23⟩; replace hb := bnext hb b23; replace V0 := V0.next b23; replace V1 := V1.next b23; replace V_r := V_r.next b23; replace V_s := V_s.next b23; replace V_z := V_z.next b23; replace x_r := x_r.next b23; replace x_s := x_s.next b23; replace x_z := x_z.next b23; replace h_a := h_a.below b23; replace h_b := h_b.below b23)
            | (go_at_call 22; (fail_if_success (have hh := b24)); refine (wlives_yes _).mono ?_; rintro e w24 ⟨rfl, b24⟩; replace hb := bnext hb b24; replace V0 := V0.next b24; replace V1 := V1.next b24; replace V_r := V_r.next b24; replace V_s := V_s.next b24; replace V_z := V_z.next b24; replace x_r := x_r.next b24; replace x_s := x_s.next b24; replace x_z := x_z.next b24; replace h_a := h_a.below b24; replace h_b := h_b.below b24))
          go_wp2_with fail
          go_ret
          exact ⟨rfl, hb⟩
    · have V00 := V0.c0
      have V01 := V0.c1
      have V10 := V1.c0
      have V11 := V1.c1
      have V_r0 := V_r.c0
      have V_r1 := V_r.c1
      have V_s0 := V_s.c0
      have V_s1 := V_s.c1
      have V_z0 := V_z.c0
      have V_z1 := V_z.c1
      have lt_V0 := V0.lt
      have lt_V1 := V1.lt
      have lt_V_r := V_r.lt
      have lt_V_s := V_s.lt
      have lt_V_z := V_z.lt
      have bl : Below w10.heap.size w10 (w10.alloc (.cells #[.bool s1, .slice a1 len1 cap1] 36)) := bnew (Below.refl _ _) _
      have V_n := Var.mk_ w10 (.bool s1) (.slice a1 len1 cap1)
      replace hb := bnext hb bl
      clear V00 V01 V10 V11 V_r0 V_r1 V_s0 V_s1 V_z0 V_z1
      replace V0 := V0.next bl
      replace V1 := V1.next bl
      replace V_r := V_r.next bl
      replace V_s := V_s.next bl
      replace V_z := V_z.next bl
      replace x_r := x_r.next bl
      replace x_s := x_s.next bl
      replace x_z := x_z.next bl
      replace h_a := h_a.below bl
      replace h_b := h_b.below bl
      have V00 := V0.c0
      have V01 := V0.c1
      have V10 := V1.c0
      have V11 := V1.c1
      have V_r0 := V_r.c0
      have V_r1 := V_r.c1
      have V_s0 := V_s.c0
      have V_s1 := V_s.c1
      have V_z0 := V_z.c0
      have V_z1 := V_z.c1
      clear bl
      clear V00 V01 V10 V11 V_r0 V_r1 V_s0 V_s1 V_z0 V_z1
      have V00 := V0.c0
      have V01 := V0.c1
      have V10 := V1.c0
      have V11 := V1.c1
      have V_r0 := V_r.c0
      have V_r1 := V_r.c1
      have V_s0 := V_s.c0
      have V_s1 := V_s.c1
      have V_z0 := V_z.c0
      have V_z1 := V_z.c1
      have V_n0 := V_n.c0
      have V_n1 := V_n.c1
      go_wp2_with fail
      refine (HCB.out _ _ _ h_b (x_z.wh 1 (by decide))).mono ?_
      rintro e w11 ⟨rfl, b11⟩
      replace hb := bnext hb b11
      clear V00 V01 V10 V11 V_r0 V_r1 V_s0 V_s1 V_z0 V_z1 V_n0 V_n1
      replace V0 := V0.next b11
      replace V1 := V1.next b11
      replace V_r := V_r.next b11
      replace V_s := V_s.next b11
      replace V_z := V_z.next b11
      replace V_n := V_n.next b11
      replace x_r := x_r.next b11
      replace x_s := x_s.next b11
      replace x_z := x_z.next b11
      replace h_a := h_a.below b11
      replace h_b := h_b.below b11
      have V00 := V0.c0
      have V01 := V0.c1
      have V10 := V1.c0
      have V11 := V1.c1
      have V_r0 := V_r.c0
      have V_r1 := V_r.c1
      have V_s0 := V_s.c0
      have V_s1 := V_s.c1
      have V_z0 := V_z.c0
      have V_z1 := V_z.c1
      have V_n0 := V_n.c0
      have V_n1 := V_n.c1
      clear b11
      go_wp2_with fail
      refine (wneg_num h_b (by decide)).mono ?_
      rintro e w12 ⟨v_l, rfl, x_l, b12⟩
      replace hb := bnext hb b12
      clear V00 V01 V10 V11 V_r0 V_r1 V_s0 V_s1 V_z0 V_z1 V_n0 V_n1
      replace V0 := V0.next b12
      replace V1 := V1.next b12
      replace V_r := V_r.next b12
      replace V_s := V_s.next b12
      replace V_z := V_z.next b12
      replace V_n := V_n.next b12
      replace x_r := x_r.next b12
      replace x_s := x_s.next b12
      replace x_z := x_z.next b12
      replace h_a := h_a.below b12
      replace h_b := h_b.below b12
      have V00 := V0.c0
      have V01 := V0.c1
      have V10 := V1.c0
      have V11 := V1.c1
      have V_r0 := V_r.c0
      have V_r1 := V_r.c1
      have V_s0 := V_s.c0
      have V_s1 := V_s.c1
      have V_z0 := V_z.c0
      have V_z1 := V_z.c1
      have V_n0 := V_n.c0
      have V_n1 := V_n.c1
      clear b12
      have hsg : (B.natAbs : Int) = B := by have : ¬ B < 0 := fun h => by { have h2 := (cmpZ_lt B 0).2 h; rw [HCb.out] at h2; omega }; omega
      obtain ⟨s_l, A_l, n_l, c_l, rfl, g_l⟩ := x_l.opened
      have bl : Below w12.heap.size w12 (w12.alloc (.cells #[.bool s_l, .slice A_l n_l c_l] 36)) := (bnew (Below.refl _ _) _)
      have V_l := Var.mk_ w12 (.bool s_l) (.slice A_l n_l c_l)
      replace hb := bnext hb bl
      clear V00 V01 V10 V11 V_r0 V_r1 V_s0 V_s1 V_z0 V_z1 V_n0 V_n1
      replace V0 := V0.next bl
      replace V1 := V1.next bl
      replace V_r := V_r.next bl
      replace V_s := V_s.next bl
      replace V_z := V_z.next bl
      replace V_n := V_n.next bl
      replace x_r := x_r.next bl
      replace x_s := x_s.next bl
      replace x_z := x_z.next bl
      replace x_l := x_l.next bl
      replace h_a := h_a.below bl
      replace h_b := h_b.below bl
      have V00 := V0.c0
      have V01 := V0.c1
      have V10 := V1.c0
      have V11 := V1.c1
      have V_r0 := V_r.c0
      have V_r1 := V_r.c1
      have V_s0 := V_s.c0
      have V_s1 := V_s.c1
      have V_z0 := V_z.c0
      have V_z1 := V_z.c1
      have V_n0 := V_n.c0
      have V_n1 := V_n.c1
      clear bl
      clear g_l
      clear V00 V01 V10 V11 V_r0 V_r1 V_s0 V_s1 V_z0 V_z1 V_n0 V_n1
      have V00 := V0.c0
      have V01 := V0.c1
      have V10 := V1.c0
      have V11 := V1.c1
      have V_r0 := V_r.c0
      have V_r1 := V_r.c1
      have V_s0 := V_s.c0
      have V_s1 := V_s.c1
      have V_z0 := V_z.c0
      have V_z1 := V_z.c1
      have V_n0 := V_n.c0
      have V_n1 := V_n.c1
      have V_l0 := V_l.c0
      have V_l1 := V_l.c1
      have C1 := fun (W : World) (u v : Value) (hu : Wh W u R 24) (hv : Wh W v B 24) => wcmp_num hu hv (by decide) (by decide)
      have C2 := fun (W : World) (u v : Value) (hu : Wh W u R 24) (hv : Wh W v (-B) 24) => wcmp_num hu hv (by decide) (by decide)
      have C3 := fun (W : World) (u v : Value) (hu : Wh W u S 24) (hv : Wh W v B 24) => wcmp_num hu hv (by decide) (by decide)
      have C4 := fun (W : World) (u v : Value) (hu : Wh W u S 24) (hv : Wh W v (-B) 24) => wcmp_num hu hv (by decide) (by decide)
      have m1 := HM.out.1
      have m2 := HM.out.2.1
      rw [hsg] at m1 m2
      rw [show cmpZ R B = -1 by unfold cmpZ; rw [if_pos m1.1]] at C1
      rw [show cmpZ R (-B) = 1 by unfold cmpZ; rw [if_neg (by omega), if_pos m1.2]] at C2
      rw [show cmpZ S B = -1 by unfold cmpZ; rw [if_pos m2.1]] at C3
      rw [show cmpZ S (-B) = 1 by unfold cmpZ; rw [if_neg (by omega), if_pos m2.2]] at C4
      have HCC := Lib.hid (And.intro C1 (And.intro C2 (And.intro C3 C4)))
      clear C1 C2 C3 C4 m1 m2 hsg
      go_wp2_with fail
      refine (HCC.out.1 _ _ _ (x_r.wh 24 HL.out.2.2.1) h_b).mono ?_
      rintro e w13 ⟨rfl, b13⟩
      replace hb := bnext hb b13
      clear V00 V01 V10 V11 V_r0 V_r1 V_s0 V_s1 V_z0 V_z1 V_n0 V_n1 V_l0 V_l1
      replace V0 := V0.next b13
      replace V1 := V1.next b13
      replace V_r := V_r.next b13
      replace V_s := V_s.next b13
      replace V_z := V_z.next b13
      replace V_n := V_n.next b13
      replace V_l := V_l.next b13
      replace x_r := x_r.next b13
      replace x_s := x_s.next b13
      replace x_z := x_z.next b13
      replace x_l := x_l.next b13
      replace h_a := h_a.below b13
      replace h_b := h_b.below b13
      have V00 := V0.c0
      have V01 := V0.c1
      have V10 := V1.c0
      have V11 := V1.c1
      have V_r0 := V_r.c0
      have V_r1 := V_r.c1
      have V_s0 := V_s.c0
      have V_s1 := V_s.c1
      have V_z0 := V_z.c0
      have V_z1 := V_z.c1
      have V_n0 := V_n.c0
      have V_n1 := V_n.c1
      have V_l0 := V_l.c0
      have V_l1 := V_l.c1
      clear b13
      go_wp2_with fail
      refine (HCC.out.2.1 _ _ _ (x_r.wh 24 HL.out.2.2.1) (x_l.wh 24 (lt_negZ HLb.out))).mono ?_
      rintro e w14 ⟨rfl, b14⟩
      replace hb := bnext hb b14
      clear V00 V01 V10 V11 V_r0 V_r1 V_s0 V_s1 V_z0 V_z1 V_n0 V_n1 V_l0 V_l1
      replace V0 := V0.next b14
      replace V1 := V1.next b14
      replace V_r := V_r.next b14
      replace V_s := V_s.next b14
      replace V_z := V_z.next b14
      replace V_n := V_n.next b14
      replace V_l := V_l.next b14
      replace x_r := x_r.next b14
      replace x_s := x_s.next b14
      replace x_z := x_z.next b14
      replace x_l := x_l.next b14
      replace h_a := h_a.below b14
      replace h_b := h_b.below b14
      have V00 := V0.c0
      have V01 := V0.c1
      have V10 := V1.c0
      have V11 := V1.c1
      have V_r0 := V_r.c0
      have V_r1 := V_r.c1
      have V_s0 := V_s.c0
      have V_s1 := V_s.c1
      have V_z0 := V_z.c0
      have V_z1 := V_z.c1
      have V_n0 := V_n.c0
      have V_n1 := V_n.c1
      have V_l0 := V_l.c0
      have V_l1 := V_l.c1
      clear b14
      go_wp2_with fail
      refine (HCC.out.2.2.1 _ _ _ (x_s.wh 24 HL.out.2.2.2.1) h_b).mono ?_
      rintro e w15 ⟨rfl, b15⟩
      replace hb := bnext hb b15
      clear V00 V01 V10 V11 V_r0 V_r1 V_s0 V_s1 V_z0 V_z1 V_n0 V_n1 V_l0 V_l1
      replace V0 := V0.next b15
      replace V1 := V1.next b15
      replace V_r := V_r.next b15
      replace V_s := V_s.next b15
      replace V_z := V_z.next b15
      replace V_n := V_n.next b15
      replace V_l := V_l.next b15
      replace x_r := x_r.next b15
      replace x_s := x_s.next b15
      replace x_z := x_z.next b15
      replace x_l := x_l.next b15
      replace h_a := h_a.below b15
      replace h_b := h_b.below b15
      have V00 := V0.c0
      have V01 := V0.c1
      have V10 := V1.c0
      have V11 := V1.c1
      have V_r0 := V_r.c0
      have V_r1 := V_r.c1
      have V_s0 := V_s.c0
      have V_s1 := V_s.c1
      have V_z0 := V_z.c0
      have V_z1 := V_z.c1
      have V_n0 := V_n.c0
      have V_n1 := V_n.c1
      have V_l0 := V_l.c0
      have V_l1 := V_l.c1
      clear b15
      go_wp2_with fail
      refine (HCC.out.2.2.2 _ _ _ (x_s.wh 24 HL.out.2.2.2.1) (x_l.wh 24 (lt_negZ HLb.out))).mono ?_
      rintro e w16 ⟨rfl, b16⟩
      replace hb := bnext hb b16
      clear V00 V01 V10 V11 V_r0 V_r1 V_s0 V_s1 V_z0 V_z1 V_n0 V_n1 V_l0 V_l1
      replace V0 := V0.next b16
      replace V1 := V1.next b16
      replace V_r := V_r.next b16
      replace V_s := V_s.next b16
      replace V_z := V_z.next b16
      replace V_n := V_n.next b16
      replace V_l := V_l.next b16
      replace x_r := x_r.next b16
      replace x_s := x_s.next b16
      replace x_z := x_z.next b16
      replace x_l := x_l.next b16
      replace h_a := h_a.below b16
      replace h_b := h_b.below b16
      have V00 := V0.c0
      have V01 := V0.c1
      have V10 := V1.c0
      have V11 := V1.c1
      have V_r0 := V_r.c0
      have V_r1 := V_r.c1
      have V_s0 := V_s.c0
      have V_s1 := V_s.c1
      have V_z0 := V_z.c0
      have V_z1 := V_z.c1
      have V_n0 := V_n.c0
      have V_n1 := V_n.c1
      have V_l0 := V_l.c0
      have V_l1 := V_l.c1
      clear b16
      clear HCC hway
      clear V_n0 V_n1
      clear V_l0 V_l1
      clear V_n V_l x_l
      by_cases hR : R = 0
      · by_cases hS : S = 0
        · have HR0 := Lib.hid (fun (W : World) (u v : Value) (hu : Wh W u R 24) (hv : Wh W v 0 1) => wcmp_num hu hv (by decide) (by decide))
          have HS0 := Lib.hid (fun (W : World) (u v : Value) (hu : Wh W u S 24) (hv : Wh W v 0 1) => wcmp_num hu hv (by decide) (by decide))
          have HA0 := Lib.hid (fun (W : World) (u v : Value) (hu : Wh W u A 24) (hv : Wh W v 0 1) => wcmp_num hu hv (by decide) (by decide))
          rw [(cmpZ_zero R 0).2 hR] at HR0
          rw [(cmpZ_zero S 0).2 hS] at HS0
          clear hR hS HM
          go_wp2_with fail
          clear V00 V01 V10 V11 V_r0 V_r1 V_s0 V_s1 V_z0 V_z1
          replace V0 := V0.next (Below.refl _ _).drew
          replace V1 := V1.next (Below.refl _ _).drew
          replace V_r := V_r.next (Below.refl _ _).drew
          replace V_s := V_s.next (Below.refl _ _).drew
          replace V_z := V_z.next (Below.refl _ _).drew
          replace x_r := x_r.next (Below.refl _ _).drew
          replace x_s := x_s.next (Below.refl _ _).drew
          replace x_z := x_z.next (Below.refl _ _).drew
          replace h_a := h_a.below (Below.refl _ _).drew
          replace h_b := h_b.below (Below.refl _ _).drew
          replace hb := hb.drew
          refine wp_region_noPanic ?_
          refine wp_region_held_drew (S := fun w' => w'.cell? ⟨w.heap.size, 0, none⟩ = some (.bool s0) ∧ w'.cell? ⟨w.heap.size, 1, none⟩ = some (.slice a0 len0 cap0) ∧ w'.cell? ⟨w.heap.size + 1, 0, none⟩ = some (.bool s1) ∧ w'.cell? ⟨w.heap.size + 1, 1, none⟩ = some (.slice a1 len1 cap1) ∧ w'.cell? ⟨w1.heap.size + 1, 0, none⟩ = some (.bool s_r) ∧ w'.cell? ⟨w1.heap.size + 1, 1, none⟩ = some (.slice A_r n_r c_r) ∧ w'.cell? ⟨w2.heap.size + 1, 0, none⟩ = some (.bool s_s) ∧ w'.cell? ⟨w2.heap.size + 1, 1, none⟩ = some (.slice A_s n_s c_s) ∧ w'.cell? ⟨w3.heap.size, 0, none⟩ = some (.bool s_z) ∧ w'.cell? ⟨w3.heap.size, 1, none⟩ = some (.slice A_z n_z c_z)) (by kernel_rfl) ?_ (fun hHeld => ?_)
          · exact ⟨V0.c0, V0.c1, V1.c0, V1.c1, V_r.c0, V_r.c1, V_s.c0, V_s.c1, V_z.c0, V_z.c1⟩
          refine wpAnyH_take (i := 0) (oi := { dst := some 105, op := Op.load 36 (Operand.tmp 6), type := 36, pos := "law.go:87", after := #[], guard := none }) (v := ?_) rfl (by kernel_rfl) (by kernel_rfl) (by kernel_rfl) (fun _ _ _ h => h) (Or.inl ⟨by rfl, ?_⟩) hHeld ?_
          rotate_left
          · intro w hSw
            try dsimp only at hSw
            go_simp
            try with_reducible rfl
          try simp only [Act.put, List.setIfInBounds_toArray, List.set_cons_zero, List.set_cons_succ]
          refine wpAnyH_take (i := 1) (oi := { dst := some 106, op := Op.load 36 (Operand.tmp 11), type := 36, pos := "law.go:87", after := #[], guard := none }) (v := ?_) rfl (by kernel_rfl) (by kernel_rfl) (by kernel_rfl) (fun _ _ _ h => h) (Or.inl ⟨by rfl, ?_⟩) hHeld ?_
          rotate_left
          · intro w hSw
            try dsimp only at hSw
            go_simp
            try with_reducible rfl
          try simp only [Act.put, List.setIfInBounds_toArray, List.set_cons_zero, List.set_cons_succ]
          refine wpAnyH_ready (rs := [2]) (by kernel_rfl) (by simp) ?_
          refine AllReadyH.cons (o := { dst := some 107, op := Op.call { callee := Callee.value (Operand.func 38), args := #[Operand.tmp 105, Operand.tmp 106], argTypes := #[36, 36] }, type := 3, pos := "law.go:87", after := #[{ on := 0, ground := Ground.data }, { on := 1, ground := Ground.data }], guard := none }) rfl (fun K hK => ?_) AllReadyH.nil
          go_simp
          go_at_call 38
          refine (HR0.out _ _ _ (x_r.wh 24 HL.out.2.2.1) (x_z.wh 1 (by decide))).mono ?_
          rintro e w17 ⟨rfl, b17⟩
          replace hb := bnext hb b17
          replace V0 := V0.next b17
          replace V1 := V1.next b17
          replace V_r := V_r.next b17
          replace V_s := V_s.next b17
          replace V_z := V_z.next b17
          replace x_r := x_r.next b17
          replace x_s := x_s.next b17
          replace x_z := x_z.next b17
          replace h_a := h_a.below b17
          replace h_b := h_b.below b17
          clear hHeld
          refine hK.out _ _ ?_ (fun hHeld => ?_)
          · exact ⟨V0.c0, V0.c1, V1.c0, V1.c1, V_r.c0, V_r.c1, V_s.c0, V_s.c1, V_z.c0, V_z.c1⟩
          clear hK K
          try simp only [Act.put, List.setIfInBounds_toArray, List.set_cons_zero, List.set_cons_succ]
          refine wpAnyH_take (i := 3) (oi := { dst := some 108, op := Op.binOp BinOp.eql 3 (Operand.tmp 107) (Operand.const (Value.int IntKind.i64 0)) 3, type := 4, pos := "law.go:87", after := #[{ on := 2, ground := Ground.data }], guard := none }) (v := ?_) rfl (by kernel_rfl) (by kernel_rfl) (by kernel_rfl) (fun _ _ _ h => h) (Or.inl ⟨by rfl, ?_⟩) hHeld ?_
          rotate_left
          · intro w hSw
            try dsimp only at hSw
            go_simp
            try with_reducible rfl
          try simp only [Act.put, List.setIfInBounds_toArray, List.set_cons_zero, List.set_cons_succ]
          refine wpAnyH_take (i := 4) (oi := { dst := some 109, op := Op.move (Operand.tmp 108), type := 4, pos := "law.go:87", after := #[{ on := 3, ground := Ground.data }, { on := 2, ground := Ground.chain }], guard := none }) (v := ?_) rfl (by kernel_rfl) (by kernel_rfl) (by kernel_rfl) (fun _ _ _ h => h) (Or.inl ⟨by rfl, ?_⟩) hHeld ?_
          rotate_left
          · intro w hSw
            try dsimp only at hSw
            go_simp
            try with_reducible rfl
          try simp only [Act.put, List.setIfInBounds_toArray, List.set_cons_zero, List.set_cons_succ]
          refine wpAnyH_take (i := 5) (oi := { dst := some 110, op := Op.load 36 (Operand.tmp 6), type := 36, pos := "law.go:87", after := #[{ on := 4, ground := Ground.guard }], guard := some (4, false) }) (v := undef) rfl (by kernel_rfl) (by kernel_rfl) (by kernel_rfl) (fun _ _ _ h => h) (Or.inr ⟨by rfl, rfl⟩) hHeld ?_
          try simp only [Act.put, List.setIfInBounds_toArray, List.set_cons_zero, List.set_cons_succ]
          refine wpAnyH_take (i := 6) (oi := { dst := some 111, op := Op.load 36 (Operand.tmp 11), type := 36, pos := "law.go:87", after := #[{ on := 4, ground := Ground.guard }], guard := some (4, false) }) (v := undef) rfl (by kernel_rfl) (by kernel_rfl) (by kernel_rfl) (fun _ _ _ h => h) (Or.inr ⟨by rfl, rfl⟩) hHeld ?_
          try simp only [Act.put, List.setIfInBounds_toArray, List.set_cons_zero, List.set_cons_succ]
          refine wpAnyH_take (i := 8) (oi := { dst := some 113, op := Op.load 36 (Operand.tmp 2), type := 36, pos := "law.go:87", after := #[{ on := 4, ground := Ground.guard }], guard := some (4, false) }) (v := undef) rfl (by kernel_rfl) (by kernel_rfl) (by kernel_rfl) (fun _ _ _ h => h) (Or.inr ⟨by rfl, rfl⟩) hHeld ?_
          try simp only [Act.put, List.setIfInBounds_toArray, List.set_cons_zero, List.set_cons_succ]
          refine wpAnyH_take (i := 9) (oi := { dst := some 114, op := Op.load 36 (Operand.tmp 11), type := 36, pos := "law.go:87", after := #[{ on := 4, ground := Ground.guard }], guard := some (4, false) }) (v := undef) rfl (by kernel_rfl) (by kernel_rfl) (by kernel_rfl) (fun _ _ _ h => h) (Or.inr ⟨by rfl, rfl⟩) hHeld ?_
          try simp only [Act.put, List.setIfInBounds_toArray, List.set_cons_zero, List.set_cons_succ]
          refine wpAnyH_ready (rs := [7]) (by kernel_rfl) (by simp) ?_
          refine AllReadyH.cons (o := { dst := some 112, op := Op.call { callee := Callee.value (Operand.func 38), args := #[Operand.tmp 110, Operand.tmp 111], argTypes := #[36, 36] }, type := 3, pos := "law.go:87", after := #[{ on := 5, ground := Ground.data }, { on := 6, ground := Ground.data }, { on := 4, ground := Ground.chain }, { on := 4, ground := Ground.guard }], guard := some (4, false) }) rfl (fun K hK => ?_) AllReadyH.nil
          go_simp
          clear hHeld
          refine hK.out _ _ ?_ (fun hHeld => ?_)
          · exact ⟨V0.c0, V0.c1, V1.c0, V1.c1, V_r.c0, V_r.c1, V_s.c0, V_s.c1, V_z.c0, V_z.c1⟩
          clear hK K
          try simp only [Act.put, List.setIfInBounds_toArray, List.set_cons_zero, List.set_cons_succ]
          refine wpAnyH_ready (rs := [10]) (by kernel_rfl) (by simp) ?_
          refine AllReadyH.cons (o := { dst := some 115, op := Op.call { callee := Callee.value (Operand.func 38), args := #[Operand.tmp 113, Operand.tmp 114], argTypes := #[36, 36] }, type := 3, pos := "law.go:87", after := #[{ on := 8, ground := Ground.data }, { on := 9, ground := Ground.data }, { on := 7, ground := Ground.chain }, { on := 4, ground := Ground.guard }], guard := some (4, false) }) rfl (fun K hK => ?_) AllReadyH.nil
          go_simp
          clear hHeld
          refine hK.out _ _ ?_ (fun hHeld => ?_)
          · exact ⟨V0.c0, V0.c1, V1.c0, V1.c1, V_r.c0, V_r.c1, V_s.c0, V_s.c1, V_z.c0, V_z.c1⟩
          clear hK K
          try simp only [Act.put, List.setIfInBounds_toArray, List.set_cons_zero, List.set_cons_succ]
          refine wpAnyH_take (i := 11) (oi := { dst := some 116, op := Op.binOp BinOp.eql 3 (Operand.tmp 112) (Operand.tmp 115) 3, type := 4, pos := "law.go:87", after := #[{ on := 7, ground := Ground.data }, { on := 10, ground := Ground.data }, { on := 4, ground := Ground.guard }], guard := some (4, false) }) (v := undef) rfl (by kernel_rfl) (by kernel_rfl) (by kernel_rfl) (fun _ _ _ h => h) (Or.inr ⟨by rfl, rfl⟩) hHeld ?_
          try simp only [Act.put, List.setIfInBounds_toArray, List.set_cons_zero, List.set_cons_succ]
          refine wpAnyH_take (i := 12) (oi := { dst := some 117, op := Op.pick (Operand.tmp 109) (Operand.const (Value.bool true)) (Operand.tmp 116), type := 4, pos := "law.go:87", after := #[{ on := 4, ground := Ground.data }, { on := 11, ground := Ground.data }], guard := none }) (v := ?_) rfl (by kernel_rfl) (by kernel_rfl) (by kernel_rfl) (fun _ _ _ h => h) (Or.inl ⟨by rfl, ?_⟩) hHeld ?_
          rotate_left
          · intro w hSw
            try dsimp only at hSw
            go_simp
            try with_reducible rfl
          try simp only [Act.put, List.setIfInBounds_toArray, List.set_cons_zero, List.set_cons_succ]
          refine wpAnyH_take (i := 13) (oi := { dst := some 118, op := Op.move (Operand.tmp 117), type := 4, pos := "law.go:87", after := #[{ on := 12, ground := Ground.data }, { on := 10, ground := Ground.chain }], guard := none }) (v := ?_) rfl (by kernel_rfl) (by kernel_rfl) (by kernel_rfl) (fun _ _ _ h => h) (Or.inl ⟨by rfl, ?_⟩) hHeld ?_
          rotate_left
          · intro w hSw
            try dsimp only at hSw
            go_simp
            try with_reducible rfl
          try simp only [Act.put, List.setIfInBounds_toArray, List.set_cons_zero, List.set_cons_succ]
          refine wpAnyH_take (i := 14) (oi := { dst := some 119, op := Op.load 36 (Operand.tmp 9), type := 36, pos := "law.go:87", after := #[{ on := 13, ground := Ground.guard }], guard := some (13, true) }) (v := ?_) rfl (by kernel_rfl) (by kernel_rfl) (by kernel_rfl) (fun _ _ _ h => h) (Or.inl ⟨by rfl, ?_⟩) hHeld ?_
          rotate_left
          · intro w hSw
            try dsimp only at hSw
            go_simp
            try with_reducible rfl
          try simp only [Act.put, List.setIfInBounds_toArray, List.set_cons_zero, List.set_cons_succ]
          refine wpAnyH_take (i := 15) (oi := { dst := some 120, op := Op.load 36 (Operand.tmp 11), type := 36, pos := "law.go:87", after := #[{ on := 13, ground := Ground.guard }], guard := some (13, true) }) (v := ?_) rfl (by kernel_rfl) (by kernel_rfl) (by kernel_rfl) (fun _ _ _ h => h) (Or.inl ⟨by rfl, ?_⟩) hHeld ?_
          rotate_left
          · intro w hSw
            try dsimp only at hSw
            go_simp
            try with_reducible rfl
          try simp only [Act.put, List.setIfInBounds_toArray, List.set_cons_zero, List.set_cons_succ]
          refine wpAnyH_ready (rs := [16]) (by kernel_rfl) (by simp) ?_
          refine AllReadyH.cons (o := { dst := some 121, op := Op.call { callee := Callee.value (Operand.func 38), args := #[Operand.tmp 119, Operand.tmp 120], argTypes := #[36, 36] }, type := 3, pos := "law.go:87", after := #[{ on := 14, ground := Ground.data }, { on := 15, ground := Ground.data }, { on := 13, ground := Ground.chain }, { on := 13, ground := Ground.guard }], guard := some (13, true) }) rfl (fun K hK => ?_) AllReadyH.nil
          go_simp
          go_at_call 38
          refine (HS0.out _ _ _ (x_s.wh 24 HL.out.2.2.2.1) (x_z.wh 1 (by decide))).mono ?_
          rintro e w18 ⟨rfl, b18⟩
          replace hb := bnext hb b18
          replace V0 := V0.next b18
          replace V1 := V1.next b18
          replace V_r := V_r.next b18
          replace V_s := V_s.next b18
          replace V_z := V_z.next b18
          replace x_r := x_r.next b18
          replace x_s := x_s.next b18
          replace x_z := x_z.next b18
          replace h_a := h_a.below b18
          replace h_b := h_b.below b18
          clear hHeld
          refine hK.out _ _ ?_ (fun hHeld => ?_)
          · exact ⟨V0.c0, V0.c1, V1.c0, V1.c1, V_r.c0, V_r.c1, V_s.c0, V_s.c1, V_z.c0, V_z.c1⟩
          clear hK K
          try simp only [Act.put, List.setIfInBounds_toArray, List.set_cons_zero, List.set_cons_succ]
          refine wpAnyH_take (i := 17) (oi := { dst := some 122, op := Op.binOp BinOp.eql 3 (Operand.tmp 121) (Operand.const (Value.int IntKind.i64 0)) 3, type := 4, pos := "law.go:87", after := #[{ on := 16, ground := Ground.data }, { on := 13, ground := Ground.guard }], guard := some (13, true) }) (v := ?_) rfl (by kernel_rfl) (by kernel_rfl) (by kernel_rfl) (fun _ _ _ h => h) (Or.inl ⟨by rfl, ?_⟩) hHeld ?_
          rotate_left
          · intro w hSw
            try dsimp only at hSw
            go_simp
            try with_reducible rfl
          try simp only [Act.put, List.setIfInBounds_toArray, List.set_cons_zero, List.set_cons_succ]
          refine wpAnyH_take (i := 18) (oi := { dst := some 123, op := Op.move (Operand.tmp 122), type := 4, pos := "law.go:87", after := #[{ on := 17, ground := Ground.data }, { on := 16, ground := Ground.chain }, { on := 13, ground := Ground.guard }], guard := some (13, true) }) (v := ?_) rfl (by kernel_rfl) (by kernel_rfl) (by kernel_rfl) (fun _ _ _ h => h) (Or.inl ⟨by rfl, ?_⟩) hHeld ?_
          rotate_left
          · intro w hSw
            try dsimp only at hSw
            go_simp
            try with_reducible rfl
          try simp only [Act.put, List.setIfInBounds_toArray, List.set_cons_zero, List.set_cons_succ]
          refine wpAnyH_take (i := 19) (oi := { dst := some 124, op := Op.load 36 (Operand.tmp 9), type := 36, pos := "law.go:87", after := #[{ on := 18, ground := Ground.guard }], guard := some (18, false) }) (v := undef) rfl (by kernel_rfl) (by kernel_rfl) (by kernel_rfl) (fun _ _ _ h => h) (Or.inr ⟨by rfl, rfl⟩) hHeld ?_
          try simp only [Act.put, List.setIfInBounds_toArray, List.set_cons_zero, List.set_cons_succ]
          refine wpAnyH_take (i := 20) (oi := { dst := some 125, op := Op.load 36 (Operand.tmp 11), type := 36, pos := "law.go:87", after := #[{ on := 18, ground := Ground.guard }], guard := some (18, false) }) (v := undef) rfl (by kernel_rfl) (by kernel_rfl) (by kernel_rfl) (fun _ _ _ h => h) (Or.inr ⟨by rfl, rfl⟩) hHeld ?_
          try simp only [Act.put, List.setIfInBounds_toArray, List.set_cons_zero, List.set_cons_succ]
          refine wpAnyH_take (i := 22) (oi := { dst := some 127, op := Op.load 36 (Operand.tmp 3), type := 36, pos := "law.go:87", after := #[{ on := 18, ground := Ground.guard }], guard := some (18, false) }) (v := undef) rfl (by kernel_rfl) (by kernel_rfl) (by kernel_rfl) (fun _ _ _ h => h) (Or.inr ⟨by rfl, rfl⟩) hHeld ?_
          try simp only [Act.put, List.setIfInBounds_toArray, List.set_cons_zero, List.set_cons_succ]
          refine wpAnyH_take (i := 23) (oi := { dst := some 128, op := Op.load 36 (Operand.tmp 11), type := 36, pos := "law.go:87", after := #[{ on := 18, ground := Ground.guard }], guard := some (18, false) }) (v := undef) rfl (by kernel_rfl) (by kernel_rfl) (by kernel_rfl) (fun _ _ _ h => h) (Or.inr ⟨by rfl, rfl⟩) hHeld ?_
          try simp only [Act.put, List.setIfInBounds_toArray, List.set_cons_zero, List.set_cons_succ]
          refine wpAnyH_ready (rs := [21]) (by kernel_rfl) (by simp) ?_
          refine AllReadyH.cons (o := { dst := some 126, op := Op.call { callee := Callee.value (Operand.func 38), args := #[Operand.tmp 124, Operand.tmp 125], argTypes := #[36, 36] }, type := 3, pos := "law.go:87", after := #[{ on := 19, ground := Ground.data }, { on := 20, ground := Ground.data }, { on := 18, ground := Ground.chain }, { on := 18, ground := Ground.guard }], guard := some (18, false) }) rfl (fun K hK => ?_) AllReadyH.nil
          go_simp
          clear hHeld
          refine hK.out _ _ ?_ (fun hHeld => ?_)
          · exact ⟨V0.c0, V0.c1, V1.c0, V1.c1, V_r.c0, V_r.c1, V_s.c0, V_s.c1, V_z.c0, V_z.c1⟩
          clear hK K
          try simp only [Act.put, List.setIfInBounds_toArray, List.set_cons_zero, List.set_cons_succ]
          refine wpAnyH_ready (rs := [24]) (by kernel_rfl) (by simp) ?_
          refine AllReadyH.cons (o := { dst := some 129, op := Op.call { callee := Callee.value (Operand.func 38), args := #[Operand.tmp 127, Operand.tmp 128], argTypes := #[36, 36] }, type := 3, pos := "law.go:87", after := #[{ on := 22, ground := Ground.data }, { on := 23, ground := Ground.data }, { on := 21, ground := Ground.chain }, { on := 18, ground := Ground.guard }], guard := some (18, false) }) rfl (fun K hK => ?_) AllReadyH.nil
          go_simp
          clear hHeld
          refine hK.out _ _ ?_ (fun hHeld => ?_)
          · exact ⟨V0.c0, V0.c1, V1.c0, V1.c1, V_r.c0, V_r.c1, V_s.c0, V_s.c1, V_z.c0, V_z.c1⟩
          clear hK K
          try simp only [Act.put, List.setIfInBounds_toArray, List.set_cons_zero, List.set_cons_succ]
          refine wpAnyH_take (i := 25) (oi := { dst := some 130, op := Op.binOp BinOp.eql 3 (Operand.tmp 126) (Operand.tmp 129) 3, type := 4, pos := "law.go:87", after := #[{ on := 21, ground := Ground.data }, { on := 24, ground := Ground.data }, { on := 18, ground := Ground.guard }], guard := some (18, false) }) (v := undef) rfl (by kernel_rfl) (by kernel_rfl) (by kernel_rfl) (fun _ _ _ h => h) (Or.inr ⟨by rfl, rfl⟩) hHeld ?_
          try simp only [Act.put, List.setIfInBounds_toArray, List.set_cons_zero, List.set_cons_succ]
          refine wpAnyH_take (i := 26) (oi := { dst := some 131, op := Op.pick (Operand.tmp 123) (Operand.const (Value.bool true)) (Operand.tmp 130), type := 4, pos := "law.go:87", after := #[{ on := 18, ground := Ground.data }, { on := 25, ground := Ground.data }, { on := 13, ground := Ground.guard }], guard := some (13, true) }) (v := ?_) rfl (by kernel_rfl) (by kernel_rfl) (by kernel_rfl) (fun _ _ _ h => h) (Or.inl ⟨by rfl, ?_⟩) hHeld ?_
          rotate_left
          · intro w hSw
            try dsimp only at hSw
            go_simp
            try with_reducible rfl
          try simp only [Act.put, List.setIfInBounds_toArray, List.set_cons_zero, List.set_cons_succ]
          refine wpAnyH_take (i := 27) (oi := { dst := some 132, op := Op.pick (Operand.tmp 118) (Operand.tmp 131) (Operand.const (Value.bool false)), type := 4, pos := "law.go:87", after := #[{ on := 13, ground := Ground.data }, { on := 26, ground := Ground.data }], guard := none }) (v := ?_) rfl (by kernel_rfl) (by kernel_rfl) (by kernel_rfl) (fun _ _ _ h => h) (Or.inl ⟨by rfl, ?_⟩) hHeld ?_
          rotate_left
          · intro w hSw
            try dsimp only at hSw
            go_simp
            try with_reducible rfl
          try simp only [Act.put, List.setIfInBounds_toArray, List.set_cons_zero, List.set_cons_succ]
          refine wpAnyH_take (i := 28) (oi := { dst := some 133, op := Op.move (Operand.tmp 132), type := 4, pos := "law.go:87", after := #[{ on := 27, ground := Ground.data }, { on := 24, ground := Ground.chain }], guard := none }) (v := ?_) rfl (by kernel_rfl) (by kernel_rfl) (by kernel_rfl) (fun _ _ _ h => h) (Or.inl ⟨by rfl, ?_⟩) hHeld ?_
          rotate_left
          · intro w hSw
            try dsimp only at hSw
            go_simp
            try with_reducible rfl
          try simp only [Act.put, List.setIfInBounds_toArray, List.set_cons_zero, List.set_cons_succ]
          refine wpAnyH_ready (rs := [29]) (by kernel_rfl) (by simp) ?_
          refine AllReadyH.cons (o := { dst := some 134, op := Op.call { callee := Callee.value (Operand.func 22), args := #[], argTypes := #[] }, type := 4, pos := "law.go:87", after := #[{ on := 28, ground := Ground.chain }, { on := 28, ground := Ground.guard }], guard := some (28, true) }) rfl (fun K hK => ?_) AllReadyH.nil
          go_simp
          go_at_call 22
          refine (wlives_yes _).mono ?_
          rintro e w19 ⟨rfl, b19⟩
          replace hb := bnext hb b19
          replace V0 := V0.next b19
          replace V1 := V1.next b19
          replace V_r := V_r.next b19
          replace V_s := V_s.next b19
          replace V_z := V_z.next b19
          replace x_r := x_r.next b19
          replace x_s := x_s.next b19
          replace x_z := x_z.next b19
          replace h_a := h_a.below b19
          replace h_b := h_b.below b19
          clear hHeld
          refine hK.out _ _ ?_ (fun hHeld => ?_)
          · exact ⟨V0.c0, V0.c1, V1.c0, V1.c1, V_r.c0, V_r.c1, V_s.c0, V_s.c1, V_z.c0, V_z.c1⟩
          clear hK K
          try simp only [Act.put, List.setIfInBounds_toArray, List.set_cons_zero, List.set_cons_succ]
          refine wpAnyH_take (i := 30) (oi := { dst := some 135, op := Op.pick (Operand.tmp 133) (Operand.tmp 134) (Operand.const (Value.bool false)), type := 4, pos := "law.go:87", after := #[{ on := 28, ground := Ground.data }, { on := 29, ground := Ground.data }], guard := none }) (v := ?_) rfl (by kernel_rfl) (by kernel_rfl) (by kernel_rfl) (fun _ _ _ h => h) (Or.inl ⟨by rfl, ?_⟩) hHeld ?_
          rotate_left
          · intro w hSw
            try dsimp only at hSw
            go_simp
            try with_reducible rfl
          try simp only [Act.put, List.setIfInBounds_toArray, List.set_cons_zero, List.set_cons_succ]
          refine wpAnyH_ready (rs := [31]) (by kernel_rfl) (by simp) ?_
          refine AllReadyH.cons (o := _) rfl (fun K hK => ?_) AllReadyH.nil
          go_simp
          clear hHeld
          refine hK.out _ _ ?_ (fun hHeld => ?_)
          · exact ⟨V0.c0, V0.c1, V1.c0, V1.c1, V_r.c0, V_r.c1, V_s.c0, V_s.c1, V_z.c0, V_z.c1⟩
          clear hK K
          try simp only [Act.put, List.setIfInBounds_toArray, List.set_cons_zero, List.set_cons_succ]
          refine wpAnyH_done (by kernel_rfl) ?_ _
          refine NoPanic.normal ?_
          go_wp2_with fail
          go_ret
          exact ⟨rfl, hb⟩
        · have HR0 := Lib.hid (fun (W : World) (u v : Value) (hu : Wh W u R 24) (hv : Wh W v 0 1) => wcmp_num hu hv (by decide) (by decide))
          have HS0 := Lib.hid (fun (W : World) (u v : Value) (hu : Wh W u S 24) (hv : Wh W v 0 1) => wcmp_num hu hv (by decide) (by decide))
          have HA0 := Lib.hid (fun (W : World) (u v : Value) (hu : Wh W u A 24) (hv : Wh W v 0 1) => wcmp_num hu hv (by decide) (by decide))
          rw [(cmpZ_zero R 0).2 hR] at HR0
          have hsb := HM.out.2.2.2.resolve_left hS
          rw [hsb, HCb.out] at HS0
          clear hsb
          clear hR hS HM
          go_wp2_with fail
          clear V00 V01 V10 V11 V_r0 V_r1 V_s0 V_s1 V_z0 V_z1
          replace V0 := V0.next (Below.refl _ _).drew
          replace V1 := V1.next (Below.refl _ _).drew
          replace V_r := V_r.next (Below.refl _ _).drew
          replace V_s := V_s.next (Below.refl _ _).drew
          replace V_z := V_z.next (Below.refl _ _).drew
          replace x_r := x_r.next (Below.refl _ _).drew
          replace x_s := x_s.next (Below.refl _ _).drew
          replace x_z := x_z.next (Below.refl _ _).drew
          replace h_a := h_a.below (Below.refl _ _).drew
          replace h_b := h_b.below (Below.refl _ _).drew
          replace hb := hb.drew
          refine wp_region_noPanic ?_
          refine wp_region_held_drew (S := fun w' => w'.cell? ⟨w.heap.size, 0, none⟩ = some (.bool s0) ∧ w'.cell? ⟨w.heap.size, 1, none⟩ = some (.slice a0 len0 cap0) ∧ w'.cell? ⟨w.heap.size + 1, 0, none⟩ = some (.bool s1) ∧ w'.cell? ⟨w.heap.size + 1, 1, none⟩ = some (.slice a1 len1 cap1) ∧ w'.cell? ⟨w1.heap.size + 1, 0, none⟩ = some (.bool s_r) ∧ w'.cell? ⟨w1.heap.size + 1, 1, none⟩ = some (.slice A_r n_r c_r) ∧ w'.cell? ⟨w2.heap.size + 1, 0, none⟩ = some (.bool s_s) ∧ w'.cell? ⟨w2.heap.size + 1, 1, none⟩ = some (.slice A_s n_s c_s) ∧ w'.cell? ⟨w3.heap.size, 0, none⟩ = some (.bool s_z) ∧ w'.cell? ⟨w3.heap.size, 1, none⟩ = some (.slice A_z n_z c_z)) (by kernel_rfl) ?_ (fun hHeld => ?_)
          · exact ⟨V0.c0, V0.c1, V1.c0, V1.c1, V_r.c0, V_r.c1, V_s.c0, V_s.c1, V_z.c0, V_z.c1⟩
          refine wpAnyH_take (i := 0) (oi := { dst := some 105, op := Op.load 36 (Operand.tmp 6), type := 36, pos := "law.go:87", after := #[], guard := none }) (v := ?_) rfl (by kernel_rfl) (by kernel_rfl) (by kernel_rfl) (fun _ _ _ h => h) (Or.inl ⟨by rfl, ?_⟩) hHeld ?_
          rotate_left
          · intro w hSw
            try dsimp only at hSw
            go_simp
            try with_reducible rfl
          try simp only [Act.put, List.setIfInBounds_toArray, List.set_cons_zero, List.set_cons_succ]
          refine wpAnyH_take (i := 1) (oi := { dst := some 106, op := Op.load 36 (Operand.tmp 11), type := 36, pos := "law.go:87", after := #[], guard := none }) (v := ?_) rfl (by kernel_rfl) (by kernel_rfl) (by kernel_rfl) (fun _ _ _ h => h) (Or.inl ⟨by rfl, ?_⟩) hHeld ?_
          rotate_left
          · intro w hSw
            try dsimp only at hSw
            go_simp
            try with_reducible rfl
          try simp only [Act.put, List.setIfInBounds_toArray, List.set_cons_zero, List.set_cons_succ]
          refine wpAnyH_ready (rs := [2]) (by kernel_rfl) (by simp) ?_
          refine AllReadyH.cons (o := { dst := some 107, op := Op.call { callee := Callee.value (Operand.func 38), args := #[Operand.tmp 105, Operand.tmp 106], argTypes := #[36, 36] }, type := 3, pos := "law.go:87", after := #[{ on := 0, ground := Ground.data }, { on := 1, ground := Ground.data }], guard := none }) rfl (fun K hK => ?_) AllReadyH.nil
          go_simp
          go_at_call 38
          refine (HR0.out _ _ _ (x_r.wh 24 HL.out.2.2.1) (x_z.wh 1 (by decide))).mono ?_
          rintro e w17 ⟨rfl, b17⟩
          replace hb := bnext hb b17
          replace V0 := V0.next b17
          replace V1 := V1.next b17
          replace V_r := V_r.next b17
          replace V_s := V_s.next b17
          replace V_z := V_z.next b17
          replace x_r := x_r.next b17
          replace x_s := x_s.next b17
          replace x_z := x_z.next b17
          replace h_a := h_a.below b17
          replace h_b := h_b.below b17
          clear hHeld
          refine hK.out _ _ ?_ (fun hHeld => ?_)
          · exact ⟨V0.c0, V0.c1, V1.c0, V1.c1, V_r.c0, V_r.c1, V_s.c0, V_s.c1, V_z.c0, V_z.c1⟩
          clear hK K
          try simp only [Act.put, List.setIfInBounds_toArray, List.set_cons_zero, List.set_cons_succ]
          refine wpAnyH_take (i := 3) (oi := { dst := some 108, op := Op.binOp BinOp.eql 3 (Operand.tmp 107) (Operand.const (Value.int IntKind.i64 0)) 3, type := 4, pos := "law.go:87", after := #[{ on := 2, ground := Ground.data }], guard := none }) (v := ?_) rfl (by kernel_rfl) (by kernel_rfl) (by kernel_rfl) (fun _ _ _ h => h) (Or.inl ⟨by rfl, ?_⟩) hHeld ?_
          rotate_left
          · intro w hSw
            try dsimp only at hSw
            go_simp
            try with_reducible rfl
          try simp only [Act.put, List.setIfInBounds_toArray, List.set_cons_zero, List.set_cons_succ]
          refine wpAnyH_take (i := 4) (oi := { dst := some 109, op := Op.move (Operand.tmp 108), type := 4, pos := "law.go:87", after := #[{ on := 3, ground := Ground.data }, { on := 2, ground := Ground.chain }], guard := none }) (v := ?_) rfl (by kernel_rfl) (by kernel_rfl) (by kernel_rfl) (fun _ _ _ h => h) (Or.inl ⟨by rfl, ?_⟩) hHeld ?_
          rotate_left
          · intro w hSw
            try dsimp only at hSw
            go_simp
            try with_reducible rfl
          try simp only [Act.put, List.setIfInBounds_toArray, List.set_cons_zero, List.set_cons_succ]
          refine wpAnyH_take (i := 5) (oi := { dst := some 110, op := Op.load 36 (Operand.tmp 6), type := 36, pos := "law.go:87", after := #[{ on := 4, ground := Ground.guard }], guard := some (4, false) }) (v := undef) rfl (by kernel_rfl) (by kernel_rfl) (by kernel_rfl) (fun _ _ _ h => h) (Or.inr ⟨by rfl, rfl⟩) hHeld ?_
          try simp only [Act.put, List.setIfInBounds_toArray, List.set_cons_zero, List.set_cons_succ]
          refine wpAnyH_take (i := 6) (oi := { dst := some 111, op := Op.load 36 (Operand.tmp 11), type := 36, pos := "law.go:87", after := #[{ on := 4, ground := Ground.guard }], guard := some (4, false) }) (v := undef) rfl (by kernel_rfl) (by kernel_rfl) (by kernel_rfl) (fun _ _ _ h => h) (Or.inr ⟨by rfl, rfl⟩) hHeld ?_
          try simp only [Act.put, List.setIfInBounds_toArray, List.set_cons_zero, List.set_cons_succ]
          refine wpAnyH_take (i := 8) (oi := { dst := some 113, op := Op.load 36 (Operand.tmp 2), type := 36, pos := "law.go:87", after := #[{ on := 4, ground := Ground.guard }], guard := some (4, false) }) (v := undef) rfl (by kernel_rfl) (by kernel_rfl) (by kernel_rfl) (fun _ _ _ h => h) (Or.inr ⟨by rfl, rfl⟩) hHeld ?_
          try simp only [Act.put, List.setIfInBounds_toArray, List.set_cons_zero, List.set_cons_succ]
          refine wpAnyH_take (i := 9) (oi := { dst := some 114, op := Op.load 36 (Operand.tmp 11), type := 36, pos := "law.go:87", after := #[{ on := 4, ground := Ground.guard }], guard := some (4, false) }) (v := undef) rfl (by kernel_rfl) (by kernel_rfl) (by kernel_rfl) (fun _ _ _ h => h) (Or.inr ⟨by rfl, rfl⟩) hHeld ?_
          try simp only [Act.put, List.setIfInBounds_toArray, List.set_cons_zero, List.set_cons_succ]
          refine wpAnyH_ready (rs := [7]) (by kernel_rfl) (by simp) ?_
          refine AllReadyH.cons (o := { dst := some 112, op := Op.call { callee := Callee.value (Operand.func 38), args := #[Operand.tmp 110, Operand.tmp 111], argTypes := #[36, 36] }, type := 3, pos := "law.go:87", after := #[{ on := 5, ground := Ground.data }, { on := 6, ground := Ground.data }, { on := 4, ground := Ground.chain }, { on := 4, ground := Ground.guard }], guard := some (4, false) }) rfl (fun K hK => ?_) AllReadyH.nil
          go_simp
          clear hHeld
          refine hK.out _ _ ?_ (fun hHeld => ?_)
          · exact ⟨V0.c0, V0.c1, V1.c0, V1.c1, V_r.c0, V_r.c1, V_s.c0, V_s.c1, V_z.c0, V_z.c1⟩
          clear hK K
          try simp only [Act.put, List.setIfInBounds_toArray, List.set_cons_zero, List.set_cons_succ]
          refine wpAnyH_ready (rs := [10]) (by kernel_rfl) (by simp) ?_
          refine AllReadyH.cons (o := { dst := some 115, op := Op.call { callee := Callee.value (Operand.func 38), args := #[Operand.tmp 113, Operand.tmp 114], argTypes := #[36, 36] }, type := 3, pos := "law.go:87", after := #[{ on := 8, ground := Ground.data }, { on := 9, ground := Ground.data }, { on := 7, ground := Ground.chain }, { on := 4, ground := Ground.guard }], guard := some (4, false) }) rfl (fun K hK => ?_) AllReadyH.nil
          go_simp
          clear hHeld
          refine hK.out _ _ ?_ (fun hHeld => ?_)
          · exact ⟨V0.c0, V0.c1, V1.c0, V1.c1, V_r.c0, V_r.c1, V_s.c0, V_s.c1, V_z.c0, V_z.c1⟩
          clear hK K
          try simp only [Act.put, List.setIfInBounds_toArray, List.set_cons_zero, List.set_cons_succ]
          refine wpAnyH_take (i := 11) (oi := { dst := some 116, op := Op.binOp BinOp.eql 3 (Operand.tmp 112) (Operand.tmp 115) 3, type := 4, pos := "law.go:87", after := #[{ on := 7, ground := Ground.data }, { on := 10, ground := Ground.data }, { on := 4, ground := Ground.guard }], guard := some (4, false) }) (v := undef) rfl (by kernel_rfl) (by kernel_rfl) (by kernel_rfl) (fun _ _ _ h => h) (Or.inr ⟨by rfl, rfl⟩) hHeld ?_
          try simp only [Act.put, List.setIfInBounds_toArray, List.set_cons_zero, List.set_cons_succ]
          refine wpAnyH_take (i := 12) (oi := { dst := some 117, op := Op.pick (Operand.tmp 109) (Operand.const (Value.bool true)) (Operand.tmp 116), type := 4, pos := "law.go:87", after := #[{ on := 4, ground := Ground.data }, { on := 11, ground := Ground.data }], guard := none }) (v := ?_) rfl (by kernel_rfl) (by kernel_rfl) (by kernel_rfl) (fun _ _ _ h => h) (Or.inl ⟨by rfl, ?_⟩) hHeld ?_
          rotate_left
          · intro w hSw
            try dsimp only at hSw
            go_simp
            try with_reducible rfl
          try simp only [Act.put, List.setIfInBounds_toArray, List.set_cons_zero, List.set_cons_succ]
          refine wpAnyH_take (i := 13) (oi := { dst := some 118, op := Op.move (Operand.tmp 117), type := 4, pos := "law.go:87", after := #[{ on := 12, ground := Ground.data }, { on := 10, ground := Ground.chain }], guard := none }) (v := ?_) rfl (by kernel_rfl) (by kernel_rfl) (by kernel_rfl) (fun _ _ _ h => h) (Or.inl ⟨by rfl, ?_⟩) hHeld ?_
          rotate_left
          · intro w hSw
            try dsimp only at hSw
            go_simp
            try with_reducible rfl
          try simp only [Act.put, List.setIfInBounds_toArray, List.set_cons_zero, List.set_cons_succ]
          refine wpAnyH_take (i := 14) (oi := { dst := some 119, op := Op.load 36 (Operand.tmp 9), type := 36, pos := "law.go:87", after := #[{ on := 13, ground := Ground.guard }], guard := some (13, true) }) (v := ?_) rfl (by kernel_rfl) (by kernel_rfl) (by kernel_rfl) (fun _ _ _ h => h) (Or.inl ⟨by rfl, ?_⟩) hHeld ?_
          rotate_left
          · intro w hSw
            try dsimp only at hSw
            go_simp
            try with_reducible rfl
          try simp only [Act.put, List.setIfInBounds_toArray, List.set_cons_zero, List.set_cons_succ]
          refine wpAnyH_take (i := 15) (oi := { dst := some 120, op := Op.load 36 (Operand.tmp 11), type := 36, pos := "law.go:87", after := #[{ on := 13, ground := Ground.guard }], guard := some (13, true) }) (v := ?_) rfl (by kernel_rfl) (by kernel_rfl) (by kernel_rfl) (fun _ _ _ h => h) (Or.inl ⟨by rfl, ?_⟩) hHeld ?_
          rotate_left
          · intro w hSw
            try dsimp only at hSw
            go_simp
            try with_reducible rfl
          try simp only [Act.put, List.setIfInBounds_toArray, List.set_cons_zero, List.set_cons_succ]
          refine wpAnyH_ready (rs := [16]) (by kernel_rfl) (by simp) ?_
          refine AllReadyH.cons (o := { dst := some 121, op := Op.call { callee := Callee.value (Operand.func 38), args := #[Operand.tmp 119, Operand.tmp 120], argTypes := #[36, 36] }, type := 3, pos := "law.go:87", after := #[{ on := 14, ground := Ground.data }, { on := 15, ground := Ground.data }, { on := 13, ground := Ground.chain }, { on := 13, ground := Ground.guard }], guard := some (13, true) }) rfl (fun K hK => ?_) AllReadyH.nil
          go_simp
          go_at_call 38
          refine (HS0.out _ _ _ (x_s.wh 24 HL.out.2.2.2.1) (x_z.wh 1 (by decide))).mono ?_
          rintro e w18 ⟨rfl, b18⟩
          replace hb := bnext hb b18
          replace V0 := V0.next b18
          replace V1 := V1.next b18
          replace V_r := V_r.next b18
          replace V_s := V_s.next b18
          replace V_z := V_z.next b18
          replace x_r := x_r.next b18
          replace x_s := x_s.next b18
          replace x_z := x_z.next b18
          replace h_a := h_a.below b18
          replace h_b := h_b.below b18
          clear hHeld
          refine hK.out _ _ ?_ (fun hHeld => ?_)
          · exact ⟨V0.c0, V0.c1, V1.c0, V1.c1, V_r.c0, V_r.c1, V_s.c0, V_s.c1, V_z.c0, V_z.c1⟩
          clear hK K
          try simp only [Act.put, List.setIfInBounds_toArray, List.set_cons_zero, List.set_cons_succ]
          refine wpAnyH_take (i := 17) (oi := { dst := some 122, op := Op.binOp BinOp.eql 3 (Operand.tmp 121) (Operand.const (Value.int IntKind.i64 0)) 3, type := 4, pos := "law.go:87", after := #[{ on := 16, ground := Ground.data }, { on := 13, ground := Ground.guard }], guard := some (13, true) }) (v := ?_) rfl (by kernel_rfl) (by kernel_rfl) (by kernel_rfl) (fun _ _ _ h => h) (Or.inl ⟨by rfl, ?_⟩) hHeld ?_
          rotate_left
          · intro w hSw
            try dsimp only at hSw
            go_simp
            try with_reducible rfl
          try simp only [Act.put, List.setIfInBounds_toArray, List.set_cons_zero, List.set_cons_succ]
          refine wpAnyH_take (i := 18) (oi := { dst := some 123, op := Op.move (Operand.tmp 122), type := 4, pos := "law.go:87", after := #[{ on := 17, ground := Ground.data }, { on := 16, ground := Ground.chain }, { on := 13, ground := Ground.guard }], guard := some (13, true) }) (v := ?_) rfl (by kernel_rfl) (by kernel_rfl) (by kernel_rfl) (fun _ _ _ h => h) (Or.inl ⟨by rfl, ?_⟩) hHeld ?_
          rotate_left
          · intro w hSw
            try dsimp only at hSw
            go_simp
            try with_reducible rfl
          try simp only [Act.put, List.setIfInBounds_toArray, List.set_cons_zero, List.set_cons_succ]
          refine wpAnyH_take (i := 19) (oi := { dst := some 124, op := Op.load 36 (Operand.tmp 9), type := 36, pos := "law.go:87", after := #[{ on := 18, ground := Ground.guard }], guard := some (18, false) }) (v := ?_) rfl (by kernel_rfl) (by kernel_rfl) (by kernel_rfl) (fun _ _ _ h => h) (Or.inl ⟨by rfl, ?_⟩) hHeld ?_
          rotate_left
          · intro w hSw
            try dsimp only at hSw
            go_simp
            try with_reducible rfl
          try simp only [Act.put, List.setIfInBounds_toArray, List.set_cons_zero, List.set_cons_succ]
          refine wpAnyH_take (i := 20) (oi := { dst := some 125, op := Op.load 36 (Operand.tmp 11), type := 36, pos := "law.go:87", after := #[{ on := 18, ground := Ground.guard }], guard := some (18, false) }) (v := ?_) rfl (by kernel_rfl) (by kernel_rfl) (by kernel_rfl) (fun _ _ _ h => h) (Or.inl ⟨by rfl, ?_⟩) hHeld ?_
          rotate_left
          · intro w hSw
            try dsimp only at hSw
            go_simp
            try with_reducible rfl
          try simp only [Act.put, List.setIfInBounds_toArray, List.set_cons_zero, List.set_cons_succ]
          refine wpAnyH_take (i := 22) (oi := { dst := some 127, op := Op.load 36 (Operand.tmp 3), type := 36, pos := "law.go:87", after := #[{ on := 18, ground := Ground.guard }], guard := some (18, false) }) (v := ?_) rfl (by kernel_rfl) (by kernel_rfl) (by kernel_rfl) (fun _ _ _ h => h) (Or.inl ⟨by rfl, ?_⟩) hHeld ?_
          rotate_left
          · intro w hSw
            try dsimp only at hSw
            go_simp
            try with_reducible rfl
          try simp only [Act.put, List.setIfInBounds_toArray, List.set_cons_zero, List.set_cons_succ]
          refine wpAnyH_take (i := 23) (oi := { dst := some 128, op := Op.load 36 (Operand.tmp 11), type := 36, pos := "law.go:87", after := #[{ on := 18, ground := Ground.guard }], guard := some (18, false) }) (v := ?_) rfl (by kernel_rfl) (by kernel_rfl) (by kernel_rfl) (fun _ _ _ h => h) (Or.inl ⟨by rfl, ?_⟩) hHeld ?_
          rotate_left
          · intro w hSw
            try dsimp only at hSw
            go_simp
            try with_reducible rfl
          try simp only [Act.put, List.setIfInBounds_toArray, List.set_cons_zero, List.set_cons_succ]
          refine wpAnyH_ready (rs := [21]) (by kernel_rfl) (by simp) ?_
          refine AllReadyH.cons (o := { dst := some 126, op := Op.call { callee := Callee.value (Operand.func 38), args := #[Operand.tmp 124, Operand.tmp 125], argTypes := #[36, 36] }, type := 3, pos := "law.go:87", after := #[{ on := 19, ground := Ground.data }, { on := 20, ground := Ground.data }, { on := 18, ground := Ground.chain }, { on := 18, ground := Ground.guard }], guard := some (18, false) }) rfl (fun K hK => ?_) AllReadyH.nil
          go_simp
          go_at_call 38
          refine (HS0.out _ _ _ (x_s.wh 24 HL.out.2.2.2.1) (x_z.wh 1 (by decide))).mono ?_
          rintro e w19 ⟨rfl, b19⟩
          replace hb := bnext hb b19
          replace V0 := V0.next b19
          replace V1 := V1.next b19
          replace V_r := V_r.next b19
          replace V_s := V_s.next b19
          replace V_z := V_z.next b19
          replace x_r := x_r.next b19
          replace x_s := x_s.next b19
          replace x_z := x_z.next b19
          replace h_a := h_a.below b19
          replace h_b := h_b.below b19
          clear hHeld
          refine hK.out _ _ ?_ (fun hHeld => ?_)
          · exact ⟨V0.c0, V0.c1, V1.c0, V1.c1, V_r.c0, V_r.c1, V_s.c0, V_s.c1, V_z.c0, V_z.c1⟩
          clear hK K
          try simp only [Act.put, List.setIfInBounds_toArray, List.set_cons_zero, List.set_cons_succ]
          refine wpAnyH_ready (rs := [24]) (by kernel_rfl) (by simp) ?_
          refine AllReadyH.cons (o := { dst := some 129, op := Op.call { callee := Callee.value (Operand.func 38), args := #[Operand.tmp 127, Operand.tmp 128], argTypes := #[36, 36] }, type := 3, pos := "law.go:87", after := #[{ on := 22, ground := Ground.data }, { on := 23, ground := Ground.data }, { on := 21, ground := Ground.chain }, { on := 18, ground := Ground.guard }], guard := some (18, false) }) rfl (fun K hK => ?_) AllReadyH.nil
          go_simp
          go_at_call 38
          refine (HCB.out _ _ _ h_b (x_z.wh 1 (by decide))).mono ?_
          rintro e w20 ⟨rfl, b20⟩
          replace hb := bnext hb b20
          replace V0 := V0.next b20
          replace V1 := V1.next b20
          replace V_r := V_r.next b20
          replace V_s := V_s.next b20
          replace V_z := V_z.next b20
          replace x_r := x_r.next b20
          replace x_s := x_s.next b20
          replace x_z := x_z.next b20
          replace h_a := h_a.below b20
          replace h_b := h_b.below b20
          clear hHeld
          refine hK.out _ _ ?_ (fun hHeld => ?_)
          · exact ⟨V0.c0, V0.c1, V1.c0, V1.c1, V_r.c0, V_r.c1, V_s.c0, V_s.c1, V_z.c0, V_z.c1⟩
          clear hK K
          try simp only [Act.put, List.setIfInBounds_toArray, List.set_cons_zero, List.set_cons_succ]
          refine wpAnyH_take (i := 25) (oi := { dst := some 130, op := Op.binOp BinOp.eql 3 (Operand.tmp 126) (Operand.tmp 129) 3, type := 4, pos := "law.go:87", after := #[{ on := 21, ground := Ground.data }, { on := 24, ground := Ground.data }, { on := 18, ground := Ground.guard }], guard := some (18, false) }) (v := ?_) rfl (by kernel_rfl) (by kernel_rfl) (by kernel_rfl) (fun _ _ _ h => h) (Or.inl ⟨by rfl, ?_⟩) hHeld ?_
          rotate_left
          · intro w hSw
            try dsimp only at hSw
            go_simp
            try with_reducible rfl
          try simp only [Act.put, List.setIfInBounds_toArray, List.set_cons_zero, List.set_cons_succ]
          refine wpAnyH_take (i := 26) (oi := { dst := some 131, op := Op.pick (Operand.tmp 123) (Operand.const (Value.bool true)) (Operand.tmp 130), type := 4, pos := "law.go:87", after := #[{ on := 18, ground := Ground.data }, { on := 25, ground := Ground.data }, { on := 13, ground := Ground.guard }], guard := some (13, true) }) (v := ?_) rfl (by kernel_rfl) (by kernel_rfl) (by kernel_rfl) (fun _ _ _ h => h) (Or.inl ⟨by rfl, ?_⟩) hHeld ?_
          rotate_left
          · intro w hSw
            try dsimp only at hSw
            go_simp
            try with_reducible rfl
          try simp only [Act.put, List.setIfInBounds_toArray, List.set_cons_zero, List.set_cons_succ]
          refine wpAnyH_take (i := 27) (oi := { dst := some 132, op := Op.pick (Operand.tmp 118) (Operand.tmp 131) (Operand.const (Value.bool false)), type := 4, pos := "law.go:87", after := #[{ on := 13, ground := Ground.data }, { on := 26, ground := Ground.data }], guard := none }) (v := ?_) rfl (by kernel_rfl) (by kernel_rfl) (by kernel_rfl) (fun _ _ _ h => h) (Or.inl ⟨by rfl, ?_⟩) hHeld ?_
          rotate_left
          · intro w hSw
            try dsimp only at hSw
            go_simp
            try with_reducible rfl
          try simp only [Act.put, List.setIfInBounds_toArray, List.set_cons_zero, List.set_cons_succ]
          refine wpAnyH_take (i := 28) (oi := { dst := some 133, op := Op.move (Operand.tmp 132), type := 4, pos := "law.go:87", after := #[{ on := 27, ground := Ground.data }, { on := 24, ground := Ground.chain }], guard := none }) (v := ?_) rfl (by kernel_rfl) (by kernel_rfl) (by kernel_rfl) (fun _ _ _ h => h) (Or.inl ⟨by rfl, ?_⟩) hHeld ?_
          rotate_left
          · intro w hSw
            try dsimp only at hSw
            go_simp
            try with_reducible rfl
          try simp only [Act.put, List.setIfInBounds_toArray, List.set_cons_zero, List.set_cons_succ]
          refine wpAnyH_ready (rs := [29]) (by kernel_rfl) (by simp) ?_
          refine AllReadyH.cons (o := { dst := some 134, op := Op.call { callee := Callee.value (Operand.func 22), args := #[], argTypes := #[] }, type := 4, pos := "law.go:87", after := #[{ on := 28, ground := Ground.chain }, { on := 28, ground := Ground.guard }], guard := some (28, true) }) rfl (fun K hK => ?_) AllReadyH.nil
          go_simp
          go_at_call 22
          refine (wlives_yes _).mono ?_
          rintro e w21 ⟨rfl, b21⟩
          replace hb := bnext hb b21
          replace V0 := V0.next b21
          replace V1 := V1.next b21
          replace V_r := V_r.next b21
          replace V_s := V_s.next b21
          replace V_z := V_z.next b21
          replace x_r := x_r.next b21
          replace x_s := x_s.next b21
          replace x_z := x_z.next b21
          replace h_a := h_a.below b21
          replace h_b := h_b.below b21
          clear hHeld
          refine hK.out _ _ ?_ (fun hHeld => ?_)
          · exact ⟨V0.c0, V0.c1, V1.c0, V1.c1, V_r.c0, V_r.c1, V_s.c0, V_s.c1, V_z.c0, V_z.c1⟩
          clear hK K
          try simp only [Act.put, List.setIfInBounds_toArray, List.set_cons_zero, List.set_cons_succ]
          refine wpAnyH_take (i := 30) (oi := { dst := some 135, op := Op.pick (Operand.tmp 133) (Operand.tmp 134) (Operand.const (Value.bool false)), type := 4, pos := "law.go:87", after := #[{ on := 28, ground := Ground.data }, { on := 29, ground := Ground.data }], guard := none }) (v := ?_) rfl (by kernel_rfl) (by kernel_rfl) (by kernel_rfl) (fun _ _ _ h => h) (Or.inl ⟨by rfl, ?_⟩) hHeld ?_
          rotate_left
          · intro w hSw
            try dsimp only at hSw
            go_simp
            try with_reducible rfl
          try simp only [Act.put, List.setIfInBounds_toArray, List.set_cons_zero, List.set_cons_succ]
          refine wpAnyH_ready (rs := [31]) (by kernel_rfl) (by simp) ?_
          refine AllReadyH.cons (o := _) rfl (fun K hK => ?_) AllReadyH.nil
          go_simp
          clear hHeld
          refine hK.out _ _ ?_ (fun hHeld => ?_)
          · exact ⟨V0.c0, V0.c1, V1.c0, V1.c1, V_r.c0, V_r.c1, V_s.c0, V_s.c1, V_z.c0, V_z.c1⟩
          clear hK K
          try simp only [Act.put, List.setIfInBounds_toArray, List.set_cons_zero, List.set_cons_succ]
          refine wpAnyH_done (by kernel_rfl) ?_ _
          refine NoPanic.normal ?_
          go_wp2_with fail
          go_ret
          exact ⟨rfl, hb⟩
      · by_cases hS : S = 0
        · have HR0 := Lib.hid (fun (W : World) (u v : Value) (hu : Wh W u R 24) (hv : Wh W v 0 1) => wcmp_num hu hv (by decide) (by decide))
          have HS0 := Lib.hid (fun (W : World) (u v : Value) (hu : Wh W u S 24) (hv : Wh W v 0 1) => wcmp_num hu hv (by decide) (by decide))
          have HA0 := Lib.hid (fun (W : World) (u v : Value) (hu : Wh W u A 24) (hv : Wh W v 0 1) => wcmp_num hu hv (by decide) (by decide))
          have hra := HM.out.2.2.1.resolve_left hR
          have hn1 : cmpZ A 0 ≠ 0 := fun h => hR ((cmpZ_zero R 0).1 (hra.trans h))
          rw [hra] at HR0
          clear hra
          generalize cmpZ A 0 = ca at *
          have hca : (ca == 0) = false := beq_eq_false_iff_ne.2 hn1
          clear hn1
          rw [(cmpZ_zero S 0).2 hS] at HS0
          clear hR hS HM
          go_wp2_with fail
          clear V00 V01 V10 V11 V_r0 V_r1 V_s0 V_s1 V_z0 V_z1
          replace V0 := V0.next (Below.refl _ _).drew
          replace V1 := V1.next (Below.refl _ _).drew
          replace V_r := V_r.next (Below.refl _ _).drew
          replace V_s := V_s.next (Below.refl _ _).drew
          replace V_z := V_z.next (Below.refl _ _).drew
          replace x_r := x_r.next (Below.refl _ _).drew
          replace x_s := x_s.next (Below.refl _ _).drew
          replace x_z := x_z.next (Below.refl _ _).drew
          replace h_a := h_a.below (Below.refl _ _).drew
          replace h_b := h_b.below (Below.refl _ _).drew
          replace hb := hb.drew
          refine wp_region_noPanic ?_
          refine wp_region_held_drew (S := fun w' => w'.cell? ⟨w.heap.size, 0, none⟩ = some (.bool s0) ∧ w'.cell? ⟨w.heap.size, 1, none⟩ = some (.slice a0 len0 cap0) ∧ w'.cell? ⟨w.heap.size + 1, 0, none⟩ = some (.bool s1) ∧ w'.cell? ⟨w.heap.size + 1, 1, none⟩ = some (.slice a1 len1 cap1) ∧ w'.cell? ⟨w1.heap.size + 1, 0, none⟩ = some (.bool s_r) ∧ w'.cell? ⟨w1.heap.size + 1, 1, none⟩ = some (.slice A_r n_r c_r) ∧ w'.cell? ⟨w2.heap.size + 1, 0, none⟩ = some (.bool s_s) ∧ w'.cell? ⟨w2.heap.size + 1, 1, none⟩ = some (.slice A_s n_s c_s) ∧ w'.cell? ⟨w3.heap.size, 0, none⟩ = some (.bool s_z) ∧ w'.cell? ⟨w3.heap.size, 1, none⟩ = some (.slice A_z n_z c_z)) (by kernel_rfl) ?_ (fun hHeld => ?_)
          · exact ⟨V0.c0, V0.c1, V1.c0, V1.c1, V_r.c0, V_r.c1, V_s.c0, V_s.c1, V_z.c0, V_z.c1⟩
          refine wpAnyH_take (i := 0) (oi := { dst := some 105, op := Op.load 36 (Operand.tmp 6), type := 36, pos := "law.go:87", after := #[], guard := none }) (v := ?_) rfl (by kernel_rfl) (by kernel_rfl) (by kernel_rfl) (fun _ _ _ h => h) (Or.inl ⟨by rfl, ?_⟩) hHeld ?_
          rotate_left
          · intro w hSw
            try dsimp only at hSw
            go_simp
            try with_reducible rfl
          try simp only [Act.put, List.setIfInBounds_toArray, List.set_cons_zero, List.set_cons_succ]
          refine wpAnyH_take (i := 1) (oi := { dst := some 106, op := Op.load 36 (Operand.tmp 11), type := 36, pos := "law.go:87", after := #[], guard := none }) (v := ?_) rfl (by kernel_rfl) (by kernel_rfl) (by kernel_rfl) (fun _ _ _ h => h) (Or.inl ⟨by rfl, ?_⟩) hHeld ?_
          rotate_left
          · intro w hSw
            try dsimp only at hSw
            go_simp
            try with_reducible rfl
          try simp only [Act.put, List.setIfInBounds_toArray, List.set_cons_zero, List.set_cons_succ]
          refine wpAnyH_ready (rs := [2]) (by kernel_rfl) (by simp) ?_
          refine AllReadyH.cons (o := { dst := some 107, op := Op.call { callee := Callee.value (Operand.func 38), args := #[Operand.tmp 105, Operand.tmp 106], argTypes := #[36, 36] }, type := 3, pos := "law.go:87", after := #[{ on := 0, ground := Ground.data }, { on := 1, ground := Ground.data }], guard := none }) rfl (fun K hK => ?_) AllReadyH.nil
          go_simp
          go_at_call 38
          refine (HR0.out _ _ _ (x_r.wh 24 HL.out.2.2.1) (x_z.wh 1 (by decide))).mono ?_
          rintro e w17 ⟨rfl, b17⟩
          replace hb := bnext hb b17
          replace V0 := V0.next b17
          replace V1 := V1.next b17
          replace V_r := V_r.next b17
          replace V_s := V_s.next b17
          replace V_z := V_z.next b17
          replace x_r := x_r.next b17
          replace x_s := x_s.next b17
          replace x_z := x_z.next b17
          replace h_a := h_a.below b17
          replace h_b := h_b.below b17
          clear hHeld
          refine hK.out _ _ ?_ (fun hHeld => ?_)
          · exact ⟨V0.c0, V0.c1, V1.c0, V1.c1, V_r.c0, V_r.c1, V_s.c0, V_s.c1, V_z.c0, V_z.c1⟩
          clear hK K
          try simp only [Act.put, List.setIfInBounds_toArray, List.set_cons_zero, List.set_cons_succ]
          refine wpAnyH_take (i := 3) (oi := { dst := some 108, op := Op.binOp BinOp.eql 3 (Operand.tmp 107) (Operand.const (Value.int IntKind.i64 0)) 3, type := 4, pos := "law.go:87", after := #[{ on := 2, ground := Ground.data }], guard := none }) (v := ?_) rfl (by kernel_rfl) (by kernel_rfl) (by kernel_rfl) (fun _ _ _ h => h) (Or.inl ⟨by rfl, ?_⟩) hHeld ?_
          rotate_left
          · intro w hSw
            try dsimp only at hSw
            go_simp
            try with_reducible rfl
          try simp only [Act.put, List.setIfInBounds_toArray, List.set_cons_zero, List.set_cons_succ]
          refine wpAnyH_take (i := 4) (oi := { dst := some 109, op := Op.move (Operand.tmp 108), type := 4, pos := "law.go:87", after := #[{ on := 3, ground := Ground.data }, { on := 2, ground := Ground.chain }], guard := none }) (v := ?_) rfl (by kernel_rfl) (by kernel_rfl) (by kernel_rfl) (fun _ _ _ h => h) (Or.inl ⟨by rfl, ?_⟩) hHeld ?_
          rotate_left
          · intro w hSw
            try dsimp only at hSw
            go_simp
            try with_reducible rfl
          try simp only [Act.put, List.setIfInBounds_toArray, List.set_cons_zero, List.set_cons_succ]
          refine wpAnyH_take (i := 5) (oi := { dst := some 110, op := Op.load 36 (Operand.tmp 6), type := 36, pos := "law.go:87", after := #[{ on := 4, ground := Ground.guard }], guard := some (4, false) }) (v := ?_) rfl (by kernel_rfl) (by kernel_rfl) (by kernel_rfl) (fun _ _ _ h => h) (Or.inl ⟨by rfl, ?_⟩) hHeld ?_
          rotate_left
          · intro w hSw
            try dsimp only at hSw
            go_simp
            try with_reducible rfl
          try simp only [Act.put, List.setIfInBounds_toArray, List.set_cons_zero, List.set_cons_succ]
          refine wpAnyH_take (i := 6) (oi := { dst := some 111, op := Op.load 36 (Operand.tmp 11), type := 36, pos := "law.go:87", after := #[{ on := 4, ground := Ground.guard }], guard := some (4, false) }) (v := ?_) rfl (by kernel_rfl) (by kernel_rfl) (by kernel_rfl) (fun _ _ _ h => h) (Or.inl ⟨by rfl, ?_⟩) hHeld ?_
          rotate_left
          · intro w hSw
            try dsimp only at hSw
            go_simp
            try with_reducible rfl
          try simp only [Act.put, List.setIfInBounds_toArray, List.set_cons_zero, List.set_cons_succ]
          refine wpAnyH_take (i := 8) (oi := { dst := some 113, op := Op.load 36 (Operand.tmp 2), type := 36, pos := "law.go:87", after := #[{ on := 4, ground := Ground.guard }], guard := some (4, false) }) (v := ?_) rfl (by kernel_rfl) (by kernel_rfl) (by kernel_rfl) (fun _ _ _ h => h) (Or.inl ⟨by rfl, ?_⟩) hHeld ?_
          rotate_left
          · intro w hSw
            try dsimp only at hSw
            go_simp
            try with_reducible rfl
          try simp only [Act.put, List.setIfInBounds_toArray, List.set_cons_zero, List.set_cons_succ]
          refine wpAnyH_take (i := 9) (oi := { dst := some 114, op := Op.load 36 (Operand.tmp 11), type := 36, pos := "law.go:87", after := #[{ on := 4, ground := Ground.guard }], guard := some (4, false) }) (v := ?_) rfl (by kernel_rfl) (by kernel_rfl) (by kernel_rfl) (fun _ _ _ h => h) (Or.inl ⟨by rfl, ?_⟩) hHeld ?_
          rotate_left
          · intro w hSw
            try dsimp only at hSw
            go_simp
            try with_reducible rfl
          try simp only [Act.put, List.setIfInBounds_toArray, List.set_cons_zero, List.set_cons_succ]
          refine wpAnyH_ready (rs := [7]) (by kernel_rfl) (by simp) ?_
          refine AllReadyH.cons (o := { dst := some 112, op := Op.call { callee := Callee.value (Operand.func 38), args := #[Operand.tmp 110, Operand.tmp 111], argTypes := #[36, 36] }, type := 3, pos := "law.go:87", after := #[{ on := 5, ground := Ground.data }, { on := 6, ground := Ground.data }, { on := 4, ground := Ground.chain }, { on := 4, ground := Ground.guard }], guard := some (4, false) }) rfl (fun K hK => ?_) AllReadyH.nil
          go_simp
          go_at_call 38
          refine (HR0.out _ _ _ (x_r.wh 24 HL.out.2.2.1) (x_z.wh 1 (by decide))).mono ?_
          rintro e w18 ⟨rfl, b18⟩
          replace hb := bnext hb b18
          replace V0 := V0.next b18
          replace V1 := V1.next b18
          replace V_r := V_r.next b18
          replace V_s := V_s.next b18
          replace V_z := V_z.next b18
          replace x_r := x_r.next b18
          replace x_s := x_s.next b18
          replace x_z := x_z.next b18
          replace h_a := h_a.below b18
          replace h_b := h_b.below b18
          clear hHeld
          refine hK.out _ _ ?_ (fun hHeld => ?_)
          · exact ⟨V0.c0, V0.c1, V1.c0, V1.c1, V_r.c0, V_r.c1, V_s.c0, V_s.c1, V_z.c0, V_z.c1⟩
          clear hK K
          try simp only [Act.put, List.setIfInBounds_toArray, List.set_cons_zero, List.set_cons_succ]
          refine wpAnyH_ready (rs := [10]) (by kernel_rfl) (by simp) ?_
          refine AllReadyH.cons (o := { dst := some 115, op := Op.call { callee := Callee.value (Operand.func 38), args := #[Operand.tmp 113, Operand.tmp 114], argTypes := #[36, 36] }, type := 3, pos := "law.go:87", after := #[{ on := 8, ground := Ground.data }, { on := 9, ground := Ground.data }, { on := 7, ground := Ground.chain }, { on := 4, ground := Ground.guard }], guard := some (4, false) }) rfl (fun K hK => ?_) AllReadyH.nil
          go_simp
          go_at_call 38
          refine (HA0.out _ _ _ h_a (x_z.wh 1 (by decide))).mono ?_
          rintro e w19 ⟨rfl, b19⟩
          replace hb := bnext hb b19
          replace V0 := V0.next b19
          replace V1 := V1.next b19
          replace V_r := V_r.next b19
          replace V_s := V_s.next b19
          replace V_z := V_z.next b19
          replace x_r := x_r.next b19
          replace x_s := x_s.next b19
          replace x_z := x_z.next b19
          replace h_a := h_a.below b19
          replace h_b := h_b.below b19
          clear hHeld
          refine hK.out _ _ ?_ (fun hHeld => ?_)
          · exact ⟨V0.c0, V0.c1, V1.c0, V1.c1, V_r.c0, V_r.c1, V_s.c0, V_s.c1, V_z.c0, V_z.c1⟩
          clear hK K
          try simp only [Act.put, List.setIfInBounds_toArray, List.set_cons_zero, List.set_cons_succ]
          refine wpAnyH_take (i := 11) (oi := { dst := some 116, op := Op.binOp BinOp.eql 3 (Operand.tmp 112) (Operand.tmp 115) 3, type := 4, pos := "law.go:87", after := #[{ on := 7, ground := Ground.data }, { on := 10, ground := Ground.data }, { on := 4, ground := Ground.guard }], guard := some (4, false) }) (v := ?_) rfl (by kernel_rfl) (by kernel_rfl) (by kernel_rfl) (fun _ _ _ h => h) (Or.inl ⟨by rfl, ?_⟩) hHeld ?_
          rotate_left
          · intro w hSw
            try dsimp only at hSw
            go_simp
            try with_reducible rfl
          try simp only [Act.put, List.setIfInBounds_toArray, List.set_cons_zero, List.set_cons_succ]
          refine wpAnyH_take (i := 12) (oi := { dst := some 117, op := Op.pick (Operand.tmp 109) (Operand.const (Value.bool true)) (Operand.tmp 116), type := 4, pos := "law.go:87", after := #[{ on := 4, ground := Ground.data }, { on := 11, ground := Ground.data }], guard := none }) (v := ?_) rfl (by kernel_rfl) (by kernel_rfl) (by kernel_rfl) (fun _ _ _ h => h) (Or.inl ⟨by rfl, ?_⟩) hHeld ?_
          rotate_left
          · intro w hSw
            try dsimp only at hSw
            go_simp
            try with_reducible rfl
          try simp only [Act.put, List.setIfInBounds_toArray, List.set_cons_zero, List.set_cons_succ]
          refine wpAnyH_take (i := 13) (oi := { dst := some 118, op := Op.move (Operand.tmp 117), type := 4, pos := "law.go:87", after := #[{ on := 12, ground := Ground.data }, { on := 10, ground := Ground.chain }], guard := none }) (v := ?_) rfl (by kernel_rfl) (by kernel_rfl) (by kernel_rfl) (fun _ _ _ h => h) (Or.inl ⟨by rfl, ?_⟩) hHeld ?_
          rotate_left
          · intro w hSw
            try dsimp only at hSw
            go_simp
            try with_reducible rfl
          try simp only [Act.put, List.setIfInBounds_toArray, List.set_cons_zero, List.set_cons_succ]
          refine wpAnyH_take (i := 14) (oi := { dst := some 119, op := Op.load 36 (Operand.tmp 9), type := 36, pos := "law.go:87", after := #[{ on := 13, ground := Ground.guard }], guard := some (13, true) }) (v := ?_) rfl (by kernel_rfl) (by kernel_rfl) (by kernel_rfl) (fun _ _ _ h => h) (Or.inl ⟨by rfl, ?_⟩) hHeld ?_
          rotate_left
          · intro w hSw
            try dsimp only at hSw
            go_simp
            try with_reducible rfl
          try simp only [Act.put, List.setIfInBounds_toArray, List.set_cons_zero, List.set_cons_succ]
          refine wpAnyH_take (i := 15) (oi := { dst := some 120, op := Op.load 36 (Operand.tmp 11), type := 36, pos := "law.go:87", after := #[{ on := 13, ground := Ground.guard }], guard := some (13, true) }) (v := ?_) rfl (by kernel_rfl) (by kernel_rfl) (by kernel_rfl) (fun _ _ _ h => h) (Or.inl ⟨by rfl, ?_⟩) hHeld ?_
          rotate_left
          · intro w hSw
            try dsimp only at hSw
            go_simp
            try with_reducible rfl
          try simp only [Act.put, List.setIfInBounds_toArray, List.set_cons_zero, List.set_cons_succ]
          refine wpAnyH_ready (rs := [16]) (by kernel_rfl) (by simp) ?_
          refine AllReadyH.cons (o := { dst := some 121, op := Op.call { callee := Callee.value (Operand.func 38), args := #[Operand.tmp 119, Operand.tmp 120], argTypes := #[36, 36] }, type := 3, pos := "law.go:87", after := #[{ on := 14, ground := Ground.data }, { on := 15, ground := Ground.data }, { on := 13, ground := Ground.chain }, { on := 13, ground := Ground.guard }], guard := some (13, true) }) rfl (fun K hK => ?_) AllReadyH.nil
          go_simp
          go_at_call 38
          refine (HS0.out _ _ _ (x_s.wh 24 HL.out.2.2.2.1) (x_z.wh 1 (by decide))).mono ?_
          rintro e w20 ⟨rfl, b20⟩
          replace hb := bnext hb b20
          replace V0 := V0.next b20
          replace V1 := V1.next b20
          replace V_r := V_r.next b20
          replace V_s := V_s.next b20
          replace V_z := V_z.next b20
          replace x_r := x_r.next b20
          replace x_s := x_s.next b20
          replace x_z := x_z.next b20
          replace h_a := h_a.below b20
          replace h_b := h_b.below b20
          clear hHeld
          refine hK.out _ _ ?_ (fun hHeld => ?_)
          · exact ⟨V0.c0, V0.c1, V1.c0, V1.c1, V_r.c0, V_r.c1, V_s.c0, V_s.c1, V_z.c0, V_z.c1⟩
          clear hK K
          try simp only [Act.put, List.setIfInBounds_toArray, List.set_cons_zero, List.set_cons_succ]
          refine wpAnyH_take (i := 17) (oi := { dst := some 122, op := Op.binOp BinOp.eql 3 (Operand.tmp 121) (Operand.const (Value.int IntKind.i64 0)) 3, type := 4, pos := "law.go:87", after := #[{ on := 16, ground := Ground.data }, { on := 13, ground := Ground.guard }], guard := some (13, true) }) (v := ?_) rfl (by kernel_rfl) (by kernel_rfl) (by kernel_rfl) (fun _ _ _ h => h) (Or.inl ⟨by rfl, ?_⟩) hHeld ?_
          rotate_left
          · intro w hSw
            try dsimp only at hSw
            go_simp
            try with_reducible rfl
          try simp only [Act.put, List.setIfInBounds_toArray, List.set_cons_zero, List.set_cons_succ]
          refine wpAnyH_take (i := 18) (oi := { dst := some 123, op := Op.move (Operand.tmp 122), type := 4, pos := "law.go:87", after := #[{ on := 17, ground := Ground.data }, { on := 16, ground := Ground.chain }, { on := 13, ground := Ground.guard }], guard := some (13, true) }) (v := ?_) rfl (by kernel_rfl) (by kernel_rfl) (by kernel_rfl) (fun _ _ _ h => h) (Or.inl ⟨by rfl, ?_⟩) hHeld ?_
          rotate_left
          · intro w hSw
            try dsimp only at hSw
            go_simp
            try with_reducible rfl
          try simp only [Act.put, List.setIfInBounds_toArray, List.set_cons_zero, List.set_cons_succ]
          refine wpAnyH_take (i := 19) (oi := { dst := some 124, op := Op.load 36 (Operand.tmp 9), type := 36, pos := "law.go:87", after := #[{ on := 18, ground := Ground.guard }], guard := some (18, false) }) (v := undef) rfl (by kernel_rfl) (by kernel_rfl) (by kernel_rfl) (fun _ _ _ h => h) (Or.inr ⟨by rfl, rfl⟩) hHeld ?_
          try simp only [Act.put, List.setIfInBounds_toArray, List.set_cons_zero, List.set_cons_succ]
          refine wpAnyH_take (i := 20) (oi := { dst := some 125, op := Op.load 36 (Operand.tmp 11), type := 36, pos := "law.go:87", after := #[{ on := 18, ground := Ground.guard }], guard := some (18, false) }) (v := undef) rfl (by kernel_rfl) (by kernel_rfl) (by kernel_rfl) (fun _ _ _ h => h) (Or.inr ⟨by rfl, rfl⟩) hHeld ?_
          try simp only [Act.put, List.setIfInBounds_toArray, List.set_cons_zero, List.set_cons_succ]
          refine wpAnyH_take (i := 22) (oi := { dst := some 127, op := Op.load 36 (Operand.tmp 3), type := 36, pos := "law.go:87", after := #[{ on := 18, ground := Ground.guard }], guard := some (18, false) }) (v := undef) rfl (by kernel_rfl) (by kernel_rfl) (by kernel_rfl) (fun _ _ _ h => h) (Or.inr ⟨by rfl, rfl⟩) hHeld ?_
          try simp only [Act.put, List.setIfInBounds_toArray, List.set_cons_zero, List.set_cons_succ]
          refine wpAnyH_take (i := 23) (oi := { dst := some 128, op := Op.load 36 (Operand.tmp 11), type := 36, pos := "law.go:87", after := #[{ on := 18, ground := Ground.guard }], guard := some (18, false) }) (v := undef) rfl (by kernel_rfl) (by kernel_rfl) (by kernel_rfl) (fun _ _ _ h => h) (Or.inr ⟨by rfl, rfl⟩) hHeld ?_
          try simp only [Act.put, List.setIfInBounds_toArray, List.set_cons_zero, List.set_cons_succ]
          refine wpAnyH_ready (rs := [21]) (by kernel_rfl) (by simp) ?_
          refine AllReadyH.cons (o := { dst := some 126, op := Op.call { callee := Callee.value (Operand.func 38), args := #[Operand.tmp 124, Operand.tmp 125], argTypes := #[36, 36] }, type := 3, pos := "law.go:87", after := #[{ on := 19, ground := Ground.data }, { on := 20, ground := Ground.data }, { on := 18, ground := Ground.chain }, { on := 18, ground := Ground.guard }], guard := some (18, false) }) rfl (fun K hK => ?_) AllReadyH.nil
          go_simp
          clear hHeld
          refine hK.out _ _ ?_ (fun hHeld => ?_)
          · exact ⟨V0.c0, V0.c1, V1.c0, V1.c1, V_r.c0, V_r.c1, V_s.c0, V_s.c1, V_z.c0, V_z.c1⟩
          clear hK K
          try simp only [Act.put, List.setIfInBounds_toArray, List.set_cons_zero, List.set_cons_succ]
          refine wpAnyH_ready (rs := [24]) (by kernel_rfl) (by simp) ?_
          refine AllReadyH.cons (o := { dst := some 129, op := Op.call { callee := Callee.value (Operand.func 38), args := #[Operand.tmp 127, Operand.tmp 128], argTypes := #[36, 36] }, type := 3, pos := "law.go:87", after := #[{ on := 22, ground := Ground.data }, { on := 23, ground := Ground.data }, { on := 21, ground := Ground.chain }, { on := 18, ground := Ground.guard }], guard := some (18, false) }) rfl (fun K hK => ?_) AllReadyH.nil
          go_simp
          clear hHeld
          refine hK.out _ _ ?_ (fun hHeld => ?_)
          · exact ⟨V0.c0, V0.c1, V1.c0, V1.c1, V_r.c0, V_r.c1, V_s.c0, V_s.c1, V_z.c0, V_z.c1⟩
          clear hK K
          try simp only [Act.put, List.setIfInBounds_toArray, List.set_cons_zero, List.set_cons_succ]
          refine wpAnyH_take (i := 25) (oi := { dst := some 130, op := Op.binOp BinOp.eql 3 (Operand.tmp 126) (Operand.tmp 129) 3, type := 4, pos := "law.go:87", after := #[{ on := 21, ground := Ground.data }, { on := 24, ground := Ground.data }, { on := 18, ground := Ground.guard }], guard := some (18, false) }) (v := undef) rfl (by kernel_rfl) (by kernel_rfl) (by kernel_rfl) (fun _ _ _ h => h) (Or.inr ⟨by rfl, rfl⟩) hHeld ?_
          try simp only [Act.put, List.setIfInBounds_toArray, List.set_cons_zero, List.set_cons_succ]
          refine wpAnyH_take (i := 26) (oi := { dst := some 131, op := Op.pick (Operand.tmp 123) (Operand.const (Value.bool true)) (Operand.tmp 130), type := 4, pos := "law.go:87", after := #[{ on := 18, ground := Ground.data }, { on := 25, ground := Ground.data }, { on := 13, ground := Ground.guard }], guard := some (13, true) }) (v := ?_) rfl (by kernel_rfl) (by kernel_rfl) (by kernel_rfl) (fun _ _ _ h => h) (Or.inl ⟨by rfl, ?_⟩) hHeld ?_
          rotate_left
          · intro w hSw
            try dsimp only at hSw
            go_simp
            try with_reducible rfl
          try simp only [Act.put, List.setIfInBounds_toArray, List.set_cons_zero, List.set_cons_succ]
          refine wpAnyH_take (i := 27) (oi := { dst := some 132, op := Op.pick (Operand.tmp 118) (Operand.tmp 131) (Operand.const (Value.bool false)), type := 4, pos := "law.go:87", after := #[{ on := 13, ground := Ground.data }, { on := 26, ground := Ground.data }], guard := none }) (v := ?_) rfl (by kernel_rfl) (by kernel_rfl) (by kernel_rfl) (fun _ _ _ h => h) (Or.inl ⟨by rfl, ?_⟩) hHeld ?_
          rotate_left
          · intro w hSw
            try dsimp only at hSw
            go_simp
            try with_reducible rfl
          try simp only [Act.put, List.setIfInBounds_toArray, List.set_cons_zero, List.set_cons_succ]
          refine wpAnyH_take (i := 28) (oi := { dst := some 133, op := Op.move (Operand.tmp 132), type := 4, pos := "law.go:87", after := #[{ on := 27, ground := Ground.data }, { on := 24, ground := Ground.chain }], guard := none }) (v := ?_) rfl (by kernel_rfl) (by kernel_rfl) (by kernel_rfl) (fun _ _ _ h => h) (Or.inl ⟨by rfl, ?_⟩) hHeld ?_
          rotate_left
          · intro w hSw
            try dsimp only at hSw
            go_simp
            try with_reducible rfl
          try simp only [Act.put, List.setIfInBounds_toArray, List.set_cons_zero, List.set_cons_succ]
          refine wpAnyH_ready (rs := [29]) (by kernel_rfl) (by simp) ?_
          refine AllReadyH.cons (o := { dst := some 134, op := Op.call { callee := Callee.value (Operand.func 22), args := #[], argTypes := #[] }, type := 4, pos := "law.go:87", after := #[{ on := 28, ground := Ground.chain }, { on := 28, ground := Ground.guard }], guard := some (28, true) }) rfl (fun K hK => ?_) AllReadyH.nil
          go_simp
          go_at_call 22
          refine (wlives_yes _).mono ?_
          rintro e w21 ⟨rfl, b21⟩
          replace hb := bnext hb b21
          replace V0 := V0.next b21
          replace V1 := V1.next b21
          replace V_r := V_r.next b21
          replace V_s := V_s.next b21
          replace V_z := V_z.next b21
          replace x_r := x_r.next b21
          replace x_s := x_s.next b21
          replace x_z := x_z.next b21
          replace h_a := h_a.below b21
          replace h_b := h_b.below b21
          clear hHeld
          refine hK.out _ _ ?_ (fun hHeld => ?_)
          · exact ⟨V0.c0, V0.c1, V1.c0, V1.c1, V_r.c0, V_r.c1, V_s.c0, V_s.c1, V_z.c0, V_z.c1⟩
          clear hK K
          try simp only [Act.put, List.setIfInBounds_toArray, List.set_cons_zero, List.set_cons_succ]
          refine wpAnyH_take (i := 30) (oi := { dst := some 135, op := Op.pick (Operand.tmp 133) (Operand.tmp 134) (Operand.const (Value.bool false)), type := 4, pos := "law.go:87", after := #[{ on := 28, ground := Ground.data }, { on := 29, ground := Ground.data }], guard := none }) (v := ?_) rfl (by kernel_rfl) (by kernel_rfl) (by kernel_rfl) (fun _ _ _ h => h) (Or.inl ⟨by rfl, ?_⟩) hHeld ?_
          rotate_left
          · intro w hSw
            try dsimp only at hSw
            go_simp
            try with_reducible rfl
          try simp only [Act.put, List.setIfInBounds_toArray, List.set_cons_zero, List.set_cons_succ]
          refine wpAnyH_ready (rs := [31]) (by kernel_rfl) (by simp) ?_
          refine AllReadyH.cons (o := _) rfl (fun K hK => ?_) AllReadyH.nil
          go_simp
          clear hHeld
          refine hK.out _ _ ?_ (fun hHeld => ?_)
          · exact ⟨V0.c0, V0.c1, V1.c0, V1.c1, V_r.c0, V_r.c1, V_s.c0, V_s.c1, V_z.c0, V_z.c1⟩
          clear hK K
          try simp only [Act.put, List.setIfInBounds_toArray, List.set_cons_zero, List.set_cons_succ]
          refine wpAnyH_done (by kernel_rfl) ?_ _
          refine NoPanic.normal ?_
          go_wp2_with fail
          go_ret
          exact ⟨rfl, hb⟩
        · have HR0 := Lib.hid (fun (W : World) (u v : Value) (hu : Wh W u R 24) (hv : Wh W v 0 1) => wcmp_num hu hv (by decide) (by decide))
          have HS0 := Lib.hid (fun (W : World) (u v : Value) (hu : Wh W u S 24) (hv : Wh W v 0 1) => wcmp_num hu hv (by decide) (by decide))
          have HA0 := Lib.hid (fun (W : World) (u v : Value) (hu : Wh W u A 24) (hv : Wh W v 0 1) => wcmp_num hu hv (by decide) (by decide))
          have hra := HM.out.2.2.1.resolve_left hR
          have hn1 : cmpZ A 0 ≠ 0 := fun h => hR ((cmpZ_zero R 0).1 (hra.trans h))
          rw [hra] at HR0
          clear hra
          generalize cmpZ A 0 = ca at *
          have hca : (ca == 0) = false := beq_eq_false_iff_ne.2 hn1
          clear hn1
          have hsb := HM.out.2.2.2.resolve_left hS
          rw [hsb, HCb.out] at HS0
          clear hsb
          clear hR hS HM
          go_wp2_with fail
          clear V00 V01 V10 V11 V_r0 V_r1 V_s0 V_s1 V_z0 V_z1
          replace V0 := V0.next (Below.refl _ _).drew
          replace V1 := V1.next (Below.refl _ _).drew
          replace V_r := V_r.next (Below.refl _ _).drew
          replace V_s := V_s.next (Below.refl _ _).drew
          replace V_z := V_z.next (Below.refl _ _).drew
          replace x_r := x_r.next (Below.refl _ _).drew
          replace x_s := x_s.next (Below.refl _ _).drew
          replace x_z := x_z.next (Below.refl _ _).drew
          replace h_a := h_a.below (Below.refl _ _).drew
          replace h_b := h_b.below (Below.refl _ _).drew
          replace hb := hb.drew
          go_region_held3 (fun w' => w'.cell? ⟨w.heap.size, 0, none⟩ = some (.bool s0) ∧ w'.cell? ⟨w.heap.size, 1, none⟩ = some (.slice a0 len0 cap0) ∧ w'.cell? ⟨w.heap.size + 1, 0, none⟩ = some (.bool s1) ∧ w'.cell? ⟨w.heap.size + 1, 1, none⟩ = some (.slice a1 len1 cap1) ∧ w'.cell? ⟨w1.heap.size + 1, 0, none⟩ = some (.bool s_r) ∧ w'.cell? ⟨w1.heap.size + 1, 1, none⟩ = some (.slice A_r n_r c_r) ∧ w'.cell? ⟨w2.heap.size + 1, 0, none⟩ = some (.bool s_s) ∧ w'.cell? ⟨w2.heap.size + 1, 1, none⟩ = some (.slice A_s n_s c_s) ∧ w'.cell? ⟨w3.heap.size, 0, none⟩ = some (.bool s_z) ∧ w'.cell? ⟨w3.heap.size, 1, none⟩ = some (.slice A_z n_z c_z))
            (exact ⟨V0.c0, V0.c1, V1.c0, V1.c1, V_r.c0, V_r.c1, V_s.c0, V_s.c1, V_z.c0, V_z.c1⟩)
            (first
            | (go_at_call 38; (fail_if_success (have hh := b17)); refine (HR0.out _ _ _ (x_r.wh 24 HL.out.2.2.1) (x_z.wh 1 (by decide))).mono ?_; rintro e w17 ⟨rfl, b17⟩; replace hb := bnext hb b17; replace V0 := V0.next b17; replace V1 := V1.next b17; replace V_r := V_r.next b17; replace V_s := V_s.next b17; replace V_z := V_z.next b17; replace x_r := x_r.next b17; replace x_s := x_s.next b17; replace x_z := x_z.next b17; replace h_a := h_a.below b17; replace h_b := h_b.below b17)
            | (go_at_call 38; (fail_if_success (have hh := b18)); refine (HR0.out _ _ _ (x_r.wh 24 HL.out.2.2.1) (x_z.wh 1 (by decide))).mono ?_; rintro e w18 ⟨rfl, b18⟩; replace hb := bnext hb b18; replace V0 := V0.next b18; replace V1 := V1.next b18; replace V_r := V_r.next b18; replace V_s := V_s.next b18; replace V_z := V_z.next b18; replace x_r := x_r.next b18; replace x_s := x_s.next b18; replace x_z := x_z.next b18; replace h_a := h_a.below b18; replace h_b := h_b.below b18)
            | (go_at_call 38; (fail_if_success (have hh := b19)); refine (HA0.out _ _ _ h_a (x_z.wh 1 (by decide))).mono ?_; rintro e w19 ⟨rfl, b19⟩; replace hb := bnext hb b19; replace V0 := V0.next b19; replace V1 := V1.next b19; replace V_r := V_r.next b19; replace V_s := V_s.next b19; replace V_z := V_z.next b19; replace x_r := x_r.next b19; replace x_s := x_s.next b19; replace x_z := x_z.next b19; replace h_a := h_a.below b19; replace h_b := h_b.below b19)
            | (go_at_call 38; (fail_if_success (have hh := b20)); refine (HS0.out _ _ _ (x_s.wh 24 HL.out.2.2.2.1) (x_z.wh 1 (by decide))).mono ?_; rintro e w20 ⟨rfl, b20⟩; replace hb := bnext hb b20; replace V0 := V0.next b20; replace V1 := V1.next b20; replace V_r := V_r.next b20; replace V_s := V_s.next b20; replace V_z := V_z.next b20; replace x_r := x_r.next b20; replace x_s := x_s.next b20; replace x_z := x_z.next b20; replace h_a := h_a.below b20; replace h_b := h_b.below b20)
            | (go_at_call 38; (fail_if_success (have hh := b21)); refine (HS0.out _ _ _ (x_s.wh 24 HL.out.2.2.2.1) (x_z.wh 1 (by decide))).mono ?_; rintro e w21 ⟨rfl, b21⟩; replace hb := bnext hb b21; replace V0 := V0.next b21; replace V1 := V1.next b21; replace V_r := V_r.next b21; replace V_s := V_s.next b21; replace V_z := V_z.next b21; replace x_r := x_r.next b21; replace x_s := x_s.next b21; replace x_z := x_z.next b21; replace h_a := h_a.below b21; replace h_b := h_b.below b21)
            | (go_at_call 38; (fail_if_success (have hh := b22)); refine (HCB.out _ _ _ h_b (x_z.wh 1 (by decide))).mono ?_; rintro e w22 ⟨rfl, b22⟩; replace hb := bnext hb b22; replace V0 := V0.next b22; replace V1 := V1.next b22; replace V_r := V_r.next b22; replace V_s := V_s.next b22; replace V_z := V_z.next b22; replace x_r := x_r.next b22; replace x_s := x_s.next b22; replace x_z := x_z.next b22; replace h_a := h_a.below b22; replace h_b := h_b.below b22)
            | (go_at_call 22; (fail_if_success (have hh := b23)); refine (wlives_yes _).mono ?_; rintro e w23 ⟨rfl, b23⟩; replace hb := bnext hb b23; replace V0 := V0.next b23; replace V1 := V1.next b23; replace V_r := V_r.next b23; replace V_s := V_s.next b23; replace V_z := V_z.next b23; replace x_r := x_r.next b23; replace x_s := x_s.next b23; replace x_z := x_z.next b23; replace h_a := h_a.below b23; replace h_b := h_b.below b23))
          go_wp2_with fail
          go_ret
          exact ⟨rfl, hb⟩

set_option maxRecDepth 20000 in
set_option maxHeartbeats 1600000 in
theorem wholeBack_big (s0 : Bool) (a0 : Option Addr) (len0 cap0 : Nat) (s1 : Bool) (a1 : Option Addr) (len1 cap1 : Nat)  (w : World) (m0 : len0 ≤ maxLen) (m1 : len1 ≤ maxLen) (h : 24 < len0 ∨ 24 < len1)  :
    Calls Tryd.prog 7 #[.agg #[.bool s0, .slice a0 len0 cap0], .agg #[.bool s1, .slice a1 len1 cap1]] w fun e w' => e = .returned (.bool true) ∧ Below w.heap.size w w' := by
  obtain ⟨V0, V1, hb0⟩ := ents2 w (.bool s0) (.slice a0 len0 cap0) (.bool s1) (.slice a1 len1 cap1)
  have hsz : ((w.alloc (.cells #[.bool s0, .slice a0 len0 cap0] 36)).alloc (.cells #[.bool s1, .slice a1 len1 cap1] 36)).heap.size = w.heap.size + 1 + 1 := by simp
  have hall : ∀ i, i < 2 → ∃ s A n c, (((w.alloc (.cells #[.bool s0, .slice a0 len0 cap0] 36)).alloc (.cells #[.bool s1, .slice a1 len1 cap1] 36)).alloc (.cells #[.bool s0, .slice a0 len0 cap0, .bool s1, .slice a1 len1 cap1] 36)).cell? ⟨w.heap.size + 1 + 1, i * 2, none⟩ = some (.bool s) ∧ (((w.alloc (.cells #[.bool s0, .slice a0 len0 cap0] 36)).alloc (.cells #[.bool s1, .slice a1 len1 cap1] 36)).alloc (.cells #[.bool s0, .slice a0 len0 cap0, .bool s1, .slice a1 len1 cap1] 36)).cell? ⟨w.heap.size + 1 + 1, i * 2 + 1, none⟩ = some (.slice A n c) ∧ n ≤ maxLen := by
    intro i hi
    rw [← hsz]
    rcases (show i = 0 ∨ i = 1 by omega) with rfl | rfl
    · exact ⟨s0, a0, len0, cap0, (cell_new _ _ _ _).trans rfl, (cell_new _ _ _ _).trans rfl, m0⟩
    · exact ⟨s1, a1, len1, cap1, (cell_new _ _ _ _).trans rfl, (cell_new _ _ _ _).trans rfl, m1⟩
  have hglt : w.heap.size + 1 + 1 < (((w.alloc (.cells #[.bool s0, .slice a0 len0 cap0] 36)).alloc (.cells #[.bool s1, .slice a1 len1 cap1] 36)).alloc (.cells #[.bool s0, .slice a0 len0 cap0, .bool s1, .slice a1 len1 cap1] 36)).heap.size := by rw [← hsz]; simp
  have hb : Below w.heap.size w (((w.alloc (.cells #[.bool s0, .slice a0 len0 cap0] 36)).alloc (.cells #[.bool s1, .slice a1 len1 cap1] 36)).alloc (.cells #[.bool s0, .slice a0 len0 cap0, .bool s1, .slice a1 len1 cap1] 36)) := bnew hb0 _
  have V00 := V0.c0
  have V01 := V0.c1
  have V10 := V1.c0
  have V11 := V1.c1
  clear hb0
  obtain ⟨m, hm, hbig⟩ : ∃ m, m < 2 ∧ ∃ A n c, (((w.alloc (.cells #[.bool s0, .slice a0 len0 cap0] 36)).alloc (.cells #[.bool s1, .slice a1 len1 cap1] 36)).alloc (.cells #[.bool s0, .slice a0 len0 cap0, .bool s1, .slice a1 len1 cap1] 36)).cell? ⟨w.heap.size + 1 + 1, m * 2 + 1, none⟩ = some (.slice A n c) ∧ 24 < n := by
    rw [← hsz]
    rcases h with h | h
    · exact ⟨0, by omega, a0, len0, cap0, (cell_new _ _ _ _).trans rfl, h⟩
    · exact ⟨1, by omega, a1, len1, cap1, (cell_new _ _ _ _).trans rfl, h⟩
  have HA := Lib.hid (And.intro hglt (And.intro hall hbig))
  clear hall hbig hglt hsz h m0 m1 V0 V1
  go_enter Tryd.func7, Tryd.ntmps7
  go_wp2_with fail
  refine (wlsmall_no (w.heap.size + 1 + 1) 2 _ (by decide) HA.out.1 HA.out.2.1 m hm HA.out.2.2).mono ?_
  rintro e w0 ⟨rfl, b0⟩
  clear HA
  go_wp2_with fail
  refine (wlives_yes _).mono ?_
  rintro e w1 ⟨rfl, b1⟩
  go_wp2_with fail
  go_ret
  exact ⟨rfl, bnext (bnext hb b0) b1⟩

theorem wholeBack_walk (s0 : Bool) (a0 : Option Addr) (len0 cap0 : Nat) (ys0 : List Nat) (s1 : Bool) (a1 : Option Addr) (len1 cap1 : Nat) (ys1 : List Nat)  (w : World) (h0 : Sl w a0 len0 cap0 ys0) (h1 : Sl w a1 len1 cap1 ys1)  :
    Calls Tryd.prog 7 #[.agg #[.bool s0, .slice a0 len0 cap0], .agg #[.bool s1, .slice a1 len1 cap1]] w fun e w' => e = .returned (.bool true) ∧ Below w.heap.size w w' := by
  by_cases h : 24 < len0 ∨ 24 < len1
  · exact wholeBack_big _ _ _ _ _ _ _ _ w (Nat.le_trans h0.le h0.max) (Nat.le_trans h1.le h1.max) h
  · exact wholeBack_small _ _ _ _ _ _ _ _ _ _ w (Wh.of_sl s0 h0 (by omega)) (Wh.of_sl s1 h1 (by omega)) (by omega) (by omega)
end Go.Proofs.YtabdnlhehickoaaDoor
