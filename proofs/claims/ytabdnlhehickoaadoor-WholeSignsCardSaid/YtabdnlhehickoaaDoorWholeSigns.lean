/-
  The law WholeSigns: its walk.
-/
import Derived.Test.YtabdnlhehickoaaDoorWhM
import Derived.IntWalk
namespace Go.Proofs.YtabdnlhehickoaaDoor
open Go.RowKit

set_option maxRecDepth 20000 in
set_option maxHeartbeats 32000000 in
theorem wholeSigns_small (s0 : Bool) (a0 : Option Addr) (len0 cap0 : Nat) (s1 : Bool) (a1 : Option Addr) (len1 cap1 : Nat) (s2 : Bool) (a2 : Option Addr) (len2 cap2 : Nat) (A B C : Int)  (w : World) (h_a : Wh w (.agg #[.bool s0, .slice a0 len0 cap0]) A 24) (h_b : Wh w (.agg #[.bool s1, .slice a1 len1 cap1]) B 24) (h_c : Wh w (.agg #[.bool s2, .slice a2 len2 cap2]) C 24) (k0 : len0 ≤ 24) (k1 : len1 ≤ 24) (k2 : len2 ≤ 24)  :
    Calls Tryd.prog 10 #[.agg #[.bool s0, .slice a0 len0 cap0], .agg #[.bool s1, .slice a1 len1 cap1], .agg #[.bool s2, .slice a2 len2 cap2]] w fun e w' => e = .returned (.bool true) ∧ Below w.heap.size w w' := by
  have l_a := h_a.lt
  have l_b := h_b.lt
  have l_c := h_c.lt
  obtain ⟨V0, V1, V2, hb0⟩ := ents3 w (.bool s0) (.slice a0 len0 cap0) (.bool s1) (.slice a1 len1 cap1) (.bool s2) (.slice a2 len2 cap2)
  have hsz : (((w.alloc (.cells #[.bool s0, .slice a0 len0 cap0] 36)).alloc (.cells #[.bool s1, .slice a1 len1 cap1] 36)).alloc (.cells #[.bool s2, .slice a2 len2 cap2] 36)).heap.size = w.heap.size + 1 + 1 + 1 := by simp
  have hall : ∀ i, i < 3 → ∃ s A n c, ((((w.alloc (.cells #[.bool s0, .slice a0 len0 cap0] 36)).alloc (.cells #[.bool s1, .slice a1 len1 cap1] 36)).alloc (.cells #[.bool s2, .slice a2 len2 cap2] 36)).alloc (.cells #[.bool s0, .slice a0 len0 cap0, .bool s1, .slice a1 len1 cap1, .bool s2, .slice a2 len2 cap2] 36)).cell? ⟨w.heap.size + 1 + 1 + 1, i * 2, none⟩ = some (.bool s) ∧ ((((w.alloc (.cells #[.bool s0, .slice a0 len0 cap0] 36)).alloc (.cells #[.bool s1, .slice a1 len1 cap1] 36)).alloc (.cells #[.bool s2, .slice a2 len2 cap2] 36)).alloc (.cells #[.bool s0, .slice a0 len0 cap0, .bool s1, .slice a1 len1 cap1, .bool s2, .slice a2 len2 cap2] 36)).cell? ⟨w.heap.size + 1 + 1 + 1, i * 2 + 1, none⟩ = some (.slice A n c) ∧ n ≤ 24 := by
    intro i hi
    rw [← hsz]
    rcases (show i = 0 ∨ i = 1 ∨ i = 2 by omega) with rfl | rfl | rfl
    · exact ⟨s0, a0, len0, cap0, (cell_new _ _ _ _).trans rfl, (cell_new _ _ _ _).trans rfl, k0⟩
    · exact ⟨s1, a1, len1, cap1, (cell_new _ _ _ _).trans rfl, (cell_new _ _ _ _).trans rfl, k1⟩
    · exact ⟨s2, a2, len2, cap2, (cell_new _ _ _ _).trans rfl, (cell_new _ _ _ _).trans rfl, k2⟩
  have hglt : w.heap.size + 1 + 1 + 1 < ((((w.alloc (.cells #[.bool s0, .slice a0 len0 cap0] 36)).alloc (.cells #[.bool s1, .slice a1 len1 cap1] 36)).alloc (.cells #[.bool s2, .slice a2 len2 cap2] 36)).alloc (.cells #[.bool s0, .slice a0 len0 cap0, .bool s1, .slice a1 len1 cap1, .bool s2, .slice a2 len2 cap2] 36)).heap.size := by rw [← hsz]; simp
  have HA := Lib.hid (And.intro hglt hall)
  clear hall hglt hsz
  have hb : Below w.heap.size w ((((w.alloc (.cells #[.bool s0, .slice a0 len0 cap0] 36)).alloc (.cells #[.bool s1, .slice a1 len1 cap1] 36)).alloc (.cells #[.bool s2, .slice a2 len2 cap2] 36)).alloc (.cells #[.bool s0, .slice a0 len0 cap0, .bool s1, .slice a1 len1 cap1, .bool s2, .slice a2 len2 cap2] 36)) := bnew hb0 _
  replace V0 := V0.alloc (.cells #[.bool s0, .slice a0 len0 cap0, .bool s1, .slice a1 len1 cap1, .bool s2, .slice a2 len2 cap2] 36)
  replace V1 := V1.alloc (.cells #[.bool s0, .slice a0 len0 cap0, .bool s1, .slice a1 len1 cap1, .bool s2, .slice a2 len2 cap2] 36)
  replace V2 := V2.alloc (.cells #[.bool s0, .slice a0 len0 cap0, .bool s1, .slice a1 len1 cap1, .bool s2, .slice a2 len2 cap2] 36)
  have V00 := (ents3 w (.bool s0) (.slice a0 len0 cap0) (.bool s1) (.slice a1 len1 cap1) (.bool s2) (.slice a2 len2 cap2)).1.c0
  have V01 := (ents3 w (.bool s0) (.slice a0 len0 cap0) (.bool s1) (.slice a1 len1 cap1) (.bool s2) (.slice a2 len2 cap2)).1.c1
  have V10 := (ents3 w (.bool s0) (.slice a0 len0 cap0) (.bool s1) (.slice a1 len1 cap1) (.bool s2) (.slice a2 len2 cap2)).2.1.c0
  have V11 := (ents3 w (.bool s0) (.slice a0 len0 cap0) (.bool s1) (.slice a1 len1 cap1) (.bool s2) (.slice a2 len2 cap2)).2.1.c1
  have V20 := (ents3 w (.bool s0) (.slice a0 len0 cap0) (.bool s1) (.slice a1 len1 cap1) (.bool s2) (.slice a2 len2 cap2)).2.2.1.c0
  have V21 := (ents3 w (.bool s0) (.slice a0 len0 cap0) (.bool s1) (.slice a1 len1 cap1) (.bool s2) (.slice a2 len2 cap2)).2.2.1.c1
  clear hb0
  go_enter Tryd.func10, Tryd.ntmps10
  go_wp2_with fail
  refine (wlsmall_yes (w.heap.size + 1 + 1 + 1) 3 _ (by decide) HA.out.1 HA.out.2).mono ?_
  rintro e w0 ⟨rfl, b0⟩
  replace hb := bnext hb b0
  clear HA V00 V01 V10 V11 V20 V21
  replace V0 := V0.next b0
  replace V1 := V1.next b0
  replace V2 := V2.next b0
  replace h_a := h_a.below hb
  replace h_b := h_b.below hb
  replace h_c := h_c.below hb
  clear b0
  have V00 := V0.c0
  have V01 := V0.c1
  have V10 := V1.c0
  have V11 := V1.c1
  have V20 := V2.c0
  have V21 := V2.c1
  have l_ab := lt_up (lt_addZ l_a l_b) (show max 24 24 + 1 ≤ 25 by decide)
  have l_na := lt_negZ l_a
  have l_mab := lt_up (lt_mulZ l_a l_b) (show 24 + 24 ≤ 50 by decide)
  have l_mac := lt_up (lt_mulZ l_a l_c) (show 24 + 24 ≤ 50 by decide)
  have l_bc := lt_up (lt_subZ l_b l_c) (show max 24 24 + 1 ≤ 25 by decide)
  have l_sab := lt_up (lt_subZ l_a l_b) (show max 24 24 + 1 ≤ 25 by decide)
  have l_r := lt_up (lt_mulZ l_a l_bc) (show 24 + 25 ≤ 50 by decide)
  have HL := Lib.hid (And.intro l_a (And.intro l_ab (And.intro l_na (And.intro l_mab (And.intro l_mac (And.intro l_bc (And.intro l_sab l_r)))))))
  clear l_a l_b l_c l_ab l_na l_mab l_mac l_bc l_sab l_r
  go_wp2_with fail
  refine (wnorm_num h_a (by decide)).mono ?_
  rintro e w1 ⟨v_x, rfl, x_x, b1⟩
  replace hb := bnext hb b1
  clear V00 V01 V10 V11 V20 V21
  replace V0 := V0.next b1
  replace V1 := V1.next b1
  replace V2 := V2.next b1
  replace h_a := h_a.below b1
  replace h_b := h_b.below b1
  replace h_c := h_c.below b1
  have V00 := V0.c0
  have V01 := V0.c1
  have V10 := V1.c0
  have V11 := V1.c1
  have V20 := V2.c0
  have V21 := V2.c1
  clear b1
  have y_x := Lib.hid x_x
  clear y_x
  obtain ⟨s_x, A_x, n_x, c_x, rfl, g_x⟩ := x_x.opened
  have bl : Below w1.heap.size w1 (w1.alloc (.cells #[.bool s_x, .slice A_x n_x c_x] 36)) := (bnew (Below.refl _ _) _)
  have V_x := Var.mk_ w1 (.bool s_x) (.slice A_x n_x c_x)
  replace hb := bnext hb bl
  clear V00 V01 V10 V11 V20 V21
  replace V0 := V0.next bl
  replace V1 := V1.next bl
  replace V2 := V2.next bl
  replace x_x := x_x.next bl
  replace h_a := h_a.below bl
  replace h_b := h_b.below bl
  replace h_c := h_c.below bl
  have V00 := V0.c0
  have V01 := V0.c1
  have V10 := V1.c0
  have V11 := V1.c1
  have V20 := V2.c0
  have V21 := V2.c1
  clear bl
  clear g_x
  clear V00 V01 V10 V11 V20 V21
  have V00 := V0.c0
  have V01 := V0.c1
  have V10 := V1.c0
  have V11 := V1.c1
  have V20 := V2.c0
  have V21 := V2.c1
  have V_x0 := V_x.c0
  have V_x1 := V_x.c1
  have hc1 := cmpZ_bd A B
  have HCm := fun (W : World) (u v : Value) (hu : Wh W u B 24) (hv : Wh W v A 24) => wcmp_num hu hv (by decide) (by decide)
  rw [cmpZ_swap A B] at HCm
  have HCs := fun (W : World) (u v : Value) (hu : Wh W u (A - B) 25) (hv : Wh W v 0 1) => wcmp_num hu hv (by decide) (by decide)
  rw [cmpZ_sub] at HCs
  have HCa := fun (W : World) (u v : Value) (hu : Wh W u A 24) (hv : Wh W v B 24) => wcmp_num hu hv (by decide) (by decide)
  have HC := Lib.hid (And.intro HCm (And.intro HCs HCa))
  clear HCm HCs HCa
  generalize cmpZ A B = cc at *
  have hw1 : IntKind.i64.wrap (- -cc) = cc := by rw [Int.neg_neg]; exact IntWalk.i64_in _ (by omega)
  have hw2 : IntKind.i64.wrap cc = cc := IntWalk.i64_in _ (by omega)
  go_wp2_with fail
  simp only [List.append_eq, List.cons_append, List.nil_append]
  clear V00 V01 V10 V11 V20 V21 V_x0 V_x1
  replace V0 := V0.next (Below.refl _ _).drew
  replace V1 := V1.next (Below.refl _ _).drew
  replace V2 := V2.next (Below.refl _ _).drew
  replace V_x := V_x.next (Below.refl _ _).drew
  replace x_x := x_x.next (Below.refl _ _).drew
  replace h_a := h_a.below (Below.refl _ _).drew
  replace h_b := h_b.below (Below.refl _ _).drew
  replace h_c := h_c.below (Below.refl _ _).drew
  replace hb := hb.drew
  go_region_held3 (fun w' => w'.cell? ⟨w.heap.size, 0, none⟩ = some (.bool s0) ∧ w'.cell? ⟨w.heap.size, 1, none⟩ = some (.slice a0 len0 cap0) ∧ w'.cell? ⟨w.heap.size + 1, 0, none⟩ = some (.bool s1) ∧ w'.cell? ⟨w.heap.size + 1, 1, none⟩ = some (.slice a1 len1 cap1) ∧ w'.cell? ⟨w.heap.size + 1 + 1, 0, none⟩ = some (.bool s2) ∧ w'.cell? ⟨w.heap.size + 1 + 1, 1, none⟩ = some (.slice a2 len2 cap2) ∧ w'.cell? ⟨w1.heap.size, 0, none⟩ = some (.bool s_x) ∧ w'.cell? ⟨w1.heap.size, 1, none⟩ = some (.slice A_x n_x c_x))
    (exact ⟨V0.c0, V0.c1, V1.c0, V1.c1, V2.c0, V2.c1, V_x.c0, V_x.c1⟩)
    (first
    | (go_at_call 30; (fail_if_success (have hh := b2)); refine (wadd_num h_a h_b (by decide) (by decide)).mono ?_; rintro e w2 ⟨v_p, rfl, x_p, b2⟩; replace hb := bnext hb b2; replace V0 := V0.next b2; replace V1 := V1.next b2; replace V2 := V2.next b2; replace V_x := V_x.next b2; replace x_x := x_x.next b2; replace h_a := h_a.below b2; replace h_b := h_b.below b2; replace h_c := h_c.below b2)
    | (go_at_call 32; (fail_if_success (have hh := b3)); refine (wsub_num (x_p.wh 25 HL.out.2.1) h_b (by decide) (by decide)).mono ?_; rintro e w3 ⟨v_q, rfl, x_q, b3⟩; replace hb := bnext hb b3; replace V0 := V0.next b3; replace V1 := V1.next b3; replace V2 := V2.next b3; replace V_x := V_x.next b3; replace x_x := x_x.next b3; replace x_p := x_p.next b3; replace h_a := h_a.below b3; replace h_b := h_b.below b3; replace h_c := h_c.below b3; rw [show A + B - B = A by omega] at x_q; clear x_p)
    | (go_at_call 25; (fail_if_success (have hh := b4)); refine (wsame_new x_q x_x HL.out.1 (by decide)).mono ?_; rintro e w4 ⟨rfl, b4⟩; replace hb := bnext hb b4; replace V0 := V0.next b4; replace V1 := V1.next b4; replace V2 := V2.next b4; replace V_x := V_x.next b4; replace x_x := x_x.next b4; replace x_q := x_q.next b4; replace h_a := h_a.below b4; replace h_b := h_b.below b4; replace h_c := h_c.below b4; clear x_q)
    | (go_at_call 36; (fail_if_success (have hh := b5)); refine (wneg_num h_a (by decide)).mono ?_; rintro e w5 ⟨v_p, rfl, x_p, b5⟩; replace hb := bnext hb b5; replace V0 := V0.next b5; replace V1 := V1.next b5; replace V2 := V2.next b5; replace V_x := V_x.next b5; replace x_x := x_x.next b5; replace h_a := h_a.below b5; replace h_b := h_b.below b5; replace h_c := h_c.below b5)
    | (go_at_call 36; (fail_if_success (have hh := b6)); refine (wneg_num (x_p.wh 24 HL.out.2.2.1) (by decide)).mono ?_; rintro e w6 ⟨v_q, rfl, x_q, b6⟩; replace hb := bnext hb b6; replace V0 := V0.next b6; replace V1 := V1.next b6; replace V2 := V2.next b6; replace V_x := V_x.next b6; replace x_x := x_x.next b6; replace x_p := x_p.next b6; replace h_a := h_a.below b6; replace h_b := h_b.below b6; replace h_c := h_c.below b6; rw [Int.neg_neg] at x_q; clear x_p)
    | (go_at_call 25; (fail_if_success (have hh := b7)); refine (wsame_new x_q x_x HL.out.1 (by decide)).mono ?_; rintro e w7 ⟨rfl, b7⟩; replace hb := bnext hb b7; replace V0 := V0.next b7; replace V1 := V1.next b7; replace V2 := V2.next b7; replace V_x := V_x.next b7; replace x_x := x_x.next b7; replace x_q := x_q.next b7; replace h_a := h_a.below b7; replace h_b := h_b.below b7; replace h_c := h_c.below b7; clear x_q x_x)
    | (go_at_call 36; (fail_if_success (have hh := b8)); refine (wneg_num h_a (by decide)).mono ?_; rintro e w8 ⟨v_p, rfl, x_p, b8⟩; replace hb := bnext hb b8; replace V0 := V0.next b8; replace V1 := V1.next b8; replace V2 := V2.next b8; replace V_x := V_x.next b8; replace h_a := h_a.below b8; replace h_b := h_b.below b8; replace h_c := h_c.below b8)
    | (go_at_call 34; (fail_if_success (have hh := b9)); refine (wmul_num (x_p.wh 24 HL.out.2.2.1) h_b (by decide) (by decide)).mono ?_; rintro e w9 ⟨v_q, rfl, x_q, b9⟩; replace hb := bnext hb b9; replace V0 := V0.next b9; replace V1 := V1.next b9; replace V2 := V2.next b9; replace V_x := V_x.next b9; replace x_p := x_p.next b9; replace h_a := h_a.below b9; replace h_b := h_b.below b9; replace h_c := h_c.below b9; rw [Int.neg_mul] at x_q; clear x_p)
    | (go_at_call 34; (fail_if_success (have hh := b10)); refine (wmul_num h_a h_b (by decide) (by decide)).mono ?_; rintro e w10 ⟨v_p, rfl, x_p, b10⟩; replace hb := bnext hb b10; replace V0 := V0.next b10; replace V1 := V1.next b10; replace V2 := V2.next b10; replace V_x := V_x.next b10; replace x_q := x_q.next b10; replace h_a := h_a.below b10; replace h_b := h_b.below b10; replace h_c := h_c.below b10)
    | (go_at_call 36; (fail_if_success (have hh := b11)); refine (wneg_num (x_p.wh 50 HL.out.2.2.2.1) (by decide)).mono ?_; rintro e w11 ⟨v_r, rfl, x_r, b11⟩; replace hb := bnext hb b11; replace V0 := V0.next b11; replace V1 := V1.next b11; replace V2 := V2.next b11; replace V_x := V_x.next b11; replace x_q := x_q.next b11; replace x_p := x_p.next b11; replace h_a := h_a.below b11; replace h_b := h_b.below b11; replace h_c := h_c.below b11; clear x_p)
    | (go_at_call 25; (fail_if_success (have hh := b12)); refine (wsame_new x_q x_r (lt_negZ HL.out.2.2.2.1) (by decide)).mono ?_; rintro e w12 ⟨rfl, b12⟩; replace hb := bnext hb b12; replace V0 := V0.next b12; replace V1 := V1.next b12; replace V2 := V2.next b12; replace V_x := V_x.next b12; replace x_q := x_q.next b12; replace x_r := x_r.next b12; replace h_a := h_a.below b12; replace h_b := h_b.below b12; replace h_c := h_c.below b12; clear x_q x_r)
    | (go_at_call 32; (fail_if_success (have hh := b13)); refine (wsub_num h_b h_c (by decide) (by decide)).mono ?_; rintro e w13 ⟨v_p, rfl, x_p, b13⟩; replace hb := bnext hb b13; replace V0 := V0.next b13; replace V1 := V1.next b13; replace V2 := V2.next b13; replace V_x := V_x.next b13; replace h_a := h_a.below b13; replace h_b := h_b.below b13; replace h_c := h_c.below b13)
    | (go_at_call 34; (fail_if_success (have hh := b14)); refine (wmul_num h_a (x_p.wh 25 HL.out.2.2.2.2.2.1) (by decide) (by decide)).mono ?_; rintro e w14 ⟨v_q, rfl, x_q, b14⟩; replace hb := bnext hb b14; replace V0 := V0.next b14; replace V1 := V1.next b14; replace V2 := V2.next b14; replace V_x := V_x.next b14; replace x_p := x_p.next b14; replace h_a := h_a.below b14; replace h_b := h_b.below b14; replace h_c := h_c.below b14; clear x_p)
    | (go_at_call 34; (fail_if_success (have hh := b15)); refine (wmul_num h_a h_b (by decide) (by decide)).mono ?_; rintro e w15 ⟨v_p, rfl, x_p, b15⟩; replace hb := bnext hb b15; replace V0 := V0.next b15; replace V1 := V1.next b15; replace V2 := V2.next b15; replace V_x := V_x.next b15; replace x_q := x_q.next b15; replace h_a := h_a.below b15; replace h_b := h_b.below b15; replace h_c := h_c.below b15)
    | (go_at_call 34; (fail_if_success (have hh := b16)); refine (wmul_num h_a h_c (by decide) (by decide)).mono ?_; rintro e w16 ⟨v_r, rfl, x_r, b16⟩; replace hb := bnext hb b16; replace V0 := V0.next b16; replace V1 := V1.next b16; replace V2 := V2.next b16; replace V_x := V_x.next b16; replace x_q := x_q.next b16; replace x_p := x_p.next b16; replace h_a := h_a.below b16; replace h_b := h_b.below b16; replace h_c := h_c.below b16)
    | (go_at_call 32; (fail_if_success (have hh := b17)); refine (wsub_num (x_p.wh 50 HL.out.2.2.2.1) (x_r.wh 50 HL.out.2.2.2.2.1) (by decide) (by decide)).mono ?_; rintro e w17 ⟨v_t, rfl, x_t, b17⟩; replace hb := bnext hb b17; replace V0 := V0.next b17; replace V1 := V1.next b17; replace V2 := V2.next b17; replace V_x := V_x.next b17; replace x_q := x_q.next b17; replace x_p := x_p.next b17; replace x_r := x_r.next b17; replace h_a := h_a.below b17; replace h_b := h_b.below b17; replace h_c := h_c.below b17; rw [← Int.mul_sub] at x_t; clear x_p x_r)
    | (go_at_call 25; (fail_if_success (have hh := b18)); refine (wsame_new x_q x_t HL.out.2.2.2.2.2.2.2 (by decide)).mono ?_; rintro e w18 ⟨rfl, b18⟩; replace hb := bnext hb b18; replace V0 := V0.next b18; replace V1 := V1.next b18; replace V2 := V2.next b18; replace V_x := V_x.next b18; replace x_q := x_q.next b18; replace x_t := x_t.next b18; replace h_a := h_a.below b18; replace h_b := h_b.below b18; replace h_c := h_c.below b18; clear x_q x_t)
    | (go_at_call 38; (fail_if_success (have hh := b19)); refine (HC.out.2.2 _ _ _ h_a h_b).mono ?_; rintro e w19 ⟨rfl, b19⟩; replace hb := bnext hb b19; replace V0 := V0.next b19; replace V1 := V1.next b19; replace V2 := V2.next b19; replace V_x := V_x.next b19; replace h_a := h_a.below b19; replace h_b := h_b.below b19; replace h_c := h_c.below b19)
    | (go_at_call 38; (fail_if_success (have hh := b20)); refine (HC.out.1 _ _ _ h_b h_a).mono ?_; rintro e w20 ⟨rfl, b20⟩; replace hb := bnext hb b20; replace V0 := V0.next b20; replace V1 := V1.next b20; replace V2 := V2.next b20; replace V_x := V_x.next b20; replace h_a := h_a.below b20; replace h_b := h_b.below b20; replace h_c := h_c.below b20)
    | (go_at_call 32; (fail_if_success (have hh := b21)); refine (wsub_num h_a h_b (by decide) (by decide)).mono ?_; rintro e w21 ⟨v_p, rfl, x_p, b21⟩; replace hb := bnext hb b21; replace V0 := V0.next b21; replace V1 := V1.next b21; replace V2 := V2.next b21; replace V_x := V_x.next b21; replace h_a := h_a.below b21; replace h_b := h_b.below b21; replace h_c := h_c.below b21)
    | (go_at_call 40; (fail_if_success (have hh := b22)); refine (wof_num 0 _ (by decide) (by decide)).mono ?_; rintro e w22 ⟨v_q, rfl, x_q, b22⟩; replace hb := bnext hb b22; replace V0 := V0.next b22; replace V1 := V1.next b22; replace V2 := V2.next b22; replace V_x := V_x.next b22; replace x_p := x_p.next b22; replace h_a := h_a.below b22; replace h_b := h_b.below b22; replace h_c := h_c.below b22)
    | (go_at_call 38; (fail_if_success (have hh := b23)); refine (HC.out.2.1 _ _ _ (x_p.wh 25 HL.out.2.2.2.2.2.2.1) (x_q.wh 1 (by decide))).mono ?_; rintro e w23 ⟨rfl, b23⟩; replace hb := bnext hb b23; replace V0 := V0.next b23; replace V1 := V1.next b23; replace V2 := V2.next b23; replace V_x := V_x.next b23; replace x_p := x_p.next b23; replace x_q := x_q.next b23; replace h_a := h_a.below b23; replace h_b := h_b.below b23; replace h_c := h_c.below b23; clear x_p x_q)
    | (go_at_call 38; (fail_if_success (have hh := b24)); refine (HC.out.2.2 _ _ _ h_a h_b).mono ?_; rintro e w24 ⟨rfl, b24⟩; replace hb := bnext hb b24; replace V0 := V0.next b24; replace V1 := V1.next b24; replace V2 := V2.next b24; replace V_x := V_x.next b24; replace h_a := h_a.below b24; replace h_b := h_b.below b24; replace h_c := h_c.below b24)
    | (go_at_call 22; (fail_if_success (have hh := b25)); refine (wlives_yes _).mono ?_; rintro e w25 ⟨rfl, b25⟩; replace hb := bnext hb b25; replace V0 := V0.next b25; replace V1 := V1.next b25; replace V2 := V2.next b25; replace V_x := V_x.next b25; replace h_a := h_a.below b25; replace h_b := h_b.below b25; replace h_c := h_c.below b25))
  go_wp2_with fail
  go_ret
  exact ⟨rfl, hb⟩

set_option maxRecDepth 20000 in
set_option maxHeartbeats 1600000 in
theorem wholeSigns_big (s0 : Bool) (a0 : Option Addr) (len0 cap0 : Nat) (s1 : Bool) (a1 : Option Addr) (len1 cap1 : Nat) (s2 : Bool) (a2 : Option Addr) (len2 cap2 : Nat)  (w : World) (m0 : len0 ≤ maxLen) (m1 : len1 ≤ maxLen) (m2 : len2 ≤ maxLen) (h : 24 < len0 ∨ 24 < len1 ∨ 24 < len2)  :
    Calls Tryd.prog 10 #[.agg #[.bool s0, .slice a0 len0 cap0], .agg #[.bool s1, .slice a1 len1 cap1], .agg #[.bool s2, .slice a2 len2 cap2]] w fun e w' => e = .returned (.bool true) ∧ Below w.heap.size w w' := by
  obtain ⟨V0, V1, V2, hb0⟩ := ents3 w (.bool s0) (.slice a0 len0 cap0) (.bool s1) (.slice a1 len1 cap1) (.bool s2) (.slice a2 len2 cap2)
  have hsz : (((w.alloc (.cells #[.bool s0, .slice a0 len0 cap0] 36)).alloc (.cells #[.bool s1, .slice a1 len1 cap1] 36)).alloc (.cells #[.bool s2, .slice a2 len2 cap2] 36)).heap.size = w.heap.size + 1 + 1 + 1 := by simp
  have hall : ∀ i, i < 3 → ∃ s A n c, ((((w.alloc (.cells #[.bool s0, .slice a0 len0 cap0] 36)).alloc (.cells #[.bool s1, .slice a1 len1 cap1] 36)).alloc (.cells #[.bool s2, .slice a2 len2 cap2] 36)).alloc (.cells #[.bool s0, .slice a0 len0 cap0, .bool s1, .slice a1 len1 cap1, .bool s2, .slice a2 len2 cap2] 36)).cell? ⟨w.heap.size + 1 + 1 + 1, i * 2, none⟩ = some (.bool s) ∧ ((((w.alloc (.cells #[.bool s0, .slice a0 len0 cap0] 36)).alloc (.cells #[.bool s1, .slice a1 len1 cap1] 36)).alloc (.cells #[.bool s2, .slice a2 len2 cap2] 36)).alloc (.cells #[.bool s0, .slice a0 len0 cap0, .bool s1, .slice a1 len1 cap1, .bool s2, .slice a2 len2 cap2] 36)).cell? ⟨w.heap.size + 1 + 1 + 1, i * 2 + 1, none⟩ = some (.slice A n c) ∧ n ≤ maxLen := by
    intro i hi
    rw [← hsz]
    rcases (show i = 0 ∨ i = 1 ∨ i = 2 by omega) with rfl | rfl | rfl
    · exact ⟨s0, a0, len0, cap0, (cell_new _ _ _ _).trans rfl, (cell_new _ _ _ _).trans rfl, m0⟩
    · exact ⟨s1, a1, len1, cap1, (cell_new _ _ _ _).trans rfl, (cell_new _ _ _ _).trans rfl, m1⟩
    · exact ⟨s2, a2, len2, cap2, (cell_new _ _ _ _).trans rfl, (cell_new _ _ _ _).trans rfl, m2⟩
  have hglt : w.heap.size + 1 + 1 + 1 < ((((w.alloc (.cells #[.bool s0, .slice a0 len0 cap0] 36)).alloc (.cells #[.bool s1, .slice a1 len1 cap1] 36)).alloc (.cells #[.bool s2, .slice a2 len2 cap2] 36)).alloc (.cells #[.bool s0, .slice a0 len0 cap0, .bool s1, .slice a1 len1 cap1, .bool s2, .slice a2 len2 cap2] 36)).heap.size := by rw [← hsz]; simp
  have hb : Below w.heap.size w ((((w.alloc (.cells #[.bool s0, .slice a0 len0 cap0] 36)).alloc (.cells #[.bool s1, .slice a1 len1 cap1] 36)).alloc (.cells #[.bool s2, .slice a2 len2 cap2] 36)).alloc (.cells #[.bool s0, .slice a0 len0 cap0, .bool s1, .slice a1 len1 cap1, .bool s2, .slice a2 len2 cap2] 36)) := bnew hb0 _
  have V00 := V0.c0
  have V01 := V0.c1
  have V10 := V1.c0
  have V11 := V1.c1
  have V20 := V2.c0
  have V21 := V2.c1
  clear hb0
  obtain ⟨m, hm, hbig⟩ : ∃ m, m < 3 ∧ ∃ A n c, ((((w.alloc (.cells #[.bool s0, .slice a0 len0 cap0] 36)).alloc (.cells #[.bool s1, .slice a1 len1 cap1] 36)).alloc (.cells #[.bool s2, .slice a2 len2 cap2] 36)).alloc (.cells #[.bool s0, .slice a0 len0 cap0, .bool s1, .slice a1 len1 cap1, .bool s2, .slice a2 len2 cap2] 36)).cell? ⟨w.heap.size + 1 + 1 + 1, m * 2 + 1, none⟩ = some (.slice A n c) ∧ 24 < n := by
    rw [← hsz]
    rcases h with h | h | h
    · exact ⟨0, by omega, a0, len0, cap0, (cell_new _ _ _ _).trans rfl, h⟩
    · exact ⟨1, by omega, a1, len1, cap1, (cell_new _ _ _ _).trans rfl, h⟩
    · exact ⟨2, by omega, a2, len2, cap2, (cell_new _ _ _ _).trans rfl, h⟩
  have HA := Lib.hid (And.intro hglt (And.intro hall hbig))
  clear hall hbig hglt hsz h m0 m1 m2 V0 V1 V2
  go_enter Tryd.func10, Tryd.ntmps10
  go_wp2_with fail
  refine (wlsmall_no (w.heap.size + 1 + 1 + 1) 3 _ (by decide) HA.out.1 HA.out.2.1 m hm HA.out.2.2).mono ?_
  rintro e w0 ⟨rfl, b0⟩
  clear HA
  go_wp2_with fail
  refine (wlives_yes _).mono ?_
  rintro e w1 ⟨rfl, b1⟩
  go_wp2_with fail
  go_ret
  exact ⟨rfl, bnext (bnext hb b0) b1⟩

theorem wholeSigns_walk (s0 : Bool) (a0 : Option Addr) (len0 cap0 : Nat) (ys0 : List Nat) (s1 : Bool) (a1 : Option Addr) (len1 cap1 : Nat) (ys1 : List Nat) (s2 : Bool) (a2 : Option Addr) (len2 cap2 : Nat) (ys2 : List Nat)  (w : World) (h0 : Sl w a0 len0 cap0 ys0) (h1 : Sl w a1 len1 cap1 ys1) (h2 : Sl w a2 len2 cap2 ys2)  :
    Calls Tryd.prog 10 #[.agg #[.bool s0, .slice a0 len0 cap0], .agg #[.bool s1, .slice a1 len1 cap1], .agg #[.bool s2, .slice a2 len2 cap2]] w fun e w' => e = .returned (.bool true) ∧ Below w.heap.size w w' := by
  by_cases h : 24 < len0 ∨ 24 < len1 ∨ 24 < len2
  · exact wholeSigns_big _ _ _ _ _ _ _ _ _ _ _ _ w (Nat.le_trans h0.le h0.max) (Nat.le_trans h1.le h1.max) (Nat.le_trans h2.le h2.max) h
  · exact wholeSigns_small _ _ _ _ _ _ _ _ _ _ _ _ _ _ _ w (Wh.of_sl s0 h0 (by omega)) (Wh.of_sl s1 h1 (by omega)) (Wh.of_sl s2 h2 (by omega)) (by omega) (by omega) (by omega)
end Go.Proofs.YtabdnlhehickoaaDoor
