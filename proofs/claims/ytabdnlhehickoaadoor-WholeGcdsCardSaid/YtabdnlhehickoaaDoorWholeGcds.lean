/-
  The law WholeGcds: its walk.
-/
import Derived.Test.YtabdnlhehickoaaDoorWc
namespace Go.Proofs.YtabdnlhehickoaaDoor
open Go.RowKit

theorem WNew.len0 {w : World} {base : Nat} {b : Bool} {A : Option Addr} {n c : Nat} (h : WNew w base (.agg #[.bool b, .slice A n c]) 0) : n = 0 := by
  obtain ⟨x, e, A', n', c', rfl, hs, _⟩ := h
  have e' : n = n' := by simp at e; exact e.2.2.1
  rw [e', hs.len]; rfl
theorem gcd_quo {a b : Int} (h : gcdZ a b ≠ 0) : quoR a (gcdZ a b) = 0 ∧ (quoQ a (gcdZ a b)).natAbs = a.natAbs / Nat.gcd a.natAbs b.natAbs := by
  unfold gcdZ at *
  have hn : Nat.gcd a.natAbs b.natAbs ≠ 0 := by intro e; rw [e] at h; exact h rfl
  have hd := Nat.gcd_dvd_left a.natAbs b.natAbs
  generalize Nat.gcd a.natAbs b.natAbs = g at *
  have e : (g : Int) = zOf false g := rfl
  rw [e, zOf_self a, (quo_parts _ _ _ _ hn).1, (quo_parts _ _ _ _ hn).2, zOf_abs, zOf_abs, Nat.mod_eq_zero_of_dvd hd]
  exact ⟨zOf_zero.2 rfl, rfl⟩
theorem field_l (s : Bool) (A : Option Addr) (n c : Nat) (w : World) : (Instr.field 36 (.agg #[.bool s, .slice A n c]) 1).run Tryd.prog w = .ok (.slice A n c) w := by
  simp [Instr.field, go_sem, asAgg]
theorem gcdZ_comm (a b : Int) : gcdZ a b = gcdZ b a := by unfold gcdZ; rw [Nat.gcd_comm]
theorem gcd_one {a b : Int} (h : gcdZ a b ≠ 0) : gcdZ (quoQ a (gcdZ a b)) (quoQ b (gcdZ a b)) = 1 := by
  have h1 := (gcd_quo h).2
  have h2 := (gcd_quo (a := b) (b := a) (by rw [gcdZ_comm]; exact h)).2
  rw [gcdZ_comm b a] at h2
  have hn : Nat.gcd a.natAbs b.natAbs ≠ 0 := by intro e; unfold gcdZ at h; rw [e] at h; exact h rfl
  rw [Nat.gcd_comm b.natAbs] at h2
  rw [gcdZ, h1, h2, Nat.gcd_div (Nat.gcd_dvd_left _ _) (Nat.gcd_dvd_right _ _), Nat.div_self (by omega)]
  rfl
theorem gcd_zero {a b : Int} (h : gcdZ a b = 0) : a = 0 ∧ b = 0 := by
  have h' : Nat.gcd a.natAbs b.natAbs = 0 := by unfold gcdZ at h; exact_mod_cast h
  have h1 := Nat.eq_zero_of_gcd_eq_zero_left h'
  have h2 := Nat.eq_zero_of_gcd_eq_zero_right h'
  omega
theorem gcd_abs {a b : Int} {K L : Nat} (ha : a.natAbs < 4294967296 ^ K) (hb : b.natAbs < 4294967296 ^ L) (hK : K ≤ L) : (gcdZ a b).natAbs < 4294967296 ^ L := by
  unfold gcdZ
  rw [Int.natAbs_natCast]
  rcases Nat.eq_zero_or_pos a.natAbs with h | h
  · rw [h, Nat.gcd_zero_left]; exact hb
  · exact Nat.lt_of_le_of_lt (Nat.gcd_le_left _ h) (lt_up ha hK)

set_option maxRecDepth 20000 in
set_option maxHeartbeats 32000000 in
theorem wholeGcds_small (s0 : Bool) (a0 : Option Addr) (len0 cap0 : Nat) (s1 : Bool) (a1 : Option Addr) (len1 cap1 : Nat) (A B : Int)  (w : World) (h_a : Wh w (.agg #[.bool s0, .slice a0 len0 cap0]) A 12) (h_b : Wh w (.agg #[.bool s1, .slice a1 len1 cap1]) B 12) (k0 : len0 ≤ 12) (k1 : len1 ≤ 12)  :
    Calls Tryd.prog 8 #[.agg #[.bool s0, .slice a0 len0 cap0], .agg #[.bool s1, .slice a1 len1 cap1]] w fun e w' => e = .returned (.bool true) ∧ Below w.heap.size w w' := by
  have l_a := h_a.lt
  have l_b := h_b.lt
  obtain ⟨V0, V1, hb0⟩ := ents2 w (.bool s0) (.slice a0 len0 cap0) (.bool s1) (.slice a1 len1 cap1)
  have hsz : ((w.alloc (.cells #[.bool s0, .slice a0 len0 cap0] 36)).alloc (.cells #[.bool s1, .slice a1 len1 cap1] 36)).heap.size = w.heap.size + 1 + 1 := by simp
  have hall : ∀ i, i < 2 → ∃ s A n c, (((w.alloc (.cells #[.bool s0, .slice a0 len0 cap0] 36)).alloc (.cells #[.bool s1, .slice a1 len1 cap1] 36)).alloc (.cells #[.bool s0, .slice a0 len0 cap0, .bool s1, .slice a1 len1 cap1] 36)).cell? ⟨w.heap.size + 1 + 1, i * 2, none⟩ = some (.bool s) ∧ (((w.alloc (.cells #[.bool s0, .slice a0 len0 cap0] 36)).alloc (.cells #[.bool s1, .slice a1 len1 cap1] 36)).alloc (.cells #[.bool s0, .slice a0 len0 cap0, .bool s1, .slice a1 len1 cap1] 36)).cell? ⟨w.heap.size + 1 + 1, i * 2 + 1, none⟩ = some (.slice A n c) ∧ n ≤ 24 := by
    intro i hi
    rw [← hsz]
    rcases (show i = 0 ∨ i = 1 by omega) with rfl | rfl
    · exact ⟨s0, a0, len0, cap0, (cell_new _ _ _ _).trans rfl, (cell_new _ _ _ _).trans rfl, Nat.le_trans k0 (by decide)⟩
    · exact ⟨s1, a1, len1, cap1, (cell_new _ _ _ _).trans rfl, (cell_new _ _ _ _).trans rfl, Nat.le_trans k1 (by decide)⟩
  have hglt : w.heap.size + 1 + 1 < (((w.alloc (.cells #[.bool s0, .slice a0 len0 cap0] 36)).alloc (.cells #[.bool s1, .slice a1 len1 cap1] 36)).alloc (.cells #[.bool s0, .slice a0 len0 cap0, .bool s1, .slice a1 len1 cap1] 36)).heap.size := by rw [← hsz]; simp
  have HA := Lib.hid (And.intro hglt hall)
  clear hall hglt hsz
  have hb : Below w.heap.size w (((w.alloc (.cells #[.bool s0, .slice a0 len0 cap0] 36)).alloc (.cells #[.bool s1, .slice a1 len1 cap1] 36)).alloc (.cells #[.bool s0, .slice a0 len0 cap0, .bool s1, .slice a1 len1 cap1] 36)) := bnew hb0 _
  replace V0 := V0.alloc (.cells #[.bool s0, .slice a0 len0 cap0, .bool s1, .slice a1 len1 cap1] 36)
  replace V1 := V1.alloc (.cells #[.bool s0, .slice a0 len0 cap0, .bool s1, .slice a1 len1 cap1] 36)
  have V00 := (ents2 w (.bool s0) (.slice a0 len0 cap0) (.bool s1) (.slice a1 len1 cap1)).1.c0
  have V01 := (ents2 w (.bool s0) (.slice a0 len0 cap0) (.bool s1) (.slice a1 len1 cap1)).1.c1
  have V10 := (ents2 w (.bool s0) (.slice a0 len0 cap0) (.bool s1) (.slice a1 len1 cap1)).2.1.c0
  have V11 := (ents2 w (.bool s0) (.slice a0 len0 cap0) (.bool s1) (.slice a1 len1 cap1)).2.1.c1
  clear hb0
  go_enter Tryd.func8, Tryd.ntmps8
  go_wp2_with fail
  refine (wlsmall_yes (w.heap.size + 1 + 1) 2 _ (by decide) HA.out.1 HA.out.2).mono ?_
  rintro e w0 ⟨rfl, b0⟩
  replace hb := bnext hb b0
  clear HA V00 V01 V10 V11
  replace V0 := V0.next b0
  replace V1 := V1.next b0
  replace h_a := h_a.below hb
  replace h_b := h_b.below hb
  clear b0
  by_cases hG : gcdZ A B = 0
  · have hA : ¬ A < 0 := by have := (gcd_zero hG).1; omega
    have V00 := V0.c0
    have V01 := V0.c1
    have V10 := V1.c0
    have V11 := V1.c1
    have HRE : Hid (rtE A = 0) := Lib.hid (by unfold rtE; rw [if_neg hA])
    have eQ : rtQ A = (rootN A.natAbs : Int) := by unfold rtQ; rw [if_neg hA]
    have eR : rtR A = ((A.natAbs - rootN A.natAbs * rootN A.natAbs : Nat) : Int) := by unfold rtR; rw [if_neg hA]
    have hsq := rootN_sq A.natAbs
    have hlt := rootN_lt A.natAbs
    have hle := rootN_le A.natAbs
    have eM : rtQ A * rtQ A + rtR A = A := by
      rw [eQ, eR, ← Int.natCast_mul]
      omega
    have eU : (rtQ A + 1) * (rtQ A + 1) = (((rootN A.natAbs + 1) * (rootN A.natAbs + 1) : Nat) : Int) := by
      rw [eQ, Int.natCast_mul]; rfl
    have l1 : (rtQ A).natAbs < 4294967296 ^ 12 := by rw [eQ, Int.natAbs_natCast]; omega
    have l3 : (rtR A).natAbs < 4294967296 ^ 12 := by rw [eR, Int.natAbs_natCast]; omega
    have l2 := lt_up (lt_mulZ l1 l1) (show 12 + 12 ≤ 24 by decide)
    have l4 : (rtQ A * rtQ A + rtR A).natAbs < 4294967296 ^ 25 := lt_up (lt_addZ l2 l3) (by decide)
    have l5 : (rtQ A + 1).natAbs < 4294967296 ^ 13 := lt_up (lt_addZ l1 (show (1 : Int).natAbs < 4294967296 ^ 1 by decide)) (by decide)
    have l6 := lt_up (lt_mulZ l5 l5) (show 13 + 13 ≤ 26 by decide)
    have HL := Lib.hid (And.intro l1 (And.intro l2 (And.intro l3 (And.intro l4 (And.intro l5 l6)))))
    have HC1 := Lib.hid (fun (W : World) (u v : Value) (hu : Wh W u (rtQ A * rtQ A + rtR A) 25) (hv : Wh W v A 12) => wcmp_num hu hv (by decide) (by decide))
    have HC2 := Lib.hid (fun (W : World) (u v : Value) (hu : Wh W u ((rtQ A + 1) * (rtQ A + 1)) 26) (hv : Wh W v A 12) => wcmp_num hu hv (by decide) (by decide))
    have HC3 := Lib.hid (fun (W : World) (u v : Value) (hu : Wh W u (rtR A) 12) (hv : Wh W v (-1) 1) => wcmp_num hu hv (by decide) (by decide))
    rw [show cmpZ (rtQ A * rtQ A + rtR A) A = 0 from (cmpZ_zero _ _).2 eM] at HC1
    rw [show cmpZ ((rtQ A + 1) * (rtQ A + 1)) A = 1 by unfold cmpZ; rw [eU, if_neg (by omega), if_pos (by omega)]] at HC2
    rw [show cmpZ (rtR A) (-1) = 1 by unfold cmpZ; rw [eR, if_neg (by omega), if_pos (by omega)]] at HC3
    clear hA eQ eR hsq hlt hle eM eU l1 l2 l3 l4 l5 l6
    have hz := gcd_zero hG
    have lg : (gcdZ A B).natAbs < 4294967296 ^ 12 := by rw [hG]; decide
    have HGC := Lib.hid (fun (W : World) (u v : Value) (hu : Wh W u A 12) (hv : Wh W v B 12) => wgcd_num hu hv (by decide) (by decide))
    have HGZ := Lib.hid (fun (W : World) (u v : Value) (hu : Wh W u (gcdZ A B) 12) (hv : Wh W v 0 1) => wcmp_num hu hv (by decide) (by decide))
    rw [(cmpZ_zero _ _).2 hG] at HGZ
    have HNA := Lib.hid (fun (W : World) (u : Value) (hu : Wh W u A 12) => wnorm_num hu (by decide))
    have HNB := Lib.hid (fun (W : World) (u : Value) (hu : Wh W u B 12) => wnorm_num hu (by decide))
    have HZ := Lib.hid hz
    have HLG := Lib.hid lg
    clear lg l_a l_b hG hz
    generalize gcdZ A B = G at *
    go_wp2_with fail
    refine (HGC.out _ _ _ h_a h_b).mono ?_
    rintro e w1 ⟨v_g, rfl, x_g, b1⟩
    replace hb := bnext hb b1
    clear V00 V01 V10 V11
    replace V0 := V0.next b1
    replace V1 := V1.next b1
    replace h_a := h_a.below b1
    replace h_b := h_b.below b1
    have V00 := V0.c0
    have V01 := V0.c1
    have V10 := V1.c0
    have V11 := V1.c1
    clear b1
    obtain ⟨s_g, A_g, n_g, c_g, rfl, g_g⟩ := x_g.opened
    have bl : Below w1.heap.size w1 (w1.alloc (.cells #[.bool s_g, .slice A_g n_g c_g] 36)) := (bnew (Below.refl _ _) _)
    have V_g := Var.mk_ w1 (.bool s_g) (.slice A_g n_g c_g)
    replace hb := bnext hb bl
    clear V00 V01 V10 V11
    replace V0 := V0.next bl
    replace V1 := V1.next bl
    replace x_g := x_g.next bl
    replace h_a := h_a.below bl
    replace h_b := h_b.below bl
    have V00 := V0.c0
    have V01 := V0.c1
    have V10 := V1.c0
    have V11 := V1.c1
    clear bl
    clear g_g
    clear V00 V01 V10 V11
    have V00 := V0.c0
    have V01 := V0.c1
    have V10 := V1.c0
    have V11 := V1.c1
    have V_g0 := V_g.c0
    have V_g1 := V_g.c1
    go_wp2_with fail
    refine (wof_num 1 _ (by decide) (by decide)).mono ?_
    rintro e w2 ⟨v_o, rfl, x_o, b2⟩
    replace hb := bnext hb b2
    clear V00 V01 V10 V11 V_g0 V_g1
    replace V0 := V0.next b2
    replace V1 := V1.next b2
    replace V_g := V_g.next b2
    replace x_g := x_g.next b2
    replace h_a := h_a.below b2
    replace h_b := h_b.below b2
    have V00 := V0.c0
    have V01 := V0.c1
    have V10 := V1.c0
    have V11 := V1.c1
    have V_g0 := V_g.c0
    have V_g1 := V_g.c1
    clear b2
    obtain ⟨s_o, A_o, n_o, c_o, rfl, g_o⟩ := x_o.opened
    have bl : Below w2.heap.size w2 (w2.alloc (.cells #[.bool s_o, .slice A_o n_o c_o] 36)) := (bnew (Below.refl _ _) _)
    have V_o := Var.mk_ w2 (.bool s_o) (.slice A_o n_o c_o)
    replace hb := bnext hb bl
    clear V00 V01 V10 V11 V_g0 V_g1
    replace V0 := V0.next bl
    replace V1 := V1.next bl
    replace V_g := V_g.next bl
    replace x_g := x_g.next bl
    replace x_o := x_o.next bl
    replace h_a := h_a.below bl
    replace h_b := h_b.below bl
    have V00 := V0.c0
    have V01 := V0.c1
    have V10 := V1.c0
    have V11 := V1.c1
    have V_g0 := V_g.c0
    have V_g1 := V_g.c1
    clear bl
    clear g_o
    clear V00 V01 V10 V11 V_g0 V_g1
    have V00 := V0.c0
    have V01 := V0.c1
    have V10 := V1.c0
    have V11 := V1.c1
    have V_g0 := V_g.c0
    have V_g1 := V_g.c1
    have V_o0 := V_o.c0
    have V_o1 := V_o.c1
    go_wp2_with fail
    clear V00 V01 V10 V11 V_g0 V_g1 V_o0 V_o1
    replace V0 := V0.next (Below.refl _ _).drew
    replace V1 := V1.next (Below.refl _ _).drew
    replace V_g := V_g.next (Below.refl _ _).drew
    replace V_o := V_o.next (Below.refl _ _).drew
    replace x_g := x_g.next (Below.refl _ _).drew
    replace x_o := x_o.next (Below.refl _ _).drew
    replace h_a := h_a.below (Below.refl _ _).drew
    replace h_b := h_b.below (Below.refl _ _).drew
    replace hb := hb.drew
    go_region_held3 (fun w' => w'.cell? ⟨w.heap.size, 0, none⟩ = some (.bool s0) ∧ w'.cell? ⟨w.heap.size, 1, none⟩ = some (.slice a0 len0 cap0) ∧ w'.cell? ⟨w.heap.size + 1, 0, none⟩ = some (.bool s1) ∧ w'.cell? ⟨w.heap.size + 1, 1, none⟩ = some (.slice a1 len1 cap1) ∧ w'.cell? ⟨w1.heap.size, 0, none⟩ = some (.bool s_g) ∧ w'.cell? ⟨w1.heap.size, 1, none⟩ = some (.slice A_g n_g c_g) ∧ w'.cell? ⟨w2.heap.size, 0, none⟩ = some (.bool s_o) ∧ w'.cell? ⟨w2.heap.size, 1, none⟩ = some (.slice A_o n_o c_o))
      (exact ⟨V0.c0, V0.c1, V1.c0, V1.c1, V_g.c0, V_g.c1, V_o.c0, V_o.c1⟩)
      (first
      | (go_at_call 40; (fail_if_success (have hh := b3)); refine (wof_num 0 _ (by decide) (by decide)).mono ?_; rintro e w3 ⟨v_z, rfl, x_z, b3⟩; replace hb := bnext hb b3; replace V0 := V0.next b3; replace V1 := V1.next b3; replace V_g := V_g.next b3; replace V_o := V_o.next b3; replace x_g := x_g.next b3; replace x_o := x_o.next b3; replace h_a := h_a.below b3; replace h_b := h_b.below b3)
      | (go_at_call 38; (fail_if_success (have hh := b4)); refine (HGZ.out _ _ _ (x_g.wh 12 HLG.out) (x_z.wh 1 (by decide))).mono ?_; rintro e w4 ⟨rfl, b4⟩; replace hb := bnext hb b4; replace V0 := V0.next b4; replace V1 := V1.next b4; replace V_g := V_g.next b4; replace V_o := V_o.next b4; replace x_g := x_g.next b4; replace x_o := x_o.next b4; replace x_z := x_z.next b4; replace h_a := h_a.below b4; replace h_b := h_b.below b4; clear x_z))
    have V00 := V0.c0
    have V01 := V0.c1
    have V10 := V1.c0
    have V11 := V1.c1
    have V_g0 := V_g.c0
    have V_g1 := V_g.c1
    have V_o0 := V_o.c0
    have V_o1 := V_o.c1
    go_wp2_with fail
    have hfl := field_l
    clear V00 V01 V10 V11 V_g0 V_g1 V_o0 V_o1
    replace V0 := V0.next (Below.refl _ _).drew
    replace V1 := V1.next (Below.refl _ _).drew
    replace V_g := V_g.next (Below.refl _ _).drew
    replace V_o := V_o.next (Below.refl _ _).drew
    replace x_g := x_g.next (Below.refl _ _).drew
    replace x_o := x_o.next (Below.refl _ _).drew
    replace h_a := h_a.below (Below.refl _ _).drew
    replace h_b := h_b.below (Below.refl _ _).drew
    replace hb := hb.drew
    go_region_held3 (fun w' => w'.cell? ⟨w.heap.size, 0, none⟩ = some (.bool s0) ∧ w'.cell? ⟨w.heap.size, 1, none⟩ = some (.slice a0 len0 cap0) ∧ w'.cell? ⟨w.heap.size + 1, 0, none⟩ = some (.bool s1) ∧ w'.cell? ⟨w.heap.size + 1, 1, none⟩ = some (.slice a1 len1 cap1) ∧ w'.cell? ⟨w1.heap.size, 0, none⟩ = some (.bool s_g) ∧ w'.cell? ⟨w1.heap.size, 1, none⟩ = some (.slice A_g n_g c_g) ∧ w'.cell? ⟨w2.heap.size, 0, none⟩ = some (.bool s_o) ∧ w'.cell? ⟨w2.heap.size, 1, none⟩ = some (.slice A_o n_o c_o))
      (exact ⟨V0.c0, V0.c1, V1.c0, V1.c1, V_g.c0, V_g.c1, V_o.c0, V_o.c1⟩)
      (first
      | (go_at_call 26; (fail_if_success (have hh := b5)); refine (HNA.out _ _ h_a).mono ?_; rintro e w5 ⟨v_na, rfl, x_na, b5⟩; replace hb := bnext hb b5; replace V0 := V0.next b5; replace V1 := V1.next b5; replace V_g := V_g.next b5; replace V_o := V_o.next b5; replace x_g := x_g.next b5; replace x_o := x_o.next b5; replace h_a := h_a.below b5; replace h_b := h_b.below b5; rw [HZ.out.1] at x_na; obtain ⟨s_na, A_na, n_na, c_na, rfl, g_na⟩ := x_na.opened; obtain rfl := x_na.len0)
      | (go_at_call 26; (fail_if_success (have hh := b6)); refine (HNB.out _ _ h_b).mono ?_; rintro e w6 ⟨v_nb, rfl, x_nb, b6⟩; replace hb := bnext hb b6; replace V0 := V0.next b6; replace V1 := V1.next b6; replace V_g := V_g.next b6; replace V_o := V_o.next b6; replace x_g := x_g.next b6; replace x_o := x_o.next b6; replace h_a := h_a.below b6; replace h_b := h_b.below b6; rw [HZ.out.2] at x_nb; obtain ⟨s_nb, A_nb, n_nb, c_nb, rfl, g_nb⟩ := x_nb.opened; obtain rfl := x_nb.len0))
    clear V_g x_g HGC HGZ HNA HNB HLG HZ hfl
    have V00 := V0.c0
    have V01 := V0.c1
    have V10 := V1.c0
    have V11 := V1.c1
    have V_o0 := V_o.c0
    have V_o1 := V_o.c1
    go_wp2_with fail
    refine (wroot_num h_a (by decide)).mono ?_
    rintro e w7 ⟨v_u, v_v, rfl, x_u, x_v, b7⟩
    replace hb := bnext hb b7
    clear V00 V01 V10 V11 V_o0 V_o1
    replace V0 := V0.next b7
    replace V1 := V1.next b7
    replace V_o := V_o.next b7
    replace x_o := x_o.next b7
    replace h_a := h_a.below b7
    replace h_b := h_b.below b7
    have V00 := V0.c0
    have V01 := V0.c1
    have V10 := V1.c0
    have V11 := V1.c1
    have V_o0 := V_o.c0
    have V_o1 := V_o.c1
    clear b7
    rw [HRE.out]
    obtain ⟨s_u, A_u, n_u, c_u, rfl, g_u⟩ := x_u.opened
    obtain ⟨s_v, A_v, n_v, c_v, rfl, g_v⟩ := x_v.opened
    have bl : Below w7.heap.size w7 ((w7.alloc (.cells #[.bool s_u, .slice A_u n_u c_u] 36)).alloc (.cells #[.bool s_v, .slice A_v n_v c_v] 36)) := (bnew (bnew (Below.refl _ _) _) _)
    obtain ⟨V_u, V_v⟩ := mk2 w7 (.bool s_u) (.slice A_u n_u c_u) (.bool s_v) (.slice A_v n_v c_v)
    replace hb := bnext hb bl
    clear V00 V01 V10 V11 V_o0 V_o1
    replace V0 := V0.next bl
    replace V1 := V1.next bl
    replace V_o := V_o.next bl
    replace x_o := x_o.next bl
    replace x_u := x_u.next bl
    replace x_v := x_v.next bl
    replace h_a := h_a.below bl
    replace h_b := h_b.below bl
    have V00 := V0.c0
    have V01 := V0.c1
    have V10 := V1.c0
    have V11 := V1.c1
    have V_o0 := V_o.c0
    have V_o1 := V_o.c1
    clear bl
    clear g_u
    clear g_v
    clear V00 V01 V10 V11 V_o0 V_o1
    have V00 := V0.c0
    have V01 := V0.c1
    have V10 := V1.c0
    have V11 := V1.c1
    have V_o0 := V_o.c0
    have V_o1 := V_o.c1
    have V_u0 := V_u.c0
    have V_u1 := V_u.c1
    have V_v0 := V_v.c0
    have V_v1 := V_v.c1
    go_wp2_with fail
    refine (wadd_num (x_u.wh 12 HL.out.1) (x_o.wh 1 (by decide)) (by decide) (by decide)).mono ?_
    rintro e w8 ⟨v_t, rfl, x_t, b8⟩
    replace hb := bnext hb b8
    clear V00 V01 V10 V11 V_o0 V_o1 V_u0 V_u1 V_v0 V_v1
    replace V0 := V0.next b8
    replace V1 := V1.next b8
    replace V_o := V_o.next b8
    replace V_u := V_u.next b8
    replace V_v := V_v.next b8
    replace x_o := x_o.next b8
    replace x_u := x_u.next b8
    replace x_v := x_v.next b8
    replace h_a := h_a.below b8
    replace h_b := h_b.below b8
    have V00 := V0.c0
    have V01 := V0.c1
    have V10 := V1.c0
    have V11 := V1.c1
    have V_o0 := V_o.c0
    have V_o1 := V_o.c1
    have V_u0 := V_u.c0
    have V_u1 := V_u.c1
    have V_v0 := V_v.c0
    have V_v1 := V_v.c1
    clear b8
    obtain ⟨s_t, A_t, n_t, c_t, rfl, g_t⟩ := x_t.opened
    have bl : Below w8.heap.size w8 (w8.alloc (.cells #[.bool s_t, .slice A_t n_t c_t] 36)) := (bnew (Below.refl _ _) _)
    have V_t := Var.mk_ w8 (.bool s_t) (.slice A_t n_t c_t)
    replace hb := bnext hb bl
    clear V00 V01 V10 V11 V_o0 V_o1 V_u0 V_u1 V_v0 V_v1
    replace V0 := V0.next bl
    replace V1 := V1.next bl
    replace V_o := V_o.next bl
    replace V_u := V_u.next bl
    replace V_v := V_v.next bl
    replace x_o := x_o.next bl
    replace x_u := x_u.next bl
    replace x_v := x_v.next bl
    replace x_t := x_t.next bl
    replace h_a := h_a.below bl
    replace h_b := h_b.below bl
    have V00 := V0.c0
    have V01 := V0.c1
    have V10 := V1.c0
    have V11 := V1.c1
    have V_o0 := V_o.c0
    have V_o1 := V_o.c1
    have V_u0 := V_u.c0
    have V_u1 := V_u.c1
    have V_v0 := V_v.c0
    have V_v1 := V_v.c1
    clear bl
    clear g_t
    clear V00 V01 V10 V11 V_o0 V_o1 V_u0 V_u1 V_v0 V_v1
    have V00 := V0.c0
    have V01 := V0.c1
    have V10 := V1.c0
    have V11 := V1.c1
    have V_o0 := V_o.c0
    have V_o1 := V_o.c1
    have V_u0 := V_u.c0
    have V_u1 := V_u.c1
    have V_v0 := V_v.c0
    have V_v1 := V_v.c1
    have V_t0 := V_t.c0
    have V_t1 := V_t.c1
    go_wp2_with fail
    clear V00 V01 V10 V11 V_o0 V_o1 V_u0 V_u1 V_v0 V_v1 V_t0 V_t1
    replace V0 := V0.next (Below.refl _ _).drew
    replace V1 := V1.next (Below.refl _ _).drew
    replace V_o := V_o.next (Below.refl _ _).drew
    replace V_u := V_u.next (Below.refl _ _).drew
    replace V_v := V_v.next (Below.refl _ _).drew
    replace V_t := V_t.next (Below.refl _ _).drew
    replace x_o := x_o.next (Below.refl _ _).drew
    replace x_u := x_u.next (Below.refl _ _).drew
    replace x_v := x_v.next (Below.refl _ _).drew
    replace x_t := x_t.next (Below.refl _ _).drew
    replace h_a := h_a.below (Below.refl _ _).drew
    replace h_b := h_b.below (Below.refl _ _).drew
    replace hb := hb.drew
    go_region_held3 (fun w' => w'.cell? ⟨w.heap.size, 0, none⟩ = some (.bool s0) ∧ w'.cell? ⟨w.heap.size, 1, none⟩ = some (.slice a0 len0 cap0) ∧ w'.cell? ⟨w.heap.size + 1, 0, none⟩ = some (.bool s1) ∧ w'.cell? ⟨w.heap.size + 1, 1, none⟩ = some (.slice a1 len1 cap1) ∧ w'.cell? ⟨w2.heap.size, 0, none⟩ = some (.bool s_o) ∧ w'.cell? ⟨w2.heap.size, 1, none⟩ = some (.slice A_o n_o c_o) ∧ w'.cell? ⟨w7.heap.size, 0, none⟩ = some (.bool s_u) ∧ w'.cell? ⟨w7.heap.size, 1, none⟩ = some (.slice A_u n_u c_u) ∧ w'.cell? ⟨w7.heap.size + 1, 0, none⟩ = some (.bool s_v) ∧ w'.cell? ⟨w7.heap.size + 1, 1, none⟩ = some (.slice A_v n_v c_v) ∧ w'.cell? ⟨w8.heap.size, 0, none⟩ = some (.bool s_t) ∧ w'.cell? ⟨w8.heap.size, 1, none⟩ = some (.slice A_t n_t c_t))
      (exact ⟨V0.c0, V0.c1, V1.c0, V1.c1, V_o.c0, V_o.c1, V_u.c0, V_u.c1, V_v.c0, V_v.c1, V_t.c0, V_t.c1⟩)
      (first
      | (go_at_call 34; (fail_if_success (have hh := b9)); refine (wmul_num (x_u.wh 12 HL.out.1) (x_u.wh 12 HL.out.1) (by decide) (by decide)).mono ?_; rintro e w9 ⟨v_m, rfl, x_m, b9⟩; replace hb := bnext hb b9; replace V0 := V0.next b9; replace V1 := V1.next b9; replace V_o := V_o.next b9; replace V_u := V_u.next b9; replace V_v := V_v.next b9; replace V_t := V_t.next b9; replace x_o := x_o.next b9; replace x_u := x_u.next b9; replace x_v := x_v.next b9; replace x_t := x_t.next b9; replace h_a := h_a.below b9; replace h_b := h_b.below b9)
      | (go_at_call 30; (fail_if_success (have hh := b10)); refine (wadd_num (x_m.wh 24 HL.out.2.1) (x_v.wh 12 HL.out.2.2.1) (by decide) (by decide)).mono ?_; rintro e w10 ⟨v_m2, rfl, x_m2, b10⟩; replace hb := bnext hb b10; replace V0 := V0.next b10; replace V1 := V1.next b10; replace V_o := V_o.next b10; replace V_u := V_u.next b10; replace V_v := V_v.next b10; replace V_t := V_t.next b10; replace x_o := x_o.next b10; replace x_u := x_u.next b10; replace x_v := x_v.next b10; replace x_t := x_t.next b10; replace x_m := x_m.next b10; replace h_a := h_a.below b10; replace h_b := h_b.below b10; clear x_m)
      | (go_at_call 38; (fail_if_success (have hh := b11)); refine (HC1.out _ _ _ (x_m2.wh 25 HL.out.2.2.2.1) h_a).mono ?_; rintro e w11 ⟨rfl, b11⟩; replace hb := bnext hb b11; replace V0 := V0.next b11; replace V1 := V1.next b11; replace V_o := V_o.next b11; replace V_u := V_u.next b11; replace V_v := V_v.next b11; replace V_t := V_t.next b11; replace x_o := x_o.next b11; replace x_u := x_u.next b11; replace x_v := x_v.next b11; replace x_t := x_t.next b11; replace x_m2 := x_m2.next b11; replace h_a := h_a.below b11; replace h_b := h_b.below b11; clear x_m2)
      | (go_at_call 34; (fail_if_success (have hh := b12)); refine (wmul_num (x_t.wh 13 HL.out.2.2.2.2.1) (x_t.wh 13 HL.out.2.2.2.2.1) (by decide) (by decide)).mono ?_; rintro e w12 ⟨v_m3, rfl, x_m3, b12⟩; replace hb := bnext hb b12; replace V0 := V0.next b12; replace V1 := V1.next b12; replace V_o := V_o.next b12; replace V_u := V_u.next b12; replace V_v := V_v.next b12; replace V_t := V_t.next b12; replace x_o := x_o.next b12; replace x_u := x_u.next b12; replace x_v := x_v.next b12; replace x_t := x_t.next b12; replace h_a := h_a.below b12; replace h_b := h_b.below b12)
      | (go_at_call 38; (fail_if_success (have hh := b13)); refine (HC2.out _ _ _ (x_m3.wh 26 HL.out.2.2.2.2.2) h_a).mono ?_; rintro e w13 ⟨rfl, b13⟩; replace hb := bnext hb b13; replace V0 := V0.next b13; replace V1 := V1.next b13; replace V_o := V_o.next b13; replace V_u := V_u.next b13; replace V_v := V_v.next b13; replace V_t := V_t.next b13; replace x_o := x_o.next b13; replace x_u := x_u.next b13; replace x_v := x_v.next b13; replace x_t := x_t.next b13; replace x_m3 := x_m3.next b13; replace h_a := h_a.below b13; replace h_b := h_b.below b13; clear x_m3)
      | (go_at_call 40; (fail_if_success (have hh := b14)); refine (wof_num (-1) _ (by decide) (by decide)).mono ?_; rintro e w14 ⟨v_m4, rfl, x_m4, b14⟩; replace hb := bnext hb b14; replace V0 := V0.next b14; replace V1 := V1.next b14; replace V_o := V_o.next b14; replace V_u := V_u.next b14; replace V_v := V_v.next b14; replace V_t := V_t.next b14; replace x_o := x_o.next b14; replace x_u := x_u.next b14; replace x_v := x_v.next b14; replace x_t := x_t.next b14; replace h_a := h_a.below b14; replace h_b := h_b.below b14)
      | (go_at_call 38; (fail_if_success (have hh := b15)); refine (HC3.out _ _ _ (x_v.wh 12 HL.out.2.2.1) (x_m4.wh 1 (by decide))).mono ?_; rintro e w15 ⟨rfl, b15⟩; replace hb := bnext hb b15; replace V0 := V0.next b15; replace V1 := V1.next b15; replace V_o := V_o.next b15; replace V_u := V_u.next b15; replace V_v := V_v.next b15; replace V_t := V_t.next b15; replace x_o := x_o.next b15; replace x_u := x_u.next b15; replace x_v := x_v.next b15; replace x_t := x_t.next b15; replace x_m4 := x_m4.next b15; replace h_a := h_a.below b15; replace h_b := h_b.below b15; clear x_m4)
      | (go_at_call 22; (fail_if_success (have hh := b16)); refine (wlives_yes _).mono ?_; rintro e w16 ⟨rfl, b16⟩; replace hb := bnext hb b16; replace V0 := V0.next b16; replace V1 := V1.next b16; replace V_o := V_o.next b16; replace V_u := V_u.next b16; replace V_v := V_v.next b16; replace V_t := V_t.next b16; replace x_o := x_o.next b16; replace x_u := x_u.next b16; replace x_v := x_v.next b16; replace x_t := x_t.next b16; replace h_a := h_a.below b16; replace h_b := h_b.below b16))
    go_wp2_with fail
    go_ret
    exact ⟨rfl, hb⟩
  · by_cases hA : A < 0
    · have V00 := V0.c0
      have V01 := V0.c1
      have V10 := V1.c0
      have V11 := V1.c1
      have HRE : Hid (rtE A = 2) := Lib.hid (by unfold rtE; rw [if_pos hA])
      have HCN := Lib.hid (fun (W : World) (u v : Value) (hu : Wh W u A 12) (hv : Wh W v 0 1) => wcmp_num hu hv (by decide) (by decide))
      rw [show cmpZ A 0 = -1 by unfold cmpZ; rw [if_pos hA]] at HCN
      clear hA
      have hq1 := gcd_quo hG
      have hq2 := gcd_quo (a := B) (b := A) (by rw [gcdZ_comm]; exact hG)
      rw [gcdZ_comm B A] at hq2
      have hq3 := gcd_one hG
      have lg := gcd_abs l_a l_b (Nat.le_refl _)
      have hg1 : ¬ cmpZ (gcdZ A B) 1 < 0 := fun h => by have := (cmpZ_lt _ _).1 h; unfold gcdZ at this hG; omega
      have hgz : cmpZ (gcdZ A B) 0 ≠ 0 := fun h => hG ((cmpZ_zero _ _).1 h)
      have lx : (quoQ A (gcdZ A B)).natAbs < 4294967296 ^ 12 := Nat.lt_of_le_of_lt (quo_absQ hG) l_a
      have ly : (quoQ B (gcdZ A B)).natAbs < 4294967296 ^ 12 := Nat.lt_of_le_of_lt (quo_absQ hG) l_b
      have HGC := Lib.hid (fun (W : World) (u v : Value) (hu : Wh W u A 12) (hv : Wh W v B 12) => wgcd_num hu hv (by decide) (by decide))
      have HGZ := Lib.hid (fun (W : World) (u v : Value) (hu : Wh W u (gcdZ A B) 12) (hv : Wh W v 0 1) => wcmp_num hu hv (by decide) (by decide))
      have HG1 := Lib.hid (fun (W : World) (u v : Value) (hu : Wh W u (gcdZ A B) 12) (hv : Wh W v 1 1) => wcmp_num hu hv (by decide) (by decide))
      have HQ1 := Lib.hid (fun (W : World) (u v : Value) (hu : Wh W u A 12) (hv : Wh W v (gcdZ A B) 12) => wquo_num hu hv (by decide) (by decide))
      have HQ2 := Lib.hid (fun (W : World) (u v : Value) (hu : Wh W u B 12) (hv : Wh W v (gcdZ A B) 12) => wquo_num hu hv (by decide) (by decide))
      have HGG := Lib.hid (fun (W : World) (u v : Value) (hu : Wh W u (quoQ A (gcdZ A B)) 12) (hv : Wh W v (quoQ B (gcdZ A B)) 12) => wgcd_num hu hv (by decide) (by decide))
      rw [hq1.1, show quoE (gcdZ A B) = 0 by unfold quoE; rw [if_neg hG]] at HQ1
      rw [hq2.1, show quoE (gcdZ A B) = 0 by unfold quoE; rw [if_neg hG]] at HQ2
      rw [hq3] at HGG
      have HLG := Lib.hid lg
      have HLX := Lib.hid (And.intro lx ly)
      clear hq1 hq2 hq3 lg lx ly l_a l_b hG
      generalize quoQ A (gcdZ A B) = X at *
      generalize quoQ B (gcdZ A B) = Y at *
      generalize cmpZ (gcdZ A B) 0 = cz at *
      generalize cmpZ (gcdZ A B) 1 = c1 at *
      generalize gcdZ A B = G at *
      have hcz : (cz == 0) = false := beq_eq_false_iff_ne.2 hgz
      have hc1 : decide (c1 < 0) = false := decide_eq_false hg1
      clear hgz
      go_wp2_with fail
      refine (HGC.out _ _ _ h_a h_b).mono ?_
      rintro e w1 ⟨v_g, rfl, x_g, b1⟩
      replace hb := bnext hb b1
      clear V00 V01 V10 V11
      replace V0 := V0.next b1
      replace V1 := V1.next b1
      replace h_a := h_a.below b1
      replace h_b := h_b.below b1
      have V00 := V0.c0
      have V01 := V0.c1
      have V10 := V1.c0
      have V11 := V1.c1
      clear b1
      obtain ⟨s_g, A_g, n_g, c_g, rfl, g_g⟩ := x_g.opened
      have bl : Below w1.heap.size w1 (w1.alloc (.cells #[.bool s_g, .slice A_g n_g c_g] 36)) := (bnew (Below.refl _ _) _)
      have V_g := Var.mk_ w1 (.bool s_g) (.slice A_g n_g c_g)
      replace hb := bnext hb bl
      clear V00 V01 V10 V11
      replace V0 := V0.next bl
      replace V1 := V1.next bl
      replace x_g := x_g.next bl
      replace h_a := h_a.below bl
      replace h_b := h_b.below bl
      have V00 := V0.c0
      have V01 := V0.c1
      have V10 := V1.c0
      have V11 := V1.c1
      clear bl
      clear g_g
      clear V00 V01 V10 V11
      have V00 := V0.c0
      have V01 := V0.c1
      have V10 := V1.c0
      have V11 := V1.c1
      have V_g0 := V_g.c0
      have V_g1 := V_g.c1
      go_wp2_with fail
      refine (wof_num 1 _ (by decide) (by decide)).mono ?_
      rintro e w2 ⟨v_o, rfl, x_o, b2⟩
      replace hb := bnext hb b2
      clear V00 V01 V10 V11 V_g0 V_g1
      replace V0 := V0.next b2
      replace V1 := V1.next b2
      replace V_g := V_g.next b2
      replace x_g := x_g.next b2
      replace h_a := h_a.below b2
      replace h_b := h_b.below b2
      have V00 := V0.c0
      have V01 := V0.c1
      have V10 := V1.c0
      have V11 := V1.c1
      have V_g0 := V_g.c0
      have V_g1 := V_g.c1
      clear b2
      obtain ⟨s_o, A_o, n_o, c_o, rfl, g_o⟩ := x_o.opened
      have bl : Below w2.heap.size w2 (w2.alloc (.cells #[.bool s_o, .slice A_o n_o c_o] 36)) := (bnew (Below.refl _ _) _)
      have V_o := Var.mk_ w2 (.bool s_o) (.slice A_o n_o c_o)
      replace hb := bnext hb bl
      clear V00 V01 V10 V11 V_g0 V_g1
      replace V0 := V0.next bl
      replace V1 := V1.next bl
      replace V_g := V_g.next bl
      replace x_g := x_g.next bl
      replace x_o := x_o.next bl
      replace h_a := h_a.below bl
      replace h_b := h_b.below bl
      have V00 := V0.c0
      have V01 := V0.c1
      have V10 := V1.c0
      have V11 := V1.c1
      have V_g0 := V_g.c0
      have V_g1 := V_g.c1
      clear bl
      clear g_o
      clear V00 V01 V10 V11 V_g0 V_g1
      have V00 := V0.c0
      have V01 := V0.c1
      have V10 := V1.c0
      have V11 := V1.c1
      have V_g0 := V_g.c0
      have V_g1 := V_g.c1
      have V_o0 := V_o.c0
      have V_o1 := V_o.c1
      go_wp2_with fail
      clear V00 V01 V10 V11 V_g0 V_g1 V_o0 V_o1
      replace V0 := V0.next (Below.refl _ _).drew
      replace V1 := V1.next (Below.refl _ _).drew
      replace V_g := V_g.next (Below.refl _ _).drew
      replace V_o := V_o.next (Below.refl _ _).drew
      replace x_g := x_g.next (Below.refl _ _).drew
      replace x_o := x_o.next (Below.refl _ _).drew
      replace h_a := h_a.below (Below.refl _ _).drew
      replace h_b := h_b.below (Below.refl _ _).drew
      replace hb := hb.drew
      go_region_held3 (fun w' => w'.cell? ⟨w.heap.size, 0, none⟩ = some (.bool s0) ∧ w'.cell? ⟨w.heap.size, 1, none⟩ = some (.slice a0 len0 cap0) ∧ w'.cell? ⟨w.heap.size + 1, 0, none⟩ = some (.bool s1) ∧ w'.cell? ⟨w.heap.size + 1, 1, none⟩ = some (.slice a1 len1 cap1) ∧ w'.cell? ⟨w1.heap.size, 0, none⟩ = some (.bool s_g) ∧ w'.cell? ⟨w1.heap.size, 1, none⟩ = some (.slice A_g n_g c_g) ∧ w'.cell? ⟨w2.heap.size, 0, none⟩ = some (.bool s_o) ∧ w'.cell? ⟨w2.heap.size, 1, none⟩ = some (.slice A_o n_o c_o))
        (exact ⟨V0.c0, V0.c1, V1.c0, V1.c1, V_g.c0, V_g.c1, V_o.c0, V_o.c1⟩)
        (first
        | (go_at_call 40; (fail_if_success (have hh := b3)); refine (wof_num 0 _ (by decide) (by decide)).mono ?_; rintro e w3 ⟨v_z, rfl, x_z, b3⟩; replace hb := bnext hb b3; replace V0 := V0.next b3; replace V1 := V1.next b3; replace V_g := V_g.next b3; replace V_o := V_o.next b3; replace x_g := x_g.next b3; replace x_o := x_o.next b3; replace h_a := h_a.below b3; replace h_b := h_b.below b3)
        | (go_at_call 38; (fail_if_success (have hh := b4)); refine (HGZ.out _ _ _ (x_g.wh 12 HLG.out) (x_z.wh 1 (by decide))).mono ?_; rintro e w4 ⟨rfl, b4⟩; replace hb := bnext hb b4; replace V0 := V0.next b4; replace V1 := V1.next b4; replace V_g := V_g.next b4; replace V_o := V_o.next b4; replace x_g := x_g.next b4; replace x_o := x_o.next b4; replace x_z := x_z.next b4; replace h_a := h_a.below b4; replace h_b := h_b.below b4; clear x_z))
      have V00 := V0.c0
      have V01 := V0.c1
      have V10 := V1.c0
      have V11 := V1.c1
      have V_g0 := V_g.c0
      have V_g1 := V_g.c1
      have V_o0 := V_o.c0
      have V_o1 := V_o.c1
      go_wp2_with fail
      refine (HQ1.out _ _ _ h_a (x_g.wh 12 HLG.out)).mono ?_
      rintro e w5 ⟨v_x, v_r, rfl, x_x, x_r, b5⟩
      replace hb := bnext hb b5
      clear V00 V01 V10 V11 V_g0 V_g1 V_o0 V_o1
      replace V0 := V0.next b5
      replace V1 := V1.next b5
      replace V_g := V_g.next b5
      replace V_o := V_o.next b5
      replace x_g := x_g.next b5
      replace x_o := x_o.next b5
      replace h_a := h_a.below b5
      replace h_b := h_b.below b5
      have V00 := V0.c0
      have V01 := V0.c1
      have V10 := V1.c0
      have V11 := V1.c1
      have V_g0 := V_g.c0
      have V_g1 := V_g.c1
      have V_o0 := V_o.c0
      have V_o1 := V_o.c1
      clear b5
      obtain ⟨s_x, A_x, n_x, c_x, rfl, g_x⟩ := x_x.opened
      obtain ⟨s_r, A_r, n_r, c_r, rfl, g_r⟩ := x_r.opened
      have bl : Below w5.heap.size w5 ((w5.alloc (.cells #[.bool s_x, .slice A_x n_x c_x] 36)).alloc (.cells #[.bool s_r, .slice A_r n_r c_r] 36)) := (bnew (bnew (Below.refl _ _) _) _)
      obtain ⟨V_x, V_r⟩ := mk2 w5 (.bool s_x) (.slice A_x n_x c_x) (.bool s_r) (.slice A_r n_r c_r)
      replace hb := bnext hb bl
      clear V00 V01 V10 V11 V_g0 V_g1 V_o0 V_o1
      replace V0 := V0.next bl
      replace V1 := V1.next bl
      replace V_g := V_g.next bl
      replace V_o := V_o.next bl
      replace x_g := x_g.next bl
      replace x_o := x_o.next bl
      replace x_x := x_x.next bl
      replace x_r := x_r.next bl
      replace h_a := h_a.below bl
      replace h_b := h_b.below bl
      have V00 := V0.c0
      have V01 := V0.c1
      have V10 := V1.c0
      have V11 := V1.c1
      have V_g0 := V_g.c0
      have V_g1 := V_g.c1
      have V_o0 := V_o.c0
      have V_o1 := V_o.c1
      clear bl
      clear g_x
      clear g_r
      clear V00 V01 V10 V11 V_g0 V_g1 V_o0 V_o1
      have V00 := V0.c0
      have V01 := V0.c1
      have V10 := V1.c0
      have V11 := V1.c1
      have V_g0 := V_g.c0
      have V_g1 := V_g.c1
      have V_o0 := V_o.c0
      have V_o1 := V_o.c1
      have V_x0 := V_x.c0
      have V_x1 := V_x.c1
      have V_r0 := V_r.c0
      have V_r1 := V_r.c1
      obtain rfl := x_r.len0
      clear x_r
      go_wp2_with fail
      refine (HQ2.out _ _ _ h_b (x_g.wh 12 HLG.out)).mono ?_
      rintro e w6 ⟨v_y, v_s, rfl, x_y, x_s, b6⟩
      replace hb := bnext hb b6
      clear V00 V01 V10 V11 V_g0 V_g1 V_o0 V_o1 V_x0 V_x1 V_r0 V_r1
      replace V0 := V0.next b6
      replace V1 := V1.next b6
      replace V_g := V_g.next b6
      replace V_o := V_o.next b6
      replace V_x := V_x.next b6
      replace V_r := V_r.next b6
      replace x_g := x_g.next b6
      replace x_o := x_o.next b6
      replace x_x := x_x.next b6
      replace h_a := h_a.below b6
      replace h_b := h_b.below b6
      have V00 := V0.c0
      have V01 := V0.c1
      have V10 := V1.c0
      have V11 := V1.c1
      have V_g0 := V_g.c0
      have V_g1 := V_g.c1
      have V_o0 := V_o.c0
      have V_o1 := V_o.c1
      have V_x0 := V_x.c0
      have V_x1 := V_x.c1
      have V_r0 := V_r.c0
      have V_r1 := V_r.c1
      clear b6
      obtain ⟨s_y, A_y, n_y, c_y, rfl, g_y⟩ := x_y.opened
      obtain ⟨s_s, A_s, n_s, c_s, rfl, g_s⟩ := x_s.opened
      have bl : Below w6.heap.size w6 ((w6.alloc (.cells #[.bool s_y, .slice A_y n_y c_y] 36)).alloc (.cells #[.bool s_s, .slice A_s n_s c_s] 36)) := (bnew (bnew (Below.refl _ _) _) _)
      obtain ⟨V_y, V_s⟩ := mk2 w6 (.bool s_y) (.slice A_y n_y c_y) (.bool s_s) (.slice A_s n_s c_s)
      replace hb := bnext hb bl
      clear V00 V01 V10 V11 V_g0 V_g1 V_o0 V_o1 V_x0 V_x1 V_r0 V_r1
      replace V0 := V0.next bl
      replace V1 := V1.next bl
      replace V_g := V_g.next bl
      replace V_o := V_o.next bl
      replace V_x := V_x.next bl
      replace V_r := V_r.next bl
      replace x_g := x_g.next bl
      replace x_o := x_o.next bl
      replace x_x := x_x.next bl
      replace x_y := x_y.next bl
      replace x_s := x_s.next bl
      replace h_a := h_a.below bl
      replace h_b := h_b.below bl
      have V00 := V0.c0
      have V01 := V0.c1
      have V10 := V1.c0
      have V11 := V1.c1
      have V_g0 := V_g.c0
      have V_g1 := V_g.c1
      have V_o0 := V_o.c0
      have V_o1 := V_o.c1
      have V_x0 := V_x.c0
      have V_x1 := V_x.c1
      have V_r0 := V_r.c0
      have V_r1 := V_r.c1
      clear bl
      clear g_y
      clear g_s
      clear V00 V01 V10 V11 V_g0 V_g1 V_o0 V_o1 V_x0 V_x1 V_r0 V_r1
      have V00 := V0.c0
      have V01 := V0.c1
      have V10 := V1.c0
      have V11 := V1.c1
      have V_g0 := V_g.c0
      have V_g1 := V_g.c1
      have V_o0 := V_o.c0
      have V_o1 := V_o.c1
      have V_x0 := V_x.c0
      have V_x1 := V_x.c1
      have V_r0 := V_r.c0
      have V_r1 := V_r.c1
      have V_y0 := V_y.c0
      have V_y1 := V_y.c1
      have V_s0 := V_s.c0
      have V_s1 := V_s.c1
      obtain rfl := x_s.len0
      clear x_s
      go_wp2_with fail
      clear V00 V01 V10 V11 V_g0 V_g1 V_o0 V_o1 V_x0 V_x1 V_r0 V_r1 V_y0 V_y1 V_s0 V_s1
      replace V0 := V0.next (Below.refl _ _).drew
      replace V1 := V1.next (Below.refl _ _).drew
      replace V_g := V_g.next (Below.refl _ _).drew
      replace V_o := V_o.next (Below.refl _ _).drew
      replace V_x := V_x.next (Below.refl _ _).drew
      replace V_r := V_r.next (Below.refl _ _).drew
      replace V_y := V_y.next (Below.refl _ _).drew
      replace V_s := V_s.next (Below.refl _ _).drew
      replace x_g := x_g.next (Below.refl _ _).drew
      replace x_o := x_o.next (Below.refl _ _).drew
      replace x_x := x_x.next (Below.refl _ _).drew
      replace x_y := x_y.next (Below.refl _ _).drew
      replace h_a := h_a.below (Below.refl _ _).drew
      replace h_b := h_b.below (Below.refl _ _).drew
      replace hb := hb.drew
      go_region_held3 (fun w' => w'.cell? ⟨w.heap.size, 0, none⟩ = some (.bool s0) ∧ w'.cell? ⟨w.heap.size, 1, none⟩ = some (.slice a0 len0 cap0) ∧ w'.cell? ⟨w.heap.size + 1, 0, none⟩ = some (.bool s1) ∧ w'.cell? ⟨w.heap.size + 1, 1, none⟩ = some (.slice a1 len1 cap1) ∧ w'.cell? ⟨w1.heap.size, 0, none⟩ = some (.bool s_g) ∧ w'.cell? ⟨w1.heap.size, 1, none⟩ = some (.slice A_g n_g c_g) ∧ w'.cell? ⟨w2.heap.size, 0, none⟩ = some (.bool s_o) ∧ w'.cell? ⟨w2.heap.size, 1, none⟩ = some (.slice A_o n_o c_o) ∧ w'.cell? ⟨w5.heap.size, 0, none⟩ = some (.bool s_x) ∧ w'.cell? ⟨w5.heap.size, 1, none⟩ = some (.slice A_x n_x c_x) ∧ w'.cell? ⟨w5.heap.size + 1, 0, none⟩ = some (.bool s_r) ∧ w'.cell? ⟨w5.heap.size + 1, 1, none⟩ = some (.slice A_r 0 c_r) ∧ w'.cell? ⟨w6.heap.size, 0, none⟩ = some (.bool s_y) ∧ w'.cell? ⟨w6.heap.size, 1, none⟩ = some (.slice A_y n_y c_y) ∧ w'.cell? ⟨w6.heap.size + 1, 0, none⟩ = some (.bool s_s) ∧ w'.cell? ⟨w6.heap.size + 1, 1, none⟩ = some (.slice A_s 0 c_s))
        (exact ⟨V0.c0, V0.c1, V1.c0, V1.c1, V_g.c0, V_g.c1, V_o.c0, V_o.c1, V_x.c0, V_x.c1, V_r.c0, V_r.c1, V_y.c0, V_y.c1, V_s.c0, V_s.c1⟩)
        (first
        | (go_at_call 38; (fail_if_success (have hh := b7)); refine (HG1.out _ _ _ (x_g.wh 12 HLG.out) (x_o.wh 1 (by decide))).mono ?_; rintro e w7 ⟨rfl, b7⟩; replace hb := bnext hb b7; replace V0 := V0.next b7; replace V1 := V1.next b7; replace V_g := V_g.next b7; replace V_o := V_o.next b7; replace V_x := V_x.next b7; replace V_r := V_r.next b7; replace V_y := V_y.next b7; replace V_s := V_s.next b7; replace x_g := x_g.next b7; replace x_o := x_o.next b7; replace x_x := x_x.next b7; replace x_y := x_y.next b7; replace h_a := h_a.below b7; replace h_b := h_b.below b7)
        | (go_at_call 46; (fail_if_success (have hh := b8)); refine (HGG.out _ _ _ (x_x.wh 12 HLX.out.1) (x_y.wh 12 HLX.out.2)).mono ?_; rintro e w8 ⟨v_k, rfl, x_k, b8⟩; replace hb := bnext hb b8; replace V0 := V0.next b8; replace V1 := V1.next b8; replace V_g := V_g.next b8; replace V_o := V_o.next b8; replace V_x := V_x.next b8; replace V_r := V_r.next b8; replace V_y := V_y.next b8; replace V_s := V_s.next b8; replace x_g := x_g.next b8; replace x_o := x_o.next b8; replace x_x := x_x.next b8; replace x_y := x_y.next b8; replace h_a := h_a.below b8; replace h_b := h_b.below b8)
        | (go_at_call 25; (fail_if_success (have hh := b9)); refine (wsame_new x_k x_o (K := 1) (by decide) (by decide)).mono ?_; rintro e w9 ⟨rfl, b9⟩; replace hb := bnext hb b9; replace V0 := V0.next b9; replace V1 := V1.next b9; replace V_g := V_g.next b9; replace V_o := V_o.next b9; replace V_x := V_x.next b9; replace V_r := V_r.next b9; replace V_y := V_y.next b9; replace V_s := V_s.next b9; replace x_g := x_g.next b9; replace x_o := x_o.next b9; replace x_x := x_x.next b9; replace x_y := x_y.next b9; replace x_k := x_k.next b9; replace h_a := h_a.below b9; replace h_b := h_b.below b9; clear x_k))
      clear V_x V_r V_y V_s V_g x_x x_y x_g hg1 hc1 hcz HGC HGZ HG1 HQ1 HQ2 HGG HLG HLX
      have V00 := V0.c0
      have V01 := V0.c1
      have V10 := V1.c0
      have V11 := V1.c1
      have V_o0 := V_o.c0
      have V_o1 := V_o.c1
      go_wp2_with fail
      refine (wroot_num h_a (by decide)).mono ?_
      rintro e w10 ⟨v_u, v_v, rfl, x_u, x_v, b10⟩
      replace hb := bnext hb b10
      clear V00 V01 V10 V11 V_o0 V_o1
      replace V0 := V0.next b10
      replace V1 := V1.next b10
      replace V_o := V_o.next b10
      replace x_o := x_o.next b10
      replace h_a := h_a.below b10
      replace h_b := h_b.below b10
      have V00 := V0.c0
      have V01 := V0.c1
      have V10 := V1.c0
      have V11 := V1.c1
      have V_o0 := V_o.c0
      have V_o1 := V_o.c1
      clear b10
      rw [HRE.out]
      obtain ⟨s_u, A_u, n_u, c_u, rfl, g_u⟩ := x_u.opened
      obtain ⟨s_v, A_v, n_v, c_v, rfl, g_v⟩ := x_v.opened
      have bl : Below w10.heap.size w10 ((w10.alloc (.cells #[.bool s_u, .slice A_u n_u c_u] 36)).alloc (.cells #[.bool s_v, .slice A_v n_v c_v] 36)) := (bnew (bnew (Below.refl _ _) _) _)
      obtain ⟨V_u, V_v⟩ := mk2 w10 (.bool s_u) (.slice A_u n_u c_u) (.bool s_v) (.slice A_v n_v c_v)
      replace hb := bnext hb bl
      clear V00 V01 V10 V11 V_o0 V_o1
      replace V0 := V0.next bl
      replace V1 := V1.next bl
      replace V_o := V_o.next bl
      replace x_o := x_o.next bl
      replace x_u := x_u.next bl
      replace x_v := x_v.next bl
      replace h_a := h_a.below bl
      replace h_b := h_b.below bl
      have V00 := V0.c0
      have V01 := V0.c1
      have V10 := V1.c0
      have V11 := V1.c1
      have V_o0 := V_o.c0
      have V_o1 := V_o.c1
      clear bl
      clear g_u
      clear g_v
      clear V00 V01 V10 V11 V_o0 V_o1
      have V00 := V0.c0
      have V01 := V0.c1
      have V10 := V1.c0
      have V11 := V1.c1
      have V_o0 := V_o.c0
      have V_o1 := V_o.c1
      have V_u0 := V_u.c0
      have V_u1 := V_u.c1
      have V_v0 := V_v.c0
      have V_v1 := V_v.c1
      clear V_u0 V_u1
      clear V_v0 V_v1
      clear V_u V_v x_u x_v
      go_wp2_with fail
      clear V00 V01 V10 V11 V_o0 V_o1
      replace V0 := V0.next (Below.refl _ _).drew
      replace V1 := V1.next (Below.refl _ _).drew
      replace V_o := V_o.next (Below.refl _ _).drew
      replace x_o := x_o.next (Below.refl _ _).drew
      replace h_a := h_a.below (Below.refl _ _).drew
      replace h_b := h_b.below (Below.refl _ _).drew
      replace hb := hb.drew
      go_region_held3 (fun w' => w'.cell? ⟨w.heap.size, 0, none⟩ = some (.bool s0) ∧ w'.cell? ⟨w.heap.size, 1, none⟩ = some (.slice a0 len0 cap0) ∧ w'.cell? ⟨w.heap.size + 1, 0, none⟩ = some (.bool s1) ∧ w'.cell? ⟨w.heap.size + 1, 1, none⟩ = some (.slice a1 len1 cap1) ∧ w'.cell? ⟨w2.heap.size, 0, none⟩ = some (.bool s_o) ∧ w'.cell? ⟨w2.heap.size, 1, none⟩ = some (.slice A_o n_o c_o))
        (exact ⟨V0.c0, V0.c1, V1.c0, V1.c1, V_o.c0, V_o.c1⟩)
        (first
        | (go_at_call 40; (fail_if_success (have hh := b11)); refine (wof_num 0 _ (by decide) (by decide)).mono ?_; rintro e w11 ⟨v_z0, rfl, x_z0, b11⟩; replace hb := bnext hb b11; replace V0 := V0.next b11; replace V1 := V1.next b11; replace V_o := V_o.next b11; replace x_o := x_o.next b11; replace h_a := h_a.below b11; replace h_b := h_b.below b11)
        | (go_at_call 38; (fail_if_success (have hh := b12)); refine (HCN.out _ _ _ h_a (x_z0.wh 1 (by decide))).mono ?_; rintro e w12 ⟨rfl, b12⟩; replace hb := bnext hb b12; replace V0 := V0.next b12; replace V1 := V1.next b12; replace V_o := V_o.next b12; replace x_o := x_o.next b12; replace x_z0 := x_z0.next b12; replace h_a := h_a.below b12; replace h_b := h_b.below b12; clear x_z0)
        | (go_at_call 22; (fail_if_success (have hh := b13)); refine (wlives_yes _).mono ?_; rintro e w13 ⟨rfl, b13⟩; replace hb := bnext hb b13; replace V0 := V0.next b13; replace V1 := V1.next b13; replace V_o := V_o.next b13; replace x_o := x_o.next b13; replace h_a := h_a.below b13; replace h_b := h_b.below b13))
      go_wp2_with fail
      go_ret
      exact ⟨rfl, hb⟩
    · have V00 := V0.c0
      have V01 := V0.c1
      have V10 := V1.c0
      have V11 := V1.c1
      have HRE : Hid (rtE A = 0) := Lib.hid (by unfold rtE; rw [if_neg hA])
      have eQ : rtQ A = (rootN A.natAbs : Int) := by unfold rtQ; rw [if_neg hA]
      have eR : rtR A = ((A.natAbs - rootN A.natAbs * rootN A.natAbs : Nat) : Int) := by unfold rtR; rw [if_neg hA]
      have hsq := rootN_sq A.natAbs
      have hlt := rootN_lt A.natAbs
      have hle := rootN_le A.natAbs
      have eM : rtQ A * rtQ A + rtR A = A := by
        rw [eQ, eR, ← Int.natCast_mul]
        omega
      have eU : (rtQ A + 1) * (rtQ A + 1) = (((rootN A.natAbs + 1) * (rootN A.natAbs + 1) : Nat) : Int) := by
        rw [eQ, Int.natCast_mul]; rfl
      have l1 : (rtQ A).natAbs < 4294967296 ^ 12 := by rw [eQ, Int.natAbs_natCast]; omega
      have l3 : (rtR A).natAbs < 4294967296 ^ 12 := by rw [eR, Int.natAbs_natCast]; omega
      have l2 := lt_up (lt_mulZ l1 l1) (show 12 + 12 ≤ 24 by decide)
      have l4 : (rtQ A * rtQ A + rtR A).natAbs < 4294967296 ^ 25 := lt_up (lt_addZ l2 l3) (by decide)
      have l5 : (rtQ A + 1).natAbs < 4294967296 ^ 13 := lt_up (lt_addZ l1 (show (1 : Int).natAbs < 4294967296 ^ 1 by decide)) (by decide)
      have l6 := lt_up (lt_mulZ l5 l5) (show 13 + 13 ≤ 26 by decide)
      have HL := Lib.hid (And.intro l1 (And.intro l2 (And.intro l3 (And.intro l4 (And.intro l5 l6)))))
      have HC1 := Lib.hid (fun (W : World) (u v : Value) (hu : Wh W u (rtQ A * rtQ A + rtR A) 25) (hv : Wh W v A 12) => wcmp_num hu hv (by decide) (by decide))
      have HC2 := Lib.hid (fun (W : World) (u v : Value) (hu : Wh W u ((rtQ A + 1) * (rtQ A + 1)) 26) (hv : Wh W v A 12) => wcmp_num hu hv (by decide) (by decide))
      have HC3 := Lib.hid (fun (W : World) (u v : Value) (hu : Wh W u (rtR A) 12) (hv : Wh W v (-1) 1) => wcmp_num hu hv (by decide) (by decide))
      rw [show cmpZ (rtQ A * rtQ A + rtR A) A = 0 from (cmpZ_zero _ _).2 eM] at HC1
      rw [show cmpZ ((rtQ A + 1) * (rtQ A + 1)) A = 1 by unfold cmpZ; rw [eU, if_neg (by omega), if_pos (by omega)]] at HC2
      rw [show cmpZ (rtR A) (-1) = 1 by unfold cmpZ; rw [eR, if_neg (by omega), if_pos (by omega)]] at HC3
      clear hA eQ eR hsq hlt hle eM eU l1 l2 l3 l4 l5 l6
      have hq1 := gcd_quo hG
      have hq2 := gcd_quo (a := B) (b := A) (by rw [gcdZ_comm]; exact hG)
      rw [gcdZ_comm B A] at hq2
      have hq3 := gcd_one hG
      have lg := gcd_abs l_a l_b (Nat.le_refl _)
      have hg1 : ¬ cmpZ (gcdZ A B) 1 < 0 := fun h => by have := (cmpZ_lt _ _).1 h; unfold gcdZ at this hG; omega
      have hgz : cmpZ (gcdZ A B) 0 ≠ 0 := fun h => hG ((cmpZ_zero _ _).1 h)
      have lx : (quoQ A (gcdZ A B)).natAbs < 4294967296 ^ 12 := Nat.lt_of_le_of_lt (quo_absQ hG) l_a
      have ly : (quoQ B (gcdZ A B)).natAbs < 4294967296 ^ 12 := Nat.lt_of_le_of_lt (quo_absQ hG) l_b
      have HGC := Lib.hid (fun (W : World) (u v : Value) (hu : Wh W u A 12) (hv : Wh W v B 12) => wgcd_num hu hv (by decide) (by decide))
      have HGZ := Lib.hid (fun (W : World) (u v : Value) (hu : Wh W u (gcdZ A B) 12) (hv : Wh W v 0 1) => wcmp_num hu hv (by decide) (by decide))
      have HG1 := Lib.hid (fun (W : World) (u v : Value) (hu : Wh W u (gcdZ A B) 12) (hv : Wh W v 1 1) => wcmp_num hu hv (by decide) (by decide))
      have HQ1 := Lib.hid (fun (W : World) (u v : Value) (hu : Wh W u A 12) (hv : Wh W v (gcdZ A B) 12) => wquo_num hu hv (by decide) (by decide))
      have HQ2 := Lib.hid (fun (W : World) (u v : Value) (hu : Wh W u B 12) (hv : Wh W v (gcdZ A B) 12) => wquo_num hu hv (by decide) (by decide))
      have HGG := Lib.hid (fun (W : World) (u v : Value) (hu : Wh W u (quoQ A (gcdZ A B)) 12) (hv : Wh W v (quoQ B (gcdZ A B)) 12) => wgcd_num hu hv (by decide) (by decide))
      rw [hq1.1, show quoE (gcdZ A B) = 0 by unfold quoE; rw [if_neg hG]] at HQ1
      rw [hq2.1, show quoE (gcdZ A B) = 0 by unfold quoE; rw [if_neg hG]] at HQ2
      rw [hq3] at HGG
      have HLG := Lib.hid lg
      have HLX := Lib.hid (And.intro lx ly)
      clear hq1 hq2 hq3 lg lx ly l_a l_b hG
      generalize quoQ A (gcdZ A B) = X at *
      generalize quoQ B (gcdZ A B) = Y at *
      generalize cmpZ (gcdZ A B) 0 = cz at *
      generalize cmpZ (gcdZ A B) 1 = c1 at *
      generalize gcdZ A B = G at *
      have hcz : (cz == 0) = false := beq_eq_false_iff_ne.2 hgz
      have hc1 : decide (c1 < 0) = false := decide_eq_false hg1
      clear hgz
      go_wp2_with fail
      refine (HGC.out _ _ _ h_a h_b).mono ?_
      rintro e w1 ⟨v_g, rfl, x_g, b1⟩
      replace hb := bnext hb b1
      clear V00 V01 V10 V11
      replace V0 := V0.next b1
      replace V1 := V1.next b1
      replace h_a := h_a.below b1
      replace h_b := h_b.below b1
      have V00 := V0.c0
      have V01 := V0.c1
      have V10 := V1.c0
      have V11 := V1.c1
      clear b1
      obtain ⟨s_g, A_g, n_g, c_g, rfl, g_g⟩ := x_g.opened
      have bl : Below w1.heap.size w1 (w1.alloc (.cells #[.bool s_g, .slice A_g n_g c_g] 36)) := (bnew (Below.refl _ _) _)
      have V_g := Var.mk_ w1 (.bool s_g) (.slice A_g n_g c_g)
      replace hb := bnext hb bl
      clear V00 V01 V10 V11
      replace V0 := V0.next bl
      replace V1 := V1.next bl
      replace x_g := x_g.next bl
      replace h_a := h_a.below bl
      replace h_b := h_b.below bl
      have V00 := V0.c0
      have V01 := V0.c1
      have V10 := V1.c0
      have V11 := V1.c1
      clear bl
      clear g_g
      clear V00 V01 V10 V11
      have V00 := V0.c0
      have V01 := V0.c1
      have V10 := V1.c0
      have V11 := V1.c1
      have V_g0 := V_g.c0
      have V_g1 := V_g.c1
      go_wp2_with fail
      refine (wof_num 1 _ (by decide) (by decide)).mono ?_
      rintro e w2 ⟨v_o, rfl, x_o, b2⟩
      replace hb := bnext hb b2
      clear V00 V01 V10 V11 V_g0 V_g1
      replace V0 := V0.next b2
      replace V1 := V1.next b2
      replace V_g := V_g.next b2
      replace x_g := x_g.next b2
      replace h_a := h_a.below b2
      replace h_b := h_b.below b2
      have V00 := V0.c0
      have V01 := V0.c1
      have V10 := V1.c0
      have V11 := V1.c1
      have V_g0 := V_g.c0
      have V_g1 := V_g.c1
      clear b2
      obtain ⟨s_o, A_o, n_o, c_o, rfl, g_o⟩ := x_o.opened
      have bl : Below w2.heap.size w2 (w2.alloc (.cells #[.bool s_o, .slice A_o n_o c_o] 36)) := (bnew (Below.refl _ _) _)
      have V_o := Var.mk_ w2 (.bool s_o) (.slice A_o n_o c_o)
      replace hb := bnext hb bl
      clear V00 V01 V10 V11 V_g0 V_g1
      replace V0 := V0.next bl
      replace V1 := V1.next bl
      replace V_g := V_g.next bl
      replace x_g := x_g.next bl
      replace x_o := x_o.next bl
      replace h_a := h_a.below bl
      replace h_b := h_b.below bl
      have V00 := V0.c0
      have V01 := V0.c1
      have V10 := V1.c0
      have V11 := V1.c1
      have V_g0 := V_g.c0
      have V_g1 := V_g.c1
      clear bl
      clear g_o
      clear V00 V01 V10 V11 V_g0 V_g1
      have V00 := V0.c0
      have V01 := V0.c1
      have V10 := V1.c0
      have V11 := V1.c1
      have V_g0 := V_g.c0
      have V_g1 := V_g.c1
      have V_o0 := V_o.c0
      have V_o1 := V_o.c1
      go_wp2_with fail
      clear V00 V01 V10 V11 V_g0 V_g1 V_o0 V_o1
      replace V0 := V0.next (Below.refl _ _).drew
      replace V1 := V1.next (Below.refl _ _).drew
      replace V_g := V_g.next (Below.refl _ _).drew
      replace V_o := V_o.next (Below.refl _ _).drew
      replace x_g := x_g.next (Below.refl _ _).drew
      replace x_o := x_o.next (Below.refl _ _).drew
      replace h_a := h_a.below (Below.refl _ _).drew
      replace h_b := h_b.below (Below.refl _ _).drew
      replace hb := hb.drew
      go_region_held3 (fun w' => w'.cell? ⟨w.heap.size, 0, none⟩ = some (.bool s0) ∧ w'.cell? ⟨w.heap.size, 1, none⟩ = some (.slice a0 len0 cap0) ∧ w'.cell? ⟨w.heap.size + 1, 0, none⟩ = some (.bool s1) ∧ w'.cell? ⟨w.heap.size + 1, 1, none⟩ = some (.slice a1 len1 cap1) ∧ w'.cell? ⟨w1.heap.size, 0, none⟩ = some (.bool s_g) ∧ w'.cell? ⟨w1.heap.size, 1, none⟩ = some (.slice A_g n_g c_g) ∧ w'.cell? ⟨w2.heap.size, 0, none⟩ = some (.bool s_o) ∧ w'.cell? ⟨w2.heap.size, 1, none⟩ = some (.slice A_o n_o c_o))
        (exact ⟨V0.c0, V0.c1, V1.c0, V1.c1, V_g.c0, V_g.c1, V_o.c0, V_o.c1⟩)
        (first
        | (go_at_call 40; (fail_if_success (have hh := b3)); refine (wof_num 0 _ (by decide) (by decide)).mono ?_; rintro e w3 ⟨v_z, rfl, x_z, b3⟩; replace hb := bnext hb b3; replace V0 := V0.next b3; replace V1 := V1.next b3; replace V_g := V_g.next b3; replace V_o := V_o.next b3; replace x_g := x_g.next b3; replace x_o := x_o.next b3; replace h_a := h_a.below b3; replace h_b := h_b.below b3)
        | (go_at_call 38; (fail_if_success (have hh := b4)); refine (HGZ.out _ _ _ (x_g.wh 12 HLG.out) (x_z.wh 1 (by decide))).mono ?_; rintro e w4 ⟨rfl, b4⟩; replace hb := bnext hb b4; replace V0 := V0.next b4; replace V1 := V1.next b4; replace V_g := V_g.next b4; replace V_o := V_o.next b4; replace x_g := x_g.next b4; replace x_o := x_o.next b4; replace x_z := x_z.next b4; replace h_a := h_a.below b4; replace h_b := h_b.below b4; clear x_z))
      have V00 := V0.c0
      have V01 := V0.c1
      have V10 := V1.c0
      have V11 := V1.c1
      have V_g0 := V_g.c0
      have V_g1 := V_g.c1
      have V_o0 := V_o.c0
      have V_o1 := V_o.c1
      go_wp2_with fail
      refine (HQ1.out _ _ _ h_a (x_g.wh 12 HLG.out)).mono ?_
      rintro e w5 ⟨v_x, v_r, rfl, x_x, x_r, b5⟩
      replace hb := bnext hb b5
      clear V00 V01 V10 V11 V_g0 V_g1 V_o0 V_o1
      replace V0 := V0.next b5
      replace V1 := V1.next b5
      replace V_g := V_g.next b5
      replace V_o := V_o.next b5
      replace x_g := x_g.next b5
      replace x_o := x_o.next b5
      replace h_a := h_a.below b5
      replace h_b := h_b.below b5
      have V00 := V0.c0
      have V01 := V0.c1
      have V10 := V1.c0
      have V11 := V1.c1
      have V_g0 := V_g.c0
      have V_g1 := V_g.c1
      have V_o0 := V_o.c0
      have V_o1 := V_o.c1
      clear b5
      obtain ⟨s_x, A_x, n_x, c_x, rfl, g_x⟩ := x_x.opened
      obtain ⟨s_r, A_r, n_r, c_r, rfl, g_r⟩ := x_r.opened
      have bl : Below w5.heap.size w5 ((w5.alloc (.cells #[.bool s_x, .slice A_x n_x c_x] 36)).alloc (.cells #[.bool s_r, .slice A_r n_r c_r] 36)) := (bnew (bnew (Below.refl _ _) _) _)
      obtain ⟨V_x, V_r⟩ := mk2 w5 (.bool s_x) (.slice A_x n_x c_x) (.bool s_r) (.slice A_r n_r c_r)
      replace hb := bnext hb bl
      clear V00 V01 V10 V11 V_g0 V_g1 V_o0 V_o1
      replace V0 := V0.next bl
      replace V1 := V1.next bl
      replace V_g := V_g.next bl
      replace V_o := V_o.next bl
      replace x_g := x_g.next bl
      replace x_o := x_o.next bl
      replace x_x := x_x.next bl
      replace x_r := x_r.next bl
      replace h_a := h_a.below bl
      replace h_b := h_b.below bl
      have V00 := V0.c0
      have V01 := V0.c1
      have V10 := V1.c0
      have V11 := V1.c1
      have V_g0 := V_g.c0
      have V_g1 := V_g.c1
      have V_o0 := V_o.c0
      have V_o1 := V_o.c1
      clear bl
      clear g_x
      clear g_r
      clear V00 V01 V10 V11 V_g0 V_g1 V_o0 V_o1
      have V00 := V0.c0
      have V01 := V0.c1
      have V10 := V1.c0
      have V11 := V1.c1
      have V_g0 := V_g.c0
      have V_g1 := V_g.c1
      have V_o0 := V_o.c0
      have V_o1 := V_o.c1
      have V_x0 := V_x.c0
      have V_x1 := V_x.c1
      have V_r0 := V_r.c0
      have V_r1 := V_r.c1
      obtain rfl := x_r.len0
      clear x_r
      go_wp2_with fail
      refine (HQ2.out _ _ _ h_b (x_g.wh 12 HLG.out)).mono ?_
      rintro e w6 ⟨v_y, v_s, rfl, x_y, x_s, b6⟩
      replace hb := bnext hb b6
      clear V00 V01 V10 V11 V_g0 V_g1 V_o0 V_o1 V_x0 V_x1 V_r0 V_r1
      replace V0 := V0.next b6
      replace V1 := V1.next b6
      replace V_g := V_g.next b6
      replace V_o := V_o.next b6
      replace V_x := V_x.next b6
      replace V_r := V_r.next b6
      replace x_g := x_g.next b6
      replace x_o := x_o.next b6
      replace x_x := x_x.next b6
      replace h_a := h_a.below b6
      replace h_b := h_b.below b6
      have V00 := V0.c0
      have V01 := V0.c1
      have V10 := V1.c0
      have V11 := V1.c1
      have V_g0 := V_g.c0
      have V_g1 := V_g.c1
      have V_o0 := V_o.c0
      have V_o1 := V_o.c1
      have V_x0 := V_x.c0
      have V_x1 := V_x.c1
      have V_r0 := V_r.c0
      have V_r1 := V_r.c1
      clear b6
      obtain ⟨s_y, A_y, n_y, c_y, rfl, g_y⟩ := x_y.opened
      obtain ⟨s_s, A_s, n_s, c_s, rfl, g_s⟩ := x_s.opened
      have bl : Below w6.heap.size w6 ((w6.alloc (.cells #[.bool s_y, .slice A_y n_y c_y] 36)).alloc (.cells #[.bool s_s, .slice A_s n_s c_s] 36)) := (bnew (bnew (Below.refl _ _) _) _)
      obtain ⟨V_y, V_s⟩ := mk2 w6 (.bool s_y) (.slice A_y n_y c_y) (.bool s_s) (.slice A_s n_s c_s)
      replace hb := bnext hb bl
      clear V00 V01 V10 V11 V_g0 V_g1 V_o0 V_o1 V_x0 V_x1 V_r0 V_r1
      replace V0 := V0.next bl
      replace V1 := V1.next bl
      replace V_g := V_g.next bl
      replace V_o := V_o.next bl
      replace V_x := V_x.next bl
      replace V_r := V_r.next bl
      replace x_g := x_g.next bl
      replace x_o := x_o.next bl
      replace x_x := x_x.next bl
      replace x_y := x_y.next bl
      replace x_s := x_s.next bl
      replace h_a := h_a.below bl
      replace h_b := h_b.below bl
      have V00 := V0.c0
      have V01 := V0.c1
      have V10 := V1.c0
      have V11 := V1.c1
      have V_g0 := V_g.c0
      have V_g1 := V_g.c1
      have V_o0 := V_o.c0
      have V_o1 := V_o.c1
      have V_x0 := V_x.c0
      have V_x1 := V_x.c1
      have V_r0 := V_r.c0
      have V_r1 := V_r.c1
      clear bl
      clear g_y
      clear g_s
      clear V00 V01 V10 V11 V_g0 V_g1 V_o0 V_o1 V_x0 V_x1 V_r0 V_r1
      have V00 := V0.c0
      have V01 := V0.c1
      have V10 := V1.c0
      have V11 := V1.c1
      have V_g0 := V_g.c0
      have V_g1 := V_g.c1
      have V_o0 := V_o.c0
      have V_o1 := V_o.c1
      have V_x0 := V_x.c0
      have V_x1 := V_x.c1
      have V_r0 := V_r.c0
      have V_r1 := V_r.c1
      have V_y0 := V_y.c0
      have V_y1 := V_y.c1
      have V_s0 := V_s.c0
      have V_s1 := V_s.c1
      obtain rfl := x_s.len0
      clear x_s
      go_wp2_with fail
      clear V00 V01 V10 V11 V_g0 V_g1 V_o0 V_o1 V_x0 V_x1 V_r0 V_r1 V_y0 V_y1 V_s0 V_s1
      replace V0 := V0.next (Below.refl _ _).drew
      replace V1 := V1.next (Below.refl _ _).drew
      replace V_g := V_g.next (Below.refl _ _).drew
      replace V_o := V_o.next (Below.refl _ _).drew
      replace V_x := V_x.next (Below.refl _ _).drew
      replace V_r := V_r.next (Below.refl _ _).drew
      replace V_y := V_y.next (Below.refl _ _).drew
      replace V_s := V_s.next (Below.refl _ _).drew
      replace x_g := x_g.next (Below.refl _ _).drew
      replace x_o := x_o.next (Below.refl _ _).drew
      replace x_x := x_x.next (Below.refl _ _).drew
      replace x_y := x_y.next (Below.refl _ _).drew
      replace h_a := h_a.below (Below.refl _ _).drew
      replace h_b := h_b.below (Below.refl _ _).drew
      replace hb := hb.drew
      go_region_held3 (fun w' => w'.cell? ⟨w.heap.size, 0, none⟩ = some (.bool s0) ∧ w'.cell? ⟨w.heap.size, 1, none⟩ = some (.slice a0 len0 cap0) ∧ w'.cell? ⟨w.heap.size + 1, 0, none⟩ = some (.bool s1) ∧ w'.cell? ⟨w.heap.size + 1, 1, none⟩ = some (.slice a1 len1 cap1) ∧ w'.cell? ⟨w1.heap.size, 0, none⟩ = some (.bool s_g) ∧ w'.cell? ⟨w1.heap.size, 1, none⟩ = some (.slice A_g n_g c_g) ∧ w'.cell? ⟨w2.heap.size, 0, none⟩ = some (.bool s_o) ∧ w'.cell? ⟨w2.heap.size, 1, none⟩ = some (.slice A_o n_o c_o) ∧ w'.cell? ⟨w5.heap.size, 0, none⟩ = some (.bool s_x) ∧ w'.cell? ⟨w5.heap.size, 1, none⟩ = some (.slice A_x n_x c_x) ∧ w'.cell? ⟨w5.heap.size + 1, 0, none⟩ = some (.bool s_r) ∧ w'.cell? ⟨w5.heap.size + 1, 1, none⟩ = some (.slice A_r 0 c_r) ∧ w'.cell? ⟨w6.heap.size, 0, none⟩ = some (.bool s_y) ∧ w'.cell? ⟨w6.heap.size, 1, none⟩ = some (.slice A_y n_y c_y) ∧ w'.cell? ⟨w6.heap.size + 1, 0, none⟩ = some (.bool s_s) ∧ w'.cell? ⟨w6.heap.size + 1, 1, none⟩ = some (.slice A_s 0 c_s))
        (exact ⟨V0.c0, V0.c1, V1.c0, V1.c1, V_g.c0, V_g.c1, V_o.c0, V_o.c1, V_x.c0, V_x.c1, V_r.c0, V_r.c1, V_y.c0, V_y.c1, V_s.c0, V_s.c1⟩)
        (first
        | (go_at_call 38; (fail_if_success (have hh := b7)); refine (HG1.out _ _ _ (x_g.wh 12 HLG.out) (x_o.wh 1 (by decide))).mono ?_; rintro e w7 ⟨rfl, b7⟩; replace hb := bnext hb b7; replace V0 := V0.next b7; replace V1 := V1.next b7; replace V_g := V_g.next b7; replace V_o := V_o.next b7; replace V_x := V_x.next b7; replace V_r := V_r.next b7; replace V_y := V_y.next b7; replace V_s := V_s.next b7; replace x_g := x_g.next b7; replace x_o := x_o.next b7; replace x_x := x_x.next b7; replace x_y := x_y.next b7; replace h_a := h_a.below b7; replace h_b := h_b.below b7)
        | (go_at_call 46; (fail_if_success (have hh := b8)); refine (HGG.out _ _ _ (x_x.wh 12 HLX.out.1) (x_y.wh 12 HLX.out.2)).mono ?_; rintro e w8 ⟨v_k, rfl, x_k, b8⟩; replace hb := bnext hb b8; replace V0 := V0.next b8; replace V1 := V1.next b8; replace V_g := V_g.next b8; replace V_o := V_o.next b8; replace V_x := V_x.next b8; replace V_r := V_r.next b8; replace V_y := V_y.next b8; replace V_s := V_s.next b8; replace x_g := x_g.next b8; replace x_o := x_o.next b8; replace x_x := x_x.next b8; replace x_y := x_y.next b8; replace h_a := h_a.below b8; replace h_b := h_b.below b8)
        | (go_at_call 25; (fail_if_success (have hh := b9)); refine (wsame_new x_k x_o (K := 1) (by decide) (by decide)).mono ?_; rintro e w9 ⟨rfl, b9⟩; replace hb := bnext hb b9; replace V0 := V0.next b9; replace V1 := V1.next b9; replace V_g := V_g.next b9; replace V_o := V_o.next b9; replace V_x := V_x.next b9; replace V_r := V_r.next b9; replace V_y := V_y.next b9; replace V_s := V_s.next b9; replace x_g := x_g.next b9; replace x_o := x_o.next b9; replace x_x := x_x.next b9; replace x_y := x_y.next b9; replace x_k := x_k.next b9; replace h_a := h_a.below b9; replace h_b := h_b.below b9; clear x_k))
      clear V_x V_r V_y V_s V_g x_x x_y x_g hg1 hc1 hcz HGC HGZ HG1 HQ1 HQ2 HGG HLG HLX
      have V00 := V0.c0
      have V01 := V0.c1
      have V10 := V1.c0
      have V11 := V1.c1
      have V_o0 := V_o.c0
      have V_o1 := V_o.c1
      go_wp2_with fail
      refine (wroot_num h_a (by decide)).mono ?_
      rintro e w10 ⟨v_u, v_v, rfl, x_u, x_v, b10⟩
      replace hb := bnext hb b10
      clear V00 V01 V10 V11 V_o0 V_o1
      replace V0 := V0.next b10
      replace V1 := V1.next b10
      replace V_o := V_o.next b10
      replace x_o := x_o.next b10
      replace h_a := h_a.below b10
      replace h_b := h_b.below b10
      have V00 := V0.c0
      have V01 := V0.c1
      have V10 := V1.c0
      have V11 := V1.c1
      have V_o0 := V_o.c0
      have V_o1 := V_o.c1
      clear b10
      rw [HRE.out]
      obtain ⟨s_u, A_u, n_u, c_u, rfl, g_u⟩ := x_u.opened
      obtain ⟨s_v, A_v, n_v, c_v, rfl, g_v⟩ := x_v.opened
      have bl : Below w10.heap.size w10 ((w10.alloc (.cells #[.bool s_u, .slice A_u n_u c_u] 36)).alloc (.cells #[.bool s_v, .slice A_v n_v c_v] 36)) := (bnew (bnew (Below.refl _ _) _) _)
      obtain ⟨V_u, V_v⟩ := mk2 w10 (.bool s_u) (.slice A_u n_u c_u) (.bool s_v) (.slice A_v n_v c_v)
      replace hb := bnext hb bl
      clear V00 V01 V10 V11 V_o0 V_o1
      replace V0 := V0.next bl
      replace V1 := V1.next bl
      replace V_o := V_o.next bl
      replace x_o := x_o.next bl
      replace x_u := x_u.next bl
      replace x_v := x_v.next bl
      replace h_a := h_a.below bl
      replace h_b := h_b.below bl
      have V00 := V0.c0
      have V01 := V0.c1
      have V10 := V1.c0
      have V11 := V1.c1
      have V_o0 := V_o.c0
      have V_o1 := V_o.c1
      clear bl
      clear g_u
      clear g_v
      clear V00 V01 V10 V11 V_o0 V_o1
      have V00 := V0.c0
      have V01 := V0.c1
      have V10 := V1.c0
      have V11 := V1.c1
      have V_o0 := V_o.c0
      have V_o1 := V_o.c1
      have V_u0 := V_u.c0
      have V_u1 := V_u.c1
      have V_v0 := V_v.c0
      have V_v1 := V_v.c1
      go_wp2_with fail
      refine (wadd_num (x_u.wh 12 HL.out.1) (x_o.wh 1 (by decide)) (by decide) (by decide)).mono ?_
      rintro e w11 ⟨v_t, rfl, x_t, b11⟩
      replace hb := bnext hb b11
      clear V00 V01 V10 V11 V_o0 V_o1 V_u0 V_u1 V_v0 V_v1
      replace V0 := V0.next b11
      replace V1 := V1.next b11
      replace V_o := V_o.next b11
      replace V_u := V_u.next b11
      replace V_v := V_v.next b11
      replace x_o := x_o.next b11
      replace x_u := x_u.next b11
      replace x_v := x_v.next b11
      replace h_a := h_a.below b11
      replace h_b := h_b.below b11
      have V00 := V0.c0
      have V01 := V0.c1
      have V10 := V1.c0
      have V11 := V1.c1
      have V_o0 := V_o.c0
      have V_o1 := V_o.c1
      have V_u0 := V_u.c0
      have V_u1 := V_u.c1
      have V_v0 := V_v.c0
      have V_v1 := V_v.c1
      clear b11
      obtain ⟨s_t, A_t, n_t, c_t, rfl, g_t⟩ := x_t.opened
      have bl : Below w11.heap.size w11 (w11.alloc (.cells #[.bool s_t, .slice A_t n_t c_t] 36)) := (bnew (Below.refl _ _) _)
      have V_t := Var.mk_ w11 (.bool s_t) (.slice A_t n_t c_t)
      replace hb := bnext hb bl
      clear V00 V01 V10 V11 V_o0 V_o1 V_u0 V_u1 V_v0 V_v1
      replace V0 := V0.next bl
      replace V1 := V1.next bl
      replace V_o := V_o.next bl
      replace V_u := V_u.next bl
      replace V_v := V_v.next bl
      replace x_o := x_o.next bl
      replace x_u := x_u.next bl
      replace x_v := x_v.next bl
      replace x_t := x_t.next bl
      replace h_a := h_a.below bl
      replace h_b := h_b.below bl
      have V00 := V0.c0
      have V01 := V0.c1
      have V10 := V1.c0
      have V11 := V1.c1
      have V_o0 := V_o.c0
      have V_o1 := V_o.c1
      have V_u0 := V_u.c0
      have V_u1 := V_u.c1
      have V_v0 := V_v.c0
      have V_v1 := V_v.c1
      clear bl
      clear g_t
      clear V00 V01 V10 V11 V_o0 V_o1 V_u0 V_u1 V_v0 V_v1
      have V00 := V0.c0
      have V01 := V0.c1
      have V10 := V1.c0
      have V11 := V1.c1
      have V_o0 := V_o.c0
      have V_o1 := V_o.c1
      have V_u0 := V_u.c0
      have V_u1 := V_u.c1
      have V_v0 := V_v.c0
      have V_v1 := V_v.c1
      have V_t0 := V_t.c0
      have V_t1 := V_t.c1
      go_wp2_with fail
      clear V00 V01 V10 V11 V_o0 V_o1 V_u0 V_u1 V_v0 V_v1 V_t0 V_t1
      replace V0 := V0.next (Below.refl _ _).drew
      replace V1 := V1.next (Below.refl _ _).drew
      replace V_o := V_o.next (Below.refl _ _).drew
      replace V_u := V_u.next (Below.refl _ _).drew
      replace V_v := V_v.next (Below.refl _ _).drew
      replace V_t := V_t.next (Below.refl _ _).drew
      replace x_o := x_o.next (Below.refl _ _).drew
      replace x_u := x_u.next (Below.refl _ _).drew
      replace x_v := x_v.next (Below.refl _ _).drew
      replace x_t := x_t.next (Below.refl _ _).drew
      replace h_a := h_a.below (Below.refl _ _).drew
      replace h_b := h_b.below (Below.refl _ _).drew
      replace hb := hb.drew
      go_region_held3 (fun w' => w'.cell? ⟨w.heap.size, 0, none⟩ = some (.bool s0) ∧ w'.cell? ⟨w.heap.size, 1, none⟩ = some (.slice a0 len0 cap0) ∧ w'.cell? ⟨w.heap.size + 1, 0, none⟩ = some (.bool s1) ∧ w'.cell? ⟨w.heap.size + 1, 1, none⟩ = some (.slice a1 len1 cap1) ∧ w'.cell? ⟨w2.heap.size, 0, none⟩ = some (.bool s_o) ∧ w'.cell? ⟨w2.heap.size, 1, none⟩ = some (.slice A_o n_o c_o) ∧ w'.cell? ⟨w10.heap.size, 0, none⟩ = some (.bool s_u) ∧ w'.cell? ⟨w10.heap.size, 1, none⟩ = some (.slice A_u n_u c_u) ∧ w'.cell? ⟨w10.heap.size + 1, 0, none⟩ = some (.bool s_v) ∧ w'.cell? ⟨w10.heap.size + 1, 1, none⟩ = some (.slice A_v n_v c_v) ∧ w'.cell? ⟨w11.heap.size, 0, none⟩ = some (.bool s_t) ∧ w'.cell? ⟨w11.heap.size, 1, none⟩ = some (.slice A_t n_t c_t))
        (exact ⟨V0.c0, V0.c1, V1.c0, V1.c1, V_o.c0, V_o.c1, V_u.c0, V_u.c1, V_v.c0, V_v.c1, V_t.c0, V_t.c1⟩)
        (first
        | (go_at_call 34; (fail_if_success (have hh := b12)); refine (wmul_num (x_u.wh 12 HL.out.1) (x_u.wh 12 HL.out.1) (by decide) (by decide)).mono ?_; rintro e w12 ⟨v_m, rfl, x_m, b12⟩; replace hb := bnext hb b12; replace V0 := V0.next b12; replace V1 := V1.next b12; replace V_o := V_o.next b12; replace V_u := V_u.next b12; replace V_v := V_v.next b12; replace V_t := V_t.next b12; replace x_o := x_o.next b12; replace x_u := x_u.next b12; replace x_v := x_v.next b12; replace x_t := x_t.next b12; replace h_a := h_a.below b12; replace h_b := h_b.below b12)
        | (go_at_call 30; (fail_if_success (have hh := b13)); refine (wadd_num (x_m.wh 24 HL.out.2.1) (x_v.wh 12 HL.out.2.2.1) (by decide) (by decide)).mono ?_; rintro e w13 ⟨v_m2, rfl, x_m2, b13⟩; replace hb := bnext hb b13; replace V0 := V0.next b13; replace V1 := V1.next b13; replace V_o := V_o.next b13; replace V_u := V_u.next b13; replace V_v := V_v.next b13; replace V_t := V_t.next b13; replace x_o := x_o.next b13; replace x_u := x_u.next b13; replace x_v := x_v.next b13; replace x_t := x_t.next b13; replace x_m := x_m.next b13; replace h_a := h_a.below b13; replace h_b := h_b.below b13; clear x_m)
        | (go_at_call 38; (fail_if_success (have hh := b14)); refine (HC1.out _ _ _ (x_m2.wh 25 HL.out.2.2.2.1) h_a).mono ?_; rintro e w14 ⟨rfl, b14⟩; replace hb := bnext hb b14; replace V0 := V0.next b14; replace V1 := V1.next b14; replace V_o := V_o.next b14; replace V_u := V_u.next b14; replace V_v := V_v.next b14; replace V_t := V_t.next b14; replace x_o := x_o.next b14; replace x_u := x_u.next b14; replace x_v := x_v.next b14; replace x_t := x_t.next b14; replace x_m2 := x_m2.next b14; replace h_a := h_a.below b14; replace h_b := h_b.below b14; clear x_m2)
        | (go_at_call 34; (fail_if_success (have hh := b15)); refine (wmul_num (x_t.wh 13 HL.out.2.2.2.2.1) (x_t.wh 13 HL.out.2.2.2.2.1) (by decide) (by decide)).mono ?_; rintro e w15 ⟨v_m3, rfl, x_m3, b15⟩; replace hb := bnext hb b15; replace V0 := V0.next b15; replace V1 := V1.next b15; replace V_o := V_o.next b15; replace V_u := V_u.next b15; replace V_v := V_v.next b15; replace V_t := V_t.next b15; replace x_o := x_o.next b15; replace x_u := x_u.next b15; replace x_v := x_v.next b15; replace x_t := x_t.next b15; replace h_a := h_a.below b15; replace h_b := h_b.below b15)
        | (go_at_call 38; (fail_if_success (have hh := b16)); refine (HC2.out _ _ _ (x_m3.wh 26 HL.out.2.2.2.2.2) h_a).mono ?_; rintro e w16 ⟨rfl, b16⟩; replace hb := bnext hb b16; replace V0 := V0.next b16; replace V1 := V1.next b16; replace V_o := V_o.next b16; replace V_u := V_u.next b16; replace V_v := V_v.next b16; replace V_t := V_t.next b16; replace x_o := x_o.next b16; replace x_u := x_u.next b16; replace x_v := x_v.next b16; replace x_t := x_t.next b16; replace x_m3 := x_m3.next b16; replace h_a := h_a.below b16; replace h_b := h_b.below b16; clear x_m3)
        | (go_at_call 40; (fail_if_success (have hh := b17)); refine (wof_num (-1) _ (by decide) (by decide)).mono ?_; rintro e w17 ⟨v_m4, rfl, x_m4, b17⟩; replace hb := bnext hb b17; replace V0 := V0.next b17; replace V1 := V1.next b17; replace V_o := V_o.next b17; replace V_u := V_u.next b17; replace V_v := V_v.next b17; replace V_t := V_t.next b17; replace x_o := x_o.next b17; replace x_u := x_u.next b17; replace x_v := x_v.next b17; replace x_t := x_t.next b17; replace h_a := h_a.below b17; replace h_b := h_b.below b17)
        | (go_at_call 38; (fail_if_success (have hh := b18)); refine (HC3.out _ _ _ (x_v.wh 12 HL.out.2.2.1) (x_m4.wh 1 (by decide))).mono ?_; rintro e w18 ⟨rfl, b18⟩; replace hb := bnext hb b18; replace V0 := V0.next b18; replace V1 := V1.next b18; replace V_o := V_o.next b18; replace V_u := V_u.next b18; replace V_v := V_v.next b18; replace V_t := V_t.next b18; replace x_o := x_o.next b18; replace x_u := x_u.next b18; replace x_v := x_v.next b18; replace x_t := x_t.next b18; replace x_m4 := x_m4.next b18; replace h_a := h_a.below b18; replace h_b := h_b.below b18; clear x_m4)
        | (go_at_call 22; (fail_if_success (have hh := b19)); refine (wlives_yes _).mono ?_; rintro e w19 ⟨rfl, b19⟩; replace hb := bnext hb b19; replace V0 := V0.next b19; replace V1 := V1.next b19; replace V_o := V_o.next b19; replace V_u := V_u.next b19; replace V_v := V_v.next b19; replace V_t := V_t.next b19; replace x_o := x_o.next b19; replace x_u := x_u.next b19; replace x_v := x_v.next b19; replace x_t := x_t.next b19; replace h_a := h_a.below b19; replace h_b := h_b.below b19))
      go_wp2_with fail
      go_ret
      exact ⟨rfl, hb⟩

set_option maxRecDepth 20000 in
set_option maxHeartbeats 32000000 in
theorem wholeGcds_mida (s0 : Bool) (a0 : Option Addr) (len0 cap0 : Nat) (s1 : Bool) (a1 : Option Addr) (len1 cap1 : Nat) (A B : Int)  (w : World) (h_a : Wh w (.agg #[.bool s0, .slice a0 len0 cap0]) A 24) (h_b : Wh w (.agg #[.bool s1, .slice a1 len1 cap1]) B 24) (k0 : len0 ≤ 24) (k1 : len1 ≤ 24) (g0 : 12 < len0)  :
    Calls Tryd.prog 8 #[.agg #[.bool s0, .slice a0 len0 cap0], .agg #[.bool s1, .slice a1 len1 cap1]] w fun e w' => e = .returned (.bool true) ∧ Below w.heap.size w w' := by
  obtain ⟨V0, V1, hb0⟩ := ents2 w (.bool s0) (.slice a0 len0 cap0) (.bool s1) (.slice a1 len1 cap1)
  have hsz : ((w.alloc (.cells #[.bool s0, .slice a0 len0 cap0] 36)).alloc (.cells #[.bool s1, .slice a1 len1 cap1] 36)).heap.size = w.heap.size + 1 + 1 := by simp
  have hall : ∀ i, i < 2 → ∃ s A n c, (((w.alloc (.cells #[.bool s0, .slice a0 len0 cap0] 36)).alloc (.cells #[.bool s1, .slice a1 len1 cap1] 36)).alloc (.cells #[.bool s0, .slice a0 len0 cap0, .bool s1, .slice a1 len1 cap1] 36)).cell? ⟨w.heap.size + 1 + 1, i * 2, none⟩ = some (.bool s) ∧ (((w.alloc (.cells #[.bool s0, .slice a0 len0 cap0] 36)).alloc (.cells #[.bool s1, .slice a1 len1 cap1] 36)).alloc (.cells #[.bool s0, .slice a0 len0 cap0, .bool s1, .slice a1 len1 cap1] 36)).cell? ⟨w.heap.size + 1 + 1, i * 2 + 1, none⟩ = some (.slice A n c) ∧ n ≤ 24 := by
    intro i hi
    rw [← hsz]
    rcases (show i = 0 ∨ i = 1 by omega) with rfl | rfl
    · exact ⟨s0, a0, len0, cap0, (cell_new _ _ _ _).trans rfl, (cell_new _ _ _ _).trans rfl, k0⟩
    · exact ⟨s1, a1, len1, cap1, (cell_new _ _ _ _).trans rfl, (cell_new _ _ _ _).trans rfl, k1⟩
  have hglt : w.heap.size + 1 + 1 < (((w.alloc (.cells #[.bool s0, .slice a0 len0 cap0] 36)).alloc (.cells #[.bool s1, .slice a1 len1 cap1] 36)).alloc (.cells #[.bool s0, .slice a0 len0 cap0, .bool s1, .slice a1 len1 cap1] 36)).heap.size := by rw [← hsz]; simp
  have HA := Lib.hid (And.intro hglt hall)
  clear hall hglt hsz
  have hb : Below w.heap.size w (((w.alloc (.cells #[.bool s0, .slice a0 len0 cap0] 36)).alloc (.cells #[.bool s1, .slice a1 len1 cap1] 36)).alloc (.cells #[.bool s0, .slice a0 len0 cap0, .bool s1, .slice a1 len1 cap1] 36)) := bnew hb0 _
  replace V0 := V0.alloc (.cells #[.bool s0, .slice a0 len0 cap0, .bool s1, .slice a1 len1 cap1] 36)
  replace V1 := V1.alloc (.cells #[.bool s0, .slice a0 len0 cap0, .bool s1, .slice a1 len1 cap1] 36)
  have V00 := (ents2 w (.bool s0) (.slice a0 len0 cap0) (.bool s1) (.slice a1 len1 cap1)).1.c0
  have V01 := (ents2 w (.bool s0) (.slice a0 len0 cap0) (.bool s1) (.slice a1 len1 cap1)).1.c1
  have V10 := (ents2 w (.bool s0) (.slice a0 len0 cap0) (.bool s1) (.slice a1 len1 cap1)).2.1.c0
  have V11 := (ents2 w (.bool s0) (.slice a0 len0 cap0) (.bool s1) (.slice a1 len1 cap1)).2.1.c1
  clear hb0
  go_enter Tryd.func8, Tryd.ntmps8
  go_wp2_with fail
  refine (wlsmall_yes (w.heap.size + 1 + 1) 2 _ (by decide) HA.out.1 HA.out.2).mono ?_
  rintro e w0 ⟨rfl, b0⟩
  replace hb := bnext hb b0
  clear HA V00 V01 V10 V11
  replace V0 := V0.next b0
  replace V1 := V1.next b0
  replace h_a := h_a.below hb
  replace h_b := h_b.below hb
  clear b0
  have V00 := V0.c0
  have V01 := V0.c1
  have V10 := V1.c0
  have V11 := V1.c1
  go_wp2_with fail
  refine (wlives_yes _).mono ?_
  rintro e w1 ⟨rfl, b1⟩
  replace hb := bnext hb b1
  clear V00 V01 V10 V11
  replace V0 := V0.next b1
  replace V1 := V1.next b1
  replace h_a := h_a.below b1
  replace h_b := h_b.below b1
  have V00 := V0.c0
  have V01 := V0.c1
  have V10 := V1.c0
  have V11 := V1.c1
  clear b1
  go_wp2_with fail
  go_ret
  exact ⟨rfl, hb⟩

set_option maxRecDepth 20000 in
set_option maxHeartbeats 32000000 in
theorem wholeGcds_midb (s0 : Bool) (a0 : Option Addr) (len0 cap0 : Nat) (s1 : Bool) (a1 : Option Addr) (len1 cap1 : Nat) (A B : Int)  (w : World) (h_a : Wh w (.agg #[.bool s0, .slice a0 len0 cap0]) A 24) (h_b : Wh w (.agg #[.bool s1, .slice a1 len1 cap1]) B 24) (k0 : len0 ≤ 24) (k1 : len1 ≤ 24) (g0 : len0 ≤ 12) (g1 : 12 < len1)  :
    Calls Tryd.prog 8 #[.agg #[.bool s0, .slice a0 len0 cap0], .agg #[.bool s1, .slice a1 len1 cap1]] w fun e w' => e = .returned (.bool true) ∧ Below w.heap.size w w' := by
  obtain ⟨V0, V1, hb0⟩ := ents2 w (.bool s0) (.slice a0 len0 cap0) (.bool s1) (.slice a1 len1 cap1)
  have hsz : ((w.alloc (.cells #[.bool s0, .slice a0 len0 cap0] 36)).alloc (.cells #[.bool s1, .slice a1 len1 cap1] 36)).heap.size = w.heap.size + 1 + 1 := by simp
  have hall : ∀ i, i < 2 → ∃ s A n c, (((w.alloc (.cells #[.bool s0, .slice a0 len0 cap0] 36)).alloc (.cells #[.bool s1, .slice a1 len1 cap1] 36)).alloc (.cells #[.bool s0, .slice a0 len0 cap0, .bool s1, .slice a1 len1 cap1] 36)).cell? ⟨w.heap.size + 1 + 1, i * 2, none⟩ = some (.bool s) ∧ (((w.alloc (.cells #[.bool s0, .slice a0 len0 cap0] 36)).alloc (.cells #[.bool s1, .slice a1 len1 cap1] 36)).alloc (.cells #[.bool s0, .slice a0 len0 cap0, .bool s1, .slice a1 len1 cap1] 36)).cell? ⟨w.heap.size + 1 + 1, i * 2 + 1, none⟩ = some (.slice A n c) ∧ n ≤ 24 := by
    intro i hi
    rw [← hsz]
    rcases (show i = 0 ∨ i = 1 by omega) with rfl | rfl
    · exact ⟨s0, a0, len0, cap0, (cell_new _ _ _ _).trans rfl, (cell_new _ _ _ _).trans rfl, k0⟩
    · exact ⟨s1, a1, len1, cap1, (cell_new _ _ _ _).trans rfl, (cell_new _ _ _ _).trans rfl, k1⟩
  have hglt : w.heap.size + 1 + 1 < (((w.alloc (.cells #[.bool s0, .slice a0 len0 cap0] 36)).alloc (.cells #[.bool s1, .slice a1 len1 cap1] 36)).alloc (.cells #[.bool s0, .slice a0 len0 cap0, .bool s1, .slice a1 len1 cap1] 36)).heap.size := by rw [← hsz]; simp
  have HA := Lib.hid (And.intro hglt hall)
  clear hall hglt hsz
  have hb : Below w.heap.size w (((w.alloc (.cells #[.bool s0, .slice a0 len0 cap0] 36)).alloc (.cells #[.bool s1, .slice a1 len1 cap1] 36)).alloc (.cells #[.bool s0, .slice a0 len0 cap0, .bool s1, .slice a1 len1 cap1] 36)) := bnew hb0 _
  replace V0 := V0.alloc (.cells #[.bool s0, .slice a0 len0 cap0, .bool s1, .slice a1 len1 cap1] 36)
  replace V1 := V1.alloc (.cells #[.bool s0, .slice a0 len0 cap0, .bool s1, .slice a1 len1 cap1] 36)
  have V00 := (ents2 w (.bool s0) (.slice a0 len0 cap0) (.bool s1) (.slice a1 len1 cap1)).1.c0
  have V01 := (ents2 w (.bool s0) (.slice a0 len0 cap0) (.bool s1) (.slice a1 len1 cap1)).1.c1
  have V10 := (ents2 w (.bool s0) (.slice a0 len0 cap0) (.bool s1) (.slice a1 len1 cap1)).2.1.c0
  have V11 := (ents2 w (.bool s0) (.slice a0 len0 cap0) (.bool s1) (.slice a1 len1 cap1)).2.1.c1
  clear hb0
  go_enter Tryd.func8, Tryd.ntmps8
  go_wp2_with fail
  refine (wlsmall_yes (w.heap.size + 1 + 1) 2 _ (by decide) HA.out.1 HA.out.2).mono ?_
  rintro e w0 ⟨rfl, b0⟩
  replace hb := bnext hb b0
  clear HA V00 V01 V10 V11
  replace V0 := V0.next b0
  replace V1 := V1.next b0
  replace h_a := h_a.below hb
  replace h_b := h_b.below hb
  clear b0
  have V00 := V0.c0
  have V01 := V0.c1
  have V10 := V1.c0
  have V11 := V1.c1
  go_wp2_with fail
  refine (wlives_yes _).mono ?_
  rintro e w1 ⟨rfl, b1⟩
  replace hb := bnext hb b1
  clear V00 V01 V10 V11
  replace V0 := V0.next b1
  replace V1 := V1.next b1
  replace h_a := h_a.below b1
  replace h_b := h_b.below b1
  have V00 := V0.c0
  have V01 := V0.c1
  have V10 := V1.c0
  have V11 := V1.c1
  clear b1
  go_wp2_with fail
  go_ret
  exact ⟨rfl, hb⟩

set_option maxRecDepth 20000 in
set_option maxHeartbeats 1600000 in
theorem wholeGcds_big (s0 : Bool) (a0 : Option Addr) (len0 cap0 : Nat) (s1 : Bool) (a1 : Option Addr) (len1 cap1 : Nat)  (w : World) (m0 : len0 ≤ maxLen) (m1 : len1 ≤ maxLen) (h : 24 < len0 ∨ 24 < len1)  :
    Calls Tryd.prog 8 #[.agg #[.bool s0, .slice a0 len0 cap0], .agg #[.bool s1, .slice a1 len1 cap1]] w fun e w' => e = .returned (.bool true) ∧ Below w.heap.size w w' := by
  obtain ⟨V0, V1, hb0⟩ := ents2 w (.bool s0) (.slice a0 len0 cap0) (.bool s1) (.slice a1 len1 cap1)
  have hsz : ((w.alloc (.cells #[.bool s0, .slice a0 len0 cap0] 36)).alloc (.cells #[.bool s1, .slice a1 len1 cap1] 36)).heap.size = w.heap.size + 1 + 1 := by simp
  have hall : ∀ i, i < 2 → ∃ s A n c, (((w.alloc (.cells #[.bool s0, .slice a0 len0 cap0] 36)).alloc (.cells #[.bool s1, .slice a1 len1 cap1] 36)).alloc (.cells #[.bool s0, .slice a0 len0 cap0, .bool s1, .slice a1 len1 cap1] 36)).cell? ⟨w.heap.size + 1 + 1, i * 2, none⟩ = some (.bool s) ∧ (((w.alloc (.cells #[.bool s0, .slice a0 len0 cap0] 36)).alloc (.cells #[.bool s1, .slice a1 len1 cap1] 36)).alloc (.cells #[.bool s0, .slice a0 len0 cap0, .bool s1, .slice a1 len1 cap1] 36)).cell? ⟨w.heap.size + 1 + 1, i * 2 + 1, none⟩ = some (.slice A n c) ∧ n ≤ maxLen := by
    intro i hi
    rw [← hsz]
    rcases (show i = 0 ∨ i = 1 by omega) with rfl | rfl
    · exact ⟨s0, a0, len0, cap0, (cell_new _ _ _ _).trans rfl, (cell_new _ _ _ _).trans rfl, m0⟩
    · exact ⟨s1, a1, len1, cap1, (cell_new _ _ _ _).trans rfl, (cell_new _ _ _ _).trans rfl, m1⟩
  have hglt : w.heap.size + 1 + 1 < (((w.alloc (.cells #[.bool s0, .slice a0 len0 cap0] 36)).alloc (.cells #[.bool s1, .slice a1 len1 cap1] 36)).alloc (.cells #[.bool s0, .slice a0 len0 cap0, .bool s1, .slice a1 len1 cap1] 36)).heap.size := by rw [← hsz]; simp
  have hb : Below w.heap.size w (((w.alloc (.cells #[.bool s0, .slice a0 len0 cap0] 36)).alloc (.cells #[.bool s1, .slice a1 len1 cap1] 36)).alloc (.cells #[.bool s0, .slice a0 len0 cap0, .bool s1, .slice a1 len1 cap1] 36)) := bnew hb0 _
  have V00 := V0.c0
  have V01 := V0.c1
  have V10 := V1.c0
  have V11 := V1.c1
  clear hb0
  obtain ⟨m, hm, hbig⟩ : ∃ m, m < 2 ∧ ∃ A n c, (((w.alloc (.cells #[.bool s0, .slice a0 len0 cap0] 36)).alloc (.cells #[.bool s1, .slice a1 len1 cap1] 36)).alloc (.cells #[.bool s0, .slice a0 len0 cap0, .bool s1, .slice a1 len1 cap1] 36)).cell? ⟨w.heap.size + 1 + 1, m * 2 + 1, none⟩ = some (.slice A n c) ∧ 24 < n := by
    rw [← hsz]
    rcases h with h | h
    · exact ⟨0, by omega, a0, len0, cap0, (cell_new _ _ _ _).trans rfl, h⟩
    · exact ⟨1, by omega, a1, len1, cap1, (cell_new _ _ _ _).trans rfl, h⟩
  have HA := Lib.hid (And.intro hglt (And.intro hall hbig))
  clear hall hbig hglt hsz h m0 m1 V0 V1
  go_enter Tryd.func8, Tryd.ntmps8
  go_wp2_with fail
  refine (wlsmall_no (w.heap.size + 1 + 1) 2 _ (by decide) HA.out.1 HA.out.2.1 m hm HA.out.2.2).mono ?_
  rintro e w0 ⟨rfl, b0⟩
  clear HA
  go_wp2_with fail
  refine (wlives_yes _).mono ?_
  rintro e w1 ⟨rfl, b1⟩
  go_wp2_with fail
  go_ret
  exact ⟨rfl, bnext (bnext hb b0) b1⟩

theorem wholeGcds_walk (s0 : Bool) (a0 : Option Addr) (len0 cap0 : Nat) (ys0 : List Nat) (s1 : Bool) (a1 : Option Addr) (len1 cap1 : Nat) (ys1 : List Nat)  (w : World) (h0 : Sl w a0 len0 cap0 ys0) (h1 : Sl w a1 len1 cap1 ys1)  :
    Calls Tryd.prog 8 #[.agg #[.bool s0, .slice a0 len0 cap0], .agg #[.bool s1, .slice a1 len1 cap1]] w fun e w' => e = .returned (.bool true) ∧ Below w.heap.size w w' := by
  by_cases h : 24 < len0 ∨ 24 < len1
  · exact wholeGcds_big _ _ _ _ _ _ _ _ w (Nat.le_trans h0.le h0.max) (Nat.le_trans h1.le h1.max) h
  · by_cases h12 : 12 < len0
    · exact wholeGcds_mida _ _ _ _ _ _ _ _ _ _ w (Wh.of_sl s0 h0 (by omega)) (Wh.of_sl s1 h1 (by omega)) (by omega) (by omega) h12
    · by_cases h13 : 12 < len1
      · exact wholeGcds_midb _ _ _ _ _ _ _ _ _ _ w (Wh.of_sl s0 h0 (by omega)) (Wh.of_sl s1 h1 (by omega)) (by omega) (by omega) (by omega) h13
      · exact wholeGcds_small _ _ _ _ _ _ _ _ _ _ w (Wh.of_sl s0 h0 (by omega)) (Wh.of_sl s1 h1 (by omega)) (by omega) (by omega)
end Go.Proofs.YtabdnlhehickoaaDoor
