/-
  The law WholeRoots: its walk.
-/
import Derived.Test.YtjildimhflondaaDoorZc
import Derived.Test.YtjildimhflondaaDoorZr
namespace Go.Proofs.YtjildimhflondaaDoor
open Go.RowKit

set_option maxRecDepth 20000 in
set_option maxHeartbeats 32000000 in
theorem wholeRoots_small (s0 : Bool) (a0 : Option Addr) (len0 cap0 : Nat) (A : Int) (s : ByteArray) (w : World) (h_a : Wh w (.agg #[.bool s0, .slice a0 len0 cap0]) A 10) (k0 : len0 ≤ 10) (hs : s.size ≤ maxLen) (hsz : s.size ≤ 300 ∨ 1001 < s.size) :
    Calls Tryd.prog 6 #[.agg #[.bool s0, .slice a0 len0 cap0], .string s] w fun e w' => e = .returned (.bool true) ∧ Below w.heap.size w w' := by
  have l_a := h_a.lt
  obtain ⟨V0, hb0⟩ := ents1 w (.bool s0) (.slice a0 len0 cap0)
  have hsz : (w.alloc (.cells #[.bool s0, .slice a0 len0 cap0] 36)).heap.size = w.heap.size + 1 := by simp
  have hall : ∀ i, i < 1 → ∃ s A n c, ((w.alloc (.cells #[.bool s0, .slice a0 len0 cap0] 36)).alloc (.cells #[.bool s0, .slice a0 len0 cap0] 36)).cell? ⟨w.heap.size + 1, i * 2, none⟩ = some (.bool s) ∧ ((w.alloc (.cells #[.bool s0, .slice a0 len0 cap0] 36)).alloc (.cells #[.bool s0, .slice a0 len0 cap0] 36)).cell? ⟨w.heap.size + 1, i * 2 + 1, none⟩ = some (.slice A n c) ∧ n ≤ 24 := by
    intro i hi
    rw [← hsz]
    obtain rfl : i = 0 := by omega
    · exact ⟨s0, a0, len0, cap0, (cell_new _ _ _ _).trans rfl, (cell_new _ _ _ _).trans rfl, Nat.le_trans k0 (by decide)⟩
  have hglt : w.heap.size + 1 < ((w.alloc (.cells #[.bool s0, .slice a0 len0 cap0] 36)).alloc (.cells #[.bool s0, .slice a0 len0 cap0] 36)).heap.size := by rw [← hsz]; simp
  have HA := Lib.hid (And.intro hglt hall)
  clear hall hglt hsz
  have hb : Below w.heap.size w ((w.alloc (.cells #[.bool s0, .slice a0 len0 cap0] 36)).alloc (.cells #[.bool s0, .slice a0 len0 cap0] 36)) := bnew hb0 _
  replace V0 := V0.alloc (.cells #[.bool s0, .slice a0 len0 cap0] 36)
  have V00 := (ents1 w (.bool s0) (.slice a0 len0 cap0)).1.c0
  have V01 := (ents1 w (.bool s0) (.slice a0 len0 cap0)).1.c1
  clear hb0
  go_enter Tryd.func6, Tryd.ntmps6
  go_wp2_with fail
  refine (wlsmall_yes (w.heap.size + 1) 1 _ (by decide) HA.out.1 HA.out.2).mono ?_
  rintro e w0 ⟨rfl, b0⟩
  replace hb := bnext hb b0
  clear HA V00 V01
  replace V0 := V0.next b0
  replace h_a := h_a.below hb
  clear b0
  have hbd : (rtQ A).natAbs < 4294967296 ^ 10 ∧ (rtR A).natAbs < 4294967296 ^ 10 := by
    refine ⟨Nat.lt_of_le_of_lt ?_ l_a, Nat.lt_of_le_of_lt ?_ l_a⟩
    · unfold rtQ
      split
      · exact Nat.zero_le _
      · rw [Int.natAbs_natCast]; exact rootN_le _
    · unfold rtR
      split
      · exact Nat.zero_le _
      · rw [Int.natAbs_natCast]; exact Nat.sub_le _ _
  obtain ⟨ok, z, KP, hKP, hz, P1, P2⟩ := wparse2 s hs
  obtain ⟨t, T1, T2⟩ := wtext2 A 10 (by decide)
  have hok : (ok == ok) = true := by cases ok <;> rfl
  have HL := Lib.hid (And.intro hbd (And.intro hz hKP))
  have HP1 := Lib.hid P1
  have HP2 := Lib.hid P2
  have HT1 := Lib.hid T1
  have HT2 := Lib.hid T2
  have HR1 := Lib.hid (fun (W : World) (u : Value) (hu : Wh W u A 10) => wroot_num hu (by decide))
  have HR2 := Lib.hid (fun (W : World) (u : Value) (hu : Wh W u A 10) => rwroot_num hu (by decide))
  clear hbd l_a hz hKP P1 P2 T1 T2 hs
  generalize rtE A = er at *
  rcases hsz with hsz | hsz
  · have V00 := V0.c0
    have V01 := V0.c1
    go_wp2_with fail
    refine (HR1.out _ _ h_a).mono ?_
    rintro e w1 ⟨v_x, v_y, rfl, x_x, x_y, b1⟩
    replace hb := bnext hb b1
    clear V00 V01
    replace V0 := V0.next b1
    replace h_a := h_a.below b1
    have V00 := V0.c0
    have V01 := V0.c1
    clear b1
    obtain ⟨s_x, A_x, n_x, c_x, rfl, g_x⟩ := x_x.opened
    obtain ⟨s_y, A_y, n_y, c_y, rfl, g_y⟩ := x_y.opened
    have bl : Below w1.heap.size w1 ((w1.alloc (.cells #[.bool s_x, .slice A_x n_x c_x] 36)).alloc (.cells #[.bool s_y, .slice A_y n_y c_y] 36)) := (bnew (bnew (Below.refl _ _) _) _)
    obtain ⟨V_x, V_y⟩ := mk2 w1 (.bool s_x) (.slice A_x n_x c_x) (.bool s_y) (.slice A_y n_y c_y)
    replace hb := bnext hb bl
    clear V00 V01
    replace V0 := V0.next bl
    replace x_x := x_x.next bl
    replace x_y := x_y.next bl
    replace h_a := h_a.below bl
    have V00 := V0.c0
    have V01 := V0.c1
    clear bl
    clear g_x
    clear g_y
    clear V00 V01
    have V00 := V0.c0
    have V01 := V0.c1
    have V_x0 := V_x.c0
    have V_x1 := V_x.c1
    have V_y0 := V_y.c0
    have V_y1 := V_y.c1
    go_wp2_with fail
    refine (HR2.out _ _ h_a).mono ?_
    rintro e w2 ⟨v_u, v_v, rfl, x_u, x_v, b2⟩
    replace hb := bnext hb b2
    clear V00 V01 V_x0 V_x1 V_y0 V_y1
    replace V0 := V0.next b2
    replace V_x := V_x.next b2
    replace V_y := V_y.next b2
    replace x_x := x_x.next b2
    replace x_y := x_y.next b2
    replace h_a := h_a.below b2
    have V00 := V0.c0
    have V01 := V0.c1
    have V_x0 := V_x.c0
    have V_x1 := V_x.c1
    have V_y0 := V_y.c0
    have V_y1 := V_y.c1
    clear b2
    obtain ⟨s_u, A_u, n_u, c_u, rfl, g_u⟩ := x_u.opened
    obtain ⟨s_v, A_v, n_v, c_v, rfl, g_v⟩ := x_v.opened
    have bl : Below w2.heap.size w2 ((w2.alloc (.cells #[.bool s_u, .slice A_u n_u c_u] 36)).alloc (.cells #[.bool s_v, .slice A_v n_v c_v] 36)) := (bnew (bnew (Below.refl _ _) _) _)
    obtain ⟨V_u, V_v⟩ := mk2 w2 (.bool s_u) (.slice A_u n_u c_u) (.bool s_v) (.slice A_v n_v c_v)
    replace hb := bnext hb bl
    clear V00 V01 V_x0 V_x1 V_y0 V_y1
    replace V0 := V0.next bl
    replace V_x := V_x.next bl
    replace V_y := V_y.next bl
    replace x_x := x_x.next bl
    replace x_y := x_y.next bl
    replace x_u := x_u.next bl
    replace x_v := x_v.next bl
    replace h_a := h_a.below bl
    have V00 := V0.c0
    have V01 := V0.c1
    have V_x0 := V_x.c0
    have V_x1 := V_x.c1
    have V_y0 := V_y.c0
    have V_y1 := V_y.c1
    clear bl
    clear g_u
    clear g_v
    clear V00 V01 V_x0 V_x1 V_y0 V_y1
    have V00 := V0.c0
    have V01 := V0.c1
    have V_x0 := V_x.c0
    have V_x1 := V_x.c1
    have V_y0 := V_y.c0
    have V_y1 := V_y.c1
    have V_u0 := V_u.c0
    have V_u1 := V_u.c1
    have V_v0 := V_v.c0
    have V_v1 := V_v.c1
    go_wp2_with fail
    refine (HP1.out _).mono ?_
    rintro e w3 ⟨v_n, rfl, x_n, b3⟩
    replace hb := bnext hb b3
    clear V00 V01 V_x0 V_x1 V_y0 V_y1 V_u0 V_u1 V_v0 V_v1
    replace V0 := V0.next b3
    replace V_x := V_x.next b3
    replace V_y := V_y.next b3
    replace V_u := V_u.next b3
    replace V_v := V_v.next b3
    replace x_x := x_x.next b3
    replace x_y := x_y.next b3
    replace x_u := x_u.next b3
    replace x_v := x_v.next b3
    replace h_a := h_a.below b3
    have V00 := V0.c0
    have V01 := V0.c1
    have V_x0 := V_x.c0
    have V_x1 := V_x.c1
    have V_y0 := V_y.c0
    have V_y1 := V_y.c1
    have V_u0 := V_u.c0
    have V_u1 := V_u.c1
    have V_v0 := V_v.c0
    have V_v1 := V_v.c1
    clear b3
    obtain ⟨s_n, A_n, n_n, c_n, rfl, g_n⟩ := x_n.opened
    have bl : Below w3.heap.size w3 (w3.alloc (.cells #[.bool s_n, .slice A_n n_n c_n] 36)) := (bnew (Below.refl _ _) _)
    have V_n := Var.mk_ w3 (.bool s_n) (.slice A_n n_n c_n)
    replace hb := bnext hb bl
    clear V00 V01 V_x0 V_x1 V_y0 V_y1 V_u0 V_u1 V_v0 V_v1
    replace V0 := V0.next bl
    replace V_x := V_x.next bl
    replace V_y := V_y.next bl
    replace V_u := V_u.next bl
    replace V_v := V_v.next bl
    replace x_x := x_x.next bl
    replace x_y := x_y.next bl
    replace x_u := x_u.next bl
    replace x_v := x_v.next bl
    replace x_n := x_n.next bl
    replace h_a := h_a.below bl
    have V00 := V0.c0
    have V01 := V0.c1
    have V_x0 := V_x.c0
    have V_x1 := V_x.c1
    have V_y0 := V_y.c0
    have V_y1 := V_y.c1
    have V_u0 := V_u.c0
    have V_u1 := V_u.c1
    have V_v0 := V_v.c0
    have V_v1 := V_v.c1
    clear bl
    clear g_n
    clear V00 V01 V_x0 V_x1 V_y0 V_y1 V_u0 V_u1 V_v0 V_v1
    have V00 := V0.c0
    have V01 := V0.c1
    have V_x0 := V_x.c0
    have V_x1 := V_x.c1
    have V_y0 := V_y.c0
    have V_y1 := V_y.c1
    have V_u0 := V_u.c0
    have V_u1 := V_u.c1
    have V_v0 := V_v.c0
    have V_v1 := V_v.c1
    have V_n0 := V_n.c0
    have V_n1 := V_n.c1
    go_wp2_with fail
    refine (HP2.out _).mono ?_
    rintro e w4 ⟨v_m, rfl, x_m, b4⟩
    replace hb := bnext hb b4
    clear V00 V01 V_x0 V_x1 V_y0 V_y1 V_u0 V_u1 V_v0 V_v1 V_n0 V_n1
    replace V0 := V0.next b4
    replace V_x := V_x.next b4
    replace V_y := V_y.next b4
    replace V_u := V_u.next b4
    replace V_v := V_v.next b4
    replace V_n := V_n.next b4
    replace x_x := x_x.next b4
    replace x_y := x_y.next b4
    replace x_u := x_u.next b4
    replace x_v := x_v.next b4
    replace x_n := x_n.next b4
    replace h_a := h_a.below b4
    have V00 := V0.c0
    have V01 := V0.c1
    have V_x0 := V_x.c0
    have V_x1 := V_x.c1
    have V_y0 := V_y.c0
    have V_y1 := V_y.c1
    have V_u0 := V_u.c0
    have V_u1 := V_u.c1
    have V_v0 := V_v.c0
    have V_v1 := V_v.c1
    have V_n0 := V_n.c0
    have V_n1 := V_n.c1
    clear b4
    obtain ⟨s_m, A_m, n_m, c_m, rfl, g_m⟩ := x_m.opened
    have bl : Below w4.heap.size w4 (w4.alloc (.cells #[.bool s_m, .slice A_m n_m c_m] 36)) := (bnew (Below.refl _ _) _)
    have V_m := Var.mk_ w4 (.bool s_m) (.slice A_m n_m c_m)
    replace hb := bnext hb bl
    clear V00 V01 V_x0 V_x1 V_y0 V_y1 V_u0 V_u1 V_v0 V_v1 V_n0 V_n1
    replace V0 := V0.next bl
    replace V_x := V_x.next bl
    replace V_y := V_y.next bl
    replace V_u := V_u.next bl
    replace V_v := V_v.next bl
    replace V_n := V_n.next bl
    replace x_x := x_x.next bl
    replace x_y := x_y.next bl
    replace x_u := x_u.next bl
    replace x_v := x_v.next bl
    replace x_n := x_n.next bl
    replace x_m := x_m.next bl
    replace h_a := h_a.below bl
    have V00 := V0.c0
    have V01 := V0.c1
    have V_x0 := V_x.c0
    have V_x1 := V_x.c1
    have V_y0 := V_y.c0
    have V_y1 := V_y.c1
    have V_u0 := V_u.c0
    have V_u1 := V_u.c1
    have V_v0 := V_v.c0
    have V_v1 := V_v.c1
    have V_n0 := V_n.c0
    have V_n1 := V_n.c1
    clear bl
    clear g_m
    clear V00 V01 V_x0 V_x1 V_y0 V_y1 V_u0 V_u1 V_v0 V_v1 V_n0 V_n1
    have V00 := V0.c0
    have V01 := V0.c1
    have V_x0 := V_x.c0
    have V_x1 := V_x.c1
    have V_y0 := V_y.c0
    have V_y1 := V_y.c1
    have V_u0 := V_u.c0
    have V_u1 := V_u.c1
    have V_v0 := V_v.c0
    have V_v1 := V_v.c1
    have V_n0 := V_n.c0
    have V_n1 := V_n.c1
    have V_m0 := V_m.c0
    have V_m1 := V_m.c1
    go_wp2_with fail
    clear HR1 HR2 HP1 HP2
    clear V00 V01 V_x0 V_x1 V_y0 V_y1 V_u0 V_u1 V_v0 V_v1 V_n0 V_n1 V_m0 V_m1
    replace V0 := V0.next (Below.refl _ _).drew
    replace V_x := V_x.next (Below.refl _ _).drew
    replace V_y := V_y.next (Below.refl _ _).drew
    replace V_u := V_u.next (Below.refl _ _).drew
    replace V_v := V_v.next (Below.refl _ _).drew
    replace V_n := V_n.next (Below.refl _ _).drew
    replace V_m := V_m.next (Below.refl _ _).drew
    replace x_x := x_x.next (Below.refl _ _).drew
    replace x_y := x_y.next (Below.refl _ _).drew
    replace x_u := x_u.next (Below.refl _ _).drew
    replace x_v := x_v.next (Below.refl _ _).drew
    replace x_n := x_n.next (Below.refl _ _).drew
    replace x_m := x_m.next (Below.refl _ _).drew
    replace h_a := h_a.below (Below.refl _ _).drew
    replace hb := hb.drew
    go_region_held3 (fun w' => w'.cell? ⟨w.heap.size, 0, none⟩ = some (.bool s0) ∧ w'.cell? ⟨w.heap.size, 1, none⟩ = some (.slice a0 len0 cap0) ∧ w'.cell? ⟨w1.heap.size, 0, none⟩ = some (.bool s_x) ∧ w'.cell? ⟨w1.heap.size, 1, none⟩ = some (.slice A_x n_x c_x) ∧ w'.cell? ⟨w1.heap.size + 1, 0, none⟩ = some (.bool s_y) ∧ w'.cell? ⟨w1.heap.size + 1, 1, none⟩ = some (.slice A_y n_y c_y) ∧ w'.cell? ⟨w2.heap.size, 0, none⟩ = some (.bool s_u) ∧ w'.cell? ⟨w2.heap.size, 1, none⟩ = some (.slice A_u n_u c_u) ∧ w'.cell? ⟨w2.heap.size + 1, 0, none⟩ = some (.bool s_v) ∧ w'.cell? ⟨w2.heap.size + 1, 1, none⟩ = some (.slice A_v n_v c_v) ∧ w'.cell? ⟨w3.heap.size, 0, none⟩ = some (.bool s_n) ∧ w'.cell? ⟨w3.heap.size, 1, none⟩ = some (.slice A_n n_n c_n) ∧ w'.cell? ⟨w4.heap.size, 0, none⟩ = some (.bool s_m) ∧ w'.cell? ⟨w4.heap.size, 1, none⟩ = some (.slice A_m n_m c_m))
      (exact ⟨V0.c0, V0.c1, V_x.c0, V_x.c1, V_y.c0, V_y.c1, V_u.c0, V_u.c1, V_v.c0, V_v.c1, V_n.c0, V_n.c1, V_m.c0, V_m.c1⟩)
      (first
      | (go_at_call 20; (fail_if_success (have hh := b5)); refine (wsame_new x_x x_u (K := 10) HL.out.1.1 (by decide)).mono ?_; rintro e w5 ⟨rfl, b5⟩; replace hb := bnext hb b5; replace V0 := V0.next b5; replace V_x := V_x.next b5; replace V_y := V_y.next b5; replace V_u := V_u.next b5; replace V_v := V_v.next b5; replace V_n := V_n.next b5; replace V_m := V_m.next b5; replace x_x := x_x.next b5; replace x_y := x_y.next b5; replace x_u := x_u.next b5; replace x_v := x_v.next b5; replace x_n := x_n.next b5; replace x_m := x_m.next b5; replace h_a := h_a.below b5)
      | (go_at_call 20; (fail_if_success (have hh := b6)); refine (wsame_new x_y x_v (K := 10) HL.out.1.2 (by decide)).mono ?_; rintro e w6 ⟨rfl, b6⟩; replace hb := bnext hb b6; replace V0 := V0.next b6; replace V_x := V_x.next b6; replace V_y := V_y.next b6; replace V_u := V_u.next b6; replace V_v := V_v.next b6; replace V_n := V_n.next b6; replace V_m := V_m.next b6; replace x_x := x_x.next b6; replace x_y := x_y.next b6; replace x_u := x_u.next b6; replace x_v := x_v.next b6; replace x_n := x_n.next b6; replace x_m := x_m.next b6; replace h_a := h_a.below b6)
      | (go_at_call 47; (fail_if_success (have hh := b7)); refine (HT1.out _ _ h_a).mono ?_; rintro e w7 ⟨rfl, b7⟩; replace hb := bnext hb b7; replace V0 := V0.next b7; replace V_x := V_x.next b7; replace V_y := V_y.next b7; replace V_u := V_u.next b7; replace V_v := V_v.next b7; replace V_n := V_n.next b7; replace V_m := V_m.next b7; replace x_x := x_x.next b7; replace x_y := x_y.next b7; replace x_u := x_u.next b7; replace x_v := x_v.next b7; replace x_n := x_n.next b7; replace x_m := x_m.next b7; replace h_a := h_a.below b7)
      | (go_at_call 48; (fail_if_success (have hh := b8)); refine (HT2.out _ _ h_a).mono ?_; rintro e w8 ⟨rfl, b8⟩; replace hb := bnext hb b8; replace V0 := V0.next b8; replace V_x := V_x.next b8; replace V_y := V_y.next b8; replace V_u := V_u.next b8; replace V_v := V_v.next b8; replace V_n := V_n.next b8; replace V_m := V_m.next b8; replace x_x := x_x.next b8; replace x_y := x_y.next b8; replace x_u := x_u.next b8; replace x_v := x_v.next b8; replace x_n := x_n.next b8; replace x_m := x_m.next b8; replace h_a := h_a.below b8)
      | (go_at_call 20; (fail_if_success (have hh := b9)); refine (wsame_new x_n x_m (K := KP) HL.out.2.1 HL.out.2.2).mono ?_; rintro e w9 ⟨rfl, b9⟩; replace hb := bnext hb b9; replace V0 := V0.next b9; replace V_x := V_x.next b9; replace V_y := V_y.next b9; replace V_u := V_u.next b9; replace V_v := V_v.next b9; replace V_n := V_n.next b9; replace V_m := V_m.next b9; replace x_x := x_x.next b9; replace x_y := x_y.next b9; replace x_u := x_u.next b9; replace x_v := x_v.next b9; replace x_n := x_n.next b9; replace x_m := x_m.next b9; replace h_a := h_a.below b9)
      | (go_at_call 17; (fail_if_success (have hh := b10)); refine (wlives_yes _).mono ?_; rintro e w10 ⟨rfl, b10⟩; replace hb := bnext hb b10; replace V0 := V0.next b10; replace V_x := V_x.next b10; replace V_y := V_y.next b10; replace V_u := V_u.next b10; replace V_v := V_v.next b10; replace V_n := V_n.next b10; replace V_m := V_m.next b10; replace x_x := x_x.next b10; replace x_y := x_y.next b10; replace x_u := x_u.next b10; replace x_v := x_v.next b10; replace x_n := x_n.next b10; replace x_m := x_m.next b10; replace h_a := h_a.below b10))
    go_wp2_with fail
    go_ret
    exact ⟨rfl, hb⟩
  · have V00 := V0.c0
    have V01 := V0.c1
    go_wp2_with fail
    refine (HR1.out _ _ h_a).mono ?_
    rintro e w1 ⟨v_x, v_y, rfl, x_x, x_y, b1⟩
    replace hb := bnext hb b1
    clear V00 V01
    replace V0 := V0.next b1
    replace h_a := h_a.below b1
    have V00 := V0.c0
    have V01 := V0.c1
    clear b1
    obtain ⟨s_x, A_x, n_x, c_x, rfl, g_x⟩ := x_x.opened
    obtain ⟨s_y, A_y, n_y, c_y, rfl, g_y⟩ := x_y.opened
    have bl : Below w1.heap.size w1 ((w1.alloc (.cells #[.bool s_x, .slice A_x n_x c_x] 36)).alloc (.cells #[.bool s_y, .slice A_y n_y c_y] 36)) := (bnew (bnew (Below.refl _ _) _) _)
    obtain ⟨V_x, V_y⟩ := mk2 w1 (.bool s_x) (.slice A_x n_x c_x) (.bool s_y) (.slice A_y n_y c_y)
    replace hb := bnext hb bl
    clear V00 V01
    replace V0 := V0.next bl
    replace x_x := x_x.next bl
    replace x_y := x_y.next bl
    replace h_a := h_a.below bl
    have V00 := V0.c0
    have V01 := V0.c1
    clear bl
    clear g_x
    clear g_y
    clear V00 V01
    have V00 := V0.c0
    have V01 := V0.c1
    have V_x0 := V_x.c0
    have V_x1 := V_x.c1
    have V_y0 := V_y.c0
    have V_y1 := V_y.c1
    go_wp2_with fail
    refine (HR2.out _ _ h_a).mono ?_
    rintro e w2 ⟨v_u, v_v, rfl, x_u, x_v, b2⟩
    replace hb := bnext hb b2
    clear V00 V01 V_x0 V_x1 V_y0 V_y1
    replace V0 := V0.next b2
    replace V_x := V_x.next b2
    replace V_y := V_y.next b2
    replace x_x := x_x.next b2
    replace x_y := x_y.next b2
    replace h_a := h_a.below b2
    have V00 := V0.c0
    have V01 := V0.c1
    have V_x0 := V_x.c0
    have V_x1 := V_x.c1
    have V_y0 := V_y.c0
    have V_y1 := V_y.c1
    clear b2
    obtain ⟨s_u, A_u, n_u, c_u, rfl, g_u⟩ := x_u.opened
    obtain ⟨s_v, A_v, n_v, c_v, rfl, g_v⟩ := x_v.opened
    have bl : Below w2.heap.size w2 ((w2.alloc (.cells #[.bool s_u, .slice A_u n_u c_u] 36)).alloc (.cells #[.bool s_v, .slice A_v n_v c_v] 36)) := (bnew (bnew (Below.refl _ _) _) _)
    obtain ⟨V_u, V_v⟩ := mk2 w2 (.bool s_u) (.slice A_u n_u c_u) (.bool s_v) (.slice A_v n_v c_v)
    replace hb := bnext hb bl
    clear V00 V01 V_x0 V_x1 V_y0 V_y1
    replace V0 := V0.next bl
    replace V_x := V_x.next bl
    replace V_y := V_y.next bl
    replace x_x := x_x.next bl
    replace x_y := x_y.next bl
    replace x_u := x_u.next bl
    replace x_v := x_v.next bl
    replace h_a := h_a.below bl
    have V00 := V0.c0
    have V01 := V0.c1
    have V_x0 := V_x.c0
    have V_x1 := V_x.c1
    have V_y0 := V_y.c0
    have V_y1 := V_y.c1
    clear bl
    clear g_u
    clear g_v
    clear V00 V01 V_x0 V_x1 V_y0 V_y1
    have V00 := V0.c0
    have V01 := V0.c1
    have V_x0 := V_x.c0
    have V_x1 := V_x.c1
    have V_y0 := V_y.c0
    have V_y1 := V_y.c1
    have V_u0 := V_u.c0
    have V_u1 := V_u.c1
    have V_v0 := V_v.c0
    have V_v1 := V_v.c1
    go_wp2_with fail
    refine (HP1.out _).mono ?_
    rintro e w3 ⟨v_n, rfl, x_n, b3⟩
    replace hb := bnext hb b3
    clear V00 V01 V_x0 V_x1 V_y0 V_y1 V_u0 V_u1 V_v0 V_v1
    replace V0 := V0.next b3
    replace V_x := V_x.next b3
    replace V_y := V_y.next b3
    replace V_u := V_u.next b3
    replace V_v := V_v.next b3
    replace x_x := x_x.next b3
    replace x_y := x_y.next b3
    replace x_u := x_u.next b3
    replace x_v := x_v.next b3
    replace h_a := h_a.below b3
    have V00 := V0.c0
    have V01 := V0.c1
    have V_x0 := V_x.c0
    have V_x1 := V_x.c1
    have V_y0 := V_y.c0
    have V_y1 := V_y.c1
    have V_u0 := V_u.c0
    have V_u1 := V_u.c1
    have V_v0 := V_v.c0
    have V_v1 := V_v.c1
    clear b3
    obtain ⟨s_n, A_n, n_n, c_n, rfl, g_n⟩ := x_n.opened
    have bl : Below w3.heap.size w3 (w3.alloc (.cells #[.bool s_n, .slice A_n n_n c_n] 36)) := (bnew (Below.refl _ _) _)
    have V_n := Var.mk_ w3 (.bool s_n) (.slice A_n n_n c_n)
    replace hb := bnext hb bl
    clear V00 V01 V_x0 V_x1 V_y0 V_y1 V_u0 V_u1 V_v0 V_v1
    replace V0 := V0.next bl
    replace V_x := V_x.next bl
    replace V_y := V_y.next bl
    replace V_u := V_u.next bl
    replace V_v := V_v.next bl
    replace x_x := x_x.next bl
    replace x_y := x_y.next bl
    replace x_u := x_u.next bl
    replace x_v := x_v.next bl
    replace x_n := x_n.next bl
    replace h_a := h_a.below bl
    have V00 := V0.c0
    have V01 := V0.c1
    have V_x0 := V_x.c0
    have V_x1 := V_x.c1
    have V_y0 := V_y.c0
    have V_y1 := V_y.c1
    have V_u0 := V_u.c0
    have V_u1 := V_u.c1
    have V_v0 := V_v.c0
    have V_v1 := V_v.c1
    clear bl
    clear g_n
    clear V00 V01 V_x0 V_x1 V_y0 V_y1 V_u0 V_u1 V_v0 V_v1
    have V00 := V0.c0
    have V01 := V0.c1
    have V_x0 := V_x.c0
    have V_x1 := V_x.c1
    have V_y0 := V_y.c0
    have V_y1 := V_y.c1
    have V_u0 := V_u.c0
    have V_u1 := V_u.c1
    have V_v0 := V_v.c0
    have V_v1 := V_v.c1
    have V_n0 := V_n.c0
    have V_n1 := V_n.c1
    go_wp2_with fail
    refine (HP2.out _).mono ?_
    rintro e w4 ⟨v_m, rfl, x_m, b4⟩
    replace hb := bnext hb b4
    clear V00 V01 V_x0 V_x1 V_y0 V_y1 V_u0 V_u1 V_v0 V_v1 V_n0 V_n1
    replace V0 := V0.next b4
    replace V_x := V_x.next b4
    replace V_y := V_y.next b4
    replace V_u := V_u.next b4
    replace V_v := V_v.next b4
    replace V_n := V_n.next b4
    replace x_x := x_x.next b4
    replace x_y := x_y.next b4
    replace x_u := x_u.next b4
    replace x_v := x_v.next b4
    replace x_n := x_n.next b4
    replace h_a := h_a.below b4
    have V00 := V0.c0
    have V01 := V0.c1
    have V_x0 := V_x.c0
    have V_x1 := V_x.c1
    have V_y0 := V_y.c0
    have V_y1 := V_y.c1
    have V_u0 := V_u.c0
    have V_u1 := V_u.c1
    have V_v0 := V_v.c0
    have V_v1 := V_v.c1
    have V_n0 := V_n.c0
    have V_n1 := V_n.c1
    clear b4
    obtain ⟨s_m, A_m, n_m, c_m, rfl, g_m⟩ := x_m.opened
    have bl : Below w4.heap.size w4 (w4.alloc (.cells #[.bool s_m, .slice A_m n_m c_m] 36)) := (bnew (Below.refl _ _) _)
    have V_m := Var.mk_ w4 (.bool s_m) (.slice A_m n_m c_m)
    replace hb := bnext hb bl
    clear V00 V01 V_x0 V_x1 V_y0 V_y1 V_u0 V_u1 V_v0 V_v1 V_n0 V_n1
    replace V0 := V0.next bl
    replace V_x := V_x.next bl
    replace V_y := V_y.next bl
    replace V_u := V_u.next bl
    replace V_v := V_v.next bl
    replace V_n := V_n.next bl
    replace x_x := x_x.next bl
    replace x_y := x_y.next bl
    replace x_u := x_u.next bl
    replace x_v := x_v.next bl
    replace x_n := x_n.next bl
    replace x_m := x_m.next bl
    replace h_a := h_a.below bl
    have V00 := V0.c0
    have V01 := V0.c1
    have V_x0 := V_x.c0
    have V_x1 := V_x.c1
    have V_y0 := V_y.c0
    have V_y1 := V_y.c1
    have V_u0 := V_u.c0
    have V_u1 := V_u.c1
    have V_v0 := V_v.c0
    have V_v1 := V_v.c1
    have V_n0 := V_n.c0
    have V_n1 := V_n.c1
    clear bl
    clear g_m
    clear V00 V01 V_x0 V_x1 V_y0 V_y1 V_u0 V_u1 V_v0 V_v1 V_n0 V_n1
    have V00 := V0.c0
    have V01 := V0.c1
    have V_x0 := V_x.c0
    have V_x1 := V_x.c1
    have V_y0 := V_y.c0
    have V_y1 := V_y.c1
    have V_u0 := V_u.c0
    have V_u1 := V_u.c1
    have V_v0 := V_v.c0
    have V_v1 := V_v.c1
    have V_n0 := V_n.c0
    have V_n1 := V_n.c1
    have V_m0 := V_m.c0
    have V_m1 := V_m.c1
    go_wp2_with fail
    clear HR1 HR2 HP1 HP2
    clear V00 V01 V_x0 V_x1 V_y0 V_y1 V_u0 V_u1 V_v0 V_v1 V_n0 V_n1 V_m0 V_m1
    replace V0 := V0.next (Below.refl _ _).drew
    replace V_x := V_x.next (Below.refl _ _).drew
    replace V_y := V_y.next (Below.refl _ _).drew
    replace V_u := V_u.next (Below.refl _ _).drew
    replace V_v := V_v.next (Below.refl _ _).drew
    replace V_n := V_n.next (Below.refl _ _).drew
    replace V_m := V_m.next (Below.refl _ _).drew
    replace x_x := x_x.next (Below.refl _ _).drew
    replace x_y := x_y.next (Below.refl _ _).drew
    replace x_u := x_u.next (Below.refl _ _).drew
    replace x_v := x_v.next (Below.refl _ _).drew
    replace x_n := x_n.next (Below.refl _ _).drew
    replace x_m := x_m.next (Below.refl _ _).drew
    replace h_a := h_a.below (Below.refl _ _).drew
    replace hb := hb.drew
    go_region_held3 (fun w' => w'.cell? ⟨w.heap.size, 0, none⟩ = some (.bool s0) ∧ w'.cell? ⟨w.heap.size, 1, none⟩ = some (.slice a0 len0 cap0) ∧ w'.cell? ⟨w1.heap.size, 0, none⟩ = some (.bool s_x) ∧ w'.cell? ⟨w1.heap.size, 1, none⟩ = some (.slice A_x n_x c_x) ∧ w'.cell? ⟨w1.heap.size + 1, 0, none⟩ = some (.bool s_y) ∧ w'.cell? ⟨w1.heap.size + 1, 1, none⟩ = some (.slice A_y n_y c_y) ∧ w'.cell? ⟨w2.heap.size, 0, none⟩ = some (.bool s_u) ∧ w'.cell? ⟨w2.heap.size, 1, none⟩ = some (.slice A_u n_u c_u) ∧ w'.cell? ⟨w2.heap.size + 1, 0, none⟩ = some (.bool s_v) ∧ w'.cell? ⟨w2.heap.size + 1, 1, none⟩ = some (.slice A_v n_v c_v) ∧ w'.cell? ⟨w3.heap.size, 0, none⟩ = some (.bool s_n) ∧ w'.cell? ⟨w3.heap.size, 1, none⟩ = some (.slice A_n n_n c_n) ∧ w'.cell? ⟨w4.heap.size, 0, none⟩ = some (.bool s_m) ∧ w'.cell? ⟨w4.heap.size, 1, none⟩ = some (.slice A_m n_m c_m))
      (exact ⟨V0.c0, V0.c1, V_x.c0, V_x.c1, V_y.c0, V_y.c1, V_u.c0, V_u.c1, V_v.c0, V_v.c1, V_n.c0, V_n.c1, V_m.c0, V_m.c1⟩)
      (first
      | (go_at_call 20; (fail_if_success (have hh := b5)); refine (wsame_new x_x x_u (K := 10) HL.out.1.1 (by decide)).mono ?_; rintro e w5 ⟨rfl, b5⟩; replace hb := bnext hb b5; replace V0 := V0.next b5; replace V_x := V_x.next b5; replace V_y := V_y.next b5; replace V_u := V_u.next b5; replace V_v := V_v.next b5; replace V_n := V_n.next b5; replace V_m := V_m.next b5; replace x_x := x_x.next b5; replace x_y := x_y.next b5; replace x_u := x_u.next b5; replace x_v := x_v.next b5; replace x_n := x_n.next b5; replace x_m := x_m.next b5; replace h_a := h_a.below b5)
      | (go_at_call 20; (fail_if_success (have hh := b6)); refine (wsame_new x_y x_v (K := 10) HL.out.1.2 (by decide)).mono ?_; rintro e w6 ⟨rfl, b6⟩; replace hb := bnext hb b6; replace V0 := V0.next b6; replace V_x := V_x.next b6; replace V_y := V_y.next b6; replace V_u := V_u.next b6; replace V_v := V_v.next b6; replace V_n := V_n.next b6; replace V_m := V_m.next b6; replace x_x := x_x.next b6; replace x_y := x_y.next b6; replace x_u := x_u.next b6; replace x_v := x_v.next b6; replace x_n := x_n.next b6; replace x_m := x_m.next b6; replace h_a := h_a.below b6)
      | (go_at_call 47; (fail_if_success (have hh := b7)); refine (HT1.out _ _ h_a).mono ?_; rintro e w7 ⟨rfl, b7⟩; replace hb := bnext hb b7; replace V0 := V0.next b7; replace V_x := V_x.next b7; replace V_y := V_y.next b7; replace V_u := V_u.next b7; replace V_v := V_v.next b7; replace V_n := V_n.next b7; replace V_m := V_m.next b7; replace x_x := x_x.next b7; replace x_y := x_y.next b7; replace x_u := x_u.next b7; replace x_v := x_v.next b7; replace x_n := x_n.next b7; replace x_m := x_m.next b7; replace h_a := h_a.below b7)
      | (go_at_call 48; (fail_if_success (have hh := b8)); refine (HT2.out _ _ h_a).mono ?_; rintro e w8 ⟨rfl, b8⟩; replace hb := bnext hb b8; replace V0 := V0.next b8; replace V_x := V_x.next b8; replace V_y := V_y.next b8; replace V_u := V_u.next b8; replace V_v := V_v.next b8; replace V_n := V_n.next b8; replace V_m := V_m.next b8; replace x_x := x_x.next b8; replace x_y := x_y.next b8; replace x_u := x_u.next b8; replace x_v := x_v.next b8; replace x_n := x_n.next b8; replace x_m := x_m.next b8; replace h_a := h_a.below b8)
      | (go_at_call 20; (fail_if_success (have hh := b9)); refine (wsame_new x_n x_m (K := KP) HL.out.2.1 HL.out.2.2).mono ?_; rintro e w9 ⟨rfl, b9⟩; replace hb := bnext hb b9; replace V0 := V0.next b9; replace V_x := V_x.next b9; replace V_y := V_y.next b9; replace V_u := V_u.next b9; replace V_v := V_v.next b9; replace V_n := V_n.next b9; replace V_m := V_m.next b9; replace x_x := x_x.next b9; replace x_y := x_y.next b9; replace x_u := x_u.next b9; replace x_v := x_v.next b9; replace x_n := x_n.next b9; replace x_m := x_m.next b9; replace h_a := h_a.below b9)
      | (go_at_call 17; (fail_if_success (have hh := b10)); refine (wlives_yes _).mono ?_; rintro e w10 ⟨rfl, b10⟩; replace hb := bnext hb b10; replace V0 := V0.next b10; replace V_x := V_x.next b10; replace V_y := V_y.next b10; replace V_u := V_u.next b10; replace V_v := V_v.next b10; replace V_n := V_n.next b10; replace V_m := V_m.next b10; replace x_x := x_x.next b10; replace x_y := x_y.next b10; replace x_u := x_u.next b10; replace x_v := x_v.next b10; replace x_n := x_n.next b10; replace x_m := x_m.next b10; replace h_a := h_a.below b10))
    go_wp2_with fail
    go_ret
    exact ⟨rfl, hb⟩

set_option maxRecDepth 20000 in
set_option maxHeartbeats 32000000 in
theorem wholeRoots_mida (s0 : Bool) (a0 : Option Addr) (len0 cap0 : Nat) (A : Int) (s : ByteArray) (w : World) (h_a : Wh w (.agg #[.bool s0, .slice a0 len0 cap0]) A 24) (k0 : len0 ≤ 24) (g0 : 10 < len0) (_hs : s.size ≤ maxLen) :
    Calls Tryd.prog 6 #[.agg #[.bool s0, .slice a0 len0 cap0], .string s] w fun e w' => e = .returned (.bool true) ∧ Below w.heap.size w w' := by
  obtain ⟨V0, hb0⟩ := ents1 w (.bool s0) (.slice a0 len0 cap0)
  have hsz : (w.alloc (.cells #[.bool s0, .slice a0 len0 cap0] 36)).heap.size = w.heap.size + 1 := by simp
  have hall : ∀ i, i < 1 → ∃ s A n c, ((w.alloc (.cells #[.bool s0, .slice a0 len0 cap0] 36)).alloc (.cells #[.bool s0, .slice a0 len0 cap0] 36)).cell? ⟨w.heap.size + 1, i * 2, none⟩ = some (.bool s) ∧ ((w.alloc (.cells #[.bool s0, .slice a0 len0 cap0] 36)).alloc (.cells #[.bool s0, .slice a0 len0 cap0] 36)).cell? ⟨w.heap.size + 1, i * 2 + 1, none⟩ = some (.slice A n c) ∧ n ≤ 24 := by
    intro i hi
    rw [← hsz]
    obtain rfl : i = 0 := by omega
    · exact ⟨s0, a0, len0, cap0, (cell_new _ _ _ _).trans rfl, (cell_new _ _ _ _).trans rfl, k0⟩
  have hglt : w.heap.size + 1 < ((w.alloc (.cells #[.bool s0, .slice a0 len0 cap0] 36)).alloc (.cells #[.bool s0, .slice a0 len0 cap0] 36)).heap.size := by rw [← hsz]; simp
  have HA := Lib.hid (And.intro hglt hall)
  clear hall hglt hsz
  have hb : Below w.heap.size w ((w.alloc (.cells #[.bool s0, .slice a0 len0 cap0] 36)).alloc (.cells #[.bool s0, .slice a0 len0 cap0] 36)) := bnew hb0 _
  replace V0 := V0.alloc (.cells #[.bool s0, .slice a0 len0 cap0] 36)
  have V00 := (ents1 w (.bool s0) (.slice a0 len0 cap0)).1.c0
  have V01 := (ents1 w (.bool s0) (.slice a0 len0 cap0)).1.c1
  clear hb0
  go_enter Tryd.func6, Tryd.ntmps6
  go_wp2_with fail
  refine (wlsmall_yes (w.heap.size + 1) 1 _ (by decide) HA.out.1 HA.out.2).mono ?_
  rintro e w0 ⟨rfl, b0⟩
  replace hb := bnext hb b0
  clear HA V00 V01
  replace V0 := V0.next b0
  replace h_a := h_a.below hb
  clear b0
  have V00 := V0.c0
  have V01 := V0.c1
  go_wp2_with fail
  refine (wlives_yes _).mono ?_
  rintro e w1 ⟨rfl, b1⟩
  replace hb := bnext hb b1
  clear V00 V01
  replace V0 := V0.next b1
  replace h_a := h_a.below b1
  have V00 := V0.c0
  have V01 := V0.c1
  clear b1
  go_wp2_with fail
  go_ret
  exact ⟨rfl, hb⟩

set_option maxRecDepth 20000 in
set_option maxHeartbeats 32000000 in
theorem wholeRoots_midb (s0 : Bool) (a0 : Option Addr) (len0 cap0 : Nat) (A : Int) (s : ByteArray) (w : World) (h_a : Wh w (.agg #[.bool s0, .slice a0 len0 cap0]) A 24) (k0 : len0 ≤ 24) (g0 : len0 ≤ 10) (g1 : 300 < s.size) (g2 : s.size ≤ 1001) (_hs : s.size ≤ maxLen) :
    Calls Tryd.prog 6 #[.agg #[.bool s0, .slice a0 len0 cap0], .string s] w fun e w' => e = .returned (.bool true) ∧ Below w.heap.size w w' := by
  obtain ⟨V0, hb0⟩ := ents1 w (.bool s0) (.slice a0 len0 cap0)
  have hsz : (w.alloc (.cells #[.bool s0, .slice a0 len0 cap0] 36)).heap.size = w.heap.size + 1 := by simp
  have hall : ∀ i, i < 1 → ∃ s A n c, ((w.alloc (.cells #[.bool s0, .slice a0 len0 cap0] 36)).alloc (.cells #[.bool s0, .slice a0 len0 cap0] 36)).cell? ⟨w.heap.size + 1, i * 2, none⟩ = some (.bool s) ∧ ((w.alloc (.cells #[.bool s0, .slice a0 len0 cap0] 36)).alloc (.cells #[.bool s0, .slice a0 len0 cap0] 36)).cell? ⟨w.heap.size + 1, i * 2 + 1, none⟩ = some (.slice A n c) ∧ n ≤ 24 := by
    intro i hi
    rw [← hsz]
    obtain rfl : i = 0 := by omega
    · exact ⟨s0, a0, len0, cap0, (cell_new _ _ _ _).trans rfl, (cell_new _ _ _ _).trans rfl, k0⟩
  have hglt : w.heap.size + 1 < ((w.alloc (.cells #[.bool s0, .slice a0 len0 cap0] 36)).alloc (.cells #[.bool s0, .slice a0 len0 cap0] 36)).heap.size := by rw [← hsz]; simp
  have HA := Lib.hid (And.intro hglt hall)
  clear hall hglt hsz
  have hb : Below w.heap.size w ((w.alloc (.cells #[.bool s0, .slice a0 len0 cap0] 36)).alloc (.cells #[.bool s0, .slice a0 len0 cap0] 36)) := bnew hb0 _
  replace V0 := V0.alloc (.cells #[.bool s0, .slice a0 len0 cap0] 36)
  have V00 := (ents1 w (.bool s0) (.slice a0 len0 cap0)).1.c0
  have V01 := (ents1 w (.bool s0) (.slice a0 len0 cap0)).1.c1
  clear hb0
  go_enter Tryd.func6, Tryd.ntmps6
  go_wp2_with fail
  refine (wlsmall_yes (w.heap.size + 1) 1 _ (by decide) HA.out.1 HA.out.2).mono ?_
  rintro e w0 ⟨rfl, b0⟩
  replace hb := bnext hb b0
  clear HA V00 V01
  replace V0 := V0.next b0
  replace h_a := h_a.below hb
  clear b0
  have V00 := V0.c0
  have V01 := V0.c1
  go_wp2_with fail
  refine (wlives_yes _).mono ?_
  rintro e w1 ⟨rfl, b1⟩
  replace hb := bnext hb b1
  clear V00 V01
  replace V0 := V0.next b1
  replace h_a := h_a.below b1
  have V00 := V0.c0
  have V01 := V0.c1
  clear b1
  go_wp2_with fail
  go_ret
  exact ⟨rfl, hb⟩

set_option maxRecDepth 20000 in
set_option maxHeartbeats 1600000 in
theorem wholeRoots_big (s0 : Bool) (a0 : Option Addr) (len0 cap0 : Nat) (s : ByteArray) (w : World) (m0 : len0 ≤ maxLen) (h : 24 < len0)  :
    Calls Tryd.prog 6 #[.agg #[.bool s0, .slice a0 len0 cap0], .string s] w fun e w' => e = .returned (.bool true) ∧ Below w.heap.size w w' := by
  obtain ⟨V0, hb0⟩ := ents1 w (.bool s0) (.slice a0 len0 cap0)
  have hsz : (w.alloc (.cells #[.bool s0, .slice a0 len0 cap0] 36)).heap.size = w.heap.size + 1 := by simp
  have hall : ∀ i, i < 1 → ∃ s A n c, ((w.alloc (.cells #[.bool s0, .slice a0 len0 cap0] 36)).alloc (.cells #[.bool s0, .slice a0 len0 cap0] 36)).cell? ⟨w.heap.size + 1, i * 2, none⟩ = some (.bool s) ∧ ((w.alloc (.cells #[.bool s0, .slice a0 len0 cap0] 36)).alloc (.cells #[.bool s0, .slice a0 len0 cap0] 36)).cell? ⟨w.heap.size + 1, i * 2 + 1, none⟩ = some (.slice A n c) ∧ n ≤ maxLen := by
    intro i hi
    rw [← hsz]
    obtain rfl : i = 0 := by omega
    · exact ⟨s0, a0, len0, cap0, (cell_new _ _ _ _).trans rfl, (cell_new _ _ _ _).trans rfl, m0⟩
  have hglt : w.heap.size + 1 < ((w.alloc (.cells #[.bool s0, .slice a0 len0 cap0] 36)).alloc (.cells #[.bool s0, .slice a0 len0 cap0] 36)).heap.size := by rw [← hsz]; simp
  have hb : Below w.heap.size w ((w.alloc (.cells #[.bool s0, .slice a0 len0 cap0] 36)).alloc (.cells #[.bool s0, .slice a0 len0 cap0] 36)) := bnew hb0 _
  have V00 := V0.c0
  have V01 := V0.c1
  clear hb0
  obtain ⟨m, hm, hbig⟩ : ∃ m, m < 1 ∧ ∃ A n c, ((w.alloc (.cells #[.bool s0, .slice a0 len0 cap0] 36)).alloc (.cells #[.bool s0, .slice a0 len0 cap0] 36)).cell? ⟨w.heap.size + 1, m * 2 + 1, none⟩ = some (.slice A n c) ∧ 24 < n := by
    rw [← hsz]
    · exact ⟨0, by omega, a0, len0, cap0, (cell_new _ _ _ _).trans rfl, h⟩
  have HA := Lib.hid (And.intro hglt (And.intro hall hbig))
  clear hall hbig hglt hsz h m0 V0
  go_enter Tryd.func6, Tryd.ntmps6
  go_wp2_with fail
  refine (wlsmall_no (w.heap.size + 1) 1 _ (by decide) HA.out.1 HA.out.2.1 m hm HA.out.2.2).mono ?_
  rintro e w0 ⟨rfl, b0⟩
  clear HA
  go_wp2_with fail
  refine (wlives_yes _).mono ?_
  rintro e w1 ⟨rfl, b1⟩
  go_wp2_with fail
  go_ret
  exact ⟨rfl, bnext (bnext hb b0) b1⟩

theorem wholeRoots_walk (s0 : Bool) (a0 : Option Addr) (len0 cap0 : Nat) (ys0 : List Nat) (s : ByteArray) (w : World) (h0 : Sl w a0 len0 cap0 ys0) (hs : s.size ≤ maxLen) :
    Calls Tryd.prog 6 #[.agg #[.bool s0, .slice a0 len0 cap0], .string s] w fun e w' => e = .returned (.bool true) ∧ Below w.heap.size w w' := by
  by_cases h : 24 < len0
  · exact wholeRoots_big _ _ _ _ _ w (Nat.le_trans h0.le h0.max) h
  · by_cases h10 : 10 < len0
    · exact wholeRoots_mida _ _ _ _ _ _ w (Wh.of_sl s0 h0 (by omega)) (by omega) h10 hs
    · by_cases h3 : s.size ≤ 300 ∨ 1001 < s.size
      · exact wholeRoots_small _ _ _ _ _ _ w (Wh.of_sl s0 h0 (by omega)) (by omega) hs h3
      · exact wholeRoots_midb _ _ _ _ _ _ w (Wh.of_sl s0 h0 (by omega)) (by omega) (by omega) (by omega) (by omega) hs
end Go.Proofs.YtjildimhflondaaDoor
