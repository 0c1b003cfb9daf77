/-
  The law WholeSums: its walk.
-/
import Derived.Test.YtjildimhflondaaDoorWrc
import Derived.Test.YtjildimhflondaaDoorWrg
import Derived.Test.YtjildimhflondaaDoorWrs
import Derived.OpenShut
namespace Go.Proofs.YtjildimhflondaaDoor
open Go.RowKit

set_option maxRecDepth 20000 in
set_option maxHeartbeats 32000000 in
theorem wholeSums_small (s0 : Bool) (a0 : Option Addr) (len0 cap0 : Nat) (s1 : Bool) (a1 : Option Addr) (len1 cap1 : Nat) (A B : Int) (ys0 : List Nat) (n : Int) (w : World) (h_a : Wh w (.agg #[.bool s0, .slice a0 len0 cap0]) A 24) (h_b : Wh w (.agg #[.bool s1, .slice a1 len1 cap1]) B 24) (k0 : len0 ≤ 24) (k1 : len1 ≤ 24) (hs0 : Sl w a0 len0 cap0 ys0) (n0 : -9223372036854775808 ≤ n) (n1 : n ≤ 9223372036854775807) :
    Calls Tryd.prog 4 #[.agg #[.bool s0, .slice a0 len0 cap0], .agg #[.bool s1, .slice a1 len1 cap1], .int .i64 n] w fun e w' => e = .returned (.bool true) ∧ Below w.heap.size w w' := by
  have l_a := h_a.lt
  have l_b := h_b.lt
  obtain ⟨V0, V1, hb0⟩ := ents2 w (.bool s0) (.slice a0 len0 cap0) (.bool s1) (.slice a1 len1 cap1)
  have hsz : ((w.alloc (.cells #[.bool s0, .slice a0 len0 cap0] 36)).alloc (.cells #[.bool s1, .slice a1 len1 cap1] 36)).heap.size = w.heap.size + 1 + 1 := by simp
  have hall : ∀ i, i < 2 → ∃ s A n c, (((w.alloc (.cells #[.bool s0, .slice a0 len0 cap0] 36)).alloc (.cells #[.bool s1, .slice a1 len1 cap1] 36)).alloc (.cells #[.bool s0, .slice a0 len0 cap0, .bool s1, .slice a1 len1 cap1] 36)).cell? ⟨w.heap.size + 1 + 1, i * 2, none⟩ = some (.bool s) ∧ (((w.alloc (.cells #[.bool s0, .slice a0 len0 cap0] 36)).alloc (.cells #[.bool s1, .slice a1 len1 cap1] 36)).alloc (.cells #[.bool s0, .slice a0 len0 cap0, .bool s1, .slice a1 len1 cap1] 36)).cell? ⟨w.heap.size + 1 + 1, i * 2 + 1, none⟩ = some (.slice A n c) ∧ n ≤ 24 := by
    intro i hi
    rw [← hsz]
    rcases (show i = 0 ∨ i = 1 by omega) with rfl | rfl
    · exact ⟨s0, a0, len0, cap0, (cell_new _ _ _ _).trans rfl, (cell_new _ _ _ _).trans rfl, k0⟩
    · exact ⟨s1, a1, len1, cap1, (cell_new _ _ _ _).trans rfl, (cell_new _ _ _ _).trans rfl, k1⟩
  have hglt : w.heap.size + 1 + 1 < (((w.alloc (.cells #[.bool s0, .slice a0 len0 cap0] 36)).alloc (.cells #[.bool s1, .slice a1 len1 cap1] 36)).alloc (.cells #[.bool s0, .slice a0 len0 cap0, .bool s1, .slice a1 len1 cap1] 36)).heap.size := by rw [← hsz]; simp
  have HA := Lib.hid (And.intro hglt hall)
  clear hall hglt hsz
  have hb : Below w.heap.size w (((w.alloc (.cells #[.bool s0, .slice a0 len0 cap0] 36)).alloc (.cells #[.bool s1, .slice a1 len1 cap1] 36)).alloc (.cells #[.bool s0, .slice a0 len0 cap0, .bool s1, .slice a1 len1 cap1] 36)) := bnew hb0 _
  replace V0 := V0.alloc (.cells #[.bool s0, .slice a0 len0 cap0, .bool s1, .slice a1 len1 cap1] 36)
  replace V1 := V1.alloc (.cells #[.bool s0, .slice a0 len0 cap0, .bool s1, .slice a1 len1 cap1] 36)
  have V00 := (ents2 w (.bool s0) (.slice a0 len0 cap0) (.bool s1) (.slice a1 len1 cap1)).1.c0
  have V01 := (ents2 w (.bool s0) (.slice a0 len0 cap0) (.bool s1) (.slice a1 len1 cap1)).1.c1
  have V10 := (ents2 w (.bool s0) (.slice a0 len0 cap0) (.bool s1) (.slice a1 len1 cap1)).2.1.c0
  have V11 := (ents2 w (.bool s0) (.slice a0 len0 cap0) (.bool s1) (.slice a1 len1 cap1)).2.1.c1
  clear hb0
  go_enter Tryd.func4, Tryd.ntmps4
  go_wp2_with fail
  refine (wlsmall_yes (w.heap.size + 1 + 1) 2 _ (by decide) HA.out.1 HA.out.2).mono ?_
  rintro e w0 ⟨rfl, b0⟩
  replace hb := bnext hb b0
  clear HA V00 V01 V10 V11
  replace V0 := V0.next b0
  replace V1 := V1.next b0
  replace h_a := h_a.below hb
  replace h_b := h_b.below hb
  clear b0
  have ln : n.natAbs < 4294967296 ^ 2 := by omega
  have HL := Lib.hid (And.intro l_a (And.intro (lt_up (lt_addZ l_a l_b) (show max 24 24 + 1 ≤ 25 by decide)) (And.intro (lt_up (lt_subZ l_a l_b) (show max 24 24 + 1 ≤ 25 by decide)) (And.intro (lt_mulZ l_a l_b) (And.intro (lt_negZ l_a) ln)))))
  clear l_a l_b ln
  have C1 := fun (W : World) (u v : Value) (hu : Wh W u A 24) (hv : Wh W v B 24) => wcmp_num hu hv (by decide) (by decide)
  have C2 := fun (W : World) (u v : Value) (hu : Wh W u A 24) (hv : Wh W v B 24) => rwcmp_num hu hv (by decide) (by decide)
  have S1 := fun (W : World) (u : Value) (hu : Wh W u A 24) => wsmall_num hu (by decide)
  have S2 := fun (W : World) (u : Value) (hu : Wh W u A 24) => rwsmall_num hu (by decide)
  have G1 := fun (W : World) (hW : Below w.heap.size w W) => wgood_any s0 (hs0.below hW)
  have G2 := fun (W : World) (hW : Below w.heap.size w W) => rwgood_any s0 (hs0.below hW)
  clear hs0
  generalize cmpZ A B = c1 at *
  generalize wsN A = sk at *
  generalize wsB A = so at *
  generalize goodB s0 ys0 = gd at *
  have hso : (so == so) = true := by cases so <;> rfl
  have hgd : (gd == gd) = true := by cases gd <;> rfl
  have HC1 := Lib.hid C1
  have HC2 := Lib.hid C2
  have HS1 := Lib.hid S1
  have HS2 := Lib.hid S2
  have HG1 := Lib.hid G1
  have HG2 := Lib.hid G2
  clear C1 C2 S1 S2 G1 G2
  have V00 := V0.c0
  have V01 := V0.c1
  have V10 := V1.c0
  have V11 := V1.c1
  go_wp2_with fail
  refine (HS1.out _ _ h_a).mono ?_
  rintro e w1 ⟨rfl, b1⟩
  replace hb := bnext hb b1
  clear V00 V01 V10 V11
  replace V0 := V0.next b1
  replace V1 := V1.next b1
  replace h_a := h_a.below b1
  replace h_b := h_b.below b1
  have V00 := V0.c0
  have V01 := V0.c1
  have V10 := V1.c0
  have V11 := V1.c1
  clear b1
  go_wp2_with fail
  refine (HS2.out _ _ h_a).mono ?_
  rintro e w2 ⟨rfl, b2⟩
  replace hb := bnext hb b2
  clear V00 V01 V10 V11
  replace V0 := V0.next b2
  replace V1 := V1.next b2
  replace h_a := h_a.below b2
  replace h_b := h_b.below b2
  have V00 := V0.c0
  have V01 := V0.c1
  have V10 := V1.c0
  have V11 := V1.c1
  clear b2
  go_wp2_with fail
  simp only [List.append_eq, List.cons_append, List.nil_append]
  clear V00 V01 V10 V11
  replace V0 := V0.next (Below.refl _ _).drew
  replace V1 := V1.next (Below.refl _ _).drew
  replace h_a := h_a.below (Below.refl _ _).drew
  replace h_b := h_b.below (Below.refl _ _).drew
  replace hb := hb.drew
  go_region_held3 (fun w' => w'.cell? ⟨w.heap.size, 0, none⟩ = some (.bool s0) ∧ w'.cell? ⟨w.heap.size, 1, none⟩ = some (.slice a0 len0 cap0) ∧ w'.cell? ⟨w.heap.size + 1, 0, none⟩ = some (.bool s1) ∧ w'.cell? ⟨w.heap.size + 1, 1, none⟩ = some (.slice a1 len1 cap1))
    (exact ⟨V0.c0, V0.c1, V1.c0, V1.c1⟩)
    (first
    | (go_at_call 21; (fail_if_success (have hh := b3)); refine (wnorm_num h_a (by decide)).mono ?_; rintro e w3 ⟨v_p, rfl, x_p, b3⟩; replace hb := bnext hb b3; replace V0 := V0.next b3; replace V1 := V1.next b3; replace h_a := h_a.below b3; replace h_b := h_b.below b3)
    | (go_at_call 22; (fail_if_success (have hh := b4)); refine (rwnorm_num h_a (by decide)).mono ?_; rintro e w4 ⟨v_q, rfl, x_q, b4⟩; replace hb := bnext hb b4; replace V0 := V0.next b4; replace V1 := V1.next b4; replace x_p := x_p.next b4; replace h_a := h_a.below b4; replace h_b := h_b.below b4)
    | (go_at_call 20; (fail_if_success (have hh := b5)); refine (wsame_new x_p x_q (K := 24) HL.out.1 (by decide)).mono ?_; rintro e w5 ⟨rfl, b5⟩; replace hb := bnext hb b5; replace V0 := V0.next b5; replace V1 := V1.next b5; replace x_p := x_p.next b5; replace x_q := x_q.next b5; replace h_a := h_a.below b5; replace h_b := h_b.below b5; clear x_p x_q)
    | (go_at_call 23; (fail_if_success (have hh := b6)); refine (HG1.out _ hb).mono ?_; rintro e w6 ⟨rfl, b6⟩; replace hb := bnext hb b6; replace V0 := V0.next b6; replace V1 := V1.next b6; replace h_a := h_a.below b6; replace h_b := h_b.below b6)
    | (go_at_call 24; (fail_if_success (have hh := b7)); refine (HG2.out _ hb).mono ?_; rintro e w7 ⟨rfl, b7⟩; replace hb := bnext hb b7; replace V0 := V0.next b7; replace V1 := V1.next b7; replace h_a := h_a.below b7; replace h_b := h_b.below b7)
    | (go_at_call 25; (fail_if_success (have hh := b8)); refine (wadd_num h_a h_b (by decide) (by decide)).mono ?_; rintro e w8 ⟨v_p, rfl, x_p, b8⟩; replace hb := bnext hb b8; replace V0 := V0.next b8; replace V1 := V1.next b8; replace h_a := h_a.below b8; replace h_b := h_b.below b8)
    | (go_at_call 26; (fail_if_success (have hh := b9)); refine (rwadd_num h_a h_b (by decide) (by decide)).mono ?_; rintro e w9 ⟨v_q, rfl, x_q, b9⟩; replace hb := bnext hb b9; replace V0 := V0.next b9; replace V1 := V1.next b9; replace x_p := x_p.next b9; replace h_a := h_a.below b9; replace h_b := h_b.below b9)
    | (go_at_call 20; (fail_if_success (have hh := b10)); refine (wsame_new x_p x_q (K := 25) HL.out.2.1 (by decide)).mono ?_; rintro e w10 ⟨rfl, b10⟩; replace hb := bnext hb b10; replace V0 := V0.next b10; replace V1 := V1.next b10; replace x_p := x_p.next b10; replace x_q := x_q.next b10; replace h_a := h_a.below b10; replace h_b := h_b.below b10; clear x_p x_q)
    | (go_at_call 27; (fail_if_success (have hh := b11)); refine (wsub_num h_a h_b (by decide) (by decide)).mono ?_; rintro e w11 ⟨v_p, rfl, x_p, b11⟩; replace hb := bnext hb b11; replace V0 := V0.next b11; replace V1 := V1.next b11; replace h_a := h_a.below b11; replace h_b := h_b.below b11)
    | (go_at_call 28; (fail_if_success (have hh := b12)); refine (rwsub_num h_a h_b (by decide) (by decide)).mono ?_; rintro e w12 ⟨v_q, rfl, x_q, b12⟩; replace hb := bnext hb b12; replace V0 := V0.next b12; replace V1 := V1.next b12; replace x_p := x_p.next b12; replace h_a := h_a.below b12; replace h_b := h_b.below b12)
    | (go_at_call 20; (fail_if_success (have hh := b13)); refine (wsame_new x_p x_q (K := 25) HL.out.2.2.1 (by decide)).mono ?_; rintro e w13 ⟨rfl, b13⟩; replace hb := bnext hb b13; replace V0 := V0.next b13; replace V1 := V1.next b13; replace x_p := x_p.next b13; replace x_q := x_q.next b13; replace h_a := h_a.below b13; replace h_b := h_b.below b13; clear x_p x_q)
    | (go_at_call 29; (fail_if_success (have hh := b14)); refine (wmul_num h_a h_b (by decide) (by decide)).mono ?_; rintro e w14 ⟨v_p, rfl, x_p, b14⟩; replace hb := bnext hb b14; replace V0 := V0.next b14; replace V1 := V1.next b14; replace h_a := h_a.below b14; replace h_b := h_b.below b14)
    | (go_at_call 30; (fail_if_success (have hh := b15)); refine (rwmul_num h_a h_b (by decide) (by decide)).mono ?_; rintro e w15 ⟨v_q, rfl, x_q, b15⟩; replace hb := bnext hb b15; replace V0 := V0.next b15; replace V1 := V1.next b15; replace x_p := x_p.next b15; replace h_a := h_a.below b15; replace h_b := h_b.below b15)
    | (go_at_call 20; (fail_if_success (have hh := b16)); refine (wsame_new x_p x_q (K := (24 + 24)) HL.out.2.2.2.1 (by decide)).mono ?_; rintro e w16 ⟨rfl, b16⟩; replace hb := bnext hb b16; replace V0 := V0.next b16; replace V1 := V1.next b16; replace x_p := x_p.next b16; replace x_q := x_q.next b16; replace h_a := h_a.below b16; replace h_b := h_b.below b16; clear x_p x_q)
    | (go_at_call 31; (fail_if_success (have hh := b17)); refine (wneg_num h_a (by decide)).mono ?_; rintro e w17 ⟨v_p, rfl, x_p, b17⟩; replace hb := bnext hb b17; replace V0 := V0.next b17; replace V1 := V1.next b17; replace h_a := h_a.below b17; replace h_b := h_b.below b17)
    | (go_at_call 32; (fail_if_success (have hh := b18)); refine (rwneg_num h_a (by decide)).mono ?_; rintro e w18 ⟨v_q, rfl, x_q, b18⟩; replace hb := bnext hb b18; replace V0 := V0.next b18; replace V1 := V1.next b18; replace x_p := x_p.next b18; replace h_a := h_a.below b18; replace h_b := h_b.below b18)
    | (go_at_call 20; (fail_if_success (have hh := b19)); refine (wsame_new x_p x_q (K := 24) HL.out.2.2.2.2.1 (by decide)).mono ?_; rintro e w19 ⟨rfl, b19⟩; replace hb := bnext hb b19; replace V0 := V0.next b19; replace V1 := V1.next b19; replace x_p := x_p.next b19; replace x_q := x_q.next b19; replace h_a := h_a.below b19; replace h_b := h_b.below b19; clear x_p x_q)
    | (go_at_call 33; (fail_if_success (have hh := b20)); refine (HC1.out _ _ _ h_a h_b).mono ?_; rintro e w20 ⟨rfl, b20⟩; replace hb := bnext hb b20; replace V0 := V0.next b20; replace V1 := V1.next b20; replace h_a := h_a.below b20; replace h_b := h_b.below b20)
    | (go_at_call 34; (fail_if_success (have hh := b21)); refine (HC2.out _ _ _ h_a h_b).mono ?_; rintro e w21 ⟨rfl, b21⟩; replace hb := bnext hb b21; replace V0 := V0.next b21; replace V1 := V1.next b21; replace h_a := h_a.below b21; replace h_b := h_b.below b21)
    | (go_at_call 35; (fail_if_success (have hh := b22)); refine (wof_num n _ n0 n1).mono ?_; rintro e w22 ⟨v_p, rfl, x_p, b22⟩; replace hb := bnext hb b22; replace V0 := V0.next b22; replace V1 := V1.next b22; replace h_a := h_a.below b22; replace h_b := h_b.below b22)
    | (go_at_call 36; (fail_if_success (have hh := b23)); refine (rwof_num n _ n0 n1).mono ?_; rintro e w23 ⟨v_q, rfl, x_q, b23⟩; replace hb := bnext hb b23; replace V0 := V0.next b23; replace V1 := V1.next b23; replace x_p := x_p.next b23; replace h_a := h_a.below b23; replace h_b := h_b.below b23)
    | (go_at_call 20; (fail_if_success (have hh := b24)); refine (wsame_new x_p x_q (K := 2) HL.out.2.2.2.2.2 (by decide)).mono ?_; rintro e w24 ⟨rfl, b24⟩; replace hb := bnext hb b24; replace V0 := V0.next b24; replace V1 := V1.next b24; replace x_p := x_p.next b24; replace x_q := x_q.next b24; replace h_a := h_a.below b24; replace h_b := h_b.below b24; clear x_p x_q)
    | (go_at_call 17; (fail_if_success (have hh := b25)); refine (wlives_yes _).mono ?_; rintro e w25 ⟨rfl, b25⟩; replace hb := bnext hb b25; replace V0 := V0.next b25; replace V1 := V1.next b25; replace h_a := h_a.below b25; replace h_b := h_b.below b25))
  go_wp2_with fail
  go_ret
  exact ⟨rfl, hb⟩

set_option maxRecDepth 20000 in
set_option maxHeartbeats 1600000 in
theorem wholeSums_big (s0 : Bool) (a0 : Option Addr) (len0 cap0 : Nat) (s1 : Bool) (a1 : Option Addr) (len1 cap1 : Nat) (n : Int) (w : World) (m0 : len0 ≤ maxLen) (m1 : len1 ≤ maxLen) (h : 24 < len0 ∨ 24 < len1)  :
    Calls Tryd.prog 4 #[.agg #[.bool s0, .slice a0 len0 cap0], .agg #[.bool s1, .slice a1 len1 cap1], .int .i64 n] w fun e w' => e = .returned (.bool true) ∧ Below w.heap.size w w' := by
  obtain ⟨V0, V1, hb0⟩ := ents2 w (.bool s0) (.slice a0 len0 cap0) (.bool s1) (.slice a1 len1 cap1)
  have hsz : ((w.alloc (.cells #[.bool s0, .slice a0 len0 cap0] 36)).alloc (.cells #[.bool s1, .slice a1 len1 cap1] 36)).heap.size = w.heap.size + 1 + 1 := by simp
  have hall : ∀ i, i < 2 → ∃ s A n c, (((w.alloc (.cells #[.bool s0, .slice a0 len0 cap0] 36)).alloc (.cells #[.bool s1, .slice a1 len1 cap1] 36)).alloc (.cells #[.bool s0, .slice a0 len0 cap0, .bool s1, .slice a1 len1 cap1] 36)).cell? ⟨w.heap.size + 1 + 1, i * 2, none⟩ = some (.bool s) ∧ (((w.alloc (.cells #[.bool s0, .slice a0 len0 cap0] 36)).alloc (.cells #[.bool s1, .slice a1 len1 cap1] 36)).alloc (.cells #[.bool s0, .slice a0 len0 cap0, .bool s1, .slice a1 len1 cap1] 36)).cell? ⟨w.heap.size + 1 + 1, i * 2 + 1, none⟩ = some (.slice A n c) ∧ n ≤ maxLen := by
    intro i hi
    rw [← hsz]
    rcases (show i = 0 ∨ i = 1 by omega) with rfl | rfl
    · exact ⟨s0, a0, len0, cap0, (cell_new _ _ _ _).trans rfl, (cell_new _ _ _ _).trans rfl, m0⟩
    · exact ⟨s1, a1, len1, cap1, (cell_new _ _ _ _).trans rfl, (cell_new _ _ _ _).trans rfl, m1⟩
  have hglt : w.heap.size + 1 + 1 < (((w.alloc (.cells #[.bool s0, .slice a0 len0 cap0] 36)).alloc (.cells #[.bool s1, .slice a1 len1 cap1] 36)).alloc (.cells #[.bool s0, .slice a0 len0 cap0, .bool s1, .slice a1 len1 cap1] 36)).heap.size := by rw [← hsz]; simp
  have hb : Below w.heap.size w (((w.alloc (.cells #[.bool s0, .slice a0 len0 cap0] 36)).alloc (.cells #[.bool s1, .slice a1 len1 cap1] 36)).alloc (.cells #[.bool s0, .slice a0 len0 cap0, .bool s1, .slice a1 len1 cap1] 36)) := bnew hb0 _
  have V00 := V0.c0
  have V01 := V0.c1
  have V10 := V1.c0
  have V11 := V1.c1
  clear hb0
  obtain ⟨m, hm, hbig⟩ : ∃ m, m < 2 ∧ ∃ A n c, (((w.alloc (.cells #[.bool s0, .slice a0 len0 cap0] 36)).alloc (.cells #[.bool s1, .slice a1 len1 cap1] 36)).alloc (.cells #[.bool s0, .slice a0 len0 cap0, .bool s1, .slice a1 len1 cap1] 36)).cell? ⟨w.heap.size + 1 + 1, m * 2 + 1, none⟩ = some (.slice A n c) ∧ 24 < n := by
    rw [← hsz]
    rcases h with h | h
    · exact ⟨0, by omega, a0, len0, cap0, (cell_new _ _ _ _).trans rfl, h⟩
    · exact ⟨1, by omega, a1, len1, cap1, (cell_new _ _ _ _).trans rfl, h⟩
  have HA := Lib.hid (And.intro hglt (And.intro hall hbig))
  clear hall hbig hglt hsz h m0 m1 V0 V1
  go_enter Tryd.func4, Tryd.ntmps4
  go_wp2_with fail
  refine (wlsmall_no (w.heap.size + 1 + 1) 2 _ (by decide) HA.out.1 HA.out.2.1 m hm HA.out.2.2).mono ?_
  rintro e w0 ⟨rfl, b0⟩
  clear HA
  go_wp2_with fail
  refine (wlives_yes _).mono ?_
  rintro e w1 ⟨rfl, b1⟩
  go_wp2_with fail
  go_ret
  exact ⟨rfl, bnext (bnext hb b0) b1⟩

theorem wholeSums_walk (s0 : Bool) (a0 : Option Addr) (len0 cap0 : Nat) (ys0 : List Nat) (s1 : Bool) (a1 : Option Addr) (len1 cap1 : Nat) (ys1 : List Nat) (n : Int) (w : World) (h0 : Sl w a0 len0 cap0 ys0) (h1 : Sl w a1 len1 cap1 ys1) (hn : (Lit.int .i64 n).wf = true) :
    Calls Tryd.prog 4 #[.agg #[.bool s0, .slice a0 len0 cap0], .agg #[.bool s1, .slice a1 len1 cap1], .int .i64 n] w fun e w' => e = .returned (.bool true) ∧ Below w.heap.size w w' := by
  have hb : -9223372036854775808 ≤ n ∧ n ≤ 9223372036854775807 := by have hbd := bounds_i64 hn; omega
  by_cases h : 24 < len0 ∨ 24 < len1
  · exact wholeSums_big _ _ _ _ _ _ _ _ _ w (Nat.le_trans h0.le h0.max) (Nat.le_trans h1.le h1.max) h
  · exact wholeSums_small _ _ _ _ _ _ _ _ _ _ _ _ w (Wh.of_sl s0 h0 (by omega)) (Wh.of_sl s1 h1 (by omega)) (by omega) (by omega) h0 hb.1 hb.2
end Go.Proofs.YtjildimhflondaaDoor
