/-
  The law WholeTexts: its walk.
-/
import Derived.Test.YtabdnlhehickoaaDoorWp
import Derived.OpenShut
namespace Go.Proofs.YtabdnlhehickoaaDoor
open Go.RowKit

set_option maxRecDepth 20000 in
set_option maxHeartbeats 32000000 in
theorem wholeTexts_small (s0 : Bool) (a0 : Option Addr) (len0 cap0 : Nat) (A : Int) (n : Int) (w : World) (h_a : Wh w (.agg #[.bool s0, .slice a0 len0 cap0]) A 20) (k0 : len0 ≤ 20) (n0 : -9223372036854775808 ≤ n) (n1 : n ≤ 9223372036854775807) :
    Calls Tryd.prog 9 #[.agg #[.bool s0, .slice a0 len0 cap0], .int .i64 n] w fun e w' => e = .returned (.bool true) ∧ Below w.heap.size w w' := by
  have l_a := h_a.lt
  obtain ⟨V0, hb0⟩ := ents1 w (.bool s0) (.slice a0 len0 cap0)
  have hsz : (w.alloc (.cells #[.bool s0, .slice a0 len0 cap0] 36)).heap.size = w.heap.size + 1 := by simp
  have hall : ∀ i, i < 1 → ∃ s A n c, ((w.alloc (.cells #[.bool s0, .slice a0 len0 cap0] 36)).alloc (.cells #[.bool s0, .slice a0 len0 cap0] 36)).cell? ⟨w.heap.size + 1, i * 2, none⟩ = some (.bool s) ∧ ((w.alloc (.cells #[.bool s0, .slice a0 len0 cap0] 36)).alloc (.cells #[.bool s0, .slice a0 len0 cap0] 36)).cell? ⟨w.heap.size + 1, i * 2 + 1, none⟩ = some (.slice A n c) ∧ n ≤ 24 := by
    intro i hi
    rw [← hsz]
    obtain rfl : i = 0 := by omega
    · exact ⟨s0, a0, len0, cap0, (cell_new _ _ _ _).trans rfl, (cell_new _ _ _ _).trans rfl, Nat.le_trans k0 (by decide)⟩
  have hglt : w.heap.size + 1 < ((w.alloc (.cells #[.bool s0, .slice a0 len0 cap0] 36)).alloc (.cells #[.bool s0, .slice a0 len0 cap0] 36)).heap.size := by rw [← hsz]; simp
  have HA := Lib.hid (And.intro hglt hall)
  clear hall hglt hsz
  have hb : Below w.heap.size w ((w.alloc (.cells #[.bool s0, .slice a0 len0 cap0] 36)).alloc (.cells #[.bool s0, .slice a0 len0 cap0] 36)) := bnew hb0 _
  replace V0 := V0.alloc (.cells #[.bool s0, .slice a0 len0 cap0] 36)
  have V00 := (ents1 w (.bool s0) (.slice a0 len0 cap0)).1.c0
  have V01 := (ents1 w (.bool s0) (.slice a0 len0 cap0)).1.c1
  clear hb0
  go_enter Tryd.func9, Tryd.ntmps9
  go_wp2_with fail
  refine (wlsmall_yes (w.heap.size + 1) 1 _ (by decide) HA.out.1 HA.out.2).mono ?_
  rintro e w0 ⟨rfl, b0⟩
  replace hb := bnext hb b0
  clear HA V00 V01
  replace V0 := V0.next b0
  replace h_a := h_a.below hb
  clear b0
  by_cases hn : n < 0
  · have V00 := V0.c0
    have V01 := V0.c1
    have ln : n.natAbs < 4294967296 ^ 2 := by omega
    have HLn := Lib.hid ln
    have HLa := Lib.hid l_a
    have HS1 := Lib.hid (fun (W : World) (u : Value) (hu : Wh W u n 2) => wsmall_num hu (by decide))
    rw [(ws_yes (a := n) ⟨n0, n1⟩).1, (ws_yes (a := n) ⟨n0, n1⟩).2] at HS1
    have HP1 := Lib.hid (fun (W : World) (s : ByteArray) (hs : s.data.toList = wtxt A) => wparse_txt (w := W) s A 20 HLa.out (by decide) hs)
    have HP2 := Lib.hid (fun (W : World) (s : ByteArray) (hs : s.data.toList = 43 :: wtxt n) => wparse_plus_txt (w := W) s n 2 HLn.out (by decide) hs)
    have HT := Lib.hid (fun (W : World) (u : Value) (hu : Wh W u n 2) => wtext_num hu (by decide))
    have HTL : Hid ((wtxt n).length ≤ 100) := Lib.hid (by have := txt_len 10 n.natAbs 2 (by decide) ln; unfold wtxt; split <;> simp <;> omega)
    clear ln l_a
    rw [decide_eq_false (show ¬ 0 ≤ n by omega), if_pos hn] at HP2
    go_wp2_with fail
    refine (wtext_num h_a (by decide)).mono ?_
    rintro e w1 ⟨t_a, rfl, e_a, b1⟩
    replace hb := bnext hb b1
    clear V00 V01
    replace V0 := V0.next b1
    replace h_a := h_a.below b1
    have V00 := V0.c0
    have V01 := V0.c1
    clear b1
    have E_a := Lib.hid e_a
    clear e_a
    go_wp2_with fail
    refine (HP1.out _ _ E_a.out).mono ?_
    rintro e w2 ⟨v_x, rfl, x_x, b2⟩
    replace hb := bnext hb b2
    clear V00 V01
    replace V0 := V0.next b2
    replace h_a := h_a.below b2
    have V00 := V0.c0
    have V01 := V0.c1
    clear b2
    obtain ⟨s_x, A_x, n_x, c_x, rfl, g_x⟩ := x_x.opened
    have bl : Below w2.heap.size w2 (w2.alloc (.cells #[.bool s_x, .slice A_x n_x c_x] 36)) := (bnew (Below.refl _ _) _)
    have V_x := Var.mk_ w2 (.bool s_x) (.slice A_x n_x c_x)
    replace hb := bnext hb bl
    clear V00 V01
    replace V0 := V0.next bl
    replace x_x := x_x.next bl
    replace h_a := h_a.below bl
    have V00 := V0.c0
    have V01 := V0.c1
    clear bl
    clear g_x
    clear V00 V01
    have V00 := V0.c0
    have V01 := V0.c1
    have V_x0 := V_x.c0
    have V_x1 := V_x.c1
    go_wp2_with fail
    refine (wof_num n _ n0 n1).mono ?_
    rintro e w3 ⟨v_o, rfl, x_o, b3⟩
    replace hb := bnext hb b3
    clear V00 V01 V_x0 V_x1
    replace V0 := V0.next b3
    replace V_x := V_x.next b3
    replace x_x := x_x.next b3
    replace h_a := h_a.below b3
    have V00 := V0.c0
    have V01 := V0.c1
    have V_x0 := V_x.c0
    have V_x1 := V_x.c1
    clear b3
    go_wp2_with fail
    refine (HS1.out _ _ (x_o.wh 2 HLn.out)).mono ?_
    rintro e w4 ⟨rfl, b4⟩
    replace hb := bnext hb b4
    clear V00 V01 V_x0 V_x1
    replace V0 := V0.next b4
    replace V_x := V_x.next b4
    replace x_x := x_x.next b4
    replace x_o := x_o.next b4
    replace h_a := h_a.below b4
    have V00 := V0.c0
    have V01 := V0.c1
    have V_x0 := V_x.c0
    have V_x1 := V_x.c1
    clear b4
    clear x_o
    go_wp2_with fail
    refine (wof_num n _ n0 n1).mono ?_
    rintro e w5 ⟨v_o, rfl, x_o, b5⟩
    replace hb := bnext hb b5
    clear V00 V01 V_x0 V_x1
    replace V0 := V0.next b5
    replace V_x := V_x.next b5
    replace x_x := x_x.next b5
    replace h_a := h_a.below b5
    have V00 := V0.c0
    have V01 := V0.c1
    have V_x0 := V_x.c0
    have V_x1 := V_x.c1
    clear b5
    go_wp2_with fail
    refine (HT.out _ _ (x_o.wh 2 HLn.out)).mono ?_
    rintro e w6 ⟨t_n, rfl, e_n, b6⟩
    replace hb := bnext hb b6
    clear V00 V01 V_x0 V_x1
    replace V0 := V0.next b6
    replace V_x := V_x.next b6
    replace x_x := x_x.next b6
    replace x_o := x_o.next b6
    replace h_a := h_a.below b6
    have V00 := V0.c0
    have V01 := V0.c1
    have V_x0 := V_x.c0
    have V_x1 := V_x.c1
    clear b6
    clear x_o
    have hts : t_n.size ≤ 100 := by
      have h1 : t_n.size = t_n.data.toList.length := (Array.length_toList (xs := t_n.data)).symm
      rw [h1, e_n]; exact HTL.out
    have E_n := Lib.hid e_n
    clear e_n
    go_wp2_with fail
    refine (HP2.out _ _ (by simp [E_n.out])).mono ?_
    rintro e w7 ⟨v_y, rfl, x_y, b7⟩
    replace hb := bnext hb b7
    clear V00 V01 V_x0 V_x1
    replace V0 := V0.next b7
    replace V_x := V_x.next b7
    replace x_x := x_x.next b7
    replace h_a := h_a.below b7
    have V00 := V0.c0
    have V01 := V0.c1
    have V_x0 := V_x.c0
    have V_x1 := V_x.c1
    clear b7
    obtain ⟨s_y, A_y, n_y, c_y, rfl, g_y⟩ := x_y.opened
    have bl : Below w7.heap.size w7 (w7.alloc (.cells #[.bool s_y, .slice A_y n_y c_y] 36)) := (bnew (Below.refl _ _) _)
    have V_y := Var.mk_ w7 (.bool s_y) (.slice A_y n_y c_y)
    replace hb := bnext hb bl
    clear V00 V01 V_x0 V_x1
    replace V0 := V0.next bl
    replace V_x := V_x.next bl
    replace x_x := x_x.next bl
    replace x_y := x_y.next bl
    replace h_a := h_a.below bl
    have V00 := V0.c0
    have V01 := V0.c1
    have V_x0 := V_x.c0
    have V_x1 := V_x.c1
    clear bl
    clear g_y
    clear V00 V01 V_x0 V_x1
    have V00 := V0.c0
    have V01 := V0.c1
    have V_x0 := V_x.c0
    have V_x1 := V_x.c1
    have V_y0 := V_y.c0
    have V_y1 := V_y.c1
    go_wp2_with fail
    clear HP1 HP2 HT HTL hts E_a E_n HS1
    have hd1 : decide (n < 0) = true := decide_eq_true (by omega)
    have hd2 : decide (0 ≤ n) = false := decide_eq_false (by omega)
    have hd3 : decide (n ≥ 0) = false := decide_eq_false (by omega)
    clear V00 V01 V_x0 V_x1 V_y0 V_y1
    replace V0 := V0.next (Below.refl _ _).drew
    replace V_x := V_x.next (Below.refl _ _).drew
    replace V_y := V_y.next (Below.refl _ _).drew
    replace x_x := x_x.next (Below.refl _ _).drew
    replace x_y := x_y.next (Below.refl _ _).drew
    replace h_a := h_a.below (Below.refl _ _).drew
    replace hb := hb.drew
    refine wp_region_noPanic ?_
    refine wp_region_held_drew (S := fun w' => w'.cell? ⟨w.heap.size, 0, none⟩ = some (.bool s0) ∧ w'.cell? ⟨w.heap.size, 1, none⟩ = some (.slice a0 len0 cap0) ∧ w'.cell? ⟨w2.heap.size, 0, none⟩ = some (.bool s_x) ∧ w'.cell? ⟨w2.heap.size, 1, none⟩ = some (.slice A_x n_x c_x) ∧ w'.cell? ⟨w7.heap.size, 0, none⟩ = some (.bool s_y) ∧ w'.cell? ⟨w7.heap.size, 1, none⟩ = some (.slice A_y n_y c_y)) (by kernel_rfl) ?_ (fun hHeld => ?_)
    · exact ⟨V0.c0, V0.c1, V_x.c0, V_x.c1, V_y.c0, V_y.c1⟩
    refine wpAnyH_take (i := 0) (oi := { dst := some 42, op := Op.move (Operand.tmp 6), type := 4, pos := "law.go:122", after := #[], guard := none }) (v := ?_) rfl (by kernel_rfl) (by kernel_rfl) (by kernel_rfl) (fun _ _ _ h => h) (Or.inl ⟨by rfl, ?_⟩) hHeld ?_
    rotate_left
    · intro w hSw
      try dsimp only at hSw
      go_simp
      try with_reducible rfl
    try simp only [Act.put, List.setIfInBounds_toArray, List.set_cons_zero, List.set_cons_succ]
    refine wpAnyH_take (i := 1) (oi := { dst := some 43, op := Op.move (Operand.tmp 42), type := 4, pos := "law.go:122", after := #[{ on := 0, ground := Ground.data }], guard := none }) (v := ?_) rfl (by kernel_rfl) (by kernel_rfl) (by kernel_rfl) (fun _ _ _ h => h) (Or.inl ⟨by rfl, ?_⟩) hHeld ?_
    rotate_left
    · intro w hSw
      try dsimp only at hSw
      go_simp
      try with_reducible rfl
    try simp only [Act.put, List.setIfInBounds_toArray, List.set_cons_zero, List.set_cons_succ]
    refine wpAnyH_take (i := 2) (oi := { dst := some 44, op := Op.load 36 (Operand.tmp 5), type := 36, pos := "law.go:122", after := #[{ on := 1, ground := Ground.guard }], guard := some (1, true) }) (v := ?_) rfl (by kernel_rfl) (by kernel_rfl) (by kernel_rfl) (fun _ _ _ h => h) (Or.inl ⟨by rfl, ?_⟩) hHeld ?_
    rotate_left
    · intro w hSw
      try dsimp only at hSw
      go_simp
      try with_reducible rfl
    try simp only [Act.put, List.setIfInBounds_toArray, List.set_cons_zero, List.set_cons_succ]
    refine wpAnyH_take (i := 3) (oi := { dst := some 45, op := Op.load 36 (Operand.tmp 2), type := 36, pos := "law.go:122", after := #[{ on := 1, ground := Ground.guard }], guard := some (1, true) }) (v := ?_) rfl (by kernel_rfl) (by kernel_rfl) (by kernel_rfl) (fun _ _ _ h => h) (Or.inl ⟨by rfl, ?_⟩) hHeld ?_
    rotate_left
    · intro w hSw
      try dsimp only at hSw
      go_simp
      try with_reducible rfl
    try simp only [Act.put, List.setIfInBounds_toArray, List.set_cons_zero, List.set_cons_succ]
    refine wpAnyH_ready (rs := [4]) (by kernel_rfl) (by simp) ?_
    refine AllReadyH.cons (o := { dst := some 46, op := Op.call { callee := Callee.value (Operand.func 26), args := #[Operand.tmp 45], argTypes := #[36] }, type := 36, pos := "law.go:122", after := #[{ on := 3, ground := Ground.data }, { on := 1, ground := Ground.chain }, { on := 1, ground := Ground.guard }], guard := some (1, true) }) rfl (fun K hK => ?_) AllReadyH.nil
    go_simp
    go_at_call 26
    refine (wnorm_num h_a (by decide)).mono ?_
    rintro e w8 ⟨v_m, rfl, x_m, b8⟩
    replace hb := bnext hb b8
    replace V0 := V0.next b8
    replace V_x := V_x.next b8
    replace V_y := V_y.next b8
    replace x_x := x_x.next b8
    replace x_y := x_y.next b8
    replace h_a := h_a.below b8
    clear hHeld
    refine hK.out _ _ ?_ (fun hHeld => ?_)
    · exact ⟨V0.c0, V0.c1, V_x.c0, V_x.c1, V_y.c0, V_y.c1⟩
    clear hK K
    try simp only [Act.put, List.setIfInBounds_toArray, List.set_cons_zero, List.set_cons_succ]
    refine wpAnyH_ready (rs := [5]) (by kernel_rfl) (by simp) ?_
    refine AllReadyH.cons (o := { dst := some 47, op := Op.call { callee := Callee.value (Operand.func 25), args := #[Operand.tmp 44, Operand.tmp 46], argTypes := #[36, 36] }, type := 4, pos := "law.go:122", after := #[{ on := 2, ground := Ground.data }, { on := 4, ground := Ground.data }, { on := 4, ground := Ground.chain }, { on := 1, ground := Ground.guard }], guard := some (1, true) }) rfl (fun K hK => ?_) AllReadyH.nil
    go_simp
    go_at_call 25
    refine (wsame_new x_x x_m (K := 20) HLa.out (by decide)).mono ?_
    rintro e w9 ⟨rfl, b9⟩
    replace hb := bnext hb b9
    replace V0 := V0.next b9
    replace V_x := V_x.next b9
    replace V_y := V_y.next b9
    replace x_x := x_x.next b9
    replace x_y := x_y.next b9
    replace x_m := x_m.next b9
    replace h_a := h_a.below b9
    clear x_m
    clear hHeld
    refine hK.out _ _ ?_ (fun hHeld => ?_)
    · exact ⟨V0.c0, V0.c1, V_x.c0, V_x.c1, V_y.c0, V_y.c1⟩
    clear hK K
    try simp only [Act.put, List.setIfInBounds_toArray, List.set_cons_zero, List.set_cons_succ]
    refine wpAnyH_take (i := 6) (oi := { dst := some 48, op := Op.pick (Operand.tmp 43) (Operand.tmp 47) (Operand.const (Value.bool false)), type := 4, pos := "law.go:122", after := #[{ on := 1, ground := Ground.data }, { on := 5, ground := Ground.data }], guard := none }) (v := ?_) rfl (by kernel_rfl) (by kernel_rfl) (by kernel_rfl) (fun _ _ _ h => h) (Or.inl ⟨by rfl, ?_⟩) hHeld ?_
    rotate_left
    · intro w hSw
      try dsimp only at hSw
      go_simp
      try with_reducible rfl
    try simp only [Act.put, List.setIfInBounds_toArray, List.set_cons_zero, List.set_cons_succ]
    refine wpAnyH_take (i := 7) (oi := { dst := some 49, op := Op.move (Operand.tmp 48), type := 4, pos := "law.go:122", after := #[{ on := 6, ground := Ground.data }, { on := 5, ground := Ground.chain }], guard := none }) (v := ?_) rfl (by kernel_rfl) (by kernel_rfl) (by kernel_rfl) (fun _ _ _ h => h) (Or.inl ⟨by rfl, ?_⟩) hHeld ?_
    rotate_left
    · intro w hSw
      try dsimp only at hSw
      go_simp
      try with_reducible rfl
    try simp only [Act.put, List.setIfInBounds_toArray, List.set_cons_zero, List.set_cons_succ]
    refine wpAnyH_take (i := 8) (oi := { dst := some 50, op := Op.move (Operand.tmp 8), type := 4, pos := "law.go:122", after := #[{ on := 7, ground := Ground.guard }], guard := some (7, true) }) (v := ?_) rfl (by kernel_rfl) (by kernel_rfl) (by kernel_rfl) (fun _ _ _ h => h) (Or.inl ⟨by rfl, ?_⟩) hHeld ?_
    rotate_left
    · intro w hSw
      try dsimp only at hSw
      go_simp
      try with_reducible rfl
    try simp only [Act.put, List.setIfInBounds_toArray, List.set_cons_zero, List.set_cons_succ]
    refine wpAnyH_take (i := 9) (oi := { dst := some 51, op := Op.pick (Operand.tmp 49) (Operand.tmp 50) (Operand.const (Value.bool false)), type := 4, pos := "law.go:122", after := #[{ on := 7, ground := Ground.data }, { on := 8, ground := Ground.data }], guard := none }) (v := ?_) rfl (by kernel_rfl) (by kernel_rfl) (by kernel_rfl) (fun _ _ _ h => h) (Or.inl ⟨by rfl, ?_⟩) hHeld ?_
    rotate_left
    · intro w hSw
      try dsimp only at hSw
      go_simp
      try with_reducible rfl
    try simp only [Act.put, List.setIfInBounds_toArray, List.set_cons_zero, List.set_cons_succ]
    refine wpAnyH_take (i := 10) (oi := { dst := some 52, op := Op.move (Operand.tmp 51), type := 4, pos := "law.go:122", after := #[{ on := 9, ground := Ground.data }, { on := 7, ground := Ground.chain }], guard := none }) (v := ?_) rfl (by kernel_rfl) (by kernel_rfl) (by kernel_rfl) (fun _ _ _ h => h) (Or.inl ⟨by rfl, ?_⟩) hHeld ?_
    rotate_left
    · intro w hSw
      try dsimp only at hSw
      go_simp
      try with_reducible rfl
    try simp only [Act.put, List.setIfInBounds_toArray, List.set_cons_zero, List.set_cons_succ]
    refine wpAnyH_take (i := 11) (oi := { dst := some 53, op := Op.move (Operand.tmp 7), type := 3, pos := "law.go:122", after := #[{ on := 10, ground := Ground.guard }], guard := some (10, true) }) (v := ?_) rfl (by kernel_rfl) (by kernel_rfl) (by kernel_rfl) (fun _ _ _ h => h) (Or.inl ⟨by rfl, ?_⟩) hHeld ?_
    rotate_left
    · intro w hSw
      try dsimp only at hSw
      go_simp
      try with_reducible rfl
    try simp only [Act.put, List.setIfInBounds_toArray, List.set_cons_zero, List.set_cons_succ]
    refine wpAnyH_take (i := 12) (oi := { dst := some 54, op := Op.move (Operand.tmp 1), type := 3, pos := "law.go:122", after := #[{ on := 10, ground := Ground.guard }], guard := some (10, true) }) (v := ?_) rfl (by kernel_rfl) (by kernel_rfl) (by kernel_rfl) (fun _ _ _ h => h) (Or.inl ⟨by rfl, ?_⟩) hHeld ?_
    rotate_left
    · intro w hSw
      try dsimp only at hSw
      go_simp
      try with_reducible rfl
    try simp only [Act.put, List.setIfInBounds_toArray, List.set_cons_zero, List.set_cons_succ]
    refine wpAnyH_take (i := 13) (oi := { dst := some 55, op := Op.binOp BinOp.eql 3 (Operand.tmp 53) (Operand.tmp 54) 3, type := 4, pos := "law.go:122", after := #[{ on := 11, ground := Ground.data }, { on := 12, ground := Ground.data }, { on := 10, ground := Ground.guard }], guard := some (10, true) }) (v := ?_) rfl (by kernel_rfl) (by kernel_rfl) (by kernel_rfl) (fun _ _ _ h => h) (Or.inl ⟨by rfl, ?_⟩) hHeld ?_
    rotate_left
    · intro w hSw
      try dsimp only at hSw
      go_simp
      try with_reducible rfl
    try simp only [Act.put, List.setIfInBounds_toArray, List.set_cons_zero, List.set_cons_succ]
    refine wpAnyH_take (i := 14) (oi := { dst := some 56, op := Op.pick (Operand.tmp 52) (Operand.tmp 55) (Operand.const (Value.bool false)), type := 4, pos := "law.go:122", after := #[{ on := 10, ground := Ground.data }, { on := 13, ground := Ground.data }], guard := none }) (v := ?_) rfl (by kernel_rfl) (by kernel_rfl) (by kernel_rfl) (fun _ _ _ h => h) (Or.inl ⟨by rfl, ?_⟩) hHeld ?_
    rotate_left
    · intro w hSw
      try dsimp only at hSw
      go_simp
      try with_reducible rfl
    try simp only [Act.put, List.setIfInBounds_toArray, List.set_cons_zero, List.set_cons_succ]
    refine wpAnyH_take (i := 15) (oi := { dst := some 57, op := Op.move (Operand.tmp 56), type := 4, pos := "law.go:122", after := #[{ on := 14, ground := Ground.data }, { on := 10, ground := Ground.chain }], guard := none }) (v := ?_) rfl (by kernel_rfl) (by kernel_rfl) (by kernel_rfl) (fun _ _ _ h => h) (Or.inl ⟨by rfl, ?_⟩) hHeld ?_
    rotate_left
    · intro w hSw
      try dsimp only at hSw
      go_simp
      try with_reducible rfl
    try simp only [Act.put, List.setIfInBounds_toArray, List.set_cons_zero, List.set_cons_succ]
    refine wpAnyH_take (i := 16) (oi := { dst := some 58, op := Op.move (Operand.tmp 10), type := 4, pos := "law.go:122", after := #[{ on := 15, ground := Ground.guard }], guard := some (15, true) }) (v := ?_) rfl (by kernel_rfl) (by kernel_rfl) (by kernel_rfl) (fun _ _ _ h => h) (Or.inl ⟨by rfl, ?_⟩) hHeld ?_
    rotate_left
    · intro w hSw
      try dsimp only at hSw
      go_simp
      try with_reducible rfl
    try simp only [Act.put, List.setIfInBounds_toArray, List.set_cons_zero, List.set_cons_succ]
    refine wpAnyH_take (i := 17) (oi := { dst := some 59, op := Op.move (Operand.tmp 1), type := 3, pos := "law.go:122", after := #[{ on := 15, ground := Ground.guard }], guard := some (15, true) }) (v := ?_) rfl (by kernel_rfl) (by kernel_rfl) (by kernel_rfl) (fun _ _ _ h => h) (Or.inl ⟨by rfl, ?_⟩) hHeld ?_
    rotate_left
    · intro w hSw
      try dsimp only at hSw
      go_simp
      try with_reducible rfl
    try simp only [Act.put, List.setIfInBounds_toArray, List.set_cons_zero, List.set_cons_succ]
    refine wpAnyH_take (i := 18) (oi := { dst := some 60, op := Op.binOp BinOp.geq 3 (Operand.tmp 59) (Operand.const (Value.int IntKind.i64 0)) 3, type := 4, pos := "law.go:122", after := #[{ on := 17, ground := Ground.data }, { on := 15, ground := Ground.guard }], guard := some (15, true) }) (v := ?_) rfl (by kernel_rfl) (by kernel_rfl) (by kernel_rfl) (fun _ _ _ h => h) (Or.inl ⟨by rfl, ?_⟩) hHeld ?_
    rotate_left
    · intro w hSw
      try dsimp only at hSw
      go_simp
      try with_reducible rfl
    try simp only [Act.put, List.setIfInBounds_toArray, List.set_cons_zero, List.set_cons_succ]
    refine wpAnyH_take (i := 19) (oi := { dst := some 61, op := Op.binOp BinOp.eql 4 (Operand.tmp 58) (Operand.tmp 60) 4, type := 4, pos := "law.go:122", after := #[{ on := 16, ground := Ground.data }, { on := 18, ground := Ground.data }, { on := 15, ground := Ground.guard }], guard := some (15, true) }) (v := ?_) rfl (by kernel_rfl) (by kernel_rfl) (by kernel_rfl) (fun _ _ _ h => h) (Or.inl ⟨by rfl, ?_⟩) hHeld ?_
    rotate_left
    · intro w hSw
      try dsimp only at hSw
      go_simp
      try with_reducible rfl
    try simp only [Act.put, List.setIfInBounds_toArray, List.set_cons_zero, List.set_cons_succ]
    refine wpAnyH_take (i := 20) (oi := { dst := some 62, op := Op.pick (Operand.tmp 57) (Operand.tmp 61) (Operand.const (Value.bool false)), type := 4, pos := "law.go:122", after := #[{ on := 15, ground := Ground.data }, { on := 19, ground := Ground.data }], guard := none }) (v := ?_) rfl (by kernel_rfl) (by kernel_rfl) (by kernel_rfl) (fun _ _ _ h => h) (Or.inl ⟨by rfl, ?_⟩) hHeld ?_
    rotate_left
    · intro w hSw
      try dsimp only at hSw
      go_simp
      try with_reducible rfl
    try simp only [Act.put, List.setIfInBounds_toArray, List.set_cons_zero, List.set_cons_succ]
    refine wpAnyH_take (i := 21) (oi := { dst := some 63, op := Op.move (Operand.tmp 62), type := 4, pos := "law.go:122", after := #[{ on := 20, ground := Ground.data }, { on := 15, ground := Ground.chain }], guard := none }) (v := ?_) rfl (by kernel_rfl) (by kernel_rfl) (by kernel_rfl) (fun _ _ _ h => h) (Or.inl ⟨by rfl, ?_⟩) hHeld ?_
    rotate_left
    · intro w hSw
      try dsimp only at hSw
      go_simp
      try with_reducible rfl
    try simp only [Act.put, List.setIfInBounds_toArray, List.set_cons_zero, List.set_cons_succ]
    refine wpAnyH_take (i := 22) (oi := { dst := some 64, op := Op.move (Operand.tmp 1), type := 3, pos := "law.go:122", after := #[{ on := 21, ground := Ground.guard }], guard := some (21, true) }) (v := ?_) rfl (by kernel_rfl) (by kernel_rfl) (by kernel_rfl) (fun _ _ _ h => h) (Or.inl ⟨by rfl, ?_⟩) hHeld ?_
    rotate_left
    · intro w hSw
      try dsimp only at hSw
      go_simp
      try with_reducible rfl
    try simp only [Act.put, List.setIfInBounds_toArray, List.set_cons_zero, List.set_cons_succ]
    refine wpAnyH_take (i := 23) (oi := { dst := some 65, op := Op.binOp BinOp.lss 3 (Operand.tmp 64) (Operand.const (Value.int IntKind.i64 0)) 3, type := 4, pos := "law.go:122", after := #[{ on := 22, ground := Ground.data }, { on := 21, ground := Ground.guard }], guard := some (21, true) }) (v := ?_) rfl (by kernel_rfl) (by kernel_rfl) (by kernel_rfl) (fun _ _ _ h => h) (Or.inl ⟨by rfl, ?_⟩) hHeld ?_
    rotate_left
    · intro w hSw
      try dsimp only at hSw
      go_simp
      try with_reducible rfl
    try simp only [Act.put, List.setIfInBounds_toArray, List.set_cons_zero, List.set_cons_succ]
    refine wpAnyH_take (i := 24) (oi := { dst := some 66, op := Op.move (Operand.tmp 65), type := 4, pos := "law.go:122", after := #[{ on := 23, ground := Ground.data }, { on := 21, ground := Ground.chain }, { on := 21, ground := Ground.guard }], guard := some (21, true) }) (v := ?_) rfl (by kernel_rfl) (by kernel_rfl) (by kernel_rfl) (fun _ _ _ h => h) (Or.inl ⟨by rfl, ?_⟩) hHeld ?_
    rotate_left
    · intro w hSw
      try dsimp only at hSw
      go_simp
      try with_reducible rfl
    try simp only [Act.put, List.setIfInBounds_toArray, List.set_cons_zero, List.set_cons_succ]
    refine wpAnyH_take (i := 25) (oi := { dst := some 67, op := Op.load 36 (Operand.tmp 9), type := 36, pos := "law.go:122", after := #[{ on := 24, ground := Ground.guard }], guard := some (24, false) }) (v := undef) rfl (by kernel_rfl) (by kernel_rfl) (by kernel_rfl) (fun _ _ _ h => h) (Or.inr ⟨by rfl, rfl⟩) hHeld ?_
    try simp only [Act.put, List.setIfInBounds_toArray, List.set_cons_zero, List.set_cons_succ]
    refine wpAnyH_take (i := 26) (oi := { dst := some 68, op := Op.move (Operand.tmp 1), type := 3, pos := "law.go:122", after := #[{ on := 24, ground := Ground.guard }], guard := some (24, false) }) (v := undef) rfl (by kernel_rfl) (by kernel_rfl) (by kernel_rfl) (fun _ _ _ h => h) (Or.inr ⟨by rfl, rfl⟩) hHeld ?_
    try simp only [Act.put, List.setIfInBounds_toArray, List.set_cons_zero, List.set_cons_succ]
    refine wpAnyH_ready (rs := [27]) (by kernel_rfl) (by simp) ?_
    refine AllReadyH.cons (o := { dst := some 69, op := Op.call { callee := Callee.value (Operand.func 40), args := #[Operand.tmp 68], argTypes := #[3] }, type := 36, pos := "law.go:122", after := #[{ on := 26, ground := Ground.data }, { on := 24, ground := Ground.chain }, { on := 24, ground := Ground.guard }], guard := some (24, false) }) rfl (fun K hK => ?_) AllReadyH.nil
    go_simp
    clear hHeld
    refine hK.out _ _ ?_ (fun hHeld => ?_)
    · exact ⟨V0.c0, V0.c1, V_x.c0, V_x.c1, V_y.c0, V_y.c1⟩
    clear hK K
    try simp only [Act.put, List.setIfInBounds_toArray, List.set_cons_zero, List.set_cons_succ]
    refine wpAnyH_ready (rs := [28]) (by kernel_rfl) (by simp) ?_
    refine AllReadyH.cons (o := { dst := some 70, op := Op.call { callee := Callee.value (Operand.func 25), args := #[Operand.tmp 67, Operand.tmp 69], argTypes := #[36, 36] }, type := 4, pos := "law.go:122", after := #[{ on := 25, ground := Ground.data }, { on := 27, ground := Ground.data }, { on := 27, ground := Ground.chain }, { on := 24, ground := Ground.guard }], guard := some (24, false) }) rfl (fun K hK => ?_) AllReadyH.nil
    go_simp
    clear hHeld
    refine hK.out _ _ ?_ (fun hHeld => ?_)
    · exact ⟨V0.c0, V0.c1, V_x.c0, V_x.c1, V_y.c0, V_y.c1⟩
    clear hK K
    try simp only [Act.put, List.setIfInBounds_toArray, List.set_cons_zero, List.set_cons_succ]
    refine wpAnyH_take (i := 29) (oi := { dst := some 71, op := Op.pick (Operand.tmp 66) (Operand.const (Value.bool true)) (Operand.tmp 70), type := 4, pos := "law.go:122", after := #[{ on := 24, ground := Ground.data }, { on := 28, ground := Ground.data }, { on := 21, ground := Ground.guard }], guard := some (21, true) }) (v := ?_) rfl (by kernel_rfl) (by kernel_rfl) (by kernel_rfl) (fun _ _ _ h => h) (Or.inl ⟨by rfl, ?_⟩) hHeld ?_
    rotate_left
    · intro w hSw
      try dsimp only at hSw
      go_simp
      try with_reducible rfl
    try simp only [Act.put, List.setIfInBounds_toArray, List.set_cons_zero, List.set_cons_succ]
    refine wpAnyH_take (i := 30) (oi := { dst := some 72, op := Op.pick (Operand.tmp 63) (Operand.tmp 71) (Operand.const (Value.bool false)), type := 4, pos := "law.go:122", after := #[{ on := 21, ground := Ground.data }, { on := 29, ground := Ground.data }], guard := none }) (v := ?_) rfl (by kernel_rfl) (by kernel_rfl) (by kernel_rfl) (fun _ _ _ h => h) (Or.inl ⟨by rfl, ?_⟩) hHeld ?_
    rotate_left
    · intro w hSw
      try dsimp only at hSw
      go_simp
      try with_reducible rfl
    try simp only [Act.put, List.setIfInBounds_toArray, List.set_cons_zero, List.set_cons_succ]
    refine wpAnyH_take (i := 31) (oi := { dst := some 73, op := Op.move (Operand.tmp 72), type := 4, pos := "law.go:122", after := #[{ on := 30, ground := Ground.data }, { on := 28, ground := Ground.chain }], guard := none }) (v := ?_) rfl (by kernel_rfl) (by kernel_rfl) (by kernel_rfl) (fun _ _ _ h => h) (Or.inl ⟨by rfl, ?_⟩) hHeld ?_
    rotate_left
    · intro w hSw
      try dsimp only at hSw
      go_simp
      try with_reducible rfl
    try simp only [Act.put, List.setIfInBounds_toArray, List.set_cons_zero, List.set_cons_succ]
    refine wpAnyH_take (i := 32) (oi := { dst := some 74, op := Op.move (Operand.tmp 1), type := 3, pos := "law.go:122", after := #[{ on := 31, ground := Ground.guard }], guard := some (31, true) }) (v := ?_) rfl (by kernel_rfl) (by kernel_rfl) (by kernel_rfl) (fun _ _ _ h => h) (Or.inl ⟨by rfl, ?_⟩) hHeld ?_
    rotate_left
    · intro w hSw
      try dsimp only at hSw
      go_simp
      try with_reducible rfl
    try simp only [Act.put, List.setIfInBounds_toArray, List.set_cons_zero, List.set_cons_succ]
    refine wpAnyH_ready (rs := [33]) (by kernel_rfl) (by simp) ?_
    refine AllReadyH.cons (o := { dst := some 75, op := Op.call { callee := Callee.value (Operand.func 40), args := #[Operand.tmp 74], argTypes := #[3] }, type := 36, pos := "law.go:122", after := #[{ on := 32, ground := Ground.data }, { on := 31, ground := Ground.chain }, { on := 31, ground := Ground.guard }], guard := some (31, true) }) rfl (fun K hK => ?_) AllReadyH.nil
    go_simp
    go_at_call 40
    refine (wof_num n _ n0 n1).mono ?_
    rintro e w10 ⟨v_o2, rfl, x_o2, b10⟩
    replace hb := bnext hb b10
    replace V0 := V0.next b10
    replace V_x := V_x.next b10
    replace V_y := V_y.next b10
    replace x_x := x_x.next b10
    replace x_y := x_y.next b10
    replace h_a := h_a.below b10
    clear hHeld
    refine hK.out _ _ ?_ (fun hHeld => ?_)
    · exact ⟨V0.c0, V0.c1, V_x.c0, V_x.c1, V_y.c0, V_y.c1⟩
    clear hK K
    try simp only [Act.put, List.setIfInBounds_toArray, List.set_cons_zero, List.set_cons_succ]
    refine wpAnyH_ready (rs := [34]) (by kernel_rfl) (by simp) ?_
    refine AllReadyH.cons (o := { dst := some 76, op := Op.call { callee := Callee.value (Operand.func 28), args := #[Operand.tmp 75], argTypes := #[36] }, type := 4, pos := "law.go:122", after := #[{ on := 33, ground := Ground.data }, { on := 33, ground := Ground.chain }, { on := 31, ground := Ground.guard }], guard := some (31, true) }) rfl (fun K hK => ?_) AllReadyH.nil
    go_simp
    go_at_call 28
    refine (wgood_new x_o2).mono ?_
    rintro e w11 ⟨rfl, b11⟩
    replace hb := bnext hb b11
    replace V0 := V0.next b11
    replace V_x := V_x.next b11
    replace V_y := V_y.next b11
    replace x_x := x_x.next b11
    replace x_y := x_y.next b11
    replace x_o2 := x_o2.next b11
    replace h_a := h_a.below b11
    clear x_o2
    clear hHeld
    refine hK.out _ _ ?_ (fun hHeld => ?_)
    · exact ⟨V0.c0, V0.c1, V_x.c0, V_x.c1, V_y.c0, V_y.c1⟩
    clear hK K
    try simp only [Act.put, List.setIfInBounds_toArray, List.set_cons_zero, List.set_cons_succ]
    refine wpAnyH_take (i := 35) (oi := { dst := some 77, op := Op.pick (Operand.tmp 73) (Operand.tmp 76) (Operand.const (Value.bool false)), type := 4, pos := "law.go:122", after := #[{ on := 31, ground := Ground.data }, { on := 34, ground := Ground.data }], guard := none }) (v := ?_) rfl (by kernel_rfl) (by kernel_rfl) (by kernel_rfl) (fun _ _ _ h => h) (Or.inl ⟨by rfl, ?_⟩) hHeld ?_
    rotate_left
    · intro w hSw
      try dsimp only at hSw
      go_simp
      try with_reducible rfl
    try simp only [Act.put, List.setIfInBounds_toArray, List.set_cons_zero, List.set_cons_succ]
    refine wpAnyH_take (i := 36) (oi := { dst := some 78, op := Op.move (Operand.tmp 77), type := 4, pos := "law.go:122", after := #[{ on := 35, ground := Ground.data }, { on := 34, ground := Ground.chain }], guard := none }) (v := ?_) rfl (by kernel_rfl) (by kernel_rfl) (by kernel_rfl) (fun _ _ _ h => h) (Or.inl ⟨by rfl, ?_⟩) hHeld ?_
    rotate_left
    · intro w hSw
      try dsimp only at hSw
      go_simp
      try with_reducible rfl
    try simp only [Act.put, List.setIfInBounds_toArray, List.set_cons_zero, List.set_cons_succ]
    refine wpAnyH_ready (rs := [37]) (by kernel_rfl) (by simp) ?_
    refine AllReadyH.cons (o := { dst := some 79, op := Op.call { callee := Callee.value (Operand.func 22), args := #[], argTypes := #[] }, type := 4, pos := "law.go:122", after := #[{ on := 36, ground := Ground.chain }, { on := 36, ground := Ground.guard }], guard := some (36, true) }) rfl (fun K hK => ?_) AllReadyH.nil
    go_simp
    go_at_call 22
    refine (wlives_yes _).mono ?_
    rintro e w12 ⟨rfl, b12⟩
    replace hb := bnext hb b12
    replace V0 := V0.next b12
    replace V_x := V_x.next b12
    replace V_y := V_y.next b12
    replace x_x := x_x.next b12
    replace x_y := x_y.next b12
    replace h_a := h_a.below b12
    clear hHeld
    refine hK.out _ _ ?_ (fun hHeld => ?_)
    · exact ⟨V0.c0, V0.c1, V_x.c0, V_x.c1, V_y.c0, V_y.c1⟩
    clear hK K
    try simp only [Act.put, List.setIfInBounds_toArray, List.set_cons_zero, List.set_cons_succ]
    refine wpAnyH_take (i := 38) (oi := { dst := some 80, op := Op.pick (Operand.tmp 78) (Operand.tmp 79) (Operand.const (Value.bool false)), type := 4, pos := "law.go:122", after := #[{ on := 36, ground := Ground.data }, { on := 37, ground := Ground.data }], guard := none }) (v := ?_) rfl (by kernel_rfl) (by kernel_rfl) (by kernel_rfl) (fun _ _ _ h => h) (Or.inl ⟨by rfl, ?_⟩) hHeld ?_
    rotate_left
    · intro w hSw
      try dsimp only at hSw
      go_simp
      try with_reducible rfl
    try simp only [Act.put, List.setIfInBounds_toArray, List.set_cons_zero, List.set_cons_succ]
    refine wpAnyH_ready (rs := [39]) (by kernel_rfl) (by simp) ?_
    refine AllReadyH.cons (o := _) rfl (fun K hK => ?_) AllReadyH.nil
    go_simp
    clear hHeld
    refine hK.out _ _ ?_ (fun hHeld => ?_)
    · exact ⟨V0.c0, V0.c1, V_x.c0, V_x.c1, V_y.c0, V_y.c1⟩
    clear hK K
    try simp only [Act.put, List.setIfInBounds_toArray, List.set_cons_zero, List.set_cons_succ]
    refine wpAnyH_done (by kernel_rfl) ?_ _
    refine NoPanic.normal ?_
    go_wp2_with fail
    go_ret
    exact ⟨rfl, hb⟩
  · have V00 := V0.c0
    have V01 := V0.c1
    have ln : n.natAbs < 4294967296 ^ 2 := by omega
    have HLn := Lib.hid ln
    have HLa := Lib.hid l_a
    have HS1 := Lib.hid (fun (W : World) (u : Value) (hu : Wh W u n 2) => wsmall_num hu (by decide))
    rw [(ws_yes (a := n) ⟨n0, n1⟩).1, (ws_yes (a := n) ⟨n0, n1⟩).2] at HS1
    have HP1 := Lib.hid (fun (W : World) (s : ByteArray) (hs : s.data.toList = wtxt A) => wparse_txt (w := W) s A 20 HLa.out (by decide) hs)
    have HP2 := Lib.hid (fun (W : World) (s : ByteArray) (hs : s.data.toList = 43 :: wtxt n) => wparse_plus_txt (w := W) s n 2 HLn.out (by decide) hs)
    have HT := Lib.hid (fun (W : World) (u : Value) (hu : Wh W u n 2) => wtext_num hu (by decide))
    have HTL : Hid ((wtxt n).length ≤ 100) := Lib.hid (by have := txt_len 10 n.natAbs 2 (by decide) ln; unfold wtxt; split <;> simp <;> omega)
    clear ln l_a
    rw [decide_eq_true (show 0 ≤ n by omega), if_neg (show ¬ n < 0 by omega)] at HP2
    go_wp2_with fail
    refine (wtext_num h_a (by decide)).mono ?_
    rintro e w1 ⟨t_a, rfl, e_a, b1⟩
    replace hb := bnext hb b1
    clear V00 V01
    replace V0 := V0.next b1
    replace h_a := h_a.below b1
    have V00 := V0.c0
    have V01 := V0.c1
    clear b1
    have E_a := Lib.hid e_a
    clear e_a
    go_wp2_with fail
    refine (HP1.out _ _ E_a.out).mono ?_
    rintro e w2 ⟨v_x, rfl, x_x, b2⟩
    replace hb := bnext hb b2
    clear V00 V01
    replace V0 := V0.next b2
    replace h_a := h_a.below b2
    have V00 := V0.c0
    have V01 := V0.c1
    clear b2
    obtain ⟨s_x, A_x, n_x, c_x, rfl, g_x⟩ := x_x.opened
    have bl : Below w2.heap.size w2 (w2.alloc (.cells #[.bool s_x, .slice A_x n_x c_x] 36)) := (bnew (Below.refl _ _) _)
    have V_x := Var.mk_ w2 (.bool s_x) (.slice A_x n_x c_x)
    replace hb := bnext hb bl
    clear V00 V01
    replace V0 := V0.next bl
    replace x_x := x_x.next bl
    replace h_a := h_a.below bl
    have V00 := V0.c0
    have V01 := V0.c1
    clear bl
    clear g_x
    clear V00 V01
    have V00 := V0.c0
    have V01 := V0.c1
    have V_x0 := V_x.c0
    have V_x1 := V_x.c1
    go_wp2_with fail
    refine (wof_num n _ n0 n1).mono ?_
    rintro e w3 ⟨v_o, rfl, x_o, b3⟩
    replace hb := bnext hb b3
    clear V00 V01 V_x0 V_x1
    replace V0 := V0.next b3
    replace V_x := V_x.next b3
    replace x_x := x_x.next b3
    replace h_a := h_a.below b3
    have V00 := V0.c0
    have V01 := V0.c1
    have V_x0 := V_x.c0
    have V_x1 := V_x.c1
    clear b3
    go_wp2_with fail
    refine (HS1.out _ _ (x_o.wh 2 HLn.out)).mono ?_
    rintro e w4 ⟨rfl, b4⟩
    replace hb := bnext hb b4
    clear V00 V01 V_x0 V_x1
    replace V0 := V0.next b4
    replace V_x := V_x.next b4
    replace x_x := x_x.next b4
    replace x_o := x_o.next b4
    replace h_a := h_a.below b4
    have V00 := V0.c0
    have V01 := V0.c1
    have V_x0 := V_x.c0
    have V_x1 := V_x.c1
    clear b4
    clear x_o
    go_wp2_with fail
    refine (wof_num n _ n0 n1).mono ?_
    rintro e w5 ⟨v_o, rfl, x_o, b5⟩
    replace hb := bnext hb b5
    clear V00 V01 V_x0 V_x1
    replace V0 := V0.next b5
    replace V_x := V_x.next b5
    replace x_x := x_x.next b5
    replace h_a := h_a.below b5
    have V00 := V0.c0
    have V01 := V0.c1
    have V_x0 := V_x.c0
    have V_x1 := V_x.c1
    clear b5
    go_wp2_with fail
    refine (HT.out _ _ (x_o.wh 2 HLn.out)).mono ?_
    rintro e w6 ⟨t_n, rfl, e_n, b6⟩
    replace hb := bnext hb b6
    clear V00 V01 V_x0 V_x1
    replace V0 := V0.next b6
    replace V_x := V_x.next b6
    replace x_x := x_x.next b6
    replace x_o := x_o.next b6
    replace h_a := h_a.below b6
    have V00 := V0.c0
    have V01 := V0.c1
    have V_x0 := V_x.c0
    have V_x1 := V_x.c1
    clear b6
    clear x_o
    have hts : t_n.size ≤ 100 := by
      have h1 : t_n.size = t_n.data.toList.length := (Array.length_toList (xs := t_n.data)).symm
      rw [h1, e_n]; exact HTL.out
    have E_n := Lib.hid e_n
    clear e_n
    go_wp2_with fail
    refine (HP2.out _ _ (by simp [E_n.out])).mono ?_
    rintro e w7 ⟨v_y, rfl, x_y, b7⟩
    replace hb := bnext hb b7
    clear V00 V01 V_x0 V_x1
    replace V0 := V0.next b7
    replace V_x := V_x.next b7
    replace x_x := x_x.next b7
    replace h_a := h_a.below b7
    have V00 := V0.c0
    have V01 := V0.c1
    have V_x0 := V_x.c0
    have V_x1 := V_x.c1
    clear b7
    obtain ⟨s_y, A_y, n_y, c_y, rfl, g_y⟩ := x_y.opened
    have bl : Below w7.heap.size w7 (w7.alloc (.cells #[.bool s_y, .slice A_y n_y c_y] 36)) := (bnew (Below.refl _ _) _)
    have V_y := Var.mk_ w7 (.bool s_y) (.slice A_y n_y c_y)
    replace hb := bnext hb bl
    clear V00 V01 V_x0 V_x1
    replace V0 := V0.next bl
    replace V_x := V_x.next bl
    replace x_x := x_x.next bl
    replace x_y := x_y.next bl
    replace h_a := h_a.below bl
    have V00 := V0.c0
    have V01 := V0.c1
    have V_x0 := V_x.c0
    have V_x1 := V_x.c1
    clear bl
    clear g_y
    clear V00 V01 V_x0 V_x1
    have V00 := V0.c0
    have V01 := V0.c1
    have V_x0 := V_x.c0
    have V_x1 := V_x.c1
    have V_y0 := V_y.c0
    have V_y1 := V_y.c1
    go_wp2_with fail
    clear HP1 HP2 HT HTL hts E_a E_n HS1
    have hd1 : decide (n < 0) = false := decide_eq_false (by omega)
    have hd2 : decide (0 ≤ n) = true := decide_eq_true (by omega)
    have hd3 : decide (n ≥ 0) = true := decide_eq_true (by omega)
    clear V00 V01 V_x0 V_x1 V_y0 V_y1
    replace V0 := V0.next (Below.refl _ _).drew
    replace V_x := V_x.next (Below.refl _ _).drew
    replace V_y := V_y.next (Below.refl _ _).drew
    replace x_x := x_x.next (Below.refl _ _).drew
    replace x_y := x_y.next (Below.refl _ _).drew
    replace h_a := h_a.below (Below.refl _ _).drew
    replace hb := hb.drew
    go_region_held3 (fun w' => w'.cell? ⟨w.heap.size, 0, none⟩ = some (.bool s0) ∧ w'.cell? ⟨w.heap.size, 1, none⟩ = some (.slice a0 len0 cap0) ∧ w'.cell? ⟨w2.heap.size, 0, none⟩ = some (.bool s_x) ∧ w'.cell? ⟨w2.heap.size, 1, none⟩ = some (.slice A_x n_x c_x) ∧ w'.cell? ⟨w7.heap.size, 0, none⟩ = some (.bool s_y) ∧ w'.cell? ⟨w7.heap.size, 1, none⟩ = some (.slice A_y n_y c_y))
      (exact ⟨V0.c0, V0.c1, V_x.c0, V_x.c1, V_y.c0, V_y.c1⟩)
      (first
      | (go_at_call 26; (fail_if_success (have hh := b8)); refine (wnorm_num h_a (by decide)).mono ?_; rintro e w8 ⟨v_m, rfl, x_m, b8⟩; replace hb := bnext hb b8; replace V0 := V0.next b8; replace V_x := V_x.next b8; replace V_y := V_y.next b8; replace x_x := x_x.next b8; replace x_y := x_y.next b8; replace h_a := h_a.below b8)
      | (go_at_call 25; (fail_if_success (have hh := b9)); refine (wsame_new x_x x_m (K := 20) HLa.out (by decide)).mono ?_; rintro e w9 ⟨rfl, b9⟩; replace hb := bnext hb b9; replace V0 := V0.next b9; replace V_x := V_x.next b9; replace V_y := V_y.next b9; replace x_x := x_x.next b9; replace x_y := x_y.next b9; replace x_m := x_m.next b9; replace h_a := h_a.below b9; clear x_m)
      | (go_at_call 40; (fail_if_success (have hh := b10)); refine (wof_num n _ n0 n1).mono ?_; rintro e w10 ⟨v_o1, rfl, x_o1, b10⟩; replace hb := bnext hb b10; replace V0 := V0.next b10; replace V_x := V_x.next b10; replace V_y := V_y.next b10; replace x_x := x_x.next b10; replace x_y := x_y.next b10; replace h_a := h_a.below b10)
      | (go_at_call 25; (fail_if_success (have hh := b11)); refine (wsame_new x_y x_o1 (K := 2) HLn.out (by decide)).mono ?_; rintro e w11 ⟨rfl, b11⟩; replace hb := bnext hb b11; replace V0 := V0.next b11; replace V_x := V_x.next b11; replace V_y := V_y.next b11; replace x_x := x_x.next b11; replace x_y := x_y.next b11; replace x_o1 := x_o1.next b11; replace h_a := h_a.below b11; clear x_o1)
      | (go_at_call 40; (fail_if_success (have hh := b12)); refine (wof_num n _ n0 n1).mono ?_; rintro e w12 ⟨v_o2, rfl, x_o2, b12⟩; replace hb := bnext hb b12; replace V0 := V0.next b12; replace V_x := V_x.next b12; replace V_y := V_y.next b12; replace x_x := x_x.next b12; replace x_y := x_y.next b12; replace h_a := h_a.below b12)
      | (go_at_call 28; (fail_if_success (have hh := b13)); refine (wgood_new x_o2).mono ?_; rintro e w13 ⟨rfl, b13⟩; replace hb := bnext hb b13; replace V0 := V0.next b13; replace V_x := V_x.next b13; replace V_y := V_y.next b13; replace x_x := x_x.next b13; replace x_y := x_y.next b13; replace x_o2 := x_o2.next b13; replace h_a := h_a.below b13; clear x_o2)
      | (go_at_call 22; (fail_if_success (have hh := b14)); refine (wlives_yes _).mono ?_; rintro e w14 ⟨rfl, b14⟩; replace hb := bnext hb b14; replace V0 := V0.next b14; replace V_x := V_x.next b14; replace V_y := V_y.next b14; replace x_x := x_x.next b14; replace x_y := x_y.next b14; replace h_a := h_a.below b14))
    go_wp2_with fail
    go_ret
    exact ⟨rfl, hb⟩

set_option maxRecDepth 20000 in
set_option maxHeartbeats 32000000 in
theorem wholeTexts_mid (s0 : Bool) (a0 : Option Addr) (len0 cap0 : Nat) (A : Int) (n : Int) (w : World) (h_a : Wh w (.agg #[.bool s0, .slice a0 len0 cap0]) A 24) (k0 : len0 ≤ 24) (g0 : 20 < len0) (_n0 : -9223372036854775808 ≤ n) (_n1 : n ≤ 9223372036854775807) :
    Calls Tryd.prog 9 #[.agg #[.bool s0, .slice a0 len0 cap0], .int .i64 n] w fun e w' => e = .returned (.bool true) ∧ Below w.heap.size w w' := by
  obtain ⟨V0, hb0⟩ := ents1 w (.bool s0) (.slice a0 len0 cap0)
  have hsz : (w.alloc (.cells #[.bool s0, .slice a0 len0 cap0] 36)).heap.size = w.heap.size + 1 := by simp
  have hall : ∀ i, i < 1 → ∃ s A n c, ((w.alloc (.cells #[.bool s0, .slice a0 len0 cap0] 36)).alloc (.cells #[.bool s0, .slice a0 len0 cap0] 36)).cell? ⟨w.heap.size + 1, i * 2, none⟩ = some (.bool s) ∧ ((w.alloc (.cells #[.bool s0, .slice a0 len0 cap0] 36)).alloc (.cells #[.bool s0, .slice a0 len0 cap0] 36)).cell? ⟨w.heap.size + 1, i * 2 + 1, none⟩ = some (.slice A n c) ∧ n ≤ 24 := by
    intro i hi
    rw [← hsz]
    obtain rfl : i = 0 := by omega
    · exact ⟨s0, a0, len0, cap0, (cell_new _ _ _ _).trans rfl, (cell_new _ _ _ _).trans rfl, k0⟩
  have hglt : w.heap.size + 1 < ((w.alloc (.cells #[.bool s0, .slice a0 len0 cap0] 36)).alloc (.cells #[.bool s0, .slice a0 len0 cap0] 36)).heap.size := by rw [← hsz]; simp
  have HA := Lib.hid (And.intro hglt hall)
  clear hall hglt hsz
  have hb : Below w.heap.size w ((w.alloc (.cells #[.bool s0, .slice a0 len0 cap0] 36)).alloc (.cells #[.bool s0, .slice a0 len0 cap0] 36)) := bnew hb0 _
  replace V0 := V0.alloc (.cells #[.bool s0, .slice a0 len0 cap0] 36)
  have V00 := (ents1 w (.bool s0) (.slice a0 len0 cap0)).1.c0
  have V01 := (ents1 w (.bool s0) (.slice a0 len0 cap0)).1.c1
  clear hb0
  go_enter Tryd.func9, Tryd.ntmps9
  go_wp2_with fail
  refine (wlsmall_yes (w.heap.size + 1) 1 _ (by decide) HA.out.1 HA.out.2).mono ?_
  rintro e w0 ⟨rfl, b0⟩
  replace hb := bnext hb b0
  clear HA V00 V01
  replace V0 := V0.next b0
  replace h_a := h_a.below hb
  clear b0
  have V00 := V0.c0
  have V01 := V0.c1
  go_wp2_with fail
  refine (wlives_yes _).mono ?_
  rintro e w1 ⟨rfl, b1⟩
  replace hb := bnext hb b1
  clear V00 V01
  replace V0 := V0.next b1
  replace h_a := h_a.below b1
  have V00 := V0.c0
  have V01 := V0.c1
  clear b1
  go_wp2_with fail
  go_ret
  exact ⟨rfl, hb⟩

set_option maxRecDepth 20000 in
set_option maxHeartbeats 1600000 in
theorem wholeTexts_big (s0 : Bool) (a0 : Option Addr) (len0 cap0 : Nat) (n : Int) (w : World) (m0 : len0 ≤ maxLen) (h : 24 < len0) (_n0 : -9223372036854775808 ≤ n) (_n1 : n ≤ 9223372036854775807) :
    Calls Tryd.prog 9 #[.agg #[.bool s0, .slice a0 len0 cap0], .int .i64 n] w fun e w' => e = .returned (.bool true) ∧ Below w.heap.size w w' := by
  obtain ⟨V0, hb0⟩ := ents1 w (.bool s0) (.slice a0 len0 cap0)
  have hsz : (w.alloc (.cells #[.bool s0, .slice a0 len0 cap0] 36)).heap.size = w.heap.size + 1 := by simp
  have hall : ∀ i, i < 1 → ∃ s A n c, ((w.alloc (.cells #[.bool s0, .slice a0 len0 cap0] 36)).alloc (.cells #[.bool s0, .slice a0 len0 cap0] 36)).cell? ⟨w.heap.size + 1, i * 2, none⟩ = some (.bool s) ∧ ((w.alloc (.cells #[.bool s0, .slice a0 len0 cap0] 36)).alloc (.cells #[.bool s0, .slice a0 len0 cap0] 36)).cell? ⟨w.heap.size + 1, i * 2 + 1, none⟩ = some (.slice A n c) ∧ n ≤ maxLen := by
    intro i hi
    rw [← hsz]
    obtain rfl : i = 0 := by omega
    · exact ⟨s0, a0, len0, cap0, (cell_new _ _ _ _).trans rfl, (cell_new _ _ _ _).trans rfl, m0⟩
  have hglt : w.heap.size + 1 < ((w.alloc (.cells #[.bool s0, .slice a0 len0 cap0] 36)).alloc (.cells #[.bool s0, .slice a0 len0 cap0] 36)).heap.size := by rw [← hsz]; simp
  have hb : Below w.heap.size w ((w.alloc (.cells #[.bool s0, .slice a0 len0 cap0] 36)).alloc (.cells #[.bool s0, .slice a0 len0 cap0] 36)) := bnew hb0 _
  have V00 := V0.c0
  have V01 := V0.c1
  clear hb0
  obtain ⟨m, hm, hbig⟩ : ∃ m, m < 1 ∧ ∃ A n c, ((w.alloc (.cells #[.bool s0, .slice a0 len0 cap0] 36)).alloc (.cells #[.bool s0, .slice a0 len0 cap0] 36)).cell? ⟨w.heap.size + 1, m * 2 + 1, none⟩ = some (.slice A n c) ∧ 24 < n := by
    rw [← hsz]
    · exact ⟨0, by omega, a0, len0, cap0, (cell_new _ _ _ _).trans rfl, h⟩
  have HA := Lib.hid (And.intro hglt (And.intro hall hbig))
  clear hall hbig hglt hsz h m0 V0
  go_enter Tryd.func9, Tryd.ntmps9
  go_wp2_with fail
  refine (wlsmall_no (w.heap.size + 1) 1 _ (by decide) HA.out.1 HA.out.2.1 m hm HA.out.2.2).mono ?_
  rintro e w0 ⟨rfl, b0⟩
  clear HA
  go_wp2_with fail
  refine (wlives_yes _).mono ?_
  rintro e w1 ⟨rfl, b1⟩
  go_wp2_with fail
  go_ret
  exact ⟨rfl, bnext (bnext hb b0) b1⟩

theorem wholeTexts_walk (s0 : Bool) (a0 : Option Addr) (len0 cap0 : Nat) (ys0 : List Nat) (n : Int) (w : World) (h0 : Sl w a0 len0 cap0 ys0) (hn : (Lit.int .i64 n).wf = true) :
    Calls Tryd.prog 9 #[.agg #[.bool s0, .slice a0 len0 cap0], .int .i64 n] w fun e w' => e = .returned (.bool true) ∧ Below w.heap.size w w' := by
  have hb : -9223372036854775808 ≤ n ∧ n ≤ 9223372036854775807 := by have hbd := bounds_i64 hn; omega
  by_cases h : 24 < len0
  · exact wholeTexts_big _ _ _ _ _ w (Nat.le_trans h0.le h0.max) h hb.1 hb.2
  · by_cases h20 : 20 < len0
    · exact wholeTexts_mid _ _ _ _ _ _ w (Wh.of_sl s0 h0 (by omega)) (by omega) h20 hb.1 hb.2
    · exact wholeTexts_small _ _ _ _ _ _ w (Wh.of_sl s0 h0 (by omega)) (by omega) hb.1 hb.2
end Go.Proofs.YtabdnlhehickoaaDoor
