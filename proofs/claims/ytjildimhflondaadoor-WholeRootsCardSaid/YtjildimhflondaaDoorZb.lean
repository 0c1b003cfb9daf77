/-
  The document's own whole numbers: Cmp, Quo.
-/
import Derived.Test.YtjildimhflondaaDoorWrm
import Derived.Test.YtjildimhflondaaDoorRefDiv
namespace Go.Proofs.YtjildimhflondaaDoor
open Go.RowKit
theorem WNew.neg {w : World} {base : Nat} {b : Bool} {x : Value} {z : Int} (h : WNew w base (.agg #[.bool b, x]) z) : b = decide (z < 0) := by
  obtain ⟨y, e, hn⟩ := h
  have e' : b = decide (z < 0) ∧ x = y := by simpa using e
  exact e'.1
theorem cmpN_bd' (m n : Nat) : -1 ≤ cmpN m n ∧ cmpN m n ≤ 1 := by unfold cmpN; split <;> (try split) <;> omega
theorem cmpN_swap' (m n : Nat) : cmpN n m = -cmpN m n := by unfold cmpN; split <;> (try split) <;> (try split) <;> omega
section
variable {w : World} {u v : Value} {a b : Int} {K L : Nat}
set_option maxHeartbeats 3200000 in
theorem rwcmp_num (hu : Wh w u a K) (hv : Wh w v b L) (hK : K ≤ 400000) (hL : L ≤ 400000) : Calls Tryd.prog 34 #[u, v] w fun e w' => e = .returned (.int .i64 (cmpZ a b)) ∧ Below w.heap.size w w' := by
  obtain ⟨s, xA, xN, xC, rfl, hx0⟩ := hu.opened
  obtain ⟨t, yA, yN, yC, rfl, hy0⟩ := hv.opened
  obtain ⟨W, hW, hp, hq, hb⟩ := enter2 w (.bool s) (.slice xA xN xC) (.bool t) (.slice yA yN yC)
  have hx := (hx0.out.below hb)
  have hy := (hy0.out.below hb)
  clear hx0 hy0
  have hK : K ≤ 1000000 := by omega
  have hL : L ≤ 1000000 := by omega
  go_enter Tryd.func34, Tryd.ntmps34
  go_wp2_with fail
  rw [← hW]
  clear hW
  refine region_two (H := ⟨rfl, ⟨rfl, rfl, rfl⟩, ⟨rfl, rfl, rfl⟩, ⟨rfl, rfl, rfl⟩, ⟨rfl, rfl, rfl⟩, ⟨rfl, rfl, rfl⟩, ⟨rfl, rfl, rfl⟩, ⟨rfl, rfl, rfl⟩, ⟨rfl, rfl, rfl⟩, by kernel_rfl, by kernel_rfl, by kernel_rfl, by kernel_rfl, by kernel_rfl, by kernel_rfl⟩) (by kernel_rfl) (by kernel_rfl) (by decide) (by simp) rfl rfl hp hq (fun v w => by simp [go_sem]) (fun w hw => rwnorm_num (hx.below hw) hK) (fun w hw => rwnorm_num (hy.below hw) hL) ?_
  intro g h b1 xa xn xc b2 ya yn yc w2 zx zy hgh hg hh hn1 hn2 hb2
  simp only [Act.put, List.setIfInBounds_toArray, List.set_cons_zero, List.set_cons_succ]
  obtain ⟨m1, hm1⟩ : ∃ m, m = a.natAbs := ⟨_, rfl⟩
  obtain ⟨m2, hm2⟩ : ∃ m, m = b.natAbs := ⟨_, rfl⟩
  have ea : a = zOf b1 m1 := by rw [hm1]; exact hn1.out.sgn
  have eb : b = zOf b2 m2 := by rw [hm2]; exact hn2.out.sgn
  have NX : ∀ w', WNew w' W.heap.size (.agg #[.bool b1, .slice xa xn xc]) a → Num w' (.slice xa xn xc) m1 K := fun w' h => by rw [hm1]; exact h.num_ K hu.lt
  have NY : ∀ w', WNew w' W.heap.size (.agg #[.bool b2, .slice ya yn yc]) b → Num w' (.slice ya yn yc) m2 L := fun w' h => by rw [hm2]; exact h.num_ L hv.lt
  replace NX := Lib.hid NX
  replace NY := Lib.hid NY
  have hx2 := NX.out _ hn1.out
  have hy2 := NY.out _ hn2.out
  clear hm1 hm2
  have s1 := hn1.out.neg
  have s2 := hn2.out.neg
  have HC := Lib.hid (rcmp_num hx2 hy2 (by omega) (by omega))
  have hc := cmpN_bd' m1 m2
  clear hp hq hn1 hn2 NX NY hu hv hx2 hy2
  cases b1 <;> cases b2
  · have HZ := Lib.hid (show cmpZ a b = cmpN m1 m2 by rw [ea, eb]; exact cmpZ_pp (by rw [← ea]; exact of_decide_eq_false s1.symm) (by rw [← eb]; exact of_decide_eq_false s2.symm))
    clear ea eb s1 s2
    obtain ⟨hc1, hc2⟩ := hc
    have e0 := zx.c0
    have e1 := zy.c0
    have e2 := zx.c1
    have e3 := zy.c1
    have hss : (false == false) = true := rfl
    go_wp2_with fail
    refine HC.out.mono ?_
    rintro e w3 ⟨rfl, hb3⟩
    clear e0 e1 e2 e3 HC
    replace zx := zx.next hb3
    have e0 := zx.c0
    have hB := bnext (bnext hb hb2) hb3
    generalize cmpN m1 m2 = c at *
    go_wp2_with fail
    go_ret
    rw [HZ.out]
    exact ⟨rfl, hB⟩
  · have HZ := Lib.hid (show cmpZ a b = 1 from cmpZ_pn (of_decide_eq_false s1.symm) (of_decide_eq_true s2.symm))
    clear ea eb s1 s2
    have e0 := zx.c0
    have e1 := zy.c0
    clear HC
    go_wp2_with fail
    go_ret
    rw [HZ.out]
    exact ⟨rfl, bnext hb hb2⟩
  · have HZ := Lib.hid (show cmpZ a b = -1 from cmpZ_np (of_decide_eq_true s1.symm) (of_decide_eq_false s2.symm))
    clear ea eb s1 s2
    have e0 := zx.c0
    have e1 := zy.c0
    clear HC
    go_wp2_with fail
    go_ret
    rw [HZ.out]
    exact ⟨rfl, bnext hb hb2⟩
  · have HZ := Lib.hid (show cmpZ a b = -cmpN m1 m2 by rw [ea, eb, cmpZ_nn]; exact cmpN_swap' _ _)
    clear ea eb s1 s2
    obtain ⟨hc1, hc2⟩ := hc
    have e0 := zx.c0
    have e1 := zy.c0
    have e2 := zx.c1
    have e3 := zy.c1
    have hss : (true == true) = true := rfl
    go_wp2_with fail
    refine HC.out.mono ?_
    rintro e w3 ⟨rfl, hb3⟩
    clear e0 e1 e2 e3 HC
    replace zx := zx.next hb3
    have e0 := zx.c0
    have hB := bnext (bnext hb hb2) hb3
    generalize cmpN m1 m2 = c at *
    go_wp2_with fail
    go_ret
    rw [HZ.out]
    exact ⟨rfl, hB⟩
end
end Go.Proofs.YtjildimhflondaaDoor
namespace Go.Proofs.YtjildimhflondaaDoor
open Go.RowKit
theorem WNew.nought {w : World} {base : Nat} {b : Bool} {A : Option Addr} {n c : Nat} {z : Int} (h : WNew w base (.agg #[.bool b, .slice A n c]) z) : n ≤ 2 ^ 63 - 1 ∧ (n = 0 ↔ z = 0) := by
  obtain ⟨x, e, hn⟩ := h
  have e' : b = decide (z < 0) ∧ Value.slice A n c = x := by simpa using e
  obtain ⟨A', n', c', e2, hm, h0⟩ := hn.nought
  rw [← e'.2] at e2
  injection e2 with _ e3 _
  subst e3
  exact ⟨hm, h0.trans Int.natAbs_eq_zero⟩
theorem WNew.zero (w : World) (base : Nat) : WNew w base (.agg #[.bool false, .slice none 0 0]) 0 := ⟨_, rfl, New.nil _ _⟩
section
variable {w : World} {u v : Value} {a b : Int} {K L : Nat}
set_option maxHeartbeats 3200000 in
theorem rwquo_num (hu : Wh w u a K) (hv : Wh w v b L) (hK : K ≤ 100000) (hL : L ≤ 100000) : Calls Tryd.prog 38 #[u, v] w (W3 w (quoQ a b) (quoR a b) (quoE b)) := by
  obtain ⟨s, xA, xN, xC, rfl, hx0⟩ := hu.opened
  obtain ⟨t, yA, yN, yC, rfl, hy0⟩ := hv.opened
  obtain ⟨W, hW, hp, hq, hr, ht, hb⟩ := enter22r w (.bool s) (.slice xA xN xC) (.bool t) (.slice yA yN yC)
  have hx := (hx0.out.below hb)
  have hy := (hy0.out.below hb)
  clear hx0 hy0
  have hK : K ≤ 1000000 := by omega
  have hL : L ≤ 1000000 := by omega
  go_enter Tryd.func38, Tryd.ntmps38
  go_wp2_with fail
  rw [← hW]
  clear hW
  refine region_two (H := ⟨rfl, ⟨rfl, rfl, rfl⟩, ⟨rfl, rfl, rfl⟩, ⟨rfl, rfl, rfl⟩, ⟨rfl, rfl, rfl⟩, ⟨rfl, rfl, rfl⟩, ⟨rfl, rfl, rfl⟩, ⟨rfl, rfl, rfl⟩, ⟨rfl, rfl, rfl⟩, by kernel_rfl, by kernel_rfl, by kernel_rfl, by kernel_rfl, by kernel_rfl, by kernel_rfl⟩) (by kernel_rfl) (by kernel_rfl) (by decide) (by simp) rfl rfl hp hq (fun v w => by simp [go_sem]) (fun w hw => rwnorm_num (hx.below hw) hK) (fun w hw => rwnorm_num (hy.below hw) hL) ?_
  intro g h b1 xa xn xc b2 ya yn yc w2 zx zy hgh hg hh hn1 hn2 hb2
  simp only [Act.put, List.setIfInBounds_toArray, List.set_cons_zero, List.set_cons_succ]
  obtain ⟨m1, hm1⟩ : ∃ m, m = a.natAbs := ⟨_, rfl⟩
  obtain ⟨m2, hm2⟩ : ∃ m, m = b.natAbs := ⟨_, rfl⟩
  have ea : a = zOf b1 m1 := by rw [hm1]; exact hn1.out.sgn
  have eb : b = zOf b2 m2 := by rw [hm2]; exact hn2.out.sgn
  have NX : ∀ w', WNew w' W.heap.size (.agg #[.bool b1, .slice xa xn xc]) a → Num w' (.slice xa xn xc) m1 K := fun w' h => by rw [hm1]; exact h.num_ K hu.lt
  have NY : ∀ w', WNew w' W.heap.size (.agg #[.bool b2, .slice ya yn yc]) b → Num w' (.slice ya yn yc) m2 L := fun w' h => by rw [hm2]; exact h.num_ L hv.lt
  replace NX := Lib.hid NX
  replace NY := Lib.hid NY
  have hx2 := NX.out _ hn1.out
  have hy2 := NY.out _ hn2.out
  have hgl := hr.lt
  clear hm1 hm2
  have hgt := ht.lt
  obtain ⟨hym, hyn⟩ := hn2.out.nought
  clear hp hq hn1 hn2 NX NY
  replace hr := hr.next hb2
  replace ht := ht.next hb2
  by_cases h0 : b = 0
  · obtain rfl : yn = 0 := hyn.2 h0
    have HZ := Lib.hid (show quoQ a b = 0 ∧ quoR a b = 0 ∧ quoE b = 3 by unfold quoQ quoR quoE; rw [if_pos h0, if_pos h0, if_pos h0]; exact ⟨rfl, rfl, rfl⟩)
    clear h0 hyn ea eb hu hv
    have e0 := zy.c1
    obtain ⟨q1, q2, q3, q4, q5, q6⟩ := hr.room (.bool false)
    obtain ⟨p1, p2, p3, p4, p5, p6⟩ := hr.room2 ht (Nat.succ_ne_self _) (.bool false) (.slice none 0 0) (.bool false)
    go_wp2_with fail
    rw [HZ.out.1, HZ.out.2.1, HZ.out.2.2]
    exact wret3 rfl rfl rfl rfl rfl hr ht (by omega) (WNew.zero _ w.heap.size) (WNew.zero _ w.heap.size) (Nat.le_refl _) (Nat.le_refl _) (by omega) (by omega) (bnext hb hb2)
  · have hy0 : 0 < yn := by
      rcases Nat.eq_zero_or_pos yn with h1 | h1
      · exact absurd (hyn.1 h1) h0
      · exact h1
    have hm0 : m2 ≠ 0 := by intro e; rw [eb, e] at h0; exact h0 (zOf_zero.2 rfl)
    have HZ := Lib.hid (show quoQ a b = zOf (b1 != b2) (m1 / m2) ∧ quoR a b = zOf b1 (m1 % m2) ∧ quoE b = 0 by rw [show quoE b = 0 by unfold quoE; rw [if_neg h0], ea, eb]; exact ⟨(quo_parts _ _ _ _ hm0).1, (quo_parts _ _ _ _ hm0).2, rfl⟩)
    have l1 := hx2.lt
    have HD := Lib.hid (rdiv_pos hx2 hy2 (by omega) (by omega) (Nat.pos_of_ne_zero hm0))
    have HL := Lib.hid (And.intro (Nat.lt_of_le_of_lt (Nat.div_le_self m1 m2) l1) (Nat.lt_of_le_of_lt (Nat.mod_le m1 m2) l1))
    clear h0 hyn ea eb hu hv hx2 hy2 l1 hm0
    have e0 := zx.c1
    have e1 := zy.c1
    go_wp2_with fail
    refine HD.out.mono ?_
    rintro e w3 ⟨qv, rv, rfl, hq1, hr1, hb3⟩
    obtain ⟨qa, qn, qc, rfl, -, -⟩ := hq1.nought
    obtain ⟨ra, rn, rc, rfl, -, -⟩ := hr1.nought
    clear e0 e1 HD
    replace zx := (zx.next hb3).drew
    replace zy := (zy.next hb3).drew
    replace hr := (hr.next hb3).drew
    replace ht := (ht.next hb3).drew
    replace hq1 := hq1.next (Below.refl _ _).drew
    replace hr1 := hr1.next (Below.refl _ _).drew
    have hB := (bnext (bnext hb hb2) hb3).drew
    clear hb hb2 hb3
    go_wp2_with fail
    have e0 := zx.c0
    have e1 := zx.c1
    have e2 := zy.c0
    have e3 := zy.c1
    go_region_held3 (fun w' => w'.cell? ⟨g, 0, none⟩ = some (.bool b1) ∧ w'.cell? ⟨g, 1, none⟩ = some (.slice xa xn xc) ∧ w'.cell? ⟨h, 0, none⟩ = some (.bool b2) ∧ w'.cell? ⟨h, 1, none⟩ = some (.slice ya yn yc))
      (first | with_reducible exact ⟨zx.c0, zx.c1, zy.c0, zy.c1⟩ | with_reducible exact ⟨zx4.c0, zx4.c1, zy4.c0, zy4.c1⟩ | with_reducible exact ⟨zx5.c0, zx5.c1, zy5.c0, zy5.c1⟩ | with_reducible exact ⟨((zx5.far (by dsimp only; omega) _).far (by dsimp only; omega) _).c0, ((zx5.far (by dsimp only; omega) _).far (by dsimp only; omega) _).c1, ((zy5.far (by dsimp only; omega) _).far (by dsimp only; omega) _).c0, ((zy5.far (by dsimp only; omega) _).far (by dsimp only; omega) _).c1⟩ | with_reducible exact ⟨((((zx5.far (by dsimp only; omega) _).far (by dsimp only; omega) _).far (by dsimp only; omega) _).far (by dsimp only; omega) _).c0, ((((zx5.far (by dsimp only; omega) _).far (by dsimp only; omega) _).far (by dsimp only; omega) _).far (by dsimp only; omega) _).c1, ((((zy5.far (by dsimp only; omega) _).far (by dsimp only; omega) _).far (by dsimp only; omega) _).far (by dsimp only; omega) _).c0, ((((zy5.far (by dsimp only; omega) _).far (by dsimp only; omega) _).far (by dsimp only; omega) _).far (by dsimp only; omega) _).c1⟩ | go_keep)
      (first
      | (go_at_call 22; (fail_if_success (have hh := hb4)); refine (rwnorm_num (u := .agg #[.bool (b1 != b2), .slice qa qn qc]) ⟨_, _, _, rfl, hq1.num K HL.out.1, rfl⟩ hK).mono ?_; rintro e w4 ⟨v4, rfl, hv4, hb4⟩; obtain ⟨c1, sa, sn, sc, rfl, hs1⟩ := hv4.opened; have zx4 := zx.next hb4; have zy4 := zy.next hb4; have hr4 := hr.next hb4; have ht4 := ht.next hb4; have hR4 := hr1.next hb4)
      | (go_at_call 22; refine (rwnorm_num (u := .agg #[.bool b1, .slice ra rn rc]) ⟨_, _, _, rfl, hR4.num K HL.out.2, rfl⟩ hK).mono ?_; rintro e w5 ⟨v5, rfl, hv5, hb5⟩; obtain ⟨c2, ta, tn, tc, rfl, hs2⟩ := hv5.opened; have zx5 := zx4.next hb5; have zy5 := zy4.next hb5; have hr5 := hr4.next hb5; have ht5 := ht4.next hb5; have hs1' := Lib.hid (hs1.out.next hb5); obtain ⟨q1, q2, q3, q4, q5, q6⟩ := hr5.room (.bool c1); obtain ⟨p1, p2, p3, p4, p5, p6⟩ := hr5.room2 ht5 (Nat.succ_ne_self _) (.bool c1) (.slice sa sn sc) (.bool c2)))
    go_wp2_with fail
    rw [HZ.out.1, HZ.out.2.1, HZ.out.2.2]
    exact wret3 rfl rfl rfl rfl rfl hr5 ht5 (by omega) hs1'.out hs2.out hB.size (Nat.le_trans hB.size hb4.size) (by omega) (by omega) (bnext (bnext hB hb4) hb5)
end
end Go.Proofs.YtjildimhflondaaDoor
