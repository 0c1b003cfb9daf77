/-
  The document's own whole numbers: Floor where something is left.
-/
import Derived.Test.YtocnlapbkidinaaGreatDoorQWrf
import Derived.Test.YtocnlapbkidinaaGreatDoorQPh
set_option linter.unusedVariables false
set_option linter.unusedSimpArgs false
set_option linter.unusedSectionVars false
set_option linter.unnecessarySimpa false
namespace Go.Proofs.YtocnlapbkidinaaGreatDoor
open Go.RowKit
section
variable {w : World} {u v : Value} {a b : Int} {K L : Nat}
set_option maxHeartbeats 6400000 in
theorem rwfloor_left (hu : Wh w u a K) (hv : Wh w v b L) (hK : K ≤ 100000) (hL : L ≤ 100000) (hb0 : b ≠ 0) (hr0 : quoR a b ≠ 0) : Calls Tryz.prog 73 #[u, v] w (W3 w (flQ a b) (flR a b) (quoE b)) := by
  have hE : quoE b = 0 := by unfold quoE; rw [if_neg hb0]
  have la : (quoQ a b).natAbs < 4294967296 ^ K := Nat.lt_of_le_of_lt (quo_absQ hb0) hu.lt
  have lr : (quoR a b).natAbs < 4294967296 ^ L := by have h1 := quo_bd (a := a) hb0; have h2 := hv.lt; omega
  obtain ⟨d2, hd2⟩ : ∃ d, d = decide (b < 0) := ⟨_, rfl⟩
  have HN : ∀ W' u', Wh W' u' b L → Calls Tryz.prog 33 #[u'] W' fun e w' => ∃ A n c, e = .returned (.agg #[.bool d2, .slice A n c]) ∧ Below W'.heap.size W' w' := fun W' u' h => by
    refine (rwnorm_num h (by omega)).mono ?_
    rintro e w' ⟨v, rfl, hv, hb⟩
    obtain ⟨q, A, n, c, rfl, hn⟩ := hv.opened
    exact ⟨A, n, c, by rw [hn.out.neg, hd2], hb⟩
  replace HN := Lib.hid HN
  have hF : (decide (quoR a b < 0) != d2) = true → flQ a b = quoQ a b - 1 ∧ flR a b = quoR a b + b := fun h => by
    unfold flQ flR quoQ quoR at *
    rw [if_neg hb0] at h hr0
    have : adj a b = true := by unfold adj; rw [← hd2, Bool.and_eq_true]; exact ⟨decide_eq_true hr0, h⟩
    simp only [if_neg hb0, if_pos this]; exact ⟨trivial, trivial⟩
  have hG : (decide (quoR a b < 0) != d2) = false → flQ a b = quoQ a b ∧ flR a b = quoR a b := fun h => by
    unfold flQ flR quoQ quoR at *
    rw [if_neg hb0] at h
    have : ¬ adj a b = true := by unfold adj; rw [← hd2, h, Bool.and_false]; decide
    simp only [if_neg hb0, if_neg this]; exact ⟨trivial, trivial⟩
  have HF := Lib.hid (And.intro hF (And.intro hG (And.intro hE (And.intro la lr))))
  clear hF hG la lr hd2
  obtain ⟨s, xA, xN, xC, rfl, hx0⟩ := hu.opened
  obtain ⟨t, yA, yN, yC, rfl, hy0⟩ := hv.opened
  obtain ⟨W, hW, hp, hq, hr, ht, hb⟩ := enter22r w (.bool s) (.slice xA xN xC) (.bool t) (.slice yA yN yC)
  have hx := (hx0.out.below hb)
  have hy := (hy0.out.below hb)
  clear hx0 hy0
  have HQ := rwquo_num hx hy (by omega) (by omega)
  rw [hE] at HQ
  replace HQ := Lib.hid HQ
  clear hE
  have hgt := ht.lt
  have e0 := hp.c0
  have e1 := hp.c1
  have e2 := hq.c0
  have e3 := hq.c1
  rw [hW] at e0 e1 e2 e3
  go_enter Tryz.func73, Tryz.ntmps73
  go_wp2_with fail
  rw [← hW]
  refine HQ.out.mono ?_
  rintro e w1 ⟨v1, v2, rfl, x1, x2, b1⟩
  clear e0 e1 e2 e3 hW HQ
  obtain ⟨s1, qa, qn, qc, rfl, y1⟩ := x1.opened
  obtain ⟨s2, ra, rn, rc, rfl, y2⟩ := x2.opened
  obtain ⟨zq, zr⟩ := mk2 w1 (.bool s1) (.slice qa qn qc) (.bool s2) (.slice ra rn rc)
  have b2 : Below w1.heap.size w1 ((w1.alloc (.cells #[.bool s1, .slice qa qn qc] 27)).alloc (.cells #[.bool s2, .slice ra rn rc] 27)) := bnew (bnew (Below.refl _ _) _) _
  have b12 := (bnext b1 b2)
  clear x1 x2
  have x1 := Lib.hid (y1.out.next b2)
  have x2 := Lib.hid (y2.out.next b2)
  clear y1 y2
  replace hp := hp.next b12
  replace hq := hq.next b12
  replace hr := hr.next b12
  replace ht := ht.next b12
  replace hx := hx.below b12
  replace hy := hy.below b12
  have hB := bnext hb b12
  have hWs := hb.size
  have hW1 := b1.size
  obtain ⟨hrm, hrn⟩ := x2.out.nought
  obtain ⟨w2, hw2⟩ : ∃ w2, w2 = ((w1.alloc (.cells #[.bool s1, .slice qa qn qc] 27)).alloc (.cells #[.bool s2, .slice ra rn rc] 27)) := ⟨_, rfl⟩
  rw [← hw2] at x1 x2 zq zr hp hq hr ht hx hy hB
  clear b1 b2 b12
  have c1 := zr.c1
  have hrp : 0 < rn := by
    rcases Nat.eq_zero_or_pos rn with h1 | h1
    · exact absurd (hrn.1 h1) hr0
    · exact h1
  have hs2 := x2.out.neg
  rw [← hs2] at HF
  clear hrn hs2 hb0 hr0 hu hv c1
  replace zq := zq.drew
  replace zr := zr.drew
  replace hr := hr.drew
  replace ht := ht.drew
  replace hq := hq.drew
  replace hy := Lib.hid (hy.drew)
  replace x1 := Lib.hid (x1.out.next (Below.refl _ _).drew)
  replace x2 := Lib.hid (x2.out.next (Below.refl _ _).drew)
  replace hB := hB.drew
  have f0 := zr.c0
  have f1 := zr.c1
  have f2 := hq.c0
  have f3 := hq.c1
  cases hne : (s2 == d2)
  · have hne' : (s2 != d2) = true := by rw [bne, hne]; rfl
    have HZ := Lib.hid (And.intro (HF.out.1 hne').1 (And.intro (HF.out.1 hne').2 HF.out.2.2.1))
    clear hne'
    replace HF := Lib.hid HF.out.2.2.2
    go_wp2_with fail
    rw [← hw2]
    clear hw2
    have hfl := field_0
    go_region_held3 (fun w' => w'.cell? ⟨w1.heap.size + 1, 0, none⟩ = some (.bool s2) ∧ w'.cell? ⟨w1.heap.size + 1, 1, none⟩ = some (.slice ra rn rc) ∧ w'.cell? ⟨w.heap.size + 1, 0, none⟩ = some (.bool t) ∧ w'.cell? ⟨w.heap.size + 1, 1, none⟩ = some (.slice yA yN yC))
      (first | with_reducible exact ⟨f0, f1, f2, f3⟩ | with_reducible exact ⟨zr4.c0, zr4.c1, hq4.c0, hq4.c1⟩ | go_keep)
      ((go_at_call 33; refine (HN.out _ _ hy.out).mono ?_; rintro e w4 ⟨na, nn, nc, rfl, b4⟩; have zr4 := zr.next b4; have hq4 := hq.next b4))
    replace zq := (zq.next b4)
    replace zr := zr4
    replace hq := hq4
    replace hr := (hr.next b4)
    replace ht := (ht.next b4)
    replace hy := Lib.hid ((hy.out.below b4))
    replace x1 := Lib.hid ((x1.out.next b4))
    replace x2 := Lib.hid ((x2.out.next b4))
    replace hB := (bnext hB b4)
    clear f0 f1 f2 f3 zr4 hq4 b4 HN hfl
    go_wp2_with fail
    have hBs := hB
    have zy := hy.out
    refine wp_region_phases (nA := 6) (by kernel_rfl) (by kernel_rfl) (fun i => 33 + i)
      (fun i W v => match i with
        | 0 => v = .agg #[.bool s1, .slice qa qn qc]
        | 1 => WNew W w4.heap.size v 1
        | 2 => WNew W w4.heap.size v (quoQ a b - 1)
        | 3 => v = .agg #[.bool s2, .slice ra rn rc]
        | 4 => v = .agg #[.bool t, .slice yA yN yC]
        | _ => WNew W w4.heap.size v (quoR a b + b)) (by decide) (by kernel_rfl) (fun i j _ _ h => Nat.add_left_cancel h) (fun i hi => by simp; omega) ?_ ?_ ?_
    · intro i hi W W' v h hb
      rcases (show i = 0 ∨ i = 1 ∨ i = 2 ∨ i = 3 ∨ i = 4 ∨ i = 5 by omega) with rfl | rfl | rfl | rfl | rfl | rfl
      · exact h
      · exact WNew.next h hb
      · exact WNew.next h hb
      · exact h
      · exact h
      · exact WNew.next h hb
    · intro i hi l A W I hdep
      rcases (show i = 0 ∨ i = 1 ∨ i = 2 ∨ i = 3 ∨ i = 4 ∨ i = 5 by omega) with rfl | rfl | rfl | rfl | rfl | rfl
      · refine wpOp_plain rfl rfl ?_
        unfold Oper.wp
        rw [exec_load rfl ((I.other 7 (by intro j hj; omega)).trans rfl) (zq.below I.below zq.lt), Oper.upon_value]
        exact ⟨_, rfl, rfl, Below.refl _ _⟩
      · refine wpOp_plain rfl rfl ?_
        unfold Oper.wp
        rw [exec_call_const rfl, show (callFunc 31 #[.int .i64 1]).run Tryz.prog W = .ok (.enter 31 #[.int .i64 1]) W by simp [go_sem], Oper.upon_enter]
        refine (rwof_num 1 _ (by decide) (by decide)).mono ?_
        rintro e w5 ⟨v, rfl, hv, hb5⟩
        exact ⟨_, rfl, hv.from_ I.below.size, hb5⟩
      · have v0 := I.val 0 (by decide) (hdep 0 (by kernel_rfl))
        have v1 := I.val 1 (by decide) (hdep 1 (by kernel_rfl))
        refine wpOp_plain rfl rfl ?_
        unfold Oper.wp
        rw [exec_call2 rfl, v0]
        generalize A.tmps.getD 34 undef = v at *
        rw [show (callFunc 69 #[.agg #[.bool s1, .slice qa qn qc], v]).run Tryz.prog W = .ok (.enter 69 #[.agg #[.bool s1, .slice qa qn qc], v]) W by simp [go_sem], Oper.upon_enter]
        refine (rwsub_num ((x1.out.next I.below).wh K HF.out.1) (v1.wh 1 (by decide)) (by omega) (by omega)).mono ?_
        rintro e w5 ⟨v, rfl, hv, hb5⟩
        exact ⟨_, rfl, hv.from_ I.below.size, hb5⟩
      · refine wpOp_plain rfl rfl ?_
        unfold Oper.wp
        rw [exec_load rfl ((I.other 8 (by intro j hj; omega)).trans rfl) (zr.below I.below zr.lt), Oper.upon_value]
        exact ⟨_, rfl, rfl, Below.refl _ _⟩
      · refine wpOp_plain rfl rfl ?_
        unfold Oper.wp
        rw [exec_load rfl ((I.other 3 (by intro j hj; omega)).trans rfl) (hq.below I.below hq.lt), Oper.upon_value]
        exact ⟨_, rfl, rfl, Below.refl _ _⟩
      · have v0 := I.val 3 (by decide) (hdep 3 (by kernel_rfl))
        have v1 := I.val 4 (by decide) (hdep 4 (by kernel_rfl))
        refine wpOp_plain rfl rfl ?_
        unfold Oper.wp
        rw [exec_call2 rfl, v0, v1, show (callFunc 68 #[.agg #[.bool s2, .slice ra rn rc], .agg #[.bool t, .slice yA yN yC]]).run Tryz.prog W = .ok (.enter 68 #[.agg #[.bool s2, .slice ra rn rc], .agg #[.bool t, .slice yA yN yC]]) W by simp [go_sem], Oper.upon_enter]
        refine (rwadd_num ((x2.out.next I.below).wh L HF.out.2) (hy.out.below I.below) (by omega) (by omega)).mono ?_
        rintro e w5 ⟨v, rfl, hv, hb5⟩
        exact ⟨_, rfl, hv.from_ I.below.size, hb5⟩
    intro A w7 hdf hsz hoth hval hb7
    have v0 := hval 0 (by decide)
    have v1 := hval 1 (by decide)
    have v2 := hval 2 (by decide)
    have v3 := hval 3 (by decide)
    have v4 := hval 4 (by decide)
    have v5 := hval 5 (by decide)
    obtain ⟨u1, hu1⟩ : ∃ u, A.tmps.getD 34 undef = u := ⟨_, rfl⟩
    obtain ⟨u2, hu2⟩ : ∃ u, A.tmps.getD 35 undef = u := ⟨_, rfl⟩
    obtain ⟨u5, hu5⟩ : ∃ u, A.tmps.getD 38 undef = u := ⟨_, rfl⟩
    rw [hu2] at v2
    rw [hu5] at v5
    obtain ⟨t1, pa, pn, pc, rfl, xs7⟩ := v2.opened
    obtain ⟨t2, oa, on, oc, rfl, xa7⟩ := v5.opened
    have hne1 : w1.heap.size + 1 ≠ w1.heap.size := Nat.succ_ne_self _
    have hne2 : w1.heap.size ≠ w1.heap.size + 1 := (Nat.succ_ne_self _).symm
    have n1 : w.heap.size + 1 + 1 ≠ w1.heap.size := by omega
    have n2 : w.heap.size + 1 + 1 ≠ w1.heap.size + 1 := by omega
    have n3 : w.heap.size + 1 + 1 + 1 ≠ w1.heap.size := by omega
    have n4 : w.heap.size + 1 + 1 + 1 ≠ w1.heap.size + 1 := by omega
    have zq7 := zq.next hb7
    have zr7 := zr.next hb7
    have hr7 := hr.next hb7
    have ht7 := ht.next hb7
    have sr0 := ((zr7.far (p := ⟨w1.heap.size, 0, none⟩) hne1 (.bool t1)).far (p := ⟨w1.heap.size, 1, none⟩) hne1 (.slice pa pn pc))
    have zq := (((zq7.set0 (.bool t1)).set1 (.slice pa pn pc)).far (p := ⟨w1.heap.size + 1, 0, none⟩) hne2 (.bool t2)).far (p := ⟨w1.heap.size + 1, 1, none⟩) hne2 (.slice oa on oc)
    have zr := (sr0.set0 (.bool t2)).set1 (.slice oa on oc)
    have hr := (((hr7.far (p := ⟨w1.heap.size, 0, none⟩) n1 (.bool t1)).far (p := ⟨w1.heap.size, 1, none⟩) n1 (.slice pa pn pc)).far (p := ⟨w1.heap.size + 1, 0, none⟩) n2 (.bool t2)).far (p := ⟨w1.heap.size + 1, 1, none⟩) n2 (.slice oa on oc)
    have ht := (((ht7.far (p := ⟨w1.heap.size, 0, none⟩) n3 (.bool t1)).far (p := ⟨w1.heap.size, 1, none⟩) n3 (.slice pa pn pc)).far (p := ⟨w1.heap.size + 1, 0, none⟩) n4 (.bool t2)).far (p := ⟨w1.heap.size + 1, 1, none⟩) n4 (.slice oa on oc)
    have x1 := Lib.hid (WNew.farSet (sr0.set0 (.bool t2)) (WNew.farSet sr0 (WNew.farSet (zq7.set0 (.bool t1)) (WNew.farSet zq7 xs7.out 0 (.bool t1)) 1 (.slice pa pn pc)) 0 (.bool t2)) 1 (.slice oa on oc))
    have x2 := Lib.hid (WNew.farSet (sr0.set0 (.bool t2)) (WNew.farSet sr0 (WNew.farSet (zq7.set0 (.bool t1)) (WNew.farSet zq7 xa7.out 0 (.bool t1)) 1 (.slice pa pn pc)) 0 (.bool t2)) 1 (.slice oa on oc))
    have hg1 : w.heap.size ≤ w1.heap.size := by omega
    have hB := (((((bnext hB hb7)).setCell (p := ⟨w1.heap.size, 0, none⟩) hg1 (.bool t1)).setCell (p := ⟨w1.heap.size, 1, none⟩) hg1 (.slice pa pn pc)).setCell (p := ⟨w1.heap.size + 1, 0, none⟩) (by dsimp only; omega) (.bool t2)).setCell (p := ⟨w1.heap.size + 1, 1, none⟩) (by dsimp only; omega) (.slice oa on oc)
    have hs5 : w.heap.size ≤ w4.heap.size := hBs.size
    have sr1 := (zr7.far (p := ⟨w1.heap.size, 0, none⟩) hne1 (.bool t1)).far (p := ⟨w1.heap.size, 1, none⟩) hne1 (.slice pa pn pc)
    rw [tower_eq (a0 := _) ?_ hdf hsz (fun n m0 m1 m2 m3 m4 m5 => hoth n (fun j hj => by rcases (show j = 0 ∨ j = 1 ∨ j = 2 ∨ j = 3 ∨ j = 4 ∨ j = 5 by omega) with rfl | rfl | rfl | rfl | rfl | rfl <;> assumption)) v0 hu1 hu2 v3 v4 hu5]
    show wpOps _ _ _ [6, 7] _ _
    rw [wpOps_cons]
    refine wpOp_plain rfl rfl ?_
    unfold Oper.wp
    rw [exec_store rfl rfl rfl zq7, Oper.upon_skip, wpOps_cons]
    refine wpOp_plain rfl rfl ?_
    unfold Oper.wp
    rw [exec_store rfl rfl rfl sr1, Oper.upon_skip]
    simp only [wpOps, Act.put, List.setIfInBounds_toArray, List.set_cons_zero, List.set_cons_succ]
    clear sr0 sr1 zq7 zr7 hr7 ht7 xs7 xa7 hy zy hBs v0 v1 v3 v4 hu1 hu2 hu5 hval hoth hsz hdf hb7 hne HF
    generalize ((((w7.setCell ⟨w1.heap.size, 0, none⟩ (.bool t1)).setCell ⟨w1.heap.size, 1, none⟩ (.slice pa pn pc)).setCell ⟨w1.heap.size + 1, 0, none⟩ (.bool t2)).setCell ⟨w1.heap.size + 1, 1, none⟩ (.slice oa on oc)) = w3 at *
    go_wp2_with fail
    obtain ⟨i1, i2, i3, i4, i5, i6⟩ := hr.room (.bool t1)
    obtain ⟨j1, j2, j3, j4, j5, j6⟩ := hr.room2 ht (Nat.succ_ne_self _) (.bool t1) (.slice pa pn pc) (.bool t2)
    have yq := zq
    have yr := zr
    replace zq := zq.drew
    replace zr := zr.drew
    replace hr := hr.drew
    replace ht := ht.drew
    have f0 := zq.c0
    have f1 := zq.c1
    have f2 := zr.c0
    have f3 := zr.c1
    obtain ⟨q1, q2, q3, q4, q5, q6⟩ := hr.room (.bool t1)
    obtain ⟨p1, p2, p3, p4, p5, p6⟩ := hr.room2 ht (Nat.succ_ne_self _) (.bool t1) (.slice pa pn pc) (.bool t2)
    go_region_held3 (fun w' => w'.cell? ⟨w1.heap.size, 0, none⟩ = some (.bool t1) ∧ w'.cell? ⟨w1.heap.size, 1, none⟩ = some (.slice pa pn pc) ∧ w'.cell? ⟨w1.heap.size + 1, 0, none⟩ = some (.bool t2) ∧ w'.cell? ⟨w1.heap.size + 1, 1, none⟩ = some (.slice oa on oc))
      (first | with_reducible exact ⟨f0, f1, f2, f3⟩ | with_reducible exact ⟨((yq.far (by dsimp only; omega) _).far (by dsimp only; omega) _).drew.c0, ((yq.far (by dsimp only; omega) _).far (by dsimp only; omega) _).drew.c1, ((yr.far (by dsimp only; omega) _).far (by dsimp only; omega) _).drew.c0, ((yr.far (by dsimp only; omega) _).far (by dsimp only; omega) _).drew.c1⟩ | with_reducible exact ⟨((((yq.far (by dsimp only; omega) _).far (by dsimp only; omega) _).far (by dsimp only; omega) _).far (by dsimp only; omega) _).drew.c0, ((((yq.far (by dsimp only; omega) _).far (by dsimp only; omega) _).far (by dsimp only; omega) _).far (by dsimp only; omega) _).drew.c1, ((((yr.far (by dsimp only; omega) _).far (by dsimp only; omega) _).far (by dsimp only; omega) _).far (by dsimp only; omega) _).drew.c0, ((((yr.far (by dsimp only; omega) _).far (by dsimp only; omega) _).far (by dsimp only; omega) _).far (by dsimp only; omega) _).drew.c1⟩ | go_keep)
      (fail)
    go_wp2_with fail
    rw [HZ.out.1, HZ.out.2.1, HZ.out.2.2]
    exact wret3 rfl rfl rfl rfl rfl hr ht (by omega) ((x1.out.next (Below.refl _ _).drew)) ((x2.out.next (Below.refl _ _).drew)) hs5 hs5 (by omega) (by omega) (hB.drew)
  · have hne' : (s2 != d2) = false := by rw [bne, hne]; rfl
    have HZ := Lib.hid (And.intro (HF.out.2.1 hne').1 (And.intro (HF.out.2.1 hne').2 HF.out.2.2.1))
    clear hne' HF
    go_wp2_with fail
    rw [← hw2]
    clear hw2
    have hfl := field_0
    go_region_held3 (fun w' => w'.cell? ⟨w1.heap.size + 1, 0, none⟩ = some (.bool s2) ∧ w'.cell? ⟨w1.heap.size + 1, 1, none⟩ = some (.slice ra rn rc) ∧ w'.cell? ⟨w.heap.size + 1, 0, none⟩ = some (.bool t) ∧ w'.cell? ⟨w.heap.size + 1, 1, none⟩ = some (.slice yA yN yC))
      (first | with_reducible exact ⟨f0, f1, f2, f3⟩ | with_reducible exact ⟨zr4.c0, zr4.c1, hq4.c0, hq4.c1⟩ | go_keep)
      ((go_at_call 33; refine (HN.out _ _ hy.out).mono ?_; rintro e w4 ⟨na, nn, nc, rfl, b4⟩; have zr4 := zr.next b4; have hq4 := hq.next b4))
    replace zq := (zq.next b4)
    replace zr := zr4
    replace hq := hq4
    replace hr := (hr.next b4)
    replace ht := (ht.next b4)
    replace hy := Lib.hid ((hy.out.below b4))
    replace x1 := Lib.hid ((x1.out.next b4))
    replace x2 := Lib.hid ((x2.out.next b4))
    replace hB := (bnext hB b4)
    clear f0 f1 f2 f3 zr4 hq4 b4 HN hfl
    go_wp2_with fail
    clear hne
    have hBs := hB
    obtain ⟨i1, i2, i3, i4, i5, i6⟩ := hr.room (.bool s1)
    obtain ⟨j1, j2, j3, j4, j5, j6⟩ := hr.room2 ht (Nat.succ_ne_self _) (.bool s1) (.slice qa qn qc) (.bool s2)
    have yq := zq
    have yr := zr
    replace zq := zq.drew
    replace zr := zr.drew
    replace hr := hr.drew
    replace ht := ht.drew
    have f0 := zq.c0
    have f1 := zq.c1
    have f2 := zr.c0
    have f3 := zr.c1
    obtain ⟨q1, q2, q3, q4, q5, q6⟩ := hr.room (.bool s1)
    obtain ⟨p1, p2, p3, p4, p5, p6⟩ := hr.room2 ht (Nat.succ_ne_self _) (.bool s1) (.slice qa qn qc) (.bool s2)
    go_region_held3 (fun w' => w'.cell? ⟨w1.heap.size, 0, none⟩ = some (.bool s1) ∧ w'.cell? ⟨w1.heap.size, 1, none⟩ = some (.slice qa qn qc) ∧ w'.cell? ⟨w1.heap.size + 1, 0, none⟩ = some (.bool s2) ∧ w'.cell? ⟨w1.heap.size + 1, 1, none⟩ = some (.slice ra rn rc))
      (first | with_reducible exact ⟨f0, f1, f2, f3⟩ | with_reducible exact ⟨((yq.far (by dsimp only; omega) _).far (by dsimp only; omega) _).drew.c0, ((yq.far (by dsimp only; omega) _).far (by dsimp only; omega) _).drew.c1, ((yr.far (by dsimp only; omega) _).far (by dsimp only; omega) _).drew.c0, ((yr.far (by dsimp only; omega) _).far (by dsimp only; omega) _).drew.c1⟩ | with_reducible exact ⟨((((yq.far (by dsimp only; omega) _).far (by dsimp only; omega) _).far (by dsimp only; omega) _).far (by dsimp only; omega) _).drew.c0, ((((yq.far (by dsimp only; omega) _).far (by dsimp only; omega) _).far (by dsimp only; omega) _).far (by dsimp only; omega) _).drew.c1, ((((yr.far (by dsimp only; omega) _).far (by dsimp only; omega) _).far (by dsimp only; omega) _).far (by dsimp only; omega) _).drew.c0, ((((yr.far (by dsimp only; omega) _).far (by dsimp only; omega) _).far (by dsimp only; omega) _).far (by dsimp only; omega) _).drew.c1⟩ | go_keep)
      (fail)
    go_wp2_with fail
    rw [HZ.out.1, HZ.out.2.1, HZ.out.2.2]
    exact wret3 rfl rfl rfl rfl rfl hr ht (by omega) ((x1.out.next (Below.refl _ _).drew)) ((x2.out.next (Below.refl _ _).drew)) hWs hWs (by omega) (by omega) (hB.drew)
end
theorem rwfloor_num {w : World} {u v : Value} {a b : Int} {K L : Nat} (hu : Wh w u a K) (hv : Wh w v b L) (hK : K ≤ 100000) (hL : L ≤ 100000) : Calls Tryz.prog 73 #[u, v] w (W3 w (flQ a b) (flR a b) (quoE b)) := by
  by_cases hb : b = 0
  · subst hb; exact rwfloor_zero hu hv hK hL
  · by_cases hr : quoR a b = 0
    · exact rwfloor_even hu hv hK hL hb hr
    · exact rwfloor_left hu hv hK hL hb hr
end Go.Proofs.YtocnlapbkidinaaGreatDoor
