/-
  The document's own whole numbers: Floor.
-/
import Derived.Test.YtocnlapbkidinaaGreatDoorPn9
import Derived.Deep.QuietTactic
import Derived.BigQuiet
set_option linter.unusedVariables false
set_option linter.unusedSimpArgs false
set_option linter.unusedSectionVars false
set_option linter.unnecessarySimpa false
namespace Go.Proofs.YtocnlapbkidinaaGreatDoor
open Go.RowKit
section
variable {w : World} {u v : Value} {a b : Int} {K L : Nat}
theorem drewN_var {w : World} {g : Nat} {s x : Value} (h : Var w g s x) (n : Nat) : Var (w.drewN n) g s x := h
theorem field_0 (s : Bool) (A : Option Addr) (n c : Nat) (w : World) : (Instr.field 27 (.agg #[.bool s, .slice A n c]) 0).run Tryz.prog w = .ok (.bool s) w := by
  simp [Instr.field, go_sem, asAgg]
theorem drewN_below {w w' : World} {B : Nat} (h : Below B w w') (n : Nat) : Below B w (w'.drewN n) := h.trans ⟨rfl, rfl, rfl, Nat.le_refl _, fun _ _ => rfl⟩
set_option maxHeartbeats 3200000 in
theorem rwfloor_zero (hu : Wh w u a K) (hv : Wh w v 0 L) (hK : K ≤ 100000) (hL : L ≤ 100000) : Calls Tryz.prog 73 #[u, v] w (W3 w (flQ a 0) (flR a 0) (quoE 0)) := by
  have HZ := Lib.hid (show flQ a 0 = quoQ a 0 ∧ flR a 0 = quoR a 0 ∧ quoE 0 = 3 by unfold flQ flR quoQ quoR quoE; exact ⟨rfl, rfl, rfl⟩)
  obtain ⟨s, xA, xN, xC, rfl, hx0⟩ := hu.opened
  obtain ⟨t, yA, yN, yC, rfl, hy0⟩ := hv.opened
  obtain ⟨W, hW, hp, hq, hr, ht, hb⟩ := enter22r w (.bool s) (.slice xA xN xC) (.bool t) (.slice yA yN yC)
  have hx := (hx0.out.below hb)
  have hy := (hy0.out.below hb)
  clear hx0 hy0
  have HQ := rwquo_num hx hy (by omega) (by omega)
  rw [show quoE 0 = 3 from rfl] at HQ
  replace HQ := Lib.hid HQ
  have hgt := ht.lt
  have e0 := hp.c0
  have e1 := hp.c1
  have e2 := hq.c0
  have e3 := hq.c1
  rw [hW] at e0 e1 e2 e3
  go_enter Tryz.func73, Tryz.ntmps73
  go_wp2_with fail
  rw [← hW]
  refine HQ.out.mono ?_
  rintro e w1 ⟨v1, v2, rfl, x1, x2, b1⟩
  clear e0 e1 e2 e3 hW HQ
  obtain ⟨s1, qa, qn, qc, rfl, y1⟩ := x1.opened
  obtain ⟨s2, ra, rn, rc, rfl, y2⟩ := x2.opened
  obtain ⟨zq, zr⟩ := mk2 w1 (.bool s1) (.slice qa qn qc) (.bool s2) (.slice ra rn rc)
  have b2 : Below w1.heap.size w1 ((w1.alloc (.cells #[.bool s1, .slice qa qn qc] 27)).alloc (.cells #[.bool s2, .slice ra rn rc] 27)) := bnew (bnew (Below.refl _ _) _) _
  have b12 := (bnext b1 b2)
  clear x1 x2
  have x1 := Lib.hid (y1.out.next b2)
  have x2 := Lib.hid (y2.out.next b2)
  clear y1 y2
  replace hp := hp.next b12
  replace hq := hq.next b12
  replace hr := hr.next b12
  replace ht := ht.next b12
  replace hx := hx.below b12
  replace hy := hy.below b12
  have hB := bnext hb b12
  have hWs := hb.size
  have hW1 := b1.size
  obtain ⟨hrm, hrn⟩ := x2.out.nought
  obtain ⟨w2, hw2⟩ : ∃ w2, w2 = ((w1.alloc (.cells #[.bool s1, .slice qa qn qc] 27)).alloc (.cells #[.bool s2, .slice ra rn rc] 27)) := ⟨_, rfl⟩
  rw [← hw2] at x1 x2 zq zr hp hq hr ht hx hy hB
  clear b1 b2 b12
  have c1 := zr.c1
  go_wp2_with fail
  rw [← hw2]
  go_quiet (fail)
  replace zq := drewN_var zq nq
  replace zr := drewN_var zr nq
  replace hr := drewN_var hr nq
  replace ht := drewN_var ht nq
  replace x1 := Lib.hid (x1.out.next (drewN_below (Below.refl _ _) nq))
  replace x2 := Lib.hid (x2.out.next (drewN_below (Below.refl _ _) nq))
  replace hB := drewN_below hB nq
  clear hp hq hx hy c1 hw2
  generalize w2.drewN nq = w3 at *
  go_wp2_with fail
  obtain ⟨i1, i2, i3, i4, i5, i6⟩ := hr.room (.bool s1)
  obtain ⟨j1, j2, j3, j4, j5, j6⟩ := hr.room2 ht (Nat.succ_ne_self _) (.bool s1) (.slice qa qn qc) (.bool s2)
  have yq := zq
  have yr := zr
  replace zq := zq.drew
  replace zr := zr.drew
  replace hr := hr.drew
  replace ht := ht.drew
  have f0 := zq.c0
  have f1 := zq.c1
  have f2 := zr.c0
  have f3 := zr.c1
  obtain ⟨q1, q2, q3, q4, q5, q6⟩ := hr.room (.bool s1)
  obtain ⟨p1, p2, p3, p4, p5, p6⟩ := hr.room2 ht (Nat.succ_ne_self _) (.bool s1) (.slice qa qn qc) (.bool s2)
  go_region_held3 (fun w' => w'.cell? ⟨w1.heap.size, 0, none⟩ = some (.bool s1) ∧ w'.cell? ⟨w1.heap.size, 1, none⟩ = some (.slice qa qn qc) ∧ w'.cell? ⟨w1.heap.size + 1, 0, none⟩ = some (.bool s2) ∧ w'.cell? ⟨w1.heap.size + 1, 1, none⟩ = some (.slice ra rn rc))
    (first | with_reducible exact ⟨f0, f1, f2, f3⟩ | with_reducible exact ⟨((yq.far (by dsimp only; omega) _).far (by dsimp only; omega) _).drew.c0, ((yq.far (by dsimp only; omega) _).far (by dsimp only; omega) _).drew.c1, ((yr.far (by dsimp only; omega) _).far (by dsimp only; omega) _).drew.c0, ((yr.far (by dsimp only; omega) _).far (by dsimp only; omega) _).drew.c1⟩ | with_reducible exact ⟨((((yq.far (by dsimp only; omega) _).far (by dsimp only; omega) _).far (by dsimp only; omega) _).far (by dsimp only; omega) _).drew.c0, ((((yq.far (by dsimp only; omega) _).far (by dsimp only; omega) _).far (by dsimp only; omega) _).far (by dsimp only; omega) _).drew.c1, ((((yr.far (by dsimp only; omega) _).far (by dsimp only; omega) _).far (by dsimp only; omega) _).far (by dsimp only; omega) _).drew.c0, ((((yr.far (by dsimp only; omega) _).far (by dsimp only; omega) _).far (by dsimp only; omega) _).far (by dsimp only; omega) _).drew.c1⟩ | go_keep)
    (fail)
  go_wp2_with fail
  rw [HZ.out.1, HZ.out.2.1, HZ.out.2.2]
  exact wret3 rfl rfl rfl rfl rfl hr ht (by omega) ((x1.out.next (Below.refl _ _).drew)) ((x2.out.next (Below.refl _ _).drew)) hWs hWs (by omega) (by omega) (hB.drew)

set_option maxHeartbeats 3200000 in
theorem rwfloor_even (hu : Wh w u a K) (hv : Wh w v b L) (hK : K ≤ 100000) (hL : L ≤ 100000) (hb0 : b ≠ 0) (hr0 : quoR a b = 0) : Calls Tryz.prog 73 #[u, v] w (W3 w (flQ a b) (flR a b) (quoE b)) := by
  have hE : quoE b = 0 := by unfold quoE; rw [if_neg hb0]
  have HZ := Lib.hid (show flQ a b = quoQ a b ∧ flR a b = quoR a b ∧ quoE b = 0 by
    unfold flQ flR quoQ quoR at *
    rw [if_neg hb0] at hr0
    have : ¬ adj a b = true := by unfold adj; rw [hr0]; simp
    simp only [if_neg hb0, if_neg this]; exact ⟨trivial, trivial, hE⟩)
  clear hb0
  obtain ⟨s, xA, xN, xC, rfl, hx0⟩ := hu.opened
  obtain ⟨t, yA, yN, yC, rfl, hy0⟩ := hv.opened
  obtain ⟨W, hW, hp, hq, hr, ht, hb⟩ := enter22r w (.bool s) (.slice xA xN xC) (.bool t) (.slice yA yN yC)
  have hx := (hx0.out.below hb)
  have hy := (hy0.out.below hb)
  clear hx0 hy0
  have HQ := rwquo_num hx hy (by omega) (by omega)
  rw [hE] at HQ
  replace HQ := Lib.hid HQ
  clear hE
  have hgt := ht.lt
  have e0 := hp.c0
  have e1 := hp.c1
  have e2 := hq.c0
  have e3 := hq.c1
  rw [hW] at e0 e1 e2 e3
  go_enter Tryz.func73, Tryz.ntmps73
  go_wp2_with fail
  rw [← hW]
  refine HQ.out.mono ?_
  rintro e w1 ⟨v1, v2, rfl, x1, x2, b1⟩
  clear e0 e1 e2 e3 hW HQ
  obtain ⟨s1, qa, qn, qc, rfl, y1⟩ := x1.opened
  obtain ⟨s2, ra, rn, rc, rfl, y2⟩ := x2.opened
  obtain ⟨zq, zr⟩ := mk2 w1 (.bool s1) (.slice qa qn qc) (.bool s2) (.slice ra rn rc)
  have b2 : Below w1.heap.size w1 ((w1.alloc (.cells #[.bool s1, .slice qa qn qc] 27)).alloc (.cells #[.bool s2, .slice ra rn rc] 27)) := bnew (bnew (Below.refl _ _) _) _
  have b12 := (bnext b1 b2)
  clear x1 x2
  have x1 := Lib.hid (y1.out.next b2)
  have x2 := Lib.hid (y2.out.next b2)
  clear y1 y2
  replace hp := hp.next b12
  replace hq := hq.next b12
  replace hr := hr.next b12
  replace ht := ht.next b12
  replace hx := hx.below b12
  replace hy := hy.below b12
  have hB := bnext hb b12
  have hWs := hb.size
  have hW1 := b1.size
  obtain ⟨hrm, hrn⟩ := x2.out.nought
  obtain ⟨w2, hw2⟩ : ∃ w2, w2 = ((w1.alloc (.cells #[.bool s1, .slice qa qn qc] 27)).alloc (.cells #[.bool s2, .slice ra rn rc] 27)) := ⟨_, rfl⟩
  rw [← hw2] at x1 x2 zq zr hp hq hr ht hx hy hB
  clear b1 b2 b12
  have c1 := zr.c1
  obtain rfl : rn = 0 := hrn.2 hr0
  clear hrn hr0 hrm
  go_wp2_with fail
  rw [← hw2]
  go_quiet (fail)
  replace zq := drewN_var zq nq
  replace zr := drewN_var zr nq
  replace hr := drewN_var hr nq
  replace ht := drewN_var ht nq
  replace x1 := Lib.hid (x1.out.next (drewN_below (Below.refl _ _) nq))
  replace x2 := Lib.hid (x2.out.next (drewN_below (Below.refl _ _) nq))
  replace hB := drewN_below hB nq
  clear hp hq hx hy c1 hw2
  generalize w2.drewN nq = w3 at *
  go_wp2_with fail
  obtain ⟨i1, i2, i3, i4, i5, i6⟩ := hr.room (.bool s1)
  obtain ⟨j1, j2, j3, j4, j5, j6⟩ := hr.room2 ht (Nat.succ_ne_self _) (.bool s1) (.slice qa qn qc) (.bool s2)
  have yq := zq
  have yr := zr
  replace zq := zq.drew
  replace zr := zr.drew
  replace hr := hr.drew
  replace ht := ht.drew
  have f0 := zq.c0
  have f1 := zq.c1
  have f2 := zr.c0
  have f3 := zr.c1
  obtain ⟨q1, q2, q3, q4, q5, q6⟩ := hr.room (.bool s1)
  obtain ⟨p1, p2, p3, p4, p5, p6⟩ := hr.room2 ht (Nat.succ_ne_self _) (.bool s1) (.slice qa qn qc) (.bool s2)
  go_region_held3 (fun w' => w'.cell? ⟨w1.heap.size, 0, none⟩ = some (.bool s1) ∧ w'.cell? ⟨w1.heap.size, 1, none⟩ = some (.slice qa qn qc) ∧ w'.cell? ⟨w1.heap.size + 1, 0, none⟩ = some (.bool s2) ∧ w'.cell? ⟨w1.heap.size + 1, 1, none⟩ = some (.slice ra 0 rc))
    (first | with_reducible exact ⟨f0, f1, f2, f3⟩ | with_reducible exact ⟨((yq.far (by dsimp only; omega) _).far (by dsimp only; omega) _).drew.c0, ((yq.far (by dsimp only; omega) _).far (by dsimp only; omega) _).drew.c1, ((yr.far (by dsimp only; omega) _).far (by dsimp only; omega) _).drew.c0, ((yr.far (by dsimp only; omega) _).far (by dsimp only; omega) _).drew.c1⟩ | with_reducible exact ⟨((((yq.far (by dsimp only; omega) _).far (by dsimp only; omega) _).far (by dsimp only; omega) _).far (by dsimp only; omega) _).drew.c0, ((((yq.far (by dsimp only; omega) _).far (by dsimp only; omega) _).far (by dsimp only; omega) _).far (by dsimp only; omega) _).drew.c1, ((((yr.far (by dsimp only; omega) _).far (by dsimp only; omega) _).far (by dsimp only; omega) _).far (by dsimp only; omega) _).drew.c0, ((((yr.far (by dsimp only; omega) _).far (by dsimp only; omega) _).far (by dsimp only; omega) _).far (by dsimp only; omega) _).drew.c1⟩ | go_keep)
    (fail)
  go_wp2_with fail
  rw [HZ.out.1, HZ.out.2.1, HZ.out.2.2]
  exact wret3 rfl rfl rfl rfl rfl hr ht (by omega) ((x1.out.next (Below.refl _ _).drew)) ((x2.out.next (Below.refl _ _).drew)) hWs hWs (by omega) (by omega) (hB.drew)

end
end Go.Proofs.YtocnlapbkidinaaGreatDoor
