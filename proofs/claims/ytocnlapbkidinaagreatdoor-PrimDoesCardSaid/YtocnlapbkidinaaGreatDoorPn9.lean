/-
  The document's own whole numbers: Mul, Add, Cmp, Sub. The document's own whole numbers: Cmp. The document's own whole numbers: Quo.
-/
import Derived.Test.YtocnlapbkidinaaGreatDoorPn6
import Derived.Test.YtocnlapbkidinaaGreatDoorPn5
import Derived.Test.YtocnlapbkidinaaGreatDoorPn7
import Derived.Test.YtocnlapbkidinaaGreatDoorPn8
set_option linter.unusedVariables false
set_option linter.unusedSimpArgs false
set_option linter.unusedSectionVars false
set_option linter.unnecessarySimpa false
namespace Go.Proofs.YtocnlapbkidinaaGreatDoor
section
open Go.RowKit
theorem WNew.sgn {w : World} {base : Nat} {b : Bool} {x : Value} {z : Int} (h : WNew w base (.agg #[.bool b, x]) z) : z = zOf b z.natAbs := by
  obtain ⟨y, e, hn⟩ := h
  have e' : b = decide (z < 0) ∧ x = y := by simpa using e
  rw [e'.1]; exact zOf_self z
theorem WNew.num_ {w : World} {base : Nat} {b : Bool} {x : Value} {z : Int} (h : WNew w base (.agg #[.bool b, x]) z) (K : Nat) (hz : z.natAbs < 4294967296 ^ K) : Num w x z.natAbs K := by
  obtain ⟨y, e, hn⟩ := h
  have e' : b = decide (z < 0) ∧ x = y := by simpa using e
  rw [e'.2]; exact hn.num K hz
theorem zOf_mul' (s t : Bool) (m n : Nat) : zOf s m * zOf t n = zOf (!(s == t)) (m * n) := by cases s <;> cases t <;> simp [zOf, Int.neg_mul, Int.mul_neg]
section
variable {w : World} {u v : Value} {a b : Int} {K L : Nat}
set_option maxHeartbeats 3200000 in
theorem rwmul_num (hu : Wh w u a K) (hv : Wh w v b L) (hK : K ≤ 400000) (hL : L ≤ 400000) : Calls Tryz.prog 70 #[u, v] w (WGives w (a * b)) := by
  obtain ⟨s, xA, xN, xC, rfl, hx0⟩ := hu.opened
  obtain ⟨t, yA, yN, yC, rfl, hy0⟩ := hv.opened
  obtain ⟨W, hW, hp, hq, hr, hb⟩ := enter2r w (.bool s) (.slice xA xN xC) (.bool t) (.slice yA yN yC)
  have hx := (hx0.out.below hb)
  have hy := (hy0.out.below hb)
  clear hx0 hy0
  have hK : K ≤ 1000000 := by omega
  have hL : L ≤ 1000000 := by omega
  go_enter Tryz.func70, Tryz.ntmps70
  go_wp2_with fail
  rw [← hW]
  clear hW
  refine region_two (H := ⟨rfl, ⟨rfl, rfl, rfl⟩, ⟨rfl, rfl, rfl⟩, ⟨rfl, rfl, rfl⟩, ⟨rfl, rfl, rfl⟩, ⟨rfl, rfl, rfl⟩, ⟨rfl, rfl, rfl⟩, ⟨rfl, rfl, rfl⟩, ⟨rfl, rfl, rfl⟩, by kernel_rfl, by kernel_rfl, by kernel_rfl, by kernel_rfl, by kernel_rfl, by kernel_rfl⟩) (by kernel_rfl) (by kernel_rfl) (by decide) (by simp) rfl rfl hp hq (fun v w => by simp [go_sem]) (fun w hw => rwnorm_num (hx.below hw) (by omega)) (fun w hw => rwnorm_num (hy.below hw) (by omega)) ?_
  intro g h b1 xa xn xc b2 ya yn yc w2 zx zy hgh hg hh hn1 hn2 hb2
  simp only [Act.put, List.setIfInBounds_toArray, List.set_cons_zero, List.set_cons_succ]
  obtain ⟨m1, hm1⟩ : ∃ m, m = a.natAbs := ⟨_, rfl⟩
  obtain ⟨m2, hm2⟩ : ∃ m, m = b.natAbs := ⟨_, rfl⟩
  have ea : a = zOf b1 m1 := by rw [hm1]; exact hn1.out.sgn
  have eb : b = zOf b2 m2 := by rw [hm2]; exact hn2.out.sgn
  have NX : ∀ w', WNew w' W.heap.size (.agg #[.bool b1, .slice xa xn xc]) a → Num w' (.slice xa xn xc) m1 K := fun w' h => by rw [hm1]; exact h.num_ K hu.lt
  have NY : ∀ w', WNew w' W.heap.size (.agg #[.bool b2, .slice ya yn yc]) b → Num w' (.slice ya yn yc) m2 L := fun w' h => by rw [hm2]; exact h.num_ L hv.lt
  replace NX := Lib.hid NX
  replace NY := Lib.hid NY
  have hx2 := NX.out _ hn1.out
  have hy2 := NY.out _ hn2.out
  have hgl := hr.lt
  clear hm1 hm2
  have HZ := Lib.hid (show a * b = zOf (b1 != b2) (m1 * m2) by rw [ea, eb, zOf_mul])
  clear hp hq ea eb hn1 hn2 NX NY hu hv
  replace hr := hr.next hb2
  replace hx2 := hx2.drew
  replace hy2 := hy2.drew
  go_wp2_with fail
  replace zx := zx.drew
  have zxd0 := zx.c0
  have zxd1 := zx.c1
  replace zy := zy.drew
  have zyd0 := zy.c0
  have zyd1 := zy.c1
  replace hr := hr.drew
  go_region_held3 (fun w' => w'.cell? ⟨g, 0, none⟩ = some (.bool b1) ∧ w'.cell? ⟨g, 1, none⟩ = some (.slice xa xn xc) ∧ w'.cell? ⟨h, 0, none⟩ = some (.bool b2) ∧ w'.cell? ⟨h, 1, none⟩ = some (.slice ya yn yc))
    (first | exact ⟨zx.c0, zx.c1, zy.c0, zy.c1⟩ | exact ⟨zx1.c0, zx1.c1, zy1.c0, zy1.c1⟩ | exact ⟨zx2.c0, zx2.c1, zy2.c0, zy2.c1⟩ | exact ⟨((zx2.far (by dsimp only; omega) _).far (by dsimp only; omega) _).c0, ((zx2.far (by dsimp only; omega) _).far (by dsimp only; omega) _).c1, ((zy2.far (by dsimp only; omega) _).far (by dsimp only; omega) _).c0, ((zy2.far (by dsimp only; omega) _).far (by dsimp only; omega) _).c1⟩ | go_keep)
    (first
    | (go_at_call 105; refine (rmul_num hx2 hy2 (by omega) (by omega)).mono ?_; rintro e w1 ⟨v, rfl, hv1, hb1⟩; obtain ⟨na, nn, nc, rfl, -, -⟩ := hv1.nought; have zx1 := zx.next hb1; have zy1 := zy.next hb1; have hr1 := hr.next hb1)
    | (go_at_call 33; refine (rwnorm_num (u := .agg #[.bool (b1 != b2), .slice na nn nc]) ⟨(b1 != b2), _, _, rfl, hv1.num (K + L) (lt_mul hx2.lt hy2.lt), rfl⟩ (by omega)).mono ?_; rintro e w2 ⟨v2, rfl, hv3, hb3⟩; obtain ⟨b, va, vn, vc, rfl, hnew⟩ := hv3.opened; have zx2 := zx1.next hb3; have zy2 := zy1.next hb3; have hr2 := hr1.next hb3; obtain ⟨q1, q2, q3, q4, q5, q6⟩ := hr2.room (.bool b)))
  go_wp2_with fail
  exact wret rfl rfl rfl hr2 (by rw [HZ.out]; exact hnew.out) (Nat.le_trans (bnext hb hb2).drew.size hb1.size) (by omega) (bnext (bnext (bnext hb hb2).drew hb1) hb3)

set_option maxHeartbeats 3200000 in
theorem rwadd_num (hu : Wh w u a K) (hv : Wh w v b L) (hK : K ≤ 400000) (hL : L ≤ 400000) : Calls Tryz.prog 68 #[u, v] w (WGives w (a + b)) := by
  obtain ⟨s, xA, xN, xC, rfl, hx0⟩ := hu.opened
  obtain ⟨t, yA, yN, yC, rfl, hy0⟩ := hv.opened
  obtain ⟨W, hW, hp, hq, hr, hb⟩ := enter2r w (.bool s) (.slice xA xN xC) (.bool t) (.slice yA yN yC)
  have hx := (hx0.out.below hb)
  have hy := (hy0.out.below hb)
  clear hx0 hy0
  have hK : K ≤ 1000000 := by omega
  have hL : L ≤ 1000000 := by omega
  go_enter Tryz.func68, Tryz.ntmps68
  go_wp2_with fail
  rw [← hW]
  clear hW
  refine region_two (H := ⟨rfl, ⟨rfl, rfl, rfl⟩, ⟨rfl, rfl, rfl⟩, ⟨rfl, rfl, rfl⟩, ⟨rfl, rfl, rfl⟩, ⟨rfl, rfl, rfl⟩, ⟨rfl, rfl, rfl⟩, ⟨rfl, rfl, rfl⟩, ⟨rfl, rfl, rfl⟩, by kernel_rfl, by kernel_rfl, by kernel_rfl, by kernel_rfl, by kernel_rfl, by kernel_rfl⟩) (by kernel_rfl) (by kernel_rfl) (by decide) (by simp) rfl rfl hp hq (fun v w => by simp [go_sem]) (fun w hw => rwnorm_num (hx.below hw) (by omega)) (fun w hw => rwnorm_num (hy.below hw) (by omega)) ?_
  intro g h b1 xa xn xc b2 ya yn yc w2 zx zy hgh hg hh hn1 hn2 hb2
  simp only [Act.put, List.setIfInBounds_toArray, List.set_cons_zero, List.set_cons_succ]
  obtain ⟨m1, hm1⟩ : ∃ m, m = a.natAbs := ⟨_, rfl⟩
  obtain ⟨m2, hm2⟩ : ∃ m, m = b.natAbs := ⟨_, rfl⟩
  have ea : a = zOf b1 m1 := by rw [hm1]; exact hn1.out.sgn
  have eb : b = zOf b2 m2 := by rw [hm2]; exact hn2.out.sgn
  have NX : ∀ w', WNew w' W.heap.size (.agg #[.bool b1, .slice xa xn xc]) a → Num w' (.slice xa xn xc) m1 K := fun w' h => by rw [hm1]; exact h.num_ K hu.lt
  have NY : ∀ w', WNew w' W.heap.size (.agg #[.bool b2, .slice ya yn yc]) b → Num w' (.slice ya yn yc) m2 L := fun w' h => by rw [hm2]; exact h.num_ L hv.lt
  replace NX := Lib.hid NX
  replace NY := Lib.hid NY
  have hx2 := NX.out _ hn1.out
  have hy2 := NY.out _ hn2.out
  have hgl := hr.lt
  clear hm1 hm2
  have HA : a + b = zOf b1 m1 + zOf b2 m2 := by rw [← ea, ← eb]
  clear hp hq ea eb hu hv
  replace hr := hr.next hb2
  by_cases hst : b1 = b2
  · subst hst
    have HZ := Lib.hid (HA.trans (zOf_add_same _ _ _))
    clear HA
    have hss : (b1 == b1) = true := by cases b1 <;> rfl
    have e0 := zx.c0
    have e1 := zy.c0
    go_wp2_with fail
    clear e0 e1
    replace hx2 := hx2.drew
    replace hy2 := hy2.drew
    replace zx := zx.drew
    have zxd0 := zx.c0
    have zxd1 := zx.c1
    replace zy := zy.drew
    have zyd0 := zy.c0
    have zyd1 := zy.c1
    replace hr := hr.drew
    go_region_held3 (fun w' => w'.cell? ⟨g, 0, none⟩ = some (.bool b1) ∧ w'.cell? ⟨g, 1, none⟩ = some (.slice xa xn xc) ∧ w'.cell? ⟨h, 0, none⟩ = some (.bool b1) ∧ w'.cell? ⟨h, 1, none⟩ = some (.slice ya yn yc))
      (first | exact ⟨zx.c0, zx.c1, zy.c0, zy.c1⟩ | exact ⟨zx1.c0, zx1.c1, zy1.c0, zy1.c1⟩ | exact ⟨zx2.c0, zx2.c1, zy2.c0, zy2.c1⟩ | exact ⟨((zx2.far (by dsimp only; omega) _).far (by dsimp only; omega) _).c0, ((zx2.far (by dsimp only; omega) _).far (by dsimp only; omega) _).c1, ((zy2.far (by dsimp only; omega) _).far (by dsimp only; omega) _).c0, ((zy2.far (by dsimp only; omega) _).far (by dsimp only; omega) _).c1⟩ | go_keep)
      (first
      | (go_at_call 101; refine (radd_num hx2 hy2 (by omega) (by omega)).mono ?_; rintro e w1 ⟨v, rfl, hv1, hb1⟩; obtain ⟨na, nn, nc, rfl, -, -⟩ := hv1.nought; have zx1 := zx.next hb1; have zy1 := zy.next hb1; have hr1 := hr.next hb1)
      | (go_at_call 33; refine (rwnorm_num (u := .agg #[.bool b1, .slice na nn nc]) ⟨b1, _, _, rfl, hv1.num (max K L + 1) (lt_add hx2.lt hy2.lt), rfl⟩ (by omega)).mono ?_; rintro e w2 ⟨v2, rfl, hv3, hb3⟩; obtain ⟨b, va, vn, vc, rfl, hnew⟩ := hv3.opened; have zx2 := zx1.next hb3; have zy2 := zy1.next hb3; have hr2 := hr1.next hb3; obtain ⟨q1, q2, q3, q4, q5, q6⟩ := hr2.room (.bool b)))
    go_wp2_with fail
    exact wret rfl rfl rfl hr2 (by rw [HZ.out]; exact hnew.out) (Nat.le_trans (bnext hb hb2).drew.size hb1.size) (by omega) (bnext (bnext (bnext hb hb2).drew hb1) hb3)
  · have hne : (b1 == b2) = false := by cases b1 <;> cases b2 <;> simp at *
    by_cases hlt : m1 < m2
    · have HZ := Lib.hid (HA.trans (zOf_add_less hst hlt))
      clear HA
      have hc := (cmpN_neg_iff m1 m2).2 hlt
      have HC := Lib.hid (rcmp_num hx2 hy2 (by omega) (by omega))
      clear hst hlt
      have e0 := zx.c0
      have e1 := zy.c0
      have e2 := zx.c1
      have e3 := zy.c1
      go_wp2_with fail
      refine HC.out.mono ?_
      rintro e w3 ⟨rfl, hb3⟩
      clear e0 e1 e2 e3 hne HC
      replace zx := zx.next hb3
      replace zy := zy.next hb3
      replace hr := hr.next hb3
      replace hn1 := Lib.hid (hn1.out.next hb3)
      replace hn2 := Lib.hid (hn2.out.next hb3)
      have e0 := zx.c0
      have e1 := zx.c1
      have e2 := zy.c0
      have e3 := zy.c1
      obtain ⟨r1, r2, r3, r4, r5, r6⟩ := zx.room (.bool b2)
      obtain ⟨t1, t2, t3, t4, t5, t6⟩ := zx.room2 zy hgh.symm (.bool b2) (.slice ya yn yc) (.bool b1)
      go_wp2_with fail
      clear e0 e1 e2 e3 r1 r2 r3 r4 r5 r6 t1 t2 t3 t4 t5 t6
      have hgh' : h ≠ g := hgh.symm
      have hrg : w.heap.size + 2 ≠ g := by omega
      have hrh : w.heap.size + 2 ≠ h := by omega
      have vx := (((zx.set0 (.bool b2)).set1 (.slice ya yn yc)).far (p := ⟨h, 0, none⟩) hgh (.bool b1)).far (p := ⟨h, 1, none⟩) hgh (.slice xa xn xc)
      have vy0 := ((zy.far (p := ⟨g, 0, none⟩) hgh' (.bool b2)).far (p := ⟨g, 1, none⟩) hgh' (.slice ya yn yc))
      have vy := (vy0.set0 (.bool b1)).set1 (.slice xa xn xc)
      have vr := (((hr.far (p := ⟨g, 0, none⟩) hrg (.bool b2)).far (p := ⟨g, 1, none⟩) hrg (.slice ya yn yc)).far (p := ⟨h, 0, none⟩) hrh (.bool b1)).far (p := ⟨h, 1, none⟩) hrh (.slice xa xn xc)
      have n1 := NX.out _ (WNew.farSet (vy0.set0 (.bool b1)) (WNew.farSet vy0 (WNew.farSet (zx.set0 (.bool b2)) (WNew.farSet zx hn1.out 0 (.bool b2)) 1 (.slice ya yn yc)) 0 (.bool b1)) 1 (.slice xa xn xc))
      have n2 := NY.out _ (WNew.farSet (vy0.set0 (.bool b1)) (WNew.farSet vy0 (WNew.farSet (zx.set0 (.bool b2)) (WNew.farSet zx hn2.out 0 (.bool b2)) 1 (.slice ya yn yc)) 0 (.bool b1)) 1 (.slice xa xn xc))
      have hb4 : Below W.heap.size W ((((w3.setCell ⟨g, 0, none⟩ (.bool b2)).setCell ⟨g, 1, none⟩ (.slice ya yn yc)).setCell ⟨h, 0, none⟩ (.bool b1)).setCell ⟨h, 1, none⟩ (.slice xa xn xc)) := ((((bnext hb2 hb3).setCell (p := ⟨g, 0, none⟩) hg _).setCell (p := ⟨g, 1, none⟩) hg _).setCell (p := ⟨h, 0, none⟩) hh _).setCell (p := ⟨h, 1, none⟩) hh _
      clear zx zy hr hb2 hx2 hy2 hn1 hn2 vy0
      generalize ((((w3.setCell ⟨g, 0, none⟩ (.bool b2)).setCell ⟨g, 1, none⟩ (.slice ya yn yc)).setCell ⟨h, 0, none⟩ (.bool b1)).setCell ⟨h, 1, none⟩ (.slice xa xn xc)) = w4 at *
      have hx2 := n1.drew
      have hy2 := n2.drew
      have zx := vx
      have zy := vy
      have hr := vr
      have hb2 := hb4
      clear n1 n2 vx vy vr hb4 NX NY hb3
      replace zx := zx.drew
      have zxd0 := zx.c0
      have zxd1 := zx.c1
      replace zy := zy.drew
      have zyd0 := zy.c0
      have zyd1 := zy.c1
      replace hr := hr.drew
      go_region_held3 (fun w' => w'.cell? ⟨g, 0, none⟩ = some (.bool b2) ∧ w'.cell? ⟨g, 1, none⟩ = some (.slice ya yn yc) ∧ w'.cell? ⟨h, 0, none⟩ = some (.bool b1) ∧ w'.cell? ⟨h, 1, none⟩ = some (.slice xa xn xc))
        (first | exact ⟨zx.c0, zx.c1, zy.c0, zy.c1⟩ | exact ⟨zx1.c0, zx1.c1, zy1.c0, zy1.c1⟩ | exact ⟨zx2.c0, zx2.c1, zy2.c0, zy2.c1⟩ | exact ⟨((zx2.far (by dsimp only; omega) _).far (by dsimp only; omega) _).c0, ((zx2.far (by dsimp only; omega) _).far (by dsimp only; omega) _).c1, ((zy2.far (by dsimp only; omega) _).far (by dsimp only; omega) _).c0, ((zy2.far (by dsimp only; omega) _).far (by dsimp only; omega) _).c1⟩ | go_keep)
        (first
        | (go_at_call 103; refine (rsub_num hy2 hx2 (by omega) (by omega)).mono ?_; rintro e w1 ⟨v, rfl, hv1, hb1⟩; obtain ⟨na, nn, nc, rfl, -, -⟩ := hv1.nought; have zx1 := zx.next hb1; have zy1 := zy.next hb1; have hr1 := hr.next hb1)
        | (go_at_call 33; refine (rwnorm_num (u := .agg #[.bool b2, .slice na nn nc]) ⟨b2, _, _, rfl, hv1.num L (Nat.lt_of_le_of_lt (Nat.sub_le _ _) hy2.lt), rfl⟩ (by omega)).mono ?_; rintro e w2 ⟨v2, rfl, hv3, hb3⟩; obtain ⟨b, va, vn, vc, rfl, hnew⟩ := hv3.opened; have zx2 := zx1.next hb3; have zy2 := zy1.next hb3; have hr2 := hr1.next hb3; obtain ⟨q1, q2, q3, q4, q5, q6⟩ := hr2.room (.bool b)))
      go_wp2_with fail
      exact wret rfl rfl rfl hr2 (by rw [HZ.out]; exact hnew.out) (Nat.le_trans (bnext hb hb2).drew.size hb1.size) (by omega) (bnext (bnext (bnext hb hb2).drew hb1) hb3)
    · have HZ := Lib.hid (HA.trans (zOf_add_more hst hlt))
      clear HA
      have hc : ¬ cmpN m1 m2 < 0 := fun h => hlt ((cmpN_neg_iff _ _).1 h)
      have HC := Lib.hid (rcmp_num hx2 hy2 (by omega) (by omega))
      clear hst hlt
      have e0 := zx.c0
      have e1 := zy.c0
      have e2 := zx.c1
      have e3 := zy.c1
      go_wp2_with fail
      refine HC.out.mono ?_
      rintro e w3 ⟨rfl, hb3⟩
      clear e0 e1 e2 e3 hne HC
      replace zx := zx.next hb3
      replace zy := zy.next hb3
      replace hr := hr.next hb3
      replace hx2 := (hx2.below hb3).drew
      replace hy2 := (hy2.below hb3).drew
      replace hb2 := bnext hb2 hb3
      clear hn1 hn2 hb3 NX NY
      go_wp2_with fail
      replace zx := zx.drew
      have zxd0 := zx.c0
      have zxd1 := zx.c1
      replace zy := zy.drew
      have zyd0 := zy.c0
      have zyd1 := zy.c1
      replace hr := hr.drew
      go_region_held3 (fun w' => w'.cell? ⟨g, 0, none⟩ = some (.bool b1) ∧ w'.cell? ⟨g, 1, none⟩ = some (.slice xa xn xc) ∧ w'.cell? ⟨h, 0, none⟩ = some (.bool b2) ∧ w'.cell? ⟨h, 1, none⟩ = some (.slice ya yn yc))
        (first | exact ⟨zx.c0, zx.c1, zy.c0, zy.c1⟩ | exact ⟨zx1.c0, zx1.c1, zy1.c0, zy1.c1⟩ | exact ⟨zx2.c0, zx2.c1, zy2.c0, zy2.c1⟩ | exact ⟨((zx2.far (by dsimp only; omega) _).far (by dsimp only; omega) _).c0, ((zx2.far (by dsimp only; omega) _).far (by dsimp only; omega) _).c1, ((zy2.far (by dsimp only; omega) _).far (by dsimp only; omega) _).c0, ((zy2.far (by dsimp only; omega) _).far (by dsimp only; omega) _).c1⟩ | go_keep)
        (first
        | (go_at_call 103; refine (rsub_num hx2 hy2 (by omega) (by omega)).mono ?_; rintro e w1 ⟨v, rfl, hv1, hb1⟩; obtain ⟨na, nn, nc, rfl, -, -⟩ := hv1.nought; have zx1 := zx.next hb1; have zy1 := zy.next hb1; have hr1 := hr.next hb1)
        | (go_at_call 33; refine (rwnorm_num (u := .agg #[.bool b1, .slice na nn nc]) ⟨b1, _, _, rfl, hv1.num K (Nat.lt_of_le_of_lt (Nat.sub_le _ _) hx2.lt), rfl⟩ (by omega)).mono ?_; rintro e w2 ⟨v2, rfl, hv3, hb3⟩; obtain ⟨b, va, vn, vc, rfl, hnew⟩ := hv3.opened; have zx2 := zx1.next hb3; have zy2 := zy1.next hb3; have hr2 := hr1.next hb3; obtain ⟨q1, q2, q3, q4, q5, q6⟩ := hr2.room (.bool b)))
      go_wp2_with fail
      exact wret rfl rfl rfl hr2 (by rw [HZ.out]; exact hnew.out) (Nat.le_trans (bnext hb hb2).drew.size hb1.size) (by omega) (bnext (bnext (bnext hb hb2).drew hb1) hb3)

set_option maxHeartbeats 3200000 in
theorem rwsub_num (hu : Wh w u a K) (hv : Wh w v b L) (hK : K ≤ 400000) (hL : L ≤ 400000) : Calls Tryz.prog 69 #[u, v] w (WGives w (a - b)) := by
  have lb := lt_negZ hv.lt
  rw [Int.sub_eq_add_neg]
  obtain ⟨s, xA, xN, xC, rfl, hx⟩ := hu.opened
  obtain ⟨t, yA, yN, yC, rfl, hy⟩ := hv.opened
  clear hu hv
  obtain ⟨W, hW, hp, hq, hr, hb⟩ := enter2r w (.bool s) (.slice xA xN xC) (.bool t) (.slice yA yN yC)
  have hx1 := Lib.hid (hx.out.below hb).drew
  have hy1 := Lib.hid (hy.out.below hb).drew
  go_enter Tryz.func69, Tryz.ntmps69
  go_wp2_with fail
  rw [← hW]
  clear hW
  replace hp := hp.drew
  have hp0 := hp.c0
  have hp1 := hp.c1
  replace hq := hq.drew
  have hq0 := hq.c0
  have hq1 := hq.c1
  replace hr := hr.drew
  go_region_held3 (fun w' => w'.cell? ⟨w.heap.size, 0, none⟩ = some (.bool s) ∧ w'.cell? ⟨w.heap.size, 1, none⟩ = some (.slice xA xN xC) ∧ w'.cell? ⟨w.heap.size + 1, 0, none⟩ = some (.bool t) ∧ w'.cell? ⟨w.heap.size + 1, 1, none⟩ = some (.slice yA yN yC))
    (first | exact ⟨hp1.c0, hp1.c1, hq1.c0, hq1.c1⟩ | exact ⟨hp2.c0, hp2.c1, hq2.c0, hq2.c1⟩ | exact ⟨((hp2.far (by dsimp only; omega) _).far (by dsimp only; omega) _).c0, ((hp2.far (by dsimp only; omega) _).far (by dsimp only; omega) _).c1, ((hq2.far (by dsimp only; omega) _).far (by dsimp only; omega) _).c0, ((hq2.far (by dsimp only; omega) _).far (by dsimp only; omega) _).c1⟩ | go_keep)
    (first
    | (go_at_call 104; refine (rwneg_num hy1.out (by omega)).mono ?_; rintro e w1 ⟨v, rfl, hv, hb1⟩; have hp1 := hp.next hb1; have hq1 := hq.next hb1; have hr1 := hr.next hb1)
    | (go_at_call 68; refine (rwadd_num (hx1.out.below hb1) (hv.wh L lb) hK hL).mono ?_; rintro e w2 ⟨u, rfl, hu, hb2⟩; obtain ⟨b, xa, xn, xc, rfl, hnew⟩ := hu.opened; have hp2 := hp1.next hb2; have hq2 := hq1.next hb2; have hr2 := hr1.next hb2; obtain ⟨q1, q2, q3, q4, q5, q6⟩ := hr2.room (.bool b)))
  go_wp2_with fail
  exact wret rfl rfl rfl hr2 hnew.out (Nat.le_trans hb.drew.size hb1.size) (by omega) (bnext (bnext hb.drew hb1) hb2)
end
end
end Go.Proofs.YtocnlapbkidinaaGreatDoor
namespace Go.Proofs.YtocnlapbkidinaaGreatDoor
section
open Go.RowKit
theorem WNew.neg {w : World} {base : Nat} {b : Bool} {x : Value} {z : Int} (h : WNew w base (.agg #[.bool b, x]) z) : b = decide (z < 0) := by
  obtain ⟨y, e, hn⟩ := h
  have e' : b = decide (z < 0) ∧ x = y := by simpa using e
  exact e'.1
theorem cmpN_bd' (m n : Nat) : -1 ≤ cmpN m n ∧ cmpN m n ≤ 1 := by unfold cmpN; split <;> (try split) <;> omega
theorem cmpN_swap' (m n : Nat) : cmpN n m = -cmpN m n := by unfold cmpN; split <;> (try split) <;> (try split) <;> omega
section
variable {w : World} {u v : Value} {a b : Int} {K L : Nat}
set_option maxHeartbeats 3200000 in
theorem rwcmp_num (hu : Wh w u a K) (hv : Wh w v b L) (hK : K ≤ 400000) (hL : L ≤ 400000) : Calls Tryz.prog 71 #[u, v] w fun e w' => e = .returned (.int .i64 (cmpZ a b)) ∧ Below w.heap.size w w' := by
  obtain ⟨s, xA, xN, xC, rfl, hx0⟩ := hu.opened
  obtain ⟨t, yA, yN, yC, rfl, hy0⟩ := hv.opened
  obtain ⟨W, hW, hp, hq, hb⟩ := enter2 w (.bool s) (.slice xA xN xC) (.bool t) (.slice yA yN yC)
  have hx := (hx0.out.below hb)
  have hy := (hy0.out.below hb)
  clear hx0 hy0
  have hK : K ≤ 1000000 := by omega
  have hL : L ≤ 1000000 := by omega
  go_enter Tryz.func71, Tryz.ntmps71
  go_wp2_with fail
  rw [← hW]
  clear hW
  refine region_two (H := ⟨rfl, ⟨rfl, rfl, rfl⟩, ⟨rfl, rfl, rfl⟩, ⟨rfl, rfl, rfl⟩, ⟨rfl, rfl, rfl⟩, ⟨rfl, rfl, rfl⟩, ⟨rfl, rfl, rfl⟩, ⟨rfl, rfl, rfl⟩, ⟨rfl, rfl, rfl⟩, by kernel_rfl, by kernel_rfl, by kernel_rfl, by kernel_rfl, by kernel_rfl, by kernel_rfl⟩) (by kernel_rfl) (by kernel_rfl) (by decide) (by simp) rfl rfl hp hq (fun v w => by simp [go_sem]) (fun w hw => rwnorm_num (hx.below hw) (by omega)) (fun w hw => rwnorm_num (hy.below hw) (by omega)) ?_
  intro g h b1 xa xn xc b2 ya yn yc w2 zx zy hgh hg hh hn1 hn2 hb2
  simp only [Act.put, List.setIfInBounds_toArray, List.set_cons_zero, List.set_cons_succ]
  obtain ⟨m1, hm1⟩ : ∃ m, m = a.natAbs := ⟨_, rfl⟩
  obtain ⟨m2, hm2⟩ : ∃ m, m = b.natAbs := ⟨_, rfl⟩
  have ea : a = zOf b1 m1 := by rw [hm1]; exact hn1.out.sgn
  have eb : b = zOf b2 m2 := by rw [hm2]; exact hn2.out.sgn
  have NX : ∀ w', WNew w' W.heap.size (.agg #[.bool b1, .slice xa xn xc]) a → Num w' (.slice xa xn xc) m1 K := fun w' h => by rw [hm1]; exact h.num_ K hu.lt
  have NY : ∀ w', WNew w' W.heap.size (.agg #[.bool b2, .slice ya yn yc]) b → Num w' (.slice ya yn yc) m2 L := fun w' h => by rw [hm2]; exact h.num_ L hv.lt
  replace NX := Lib.hid NX
  replace NY := Lib.hid NY
  have hx2 := NX.out _ hn1.out
  have hy2 := NY.out _ hn2.out
  clear hm1 hm2
  have s1 := hn1.out.neg
  have s2 := hn2.out.neg
  have HC := Lib.hid (rcmp_num hx2 hy2 (by omega) (by omega))
  have hc := cmpN_bd' m1 m2
  clear hp hq hn1 hn2 NX NY hu hv hx2 hy2
  cases b1 <;> cases b2
  · have HZ := Lib.hid (show cmpZ a b = cmpN m1 m2 by rw [ea, eb]; exact cmpZ_pp (by rw [← ea]; exact of_decide_eq_false s1.symm) (by rw [← eb]; exact of_decide_eq_false s2.symm))
    clear ea eb s1 s2
    obtain ⟨hc1, hc2⟩ := hc
    have e0 := zx.c0
    have e1 := zy.c0
    have e2 := zx.c1
    have e3 := zy.c1
    have hss : (false == false) = true := rfl
    go_wp2_with fail
    refine HC.out.mono ?_
    rintro e w3 ⟨rfl, hb3⟩
    clear e0 e1 e2 e3 HC
    replace zx := zx.next hb3
    have e0 := zx.c0
    have hB := bnext (bnext hb hb2) hb3
    generalize cmpN m1 m2 = c at *
    go_wp2_with fail
    go_ret
    rw [HZ.out]
    exact ⟨rfl, hB⟩
  · have HZ := Lib.hid (show cmpZ a b = 1 from cmpZ_pn (of_decide_eq_false s1.symm) (of_decide_eq_true s2.symm))
    clear ea eb s1 s2
    have e0 := zx.c0
    have e1 := zy.c0
    clear HC
    go_wp2_with fail
    go_ret
    rw [HZ.out]
    exact ⟨rfl, bnext hb hb2⟩
  · have HZ := Lib.hid (show cmpZ a b = -1 from cmpZ_np (of_decide_eq_true s1.symm) (of_decide_eq_false s2.symm))
    clear ea eb s1 s2
    have e0 := zx.c0
    have e1 := zy.c0
    clear HC
    go_wp2_with fail
    go_ret
    rw [HZ.out]
    exact ⟨rfl, bnext hb hb2⟩
  · have HZ := Lib.hid (show cmpZ a b = -cmpN m1 m2 by rw [ea, eb, cmpZ_nn]; exact cmpN_swap' _ _)
    clear ea eb s1 s2
    obtain ⟨hc1, hc2⟩ := hc
    have e0 := zx.c0
    have e1 := zy.c0
    have e2 := zx.c1
    have e3 := zy.c1
    have hss : (true == true) = true := rfl
    go_wp2_with fail
    refine HC.out.mono ?_
    rintro e w3 ⟨rfl, hb3⟩
    clear e0 e1 e2 e3 HC
    replace zx := zx.next hb3
    have e0 := zx.c0
    have hB := bnext (bnext hb hb2) hb3
    generalize cmpN m1 m2 = c at *
    go_wp2_with fail
    go_ret
    rw [HZ.out]
    exact ⟨rfl, hB⟩
end
end
end Go.Proofs.YtocnlapbkidinaaGreatDoor
namespace Go.Proofs.YtocnlapbkidinaaGreatDoor
section
open Go.RowKit
theorem WNew.nought {w : World} {base : Nat} {b : Bool} {A : Option Addr} {n c : Nat} {z : Int} (h : WNew w base (.agg #[.bool b, .slice A n c]) z) : n ≤ 2 ^ 63 - 1 ∧ (n = 0 ↔ z = 0) := by
  obtain ⟨x, e, hn⟩ := h
  have e' : b = decide (z < 0) ∧ Value.slice A n c = x := by simpa using e
  obtain ⟨A', n', c', e2, hm, h0⟩ := hn.nought
  rw [← e'.2] at e2
  injection e2 with _ e3 _
  subst e3
  exact ⟨hm, h0.trans Int.natAbs_eq_zero⟩
theorem WNew.zero (w : World) (base : Nat) : WNew w base (.agg #[.bool false, .slice none 0 0]) 0 := ⟨_, rfl, New.nil _ _⟩
section
variable {w : World} {u v : Value} {a b : Int} {K L : Nat}
set_option maxHeartbeats 3200000 in
theorem rwquo_num (hu : Wh w u a K) (hv : Wh w v b L) (hK : K ≤ 100000) (hL : L ≤ 100000) : Calls Tryz.prog 72 #[u, v] w (W3 w (quoQ a b) (quoR a b) (quoE b)) := by
  obtain ⟨s, xA, xN, xC, rfl, hx0⟩ := hu.opened
  obtain ⟨t, yA, yN, yC, rfl, hy0⟩ := hv.opened
  obtain ⟨W, hW, hp, hq, hr, ht, hb⟩ := enter22r w (.bool s) (.slice xA xN xC) (.bool t) (.slice yA yN yC)
  have hx := (hx0.out.below hb)
  have hy := (hy0.out.below hb)
  clear hx0 hy0
  have hK : K ≤ 1000000 := by omega
  have hL : L ≤ 1000000 := by omega
  go_enter Tryz.func72, Tryz.ntmps72
  go_wp2_with fail
  rw [← hW]
  clear hW
  refine region_two (H := ⟨rfl, ⟨rfl, rfl, rfl⟩, ⟨rfl, rfl, rfl⟩, ⟨rfl, rfl, rfl⟩, ⟨rfl, rfl, rfl⟩, ⟨rfl, rfl, rfl⟩, ⟨rfl, rfl, rfl⟩, ⟨rfl, rfl, rfl⟩, ⟨rfl, rfl, rfl⟩, by kernel_rfl, by kernel_rfl, by kernel_rfl, by kernel_rfl, by kernel_rfl, by kernel_rfl⟩) (by kernel_rfl) (by kernel_rfl) (by decide) (by simp) rfl rfl hp hq (fun v w => by simp [go_sem]) (fun w hw => rwnorm_num (hx.below hw) (by omega)) (fun w hw => rwnorm_num (hy.below hw) (by omega)) ?_
  intro g h b1 xa xn xc b2 ya yn yc w2 zx zy hgh hg hh hn1 hn2 hb2
  simp only [Act.put, List.setIfInBounds_toArray, List.set_cons_zero, List.set_cons_succ]
  obtain ⟨m1, hm1⟩ : ∃ m, m = a.natAbs := ⟨_, rfl⟩
  obtain ⟨m2, hm2⟩ : ∃ m, m = b.natAbs := ⟨_, rfl⟩
  have ea : a = zOf b1 m1 := by rw [hm1]; exact hn1.out.sgn
  have eb : b = zOf b2 m2 := by rw [hm2]; exact hn2.out.sgn
  have NX : ∀ w', WNew w' W.heap.size (.agg #[.bool b1, .slice xa xn xc]) a → Num w' (.slice xa xn xc) m1 K := fun w' h => by rw [hm1]; exact h.num_ K hu.lt
  have NY : ∀ w', WNew w' W.heap.size (.agg #[.bool b2, .slice ya yn yc]) b → Num w' (.slice ya yn yc) m2 L := fun w' h => by rw [hm2]; exact h.num_ L hv.lt
  replace NX := Lib.hid NX
  replace NY := Lib.hid NY
  have hx2 := NX.out _ hn1.out
  have hy2 := NY.out _ hn2.out
  have hgl := hr.lt
  clear hm1 hm2
  have hgt := ht.lt
  obtain ⟨hym, hyn⟩ := hn2.out.nought
  clear hp hq hn1 hn2 NX NY
  replace hr := hr.next hb2
  replace ht := ht.next hb2
  by_cases h0 : b = 0
  · obtain rfl : yn = 0 := hyn.2 h0
    have HZ := Lib.hid (show quoQ a b = 0 ∧ quoR a b = 0 ∧ quoE b = 3 by unfold quoQ quoR quoE; rw [if_pos h0, if_pos h0, if_pos h0]; exact ⟨rfl, rfl, rfl⟩)
    clear h0 hyn ea eb hu hv
    have e0 := zy.c1
    obtain ⟨q1, q2, q3, q4, q5, q6⟩ := hr.room (.bool false)
    obtain ⟨p1, p2, p3, p4, p5, p6⟩ := hr.room2 ht (Nat.succ_ne_self _) (.bool false) (.slice none 0 0) (.bool false)
    go_wp2_with fail
    rw [HZ.out.1, HZ.out.2.1, HZ.out.2.2]
    exact wret3 rfl rfl rfl rfl rfl hr ht (by omega) (WNew.zero _ w.heap.size) (WNew.zero _ w.heap.size) (Nat.le_refl _) (Nat.le_refl _) (by omega) (by omega) (bnext hb hb2)
  · have hy0 : 0 < yn := by
      rcases Nat.eq_zero_or_pos yn with h1 | h1
      · exact absurd (hyn.1 h1) h0
      · exact h1
    have hm0 : m2 ≠ 0 := by intro e; rw [eb, e] at h0; exact h0 (zOf_zero.2 rfl)
    have HZ := Lib.hid (show quoQ a b = zOf (b1 != b2) (m1 / m2) ∧ quoR a b = zOf b1 (m1 % m2) ∧ quoE b = 0 by rw [show quoE b = 0 by unfold quoE; rw [if_neg h0], ea, eb]; exact ⟨(quo_parts _ _ _ _ hm0).1, (quo_parts _ _ _ _ hm0).2, rfl⟩)
    have l1 := hx2.lt
    have HD := Lib.hid (rdiv_pos hx2 hy2 (by omega) (by omega) (Nat.pos_of_ne_zero hm0))
    have HL := Lib.hid (And.intro (Nat.lt_of_le_of_lt (Nat.div_le_self m1 m2) l1) (Nat.lt_of_le_of_lt (Nat.mod_le m1 m2) l1))
    clear h0 hyn ea eb hu hv hx2 hy2 l1 hm0
    have e0 := zx.c1
    have e1 := zy.c1
    go_wp2_with fail
    refine HD.out.mono ?_
    rintro e w3 ⟨qv, rv, rfl, hq1, hr1, hb3⟩
    obtain ⟨qa, qn, qc, rfl, -, -⟩ := hq1.nought
    obtain ⟨ra, rn, rc, rfl, -, -⟩ := hr1.nought
    clear e0 e1 HD
    replace zx := (zx.next hb3).drew
    replace zy := (zy.next hb3).drew
    replace hr := (hr.next hb3).drew
    replace ht := (ht.next hb3).drew
    replace hq1 := hq1.next (Below.refl _ _).drew
    replace hr1 := hr1.next (Below.refl _ _).drew
    have hB := (bnext (bnext hb hb2) hb3).drew
    clear hb hb2 hb3
    go_wp2_with fail
    have e0 := zx.c0
    have e1 := zx.c1
    have e2 := zy.c0
    have e3 := zy.c1
    go_region_held3 (fun w' => w'.cell? ⟨g, 0, none⟩ = some (.bool b1) ∧ w'.cell? ⟨g, 1, none⟩ = some (.slice xa xn xc) ∧ w'.cell? ⟨h, 0, none⟩ = some (.bool b2) ∧ w'.cell? ⟨h, 1, none⟩ = some (.slice ya yn yc))
      (first | with_reducible exact ⟨zx.c0, zx.c1, zy.c0, zy.c1⟩ | with_reducible exact ⟨zx4.c0, zx4.c1, zy4.c0, zy4.c1⟩ | with_reducible exact ⟨zx5.c0, zx5.c1, zy5.c0, zy5.c1⟩ | with_reducible exact ⟨((zx5.far (by dsimp only; omega) _).far (by dsimp only; omega) _).c0, ((zx5.far (by dsimp only; omega) _).far (by dsimp only; omega) _).c1, ((zy5.far (by dsimp only; omega) _).far (by dsimp only; omega) _).c0, ((zy5.far (by dsimp only; omega) _).far (by dsimp only; omega) _).c1⟩ | with_reducible exact ⟨((((zx5.far (by dsimp only; omega) _).far (by dsimp only; omega) _).far (by dsimp only; omega) _).far (by dsimp only; omega) _).c0, ((((zx5.far (by dsimp only; omega) _).far (by dsimp only; omega) _).far (by dsimp only; omega) _).far (by dsimp only; omega) _).c1, ((((zy5.far (by dsimp only; omega) _).far (by dsimp only; omega) _).far (by dsimp only; omega) _).far (by dsimp only; omega) _).c0, ((((zy5.far (by dsimp only; omega) _).far (by dsimp only; omega) _).far (by dsimp only; omega) _).far (by dsimp only; omega) _).c1⟩ | go_keep)
      (first
      | (go_at_call 33; (fail_if_success (have hh := hb4)); refine (rwnorm_num (u := .agg #[.bool (b1 != b2), .slice qa qn qc]) ⟨_, _, _, rfl, hq1.num K HL.out.1, rfl⟩ (by omega)).mono ?_; rintro e w4 ⟨v4, rfl, hv4, hb4⟩; obtain ⟨c1, sa, sn, sc, rfl, hs1⟩ := hv4.opened; have zx4 := zx.next hb4; have zy4 := zy.next hb4; have hr4 := hr.next hb4; have ht4 := ht.next hb4; have hR4 := hr1.next hb4)
      | (go_at_call 33; refine (rwnorm_num (u := .agg #[.bool b1, .slice ra rn rc]) ⟨_, _, _, rfl, hR4.num K HL.out.2, rfl⟩ (by omega)).mono ?_; rintro e w5 ⟨v5, rfl, hv5, hb5⟩; obtain ⟨c2, ta, tn, tc, rfl, hs2⟩ := hv5.opened; have zx5 := zx4.next hb5; have zy5 := zy4.next hb5; have hr5 := hr4.next hb5; have ht5 := ht4.next hb5; have hs1' := Lib.hid (hs1.out.next hb5); obtain ⟨q1, q2, q3, q4, q5, q6⟩ := hr5.room (.bool c1); obtain ⟨p1, p2, p3, p4, p5, p6⟩ := hr5.room2 ht5 (Nat.succ_ne_self _) (.bool c1) (.slice sa sn sc) (.bool c2)))
    go_wp2_with fail
    rw [HZ.out.1, HZ.out.2.1, HZ.out.2.2]
    exact wret3 rfl rfl rfl rfl rfl hr5 ht5 (by omega) hs1'.out hs2.out hB.size (Nat.le_trans hB.size hb4.size) (by omega) (by omega) (bnext (bnext hB hb4) hb5)
end
end
end Go.Proofs.YtocnlapbkidinaaGreatDoor
