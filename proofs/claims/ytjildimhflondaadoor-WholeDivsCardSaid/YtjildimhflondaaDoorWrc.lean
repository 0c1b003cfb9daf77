/-
  The document's own whole numbers: Cmp.
-/
import Derived.Test.YtjildimhflondaaDoorWrm
namespace Go.Proofs.YtjildimhflondaaDoor
open Go.RowKit
theorem WNew.neg {w : World} {base : Nat} {b : Bool} {x : Value} {z : Int} (h : WNew w base (.agg #[.bool b, x]) z) : b = decide (z < 0) := by
  obtain ⟨y, e, hn⟩ := h
  have e' : b = decide (z < 0) ∧ x = y := by simpa using e
  exact e'.1
theorem cmpN_bd' (m n : Nat) : -1 ≤ cmpN m n ∧ cmpN m n ≤ 1 := by unfold cmpN; split <;> (try split) <;> omega
theorem cmpN_swap' (m n : Nat) : cmpN n m = -cmpN m n := by unfold cmpN; split <;> (try split) <;> (try split) <;> omega
section
variable {w : World} {u v : Value} {a b : Int} {K L : Nat}
set_option maxHeartbeats 3200000 in
theorem rwcmp_num (hu : Wh w u a K) (hv : Wh w v b L) (hK : K ≤ 400000) (hL : L ≤ 400000) : Calls Tryd.prog 34 #[u, v] w fun e w' => e = .returned (.int .i64 (cmpZ a b)) ∧ Below w.heap.size w w' := by
  obtain ⟨s, xA, xN, xC, rfl, hx0⟩ := hu.opened
  obtain ⟨t, yA, yN, yC, rfl, hy0⟩ := hv.opened
  obtain ⟨W, hW, hp, hq, hb⟩ := enter2 w (.bool s) (.slice xA xN xC) (.bool t) (.slice yA yN yC)
  have hx := (hx0.out.below hb)
  have hy := (hy0.out.below hb)
  clear hx0 hy0
  have hK : K ≤ 1000000 := by omega
  have hL : L ≤ 1000000 := by omega
  go_enter Tryd.func34, Tryd.ntmps34
  go_wp2_with fail
  rw [← hW]
  clear hW
  refine region_two (H := ⟨rfl, ⟨rfl, rfl, rfl⟩, ⟨rfl, rfl, rfl⟩, ⟨rfl, rfl, rfl⟩, ⟨rfl, rfl, rfl⟩, ⟨rfl, rfl, rfl⟩, ⟨rfl, rfl, rfl⟩, ⟨rfl, rfl, rfl⟩, ⟨rfl, rfl, rfl⟩, by kernel_rfl, by kernel_rfl, by kernel_rfl, by kernel_rfl, by kernel_rfl, by kernel_rfl⟩) (by kernel_rfl) (by kernel_rfl) (by decide) (by simp) rfl rfl hp hq (fun v w => by simp [go_sem]) (fun w hw => rwnorm_num (hx.below hw) hK) (fun w hw => rwnorm_num (hy.below hw) hL) ?_
  intro g h b1 xa xn xc b2 ya yn yc w2 zx zy hgh hg hh hn1 hn2 hb2
  simp only [Act.put, List.setIfInBounds_toArray, List.set_cons_zero, List.set_cons_succ]
  obtain ⟨m1, hm1⟩ : ∃ m, m = a.natAbs := ⟨_, rfl⟩
  obtain ⟨m2, hm2⟩ : ∃ m, m = b.natAbs := ⟨_, rfl⟩
  have ea : a = zOf b1 m1 := by rw [hm1]; exact hn1.out.sgn
  have eb : b = zOf b2 m2 := by rw [hm2]; exact hn2.out.sgn
  have NX : ∀ w', WNew w' W.heap.size (.agg #[.bool b1, .slice xa xn xc]) a → Num w' (.slice xa xn xc) m1 K := fun w' h => by rw [hm1]; exact h.num_ K hu.lt
  have NY : ∀ w', WNew w' W.heap.size (.agg #[.bool b2, .slice ya yn yc]) b → Num w' (.slice ya yn yc) m2 L := fun w' h => by rw [hm2]; exact h.num_ L hv.lt
  replace NX := Lib.hid NX
  replace NY := Lib.hid NY
  have hx2 := NX.out _ hn1.out
  have hy2 := NY.out _ hn2.out
  clear hm1 hm2
  have s1 := hn1.out.neg
  have s2 := hn2.out.neg
  have HC := Lib.hid (rcmp_num hx2 hy2 (by omega) (by omega))
  have hc := cmpN_bd' m1 m2
  clear hp hq hn1 hn2 NX NY hu hv hx2 hy2
  cases b1 <;> cases b2
  · have HZ := Lib.hid (show cmpZ a b = cmpN m1 m2 by rw [ea, eb]; exact cmpZ_pp (by rw [← ea]; exact of_decide_eq_false s1.symm) (by rw [← eb]; exact of_decide_eq_false s2.symm))
    clear ea eb s1 s2
    obtain ⟨hc1, hc2⟩ := hc
    have e0 := zx.c0
    have e1 := zy.c0
    have e2 := zx.c1
    have e3 := zy.c1
    have hss : (false == false) = true := rfl
    go_wp2_with fail
    refine HC.out.mono ?_
    rintro e w3 ⟨rfl, hb3⟩
    clear e0 e1 e2 e3 HC
    replace zx := zx.next hb3
    have e0 := zx.c0
    have hB := bnext (bnext hb hb2) hb3
    generalize cmpN m1 m2 = c at *
    go_wp2_with fail
    go_ret
    rw [HZ.out]
    exact ⟨rfl, hB⟩
  · have HZ := Lib.hid (show cmpZ a b = 1 from cmpZ_pn (of_decide_eq_false s1.symm) (of_decide_eq_true s2.symm))
    clear ea eb s1 s2
    have e0 := zx.c0
    have e1 := zy.c0
    clear HC
    go_wp2_with fail
    go_ret
    rw [HZ.out]
    exact ⟨rfl, bnext hb hb2⟩
  · have HZ := Lib.hid (show cmpZ a b = -1 from cmpZ_np (of_decide_eq_true s1.symm) (of_decide_eq_false s2.symm))
    clear ea eb s1 s2
    have e0 := zx.c0
    have e1 := zy.c0
    clear HC
    go_wp2_with fail
    go_ret
    rw [HZ.out]
    exact ⟨rfl, bnext hb hb2⟩
  · have HZ := Lib.hid (show cmpZ a b = -cmpN m1 m2 by rw [ea, eb, cmpZ_nn]; exact cmpN_swap' _ _)
    clear ea eb s1 s2
    obtain ⟨hc1, hc2⟩ := hc
    have e0 := zx.c0
    have e1 := zy.c0
    have e2 := zx.c1
    have e3 := zy.c1
    have hss : (true == true) = true := rfl
    go_wp2_with fail
    refine HC.out.mono ?_
    rintro e w3 ⟨rfl, hb3⟩
    clear e0 e1 e2 e3 HC
    replace zx := zx.next hb3
    have e0 := zx.c0
    have hB := bnext (bnext hb hb2) hb3
    generalize cmpN m1 m2 = c at *
    go_wp2_with fail
    go_ret
    rw [HZ.out]
    exact ⟨rfl, hB⟩
end
end Go.Proofs.YtjildimhflondaaDoor
