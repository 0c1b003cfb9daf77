/-
  The document's own whole numbers: Gcd.
-/
import Derived.Test.YtjildimhflondaaDoorWrq
import Derived.Test.YtjildimhflondaaDoorPh
import Derived.Deep.QuietTactic
namespace Go.Proofs.YtjildimhflondaaDoor
open Go.RowKit
theorem WNew.absed {w : World} {base : Nat} {b : Bool} {x : Value} {z : Int} (h : WNew w base (.agg #[.bool b, x]) z) : WNew w base (.agg #[.bool false, x]) (z.natAbs : Int) := by
  obtain ⟨y, e, hn⟩ := h
  have e' : b = decide (z < 0) ∧ x = y := by simpa using e
  exact ⟨x, by rw [decide_eq_false (by omega)], by rw [e'.2, Int.natAbs_natCast]; exact hn⟩
section
variable {w : World} {u v : Value} {a b : Int} {K L : Nat}
set_option maxHeartbeats 3200000 in
theorem rwgcd_num (hu : Wh w u a K) (hv : Wh w v b L) (hK : K ≤ 100000) (hL : L ≤ 100000) : Calls Tryd.prog 42 #[u, v] w (WGives w (gcdZ a b)) := by
  have lx := lt_up hu.lt (show K ≤ max K L by omega)
  have ly := lt_up hv.lt (show L ≤ max K L by omega)
  have hM : max K L ≤ 100000 := by omega
  obtain ⟨s, xA, xN, xC, rfl, hx0⟩ := hu.opened
  obtain ⟨t, yA, yN, yC, rfl, hy0⟩ := hv.opened
  obtain ⟨W, hW, hp, hq, hr, hb⟩ := enter2r w (.bool s) (.slice xA xN xC) (.bool t) (.slice yA yN yC)
  have hx := (hx0.out.below hb)
  have hy := (hy0.out.below hb)
  clear hx0 hy0
  have hK : K ≤ 1000000 := by omega
  have hL : L ≤ 1000000 := by omega
  clear hu hv
  go_enter Tryd.func42, Tryd.ntmps42
  go_wp2_with fail
  rw [← hW]
  clear hW
  refine region_two (H := ⟨rfl, ⟨rfl, rfl, rfl⟩, ⟨rfl, rfl, rfl⟩, ⟨rfl, rfl, rfl⟩, ⟨rfl, rfl, rfl⟩, ⟨rfl, rfl, rfl⟩, ⟨rfl, rfl, rfl⟩, ⟨rfl, rfl, rfl⟩, ⟨rfl, rfl, rfl⟩, by kernel_rfl, by kernel_rfl, by kernel_rfl, by kernel_rfl, by kernel_rfl, by kernel_rfl⟩) (by kernel_rfl) (by kernel_rfl) (by decide) (by simp) rfl rfl hp hq (fun v w => by simp [go_sem]) (fun w hw => rwnorm_num (hx.below hw) hK) (fun w hw => rwnorm_num (hy.below hw) hL) ?_
  intro g h b1 xa xn xc b2 ya yn yc w2 zx zy hgh hg hh hn1 hn2 hb2
  simp only [Act.put, List.setIfInBounds_toArray, List.set_cons_zero, List.set_cons_succ]
  have hgl := hr.lt
  have hgW := hb.size
  have HZ : gcdZ a b = ((Nat.gcd a.natAbs b.natAbs : Nat) : Int) := rfl
  clear hp hq hx hy hK hL
  replace hr := hr.next hb2
  have n1 := Lib.hid hn1.out.absed
  have n2 := Lib.hid hn2.out.absed
  clear hn1 hn2
  generalize max K L = M at *
  generalize a.natAbs = m at *
  generalize b.natAbs = n at *
  replace HZ := Lib.hid HZ
  have e0 := zx.c0
  have e1 := zy.c0
  have f0 := zx.f0
  have f1 := zy.f0
  have f2 := (zy.far (p := ⟨g, 0, none⟩) hgh.symm (.bool false)).f0
  have f3 := (zy.far (p := ⟨g, 0, none⟩) hgh.symm (.bool false)).c0
  go_wp2_with fail
  clear e0 e1 f0 f1 f2 f3
  have hgh' := hgh.symm
  have r1 : w.heap.size + 2 ≠ g := by omega
  have r2 : w.heap.size + 2 ≠ h := by omega
  have zx0 := zx
  have zx := (zx.set0 (.bool false)).far (p := ⟨h, 0, none⟩) hgh (.bool false)
  have zy0 := zy.far (p := ⟨g, 0, none⟩) hgh' (.bool false)
  have zy := zy0.set0 (.bool false)
  have hr := (hr.far (p := ⟨g, 0, none⟩) r1 (.bool false)).far (p := ⟨h, 0, none⟩) r2 (.bool false)
  have hB := ((bnext hb hb2).setCell (p := ⟨g, 0, none⟩) (by dsimp only; omega) (.bool false)).setCell (p := ⟨h, 0, none⟩) (by dsimp only; omega) (.bool false)
  have n1 := (WNew.farSet zy0 (WNew.farSet zx0 n1.out 0 (.bool false)) 0 (.bool false)).from_ hgW
  have n2 := (WNew.farSet zy0 (WNew.farSet zx0 n2.out 0 (.bool false)) 0 (.bool false)).from_ hgW
  have hwg : w.heap.size ≤ g := by omega
  have hwh : w.heap.size ≤ h := by omega
  clear zx0 zy0 hb2 hb
  generalize (w2.setCell ⟨g, 0, none⟩ (.bool false)).setCell ⟨h, 0, none⟩ (.bool false) = wa at *
  go_loopg [7, 8] n (fun j p q wr => ∃ k xa xn xc ya yn yc, Nat.gcd k j = Nat.gcd m n ∧ k < 4294967296 ^ M ∧ j < 4294967296 ^ M ∧ Var wr g (.bool false) (.slice xa xn xc) ∧ Var wr h (.bool false) (.slice ya yn yc) ∧ Hid (WNew wr w.heap.size (.agg #[.bool false, .slice xa xn xc]) (k : Int)) ∧ Hid (WNew wr w.heap.size (.agg #[.bool false, .slice ya yn yc]) (j : Int)) ∧ Var wr (w.heap.size + 2) (.bool false) (.slice none 0 0) ∧ Below w.heap.size w wr)
  case atStart => exact ⟨m, _, _, _, _, _, _, rfl, lx, ly, zx, zy, Lib.hid n1, Lib.hid n2, hr, hB⟩
  case round =>
    obtain ⟨k, ka, kn, kc, ja, jn, jc, hgcd, lk, lj, vx, vy, hk, hj, vr, hbel⟩ := hrel
    clear zx zy n1 n2 hr hB lx ly
    obtain ⟨hjm, hjn⟩ := hj.out.nought
    by_cases h0 : gk = 0
    · obtain rfl : jn = 0 := hjn.2 (by omega)
      subst h0
      have HG := Lib.hid (show Nat.gcd m n = k by rw [← hgcd, Nat.gcd_zero_right])
      clear hgcd hjn lk lj
      have e0 := vx.c0
      have e1 := vx.c1
      have e2 := vy.c1
      obtain ⟨q1, q2, q3, q4, q5, q6⟩ := vr.room (.bool false)
      go_wp2_with fail
      refine wret rfl rfl rfl vr ?_ (Nat.le_refl _) (by omega) hbel
      rw [HZ.out, HG.out]
      exact hk.out
    · have hjp : 0 < jn := by
        rcases Nat.eq_zero_or_pos jn with h1 | h1
        · exact absurd (hjn.1 h1) (by omega)
        · exact h1
      have HR : Hid (quoR (k : Int) (gk : Int) = ((k % gk : Nat) : Int) ∧ quoE (gk : Int) = 0) := Lib.hid (by
        have hz : (gk : Int) ≠ 0 := by omega
        unfold quoR quoE
        rw [if_neg hz, if_neg hz]
        exact ⟨by rw [Int.ofNat_tmod], rfl⟩)
      have HG : Hid (Nat.gcd gk (k % gk) = Nat.gcd m n) := Lib.hid (by rw [← hgcd, Nat.gcd_comm k gk, Nat.gcd_rec gk k, Nat.gcd_comm])
      have HL : Hid (k % gk < gk) := Lib.hid (Nat.mod_lt _ (by omega))
      have HQ := Lib.hid (rwquo_num (hk.out.wh M (by rw [Int.natAbs_natCast]; exact lk)) (hj.out.wh M (by rw [Int.natAbs_natCast]; exact lj)) hM hM)
      have HJ := Lib.hid lj
      clear hjn h0 hgcd lk lj
      have e0 := vx.c0
      have e1 := vx.c1
      have e2 := vy.c0
      have e3 := vy.c1
      go_wp2_with fail
      refine HQ.out.mono ?_
      rintro e w3 ⟨v1, v2, rfl, x1, x2, b3⟩
      rw [HR.out.1] at x2
      rw [HR.out.2]
      obtain ⟨s1, qa, qn, qc, rfl, y1⟩ := x1.opened
      obtain ⟨s2, ra, rn, rc, rfl, y2⟩ := x2.opened
      obtain rfl : s2 = false := by rw [y2.out.neg]; exact decide_eq_false (by omega)
      clear x1 x2 y1 e0 e1 e2 e3 HQ
      obtain ⟨zq, zr⟩ := mk2 w3 (.bool s1) (.slice qa qn qc) (.bool false) (.slice ra rn rc)
      have b4 : Below w3.heap.size w3 ((w3.alloc (.cells #[.bool s1, .slice qa qn qc] 36)).alloc (.cells #[.bool false, .slice ra rn rc] 36)) := bnew (bnew (Below.refl _ _) _) _
      have b34 := (bnext b3 b4)
      have x2 := Lib.hid ((y2.out.next b4).from_ hbel.size)
      clear y2
      have hws : wr.heap.size ≤ w3.heap.size := b3.size
      have hgl3 := vx.lt
      replace vx := vx.next b34
      replace vy := vy.next b34
      replace vr := vr.next b34
      replace hk := Lib.hid (hk.out.next b34)
      replace hj := Lib.hid (hj.out.next b34)
      have hB := bnext hbel b34
      go_wp2_with fail
      clear b3 b4 b34 hbel zq
      generalize (w3.alloc (.cells #[.bool s1, .slice qa qn qc] 36)).alloc (.cells #[.bool false, .slice ra rn rc] 36) = w4 at *
      have vx7 := vx
      have vy7 := vy
      have vr7 := vr
      have rg : w3.heap.size + 1 ≠ g := by omega
      have sy1 := (vy7.far (p := ⟨g, 0, none⟩) hgh' (.bool false)).far (p := ⟨g, 1, none⟩) hgh' (.slice ja jn jc)
      have e0 := vy.c0
      have e1 := vy.c1
      have e2 := zr.c0
      have e3 := zr.c1
      have zr5 := ((zr.far (p := ⟨g, 0, none⟩) rg (.bool false)).far (p := ⟨g, 1, none⟩) rg (.slice ja jn jc))
      have k0 := zr5.c0
      have k1 := zr5.c1
      obtain ⟨q1, q2, q3, q4, q5, q6⟩ := vx.room (.bool false)
      obtain ⟨p1, p2, p3, p4, p5, p6⟩ := vx.room2 vy hgh' (.bool false) (.slice ja jn jc) (.bool false)
      go_region
      all_goals
        clear e0 e1 e2 e3 k0 k1 q1 q2 q3 q4 q5 q6 p1 p2 p3 p4 p5 p6 zr5
        have vx := (((vx7.set0 (.bool false)).set1 (.slice ja jn jc)).far (p := ⟨h, 0, none⟩) hgh (.bool false)).far (p := ⟨h, 1, none⟩) hgh (.slice ra rn rc)
        have vy := (sy1.set0 (.bool false)).set1 (.slice ra rn rc)
        have vr := (((vr7.far (p := ⟨g, 0, none⟩) r1 (.bool false)).far (p := ⟨g, 1, none⟩) r1 (.slice ja jn jc)).far (p := ⟨h, 0, none⟩) r2 (.bool false)).far (p := ⟨h, 1, none⟩) r2 (.slice ra rn rc)
        have hk := Lib.hid (WNew.farSet (sy1.set0 (.bool false)) (WNew.farSet sy1 (WNew.farSet (vx7.set0 (.bool false)) (WNew.farSet vx7 hj.out 0 (.bool false)) 1 (.slice ja jn jc)) 0 (.bool false)) 1 (.slice ra rn rc))
        have hj := Lib.hid (WNew.farSet (sy1.set0 (.bool false)) (WNew.farSet sy1 (WNew.farSet (vx7.set0 (.bool false)) (WNew.farSet vx7 x2.out 0 (.bool false)) 1 (.slice ja jn jc)) 0 (.bool false)) 1 (.slice ra rn rc))
        have hB := (((hB.setCell (p := ⟨g, 0, none⟩) hwg (.bool false)).setCell (p := ⟨g, 1, none⟩) hwg (.slice ja jn jc)).setCell (p := ⟨h, 0, none⟩) hwh (.bool false)).setCell (p := ⟨h, 1, none⟩) hwh (.slice ra rn rc)
        have hk := Lib.hid (hk.out.next (Below.refl _ _).drew)
        have hj := Lib.hid (hj.out.next (Below.refl _ _).drew)
        have hB := hB.drew
        have vx := vx.drew
        have vy := vy.drew
        have vr := vr.drew
        clear vx7 vy7 vr7 sy1 x2 zr
        go_wp2_with fail
        go_roundg (k % gk)
        case rel => exact ⟨gk, _, _, _, _, _, _, HG.out, HJ.out, Nat.lt_trans HL.out HJ.out, vx, vy, hk, hj, vr, hB⟩
        case measure => exact HL.out
end
end Go.Proofs.YtjildimhflondaaDoor
