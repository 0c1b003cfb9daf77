/-
  pavaneref09.True, Atom and Eq of any data.
-/
import Derived.Test.YtocnlapbkidinaaGreatDoorPl1
import Derived.Test.YtocnlapbkidinaaGreatDoorPl2
import Derived.RegionTactic
set_option linter.unusedVariables false
set_option linter.unusedSimpArgs false
set_option linter.unusedSectionVars false
set_option linter.unnecessarySimpa false
namespace Go.Proofs.YtocnlapbkidinaaGreatDoor
open Go.RowKit
set_option maxRecDepth 100000

theorem rtrue_any (t : LT) (w : World) : Calls Tryz.prog 18 #[.agg #[.int .i64 t.k, .bool t.g, .slice t.la t.ln t.lc, .bool t.bb, .string t.s, .slice t.ia t.items.length t.ic, .slice t.ta t.tail.length t.tc]] w fun e w' => e = .returned (.bool (!decide (t.k = 2) || t.bb)) ∧ Below w.heap.size w w' := by
  have hb : Below w.heap.size w (w.alloc (Obj.cells #[.int .i64 t.k, .bool t.g, .slice t.la t.ln t.lc, .bool t.bb, .string t.s, .slice t.ia t.items.length t.ic, .slice t.ta t.tail.length t.tc] 29)) := (Below.refl _ _).alloc (Nat.le_refl _) _
  have HB := Lib.hid hb
  clear hb
  by_cases h : t.k = 2
  · have e1 : (t.k != 2) = false := by simp [h]
    rw [show (!decide (t.k = 2) || t.bb) = t.bb by simp [h]]
    clear h
    go_enter Tryz.func18, Tryz.ntmps18
    go_wp2_with fail
    go_ret
    exact ⟨rfl, HB.out⟩
  · have e1 : (t.k != 2) = true := by simp [h]
    rw [show (!decide (t.k = 2) || t.bb) = true by simp [h]]
    clear h
    go_enter Tryz.func18, Tryz.ntmps18
    go_wp2_with fail
    go_ret
    exact ⟨rfl, HB.out⟩
theorem ratom_any (t : LT) (w : World) : Calls Tryz.prog 38 #[.agg #[.int .i64 t.k, .bool t.g, .slice t.la t.ln t.lc, .bool t.bb, .string t.s, .slice t.ia t.items.length t.ic, .slice t.ta t.tail.length t.tc]] w fun e w' => e = .returned (.bool (!decide (t.k = 5) || decide (t.items.length = 0))) ∧ Below w.heap.size w w' := by
  have hb : Below w.heap.size w (w.alloc (Obj.cells #[.int .i64 t.k, .bool t.g, .slice t.la t.ln t.lc, .bool t.bb, .string t.s, .slice t.ia t.items.length t.ic, .slice t.ta t.tail.length t.tc] 29)) := (Below.refl _ _).alloc (Nat.le_refl _) _
  have HB := Lib.hid hb
  clear hb
  by_cases h : t.k = 5
  · have e1 : (t.k != 5) = false := by simp [h]
    rw [show (!decide (t.k = 5) || decide (t.items.length = 0)) = ((t.items.length : Int) == 0) by rw [decide_eq_true h]; simp [Bool.beq_eq_decide_eq]]
    clear h
    go_enter Tryz.func38, Tryz.ntmps38
    go_wp2_with fail
    go_ret
    exact ⟨rfl, HB.out⟩
  · have e1 : (t.k != 5) = true := by simp [h]
    rw [show (!decide (t.k = 5) || decide (t.items.length = 0)) = true by simp [h]]
    clear h
    go_enter Tryz.func38, Tryz.ntmps38
    go_wp2_with fail
    go_ret
    exact ⟨rfl, HB.out⟩
/-- Is a datum an atom? -/
def atomB (t : LT) : Bool := !decide (t.k = 5) || decide (t.items.length = 0)
theorem eqB_cases (a b : LT) : (atomB a = false → eqB a b = false) ∧ (atomB b = false → eqB a b = false) ∧ (a.k ≠ b.k → eqB a b = false) := by
  unfold eqB atomB
  refine ⟨fun h => ?_, fun h => ?_, fun h => if_pos h⟩
  · by_cases h5 : a.k = 5
    · simp [h5] at h
      by_cases hb : a.k ≠ b.k
      · rw [if_pos hb]
      · rw [if_neg hb, if_neg (by omega), if_neg (by omega), if_pos h5]; simp [h]
    · simp [h5] at h
  · by_cases h5 : b.k = 5
    · simp [h5] at h
      by_cases hb : a.k ≠ b.k
      · rw [if_pos hb]
      · rw [if_neg hb, if_neg (by omega), if_neg (by omega), if_pos (by omega)]; simp [h]
    · simp [h5] at h
set_option maxHeartbeats 6400000 in
theorem req_any (M : Nat) (a b : LT) (h1 : a.size ≤ 1000000) (hTa : Tame a) (hTb : Tame b) (w : World) (hM : M ≤ w.heap.size) (hA : Held w M a) (hB : Held w M b) :
    Calls Tryz.prog 20 #[.agg #[.int .i64 a.k, .bool a.g, .slice a.la a.ln a.lc, .bool a.bb, .string a.s, .slice a.ia a.items.length a.ic, .slice a.ta a.tail.length a.tc], .agg #[.int .i64 b.k, .bool b.g, .slice b.la b.ln b.lc, .bool b.bb, .string b.s, .slice b.ia b.items.length b.ic, .slice b.ta b.tail.length b.tc]] w fun e w' => e = .returned (.bool (eqB a b)) ∧ Below w.heap.size w w' := by
  obtain ⟨w2, hw2, a0, a1, hz, hbel⟩ := two2 w (Obj.cells #[.int .i64 a.k, .bool a.g, .slice a.la a.ln a.lc, .bool a.bb, .string a.s, .slice a.ia a.items.length a.ic, .slice a.ta a.tail.length a.tc] 29) (Obj.cells #[.int .i64 b.k, .bool b.g, .slice b.la b.ln b.lc, .bool b.bb, .string b.s, .slice b.ia b.items.length b.ic, .slice b.ta b.tail.length b.tc] 29)
  have HS := Lib.hid (fun W (hb : Below w.heap.size w W) => sameG_all M 1000000 (by decide) a b h1 hTa hTb W (Nat.le_trans hM hb.size) (hA.below hM hb) (hB.below hM hb))
  have HC := Lib.hid (eqB_cases a b)
  have HAa := Lib.hid (fun W => ratom_any a W)
  have HAb := Lib.hid (fun W => ratom_any b W)
  have HW := Lib.hid (And.intro hw2 (And.intro a0 (And.intro a1 (And.intro hz hbel))))
  have ca := fun W (hb : Below w2.heap.size w2 W) => (cells7 ((hb.block w.heap.size (by rw [hz]; omega)).trans a0)).1
  have cb := fun W (hb : Below w2.heap.size w2 W) => (cells7 ((hb.block (w.heap.size + 1) (by rw [hz]; omega)).trans a1)).1
  have HCC := Lib.hid (And.intro ca cb)
  clear hw2 a0 a1 hz hbel hA hB hTa hTb ca cb h1
  obtain ⟨ra, hra⟩ : ∃ r, atomB a = r := ⟨_, rfl⟩
  obtain ⟨rb, hrb⟩ : ∃ r, atomB b = r := ⟨_, rfl⟩
  unfold atomB at hra hrb
  rw [hra] at HAa
  rw [hrb] at HAb
  go_enter Tryz.func20, Tryz.ntmps20
  go_wp2_with fail
  rw [← HW.out.1]
  refine (HAa.out w2).mono ?_
  rintro e w3 ⟨rfl, b3⟩
  cases ra
  · have hv := Lib.hid (HC.out.1 hra)
    have H3 := Lib.hid (HW.out.2.2.2.2.trans (b3.mono HW.out.2.2.2.2.size))
    clear b3 hra hrb
    go_wp2_with fail
    go_ret
    exact ⟨by rw [hv.out]; rfl, H3.out⟩
  obtain ⟨s0, s1, s2, s3, s4, s5, s6⟩ := HCC.out.2 w3 b3
  have B3 := Lib.hid b3
  clear b3
  have Hra := Lib.hid hra
  have Hrb := Lib.hid hrb
  clear hra hrb
  go_wp2_with fail
  clear s0 s1 s2 s3 s4 s5 s6
  refine (HAb.out w3).mono ?_
  rintro e w4 ⟨rfl, b4⟩
  have B4 := Lib.hid (B3.out.trans (b4.mono B3.out.size))
  clear b4
  cases rb
  · have hv := Lib.hid (HC.out.2.1 Hrb.out)
    have H3 := Lib.hid (HW.out.2.2.2.2.trans (B4.out.mono HW.out.2.2.2.2.size))
    go_wp2_with fail
    go_ret
    exact ⟨by rw [hv.out]; rfl, H3.out⟩
  obtain ⟨s0, s1, s2, s3, s4, s5, s6⟩ := HCC.out.1 w4 B4.out
  obtain ⟨u0, u1, u2, u3, u4, u5, u6⟩ := HCC.out.2 w4 B4.out
  have HB4 := Lib.hid (HW.out.2.2.2.2.trans (B4.out.mono HW.out.2.2.2.2.size))
  have HS4 := Lib.hid (HS.out w4 HB4.out)
  clear HS HAa HAb HCC B3 B4
  by_cases hk : a.k = b.k
  · have e1 : (a.k != b.k) = false := by simp [hk]
    by_cases c1 : a.k = 1 ∨ a.k = 2 ∨ a.k = 3
    · have hv := Lib.hid (show eqB a b = sameB a b by unfold eqB; rw [if_neg (by omega), if_neg (by omega), if_pos c1])
      rcases c1 with c | c | c
      · have e2 : (a.k == 1) = true := by simp [c]
        have e3 : (a.k == 2) = false := by simp [c]
        have e4 : (a.k == 3) = false := by simp [c]
        clear c hk
        go_wp2_with fail
        refine HS4.out.mono ?_
        rintro e w5 ⟨rfl, b5⟩
        have H5 := Lib.hid (HB4.out.trans (b5.mono HB4.out.size))
        clear b5
        go_wp2_with fail
        go_ret
        exact ⟨by rw [hv.out]; rfl, H5.out⟩
      · have e2 : (a.k == 1) = false := by simp [c]
        have e3 : (a.k == 2) = true := by simp [c]
        have e4 : (a.k == 3) = false := by simp [c]
        clear c hk
        go_wp2_with fail
        refine HS4.out.mono ?_
        rintro e w5 ⟨rfl, b5⟩
        have H5 := Lib.hid (HB4.out.trans (b5.mono HB4.out.size))
        clear b5
        go_wp2_with fail
        go_ret
        exact ⟨by rw [hv.out]; rfl, H5.out⟩
      · have e2 : (a.k == 1) = false := by simp [c]
        have e3 : (a.k == 2) = false := by simp [c]
        have e4 : (a.k == 3) = true := by simp [c]
        clear c hk
        go_wp2_with fail
        refine HS4.out.mono ?_
        rintro e w5 ⟨rfl, b5⟩
        have H5 := Lib.hid (HB4.out.trans (b5.mono HB4.out.size))
        clear b5
        go_wp2_with fail
        go_ret
        exact ⟨by rw [hv.out]; rfl, H5.out⟩
    · have e2 : (a.k == 1) = false := beq_eq_false_iff_ne.2 (by omega)
      have e3 : (a.k == 2) = false := beq_eq_false_iff_ne.2 (by omega)
      have e4 : (a.k == 3) = false := beq_eq_false_iff_ne.2 (by omega)
      clear HS4
      by_cases c5 : a.k = 5
      · have e5 : (a.k == 5) = true := by simp [c5]
        have hv := Lib.hid (show eqB a b = true by
          have h1 := Hra.out
          have h2 := Hrb.out
          rw [← hk] at h2
          simp [c5] at h1 h2
          unfold eqB
          rw [if_neg (by omega), if_neg (by omega), if_neg c1, if_pos c5]
          simp [h1, h2])
        clear c1 c5 hk
        go_wp2_with fail
        go_ret
        exact ⟨by rw [hv.out]; rfl, HB4.out⟩
      · have e5 : (a.k == 5) = false := by simp [c5]
        by_cases c0 : a.k = 0
        · have e6 : (a.k == 0) = true := by simp [c0]
          have hv := Lib.hid (show eqB a b = true by unfold eqB; rw [if_neg (by omega), if_pos c0])
          clear c1 c5 hk c0
          go_wp2_with fail
          go_ret
          exact ⟨by rw [hv.out]; rfl, HB4.out⟩
        · have e6 : (a.k == 0) = false := by simp [c0]
          have hv := Lib.hid (show eqB a b = false by unfold eqB; rw [if_neg (by omega), if_neg c0, if_neg c1, if_neg c5])
          clear c1 c5 hk c0
          go_wp2_with fail
          go_ret
          exact ⟨by rw [hv.out]; rfl, HB4.out⟩
  · have e1 : (a.k != b.k) = true := by simp [hk]
    have hv := Lib.hid (HC.out.2.2 hk)
    clear hk
    go_wp2_with fail
    go_ret
    exact ⟨by rw [hv.out]; rfl, HB4.out⟩
end Go.Proofs.YtocnlapbkidinaaGreatDoor
