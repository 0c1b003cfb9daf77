/-
  The document's own Small of whole numbers: what it answers.
-/
import Derived.Test.YtjildimhflondaaDoorWrg
namespace Go.Proofs.YtjildimhflondaaDoor
open Go.RowKit

set_option maxHeartbeats 1600000 in
theorem rwsmall_low {w : World} {u : Value} {a : Int} {K : Nat} (hu : Wh w u a K) (hK : K ≤ 1000000) (h : a = -9223372036854775808) : Calls Tryd.prog 19 #[u] w fun e w' => e = .returned (.tuple #[.int .i64 (wsN a), .bool (wsB a)]) ∧ Below w.heap.size w w' := by
  have la := hu.lt
  obtain ⟨s, XA, XN, XC, rfl, hu0⟩ := hu.opened
  clear hu
  obtain ⟨W, hW, hp, hb⟩ := enter1 w (.bool s) (.slice XA XN XC)
  have HN := Lib.hid (rwnorm_num (hu0.out.below hb) hK)
  have e0 := hp.c0
  have e1 := hp.c1
  rw [hW] at e0 e1
  have HS := Lib.hid (fun (W : World) (u v : Value) (b1 b2 : Nat) (hu : WNew W b1 u a) (hv : WNew W b2 v (-9223372036854775808)) => refSame2_dec hu hv la (show (-9223372036854775808 : Int).natAbs < 4294967296 ^ 2 by decide) hK (by decide))
  rw [decide_eq_true h] at HS
  have HD : Hid (decide (a < 0) = true) := Lib.hid (decide_eq_true (by omega))
  have HW : Hid (wsN a = -9223372036854775808 ∧ wsB a = true) := Lib.hid ⟨by rw [(ws_yes (a := a) (by omega)).1, h], (ws_yes (a := a) (by omega)).2⟩
  rw [HW.out.1, HW.out.2]
  clear h
  go_enter Tryd.func19, Tryd.ntmps19
  go_wp2_with fail
  rw [← hW]
  refine HN.out.mono ?_
  rintro e w1 ⟨v, rfl, hv, hb1⟩
  obtain ⟨y, rfl, YA, YN, YC, rfl, hys⟩ := hv
  have hV : WNew w1 W.heap.size (.agg #[.bool (decide (a < 0)), .slice YA YN YC]) a := ⟨_, rfl, YA, YN, YC, rfl, hys⟩
  have nY : Num w1 (.slice YA YN YC) a.natAbs K := New.num (base := W.heap.size) ⟨YA, YN, YC, rfl, hys⟩ K la
  have hdec := HD.out
  rw [hdec] at hV ⊢
  have bl : Below w1.heap.size w1 (w1.alloc (.cells #[.bool true, .slice YA YN YC] 36)).drew := (bnew (Below.refl _ _) _).drew
  have vx := (Var.mk_ w1 (.bool true) (.slice YA YN YC)).drew
  replace hb := bnext (bnext hb hb1) bl
  replace hV := hV.next bl
  replace nY := nY.below bl
  clear e0 e1 hW HN hys hp hb1 bl hdec
  go_wp2_with fail
  have x0 := vx.c0
  have x1 := vx.c1
  go_region_held3 (fun w' => w'.cell? ⟨w1.heap.size, 0, none⟩ = some (.bool true) ∧ w'.cell? ⟨w1.heap.size, 1, none⟩ = some (.slice YA YN YC))
    (exact ⟨vx.c0, vx.c1⟩)
    (first
    | (go_at_call 36; refine (rwof_num (-9223372036854775808) _ (by decide) (by decide)).mono ?_; rintro e w2 ⟨v2, rfl, hv2, hb2⟩; replace hV := hV.next hb2; replace vx := vx.next hb2; replace nY := nY.below hb2; replace hb := bnext hb hb2)
    | (go_at_call 62; refine (HS.out _ _ _ _ _ hV hv2).mono ?_; rintro e w3 ⟨rfl, hb3⟩; replace vx := vx.next hb3; replace nY := nY.below hb3; replace hb := bnext hb hb3))
  go_wp2_with fail
  go_ret2
  exact ⟨rfl, hb⟩

set_option maxHeartbeats 1600000 in
theorem rwsmall_neg {w : World} {u : Value} {a : Int} {K : Nat} (hu : Wh w u a K) (hK : K ≤ 1000000) (h : a ≠ -9223372036854775808) (hneg : a < 0) : Calls Tryd.prog 19 #[u] w fun e w' => e = .returned (.tuple #[.int .i64 (wsN a), .bool (wsB a)]) ∧ Below w.heap.size w w' := by
  have la := hu.lt
  obtain ⟨s, XA, XN, XC, rfl, hu0⟩ := hu.opened
  clear hu
  obtain ⟨W, hW, hp, hb⟩ := enter1 w (.bool s) (.slice XA XN XC)
  have HN := Lib.hid (rwnorm_num (hu0.out.below hb) hK)
  have e0 := hp.c0
  have e1 := hp.c1
  rw [hW] at e0 e1
  have HS := Lib.hid (fun (W : World) (u v : Value) (b1 b2 : Nat) (hu : WNew W b1 u a) (hv : WNew W b2 v (-9223372036854775808)) => refSame2_dec hu hv la (show (-9223372036854775808 : Int).natAbs < 4294967296 ^ 2 by decide) hK (by decide))
  rw [decide_eq_false h] at HS
  have HD : Hid (decide (a < 0) = true) := Lib.hid (decide_eq_true hneg)
  have HR := Lib.hid (fun (W : World) (u : Value) (hu : Num W u a.natAbs K) => rsmall_num hu hK)
  have HW : Hid (wsN a = -(smN a.natAbs) ∧ wsB a = smB a.natAbs) := Lib.hid (by
    by_cases hm : a.natAbs ≤ 9223372036854775807
    · rw [(sm_of hm).1, (sm_of hm).2, (ws_yes (a := a) (by omega)).1, (ws_yes (a := a) (by omega)).2]; exact ⟨by omega, rfl⟩
    · rw [(sm_no (m := a.natAbs) (by omega)).1, (sm_no (m := a.natAbs) (by omega)).2, (ws_no (a := a) (by omega)).1, (ws_no (a := a) (by omega)).2]; exact ⟨rfl, rfl⟩)
  have hsb : 0 ≤ smN a.natAbs ∧ smN a.natAbs ≤ 9223372036854775807 := by
    by_cases hm : a.natAbs ≤ 9223372036854775807
    · rw [(sm_of hm).1]; omega
    · rw [(sm_no (m := a.natAbs) (by omega)).1]; omega
  rw [HW.out.1, HW.out.2]
  generalize smN a.natAbs = sn at *
  generalize smB a.natAbs = sb at *
  clear h hneg HW
  go_enter Tryd.func19, Tryd.ntmps19
  go_wp2_with fail
  rw [← hW]
  refine HN.out.mono ?_
  rintro e w1 ⟨v, rfl, hv, hb1⟩
  obtain ⟨y, rfl, YA, YN, YC, rfl, hys⟩ := hv
  have hV : WNew w1 W.heap.size (.agg #[.bool (decide (a < 0)), .slice YA YN YC]) a := ⟨_, rfl, YA, YN, YC, rfl, hys⟩
  have nY : Num w1 (.slice YA YN YC) a.natAbs K := New.num (base := W.heap.size) ⟨YA, YN, YC, rfl, hys⟩ K la
  have hdec := HD.out
  rw [hdec] at hV ⊢
  have bl : Below w1.heap.size w1 (w1.alloc (.cells #[.bool true, .slice YA YN YC] 36)).drew := (bnew (Below.refl _ _) _).drew
  have vx := (Var.mk_ w1 (.bool true) (.slice YA YN YC)).drew
  replace hb := bnext (bnext hb hb1) bl
  replace hV := hV.next bl
  replace nY := nY.below bl
  clear e0 e1 hW HN hys hp hb1 bl hdec
  go_wp2_with fail
  have x0 := vx.c0
  have x1 := vx.c1
  go_region_held3 (fun w' => w'.cell? ⟨w1.heap.size, 0, none⟩ = some (.bool true) ∧ w'.cell? ⟨w1.heap.size, 1, none⟩ = some (.slice YA YN YC))
    (exact ⟨vx.c0, vx.c1⟩)
    (first
    | (go_at_call 36; refine (rwof_num (-9223372036854775808) _ (by decide) (by decide)).mono ?_; rintro e w2 ⟨v2, rfl, hv2, hb2⟩; replace hV := hV.next hb2; replace vx := vx.next hb2; replace nY := nY.below hb2; replace hb := bnext hb hb2)
    | (go_at_call 62; refine (HS.out _ _ _ _ _ hV hv2).mono ?_; rintro e w3 ⟨rfl, hb3⟩; replace vx := vx.next hb3; replace nY := nY.below hb3; replace hb := bnext hb hb3))
  clear x0 x1
  have x0 := vx.c0
  have x1 := vx.c1
  go_wp2_with fail
  refine (HR.out _ _ nY).mono ?_
  rintro e w4 ⟨rfl, hb4⟩
  have y0 := (vx.next hb4).c0
  have y1 := (vx.next hb4).c1
  clear x0 x1
  go_wp2_with fail
  go_ret2
  exact ⟨rfl, bnext hb hb4⟩

set_option maxHeartbeats 1600000 in
theorem rwsmall_pos {w : World} {u : Value} {a : Int} {K : Nat} (hu : Wh w u a K) (hK : K ≤ 1000000) (h : a ≠ -9223372036854775808) (hneg : ¬ a < 0) : Calls Tryd.prog 19 #[u] w fun e w' => e = .returned (.tuple #[.int .i64 (wsN a), .bool (wsB a)]) ∧ Below w.heap.size w w' := by
  have la := hu.lt
  obtain ⟨s, XA, XN, XC, rfl, hu0⟩ := hu.opened
  clear hu
  obtain ⟨W, hW, hp, hb⟩ := enter1 w (.bool s) (.slice XA XN XC)
  have HN := Lib.hid (rwnorm_num (hu0.out.below hb) hK)
  have e0 := hp.c0
  have e1 := hp.c1
  rw [hW] at e0 e1
  have HS := Lib.hid (fun (W : World) (u v : Value) (b1 b2 : Nat) (hu : WNew W b1 u a) (hv : WNew W b2 v (-9223372036854775808)) => refSame2_dec hu hv la (show (-9223372036854775808 : Int).natAbs < 4294967296 ^ 2 by decide) hK (by decide))
  rw [decide_eq_false h] at HS
  have HD : Hid (decide (a < 0) = false) := Lib.hid (decide_eq_false hneg)
  have HR := Lib.hid (fun (W : World) (u : Value) (hu : Num W u a.natAbs K) => rsmall_num hu hK)
  have HW : Hid (wsN a = smN a.natAbs ∧ wsB a = smB a.natAbs) := Lib.hid (by
    by_cases hm : a.natAbs ≤ 9223372036854775807
    · rw [(sm_of hm).1, (sm_of hm).2, (ws_yes (a := a) (by omega)).1, (ws_yes (a := a) (by omega)).2]; exact ⟨by omega, rfl⟩
    · rw [(sm_no (m := a.natAbs) (by omega)).1, (sm_no (m := a.natAbs) (by omega)).2, (ws_no (a := a) (by omega)).1, (ws_no (a := a) (by omega)).2]; exact ⟨rfl, rfl⟩)
  rw [HW.out.1, HW.out.2]
  generalize smN a.natAbs = sn at *
  generalize smB a.natAbs = sb at *
  clear h hneg HW
  go_enter Tryd.func19, Tryd.ntmps19
  go_wp2_with fail
  rw [← hW]
  refine HN.out.mono ?_
  rintro e w1 ⟨v, rfl, hv, hb1⟩
  obtain ⟨y, rfl, YA, YN, YC, rfl, hys⟩ := hv
  have hV : WNew w1 W.heap.size (.agg #[.bool (decide (a < 0)), .slice YA YN YC]) a := ⟨_, rfl, YA, YN, YC, rfl, hys⟩
  have nY : Num w1 (.slice YA YN YC) a.natAbs K := New.num (base := W.heap.size) ⟨YA, YN, YC, rfl, hys⟩ K la
  have hdec := HD.out
  rw [hdec] at hV ⊢
  have bl : Below w1.heap.size w1 (w1.alloc (.cells #[.bool false, .slice YA YN YC] 36)).drew := (bnew (Below.refl _ _) _).drew
  have vx := (Var.mk_ w1 (.bool false) (.slice YA YN YC)).drew
  replace hb := bnext (bnext hb hb1) bl
  replace hV := hV.next bl
  replace nY := nY.below bl
  clear e0 e1 hW HN hys hp hb1 bl hdec
  go_wp2_with fail
  have x0 := vx.c0
  have x1 := vx.c1
  go_region_held3 (fun w' => w'.cell? ⟨w1.heap.size, 0, none⟩ = some (.bool false) ∧ w'.cell? ⟨w1.heap.size, 1, none⟩ = some (.slice YA YN YC))
    (exact ⟨vx.c0, vx.c1⟩)
    (first
    | (go_at_call 36; refine (rwof_num (-9223372036854775808) _ (by decide) (by decide)).mono ?_; rintro e w2 ⟨v2, rfl, hv2, hb2⟩; replace hV := hV.next hb2; replace vx := vx.next hb2; replace nY := nY.below hb2; replace hb := bnext hb hb2)
    | (go_at_call 62; refine (HS.out _ _ _ _ _ hV hv2).mono ?_; rintro e w3 ⟨rfl, hb3⟩; replace vx := vx.next hb3; replace nY := nY.below hb3; replace hb := bnext hb hb3))
  clear x0 x1
  have x0 := vx.c0
  have x1 := vx.c1
  go_wp2_with fail
  refine (HR.out _ _ nY).mono ?_
  rintro e w4 ⟨rfl, hb4⟩
  have y0 := (vx.next hb4).c0
  have y1 := (vx.next hb4).c1
  clear x0 x1
  go_wp2_with fail
  go_ret2
  exact ⟨rfl, bnext hb hb4⟩

theorem rwsmall_num {w : World} {u : Value} {a : Int} {K : Nat} (hu : Wh w u a K) (hK : K ≤ 1000000) : Calls Tryd.prog 19 #[u] w fun e w' => e = .returned (.tuple #[.int .i64 (wsN a), .bool (wsB a)]) ∧ Below w.heap.size w w' := by
  by_cases h : a = -9223372036854775808
  · exact rwsmall_low hu hK h
  · by_cases hn : a < 0
    · exact rwsmall_neg hu hK h hn
    · exact rwsmall_pos hu hK h hn
end Go.Proofs.YtjildimhflondaaDoor
