/-
  prim.Pure, pavaneref09.Pure.
-/
import Derived.Test.YtocnlapbkidinaaGreatDoorPk5
import Derived.Test.YtocnlapbkidinaaGreatDoorPk1
import Derived.LoopTactic
import Derived.RegionTactic
import Derived.BigRegion
import Derived.Deep.RegionHeld3
set_option linter.unusedVariables false
set_option linter.unusedSimpArgs false
set_option linter.unusedSectionVars false
set_option linter.unnecessarySimpa false
namespace Go.Proofs.YtocnlapbkidinaaGreatDoor
open Go.RowKit
set_option maxRecDepth 100000

def mkL : List Int := [24, 26, 27]
theorem mk_at (k : Nat) (hk : k < 3) : (#[.int .i64 24, .int .i64 26, .int .i64 27] : Array Value)[k]? = some (.int .i64 (mkL.getD k 0)) := by
  match k, hk with
  | 0, _ | 1, _ | 2, _ => rfl
  | j + 3, hj => omega
theorem run_mk (A : Array Value) (k : Nat) (x : Int) (w : World) (hk : k < 3) (h : A[k]? = some (.int .i64 x)) : (Instr.index 53 (.agg A) (.int .i64 (k : Int))).run Tryz.prog w = .ok (.int .i64 x) w := by
  simp [Instr.index, asIntOf, part, Sem.run_bind, run_underlying Tryz.underlying53, go_sem, h, hk]
set_option maxHeartbeats 12800000 in
theorem pure_is (p : Int) (w : World) (ht : MakT w) : Calls Tryz.prog 11 #[.int .i64 p] w fun e w' => e = .returned (.bool (pureB p)) ∧ Below w.heap.size w w' := by
  obtain ⟨t, ht⟩ := ht
  have hc := fun j => Lib.cell_of_heap ht j
  have c0 := hc 0; have c1 := hc 1; have c2 := hc 2
  simp only [List.getElem?_toArray, List.getElem?_cons_zero, List.getElem?_cons_succ] at c0 c1 c2
  clear ht hc
  go_enter Tryz.func11, Tryz.ntmps11
  go_wp2_with fail
  have hpl := Lib.hid (plain_is p)
  obtain ⟨A, hA⟩ : ∃ A, A = (#[.int .i64 24, .int .i64 26, .int .i64 27] : Array Value) := ⟨_, rfl⟩
  have hat := Lib.hid (fun i (hi : i < 3) => hA ▸ mk_at i hi)
  rw [← hA]
  clear hA c0 c1 c2
  go_loopw [6] (fun i wr => ∃ j : Nat, j ≤ 3 ∧ i = .int .i64 j ∧ wr = w ∧ ∀ q, q < j → mkL.getD q 0 ≠ p) (fun i _ => 3 - (intOf i).toNat)
  case atStart => exact ⟨0, Nat.zero_le _, rfl, rfl, fun q hq => by omega⟩
  case round =>
    obtain ⟨j, hj, rfl, rfl, hne⟩ := hrel
    have HN := Lib.hid hne
    clear hne
    by_cases hlt : j < 3
    · have hrun := run_mk A j _ wr hlt (hat.out j hlt)
      by_cases he : mkL.getD j 0 = p
      · have hp : pureB p = false := by
          rcases (show j = 0 ∨ j = 1 ∨ j = 2 by omega) with rfl | rfl | rfl <;> (simp [mkL] at he; subst he; decide)
        have HP := Lib.hid hp
        rw [he] at hrun
        clear hp he
        go_wp2_with fail
        go_ret
        exact ⟨by rw [HP.out]; rfl, Below.refl _ _⟩
      · have hne2 : ∀ q, q < j + 1 → mkL.getD q 0 ≠ p := fun q hq => by
          rcases Nat.lt_succ_iff_lt_or_eq.1 hq with h | rfl
          · exact HN.out q h
          · exact he
        have HM := Lib.hid hne2
        generalize mkL.getD j 0 = x at *
        have hx : (p == x) = false := beq_eq_false_iff_ne.2 (fun e => he e.symm)
        clear hne2 he
        go_wp2_with fail
        go_roundw
        case rel => exact ⟨j + 1, by omega, by go_num, trivial, HM.out⟩
        case measure => simp [intOf]; omega
    · obtain rfl : j = 3 := by omega
      have hq : pureB p = (plainB p || decide (p = 20) || decide (p = 38)) := by
        have h0 := HN.out 0 (by decide)
        have h1 := HN.out 1 (by decide)
        have h2 := HN.out 2 (by decide)
        simp only [mkL, List.getD_cons_zero, List.getD_cons_succ] at h0 h1 h2
        unfold pureB
        rw [decide_eq_true (show p ≠ 24 from fun e => h0 e.symm), decide_eq_true (show p ≠ 26 from fun e => h1 e.symm), decide_eq_true (show p ≠ 27 from fun e => h2 e.symm), Bool.and_true, Bool.and_true, Bool.and_true]
      obtain ⟨q0, hq0⟩ : ∃ q, plainB p = q := ⟨_, rfl⟩
      have hpp := hpl.out
      rw [hq0] at hpp hq
      have HPL := Lib.hid hpp
      clear hpp hpl hq0 HN hat
      cases q0
      · by_cases h20 : p = 20
        · have e20 : (p == 20) = true := by simp [h20]
          have HV := Lib.hid (show pureB p = true by rw [hq]; simp [h20])
          clear hq h20
          go_wp2_with fail
          refine (HPL.out _).mono ?_
          rintro e w3 ⟨rfl, b3⟩
          have H3 := Lib.hid b3
          clear b3
          go_wp2_with fail
          go_ret
          exact ⟨by rw [HV.out]; rfl, H3.out⟩
        · have e20 : (p == 20) = false := beq_eq_false_iff_ne.2 h20
          by_cases h38 : p = 38
          · have e38 : (p == 38) = true := by simp [h38]
            have HV := Lib.hid (show pureB p = true by rw [hq]; simp [h38])
            clear hq h20 h38
            go_wp2_with fail
            refine (HPL.out _).mono ?_
            rintro e w3 ⟨rfl, b3⟩
            have H3 := Lib.hid b3
            clear b3
            go_wp2_with fail
            go_ret
            exact ⟨by rw [HV.out]; rfl, H3.out⟩
          · have e38 : (p == 38) = false := beq_eq_false_iff_ne.2 h38
            have HV := Lib.hid (show pureB p = false by rw [hq]; simp [h20, h38])
            clear hq h20 h38
            go_wp2_with fail
            refine (HPL.out _).mono ?_
            rintro e w3 ⟨rfl, b3⟩
            have H3 := Lib.hid b3
            clear b3
            go_wp2_with fail
            go_ret
            exact ⟨by rw [HV.out]; rfl, H3.out⟩
      · have HV := Lib.hid (show pureB p = true by rw [hq]; simp)
        clear hq
        go_wp2_with fail
        refine (HPL.out _).mono ?_
        rintro e w3 ⟨rfl, b3⟩
        have H3 := Lib.hid b3
        clear b3
        go_wp2_with fail
        go_ret
        exact ⟨by rw [HV.out]; rfl, H3.out⟩
set_option maxHeartbeats 12800000 in
theorem rpure_is (p : Int) (w : World) : Calls Tryz.prog 12 #[.int .i64 p] w fun e w' => e = .returned (.bool (pureB p)) ∧ Below w.heap.size w w' := by
  obtain ⟨q, hq⟩ : ∃ q, plainB p = q := ⟨_, rfl⟩
  have hr := rplain_is p
  rw [hq] at hr
  have HPL := Lib.hid hr
  clear hr
  rcases (show p = 24 ∨ p = 26 ∨ p = 27 ∨ p = 20 ∨ p = 38 ∨ (p ≠ 24 ∧ p ≠ 26 ∧ p ≠ 27 ∧ p ≠ 20 ∧ p ≠ 38) by omega) with h | h | h | h | h | ⟨h24, h26, h27, h20, h38⟩
  · have hv : pureB p = false := by unfold pureB; rw [hq]; simp [h]
    have e24 : (p != 24) = false := by simp [h]
    have e26 : (p != 26) = true := bne_iff_ne.2 (by omega)
    have e27 : (p != 27) = true := bne_iff_ne.2 (by omega)
    have e20 : (p == 20) = false := beq_eq_false_iff_ne.2 (by omega)
    have e38 : (p == 38) = false := beq_eq_false_iff_ne.2 (by omega)
    clear hq h
    cases q
    all_goals
      have HV := Lib.hid hv
      clear hv
      go_enter Tryz.func12, Tryz.ntmps12
      go_wp2_with fail
      refine (HPL.out _).mono ?_
      rintro e w3 ⟨rfl, b3⟩
      have H3 := Lib.hid b3
      clear b3
      go_wp2_with fail
      go_ret
      exact ⟨by rw [HV.out]; rfl, H3.out⟩
  · have hv : pureB p = false := by unfold pureB; rw [hq]; simp [h]
    have e24 : (p != 24) = true := bne_iff_ne.2 (by omega)
    have e26 : (p != 26) = false := by simp [h]
    have e27 : (p != 27) = true := bne_iff_ne.2 (by omega)
    have e20 : (p == 20) = false := beq_eq_false_iff_ne.2 (by omega)
    have e38 : (p == 38) = false := beq_eq_false_iff_ne.2 (by omega)
    clear hq h
    cases q
    all_goals
      have HV := Lib.hid hv
      clear hv
      go_enter Tryz.func12, Tryz.ntmps12
      go_wp2_with fail
      refine (HPL.out _).mono ?_
      rintro e w3 ⟨rfl, b3⟩
      have H3 := Lib.hid b3
      clear b3
      go_wp2_with fail
      go_ret
      exact ⟨by rw [HV.out]; rfl, H3.out⟩
  · have hv : pureB p = false := by unfold pureB; rw [hq]; simp [h]
    have e24 : (p != 24) = true := bne_iff_ne.2 (by omega)
    have e26 : (p != 26) = true := bne_iff_ne.2 (by omega)
    have e27 : (p != 27) = false := by simp [h]
    have e20 : (p == 20) = false := beq_eq_false_iff_ne.2 (by omega)
    have e38 : (p == 38) = false := beq_eq_false_iff_ne.2 (by omega)
    clear hq h
    cases q
    all_goals
      have HV := Lib.hid hv
      clear hv
      go_enter Tryz.func12, Tryz.ntmps12
      go_wp2_with fail
      refine (HPL.out _).mono ?_
      rintro e w3 ⟨rfl, b3⟩
      have H3 := Lib.hid b3
      clear b3
      go_wp2_with fail
      go_ret
      exact ⟨by rw [HV.out]; rfl, H3.out⟩
  · have hv : pureB p = true := by unfold pureB; rw [hq]; simp [h]
    have e24 : (p != 24) = true := bne_iff_ne.2 (by omega)
    have e26 : (p != 26) = true := bne_iff_ne.2 (by omega)
    have e27 : (p != 27) = true := bne_iff_ne.2 (by omega)
    have e20 : (p == 20) = true := by simp [h]
    have e38 : (p == 38) = false := beq_eq_false_iff_ne.2 (by omega)
    clear hq h
    cases q
    all_goals
      have HV := Lib.hid hv
      clear hv
      go_enter Tryz.func12, Tryz.ntmps12
      go_wp2_with fail
      refine (HPL.out _).mono ?_
      rintro e w3 ⟨rfl, b3⟩
      have H3 := Lib.hid b3
      clear b3
      go_wp2_with fail
      go_ret
      exact ⟨by rw [HV.out]; rfl, H3.out⟩
  · have hv : pureB p = true := by unfold pureB; rw [hq]; simp [h]
    have e24 : (p != 24) = true := bne_iff_ne.2 (by omega)
    have e26 : (p != 26) = true := bne_iff_ne.2 (by omega)
    have e27 : (p != 27) = true := bne_iff_ne.2 (by omega)
    have e20 : (p == 20) = false := beq_eq_false_iff_ne.2 (by omega)
    have e38 : (p == 38) = true := by simp [h]
    clear hq h
    cases q
    all_goals
      have HV := Lib.hid hv
      clear hv
      go_enter Tryz.func12, Tryz.ntmps12
      go_wp2_with fail
      refine (HPL.out _).mono ?_
      rintro e w3 ⟨rfl, b3⟩
      have H3 := Lib.hid b3
      clear b3
      go_wp2_with fail
      go_ret
      exact ⟨by rw [HV.out]; rfl, H3.out⟩
  · have hv : pureB p = q := by unfold pureB; rw [hq]; simp [h24, h26, h27, h20, h38]
    have e24 : (p != 24) = true := bne_iff_ne.2 (by omega)
    have e26 : (p != 26) = true := bne_iff_ne.2 (by omega)
    have e27 : (p != 27) = true := bne_iff_ne.2 (by omega)
    have e20 : (p == 20) = false := beq_eq_false_iff_ne.2 (by omega)
    have e38 : (p == 38) = false := beq_eq_false_iff_ne.2 (by omega)
    clear hq h24 h26 h27 h20 h38
    cases q
    all_goals
      have HV := Lib.hid hv
      clear hv
      go_enter Tryz.func12, Tryz.ntmps12
      go_wp2_with fail
      refine (HPL.out _).mono ?_
      rintro e w3 ⟨rfl, b3⟩
      have H3 := Lib.hid b3
      clear b3
      go_wp2_with fail
      go_ret
      exact ⟨by rw [HV.out]; rfl, H3.out⟩
end Go.Proofs.YtocnlapbkidinaaGreatDoor
