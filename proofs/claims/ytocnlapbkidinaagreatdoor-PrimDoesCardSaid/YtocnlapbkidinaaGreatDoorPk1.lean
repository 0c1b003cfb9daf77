/-
  pavaneref09.Plain. pavaneref07.Arity.
-/
import Derived.Test.YtocnlapbkidinaaGreatDoorQPga
set_option linter.unusedVariables false
set_option linter.unusedSimpArgs false
set_option linter.unusedSectionVars false
set_option linter.unnecessarySimpa false
namespace Go.Proofs.YtocnlapbkidinaaGreatDoor
section
open Go.RowKit
set_option maxRecDepth 100000

set_option maxHeartbeats 6400000 in
theorem rplain_is (p : Int) (w : World) : Calls Tryz.prog 14 #[.int .i64 p] w fun e w' => e = .returned (.bool (plainB p)) ∧ Below w.heap.size w w' := by
  rcases (show (p ≤ 0) ∨ (1 ≤ p ∧ p ≤ 8) ∨ (9 ≤ p ∧ p ≤ 13) ∨ (14 ≤ p ∧ p ≤ 19) ∨ (p = 20) ∨ (21 ≤ p ∧ p ≤ 22) ∨ (23 ≤ p ∧ p ≤ 27) ∨ (28 ≤ p) by omega) with h | h | h | h | h | h | h | h
  · have hp : plainB p = false := by unfold plainB; exact decide_eq_false (by omega)
    have e0 : decide (1 ≤ p) = false := decide_eq_false (by omega)
    have e1 : decide (p ≤ 8) = true := decide_eq_true (by omega)
    have e2 : decide (14 ≤ p) = false := decide_eq_false (by omega)
    have e3 : decide (p ≤ 22) = true := decide_eq_true (by omega)
    have e4 : decide (23 ≤ p) = false := decide_eq_false (by omega)
    have e5 : decide (p ≤ 27) = true := decide_eq_true (by omega)
    have e7 : (p != 20) = true := bne_iff_ne.2 (by omega)
    rw [hp]
    clear hp h
    go_enter Tryz.func14, Tryz.ntmps14
    go_wp2_with fail
    go_ret
    exact ⟨rfl, Below.refl _ _⟩
  · have hp : plainB p = true := by unfold plainB; exact decide_eq_true (by omega)
    have e0 : decide (1 ≤ p) = true := decide_eq_true (by omega)
    have e1 : decide (p ≤ 8) = true := decide_eq_true (by omega)
    have e2 : decide (14 ≤ p) = false := decide_eq_false (by omega)
    have e3 : decide (p ≤ 22) = true := decide_eq_true (by omega)
    have e4 : decide (23 ≤ p) = false := decide_eq_false (by omega)
    have e5 : decide (p ≤ 27) = true := decide_eq_true (by omega)
    have e7 : (p != 20) = true := bne_iff_ne.2 (by omega)
    rw [hp]
    clear hp h
    go_enter Tryz.func14, Tryz.ntmps14
    go_wp2_with fail
    go_ret
    exact ⟨rfl, Below.refl _ _⟩
  · have hp : plainB p = false := by unfold plainB; exact decide_eq_false (by omega)
    have e0 : decide (1 ≤ p) = true := decide_eq_true (by omega)
    have e1 : decide (p ≤ 8) = false := decide_eq_false (by omega)
    have e2 : decide (14 ≤ p) = false := decide_eq_false (by omega)
    have e3 : decide (p ≤ 22) = true := decide_eq_true (by omega)
    have e4 : decide (23 ≤ p) = false := decide_eq_false (by omega)
    have e5 : decide (p ≤ 27) = true := decide_eq_true (by omega)
    have e7 : (p != 20) = true := bne_iff_ne.2 (by omega)
    rw [hp]
    clear hp h
    go_enter Tryz.func14, Tryz.ntmps14
    go_wp2_with fail
    go_ret
    exact ⟨rfl, Below.refl _ _⟩
  · have hp : plainB p = true := by unfold plainB; exact decide_eq_true (by omega)
    have e0 : decide (1 ≤ p) = true := decide_eq_true (by omega)
    have e1 : decide (p ≤ 8) = false := decide_eq_false (by omega)
    have e2 : decide (14 ≤ p) = true := decide_eq_true (by omega)
    have e3 : decide (p ≤ 22) = true := decide_eq_true (by omega)
    have e4 : decide (23 ≤ p) = false := decide_eq_false (by omega)
    have e5 : decide (p ≤ 27) = true := decide_eq_true (by omega)
    have e7 : (p != 20) = true := bne_iff_ne.2 (by omega)
    rw [hp]
    clear hp h
    go_enter Tryz.func14, Tryz.ntmps14
    go_wp2_with fail
    go_ret
    exact ⟨rfl, Below.refl _ _⟩
  · have hp : plainB p = false := by unfold plainB; exact decide_eq_false (by omega)
    have e0 : decide (1 ≤ p) = true := decide_eq_true (by omega)
    have e1 : decide (p ≤ 8) = false := decide_eq_false (by omega)
    have e2 : decide (14 ≤ p) = true := decide_eq_true (by omega)
    have e3 : decide (p ≤ 22) = true := decide_eq_true (by omega)
    have e4 : decide (23 ≤ p) = false := decide_eq_false (by omega)
    have e5 : decide (p ≤ 27) = true := decide_eq_true (by omega)
    have e7 : (p != 20) = false := by simp [h]
    rw [hp]
    clear hp h
    go_enter Tryz.func14, Tryz.ntmps14
    go_wp2_with fail
    go_ret
    exact ⟨rfl, Below.refl _ _⟩
  · have hp : plainB p = true := by unfold plainB; exact decide_eq_true (by omega)
    have e0 : decide (1 ≤ p) = true := decide_eq_true (by omega)
    have e1 : decide (p ≤ 8) = false := decide_eq_false (by omega)
    have e2 : decide (14 ≤ p) = true := decide_eq_true (by omega)
    have e3 : decide (p ≤ 22) = true := decide_eq_true (by omega)
    have e4 : decide (23 ≤ p) = false := decide_eq_false (by omega)
    have e5 : decide (p ≤ 27) = true := decide_eq_true (by omega)
    have e7 : (p != 20) = true := bne_iff_ne.2 (by omega)
    rw [hp]
    clear hp h
    go_enter Tryz.func14, Tryz.ntmps14
    go_wp2_with fail
    go_ret
    exact ⟨rfl, Below.refl _ _⟩
  · have hp : plainB p = true := by unfold plainB; exact decide_eq_true (by omega)
    have e0 : decide (1 ≤ p) = true := decide_eq_true (by omega)
    have e1 : decide (p ≤ 8) = false := decide_eq_false (by omega)
    have e2 : decide (14 ≤ p) = true := decide_eq_true (by omega)
    have e3 : decide (p ≤ 22) = false := decide_eq_false (by omega)
    have e4 : decide (23 ≤ p) = true := decide_eq_true (by omega)
    have e5 : decide (p ≤ 27) = true := decide_eq_true (by omega)
    have e7 : (p != 20) = true := bne_iff_ne.2 (by omega)
    rw [hp]
    clear hp h
    go_enter Tryz.func14, Tryz.ntmps14
    go_wp2_with fail
    go_ret
    exact ⟨rfl, Below.refl _ _⟩
  · have hp : plainB p = false := by unfold plainB; exact decide_eq_false (by omega)
    have e0 : decide (1 ≤ p) = true := decide_eq_true (by omega)
    have e1 : decide (p ≤ 8) = false := decide_eq_false (by omega)
    have e2 : decide (14 ≤ p) = true := decide_eq_true (by omega)
    have e3 : decide (p ≤ 22) = false := decide_eq_false (by omega)
    have e4 : decide (23 ≤ p) = true := decide_eq_true (by omega)
    have e5 : decide (p ≤ 27) = false := decide_eq_false (by omega)
    have e7 : (p != 20) = true := bne_iff_ne.2 (by omega)
    rw [hp]
    clear hp h
    go_enter Tryz.func14, Tryz.ntmps14
    go_wp2_with fail
    go_ret
    exact ⟨rfl, Below.refl _ _⟩
end
end Go.Proofs.YtocnlapbkidinaaGreatDoor
namespace Go.Proofs.YtocnlapbkidinaaGreatDoor
section
open Go.RowKit
set_option maxRecDepth 100000

theorem run_ar (A : Array Value) (k : Nat) (x : Int) (w : World) (hk : k < 39) (h : A[k]? = some (.int .i64 x)) : (Instr.index 72 (.agg A) (.int .i64 (k : Int))).run Tryz.prog w = .ok (.int .i64 x) w := by
  simp [Instr.index, asIntOf, part, Sem.run_bind, run_underlying Tryz.underlying72, go_sem, h, hk]
theorem run_ars (p : Int) (h : plainB p = true) (w : World) : (Instr.index 72 (.agg #[.int .i64 0, .int .i64 2, .int .i64 2, .int .i64 2, .int .i64 2, .int .i64 2, .int .i64 2, .int .i64 2, .int .i64 2, .int .i64 2, .int .i64 1, .int .i64 1, .int .i64 2, .int .i64 2, .int .i64 1, .int .i64 1, .int .i64 1, .int .i64 1, .int .i64 1, .int .i64 1, .int .i64 1, .int .i64 2, .int .i64 1, .int .i64 1, .int .i64 2, .int .i64 2, .int .i64 1, .int .i64 1, .int .i64 1, .int .i64 1, .int .i64 0, .int .i64 0, .int .i64 1, .int .i64 1, .int .i64 2, .int .i64 1, .int .i64 1, .int .i64 2, .int .i64 0]) (.int .i64 p)).run Tryz.prog w = .ok (.int .i64 (arB p : Int)) w := by
  rcases plainB_cases h with rfl | rfl | rfl | rfl | rfl | rfl | rfl | rfl | rfl | rfl | rfl | rfl | rfl | rfl | rfl | rfl | rfl | rfl | rfl | rfl | rfl
  · exact run_ar _ 1 2 w (by decide) rfl
  · exact run_ar _ 2 2 w (by decide) rfl
  · exact run_ar _ 3 2 w (by decide) rfl
  · exact run_ar _ 4 2 w (by decide) rfl
  · exact run_ar _ 5 2 w (by decide) rfl
  · exact run_ar _ 6 2 w (by decide) rfl
  · exact run_ar _ 7 2 w (by decide) rfl
  · exact run_ar _ 8 2 w (by decide) rfl
  · exact run_ar _ 14 1 w (by decide) rfl
  · exact run_ar _ 15 1 w (by decide) rfl
  · exact run_ar _ 16 1 w (by decide) rfl
  · exact run_ar _ 17 1 w (by decide) rfl
  · exact run_ar _ 18 1 w (by decide) rfl
  · exact run_ar _ 19 1 w (by decide) rfl
  · exact run_ar _ 21 2 w (by decide) rfl
  · exact run_ar _ 22 1 w (by decide) rfl
  · exact run_ar _ 23 1 w (by decide) rfl
  · exact run_ar _ 24 2 w (by decide) rfl
  · exact run_ar _ 25 2 w (by decide) rfl
  · exact run_ar _ 26 1 w (by decide) rfl
  · exact run_ar _ 27 1 w (by decide) rfl
set_option maxHeartbeats 6400000 in
theorem rarity_any (p : Int) (h : plainB p = true) (w : World) : Calls Tryz.prog 26 #[.int .i64 p] w fun e w' => e = .returned (.int .i64 (arB p : Int)) ∧ Below w.heap.size w w' := by
  have hix := run_ars p h w
  obtain ⟨x, hx⟩ : ∃ x, (arB p : Int) = x := ⟨_, rfl⟩
  rw [hx] at hix ⊢
  have h1 : 1 ≤ p ∧ p ≤ 27 := by
    unfold plainB at h
    have := of_decide_eq_true h
    omega
  have e1 : decide (p < 1) = false := decide_eq_false (by omega)
  have e2 : decide (38 < p) = false := decide_eq_false (by omega)
  clear h h1 hx
  go_enter Tryz.func26, Tryz.ntmps26
  go_wp2_with fail
  go_ret
  exact ⟨rfl, Below.refl _ _⟩
end
end Go.Proofs.YtocnlapbkidinaaGreatDoor
