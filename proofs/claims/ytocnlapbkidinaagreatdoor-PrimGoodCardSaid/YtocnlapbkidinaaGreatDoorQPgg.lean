/-
  pavanelaw09.light of a row of any length.
-/
import Derived.Test.YtocnlapbkidinaaGreatDoorQPgb
import Derived.Test.YtocnlapbkidinaaGreatDoorQGof
import Derived.RegionTactic
import Derived.BigRegion
import Derived.LoopTactic
import Derived.Deep.RegionHeld3
set_option linter.unusedVariables false
set_option linter.unusedSimpArgs false
set_option linter.unusedSectionVars false
set_option linter.unnecessarySimpa false
namespace Go.Proofs.YtocnlapbkidinaaGreatDoor
open Go.RowKit
set_option maxRecDepth 100000

set_option maxHeartbeats 1600000 in
theorem light_long (A : Option Addr) (n c : Nat) (w : World) (hn : 10 < n) (hm : n ≤ maxLen) : Calls Tryz.prog 6 #[.slice A n c] w fun e w' => e = .returned (.bool false) ∧ Below w.heap.size w w' := by
  unfold maxLen at hm
  have e1 : decide ((10 : Int) < (n : Int)) = true := decide_eq_true (by omega)
  go_enter Tryz.func6, Tryz.ntmps6
  go_wp2_with fail
  go_ret
  exact ⟨rfl, Below.refl _ _⟩
noncomputable def lightR (ts : List LT) : Bool := decide (ts.length ≤ 10) && ts.all lightX
theorem light_row (M : Nat) (A : Option Addr) (c : Nat) (ts : List LT) (w : World) (hM : M ≤ w.heap.size) (hS : Spot M A ts.length c) (hR : LiesR w M ts (blk A) (ofs A)) :
    Calls Tryz.prog 6 #[.slice A ts.length c] w fun e w' => e = .returned (.bool (lightR ts)) ∧ Below w.heap.size w w' := by
  by_cases hn : ts.length ≤ 10
  · unfold lightR
    rw [decide_eq_true hn, Bool.true_and]
    exact light9_any M A c ts w hM hn hS hR
  · unfold lightR
    rw [decide_eq_false hn, Bool.false_and]
    exact light_long A _ c w (by omega) (Nat.le_trans hS.1 hS.2.1)
theorem lightR_parts {ts : List LT} (h : lightR ts = true) : ts.length ≤ 10 ∧ ts.all lightX = true := by
  unfold lightR at h
  simp only [Bool.and_eq_true, decide_eq_true_eq] at h
  exact h
theorem fine_few {a : Ans} (hF : FineA a) : a.xs.length ≤ 64 ∧ a.s.size ≤ 1024 ∧ (a.er ≠ 0 → a.k = 0 ∧ a.sg = false ∧ a.xs = [] ∧ a.b = false ∧ a.s = ⟨#[]⟩) := by
  rcases hF with ⟨er, h, rfl⟩ | ⟨z, rfl, hz⟩ | ⟨b, rfl⟩ | ⟨s, rfl, hs⟩
  · exact ⟨by show (0 : Nat) ≤ _; omega, by show (0 : Nat) ≤ _; omega, fun _ => ⟨rfl, rfl, rfl, rfl, rfl⟩⟩
  · exact ⟨hz, by show (0 : Nat) ≤ _; omega, fun h => absurd rfl h⟩
  · exact ⟨by show (0 : Nat) ≤ _; omega, by show (0 : Nat) ≤ _; omega, fun h => absurd rfl h⟩
  · exact ⟨by show (0 : Nat) ≤ _; omega, hs, fun h => absurd rfl h⟩
theorem same_zero {a : Ans} (hF : FineA a) (he : a.er ≠ 0) {A : Option Addr} {n c : Nat} {w : World} (h : Sl w A n c a.xs) :
    Calls Tryz.prog 10 #[.agg #[.int .i64 a.k, .bool a.sg, .slice A n c, .bool a.b, .string a.s, .slice none 0 0, .slice none 0 0], .agg #[.int .i64 0, .bool false, .slice none 0 0, .bool false, .string ⟨#[]⟩, .slice none 0 0, .slice none 0 0]] w fun e w' => e = .returned (.bool true) ∧ Below w.heap.size w w' := by
  obtain ⟨h1, h2, h3⟩ := fine_few hF
  obtain ⟨q1, q2, q3, q4, q5⟩ := h3 he
  have hl := h.len
  have hS := rsame_plain (k := a.k) (g := a.sg) (b := a.b) (s := a.s) (k' := 0) (g' := false) (b' := false) (s' := ⟨#[]⟩) (A' := none) (n' := 0) (c' := 0) (xs' := []) h Sl.nil (by unfold maxLen; omega) (by decide) (by omega) (by omega)
  rw [sameB_plain.2 ⟨q1, by rw [q2, q3], q4, q5⟩] at hS
  exact hS
theorem same_twice {a : Ans} (hF : FineA a) {A A' : Option Addr} {n c n' c' : Nat} {w : World} (h : Sl w A n c a.xs) (h' : Sl w A' n' c' a.xs) :
    Calls Tryz.prog 10 #[.agg #[.int .i64 a.k, .bool a.sg, .slice A n c, .bool a.b, .string a.s, .slice none 0 0, .slice none 0 0], .agg #[.int .i64 a.k, .bool a.sg, .slice A' n' c', .bool a.b, .string a.s, .slice none 0 0, .slice none 0 0]] w fun e w' => e = .returned (.bool true) ∧ Below w.heap.size w w' := by
  obtain ⟨h1, h2, -⟩ := fine_few hF
  have hl := h.len
  have hl' := h'.len
  have hS := rsame_plain (k := a.k) (g := a.sg) (b := a.b) (s := a.s) (k' := a.k) (g' := a.sg) (b' := a.b) (s' := a.s) h h' (by unfold maxLen; omega) (by unfold maxLen; omega) (by omega) (by omega)
  rw [sameB_plain.2 ⟨rfl, rfl, rfl, rfl⟩] at hS
  exact hS
end Go.Proofs.YtocnlapbkidinaaGreatDoor
