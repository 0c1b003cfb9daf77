/-
  pavaneref02.Same of the same.
-/
import Derived.Test.YtgboiopkihemaaaNw
import Derived.Deep.RegionHeld3
namespace Go.Proofs.Ytgboiopkihemaaa
open Go.RowKit

set_option maxHeartbeats 800000 in
theorem refSame_yes (A1 : Option Addr) (n c1 : Nat) (A2 : Option Addr) (c2 : Nat) (xs : List Nat) (w : World) (h1 : Sl w A1 n c1 xs) (h2 : Sl w A2 n c2 xs) (hn : n ≤ 1000000000) :
    Calls Try.prog 75 #[.slice A1 n c1, .slice A2 n c2] w fun e w' => e = .returned (.bool true) ∧ Below w.heap.size w w' := by
  have hne : ((n : Int) != (n : Int)) = false := by simp
  go_enter Try.func75, Try.ntmps75
  go_wp2_with fail
  go_loopw [13] (fun i wr => ∃ k : Nat, k ≤ n ∧ i = .int .i64 k ∧ Below w.heap.size w wr) (fun i _ => n - (intOf i).toNat)
  case atStart => exact ⟨0, by omega, rfl, Below.refl _ _⟩
  case round =>
    obtain ⟨k, hk, rfl, hbel⟩ := hrel
    by_cases hkn : k < n
    · obtain ⟨b1, o1, rfl, _, hc1⟩ := (h1.below hbel).here (by omega)
      obtain ⟨b2, o2, rfl, _, hc2⟩ := (h2.below hbel).here (by omega)
      have g1 := hc1 k hkn
      have g2 := hc2 k hkn
      have i1 : (k : Int) < (n : Int) := by omega
      clear hc1 hc2
      go_wp2_with fail
      go_region
      all_goals
        go_wp2_with fail
        go_roundw
        case rel => exact ⟨k + 1, by omega, by go_num, hbel.drew⟩
        case measure => simp [intOf]; omega
    · go_wp2_with fail
      go_ret
      exact ⟨rfl, hbel⟩
section
variable {w w' : World} {g : Nat} {s x : Value}
end
theorem enter2 (w : World) (s x t y : Value) : ∃ W, W = (w.alloc (.cells #[s, x] 24)).alloc (.cells #[t, y] 24) ∧ Var W w.heap.size s x ∧ Var W (w.heap.size + 1) t y ∧ Below w.heap.size w W := by
  refine ⟨_, rfl, (Var.mk_ _ _ _).alloc _, ?_, bnew (bnew (Below.refl _ _) _) _⟩
  have := Var.mk_ (w.alloc (.cells #[s, x] 24)) t y
  simpa using this
section
variable {w : World} {u v : Value} {a b : Int} {K L : Nat}
end
section
variable {w : World} {u v : Value} {a b : Int} {K L : Nat}
end
section
variable {w : World} {u v : Value} {a b : Int} {K L : Nat}
end
section
variable {w : World} {u v : Value} {a b : Int} {K L : Nat}
set_option maxHeartbeats 400000 in
theorem refSame2_yes (hu : ∃ s A1 c1 A2 c2 n xs, u = .agg #[.bool s, .slice A1 n c1] ∧ v = .agg #[.bool s, .slice A2 n c2] ∧ Sl w A1 n c1 xs ∧ Sl w A2 n c2 xs ∧ n ≤ 1000000000) :
    Calls Try.prog 50 #[u, v] w fun e w' => e = .returned (.bool true) ∧ Below w.heap.size w w' := by
  obtain ⟨s, A1, c1, A2, c2, n, xs, rfl, rfl, h1, h2, hn⟩ := hu
  obtain ⟨W, hW, hp, hq, hb⟩ := enter2 w (.bool s) (.slice A1 n c1) (.bool s) (.slice A2 n c2)
  have HS := Lib.hid (refSame_yes _ _ _ _ _ _ _ (h1.below hb) (h2.below hb) hn)
  have hp0 := hp.c0
  have hp1 := hp.c1
  have hq0 := hq.c0
  have hq1 := hq.c1
  have hss : (s == s) = true := by cases s <;> rfl
  go_enter Try.func50, Try.ntmps50
  go_wp2_with fail
  rw [← hW]
  refine HS.out.mono ?_
  rintro e w1 ⟨rfl, hb1⟩
  go_wp2_with fail
  go_ret
  exact ⟨rfl, bnext hb hb1⟩
end
section
variable {w : World} {u v : Value} {a b : Int} {K L : Nat}
end
end Go.Proofs.Ytgboiopkihemaaa
