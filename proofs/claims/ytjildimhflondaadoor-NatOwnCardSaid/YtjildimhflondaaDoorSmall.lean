/-
  The laws' small and same (with the document's Same): what they answer.
-/
import Derived.Test.YtjildimhflondaaDoorText2
namespace Go.Proofs.YtjildimhflondaaDoor
open Go.RowKit

set_option maxHeartbeats 400000 in
theorem small_yes (g k : Nat) (w : World) (hk : k ≤ 1000) (hall : ∀ i, i < k → ∃ A n c, w.cell? ⟨g, i, none⟩ = some (.slice A n c) ∧ n ≤ 40) :
    Calls Tryd.prog 7 #[.slice (some ⟨g, 0, none⟩) k k] w fun e w' => e = .returned (.bool true) ∧ w = w' := by
  have HA := Lib.hid hall
  clear hall
  go_enter Tryd.func7, Tryd.ntmps7
  go_wp2_with fail
  go_loop [7] (fun i => ∃ j : Nat, j ≤ k ∧ i = .int .i64 j) (fun i => k - (intOf i).toNat)
  case atStart => exact ⟨0, by omega, rfl⟩
  case round =>
    obtain ⟨j, hj, rfl⟩ := hrel
    by_cases hjk : j < k
    · obtain ⟨A, n, c, hc, hn⟩ := HA.out j hjk
      go_wp2_with fail
      go_round
      case rel => exact ⟨j + 1, by omega, by go_num⟩
      case measure => simp [intOf]; omega
    · go_wp2_with fail
      go_ret
      exact ⟨rfl, rfl⟩

set_option maxHeartbeats 400000 in
theorem small_no (g k : Nat) (w : World) (hk : k ≤ 1000) (hall : ∀ i, i < k → ∃ A n c, w.cell? ⟨g, i, none⟩ = some (.slice A n c) ∧ n ≤ maxLen) (m : Nat) (hm : m < k) (hbig : ∃ A n c, w.cell? ⟨g, m, none⟩ = some (.slice A n c) ∧ 40 < n) :
    Calls Tryd.prog 7 #[.slice (some ⟨g, 0, none⟩) k k] w fun e w' => e = .returned (.bool false) ∧ w = w' := by
  have HA := Lib.hid (And.intro hall hbig)
  clear hall hbig
  go_enter Tryd.func7, Tryd.ntmps7
  go_wp2_with fail
  go_loop [7] (fun i => ∃ j : Nat, j ≤ m ∧ i = .int .i64 j) (fun i => k - (intOf i).toNat)
  case atStart => exact ⟨0, by omega, rfl⟩
  case round =>
    obtain ⟨j, hj, rfl⟩ := hrel
    obtain ⟨A, n, c, hc, hn⟩ := HA.out.1 j (by omega)
    unfold maxLen at hn
    by_cases h40 : n ≤ 40
    · have hjm : j < m := by
        rcases Nat.lt_or_ge j m with h | h
        · exact h
        · obtain rfl : j = m := by omega
          obtain ⟨A', n', c', hc', hn'⟩ := HA.out.2
          rw [hc] at hc'
          simp at hc'
          omega
      go_wp2_with fail
      go_round
      case rel => exact ⟨j + 1, by omega, by go_num⟩
      case measure => simp [intOf]; omega
    · have h41 : 40 < n := by omega
      go_wp2_with fail
      go_ret
      exact ⟨rfl, rfl⟩

set_option maxHeartbeats 800000 in
theorem refSame_yes (A1 : Option Addr) (n c1 : Nat) (A2 : Option Addr) (c2 : Nat) (xs : List Nat) (w : World) (h1 : Sl w A1 n c1 xs) (h2 : Sl w A2 n c2 xs) (hn : n ≤ 1000000000) :
    Calls Tryd.prog 58 #[.slice A1 n c1, .slice A2 n c2] w fun e w' => e = .returned (.bool true) ∧ Below w.heap.size w w' := by
  have hne : ((n : Int) != (n : Int)) = false := by simp
  go_enter Tryd.func58, Tryd.ntmps58
  go_wp2_with fail
  go_loopw [13] (fun i wr => ∃ k : Nat, k ≤ n ∧ i = .int .i64 k ∧ Below w.heap.size w wr) (fun i _ => n - (intOf i).toNat)
  case atStart => exact ⟨0, by omega, rfl, Below.refl _ _⟩
  case round =>
    obtain ⟨k, hk, rfl, hbel⟩ := hrel
    by_cases hkn : k < n
    · obtain ⟨b1, o1, rfl, _, hc1⟩ := (h1.below hbel).here (by omega)
      obtain ⟨b2, o2, rfl, _, hc2⟩ := (h2.below hbel).here (by omega)
      have g1 := hc1 k hkn
      have g2 := hc2 k hkn
      have i1 : (k : Int) < (n : Int) := by omega
      clear hc1 hc2
      go_wp2_with fail
      go_region
      all_goals
        go_wp2_with fail
        go_roundw
        case rel => exact ⟨k + 1, by omega, by go_num, hbel.drew⟩
        case measure => simp [intOf]; omega
    · go_wp2_with fail
      go_ret
      exact ⟨rfl, hbel⟩

theorem same_yes (A1 : Option Addr) (n c1 : Nat) (A2 : Option Addr) (c2 : Nat) (xs : List Nat) (w : World) (h1 : Sl w A1 n c1 xs) (h2 : Sl w A2 n c2 xs) (hn : n ≤ 1000000000) :
    Calls Tryd.prog 15 #[.slice A1 n c1, .slice A2 n c2] w fun e w' => e = .returned (.bool true) ∧ Below w.heap.size w w' := by
  go_enter Tryd.func15, Tryd.ntmps15
  go_wp2_with (go_at_call 58; refine (refSame_yes _ _ _ _ _ _ _ h1 h2 hn).mono ?_; rintro e w1 ⟨rfl, hbel⟩)
  go_ret
  exact ⟨rfl, hbel⟩

/-- Two new slices of one number's limbs are the same. -/
theorem same_new (u v : Value) (m : Nat) (base base' : Nat) (w : World) (hu : New w base u (limbs m)) (hv : New w base' v (limbs m)) (hn : (limbs m).length ≤ 1000000000) :
    Calls Tryd.prog 15 #[u, v] w fun e w' => e = .returned (.bool true) ∧ Below w.heap.size w w' := by
  obtain ⟨A1, n1, c1, rfl, s1, _⟩ := hu
  obtain ⟨A2, n2, c2, rfl, s2, _⟩ := hv
  obtain rfl : n1 = n2 := s1.len.trans s2.len.symm
  exact same_yes _ _ _ _ _ _ _ s1 s2 (by have := s1.len; omega)
end Go.Proofs.YtjildimhflondaaDoor
