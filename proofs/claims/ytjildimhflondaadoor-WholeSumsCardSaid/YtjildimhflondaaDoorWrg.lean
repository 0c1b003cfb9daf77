/-
  whole.Good and the document's own over any argument: what they answer.
-/
import Derived.Test.YtjildimhflondaaDoorWra
namespace Go.Proofs.YtjildimhflondaaDoor
open Go.RowKit
/-- Its last limb is not 0, and nought has no sign. -/
def goodB (s : Bool) (xs : List Nat) : Bool := if xs.length = 0 then !s else decide (lim xs (xs.length - 1) ≠ 0)

set_option maxHeartbeats 1600000 in
theorem wgood_any {w : World} (s : Bool) {A : Option Addr} {n c : Nat} {xs : List Nat} (hs : Sl w A n c xs) : Calls Tryd.prog 23 #[.agg #[.bool s, .slice A n c]] w fun e w' => e = .returned (.bool (goodB s xs)) ∧ Below w.heap.size w w' := by
  obtain ⟨W, hW, hp, hb⟩ := enter1 w (.bool s) (.slice A n c)
  have hmax := Nat.le_trans hs.le hs.max
  unfold maxLen at hmax
  have e0 := hp.c0
  have e1 := hp.c1
  rw [hW] at e0 e1
  unfold goodB
  rw [← hs.len]
  by_cases h0 : n = 0
  · rw [if_pos h0]
    subst h0
    clear hs
    cases s
    all_goals
      go_enter Tryd.func23, Tryd.ntmps23
      go_wp2_with fail
      rw [← hW]
      go_ret
      exact ⟨rfl, hb⟩
  · rw [if_neg h0]
    obtain ⟨k, hk⟩ : ∃ k, n = k + 1 := ⟨n - 1, by omega⟩
    subst hk
    rw [Nat.add_sub_cancel]
    obtain ⟨b, off, rfl, hlt, hc⟩ := hs.here (by omega)
    have g := (hb.cell (p := ⟨b, off + k, none⟩) hlt).trans (hc k (by omega))
    rw [hW] at g
    have i1 : (k : Int) < (k : Int) + 1 := by omega
    have i2 : ((k : Int) + 1 == 0) = false := beq_eq_false_iff_ne.2 (by omega)
    clear hc hs h0
    by_cases hx : lim xs k = 0
    · rw [decide_eq_false (by simp [hx])]
      rw [hx] at g
      go_enter Tryd.func23, Tryd.ntmps23
      go_wp2_with fail
      rw [← hW]
      go_ret
      exact ⟨rfl, hb⟩
    · rw [decide_eq_true hx]
      have hx1 : (((lim xs k : Nat) : Int) == 0) = false := beq_eq_false_iff_ne.2 (by omega)
      have hx2 : (((lim xs k : Nat) : Int) != 0) = true := by simp only [bne, hx1, Bool.not_false]
      generalize ((lim xs k : Nat) : Int) = q at *
      clear hx
      go_enter Tryd.func23, Tryd.ntmps23
      go_wp2_with fail
      rw [← hW]
      go_ret
      exact ⟨rfl, hb⟩

set_option maxHeartbeats 1600000 in
theorem rwgood_any {w : World} (s : Bool) {A : Option Addr} {n c : Nat} {xs : List Nat} (hs : Sl w A n c xs) : Calls Tryd.prog 24 #[.agg #[.bool s, .slice A n c]] w fun e w' => e = .returned (.bool (goodB s xs)) ∧ Below w.heap.size w w' := by
  obtain ⟨W, hW, hp, hb⟩ := enter1 w (.bool s) (.slice A n c)
  have hmax := Nat.le_trans hs.le hs.max
  unfold maxLen at hmax
  have e0 := hp.c0
  have e1 := hp.c1
  rw [hW] at e0 e1
  unfold goodB
  rw [← hs.len]
  by_cases h0 : n = 0
  · rw [if_pos h0]
    subst h0
    clear hs
    cases s
    all_goals
      go_enter Tryd.func24, Tryd.ntmps24
      go_wp2_with fail
      rw [← hW]
      go_ret
      exact ⟨rfl, hb⟩
  · rw [if_neg h0]
    obtain ⟨k, hk⟩ : ∃ k, n = k + 1 := ⟨n - 1, by omega⟩
    subst hk
    rw [Nat.add_sub_cancel]
    obtain ⟨b, off, rfl, hlt, hc⟩ := hs.here (by omega)
    have g := (hb.cell (p := ⟨b, off + k, none⟩) hlt).trans (hc k (by omega))
    rw [hW] at g
    have i1 : (k : Int) < (k : Int) + 1 := by omega
    have i2 : ((k : Int) + 1 == 0) = false := beq_eq_false_iff_ne.2 (by omega)
    clear hc hs h0
    by_cases hx : lim xs k = 0
    · rw [decide_eq_false (by simp [hx])]
      rw [hx] at g
      go_enter Tryd.func24, Tryd.ntmps24
      go_wp2_with fail
      rw [← hW]
      go_ret
      exact ⟨rfl, hb⟩
    · rw [decide_eq_true hx]
      have hx1 : (((lim xs k : Nat) : Int) == 0) = false := beq_eq_false_iff_ne.2 (by omega)
      have hx2 : (((lim xs k : Nat) : Int) != 0) = true := by simp only [bne, hx1, Bool.not_false]
      generalize ((lim xs k : Nat) : Int) = q at *
      clear hx
      go_enter Tryd.func24, Tryd.ntmps24
      go_wp2_with fail
      rw [← hW]
      go_ret
      exact ⟨rfl, hb⟩
end Go.Proofs.YtjildimhflondaaDoor
