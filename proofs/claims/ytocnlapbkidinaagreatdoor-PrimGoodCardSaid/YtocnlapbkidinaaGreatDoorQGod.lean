/-
  pavaneref02.Good and pavaneref03.is of anything: they end.
-/
import Derived.Test.YtocnlapbkidinaaGreatDoorQPrs
set_option linter.unusedVariables false
set_option linter.unusedSimpArgs false
set_option linter.unusedSectionVars false
set_option linter.unnecessarySimpa false
namespace Go.Proofs.YtocnlapbkidinaaGreatDoor
open Go.RowKit
set_option maxRecDepth 100000

set_option maxHeartbeats 3200000 in
theorem r2good_any (g : Bool) (A : Option Addr) (n c : Nat) (xs : List Nat) (w : World) (h : Sl w A n c xs) :
    Calls Tryz.prog 79 #[.agg #[.bool g, .slice A n c]] w fun e w' => (∃ r, e = .returned (.bool r)) ∧ Below w.heap.size w w' := by
  have hb0 : ∀ O, Below w.heap.size w (w.alloc O) := fun O => (Below.refl _ _).alloc (Nat.le_refl _) _
  have HB := Lib.hid hb0
  rcases n with _ | k
  · clear h hb0
    cases g
    all_goals
      go_enter Tryz.func79, Tryz.ntmps79
      go_wp2_with fail
      go_ret
      exact ⟨⟨_, rfl⟩, HB.out _⟩
  · have hm : k + 1 ≤ maxLen := Nat.le_trans h.le h.max
    unfold maxLen at hm
    obtain ⟨b, off, rfl, hb, hc⟩ := (h.alloc (.cells #[.bool g, .slice A (k + 1) c] 27)).here (by omega)
    have hck := hc k (by omega)
    obtain ⟨x, hx⟩ : ∃ x, lim xs k = x := ⟨_, rfl⟩
    rw [hx] at hck
    have ek1 : ((k : Int) + 1 == 0) = false := beq_eq_false_iff_ne.2 (by omega)
    have ek2 : decide ((k : Int) + 1 = 0) = false := decide_eq_false (by omega)
    have ek3 : decide (0 < (k : Int) + 1) = true := decide_eq_true (by omega)
    clear hc h hx hb0
    by_cases hx0 : x = 0
    · have hz : (((x : Nat) : Int) == 0) = true := beq_iff_eq.2 (by omega)
      have hz3 : (((x : Nat) : Int) != 0) = false := by simp [hx0]
      clear hx0
      go_enter Tryz.func79, Tryz.ntmps79
      go_wp2_with fail
      all_goals first
        | (exfalso; omega)
        | (go_ret; exact ⟨⟨_, rfl⟩, HB.out _⟩)
    · have hz : (((x : Nat) : Int) == 0) = false := beq_eq_false_iff_ne.2 (by omega)
      have hz3 : (((x : Nat) : Int) != 0) = true := bne_iff_ne.2 (by omega)
      clear hx0
      go_enter Tryz.func79, Tryz.ntmps79
      go_wp2_with fail
      all_goals first
        | (exfalso; omega)
        | (go_ret; exact ⟨⟨_, rfl⟩, HB.out _⟩)
/-- Is ends, and of a symbol that it holds to be good the name is short. -/
def IsP (t : LT) (w : World) (e : Ending) (w' : World) : Prop := ∃ r, e = .returned (.bool r) ∧ (r = true → t.k = 3 → t.s.size ≤ 1024) ∧ Below w.heap.size w w'
set_option maxHeartbeats 6400000 in
theorem is_nothing (t : LT) (hk : t.k = 0) (w : World) (hs : t.s.size ≤ maxLen) : Calls Tryz.prog 39 #[.agg #[.int .i64 t.k, .bool t.g, .slice t.la t.ln t.lc, .bool t.bb, .string t.s, .slice t.ia t.items.length t.ic, .slice t.ta t.tail.length t.tc]] w (IsP t w) := by
  have HB := Lib.hid (show ∀ O, Below w.heap.size w (w.alloc O) from fun O => (Below.refl _ _).alloc (Nat.le_refl _) _)
  have HK := Lib.hid hk
  unfold maxLen at hs
  rw [hk]
  clear hk
  go_enter Tryz.func39, Tryz.ntmps39
  go_wp2_with fail
  all_goals (go_ret; refine ⟨_, rfl, fun hr h3 => ?_, HB.out _⟩; have hk := HK.out; first | (exfalso; omega) | (exfalso; revert hr; decide) | omega | (have hq := of_decide_eq_true hr; omega))
set_option maxHeartbeats 6400000 in
theorem is_bool (t : LT) (hk : t.k = 2) (w : World) (hs : t.s.size ≤ maxLen) : Calls Tryz.prog 39 #[.agg #[.int .i64 t.k, .bool t.g, .slice t.la t.ln t.lc, .bool t.bb, .string t.s, .slice t.ia t.items.length t.ic, .slice t.ta t.tail.length t.tc]] w (IsP t w) := by
  have HB := Lib.hid (show ∀ O, Below w.heap.size w (w.alloc O) from fun O => (Below.refl _ _).alloc (Nat.le_refl _) _)
  have HK := Lib.hid hk
  unfold maxLen at hs
  rw [hk]
  clear hk
  go_enter Tryz.func39, Tryz.ntmps39
  go_wp2_with fail
  all_goals (go_ret; refine ⟨_, rfl, fun hr h3 => ?_, HB.out _⟩; have hk := HK.out; first | (exfalso; omega) | (exfalso; revert hr; decide) | omega | (have hq := of_decide_eq_true hr; omega))
set_option maxHeartbeats 6400000 in
theorem is_sym (t : LT) (hk : t.k = 3) (w : World) (hs : t.s.size ≤ maxLen) : Calls Tryz.prog 39 #[.agg #[.int .i64 t.k, .bool t.g, .slice t.la t.ln t.lc, .bool t.bb, .string t.s, .slice t.ia t.items.length t.ic, .slice t.ta t.tail.length t.tc]] w (IsP t w) := by
  have HB := Lib.hid (show ∀ O, Below w.heap.size w (w.alloc O) from fun O => (Below.refl _ _).alloc (Nat.le_refl _) _)
  have HK := Lib.hid hk
  unfold maxLen at hs
  rw [hk]
  clear hk
  go_enter Tryz.func39, Tryz.ntmps39
  go_wp2_with fail
  all_goals (go_ret; refine ⟨_, rfl, fun hr h3 => ?_, HB.out _⟩; have hk := HK.out; first | (exfalso; omega) | (exfalso; revert hr; decide) | omega | (have hq := of_decide_eq_true hr; omega))
set_option maxHeartbeats 6400000 in
theorem is_str (t : LT) (hk : t.k = 4) (w : World) (hs : t.s.size ≤ maxLen) : Calls Tryz.prog 39 #[.agg #[.int .i64 t.k, .bool t.g, .slice t.la t.ln t.lc, .bool t.bb, .string t.s, .slice t.ia t.items.length t.ic, .slice t.ta t.tail.length t.tc]] w (IsP t w) := by
  have HB := Lib.hid (show ∀ O, Below w.heap.size w (w.alloc O) from fun O => (Below.refl _ _).alloc (Nat.le_refl _) _)
  have HK := Lib.hid hk
  unfold maxLen at hs
  rw [hk]
  clear hk
  go_enter Tryz.func39, Tryz.ntmps39
  go_wp2_with fail
  all_goals (go_ret; refine ⟨_, rfl, fun hr h3 => ?_, HB.out _⟩; have hk := HK.out; first | (exfalso; omega) | (exfalso; revert hr; decide) | omega | (have hq := of_decide_eq_true hr; omega))
set_option maxHeartbeats 12800000 in
theorem is_other (t : LT) (h0 : t.k ≠ 0) (h1 : t.k ≠ 1) (h2 : t.k ≠ 2) (h3 : t.k ≠ 3) (h4 : t.k ≠ 4) (h5 : t.k ≠ 5) (w : World) : Calls Tryz.prog 39 #[.agg #[.int .i64 t.k, .bool t.g, .slice t.la t.ln t.lc, .bool t.bb, .string t.s, .slice t.ia t.items.length t.ic, .slice t.ta t.tail.length t.tc]] w (IsP t w) := by
  have HB := Lib.hid (show ∀ O, Below w.heap.size w (w.alloc O) from fun O => (Below.refl _ _).alloc (Nat.le_refl _) _)
  have HK := Lib.hid h3
  have e0 : (t.k == 0) = false := beq_eq_false_iff_ne.2 h0
  have e1 : (t.k == 1) = false := beq_eq_false_iff_ne.2 h1
  have e2 : (t.k == 2) = false := beq_eq_false_iff_ne.2 h2
  have e3 : (t.k == 3) = false := beq_eq_false_iff_ne.2 h3
  have e4 : (t.k == 4) = false := beq_eq_false_iff_ne.2 h4
  have e5 : (t.k == 5) = false := beq_eq_false_iff_ne.2 h5
  clear h0 h1 h2 h3 h4 h5
  go_enter Tryz.func39, Tryz.ntmps39
  go_wp2_with fail
  all_goals (go_ret; exact ⟨_, rfl, fun _ h3 => absurd h3 HK.out, HB.out _⟩)
end Go.Proofs.YtocnlapbkidinaaGreatDoor
