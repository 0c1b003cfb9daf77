/-
  pavaneref03.is of a number.
-/
import Derived.Test.YtocnlapbkidinaaGreatDoorQGod
import Derived.Test.YtocnlapbkidinaaGreatDoorPp1
set_option linter.unusedVariables false
set_option linter.unusedSimpArgs false
set_option linter.unusedSectionVars false
set_option linter.unnecessarySimpa false
namespace Go.Proofs.YtocnlapbkidinaaGreatDoor
open Go.RowKit
set_option maxRecDepth 100000

set_option maxHeartbeats 12800000 in
theorem is_num0 (g : Bool) (la : Option Addr) (ln lc : Nat) (s : ByteArray) (ia ta : Option Addr) (ic tc : Nat) (w : World) (hm : ln ≤ 9223372036854775807)
    (HG : Hid (∀ W, Below w.heap.size w W → Calls Tryz.prog 79 #[.agg #[.bool g, .slice la ln lc]] W fun e w' => (∃ r, e = .returned (.bool r)) ∧ Below W.heap.size W w')) :
    Calls Tryz.prog 39 #[.agg #[.int .i64 1, .bool g, .slice la ln lc, .bool false, .string s, .slice ia 0 ic, .slice ta 0 tc]] w fun e w' => (∃ r, e = .returned (.bool r)) ∧ Below w.heap.size w w' := by
  have hb0 : Below w.heap.size w (w.alloc (.cells #[.int .i64 1, .bool g, .slice la ln lc, .bool false, .string s, .slice ia 0 ic, .slice ta 0 tc] 29)) := (Below.refl _ _).alloc (Nat.le_refl _) _
  have h0n : (w.alloc (.cells #[.int .i64 1, .bool g, .slice la ln lc, .bool false, .string s, .slice ia 0 ic, .slice ta 0 tc] 29)).heap[w.heap.size]? = some (.cells #[.int .i64 1, .bool g, .slice la ln lc, .bool false, .string s, .slice ia 0 ic, .slice ta 0 tc] 29) := World.alloc_heap_new _ _
  have h0s : (w.alloc (.cells #[.int .i64 1, .bool g, .slice la ln lc, .bool false, .string s, .slice ia 0 ic, .slice ta 0 tc] 29)).heap.size = w.heap.size + 1 := World.size_alloc ..
  obtain ⟨W0, hW0⟩ : ∃ W, w.alloc (.cells #[.int .i64 1, .bool g, .slice la ln lc, .bool false, .string s, .slice ia 0 ic, .slice ta 0 tc] 29) = W := ⟨_, rfl⟩
  rw [hW0] at hb0 h0n h0s
  have HX := Lib.hid (And.intro hW0 (And.intro hb0 (And.intro h0n h0s)))
  clear hW0 hb0 h0n h0s
  cases g
  all_goals
    go_enter Tryz.func39, Tryz.ntmps39
    go_wp2_with fail
  all_goals rw [HX.out.1]
  all_goals first
    | (go_ret; exact ⟨⟨_, rfl⟩, HX.out.2.1⟩)
    | (refine (HG.out _ HX.out.2.1).mono ?_
       rintro e w1 ⟨⟨r, rfl⟩, b1⟩
       obtain ⟨⟨d0, d1, d2, d3, d4, d5, d6⟩, -⟩ := cells7 ((b1.block w.heap.size (by rw [HX.out.2.2.2]; omega)).trans HX.out.2.2.1)
       have H1 := Lib.hid (HX.out.2.1.trans (b1.mono HX.out.2.1.size))
       clear b1
       cases r
       all_goals
         go_wp2_with fail
         all_goals (go_ret; exact ⟨⟨_, rfl⟩, H1.out⟩))
set_option maxHeartbeats 12800000 in
theorem is_num (M : Nat) (t : LT) (hk : t.k = 1) (w : World) (hH : Held w M t) : Calls Tryz.prog 39 #[.agg #[.int .i64 t.k, .bool t.g, .slice t.la t.ln t.lc, .bool t.bb, .string t.s, .slice t.ia t.items.length t.ic, .slice t.ta t.tail.length t.tc]] w (IsP t w) := by
  have HB := Lib.hid (show ∀ O, Below w.heap.size w (w.alloc O) from fun O => (Below.refl _ _).alloc (Nat.le_refl _) _)
  have HK := Lib.hid hk
  have hm : t.ln ≤ maxLen := Nat.le_trans hH.1.1.le hH.1.1.max
  unfold maxLen at hm
  by_cases h1 : t.bb = true
  · rw [hk, h1]
    clear hk hH
    go_enter Tryz.func39, Tryz.ntmps39
    go_wp2_with fail
    all_goals (go_ret; exact ⟨_, rfl, fun _ h3 => (by have hk := HK.out; omega), HB.out _⟩)
  by_cases h2 : t.items.length = 0
  · by_cases h3 : t.tail.length = 0
    · have h := is_num0 t.g t.la t.ln t.lc t.s t.ia t.ta t.ic t.tc w hm (Lib.hid fun W hb => r2good_any t.g t.la t.ln t.lc t.ys W (hH.1.1.below hb))
      rw [hk, show t.bb = false by simpa using h1, h2, h3]
      refine h.mono ?_
      rintro e w' ⟨⟨r, rfl⟩, hb⟩
      exact ⟨r, rfl, fun _ h3 => (by omega), hb⟩
    · have e1 : decide ((t.tail.length : Int) = 0) = false := decide_eq_false (by omega)
      have e2 : ((t.tail.length : Int) == 0) = false := beq_eq_false_iff_ne.2 (by omega)
      rw [hk, h2]
      clear hk hH h3 h2
      go_enter Tryz.func39, Tryz.ntmps39
      go_wp2_with fail
      all_goals (go_ret; exact ⟨_, rfl, fun _ h3 => (by have hk := HK.out; omega), HB.out _⟩)
  · have e1 : decide ((t.items.length : Int) = 0) = false := decide_eq_false (by omega)
    have e2 : ((t.items.length : Int) == 0) = false := beq_eq_false_iff_ne.2 (by omega)
    rw [hk]
    clear hk hH h2
    go_enter Tryz.func39, Tryz.ntmps39
    go_wp2_with fail
    all_goals (go_ret; exact ⟨_, rfl, fun _ h3 => (by have hk := HK.out; omega), HB.out _⟩)
end Go.Proofs.YtocnlapbkidinaaGreatDoor
