/-
  PrimTells: its walk.
-/
import Derived.Test.YtocnlapbkidinaaGreatDoorQPrt
import Derived.RegionTactic
import Derived.BigRegion
import Derived.Deep.CutRange
import Derived.LoopTactic
import Derived.Deep.RegionHeld3
set_option linter.unusedVariables false
set_option linter.unusedSimpArgs false
set_option linter.unusedSectionVars false
set_option linter.unnecessarySimpa false
namespace Go.Proofs.YtocnlapbkidinaaGreatDoor
open Go.RowKit
set_option maxRecDepth 100000

set_option maxHeartbeats 12800000 in
theorem primTells_walk (a b : LT) (w : World) (hA : Held w w.heap.size a) (hB : Held w w.heap.size b) (hTa : Tame a) (hTb : Tame b) :
    Calls Tryz.prog 4 #[.agg #[.int .i64 a.k, .bool a.g, .slice a.la a.ln a.lc, .bool a.bb, .string a.s, .slice a.ia a.items.length a.ic, .slice a.ta a.tail.length a.tc], .agg #[.int .i64 b.k, .bool b.g, .slice b.la b.ln b.lc, .bool b.bb, .string b.s, .slice b.ia b.items.length b.ic, .slice b.ta b.tail.length b.tc]] w fun e w' => e = .returned (.bool true) ∧ Below w.heap.size w w' := by
  obtain ⟨w2, hw2, a0, a1, hz, hbel⟩ := two2 w (Obj.cells #[.int .i64 a.k, .bool a.g, .slice a.la a.ln a.lc, .bool a.bb, .string a.s, .slice a.ia a.items.length a.ic, .slice a.ta a.tail.length a.tc] 29) (Obj.cells #[.int .i64 b.k, .bool b.g, .slice b.la b.ln b.lc, .bool b.bb, .string b.s, .slice b.ia b.items.length b.ic, .slice b.ta b.tail.length b.tc] 29)
  have hA2 := held_onQ hA hbel
  have hB2 := held_onQ hB hbel
  have HL := light_pair a b w2 hA2 hB2
  unfold rowO at HL
  rw [hz] at HL
  have HW := Lib.hid (And.intro hw2 (And.intro a0 (And.intro a1 (And.intro hz hbel))))
  have HH := Lib.hid (And.intro hA2 (And.intro hB2 (And.intro hTa hTb)))
  have HLL := Lib.hid HL
  clear hw2 a0 a1 hz hbel hA hB hA2 hB2 hTa hTb HL
  go_enter Tryz.func4, Tryz.ntmps4
  go_wp2_with fail
  rw [← HW.out.1]
  refine HLL.out.mono ?_
  rintro e w3 ⟨rfl, b3'⟩
  have b3 : Below w2.heap.size w2 w3 := by rw [HW.out.2.2.2.1]; exact b3'
  clear b3'
  obtain ⟨l, hl⟩ : ∃ l, (lightX a && lightX b) = l := ⟨_, rfl⟩
  rw [hl]
  cases l
  · have H3 := Lib.hid (HW.out.2.2.2.2.trans (b3.mono HW.out.2.2.2.2.size))
    clear b3 hl HLL
    go_wp2_with fail
    refine (lives9_yes w3).mono ?_
    rintro e w4 ⟨rfl, b4⟩
    have H4 := Lib.hid (H3.out.trans (b4.mono H3.out.size))
    clear b4 H3
    go_wp2_with fail
    go_ret
    exact ⟨rfl, H4.out⟩
  rw [Bool.and_eq_true] at hl
  obtain ⟨fa, da⟩ := light_few hl.1
  obtain ⟨fb, db⟩ := light_few hl.2
  have H3 := Lib.hid (HW.out.2.2.2.2.trans (b3.mono HW.out.2.2.2.2.size))
  have HC := Lib.hid (fun W (hb : Below w2.heap.size w2 W) => show W.cell? ⟨w.heap.size, 0, none⟩ = some (.int .i64 a.k) ∧ W.cell? ⟨w.heap.size, 1, none⟩ = some (.bool a.g) ∧ W.cell? ⟨w.heap.size, 2, none⟩ = some (.slice a.la a.ln a.lc) ∧ W.cell? ⟨w.heap.size, 3, none⟩ = some (.bool a.bb) ∧ W.cell? ⟨w.heap.size, 4, none⟩ = some (.string a.s) ∧ W.cell? ⟨w.heap.size, 5, none⟩ = some (.slice a.ia a.items.length a.ic) ∧ W.cell? ⟨w.heap.size, 6, none⟩ = some (.slice a.ta a.tail.length a.tc) ∧ W.cell? ⟨w.heap.size + 1, 0, none⟩ = some (.int .i64 b.k) ∧ W.cell? ⟨w.heap.size + 1, 1, none⟩ = some (.bool b.g) ∧ W.cell? ⟨w.heap.size + 1, 2, none⟩ = some (.slice b.la b.ln b.lc) ∧ W.cell? ⟨w.heap.size + 1, 3, none⟩ = some (.bool b.bb) ∧ W.cell? ⟨w.heap.size + 1, 4, none⟩ = some (.string b.s) ∧ W.cell? ⟨w.heap.size + 1, 5, none⟩ = some (.slice b.ia b.items.length b.ic) ∧ W.cell? ⟨w.heap.size + 1, 6, none⟩ = some (.slice b.ta b.tail.length b.tc) by
    have hc := And.intro (cells7 ((hb.block w.heap.size (by rw [HW.out.2.2.2.1]; omega)).trans HW.out.2.1)).1 (cells7 ((hb.block (w.heap.size + 1) (by rw [HW.out.2.2.2.1]; omega)).trans HW.out.2.2.1)).1
    simpa only [and_assoc] using hc)
  obtain ⟨r1, hr1⟩ : ∃ r, (!decide (a.k = 2) || a.bb) = r := ⟨_, rfl⟩
  obtain ⟨r2, hr2⟩ : ∃ r, eqB a b = r := ⟨_, rfl⟩
  have ht1 := fun W => true_any a W
  have ht2 := fun W => rtrue_any a W
  have he1 := fun W (hb : Below w2.heap.size w2 W) => eq_any w2.heap.size a b (by omega) (by omega) (by omega) (by omega) HH.out.2.2.1 HH.out.2.2.2 W hb.size (HH.out.1.below (Nat.le_refl _) hb) (HH.out.2.1.below (Nat.le_refl _) hb)
  have he2 := fun W (hb : Below w2.heap.size w2 W) => req_any w2.heap.size a b (by omega) HH.out.2.2.1 HH.out.2.2.2 W hb.size (HH.out.1.below (Nat.le_refl _) hb) (HH.out.2.1.below (Nat.le_refl _) hb)
  have he3 := fun W (hb : Below w2.heap.size w2 W) => eq_any w2.heap.size b a (by omega) (by omega) (by omega) (by omega) HH.out.2.2.2 HH.out.2.2.1 W hb.size (HH.out.2.1.below (Nat.le_refl _) hb) (HH.out.1.below (Nat.le_refl _) hb)
  rw [hr1] at ht1 ht2
  rw [hr2] at he1 he2
  rw [eqB_comm b a, hr2] at he3
  have HT1 := Lib.hid ht1
  have HT2 := Lib.hid ht2
  have HE1 := Lib.hid he1
  have HE2 := Lib.hid he2
  have HE3 := Lib.hid he3
  have hb0 : Below w2.heap.size w2 w3.drew := b3.drew
  have hS0 := HC.out _ hb0
  clear b3 hl HLL fa da fb db ht1 ht2 he1 he2 he3 hr1 hr2
  go_wp2_with fail
  cases r1 <;> cases r2
  all_goals
    go_region_held3 (fun w' => w'.cell? ⟨w.heap.size, 0, none⟩ = some (.int .i64 a.k) ∧ w'.cell? ⟨w.heap.size, 1, none⟩ = some (.bool a.g) ∧ w'.cell? ⟨w.heap.size, 2, none⟩ = some (.slice a.la a.ln a.lc) ∧ w'.cell? ⟨w.heap.size, 3, none⟩ = some (.bool a.bb) ∧ w'.cell? ⟨w.heap.size, 4, none⟩ = some (.string a.s) ∧ w'.cell? ⟨w.heap.size, 5, none⟩ = some (.slice a.ia a.items.length a.ic) ∧ w'.cell? ⟨w.heap.size, 6, none⟩ = some (.slice a.ta a.tail.length a.tc) ∧ w'.cell? ⟨w.heap.size + 1, 0, none⟩ = some (.int .i64 b.k) ∧ w'.cell? ⟨w.heap.size + 1, 1, none⟩ = some (.bool b.g) ∧ w'.cell? ⟨w.heap.size + 1, 2, none⟩ = some (.slice b.la b.ln b.lc) ∧ w'.cell? ⟨w.heap.size + 1, 3, none⟩ = some (.bool b.bb) ∧ w'.cell? ⟨w.heap.size + 1, 4, none⟩ = some (.string b.s) ∧ w'.cell? ⟨w.heap.size + 1, 5, none⟩ = some (.slice b.ia b.items.length b.ic) ∧ w'.cell? ⟨w.heap.size + 1, 6, none⟩ = some (.slice b.ta b.tail.length b.tc))
      (first | with_reducible exact hS0 | with_reducible exact hS4 | with_reducible exact hS5 | with_reducible exact hS6 | with_reducible exact hS7 | with_reducible exact hS8 | with_reducible exact hS9 | with_reducible exact hS10 | go_keep)
      (first
      | (go_at_call 17; refine (HT1.out _).mono ?_; rintro e w4 ⟨rfl, b4⟩; have hb4 := hb0.trans (b4.mono hb0.size); have hS4 := HC.out _ hb4)
      | (go_at_call 18; refine (HT2.out _).mono ?_; rintro e w5 ⟨rfl, b5⟩; have hb5 := hb4.trans (b5.mono hb4.size); have hS5 := HC.out _ hb5)
      | (go_at_call 19; (fail_if_success (have hh := b6)); refine (HE1.out _ hb5).mono ?_; rintro e w6 ⟨rfl, b6⟩; have hb6 := hb5.trans (b6.mono hb5.size); have hS6 := HC.out _ hb6)
      | (go_at_call 20; refine (HE2.out _ hb6).mono ?_; rintro e w7 ⟨rfl, b7⟩; have hb7 := hb6.trans (b7.mono hb6.size); have hS7 := HC.out _ hb7)
      | (go_at_call 19; (fail_if_success (have hh := b8)); refine (HE1.out _ hb7).mono ?_; rintro e w8 ⟨rfl, b8⟩; have hb8 := hb7.trans (b8.mono hb7.size); have hS8 := HC.out _ hb8)
      | (go_at_call 19; (fail_if_success (have hh := b9)); refine (HE3.out _ hb8).mono ?_; rintro e w9 ⟨rfl, b9⟩; have hb9 := hb8.trans (b9.mono hb8.size); have hS9 := HC.out _ hb9)
      | (go_at_call 7; refine (lives9_yes _).mono ?_; rintro e w10 ⟨rfl, b10⟩; have hb10 := hb9.trans (b10.mono hb9.size); have hS10 := HC.out _ hb10))
    go_wp2_with fail
    go_ret
    exact ⟨rfl, HW.out.2.2.2.2.trans (hb10.mono HW.out.2.2.2.2.size)⟩
end Go.Proofs.YtocnlapbkidinaaGreatDoor
