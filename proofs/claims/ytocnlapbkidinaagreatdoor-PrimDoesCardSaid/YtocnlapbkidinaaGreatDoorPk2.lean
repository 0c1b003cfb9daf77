/-
  pavaneref09.Do of two data that it reckons. pavaneref09.Do of one datum, and of two that it does not reckon. pavaneref09.Do of one datum, and of two that it does not reckon. pavaneref09.Do of one datum, and of two that it does not reckon. pavaneref09.Do of one datum, and of two that it does not reckon.
-/
import Derived.Test.YtocnlapbkidinaaGreatDoorPk4
import Derived.Test.YtocnlapbkidinaaGreatDoorPk1
import Derived.RegionTactic
import Derived.BigRegion
import Derived.LoopTactic
import Derived.Deep.RegionHeld3
set_option linter.unusedVariables false
set_option linter.unusedSimpArgs false
set_option linter.unusedSectionVars false
set_option linter.unnecessarySimpa false
namespace Go.Proofs.YtocnlapbkidinaaGreatDoor
section
open Go.RowKit
set_option maxRecDepth 100000

set_option maxHeartbeats 6400000 in
theorem rdo_reck (p : Int) (hp : 1 ≤ p ∧ p ≤ 8) (B o c : Nat) (x y : LT) (R : Ans) (w : World) (hR : RowAt w B o [x, y])
    (HC : ∀ W, Below w.heap.size w W → Calls Tryz.prog 27 #[.int .i64 p, .agg #[.int .i64 x.k, .bool x.g, .slice x.la x.ln x.lc, .bool x.bb, .string x.s, .slice x.ia x.items.length x.ic, .slice x.ta x.tail.length x.tc], .agg #[.int .i64 y.k, .bool y.g, .slice y.la y.ln y.lc, .bool y.bb, .string y.s, .slice y.ia y.items.length y.ic, .slice y.ta y.tail.length y.tc]] W (TelA W R)) :
    Calls Tryz.prog 9 #[.int .i64 p, .slice (some ⟨B, o, none⟩) 2 c] w (TelA w R) := by
  have hpl : plainB p = true := by unfold plainB; exact decide_eq_true (by omega)
  have har : arB p = 2 := by unfold arB; rw [if_pos (by omega)]
  have e8 : decide (p ≤ 8) = true := decide_eq_true hp.2
  have HK := Lib.hid (fun W (hb : Below w.heap.size w W) => show W.cell? ⟨B, o, none⟩ = some (.int .i64 x.k) ∧ W.cell? ⟨B, o + 1, none⟩ = some (.bool x.g) ∧ W.cell? ⟨B, o + 2, none⟩ = some (.slice x.la x.ln x.lc) ∧ W.cell? ⟨B, o + 3, none⟩ = some (.bool x.bb) ∧ W.cell? ⟨B, o + 4, none⟩ = some (.string x.s) ∧ W.cell? ⟨B, o + 5, none⟩ = some (.slice x.ia x.items.length x.ic) ∧ W.cell? ⟨B, o + 6, none⟩ = some (.slice x.ta x.tail.length x.tc) ∧ W.cell? ⟨B, o + 7, none⟩ = some (.int .i64 y.k) ∧ W.cell? ⟨B, o + 7 + 1, none⟩ = some (.bool y.g) ∧ W.cell? ⟨B, o + 7 + 2, none⟩ = some (.slice y.la y.ln y.lc) ∧ W.cell? ⟨B, o + 7 + 3, none⟩ = some (.bool y.bb) ∧ W.cell? ⟨B, o + 7 + 4, none⟩ = some (.string y.s) ∧ W.cell? ⟨B, o + 7 + 5, none⟩ = some (.slice y.ia y.items.length y.ic) ∧ W.cell? ⟨B, o + 7 + 6, none⟩ = some (.slice y.ta y.tail.length y.tc) by
    have hc := And.intro (hR.below hb).first.cells (hR.below hb).second.cells
    simpa only [and_assoc] using hc)
  have hB : B < w.heap.size := hR.1
  have HCC := Lib.hid HC
  clear HC hp
  have hb0 : Below w.heap.size w (w.alloc (Obj.cells #[.int .i64 0, .bool false, .slice none 0 0, .bool false, .string ⟨#[]⟩, .slice none 0 0, .slice none 0 0] 29)) := (Below.refl _ _).alloc (Nat.le_refl _) _
  have hz0 : (w.alloc (Obj.cells #[.int .i64 0, .bool false, .slice none 0 0, .bool false, .string ⟨#[]⟩, .slice none 0 0, .slice none 0 0] 29)).heap[w.heap.size]? = some (Obj.cells #[.int .i64 0, .bool false, .slice none 0 0, .bool false, .string ⟨#[]⟩, .slice none 0 0, .slice none 0 0] 29) := heap_alloc_new w (Obj.cells #[.int .i64 0, .bool false, .slice none 0 0, .bool false, .string ⟨#[]⟩, .slice none 0 0, .slice none 0 0] 29)
  have ha := rarity_any p hpl
  have hq := rplain_is p
  rw [har] at ha
  rw [hpl] at hq
  have HA := Lib.hid ha
  have HQ := Lib.hid hq
  have HR := Lib.hid hR
  have H0 := Lib.hid (And.intro hb0 hz0)
  clear ha hq hR hb0 hz0 hpl har
  go_enter Tryz.func9, Tryz.ntmps9
  go_wp2_with fail
  refine (HQ.out _).mono ?_
  rintro e w1 ⟨rfl, b1⟩
  have H1 := Lib.hid (And.intro (H0.out.1.trans (b1.mono H0.out.1.size)) ((b1.block w.heap.size (Array.getElem?_eq_some_iff.1 H0.out.2).1).trans H0.out.2))
  clear b1
  go_wp2_with fail
  refine (HA.out _).mono ?_
  rintro e w2 ⟨rfl, b2⟩
  have H2 := Lib.hid (And.intro (H1.out.1.trans (b2.mono H1.out.1.size)) ((b2.block w.heap.size (Array.getElem?_eq_some_iff.1 H1.out.2).1).trans H1.out.2))
  clear b2
  have hb2 := H2.out.1.drew
  have hS0 := HK.out _ hb2
  go_wp2_with fail
  go_region_held3 (fun w' => w'.cell? ⟨B, o, none⟩ = some (.int .i64 x.k) ∧ w'.cell? ⟨B, o + 1, none⟩ = some (.bool x.g) ∧ w'.cell? ⟨B, o + 2, none⟩ = some (.slice x.la x.ln x.lc) ∧ w'.cell? ⟨B, o + 3, none⟩ = some (.bool x.bb) ∧ w'.cell? ⟨B, o + 4, none⟩ = some (.string x.s) ∧ w'.cell? ⟨B, o + 5, none⟩ = some (.slice x.ia x.items.length x.ic) ∧ w'.cell? ⟨B, o + 6, none⟩ = some (.slice x.ta x.tail.length x.tc) ∧ w'.cell? ⟨B, o + 7, none⟩ = some (.int .i64 y.k) ∧ w'.cell? ⟨B, o + 7 + 1, none⟩ = some (.bool y.g) ∧ w'.cell? ⟨B, o + 7 + 2, none⟩ = some (.slice y.la y.ln y.lc) ∧ w'.cell? ⟨B, o + 7 + 3, none⟩ = some (.bool y.bb) ∧ w'.cell? ⟨B, o + 7 + 4, none⟩ = some (.string y.s) ∧ w'.cell? ⟨B, o + 7 + 5, none⟩ = some (.slice y.ia y.items.length y.ic) ∧ w'.cell? ⟨B, o + 7 + 6, none⟩ = some (.slice y.ta y.tail.length y.tc))
    (first | with_reducible exact hS0 | with_reducible exact hS1 | with_reducible exact hS4 | go_keep)
    (first
    | (go_at_call 27; refine (HCC.out _ hb2).mono ?_; rintro e w3 ⟨A1, n1, c1, rfl, hsl, b3⟩;
       have hb3 := hb2.trans (b3.mono hb2.size); have hS1 := HK.out _ hb3;
       have hz := (b3.block w.heap.size (Array.getElem?_eq_some_iff.1 H2.out.2).1).trans H2.out.2;
       obtain ⟨⟨d0, d1, d2, d3, d4, d5, d6⟩, f0, f1, f2, f3, f4, f5, f6⟩ := cells7 hz;
       have hS4 := HK.out _ (below7 hb3 (Nat.le_refl _) (.int .i64 R.k) (.bool R.sg) (.slice A1 n1 c1) (.bool R.b) (.string R.s) (.slice none 0 0) (.slice none 0 0))))
  go_wp2_with fail
  exact tel_set rfl rfl rfl rfl hz (Nat.le_refl _) hsl hb3
end
end Go.Proofs.YtocnlapbkidinaaGreatDoor
namespace Go.Proofs.YtocnlapbkidinaaGreatDoor
section
open Go.RowKit
set_option maxRecDepth 100000

set_option maxHeartbeats 6400000 in
theorem rdo_nullq (B o c : Nat) (x : LT) (w : World) (hR : RowAt w B o [x]) :
    Calls Tryz.prog 9 #[.int .i64 14, .slice (some ⟨B, o, none⟩) 1 c] w (TelA w (boolA (decide (x.k = 5) && decide (x.items.length = 0)))) := by
  have hpl : plainB 14 = true := by decide
  have har : arB 14 = 1 := by decide
  by_cases hk : x.k = 5
  · obtain ⟨r, hr⟩ : ∃ r, decide (x.items.length = 0) = r := ⟨_, rfl⟩
    rw [decide_eq_true hk, Bool.true_and, hr]
    have er : ((x.items.length : Int) == 0) = r := by rw [← hr]; simp [Bool.beq_eq_decide_eq]
    have ek : (x.k == 5) = true := by simp [hk]
    clear hr hk
    have hb0 : Below w.heap.size w (w.alloc (Obj.cells #[.int .i64 0, .bool false, .slice none 0 0, .bool false, .string ⟨#[]⟩, .slice none 0 0, .slice none 0 0] 29)) := (Below.refl _ _).alloc (Nat.le_refl _) _
    have hz0 : (w.alloc (Obj.cells #[.int .i64 0, .bool false, .slice none 0 0, .bool false, .string ⟨#[]⟩, .slice none 0 0, .slice none 0 0] 29)).heap[w.heap.size]? = some (Obj.cells #[.int .i64 0, .bool false, .slice none 0 0, .bool false, .string ⟨#[]⟩, .slice none 0 0, .slice none 0 0] 29) := heap_alloc_new w (Obj.cells #[.int .i64 0, .bool false, .slice none 0 0, .bool false, .string ⟨#[]⟩, .slice none 0 0, .slice none 0 0] 29)
    have ha := rarity_any 14 hpl
    have hq := rplain_is 14
    rw [har] at ha
    rw [hpl] at hq
    have HA := Lib.hid ha
    have HQ := Lib.hid hq
    have HR := Lib.hid hR
    have H0 := Lib.hid (And.intro hb0 hz0)
    clear ha hq hR hb0 hz0 hpl har
    go_enter Tryz.func9, Tryz.ntmps9
    go_wp2_with fail
    refine (HQ.out _).mono ?_
    rintro e w1 ⟨rfl, b1⟩
    have H1 := Lib.hid (And.intro (H0.out.1.trans (b1.mono H0.out.1.size)) ((b1.block w.heap.size (Array.getElem?_eq_some_iff.1 H0.out.2).1).trans H0.out.2))
    clear b1
    go_wp2_with fail
    refine (HA.out _).mono ?_
    rintro e w2 ⟨rfl, b2⟩
    have H2 := Lib.hid (And.intro (H1.out.1.trans (b2.mono H1.out.1.size)) ((b2.block w.heap.size (Array.getElem?_eq_some_iff.1 H1.out.2).1).trans H1.out.2))
    clear b2
    have HO := Lib.hid (And.intro (H2.out.1.trans (((Below.refl w2.heap.size w2).alloc (Nat.le_refl _) (Obj.cells #[.int .i64 x.k, .bool x.g, .slice x.la x.ln x.lc, .bool x.bb, .string x.s, .slice x.ia x.items.length x.ic, .slice x.ta x.tail.length x.tc] 29)).mono H2.out.1.size)) ((((Below.refl w2.heap.size w2).alloc (Nat.le_refl _) (Obj.cells #[.int .i64 x.k, .bool x.g, .slice x.la x.ln x.lc, .bool x.bb, .string x.s, .slice x.ia x.items.length x.ic, .slice x.ta x.tail.length x.tc] 29)).block w.heap.size (Array.getElem?_eq_some_iff.1 H2.out.2).1).trans H2.out.2))
    obtain ⟨x0, x1, x2, x3, x4, x5, x6⟩ := (HR.out.below H2.out.1).first.cells
    go_wp2_with fail
    clear x0 x1 x2 x3 x4 x5 x6
    refine (rtruth_any r _).mono ?_
    rintro e w3 ⟨A5, n5, c5, rfl, hs5, b5⟩
    have H3 := Lib.hid (And.intro (HO.out.1.trans (b5.mono HO.out.1.size)) ((b5.block w.heap.size (Array.getElem?_eq_some_iff.1 HO.out.2).1).trans HO.out.2))
    have HS := Lib.hid hs5
    clear b5 hs5
    obtain ⟨⟨d0, d1, d2, d3, d4, d5, d6⟩, f0, f1, f2, f3, f4, f5, f6⟩ := cells7 H3.out.2
    go_wp2_with fail
    exact tel_set rfl rfl rfl rfl H3.out.2 (Nat.le_refl _) HS.out H3.out.1
  · rw [decide_eq_false hk, Bool.false_and]
    have ek : (x.k == 5) = false := beq_eq_false_iff_ne.2 hk
    clear hk
    have hb0 : Below w.heap.size w (w.alloc (Obj.cells #[.int .i64 0, .bool false, .slice none 0 0, .bool false, .string ⟨#[]⟩, .slice none 0 0, .slice none 0 0] 29)) := (Below.refl _ _).alloc (Nat.le_refl _) _
    have hz0 : (w.alloc (Obj.cells #[.int .i64 0, .bool false, .slice none 0 0, .bool false, .string ⟨#[]⟩, .slice none 0 0, .slice none 0 0] 29)).heap[w.heap.size]? = some (Obj.cells #[.int .i64 0, .bool false, .slice none 0 0, .bool false, .string ⟨#[]⟩, .slice none 0 0, .slice none 0 0] 29) := heap_alloc_new w (Obj.cells #[.int .i64 0, .bool false, .slice none 0 0, .bool false, .string ⟨#[]⟩, .slice none 0 0, .slice none 0 0] 29)
    have ha := rarity_any 14 hpl
    have hq := rplain_is 14
    rw [har] at ha
    rw [hpl] at hq
    have HA := Lib.hid ha
    have HQ := Lib.hid hq
    have HR := Lib.hid hR
    have H0 := Lib.hid (And.intro hb0 hz0)
    clear ha hq hR hb0 hz0 hpl har
    go_enter Tryz.func9, Tryz.ntmps9
    go_wp2_with fail
    refine (HQ.out _).mono ?_
    rintro e w1 ⟨rfl, b1⟩
    have H1 := Lib.hid (And.intro (H0.out.1.trans (b1.mono H0.out.1.size)) ((b1.block w.heap.size (Array.getElem?_eq_some_iff.1 H0.out.2).1).trans H0.out.2))
    clear b1
    go_wp2_with fail
    refine (HA.out _).mono ?_
    rintro e w2 ⟨rfl, b2⟩
    have H2 := Lib.hid (And.intro (H1.out.1.trans (b2.mono H1.out.1.size)) ((b2.block w.heap.size (Array.getElem?_eq_some_iff.1 H1.out.2).1).trans H1.out.2))
    clear b2
    have HO := Lib.hid (And.intro (H2.out.1.trans (((Below.refl w2.heap.size w2).alloc (Nat.le_refl _) (Obj.cells #[.int .i64 x.k, .bool x.g, .slice x.la x.ln x.lc, .bool x.bb, .string x.s, .slice x.ia x.items.length x.ic, .slice x.ta x.tail.length x.tc] 29)).mono H2.out.1.size)) ((((Below.refl w2.heap.size w2).alloc (Nat.le_refl _) (Obj.cells #[.int .i64 x.k, .bool x.g, .slice x.la x.ln x.lc, .bool x.bb, .string x.s, .slice x.ia x.items.length x.ic, .slice x.ta x.tail.length x.tc] 29)).block w.heap.size (Array.getElem?_eq_some_iff.1 H2.out.2).1).trans H2.out.2))
    obtain ⟨x0, x1, x2, x3, x4, x5, x6⟩ := (HR.out.below H2.out.1).first.cells
    go_wp2_with fail
    clear x0 x1 x2 x3 x4 x5 x6
    refine (rtruth_any false _).mono ?_
    rintro e w3 ⟨A5, n5, c5, rfl, hs5, b5⟩
    have H3 := Lib.hid (And.intro (HO.out.1.trans (b5.mono HO.out.1.size)) ((b5.block w.heap.size (Array.getElem?_eq_some_iff.1 HO.out.2).1).trans HO.out.2))
    have HS := Lib.hid hs5
    clear b5 hs5
    obtain ⟨⟨d0, d1, d2, d3, d4, d5, d6⟩, f0, f1, f2, f3, f4, f5, f6⟩ := cells7 H3.out.2
    go_wp2_with fail
    exact tel_set rfl rfl rfl rfl H3.out.2 (Nat.le_refl _) HS.out H3.out.1
set_option maxHeartbeats 6400000 in
theorem rdo_pairq (B o c : Nat) (x : LT) (w : World) (hR : RowAt w B o [x]) :
    Calls Tryz.prog 9 #[.int .i64 15, .slice (some ⟨B, o, none⟩) 1 c] w (TelA w (boolA (decide (x.k = 5) && decide (0 < x.items.length)))) := by
  have hpl : plainB 15 = true := by decide
  have har : arB 15 = 1 := by decide
  by_cases hk : x.k = 5
  · obtain ⟨r, hr⟩ : ∃ r, decide (0 < x.items.length) = r := ⟨_, rfl⟩
    rw [decide_eq_true hk, Bool.true_and, hr]
    have er : decide ((0 : Int) < (x.items.length : Int)) = r := by rw [← hr]; simp [Bool.beq_eq_decide_eq]
    have ek : (x.k == 5) = true := by simp [hk]
    clear hk
    have hb0 : Below w.heap.size w (w.alloc (Obj.cells #[.int .i64 0, .bool false, .slice none 0 0, .bool false, .string ⟨#[]⟩, .slice none 0 0, .slice none 0 0] 29)) := (Below.refl _ _).alloc (Nat.le_refl _) _
    have hz0 : (w.alloc (Obj.cells #[.int .i64 0, .bool false, .slice none 0 0, .bool false, .string ⟨#[]⟩, .slice none 0 0, .slice none 0 0] 29)).heap[w.heap.size]? = some (Obj.cells #[.int .i64 0, .bool false, .slice none 0 0, .bool false, .string ⟨#[]⟩, .slice none 0 0, .slice none 0 0] 29) := heap_alloc_new w (Obj.cells #[.int .i64 0, .bool false, .slice none 0 0, .bool false, .string ⟨#[]⟩, .slice none 0 0, .slice none 0 0] 29)
    have ha := rarity_any 15 hpl
    have hq := rplain_is 15
    rw [har] at ha
    rw [hpl] at hq
    have HA := Lib.hid ha
    have HQ := Lib.hid hq
    have HR := Lib.hid hR
    have H0 := Lib.hid (And.intro hb0 hz0)
    clear ha hq hR hb0 hz0 hpl har
    go_enter Tryz.func9, Tryz.ntmps9
    go_wp2_with fail
    refine (HQ.out _).mono ?_
    rintro e w1 ⟨rfl, b1⟩
    have H1 := Lib.hid (And.intro (H0.out.1.trans (b1.mono H0.out.1.size)) ((b1.block w.heap.size (Array.getElem?_eq_some_iff.1 H0.out.2).1).trans H0.out.2))
    clear b1
    go_wp2_with fail
    refine (HA.out _).mono ?_
    rintro e w2 ⟨rfl, b2⟩
    have H2 := Lib.hid (And.intro (H1.out.1.trans (b2.mono H1.out.1.size)) ((b2.block w.heap.size (Array.getElem?_eq_some_iff.1 H1.out.2).1).trans H1.out.2))
    clear b2
    have HO := Lib.hid (And.intro (H2.out.1.trans (((Below.refl w2.heap.size w2).alloc (Nat.le_refl _) (Obj.cells #[.int .i64 x.k, .bool x.g, .slice x.la x.ln x.lc, .bool x.bb, .string x.s, .slice x.ia x.items.length x.ic, .slice x.ta x.tail.length x.tc] 29)).mono H2.out.1.size)) ((((Below.refl w2.heap.size w2).alloc (Nat.le_refl _) (Obj.cells #[.int .i64 x.k, .bool x.g, .slice x.la x.ln x.lc, .bool x.bb, .string x.s, .slice x.ia x.items.length x.ic, .slice x.ta x.tail.length x.tc] 29)).block w.heap.size (Array.getElem?_eq_some_iff.1 H2.out.2).1).trans H2.out.2))
    obtain ⟨x0, x1, x2, x3, x4, x5, x6⟩ := (HR.out.below H2.out.1).first.cells
    go_wp2_with fail
    clear x0 x1 x2 x3 x4 x5 x6
    refine (rtruth_any r _).mono ?_
    rintro e w3 ⟨A5, n5, c5, rfl, hs5, b5⟩
    have H3 := Lib.hid (And.intro (HO.out.1.trans (b5.mono HO.out.1.size)) ((b5.block w.heap.size (Array.getElem?_eq_some_iff.1 HO.out.2).1).trans HO.out.2))
    have HS := Lib.hid hs5
    clear b5 hs5
    obtain ⟨⟨d0, d1, d2, d3, d4, d5, d6⟩, f0, f1, f2, f3, f4, f5, f6⟩ := cells7 H3.out.2
    go_wp2_with fail
    exact tel_set rfl rfl rfl rfl H3.out.2 (Nat.le_refl _) HS.out H3.out.1
  · rw [decide_eq_false hk, Bool.false_and]
    have ek : (x.k == 5) = false := beq_eq_false_iff_ne.2 hk
    clear hk
    have hb0 : Below w.heap.size w (w.alloc (Obj.cells #[.int .i64 0, .bool false, .slice none 0 0, .bool false, .string ⟨#[]⟩, .slice none 0 0, .slice none 0 0] 29)) := (Below.refl _ _).alloc (Nat.le_refl _) _
    have hz0 : (w.alloc (Obj.cells #[.int .i64 0, .bool false, .slice none 0 0, .bool false, .string ⟨#[]⟩, .slice none 0 0, .slice none 0 0] 29)).heap[w.heap.size]? = some (Obj.cells #[.int .i64 0, .bool false, .slice none 0 0, .bool false, .string ⟨#[]⟩, .slice none 0 0, .slice none 0 0] 29) := heap_alloc_new w (Obj.cells #[.int .i64 0, .bool false, .slice none 0 0, .bool false, .string ⟨#[]⟩, .slice none 0 0, .slice none 0 0] 29)
    have ha := rarity_any 15 hpl
    have hq := rplain_is 15
    rw [har] at ha
    rw [hpl] at hq
    have HA := Lib.hid ha
    have HQ := Lib.hid hq
    have HR := Lib.hid hR
    have H0 := Lib.hid (And.intro hb0 hz0)
    clear ha hq hR hb0 hz0 hpl har
    go_enter Tryz.func9, Tryz.ntmps9
    go_wp2_with fail
    refine (HQ.out _).mono ?_
    rintro e w1 ⟨rfl, b1⟩
    have H1 := Lib.hid (And.intro (H0.out.1.trans (b1.mono H0.out.1.size)) ((b1.block w.heap.size (Array.getElem?_eq_some_iff.1 H0.out.2).1).trans H0.out.2))
    clear b1
    go_wp2_with fail
    refine (HA.out _).mono ?_
    rintro e w2 ⟨rfl, b2⟩
    have H2 := Lib.hid (And.intro (H1.out.1.trans (b2.mono H1.out.1.size)) ((b2.block w.heap.size (Array.getElem?_eq_some_iff.1 H1.out.2).1).trans H1.out.2))
    clear b2
    have HO := Lib.hid (And.intro (H2.out.1.trans (((Below.refl w2.heap.size w2).alloc (Nat.le_refl _) (Obj.cells #[.int .i64 x.k, .bool x.g, .slice x.la x.ln x.lc, .bool x.bb, .string x.s, .slice x.ia x.items.length x.ic, .slice x.ta x.tail.length x.tc] 29)).mono H2.out.1.size)) ((((Below.refl w2.heap.size w2).alloc (Nat.le_refl _) (Obj.cells #[.int .i64 x.k, .bool x.g, .slice x.la x.ln x.lc, .bool x.bb, .string x.s, .slice x.ia x.items.length x.ic, .slice x.ta x.tail.length x.tc] 29)).block w.heap.size (Array.getElem?_eq_some_iff.1 H2.out.2).1).trans H2.out.2))
    obtain ⟨x0, x1, x2, x3, x4, x5, x6⟩ := (HR.out.below H2.out.1).first.cells
    go_wp2_with fail
    clear x0 x1 x2 x3 x4 x5 x6
    refine (rtruth_any false _).mono ?_
    rintro e w3 ⟨A5, n5, c5, rfl, hs5, b5⟩
    have H3 := Lib.hid (And.intro (HO.out.1.trans (b5.mono HO.out.1.size)) ((b5.block w.heap.size (Array.getElem?_eq_some_iff.1 HO.out.2).1).trans HO.out.2))
    have HS := Lib.hid hs5
    clear b5 hs5
    obtain ⟨⟨d0, d1, d2, d3, d4, d5, d6⟩, f0, f1, f2, f3, f4, f5, f6⟩ := cells7 H3.out.2
    go_wp2_with fail
    exact tel_set rfl rfl rfl rfl H3.out.2 (Nat.le_refl _) HS.out H3.out.1
end
end Go.Proofs.YtocnlapbkidinaaGreatDoor
namespace Go.Proofs.YtocnlapbkidinaaGreatDoor
section
open Go.RowKit
set_option maxRecDepth 100000

set_option maxHeartbeats 6400000 in
theorem rdo_numq (B o c : Nat) (x : LT) (w : World) (hR : RowAt w B o [x]) :
    Calls Tryz.prog 9 #[.int .i64 16, .slice (some ⟨B, o, none⟩) 1 c] w (TelA w (boolA (decide (x.k = 1)))) := by
  have hpl : plainB 16 = true := by decide
  have har : arB 16 = 1 := by decide
  obtain ⟨r, hr⟩ : ∃ r, decide (x.k = 1) = r := ⟨_, rfl⟩
  rw [hr]
  have er : (x.k == 1) = r := by rw [← hr]; simp [Bool.beq_eq_decide_eq]
  clear hr
  have hb0 : Below w.heap.size w (w.alloc (Obj.cells #[.int .i64 0, .bool false, .slice none 0 0, .bool false, .string ⟨#[]⟩, .slice none 0 0, .slice none 0 0] 29)) := (Below.refl _ _).alloc (Nat.le_refl _) _
  have hz0 : (w.alloc (Obj.cells #[.int .i64 0, .bool false, .slice none 0 0, .bool false, .string ⟨#[]⟩, .slice none 0 0, .slice none 0 0] 29)).heap[w.heap.size]? = some (Obj.cells #[.int .i64 0, .bool false, .slice none 0 0, .bool false, .string ⟨#[]⟩, .slice none 0 0, .slice none 0 0] 29) := heap_alloc_new w (Obj.cells #[.int .i64 0, .bool false, .slice none 0 0, .bool false, .string ⟨#[]⟩, .slice none 0 0, .slice none 0 0] 29)
  have ha := rarity_any 16 hpl
  have hq := rplain_is 16
  rw [har] at ha
  rw [hpl] at hq
  have HA := Lib.hid ha
  have HQ := Lib.hid hq
  have HR := Lib.hid hR
  have H0 := Lib.hid (And.intro hb0 hz0)
  clear ha hq hR hb0 hz0 hpl har
  go_enter Tryz.func9, Tryz.ntmps9
  go_wp2_with fail
  refine (HQ.out _).mono ?_
  rintro e w1 ⟨rfl, b1⟩
  have H1 := Lib.hid (And.intro (H0.out.1.trans (b1.mono H0.out.1.size)) ((b1.block w.heap.size (Array.getElem?_eq_some_iff.1 H0.out.2).1).trans H0.out.2))
  clear b1
  go_wp2_with fail
  refine (HA.out _).mono ?_
  rintro e w2 ⟨rfl, b2⟩
  have H2 := Lib.hid (And.intro (H1.out.1.trans (b2.mono H1.out.1.size)) ((b2.block w.heap.size (Array.getElem?_eq_some_iff.1 H1.out.2).1).trans H1.out.2))
  clear b2
  have HO := Lib.hid (And.intro (H2.out.1.trans (((Below.refl w2.heap.size w2).alloc (Nat.le_refl _) (Obj.cells #[.int .i64 x.k, .bool x.g, .slice x.la x.ln x.lc, .bool x.bb, .string x.s, .slice x.ia x.items.length x.ic, .slice x.ta x.tail.length x.tc] 29)).mono H2.out.1.size)) ((((Below.refl w2.heap.size w2).alloc (Nat.le_refl _) (Obj.cells #[.int .i64 x.k, .bool x.g, .slice x.la x.ln x.lc, .bool x.bb, .string x.s, .slice x.ia x.items.length x.ic, .slice x.ta x.tail.length x.tc] 29)).block w.heap.size (Array.getElem?_eq_some_iff.1 H2.out.2).1).trans H2.out.2))
  obtain ⟨x0, x1, x2, x3, x4, x5, x6⟩ := (HR.out.below H2.out.1).first.cells
  go_wp2_with fail
  clear x0 x1 x2 x3 x4 x5 x6
  refine (rtruth_any r _).mono ?_
  rintro e w3 ⟨A5, n5, c5, rfl, hs5, b5⟩
  have H3 := Lib.hid (And.intro (HO.out.1.trans (b5.mono HO.out.1.size)) ((b5.block w.heap.size (Array.getElem?_eq_some_iff.1 HO.out.2).1).trans HO.out.2))
  have HS := Lib.hid hs5
  clear b5 hs5
  obtain ⟨⟨d0, d1, d2, d3, d4, d5, d6⟩, f0, f1, f2, f3, f4, f5, f6⟩ := cells7 H3.out.2
  go_wp2_with fail
  exact tel_set rfl rfl rfl rfl H3.out.2 (Nat.le_refl _) HS.out H3.out.1
set_option maxHeartbeats 6400000 in
theorem rdo_symq (B o c : Nat) (x : LT) (w : World) (hR : RowAt w B o [x]) :
    Calls Tryz.prog 9 #[.int .i64 17, .slice (some ⟨B, o, none⟩) 1 c] w (TelA w (boolA (decide (x.k = 3)))) := by
  have hpl : plainB 17 = true := by decide
  have har : arB 17 = 1 := by decide
  obtain ⟨r, hr⟩ : ∃ r, decide (x.k = 3) = r := ⟨_, rfl⟩
  rw [hr]
  have er : (x.k == 3) = r := by rw [← hr]; simp [Bool.beq_eq_decide_eq]
  clear hr
  have hb0 : Below w.heap.size w (w.alloc (Obj.cells #[.int .i64 0, .bool false, .slice none 0 0, .bool false, .string ⟨#[]⟩, .slice none 0 0, .slice none 0 0] 29)) := (Below.refl _ _).alloc (Nat.le_refl _) _
  have hz0 : (w.alloc (Obj.cells #[.int .i64 0, .bool false, .slice none 0 0, .bool false, .string ⟨#[]⟩, .slice none 0 0, .slice none 0 0] 29)).heap[w.heap.size]? = some (Obj.cells #[.int .i64 0, .bool false, .slice none 0 0, .bool false, .string ⟨#[]⟩, .slice none 0 0, .slice none 0 0] 29) := heap_alloc_new w (Obj.cells #[.int .i64 0, .bool false, .slice none 0 0, .bool false, .string ⟨#[]⟩, .slice none 0 0, .slice none 0 0] 29)
  have ha := rarity_any 17 hpl
  have hq := rplain_is 17
  rw [har] at ha
  rw [hpl] at hq
  have HA := Lib.hid ha
  have HQ := Lib.hid hq
  have HR := Lib.hid hR
  have H0 := Lib.hid (And.intro hb0 hz0)
  clear ha hq hR hb0 hz0 hpl har
  go_enter Tryz.func9, Tryz.ntmps9
  go_wp2_with fail
  refine (HQ.out _).mono ?_
  rintro e w1 ⟨rfl, b1⟩
  have H1 := Lib.hid (And.intro (H0.out.1.trans (b1.mono H0.out.1.size)) ((b1.block w.heap.size (Array.getElem?_eq_some_iff.1 H0.out.2).1).trans H0.out.2))
  clear b1
  go_wp2_with fail
  refine (HA.out _).mono ?_
  rintro e w2 ⟨rfl, b2⟩
  have H2 := Lib.hid (And.intro (H1.out.1.trans (b2.mono H1.out.1.size)) ((b2.block w.heap.size (Array.getElem?_eq_some_iff.1 H1.out.2).1).trans H1.out.2))
  clear b2
  have HO := Lib.hid (And.intro (H2.out.1.trans (((Below.refl w2.heap.size w2).alloc (Nat.le_refl _) (Obj.cells #[.int .i64 x.k, .bool x.g, .slice x.la x.ln x.lc, .bool x.bb, .string x.s, .slice x.ia x.items.length x.ic, .slice x.ta x.tail.length x.tc] 29)).mono H2.out.1.size)) ((((Below.refl w2.heap.size w2).alloc (Nat.le_refl _) (Obj.cells #[.int .i64 x.k, .bool x.g, .slice x.la x.ln x.lc, .bool x.bb, .string x.s, .slice x.ia x.items.length x.ic, .slice x.ta x.tail.length x.tc] 29)).block w.heap.size (Array.getElem?_eq_some_iff.1 H2.out.2).1).trans H2.out.2))
  obtain ⟨x0, x1, x2, x3, x4, x5, x6⟩ := (HR.out.below H2.out.1).first.cells
  go_wp2_with fail
  clear x0 x1 x2 x3 x4 x5 x6
  refine (rtruth_any r _).mono ?_
  rintro e w3 ⟨A5, n5, c5, rfl, hs5, b5⟩
  have H3 := Lib.hid (And.intro (HO.out.1.trans (b5.mono HO.out.1.size)) ((b5.block w.heap.size (Array.getElem?_eq_some_iff.1 HO.out.2).1).trans HO.out.2))
  have HS := Lib.hid hs5
  clear b5 hs5
  obtain ⟨⟨d0, d1, d2, d3, d4, d5, d6⟩, f0, f1, f2, f3, f4, f5, f6⟩ := cells7 H3.out.2
  go_wp2_with fail
  exact tel_set rfl rfl rfl rfl H3.out.2 (Nat.le_refl _) HS.out H3.out.1
set_option maxHeartbeats 6400000 in
theorem rdo_strq (B o c : Nat) (x : LT) (w : World) (hR : RowAt w B o [x]) :
    Calls Tryz.prog 9 #[.int .i64 18, .slice (some ⟨B, o, none⟩) 1 c] w (TelA w (boolA (decide (x.k = 4)))) := by
  have hpl : plainB 18 = true := by decide
  have har : arB 18 = 1 := by decide
  obtain ⟨r, hr⟩ : ∃ r, decide (x.k = 4) = r := ⟨_, rfl⟩
  rw [hr]
  have er : (x.k == 4) = r := by rw [← hr]; simp [Bool.beq_eq_decide_eq]
  clear hr
  have hb0 : Below w.heap.size w (w.alloc (Obj.cells #[.int .i64 0, .bool false, .slice none 0 0, .bool false, .string ⟨#[]⟩, .slice none 0 0, .slice none 0 0] 29)) := (Below.refl _ _).alloc (Nat.le_refl _) _
  have hz0 : (w.alloc (Obj.cells #[.int .i64 0, .bool false, .slice none 0 0, .bool false, .string ⟨#[]⟩, .slice none 0 0, .slice none 0 0] 29)).heap[w.heap.size]? = some (Obj.cells #[.int .i64 0, .bool false, .slice none 0 0, .bool false, .string ⟨#[]⟩, .slice none 0 0, .slice none 0 0] 29) := heap_alloc_new w (Obj.cells #[.int .i64 0, .bool false, .slice none 0 0, .bool false, .string ⟨#[]⟩, .slice none 0 0, .slice none 0 0] 29)
  have ha := rarity_any 18 hpl
  have hq := rplain_is 18
  rw [har] at ha
  rw [hpl] at hq
  have HA := Lib.hid ha
  have HQ := Lib.hid hq
  have HR := Lib.hid hR
  have H0 := Lib.hid (And.intro hb0 hz0)
  clear ha hq hR hb0 hz0 hpl har
  go_enter Tryz.func9, Tryz.ntmps9
  go_wp2_with fail
  refine (HQ.out _).mono ?_
  rintro e w1 ⟨rfl, b1⟩
  have H1 := Lib.hid (And.intro (H0.out.1.trans (b1.mono H0.out.1.size)) ((b1.block w.heap.size (Array.getElem?_eq_some_iff.1 H0.out.2).1).trans H0.out.2))
  clear b1
  go_wp2_with fail
  refine (HA.out _).mono ?_
  rintro e w2 ⟨rfl, b2⟩
  have H2 := Lib.hid (And.intro (H1.out.1.trans (b2.mono H1.out.1.size)) ((b2.block w.heap.size (Array.getElem?_eq_some_iff.1 H1.out.2).1).trans H1.out.2))
  clear b2
  have HO := Lib.hid (And.intro (H2.out.1.trans (((Below.refl w2.heap.size w2).alloc (Nat.le_refl _) (Obj.cells #[.int .i64 x.k, .bool x.g, .slice x.la x.ln x.lc, .bool x.bb, .string x.s, .slice x.ia x.items.length x.ic, .slice x.ta x.tail.length x.tc] 29)).mono H2.out.1.size)) ((((Below.refl w2.heap.size w2).alloc (Nat.le_refl _) (Obj.cells #[.int .i64 x.k, .bool x.g, .slice x.la x.ln x.lc, .bool x.bb, .string x.s, .slice x.ia x.items.length x.ic, .slice x.ta x.tail.length x.tc] 29)).block w.heap.size (Array.getElem?_eq_some_iff.1 H2.out.2).1).trans H2.out.2))
  obtain ⟨x0, x1, x2, x3, x4, x5, x6⟩ := (HR.out.below H2.out.1).first.cells
  go_wp2_with fail
  clear x0 x1 x2 x3 x4 x5 x6
  refine (rtruth_any r _).mono ?_
  rintro e w3 ⟨A5, n5, c5, rfl, hs5, b5⟩
  have H3 := Lib.hid (And.intro (HO.out.1.trans (b5.mono HO.out.1.size)) ((b5.block w.heap.size (Array.getElem?_eq_some_iff.1 HO.out.2).1).trans HO.out.2))
  have HS := Lib.hid hs5
  clear b5 hs5
  obtain ⟨⟨d0, d1, d2, d3, d4, d5, d6⟩, f0, f1, f2, f3, f4, f5, f6⟩ := cells7 H3.out.2
  go_wp2_with fail
  exact tel_set rfl rfl rfl rfl H3.out.2 (Nat.le_refl _) HS.out H3.out.1
set_option maxHeartbeats 6400000 in
theorem rdo_boolq (B o c : Nat) (x : LT) (w : World) (hR : RowAt w B o [x]) :
    Calls Tryz.prog 9 #[.int .i64 19, .slice (some ⟨B, o, none⟩) 1 c] w (TelA w (boolA (decide (x.k = 2)))) := by
  have hpl : plainB 19 = true := by decide
  have har : arB 19 = 1 := by decide
  obtain ⟨r, hr⟩ : ∃ r, decide (x.k = 2) = r := ⟨_, rfl⟩
  rw [hr]
  have er : (x.k == 2) = r := by rw [← hr]; simp [Bool.beq_eq_decide_eq]
  clear hr
  have hb0 : Below w.heap.size w (w.alloc (Obj.cells #[.int .i64 0, .bool false, .slice none 0 0, .bool false, .string ⟨#[]⟩, .slice none 0 0, .slice none 0 0] 29)) := (Below.refl _ _).alloc (Nat.le_refl _) _
  have hz0 : (w.alloc (Obj.cells #[.int .i64 0, .bool false, .slice none 0 0, .bool false, .string ⟨#[]⟩, .slice none 0 0, .slice none 0 0] 29)).heap[w.heap.size]? = some (Obj.cells #[.int .i64 0, .bool false, .slice none 0 0, .bool false, .string ⟨#[]⟩, .slice none 0 0, .slice none 0 0] 29) := heap_alloc_new w (Obj.cells #[.int .i64 0, .bool false, .slice none 0 0, .bool false, .string ⟨#[]⟩, .slice none 0 0, .slice none 0 0] 29)
  have ha := rarity_any 19 hpl
  have hq := rplain_is 19
  rw [har] at ha
  rw [hpl] at hq
  have HA := Lib.hid ha
  have HQ := Lib.hid hq
  have HR := Lib.hid hR
  have H0 := Lib.hid (And.intro hb0 hz0)
  clear ha hq hR hb0 hz0 hpl har
  go_enter Tryz.func9, Tryz.ntmps9
  go_wp2_with fail
  refine (HQ.out _).mono ?_
  rintro e w1 ⟨rfl, b1⟩
  have H1 := Lib.hid (And.intro (H0.out.1.trans (b1.mono H0.out.1.size)) ((b1.block w.heap.size (Array.getElem?_eq_some_iff.1 H0.out.2).1).trans H0.out.2))
  clear b1
  go_wp2_with fail
  refine (HA.out _).mono ?_
  rintro e w2 ⟨rfl, b2⟩
  have H2 := Lib.hid (And.intro (H1.out.1.trans (b2.mono H1.out.1.size)) ((b2.block w.heap.size (Array.getElem?_eq_some_iff.1 H1.out.2).1).trans H1.out.2))
  clear b2
  have HO := Lib.hid (And.intro (H2.out.1.trans (((Below.refl w2.heap.size w2).alloc (Nat.le_refl _) (Obj.cells #[.int .i64 x.k, .bool x.g, .slice x.la x.ln x.lc, .bool x.bb, .string x.s, .slice x.ia x.items.length x.ic, .slice x.ta x.tail.length x.tc] 29)).mono H2.out.1.size)) ((((Below.refl w2.heap.size w2).alloc (Nat.le_refl _) (Obj.cells #[.int .i64 x.k, .bool x.g, .slice x.la x.ln x.lc, .bool x.bb, .string x.s, .slice x.ia x.items.length x.ic, .slice x.ta x.tail.length x.tc] 29)).block w.heap.size (Array.getElem?_eq_some_iff.1 H2.out.2).1).trans H2.out.2))
  obtain ⟨x0, x1, x2, x3, x4, x5, x6⟩ := (HR.out.below H2.out.1).first.cells
  go_wp2_with fail
  clear x0 x1 x2 x3 x4 x5 x6
  refine (rtruth_any r _).mono ?_
  rintro e w3 ⟨A5, n5, c5, rfl, hs5, b5⟩
  have H3 := Lib.hid (And.intro (HO.out.1.trans (b5.mono HO.out.1.size)) ((b5.block w.heap.size (Array.getElem?_eq_some_iff.1 HO.out.2).1).trans HO.out.2))
  have HS := Lib.hid hs5
  clear b5 hs5
  obtain ⟨⟨d0, d1, d2, d3, d4, d5, d6⟩, f0, f1, f2, f3, f4, f5, f6⟩ := cells7 H3.out.2
  go_wp2_with fail
  exact tel_set rfl rfl rfl rfl H3.out.2 (Nat.le_refl _) HS.out H3.out.1
end
end Go.Proofs.YtocnlapbkidinaaGreatDoor
namespace Go.Proofs.YtocnlapbkidinaaGreatDoor
section
open Go.RowKit
set_option maxRecDepth 100000

set_option maxHeartbeats 6400000 in
theorem rdo_not (B o c : Nat) (x : LT) (w : World) (hR : RowAt w B o [x]) :
    Calls Tryz.prog 9 #[.int .i64 22, .slice (some ⟨B, o, none⟩) 1 c] w (TelA w (boolA (decide (x.k = 2) && !x.bb))) := by
  have hpl : plainB 22 = true := by decide
  have har : arB 22 = 1 := by decide
  obtain ⟨r, hr⟩ : ∃ r, (!decide (x.k = 2) || x.bb) = r := ⟨_, rfl⟩
  rw [show (decide (x.k = 2) && !x.bb) = !r by rw [← hr]; simp]
  have ht := fun W => rtrue_any x W
  rw [hr] at ht
  have HTR := Lib.hid ht
  clear ht hr
  have hb0 : Below w.heap.size w (w.alloc (Obj.cells #[.int .i64 0, .bool false, .slice none 0 0, .bool false, .string ⟨#[]⟩, .slice none 0 0, .slice none 0 0] 29)) := (Below.refl _ _).alloc (Nat.le_refl _) _
  have hz0 : (w.alloc (Obj.cells #[.int .i64 0, .bool false, .slice none 0 0, .bool false, .string ⟨#[]⟩, .slice none 0 0, .slice none 0 0] 29)).heap[w.heap.size]? = some (Obj.cells #[.int .i64 0, .bool false, .slice none 0 0, .bool false, .string ⟨#[]⟩, .slice none 0 0, .slice none 0 0] 29) := heap_alloc_new w (Obj.cells #[.int .i64 0, .bool false, .slice none 0 0, .bool false, .string ⟨#[]⟩, .slice none 0 0, .slice none 0 0] 29)
  have ha := rarity_any 22 hpl
  have hq := rplain_is 22
  rw [har] at ha
  rw [hpl] at hq
  have HA := Lib.hid ha
  have HQ := Lib.hid hq
  have HR := Lib.hid hR
  have H0 := Lib.hid (And.intro hb0 hz0)
  clear ha hq hR hb0 hz0 hpl har
  go_enter Tryz.func9, Tryz.ntmps9
  go_wp2_with fail
  refine (HQ.out _).mono ?_
  rintro e w1 ⟨rfl, b1⟩
  have H1 := Lib.hid (And.intro (H0.out.1.trans (b1.mono H0.out.1.size)) ((b1.block w.heap.size (Array.getElem?_eq_some_iff.1 H0.out.2).1).trans H0.out.2))
  clear b1
  go_wp2_with fail
  refine (HA.out _).mono ?_
  rintro e w2 ⟨rfl, b2⟩
  have H2 := Lib.hid (And.intro (H1.out.1.trans (b2.mono H1.out.1.size)) ((b2.block w.heap.size (Array.getElem?_eq_some_iff.1 H1.out.2).1).trans H1.out.2))
  clear b2
  have HO := Lib.hid (And.intro (H2.out.1.trans (((Below.refl w2.heap.size w2).alloc (Nat.le_refl _) (Obj.cells #[.int .i64 x.k, .bool x.g, .slice x.la x.ln x.lc, .bool x.bb, .string x.s, .slice x.ia x.items.length x.ic, .slice x.ta x.tail.length x.tc] 29)).mono H2.out.1.size)) ((((Below.refl w2.heap.size w2).alloc (Nat.le_refl _) (Obj.cells #[.int .i64 x.k, .bool x.g, .slice x.la x.ln x.lc, .bool x.bb, .string x.s, .slice x.ia x.items.length x.ic, .slice x.ta x.tail.length x.tc] 29)).block w.heap.size (Array.getElem?_eq_some_iff.1 H2.out.2).1).trans H2.out.2))
  obtain ⟨x0, x1, x2, x3, x4, x5, x6⟩ := (HR.out.below H2.out.1).first.cells
  go_wp2_with fail
  clear x0 x1 x2 x3 x4 x5 x6
  refine (HTR.out _).mono ?_
  rintro e w4 ⟨rfl, b4⟩
  have H4 := Lib.hid (And.intro (HO.out.1.trans (b4.mono HO.out.1.size)) ((b4.block w.heap.size (Array.getElem?_eq_some_iff.1 HO.out.2).1).trans HO.out.2))
  clear b4
  cases r
  all_goals
    go_wp2_with fail
    refine (rtruth_any _ _).mono ?_
    rintro e w5 ⟨A5, n5, c5, rfl, hs5, b5⟩
    have H5 := Lib.hid (And.intro (H4.out.1.trans (b5.mono H4.out.1.size)) ((b5.block w.heap.size (Array.getElem?_eq_some_iff.1 H4.out.2).1).trans H4.out.2))
    have HS := Lib.hid hs5
    clear b5 hs5
    obtain ⟨⟨d0, d1, d2, d3, d4, d5, d6⟩, f0, f1, f2, f3, f4, f5, f6⟩ := cells7 H5.out.2
    go_wp2_with fail
    exact tel_set rfl rfl rfl rfl H5.out.2 (Nat.le_refl _) HS.out H5.out.1
set_option maxHeartbeats 6400000 in
theorem rdo_symstr (B o c : Nat) (x : LT) (w : World) (hR : RowAt w B o [x]) :
    Calls Tryz.prog 9 #[.int .i64 26, .slice (some ⟨B, o, none⟩) 1 c] w (TelA w (symA x.k x.s)) := by
  have hpl : plainB 26 = true := by decide
  have har : arB 26 = 1 := by decide
  unfold symA
  by_cases hk : x.k = 3
  · rw [if_pos hk]
    have ek : (x.k != 3) = false := by simp [hk]
    clear hk
    have hb0 : Below w.heap.size w (w.alloc (Obj.cells #[.int .i64 0, .bool false, .slice none 0 0, .bool false, .string ⟨#[]⟩, .slice none 0 0, .slice none 0 0] 29)) := (Below.refl _ _).alloc (Nat.le_refl _) _
    have hz0 : (w.alloc (Obj.cells #[.int .i64 0, .bool false, .slice none 0 0, .bool false, .string ⟨#[]⟩, .slice none 0 0, .slice none 0 0] 29)).heap[w.heap.size]? = some (Obj.cells #[.int .i64 0, .bool false, .slice none 0 0, .bool false, .string ⟨#[]⟩, .slice none 0 0, .slice none 0 0] 29) := heap_alloc_new w (Obj.cells #[.int .i64 0, .bool false, .slice none 0 0, .bool false, .string ⟨#[]⟩, .slice none 0 0, .slice none 0 0] 29)
    have ha := rarity_any 26 hpl
    have hq := rplain_is 26
    rw [har] at ha
    rw [hpl] at hq
    have HA := Lib.hid ha
    have HQ := Lib.hid hq
    have HR := Lib.hid hR
    have H0 := Lib.hid (And.intro hb0 hz0)
    clear ha hq hR hb0 hz0 hpl har
    go_enter Tryz.func9, Tryz.ntmps9
    go_wp2_with fail
    refine (HQ.out _).mono ?_
    rintro e w1 ⟨rfl, b1⟩
    have H1 := Lib.hid (And.intro (H0.out.1.trans (b1.mono H0.out.1.size)) ((b1.block w.heap.size (Array.getElem?_eq_some_iff.1 H0.out.2).1).trans H0.out.2))
    clear b1
    go_wp2_with fail
    refine (HA.out _).mono ?_
    rintro e w2 ⟨rfl, b2⟩
    have H2 := Lib.hid (And.intro (H1.out.1.trans (b2.mono H1.out.1.size)) ((b2.block w.heap.size (Array.getElem?_eq_some_iff.1 H1.out.2).1).trans H1.out.2))
    clear b2
    have hz3 := (((Below.refl w2.heap.size w2).alloc (Nat.le_refl _) (Obj.cells #[.int .i64 x.k, .bool x.g, .slice x.la x.ln x.lc, .bool x.bb, .string x.s, .slice x.ia x.items.length x.ic, .slice x.ta x.tail.length x.tc] 29)).block w.heap.size (Array.getElem?_eq_some_iff.1 H2.out.2).1).trans H2.out.2
    obtain ⟨⟨d0, d1, d2, d3, d4, d5, d6⟩, f0, f1, f2, f3, f4, f5, f6⟩ := cells7 hz3
    have HO := Lib.hid (And.intro (H2.out.1.trans (((Below.refl w2.heap.size w2).alloc (Nat.le_refl _) (Obj.cells #[.int .i64 x.k, .bool x.g, .slice x.la x.ln x.lc, .bool x.bb, .string x.s, .slice x.ia x.items.length x.ic, .slice x.ta x.tail.length x.tc] 29)).mono H2.out.1.size)) hz3)
    clear hz3
    obtain ⟨x0, x1, x2, x3, x4, x5, x6⟩ := (HR.out.below H2.out.1).first.cells
    go_wp2_with fail
    exact tel_set rfl rfl rfl rfl HO.out.2 (Nat.le_refl _) Sl.nil HO.out.1
  · rw [if_neg hk]
    have ek : (x.k != 3) = true := bne_iff_ne.2 hk
    clear hk
    have hb0 : Below w.heap.size w (w.alloc (Obj.cells #[.int .i64 0, .bool false, .slice none 0 0, .bool false, .string ⟨#[]⟩, .slice none 0 0, .slice none 0 0] 29)) := (Below.refl _ _).alloc (Nat.le_refl _) _
    have hz0 : (w.alloc (Obj.cells #[.int .i64 0, .bool false, .slice none 0 0, .bool false, .string ⟨#[]⟩, .slice none 0 0, .slice none 0 0] 29)).heap[w.heap.size]? = some (Obj.cells #[.int .i64 0, .bool false, .slice none 0 0, .bool false, .string ⟨#[]⟩, .slice none 0 0, .slice none 0 0] 29) := heap_alloc_new w (Obj.cells #[.int .i64 0, .bool false, .slice none 0 0, .bool false, .string ⟨#[]⟩, .slice none 0 0, .slice none 0 0] 29)
    have ha := rarity_any 26 hpl
    have hq := rplain_is 26
    rw [har] at ha
    rw [hpl] at hq
    have HA := Lib.hid ha
    have HQ := Lib.hid hq
    have HR := Lib.hid hR
    have H0 := Lib.hid (And.intro hb0 hz0)
    clear ha hq hR hb0 hz0 hpl har
    go_enter Tryz.func9, Tryz.ntmps9
    go_wp2_with fail
    refine (HQ.out _).mono ?_
    rintro e w1 ⟨rfl, b1⟩
    have H1 := Lib.hid (And.intro (H0.out.1.trans (b1.mono H0.out.1.size)) ((b1.block w.heap.size (Array.getElem?_eq_some_iff.1 H0.out.2).1).trans H0.out.2))
    clear b1
    go_wp2_with fail
    refine (HA.out _).mono ?_
    rintro e w2 ⟨rfl, b2⟩
    have H2 := Lib.hid (And.intro (H1.out.1.trans (b2.mono H1.out.1.size)) ((b2.block w.heap.size (Array.getElem?_eq_some_iff.1 H1.out.2).1).trans H1.out.2))
    clear b2
    have hz3 := (((Below.refl w2.heap.size w2).alloc (Nat.le_refl _) (Obj.cells #[.int .i64 x.k, .bool x.g, .slice x.la x.ln x.lc, .bool x.bb, .string x.s, .slice x.ia x.items.length x.ic, .slice x.ta x.tail.length x.tc] 29)).block w.heap.size (Array.getElem?_eq_some_iff.1 H2.out.2).1).trans H2.out.2
    obtain ⟨⟨d0, d1, d2, d3, d4, d5, d6⟩, f0, f1, f2, f3, f4, f5, f6⟩ := cells7 hz3
    have HO := Lib.hid (And.intro (H2.out.1.trans (((Below.refl w2.heap.size w2).alloc (Nat.le_refl _) (Obj.cells #[.int .i64 x.k, .bool x.g, .slice x.la x.ln x.lc, .bool x.bb, .string x.s, .slice x.ia x.items.length x.ic, .slice x.ta x.tail.length x.tc] 29)).mono H2.out.1.size)) hz3)
    clear hz3
    obtain ⟨x0, x1, x2, x3, x4, x5, x6⟩ := (HR.out.below H2.out.1).first.cells
    go_wp2_with fail
    exact tel_set rfl rfl rfl rfl HO.out.2 (Nat.le_refl _) Sl.nil HO.out.1
set_option maxHeartbeats 6400000 in
theorem rdo_numstr {t : ByteArray} (B o c : Nat) (x : LT) (w : World) (hR : RowAt w B o [x]) (ht : ∀ W, Below w.heap.size w W → Calls Tryz.prog 29 #[intOfT x] W fun e w' => e = .returned (.string t) ∧ Below W.heap.size W w') :
    Calls Tryz.prog 9 #[.int .i64 27, .slice (some ⟨B, o, none⟩) 1 c] w (TelA w (textA x.k t)) := by
  have hpl : plainB 27 = true := by decide
  have har : arB 27 = 1 := by decide
  unfold textA
  have HTT := Lib.hid ht
  unfold intOfT at HTT
  clear ht
  by_cases hk : x.k = 1
  · rw [if_pos hk]
    have ek : (x.k != 1) = false := by simp [hk]
    clear hk
    have hb0 : Below w.heap.size w (w.alloc (Obj.cells #[.int .i64 0, .bool false, .slice none 0 0, .bool false, .string ⟨#[]⟩, .slice none 0 0, .slice none 0 0] 29)) := (Below.refl _ _).alloc (Nat.le_refl _) _
    have hz0 : (w.alloc (Obj.cells #[.int .i64 0, .bool false, .slice none 0 0, .bool false, .string ⟨#[]⟩, .slice none 0 0, .slice none 0 0] 29)).heap[w.heap.size]? = some (Obj.cells #[.int .i64 0, .bool false, .slice none 0 0, .bool false, .string ⟨#[]⟩, .slice none 0 0, .slice none 0 0] 29) := heap_alloc_new w (Obj.cells #[.int .i64 0, .bool false, .slice none 0 0, .bool false, .string ⟨#[]⟩, .slice none 0 0, .slice none 0 0] 29)
    have ha := rarity_any 27 hpl
    have hq := rplain_is 27
    rw [har] at ha
    rw [hpl] at hq
    have HA := Lib.hid ha
    have HQ := Lib.hid hq
    have HR := Lib.hid hR
    have H0 := Lib.hid (And.intro hb0 hz0)
    clear ha hq hR hb0 hz0 hpl har
    go_enter Tryz.func9, Tryz.ntmps9
    go_wp2_with fail
    refine (HQ.out _).mono ?_
    rintro e w1 ⟨rfl, b1⟩
    have H1 := Lib.hid (And.intro (H0.out.1.trans (b1.mono H0.out.1.size)) ((b1.block w.heap.size (Array.getElem?_eq_some_iff.1 H0.out.2).1).trans H0.out.2))
    clear b1
    go_wp2_with fail
    refine (HA.out _).mono ?_
    rintro e w2 ⟨rfl, b2⟩
    have H2 := Lib.hid (And.intro (H1.out.1.trans (b2.mono H1.out.1.size)) ((b2.block w.heap.size (Array.getElem?_eq_some_iff.1 H1.out.2).1).trans H1.out.2))
    clear b2
    have HO := Lib.hid (And.intro (H2.out.1.trans (((Below.refl w2.heap.size w2).alloc (Nat.le_refl _) (Obj.cells #[.int .i64 x.k, .bool x.g, .slice x.la x.ln x.lc, .bool x.bb, .string x.s, .slice x.ia x.items.length x.ic, .slice x.ta x.tail.length x.tc] 29)).mono H2.out.1.size)) ((((Below.refl w2.heap.size w2).alloc (Nat.le_refl _) (Obj.cells #[.int .i64 x.k, .bool x.g, .slice x.la x.ln x.lc, .bool x.bb, .string x.s, .slice x.ia x.items.length x.ic, .slice x.ta x.tail.length x.tc] 29)).block w.heap.size (Array.getElem?_eq_some_iff.1 H2.out.2).1).trans H2.out.2))
    obtain ⟨x0, x1, x2, x3, x4, x5, x6⟩ := (HR.out.below H2.out.1).first.cells
    go_wp2_with fail
    clear x0 x1 x2 x3 x4 x5 x6
    refine (HTT.out _ HO.out.1).mono ?_
    rintro e w4 ⟨rfl, b4⟩
    have H4 := Lib.hid (And.intro (HO.out.1.trans (b4.mono HO.out.1.size)) ((b4.block w.heap.size (Array.getElem?_eq_some_iff.1 HO.out.2).1).trans HO.out.2))
    clear b4
    obtain ⟨⟨d0, d1, d2, d3, d4, d5, d6⟩, f0, f1, f2, f3, f4, f5, f6⟩ := cells7 H4.out.2
    go_wp2_with fail
    exact tel_set rfl rfl rfl rfl H4.out.2 (Nat.le_refl _) Sl.nil H4.out.1
  · rw [if_neg hk]
    have ek : (x.k != 1) = true := bne_iff_ne.2 hk
    clear hk
    have hb0 : Below w.heap.size w (w.alloc (Obj.cells #[.int .i64 0, .bool false, .slice none 0 0, .bool false, .string ⟨#[]⟩, .slice none 0 0, .slice none 0 0] 29)) := (Below.refl _ _).alloc (Nat.le_refl _) _
    have hz0 : (w.alloc (Obj.cells #[.int .i64 0, .bool false, .slice none 0 0, .bool false, .string ⟨#[]⟩, .slice none 0 0, .slice none 0 0] 29)).heap[w.heap.size]? = some (Obj.cells #[.int .i64 0, .bool false, .slice none 0 0, .bool false, .string ⟨#[]⟩, .slice none 0 0, .slice none 0 0] 29) := heap_alloc_new w (Obj.cells #[.int .i64 0, .bool false, .slice none 0 0, .bool false, .string ⟨#[]⟩, .slice none 0 0, .slice none 0 0] 29)
    have ha := rarity_any 27 hpl
    have hq := rplain_is 27
    rw [har] at ha
    rw [hpl] at hq
    have HA := Lib.hid ha
    have HQ := Lib.hid hq
    have HR := Lib.hid hR
    have H0 := Lib.hid (And.intro hb0 hz0)
    clear ha hq hR hb0 hz0 hpl har
    go_enter Tryz.func9, Tryz.ntmps9
    go_wp2_with fail
    refine (HQ.out _).mono ?_
    rintro e w1 ⟨rfl, b1⟩
    have H1 := Lib.hid (And.intro (H0.out.1.trans (b1.mono H0.out.1.size)) ((b1.block w.heap.size (Array.getElem?_eq_some_iff.1 H0.out.2).1).trans H0.out.2))
    clear b1
    go_wp2_with fail
    refine (HA.out _).mono ?_
    rintro e w2 ⟨rfl, b2⟩
    have H2 := Lib.hid (And.intro (H1.out.1.trans (b2.mono H1.out.1.size)) ((b2.block w.heap.size (Array.getElem?_eq_some_iff.1 H1.out.2).1).trans H1.out.2))
    clear b2
    have hz3 := (((Below.refl w2.heap.size w2).alloc (Nat.le_refl _) (Obj.cells #[.int .i64 x.k, .bool x.g, .slice x.la x.ln x.lc, .bool x.bb, .string x.s, .slice x.ia x.items.length x.ic, .slice x.ta x.tail.length x.tc] 29)).block w.heap.size (Array.getElem?_eq_some_iff.1 H2.out.2).1).trans H2.out.2
    obtain ⟨⟨d0, d1, d2, d3, d4, d5, d6⟩, f0, f1, f2, f3, f4, f5, f6⟩ := cells7 hz3
    have HO := Lib.hid (And.intro (H2.out.1.trans (((Below.refl w2.heap.size w2).alloc (Nat.le_refl _) (Obj.cells #[.int .i64 x.k, .bool x.g, .slice x.la x.ln x.lc, .bool x.bb, .string x.s, .slice x.ia x.items.length x.ic, .slice x.ta x.tail.length x.tc] 29)).mono H2.out.1.size)) hz3)
    clear hz3
    obtain ⟨x0, x1, x2, x3, x4, x5, x6⟩ := (HR.out.below H2.out.1).first.cells
    go_wp2_with fail
    exact tel_set rfl rfl rfl rfl HO.out.2 (Nat.le_refl _) Sl.nil HO.out.1
end
end Go.Proofs.YtocnlapbkidinaaGreatDoor
namespace Go.Proofs.YtocnlapbkidinaaGreatDoor
section
open Go.RowKit
set_option maxRecDepth 100000

set_option maxHeartbeats 6400000 in
theorem rdo_eqq {r : Bool} (B o c : Nat) (x y : LT) (w : World) (hR : RowAt w B o [x, y]) (HE : ∀ W, Below w.heap.size w W → Calls Tryz.prog 20 #[.agg #[.int .i64 x.k, .bool x.g, .slice x.la x.ln x.lc, .bool x.bb, .string x.s, .slice x.ia x.items.length x.ic, .slice x.ta x.tail.length x.tc], .agg #[.int .i64 y.k, .bool y.g, .slice y.la y.ln y.lc, .bool y.bb, .string y.s, .slice y.ia y.items.length y.ic, .slice y.ta y.tail.length y.tc]] W fun e w' => e = .returned (.bool r) ∧ Below W.heap.size W w') :
    Calls Tryz.prog 9 #[.int .i64 21, .slice (some ⟨B, o, none⟩) 2 c] w (TelA w (boolA r)) := by
  have hpl : plainB 21 = true := by decide
  have har : arB 21 = 2 := by decide
  have HK := Lib.hid (fun W (hb : Below w.heap.size w W) => show W.cell? ⟨B, o, none⟩ = some (.int .i64 x.k) ∧ W.cell? ⟨B, o + 1, none⟩ = some (.bool x.g) ∧ W.cell? ⟨B, o + 2, none⟩ = some (.slice x.la x.ln x.lc) ∧ W.cell? ⟨B, o + 3, none⟩ = some (.bool x.bb) ∧ W.cell? ⟨B, o + 4, none⟩ = some (.string x.s) ∧ W.cell? ⟨B, o + 5, none⟩ = some (.slice x.ia x.items.length x.ic) ∧ W.cell? ⟨B, o + 6, none⟩ = some (.slice x.ta x.tail.length x.tc) ∧ W.cell? ⟨B, o + 7, none⟩ = some (.int .i64 y.k) ∧ W.cell? ⟨B, o + 7 + 1, none⟩ = some (.bool y.g) ∧ W.cell? ⟨B, o + 7 + 2, none⟩ = some (.slice y.la y.ln y.lc) ∧ W.cell? ⟨B, o + 7 + 3, none⟩ = some (.bool y.bb) ∧ W.cell? ⟨B, o + 7 + 4, none⟩ = some (.string y.s) ∧ W.cell? ⟨B, o + 7 + 5, none⟩ = some (.slice y.ia y.items.length y.ic) ∧ W.cell? ⟨B, o + 7 + 6, none⟩ = some (.slice y.ta y.tail.length y.tc) by
    have hc := And.intro (hR.below hb).first.cells (hR.below hb).second.cells
    simpa only [and_assoc] using hc)
  have hB : B < w.heap.size := hR.1
  have HEE := Lib.hid HE
  clear HE
  have hb0 : Below w.heap.size w (w.alloc (Obj.cells #[.int .i64 0, .bool false, .slice none 0 0, .bool false, .string ⟨#[]⟩, .slice none 0 0, .slice none 0 0] 29)) := (Below.refl _ _).alloc (Nat.le_refl _) _
  have hz0 : (w.alloc (Obj.cells #[.int .i64 0, .bool false, .slice none 0 0, .bool false, .string ⟨#[]⟩, .slice none 0 0, .slice none 0 0] 29)).heap[w.heap.size]? = some (Obj.cells #[.int .i64 0, .bool false, .slice none 0 0, .bool false, .string ⟨#[]⟩, .slice none 0 0, .slice none 0 0] 29) := heap_alloc_new w (Obj.cells #[.int .i64 0, .bool false, .slice none 0 0, .bool false, .string ⟨#[]⟩, .slice none 0 0, .slice none 0 0] 29)
  have ha := rarity_any 21 hpl
  have hq := rplain_is 21
  rw [har] at ha
  rw [hpl] at hq
  have HA := Lib.hid ha
  have HQ := Lib.hid hq
  have HR := Lib.hid hR
  have H0 := Lib.hid (And.intro hb0 hz0)
  clear ha hq hR hb0 hz0 hpl har
  go_enter Tryz.func9, Tryz.ntmps9
  go_wp2_with fail
  refine (HQ.out _).mono ?_
  rintro e w1 ⟨rfl, b1⟩
  have H1 := Lib.hid (And.intro (H0.out.1.trans (b1.mono H0.out.1.size)) ((b1.block w.heap.size (Array.getElem?_eq_some_iff.1 H0.out.2).1).trans H0.out.2))
  clear b1
  go_wp2_with fail
  refine (HA.out _).mono ?_
  rintro e w2 ⟨rfl, b2⟩
  have H2 := Lib.hid (And.intro (H1.out.1.trans (b2.mono H1.out.1.size)) ((b2.block w.heap.size (Array.getElem?_eq_some_iff.1 H1.out.2).1).trans H1.out.2))
  clear b2
  have HO := Lib.hid (And.intro (H2.out.1.trans (((Below.refl w2.heap.size w2).alloc (Nat.le_refl _) (Obj.cells #[.int .i64 x.k, .bool x.g, .slice x.la x.ln x.lc, .bool x.bb, .string x.s, .slice x.ia x.items.length x.ic, .slice x.ta x.tail.length x.tc] 29)).mono H2.out.1.size)) ((((Below.refl w2.heap.size w2).alloc (Nat.le_refl _) (Obj.cells #[.int .i64 x.k, .bool x.g, .slice x.la x.ln x.lc, .bool x.bb, .string x.s, .slice x.ia x.items.length x.ic, .slice x.ta x.tail.length x.tc] 29)).block w.heap.size (Array.getElem?_eq_some_iff.1 H2.out.2).1).trans H2.out.2))
  obtain ⟨x0, x1, x2, x3, x4, x5, x6⟩ := (HR.out.below H2.out.1).first.cells
  have hb2 := HO.out.1.drew
  have hS0 := HK.out _ hb2
  go_wp2_with fail
  clear x0 x1 x2 x3 x4 x5 x6
  go_region_held3 (fun w' => w'.cell? ⟨B, o, none⟩ = some (.int .i64 x.k) ∧ w'.cell? ⟨B, o + 1, none⟩ = some (.bool x.g) ∧ w'.cell? ⟨B, o + 2, none⟩ = some (.slice x.la x.ln x.lc) ∧ w'.cell? ⟨B, o + 3, none⟩ = some (.bool x.bb) ∧ w'.cell? ⟨B, o + 4, none⟩ = some (.string x.s) ∧ w'.cell? ⟨B, o + 5, none⟩ = some (.slice x.ia x.items.length x.ic) ∧ w'.cell? ⟨B, o + 6, none⟩ = some (.slice x.ta x.tail.length x.tc) ∧ w'.cell? ⟨B, o + 7, none⟩ = some (.int .i64 y.k) ∧ w'.cell? ⟨B, o + 7 + 1, none⟩ = some (.bool y.g) ∧ w'.cell? ⟨B, o + 7 + 2, none⟩ = some (.slice y.la y.ln y.lc) ∧ w'.cell? ⟨B, o + 7 + 3, none⟩ = some (.bool y.bb) ∧ w'.cell? ⟨B, o + 7 + 4, none⟩ = some (.string y.s) ∧ w'.cell? ⟨B, o + 7 + 5, none⟩ = some (.slice y.ia y.items.length y.ic) ∧ w'.cell? ⟨B, o + 7 + 6, none⟩ = some (.slice y.ta y.tail.length y.tc))
    (first | with_reducible exact hS0 | with_reducible exact hS1 | with_reducible exact hS2 | with_reducible exact hS4 | go_keep)
    (first
    | (go_at_call 20; refine (HEE.out _ hb2).mono ?_; rintro e w3 ⟨rfl, b3⟩; have hb3 := hb2.trans (b3.mono hb2.size); have hS1 := HK.out _ hb3; have hz3 := (b3.block w.heap.size (Array.getElem?_eq_some_iff.1 HO.out.2).1).trans HO.out.2)
    | (go_at_call 28; refine (rtruth_any r _).mono ?_; rintro e w4 ⟨A1, n1, c1, rfl, hsl, b4⟩; have hb4 := hb3.trans (b4.mono hb3.size); have hS2 := HK.out _ hb4;
       have hz := (b4.block w.heap.size (Array.getElem?_eq_some_iff.1 hz3).1).trans hz3;
       obtain ⟨⟨d0, d1, d2, d3, d4, d5, d6⟩, f0, f1, f2, f3, f4, f5, f6⟩ := cells7 hz;
       have hS4 := HK.out _ (below7 hb4 (Nat.le_refl _) (.int .i64 2) (.bool false) (.slice A1 n1 c1) (.bool r) (.string ⟨#[]⟩) (.slice none 0 0) (.slice none 0 0))))
  go_wp2_with fail
  exact tel_set rfl rfl rfl rfl hz (Nat.le_refl _) hsl hb4
end
end Go.Proofs.YtocnlapbkidinaaGreatDoor
