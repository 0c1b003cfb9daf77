/-
  pavaneref09.Do of one datum, and of two that it does not reckon. pavaneref09.Do of one datum, and of two that it does not reckon. pavaneref09.Do of one datum, and of two that it does not reckon.
-/
import Derived.Test.YtocnlapbkidinaaGreatDoorPk4
import Derived.Test.YtocnlapbkidinaaGreatDoorPk1
import Derived.RegionTactic
import Derived.BigRegion
import Derived.LoopTactic
import Derived.Deep.RegionHeld3
import Derived.IntWalk
import Derived.Deep.QuietTactic
set_option linter.unusedVariables false
set_option linter.unusedSimpArgs false
set_option linter.unusedSectionVars false
set_option linter.unnecessarySimpa false
namespace Go.Proofs.YtocnlapbkidinaaGreatDoor
section
open Go.RowKit
set_option maxRecDepth 100000

set_option maxHeartbeats 6400000 in
theorem rdo_strlen (B o c : Nat) (x : LT) (w : World) (hR : RowAt w B o [x]) (hs : x.s.size ≤ maxLen) :
    Calls Tryz.prog 9 #[.int .i64 23, .slice (some ⟨B, o, none⟩) 1 c] w (TelA w (lenA x.k x.s)) := by
  have hpl : plainB 23 = true := by decide
  have har : arB 23 = 1 := by decide
  obtain ⟨RR, hRR⟩ : ∃ R, lenA x.k x.s = R := ⟨_, rfl⟩
  rw [hRR]
  have HRR := Lib.hid hRR.symm
  clear hRR
  unfold maxLen at hs
  have hb0 : Below w.heap.size w (w.alloc (Obj.cells #[.int .i64 0, .bool false, .slice none 0 0, .bool false, .string ⟨#[]⟩, .slice none 0 0, .slice none 0 0] 29)) := (Below.refl _ _).alloc (Nat.le_refl _) _
  have hz0 : (w.alloc (Obj.cells #[.int .i64 0, .bool false, .slice none 0 0, .bool false, .string ⟨#[]⟩, .slice none 0 0, .slice none 0 0] 29)).heap[w.heap.size]? = some (Obj.cells #[.int .i64 0, .bool false, .slice none 0 0, .bool false, .string ⟨#[]⟩, .slice none 0 0, .slice none 0 0] 29) := heap_alloc_new w (Obj.cells #[.int .i64 0, .bool false, .slice none 0 0, .bool false, .string ⟨#[]⟩, .slice none 0 0, .slice none 0 0] 29)
  have ha := rarity_any 23 hpl
  have hq := rplain_is 23
  rw [har] at ha
  rw [hpl] at hq
  have HA := Lib.hid ha
  have HQ := Lib.hid hq
  have HR := Lib.hid hR
  have H0 := Lib.hid (And.intro hb0 hz0)
  clear ha hq hR hb0 hz0 hpl har
  go_enter Tryz.func9, Tryz.ntmps9
  go_wp2_with fail
  refine (HQ.out _).mono ?_
  rintro e w1 ⟨rfl, b1⟩
  have H1 := Lib.hid (And.intro (H0.out.1.trans (b1.mono H0.out.1.size)) ((b1.block w.heap.size (Array.getElem?_eq_some_iff.1 H0.out.2).1).trans H0.out.2))
  clear b1
  go_wp2_with fail
  refine (HA.out _).mono ?_
  rintro e w2 ⟨rfl, b2⟩
  have H2 := Lib.hid (And.intro (H1.out.1.trans (b2.mono H1.out.1.size)) ((b2.block w.heap.size (Array.getElem?_eq_some_iff.1 H1.out.2).1).trans H1.out.2))
  clear b2
  have HO := Lib.hid (And.intro (H2.out.1.trans (((Below.refl w2.heap.size w2).alloc (Nat.le_refl _) (Obj.cells #[.int .i64 x.k, .bool x.g, .slice x.la x.ln x.lc, .bool x.bb, .string x.s, .slice x.ia x.items.length x.ic, .slice x.ta x.tail.length x.tc] 29)).mono H2.out.1.size)) ((((Below.refl w2.heap.size w2).alloc (Nat.le_refl _) (Obj.cells #[.int .i64 x.k, .bool x.g, .slice x.la x.ln x.lc, .bool x.bb, .string x.s, .slice x.ia x.items.length x.ic, .slice x.ta x.tail.length x.tc] 29)).block w.heap.size (Array.getElem?_eq_some_iff.1 H2.out.2).1).trans H2.out.2))
  obtain ⟨x0, x1, x2, x3, x4, x5, x6⟩ := (HR.out.below H2.out.1).first.cells
  go_wp2_with fail
  clear x0 x1 x2 x3 x4 x5 x6
  have HD := Lib.hid (show (w2.alloc (Obj.cells #[.int .i64 x.k, .bool x.g, .slice x.la x.ln x.lc, .bool x.bb, .string x.s, .slice x.ia x.items.length x.ic, .slice x.ta x.tail.length x.tc] 29)).heap[w2.heap.size]? = some (Obj.cells #[.int .i64 x.k, .bool x.g, .slice x.la x.ln x.lc, .bool x.bb, .string x.s, .slice x.ia x.items.length x.ic, .slice x.ta x.tail.length x.tc] 29) from heap_alloc_new _ _)
  generalize w2.alloc (Obj.cells #[.int .i64 x.k, .bool x.g, .slice x.la x.ln x.lc, .bool x.bb, .string x.s, .slice x.ia x.items.length x.ic, .slice x.ta x.tail.length x.tc] 29) = W3 at *
  generalize w2.heap.size = gd at *
  go_loopw [120] (fun i wr => ∃ j : Nat, j ≤ 1 ∧ i = .int .i64 j ∧ Below W3.heap.size W3 wr ∧ Hid (∀ q (h : q < ([x] : List LT).length), q < j → ([x] : List LT)[q].k = 4)) (fun i _ => 1 - (intOf i).toNat)
  case atStart => exact ⟨0, Nat.zero_le _, rfl, Below.refl _ _, Lib.hid fun q h hq => by omega⟩
  case round =>
    obtain ⟨j, hj, rfl, hb, hq⟩ := hrel
    have hbw := HO.out.1.trans (hb.mono HO.out.1.size)
    by_cases hlt : j < 1
    · have h7 := (HR.out.below hbw).2 j hlt
      have HQ : Hid (([x] : List LT)[j].k = 4 → ∀ q (h : q < ([x] : List LT).length), q < j + 1 → ([x] : List LT)[q].k = 4) := Lib.hid fun hs q h1 h3 => by
        rcases Nat.lt_or_ge q j with h4 | h4
        · exact hq.out q h1 h4
        · obtain rfl : q = j := by omega
          exact hs
      have HNO : Hid (([x] : List LT)[j].k ≠ 4 → lenA x.k x.s = errA 6) := Lib.hid fun hs => by
        obtain rfl : j = 0 := by omega
        unfold lenA
        exact if_neg hs
      obtain ⟨u, hu⟩ : ∃ u, ([x] : List LT)[j] = u := ⟨_, rfl⟩
      rw [hu] at h7 HQ HNO
      obtain ⟨d0, d1, d2, d3, d4, d5, d6⟩ := h7.cells
      have hbx : Below wr.heap.size wr (wr.alloc (Obj.cells #[.int .i64 u.k, .bool u.g, .slice u.la u.ln u.lc, .bool u.bb, .string u.s, .slice u.ia u.items.length u.ic, .slice u.ta u.tail.length u.tc] 29)) := (Below.refl _ _).alloc (Nat.le_refl _) _
      have hbX := hb.trans (hbx.mono hb.size)
      have hz := (hbX.block w.heap.size (Array.getElem?_eq_some_iff.1 HO.out.2).1).trans HO.out.2
      obtain ⟨⟨z0, z1, z2, z3, z4, z5, z6⟩, f0, f1, f2, f3, f4, f5, f6⟩ := cells7 hz
      have HX := Lib.hid (And.intro hbX (And.intro hz (HO.out.1.trans (hbX.mono HO.out.1.size))))
      clear h7 hu hq hb hbx hbX hz hbw
      by_cases hk : u.k = 4
      · have ek : (u.k != 4) = false := by simp [hk]
        have HY := Lib.hid (HQ.out hk)
        clear hk z0 z1 z2 z3 z4 z5 z6 f0 f1 f2 f3 f4 f5 f6
        go_wp2_with fail
        go_roundw
        case rel => exact ⟨j + 1, by omega, by go_num, HX.out.1, HY⟩
        case measure => simp [intOf]; omega
      · have ek : (u.k != 4) = true := bne_iff_ne.2 hk
        have hR : RR = errA 6 := HRR.out.trans (HNO.out hk)
        subst hR
        clear hk
        go_wp2_with fail
        exact tel_set rfl rfl rfl rfl HX.out.2.1 (Nat.le_refl _) Sl.nil HX.out.2.2
    · obtain rfl : j = 1 := by omega
      have hks := hq.out
      have hR4 := HR.out.below hbw
      have HD4 := Lib.hid ((hb.block gd (Array.getElem?_eq_some_iff.1 HD.out).1).trans HD.out)
      have H4 := Lib.hid (And.intro hbw ((hb.block w.heap.size (Array.getElem?_eq_some_iff.1 HO.out.2).1).trans HO.out.2))
      clear hb hq hbw
      have hx : x.k = 4 := hks 0 (by simp) (by decide)
      have hR : RR = rkA x.s.size 0 := by
        rw [HRR.out]
        unfold lenA rkA
        rw [if_pos hx, if_neg (by decide)]
        have := limbs_len_le (n := ((x.s.size : Nat) : Int).natAbs) (k := 2) (by omega)
        rw [if_neg (by omega)]
      subst hR
      obtain ⟨⟨d0, d1, d2, d3, d4, d5, d6⟩, -⟩ := cells7 HD4.out
      clear hks hx hR4
      go_wp2_with fail
      clear d0 d1 d2 d3 d4 d5 d6
      refine (rwof_num (x.s.size : Int) wr (by omega) (by omega)).mono ?_
      rintro e w5 ⟨v, rfl, ⟨_, rfl, B1, n1, k1, rfl, hs1, _⟩, b5⟩
      have H5 := Lib.hid (And.intro (H4.out.1.trans (b5.mono H4.out.1.size)) (And.intro ((b5.block w.heap.size (Array.getElem?_eq_some_iff.1 H4.out.2).1).trans H4.out.2) hs1))
      clear b5 hs1
      go_wp2_with fail
      refine (rnumber_any (x.s.size : Int) B1 n1 k1 _ H5.out.2.2).mono ?_
      rintro e w6 ⟨A5, n5, c5, rfl, hs5, b6⟩
      have H6 := Lib.hid (And.intro (H5.out.1.trans (b6.mono H5.out.1.size)) ((b6.block w.heap.size (Array.getElem?_eq_some_iff.1 H5.out.2.1).1).trans H5.out.2.1))
      have HS := Lib.hid hs5
      clear b6 hs5
      obtain ⟨⟨d0, d1, d2, d3, d4, d5, d6⟩, f0, f1, f2, f3, f4, f5, f6⟩ := cells7 H6.out.2
      go_wp2_with fail
      exact tel_set rfl rfl rfl rfl H6.out.2 (Nat.le_refl _) HS.out H6.out.1
end
end Go.Proofs.YtocnlapbkidinaaGreatDoor
namespace Go.Proofs.YtocnlapbkidinaaGreatDoor
section
open Go.RowKit
set_option maxRecDepth 100000

set_option maxHeartbeats 6400000 in
theorem rdo_streq {r : Bool} (B o c : Nat) (x y : LT) (w : World) (hR : RowAt w B o [x, y]) (hr : (x.s.toList == y.s.toList) = r) :
    Calls Tryz.prog 9 #[.int .i64 25, .slice (some ⟨B, o, none⟩) 2 c] w (TelA w (sameA x.k y.k r)) := by
  have hpl : plainB 25 = true := by decide
  have har : arB 25 = 2 := by decide
  obtain ⟨RR, hRR⟩ : ∃ R, sameA x.k y.k r = R := ⟨_, rfl⟩
  rw [hRR]
  have HRR := Lib.hid hRR.symm
  clear hRR
  have HRS := Lib.hid hr
  clear hr
  have hb0 : Below w.heap.size w (w.alloc (Obj.cells #[.int .i64 0, .bool false, .slice none 0 0, .bool false, .string ⟨#[]⟩, .slice none 0 0, .slice none 0 0] 29)) := (Below.refl _ _).alloc (Nat.le_refl _) _
  have hz0 : (w.alloc (Obj.cells #[.int .i64 0, .bool false, .slice none 0 0, .bool false, .string ⟨#[]⟩, .slice none 0 0, .slice none 0 0] 29)).heap[w.heap.size]? = some (Obj.cells #[.int .i64 0, .bool false, .slice none 0 0, .bool false, .string ⟨#[]⟩, .slice none 0 0, .slice none 0 0] 29) := heap_alloc_new w (Obj.cells #[.int .i64 0, .bool false, .slice none 0 0, .bool false, .string ⟨#[]⟩, .slice none 0 0, .slice none 0 0] 29)
  have ha := rarity_any 25 hpl
  have hq := rplain_is 25
  rw [har] at ha
  rw [hpl] at hq
  have HA := Lib.hid ha
  have HQ := Lib.hid hq
  have HR := Lib.hid hR
  have H0 := Lib.hid (And.intro hb0 hz0)
  clear ha hq hR hb0 hz0 hpl har
  go_enter Tryz.func9, Tryz.ntmps9
  go_wp2_with fail
  refine (HQ.out _).mono ?_
  rintro e w1 ⟨rfl, b1⟩
  have H1 := Lib.hid (And.intro (H0.out.1.trans (b1.mono H0.out.1.size)) ((b1.block w.heap.size (Array.getElem?_eq_some_iff.1 H0.out.2).1).trans H0.out.2))
  clear b1
  go_wp2_with fail
  refine (HA.out _).mono ?_
  rintro e w2 ⟨rfl, b2⟩
  have H2 := Lib.hid (And.intro (H1.out.1.trans (b2.mono H1.out.1.size)) ((b2.block w.heap.size (Array.getElem?_eq_some_iff.1 H1.out.2).1).trans H1.out.2))
  clear b2
  have HO := Lib.hid (And.intro (H2.out.1.trans (((Below.refl w2.heap.size w2).alloc (Nat.le_refl _) (Obj.cells #[.int .i64 x.k, .bool x.g, .slice x.la x.ln x.lc, .bool x.bb, .string x.s, .slice x.ia x.items.length x.ic, .slice x.ta x.tail.length x.tc] 29)).mono H2.out.1.size)) ((((Below.refl w2.heap.size w2).alloc (Nat.le_refl _) (Obj.cells #[.int .i64 x.k, .bool x.g, .slice x.la x.ln x.lc, .bool x.bb, .string x.s, .slice x.ia x.items.length x.ic, .slice x.ta x.tail.length x.tc] 29)).block w.heap.size (Array.getElem?_eq_some_iff.1 H2.out.2).1).trans H2.out.2))
  obtain ⟨x0, x1, x2, x3, x4, x5, x6⟩ := (HR.out.below H2.out.1).first.cells
  go_wp2_with fail
  clear x0 x1 x2 x3 x4 x5 x6
  have HD := Lib.hid (show (w2.alloc (Obj.cells #[.int .i64 x.k, .bool x.g, .slice x.la x.ln x.lc, .bool x.bb, .string x.s, .slice x.ia x.items.length x.ic, .slice x.ta x.tail.length x.tc] 29)).heap[w2.heap.size]? = some (Obj.cells #[.int .i64 x.k, .bool x.g, .slice x.la x.ln x.lc, .bool x.bb, .string x.s, .slice x.ia x.items.length x.ic, .slice x.ta x.tail.length x.tc] 29) from heap_alloc_new _ _)
  generalize w2.alloc (Obj.cells #[.int .i64 x.k, .bool x.g, .slice x.la x.ln x.lc, .bool x.bb, .string x.s, .slice x.ia x.items.length x.ic, .slice x.ta x.tail.length x.tc] 29) = W3 at *
  generalize w2.heap.size = gd at *
  go_loopw [120] (fun i wr => ∃ j : Nat, j ≤ 2 ∧ i = .int .i64 j ∧ Below W3.heap.size W3 wr ∧ Hid (∀ q (h : q < ([x, y] : List LT).length), q < j → ([x, y] : List LT)[q].k = 4)) (fun i _ => 2 - (intOf i).toNat)
  case atStart => exact ⟨0, Nat.zero_le _, rfl, Below.refl _ _, Lib.hid fun q h hq => by omega⟩
  case round =>
    obtain ⟨j, hj, rfl, hb, hq⟩ := hrel
    have hbw := HO.out.1.trans (hb.mono HO.out.1.size)
    by_cases hlt : j < 2
    · have h7 := (HR.out.below hbw).2 j hlt
      have HQ : Hid (([x, y] : List LT)[j].k = 4 → ∀ q (h : q < ([x, y] : List LT).length), q < j + 1 → ([x, y] : List LT)[q].k = 4) := Lib.hid fun hs q h1 h3 => by
        rcases Nat.lt_or_ge q j with h4 | h4
        · exact hq.out q h1 h4
        · obtain rfl : q = j := by omega
          exact hs
      have HNO : Hid (([x, y] : List LT)[j].k ≠ 4 → sameA x.k y.k r = errA 6) := Lib.hid fun hs => by
        have hn : ¬ (x.k = 4 ∧ y.k = 4) := fun h => by
          rcases (show j = 0 ∨ j = 1 by omega) with rfl | rfl
          · exact hs h.1
          · exact hs h.2
        unfold sameA
        exact if_neg hn
      obtain ⟨u, hu⟩ : ∃ u, ([x, y] : List LT)[j] = u := ⟨_, rfl⟩
      rw [hu] at h7 HQ HNO
      obtain ⟨d0, d1, d2, d3, d4, d5, d6⟩ := h7.cells
      have hbx : Below wr.heap.size wr (wr.alloc (Obj.cells #[.int .i64 u.k, .bool u.g, .slice u.la u.ln u.lc, .bool u.bb, .string u.s, .slice u.ia u.items.length u.ic, .slice u.ta u.tail.length u.tc] 29)) := (Below.refl _ _).alloc (Nat.le_refl _) _
      have hbX := hb.trans (hbx.mono hb.size)
      have hz := (hbX.block w.heap.size (Array.getElem?_eq_some_iff.1 HO.out.2).1).trans HO.out.2
      obtain ⟨⟨z0, z1, z2, z3, z4, z5, z6⟩, f0, f1, f2, f3, f4, f5, f6⟩ := cells7 hz
      have HX := Lib.hid (And.intro hbX (And.intro hz (HO.out.1.trans (hbX.mono HO.out.1.size))))
      clear h7 hu hq hb hbx hbX hz hbw
      by_cases hk : u.k = 4
      · have ek : (u.k != 4) = false := by simp [hk]
        have HY := Lib.hid (HQ.out hk)
        clear hk z0 z1 z2 z3 z4 z5 z6 f0 f1 f2 f3 f4 f5 f6
        go_wp2_with fail
        go_roundw
        case rel => exact ⟨j + 1, by omega, by go_num, HX.out.1, HY⟩
        case measure => simp [intOf]; omega
      · have ek : (u.k != 4) = true := bne_iff_ne.2 hk
        have hR : RR = errA 6 := HRR.out.trans (HNO.out hk)
        subst hR
        clear hk
        go_wp2_with fail
        exact tel_set rfl rfl rfl rfl HX.out.2.1 (Nat.le_refl _) Sl.nil HX.out.2.2
    · obtain rfl : j = 2 := by omega
      have hks := hq.out
      have hR4 := HR.out.below hbw
      have HD4 := Lib.hid ((hb.block gd (Array.getElem?_eq_some_iff.1 HD.out).1).trans HD.out)
      have H4 := Lib.hid (And.intro hbw ((hb.block w.heap.size (Array.getElem?_eq_some_iff.1 HO.out.2).1).trans HO.out.2))
      clear hb hq hbw
      have hx : x.k = 4 := hks 0 (by simp) (by decide)
      have hy : y.k = 4 := hks 1 (by simp) (by decide)
      have hR : RR = boolA r := by rw [HRR.out]; unfold sameA; rw [if_pos ⟨hx, hy⟩]
      subst hR
      obtain ⟨x0, x1, x2, x3, x4, x5, x6⟩ := hR4.first.cells
      obtain ⟨y0, y1, y2, y3, y4, y5, y6⟩ := hR4.second.cells
      have hr := HRS.out
      have hB : B < w.heap.size := HR.out.1
      have HC4 := Lib.hid (fun W (hb : Below w.heap.size w W) => And.intro ((HR.out.below hb).first.cells.2.2.2.2.1) ((HR.out.below hb).second.cells.2.2.2.2.1))
      have hb4 := H4.out.1.drew
      have hS0 := HC4.out _ hb4
      clear hks hx hy hR4 x0 x1 x2 x3 x5 x6 y0 y1 y2 y3 y5 y6 x4 y4
      go_wp2_with fail
      go_region_held3 (fun w' => w'.cell? ⟨B, o + 4, none⟩ = some (.string x.s) ∧ w'.cell? ⟨B, o + 7 + 4, none⟩ = some (.string y.s))
        (first | with_reducible exact hS0 | with_reducible exact hS3 | with_reducible exact hS4 | go_keep)
        (first
        | (go_at_call 28; refine (rtruth_any r _).mono ?_; rintro e w5 ⟨A1, n1, c1, rfl, hsl, b5⟩; have hb5 := hb4.trans (b5.mono hb4.size); have hS3 := HC4.out _ hb5;
           have hz := (b5.block w.heap.size (Array.getElem?_eq_some_iff.1 H4.out.2).1).trans H4.out.2; obtain ⟨⟨d0, d1, d2, d3, d4, d5, d6⟩, f0, f1, f2, f3, f4, f5, f6⟩ := cells7 hz;
           have hS4 := HC4.out _ (below7 hb5 (Nat.le_refl _) (.int .i64 2) (.bool false) (.slice A1 n1 c1) (.bool r) (.string ⟨#[]⟩) (.slice none 0 0) (.slice none 0 0))))
      go_wp2_with fail
      exact tel_set rfl rfl rfl rfl hz (Nat.le_refl _) hsl hb5
end
end Go.Proofs.YtocnlapbkidinaaGreatDoor
namespace Go.Proofs.YtocnlapbkidinaaGreatDoor
section
open Go.RowKit
set_option maxRecDepth 100000

theorem exec_ixc {a : Act} {w : World} {o : Oper} {p b off c : Nat} (ho : o.op = .indexAddr 22 (.tmp p) (.const (.int .i64 0))) (ht : a.tmps.getD p undef = .slice (some ⟨b, off, none⟩) 2 c) :
    (execOp a.eval o).run Tryz.prog w = .ok (.value (.pointer (some ⟨b, off, none⟩))) w := by
  rw [Array.getD_eq_getD_getElem?] at ht
  simp [execOp, ho, Act.eval, ht, go_sem]
theorem exec_ixd {a : Act} {w : World} {o : Oper} {p b off c : Nat} (ho : o.op = .indexAddr 22 (.tmp p) (.const (.int .i64 1))) (ht : a.tmps.getD p undef = .slice (some ⟨b, off, none⟩) 2 c) :
    (execOp a.eval o).run Tryz.prog w = .ok (.value (.pointer (some ⟨b, off + 7, none⟩))) w := by
  rw [Array.getD_eq_getD_getElem?] at ht
  simp [execOp, ho, Act.eval, ht, go_sem]
theorem exec_fldT {a : Act} {w : World} {o : Oper} {p b off : Nat} (ho : o.op = .fieldAddr 29 (.tmp p) 3) (ht : a.tmps.getD p undef = .pointer (some ⟨b, off, none⟩)) :
    (execOp a.eval o).run Tryz.prog w = .ok (.value (.pointer (some ⟨b, off + 4, none⟩))) w := by
  rw [Array.getD_eq_getD_getElem?] at ht
  simp [execOp, ho, Act.eval, ht, go_sem]
theorem exec_loadT {a : Act} {w : World} {o : Oper} {p b off : Nat} {s : ByteArray} (ho : o.op = .load 9 (.tmp p)) (ht : a.tmps.getD p undef = .pointer (some ⟨b, off, none⟩)) (hc : w.cell? ⟨b, off, none⟩ = some (.string s)) :
    (execOp a.eval o).run Tryz.prog w = .ok (.value (.string s)) w := by
  rw [Array.getD_eq_getD_getElem?] at ht
  simp [execOp, ho, Act.eval, ht, go_sem, hc]
theorem exec_addT {a : Act} {w : World} {o : Oper} {p q : Nat} {s t : ByteArray} (ho : o.op = .binOp .add 9 (.tmp p) (.tmp q) 9) (hp : a.tmps.getD p undef = .string s) (hq : a.tmps.getD q undef = .string t) (hl : s.size + t.size ≤ 9223372036854775807) :
    (execOp a.eval o).run Tryz.prog w = .ok (.value (.string (s ++ t))) w := by
  rw [Array.getD_eq_getD_getElem?] at hp hq
  have hno : ¬ (9223372036854775807 < s.size + t.size) := by omega
  simp [execOp, ho, Act.eval, hp, hq, go_sem, hno]
theorem exec_buildT {a : Act} {w : World} {o : Oper} {p : Nat} {s : ByteArray} (ho : o.op = .build 29 #[(0, .const (.int .i64 4)), (3, .tmp p)]) (hp : a.tmps.getD p undef = .string s) :
    (execOp a.eval o).run Tryz.prog w = .ok (.value (.agg #[.int .i64 4, .bool false, .slice none 0 0, .bool false, .string s, .slice none 0 0, .slice none 0 0])) w := by
  rw [Array.getD_eq_getD_getElem?] at hp
  simp [execOp, ho, Act.eval, hp, go_sem]
theorem exec_asgI {P : Program} {a : Act} {w : World} {o : Oper} {k : Int} (ho : o.op = .assign (.const (.int .i64 k))) : (execOp a.eval o).run P w = .ok (.value (.int .i64 k)) w := by
  simp [execOp, ho, Act.eval, go_sem]
set_option maxHeartbeats 6400000 in
theorem rdo_strapp (B o c : Nat) (x y : LT) (w : World) (hR : RowAt w B o [x, y]) (hs : x.s.size ≤ 1100) (ht : y.s.size ≤ 1100) :
    Calls Tryz.prog 9 #[.int .i64 24, .slice (some ⟨B, o, none⟩) 2 c] w (TelA w (joinA x.k y.k x.s y.s)) := by
  have hpl : plainB 24 = true := by decide
  have har : arB 24 = 2 := by decide
  obtain ⟨RR, hRR⟩ : ∃ R, joinA x.k y.k x.s y.s = R := ⟨_, rfl⟩
  rw [hRR]
  have HRR := Lib.hid hRR.symm
  clear hRR
  have hb0 : Below w.heap.size w (w.alloc (Obj.cells #[.int .i64 0, .bool false, .slice none 0 0, .bool false, .string ⟨#[]⟩, .slice none 0 0, .slice none 0 0] 29)) := (Below.refl _ _).alloc (Nat.le_refl _) _
  have hz0 : (w.alloc (Obj.cells #[.int .i64 0, .bool false, .slice none 0 0, .bool false, .string ⟨#[]⟩, .slice none 0 0, .slice none 0 0] 29)).heap[w.heap.size]? = some (Obj.cells #[.int .i64 0, .bool false, .slice none 0 0, .bool false, .string ⟨#[]⟩, .slice none 0 0, .slice none 0 0] 29) := heap_alloc_new w (Obj.cells #[.int .i64 0, .bool false, .slice none 0 0, .bool false, .string ⟨#[]⟩, .slice none 0 0, .slice none 0 0] 29)
  have ha := rarity_any 24 hpl
  have hq := rplain_is 24
  rw [har] at ha
  rw [hpl] at hq
  have HA := Lib.hid ha
  have HQ := Lib.hid hq
  have HR := Lib.hid hR
  have H0 := Lib.hid (And.intro hb0 hz0)
  clear ha hq hR hb0 hz0 hpl har
  go_enter Tryz.func9, Tryz.ntmps9
  go_wp2_with fail
  refine (HQ.out _).mono ?_
  rintro e w1 ⟨rfl, b1⟩
  have H1 := Lib.hid (And.intro (H0.out.1.trans (b1.mono H0.out.1.size)) ((b1.block w.heap.size (Array.getElem?_eq_some_iff.1 H0.out.2).1).trans H0.out.2))
  clear b1
  go_wp2_with fail
  refine (HA.out _).mono ?_
  rintro e w2 ⟨rfl, b2⟩
  have H2 := Lib.hid (And.intro (H1.out.1.trans (b2.mono H1.out.1.size)) ((b2.block w.heap.size (Array.getElem?_eq_some_iff.1 H1.out.2).1).trans H1.out.2))
  clear b2
  have HO := Lib.hid (And.intro (H2.out.1.trans (((Below.refl w2.heap.size w2).alloc (Nat.le_refl _) (Obj.cells #[.int .i64 x.k, .bool x.g, .slice x.la x.ln x.lc, .bool x.bb, .string x.s, .slice x.ia x.items.length x.ic, .slice x.ta x.tail.length x.tc] 29)).mono H2.out.1.size)) ((((Below.refl w2.heap.size w2).alloc (Nat.le_refl _) (Obj.cells #[.int .i64 x.k, .bool x.g, .slice x.la x.ln x.lc, .bool x.bb, .string x.s, .slice x.ia x.items.length x.ic, .slice x.ta x.tail.length x.tc] 29)).block w.heap.size (Array.getElem?_eq_some_iff.1 H2.out.2).1).trans H2.out.2))
  obtain ⟨x0, x1, x2, x3, x4, x5, x6⟩ := (HR.out.below H2.out.1).first.cells
  go_wp2_with fail
  clear x0 x1 x2 x3 x4 x5 x6
  have HD := Lib.hid (show (w2.alloc (Obj.cells #[.int .i64 x.k, .bool x.g, .slice x.la x.ln x.lc, .bool x.bb, .string x.s, .slice x.ia x.items.length x.ic, .slice x.ta x.tail.length x.tc] 29)).heap[w2.heap.size]? = some (Obj.cells #[.int .i64 x.k, .bool x.g, .slice x.la x.ln x.lc, .bool x.bb, .string x.s, .slice x.ia x.items.length x.ic, .slice x.ta x.tail.length x.tc] 29) from heap_alloc_new _ _)
  generalize w2.alloc (Obj.cells #[.int .i64 x.k, .bool x.g, .slice x.la x.ln x.lc, .bool x.bb, .string x.s, .slice x.ia x.items.length x.ic, .slice x.ta x.tail.length x.tc] 29) = W3 at *
  generalize w2.heap.size = gd at *
  go_loopw [120] (fun i wr => ∃ j : Nat, j ≤ 2 ∧ i = .int .i64 j ∧ Below W3.heap.size W3 wr ∧ Hid (∀ q (h : q < ([x, y] : List LT).length), q < j → ([x, y] : List LT)[q].k = 4)) (fun i _ => 2 - (intOf i).toNat)
  case atStart => exact ⟨0, Nat.zero_le _, rfl, Below.refl _ _, Lib.hid fun q h hq => by omega⟩
  case round =>
    obtain ⟨j, hj, rfl, hb, hq⟩ := hrel
    have hbw := HO.out.1.trans (hb.mono HO.out.1.size)
    by_cases hlt : j < 2
    · have h7 := (HR.out.below hbw).2 j hlt
      have HQ : Hid (([x, y] : List LT)[j].k = 4 → ∀ q (h : q < ([x, y] : List LT).length), q < j + 1 → ([x, y] : List LT)[q].k = 4) := Lib.hid fun hs q h1 h3 => by
        rcases Nat.lt_or_ge q j with h4 | h4
        · exact hq.out q h1 h4
        · obtain rfl : q = j := by omega
          exact hs
      have HNO : Hid (([x, y] : List LT)[j].k ≠ 4 → joinA x.k y.k x.s y.s = errA 6) := Lib.hid fun hs => by
        have hn : ¬ (x.k = 4 ∧ y.k = 4) := fun h => by
          rcases (show j = 0 ∨ j = 1 by omega) with rfl | rfl
          · exact hs h.1
          · exact hs h.2
        unfold joinA
        exact if_neg hn
      obtain ⟨u, hu⟩ : ∃ u, ([x, y] : List LT)[j] = u := ⟨_, rfl⟩
      rw [hu] at h7 HQ HNO
      obtain ⟨d0, d1, d2, d3, d4, d5, d6⟩ := h7.cells
      have hbx : Below wr.heap.size wr (wr.alloc (Obj.cells #[.int .i64 u.k, .bool u.g, .slice u.la u.ln u.lc, .bool u.bb, .string u.s, .slice u.ia u.items.length u.ic, .slice u.ta u.tail.length u.tc] 29)) := (Below.refl _ _).alloc (Nat.le_refl _) _
      have hbX := hb.trans (hbx.mono hb.size)
      have hz := (hbX.block w.heap.size (Array.getElem?_eq_some_iff.1 HO.out.2).1).trans HO.out.2
      obtain ⟨⟨z0, z1, z2, z3, z4, z5, z6⟩, f0, f1, f2, f3, f4, f5, f6⟩ := cells7 hz
      have HX := Lib.hid (And.intro hbX (And.intro hz (HO.out.1.trans (hbX.mono HO.out.1.size))))
      clear h7 hu hq hb hbx hbX hz hbw
      by_cases hk : u.k = 4
      · have ek : (u.k != 4) = false := by simp [hk]
        have HY := Lib.hid (HQ.out hk)
        clear hk z0 z1 z2 z3 z4 z5 z6 f0 f1 f2 f3 f4 f5 f6
        go_wp2_with fail
        go_roundw
        case rel => exact ⟨j + 1, by omega, by go_num, HX.out.1, HY⟩
        case measure => simp [intOf]; omega
      · have ek : (u.k != 4) = true := bne_iff_ne.2 hk
        have hR : RR = errA 6 := HRR.out.trans (HNO.out hk)
        subst hR
        clear hk
        go_wp2_with fail
        exact tel_set rfl rfl rfl rfl HX.out.2.1 (Nat.le_refl _) Sl.nil HX.out.2.2
    · obtain rfl : j = 2 := by omega
      have hks := hq.out
      have hR4 := HR.out.below hbw
      have HD4 := Lib.hid ((hb.block gd (Array.getElem?_eq_some_iff.1 HD.out).1).trans HD.out)
      have H4 := Lib.hid (And.intro hbw ((hb.block w.heap.size (Array.getElem?_eq_some_iff.1 HO.out.2).1).trans HO.out.2))
      clear hb hq hbw
      have hx : x.k = 4 := hks 0 (by simp) (by decide)
      have hy : y.k = 4 := hks 1 (by simp) (by decide)
      have hR : RR = if 1024 < x.s.size + y.s.size then errA 12 else strA (x.s ++ y.s) := by rw [HRR.out]; unfold joinA; rw [if_pos ⟨hx, hy⟩]
      have hB : B < w.heap.size := HR.out.1
      have HC4 := Lib.hid (fun W (hb : Below w.heap.size w W) => And.intro ((HR.out.below hb).first.cells.2.2.2.2.1) ((HR.out.below hb).second.cells.2.2.2.2.1))
      obtain ⟨x4, y4⟩ := HC4.out _ H4.out.1
      have hwr : IntKind.i64.wrap ((x.s.size : Int) + (y.s.size : Int)) = (x.s.size : Int) + (y.s.size : Int) := IntWalk.i64_in _ (by omega)
      clear hks hx hy hR4
      by_cases hlt : 1024 < x.s.size + y.s.size
      · rw [if_pos hlt] at hR
        subst hR
        have hd : decide ((1024 : Int) < (x.s.size : Int) + (y.s.size : Int)) = true := decide_eq_true (by omega)
        have hd2 : decide (1024 < x.s.size + y.s.size) = true := decide_eq_true hlt
        clear hlt
        go_wp2_with fail
        go_quiet (fail)
        have hzq : (wr.drewN nq).heap[w.heap.size]? = some (Obj.cells #[.int .i64 0, .bool false, .slice none 0 0, .bool false, .string ⟨#[]⟩, .slice none 0 0, .slice none 0 0] 29) := H4.out.2
        have hbq : Below w.heap.size w (wr.drewN nq) := ⟨H4.out.1.os, H4.out.1.tape, H4.out.1.output, H4.out.1.size, H4.out.1.block⟩
        clear x4 y4
        generalize wr.drewN nq = V at *
        have HV := Lib.hid (And.intro hzq hbq)
        obtain ⟨⟨d0, d1, d2, d3, d4, d5, d6⟩, f0, f1, f2, f3, f4, f5, f6⟩ := cells7 hzq
        clear hzq hbq
        go_wp2_with fail
        exact tel_set rfl rfl rfl rfl HV.out.1 (Nat.le_refl _) Sl.nil HV.out.2
      · rw [if_neg hlt] at hR
        subst hR
        have hd : decide ((1024 : Int) < (x.s.size : Int) + (y.s.size : Int)) = false := decide_eq_false (by omega)
        have hd2 : decide (1024 < x.s.size + y.s.size) = false := decide_eq_false hlt
        have hno : ¬ (9223372036854775807 < x.s.size + y.s.size) := by omega
        go_wp2_with fail
        go_quiet (fail)
        have hzq : (wr.drewN nq).heap[w.heap.size]? = some (Obj.cells #[.int .i64 0, .bool false, .slice none 0 0, .bool false, .string ⟨#[]⟩, .slice none 0 0, .slice none 0 0] 29) := H4.out.2
        have hbq : Below w.heap.size w (wr.drewN nq) := ⟨H4.out.1.os, H4.out.1.tape, H4.out.1.output, H4.out.1.size, H4.out.1.block⟩
        clear x4 y4
        generalize wr.drewN nq = V at *
        have HV := Lib.hid (And.intro hzq hbq)
        have hb4 := hbq.drew
        have hz4 : V.drew.heap[w.heap.size]? = some (Obj.cells #[.int .i64 0, .bool false, .slice none 0 0, .bool false, .string ⟨#[]⟩, .slice none 0 0, .slice none 0 0] 29) := hzq
        obtain ⟨⟨d0, d1, d2, d3, d4, d5, d6⟩, f0, f1, f2, f3, f4, f5, f6⟩ := cells7 hz4
        have hS0 := HC4.out _ hb4
        have hS4 := HC4.out _ (below7 hb4 (Nat.le_refl _) (.int .i64 4) (.bool false) (.slice none 0 0) (.bool false) (.string (x.s ++ y.s)) (.slice none 0 0) (.slice none 0 0))
        clear hzq hbq hlt
        go_wp2_with fail
        have hc := fun W (hb : Below V.heap.size V W) => HC4.out W (HV.out.2.trans (hb.mono HV.out.2.size))
        refine wp_region_phases (nA := 10) (by kernel_rfl) (by kernel_rfl) (fun i => 164 + i)
          (fun i W v => match i with
            | 0 => v = .slice (some ⟨B, o, none⟩) 2 c
            | 1 => v = .pointer (some ⟨B, o, none⟩)
            | 2 => v = .pointer (some ⟨B, o + 4, none⟩)
            | 3 => v = .string x.s
            | 4 => v = .slice (some ⟨B, o, none⟩) 2 c
            | 5 => v = .pointer (some ⟨B, o + 7, none⟩)
            | 6 => v = .pointer (some ⟨B, o + 7 + 4, none⟩)
            | 7 => v = .string y.s
            | 8 => v = .string (x.s ++ y.s)
            | _ => v = .agg #[.int .i64 4, .bool false, .slice none 0 0, .bool false, .string (x.s ++ y.s), .slice none 0 0, .slice none 0 0]) (by decide) (by kernel_rfl)
          (fun i j hi hj h => by omega) (fun i hi => by simp only [List.size_toArray, List.length_cons, List.length_nil]; omega) ?_ ?_ ?_
        · intro i hi W W' v h hb
          rcases (show i = 0 ∨ i = 1 ∨ i = 2 ∨ i = 3 ∨ i = 4 ∨ i = 5 ∨ i = 6 ∨ i = 7 ∨ i = 8 ∨ i = 9 by omega) with rfl | rfl | rfl | rfl | rfl | rfl | rfl | rfl | rfl | rfl
          · exact h
          · exact h
          · exact h
          · exact h
          · exact h
          · exact h
          · exact h
          · exact h
          · exact h
          · exact h
        · intro i hi l A W I hdep
          rcases (show i = 0 ∨ i = 1 ∨ i = 2 ∨ i = 3 ∨ i = 4 ∨ i = 5 ∨ i = 6 ∨ i = 7 ∨ i = 8 ∨ i = 9 by omega) with rfl | rfl | rfl | rfl | rfl | rfl | rfl | rfl | rfl | rfl
          · exact wpOp_valW rfl (rfl) (exec_moveV rfl ((I.other 1 (by intro j hj; omega)).trans rfl)) ⟨_, rfl, rfl, Below.refl _ _⟩
          · have v0 : A.tmps.getD 164 undef = _ := I.val 0 (by decide) (hdep 0 (by kernel_rfl))
            exact wpOp_valW rfl (rfl) (exec_ixc rfl v0) ⟨_, rfl, rfl, Below.refl _ _⟩
          · have v1 : A.tmps.getD 165 undef = _ := I.val 1 (by decide) (hdep 1 (by kernel_rfl))
            exact wpOp_valW rfl (rfl) (exec_fldT rfl v1) ⟨_, rfl, rfl, Below.refl _ _⟩
          · have v2 : A.tmps.getD 166 undef = _ := I.val 2 (by decide) (hdep 2 (by kernel_rfl))
            exact wpOp_valW rfl (rfl) (exec_loadT rfl v2 (hc W I.below).1) ⟨_, rfl, rfl, Below.refl _ _⟩
          · exact wpOp_valW rfl (rfl) (exec_moveV rfl ((I.other 1 (by intro j hj; omega)).trans rfl)) ⟨_, rfl, rfl, Below.refl _ _⟩
          · have v4 : A.tmps.getD 168 undef = _ := I.val 4 (by decide) (hdep 4 (by kernel_rfl))
            exact wpOp_valW rfl (rfl) (exec_ixd rfl v4) ⟨_, rfl, rfl, Below.refl _ _⟩
          · have v5 : A.tmps.getD 169 undef = _ := I.val 5 (by decide) (hdep 5 (by kernel_rfl))
            exact wpOp_valW rfl (rfl) (exec_fldT rfl v5) ⟨_, rfl, rfl, Below.refl _ _⟩
          · have v6 : A.tmps.getD 170 undef = _ := I.val 6 (by decide) (hdep 6 (by kernel_rfl))
            exact wpOp_valW rfl (rfl) (exec_loadT rfl v6 (hc W I.below).2) ⟨_, rfl, rfl, Below.refl _ _⟩
          · have v3 : A.tmps.getD 167 undef = _ := I.val 3 (by decide) (hdep 3 (by kernel_rfl))
            have v7 : A.tmps.getD 171 undef = _ := I.val 7 (by decide) (hdep 7 (by kernel_rfl))
            exact wpOp_valW rfl (rfl) (exec_addT rfl v3 v7 (by omega)) ⟨_, rfl, rfl, Below.refl _ _⟩
          · have v8 : A.tmps.getD 172 undef = _ := I.val 8 (by decide) (hdep 8 (by kernel_rfl))
            exact wpOp_valW rfl (rfl) (exec_buildT rfl v8) ⟨_, rfl, rfl, Below.refl _ _⟩
        intro A w9 hdf hsz hoth hval hb9
        have v0 : A.tmps.getD 164 undef = _ := hval 0 (by decide)
        have v1 : A.tmps.getD 165 undef = _ := hval 1 (by decide)
        have v2 : A.tmps.getD 166 undef = _ := hval 2 (by decide)
        have v3 : A.tmps.getD 167 undef = _ := hval 3 (by decide)
        have v4 : A.tmps.getD 168 undef = _ := hval 4 (by decide)
        have v5 : A.tmps.getD 169 undef = _ := hval 5 (by decide)
        have v6 : A.tmps.getD 170 undef = _ := hval 6 (by decide)
        have v7 : A.tmps.getD 171 undef = _ := hval 7 (by decide)
        have v8 : A.tmps.getD 172 undef = _ := hval 8 (by decide)
        have v9 : A.tmps.getD 173 undef = _ := hval 9 (by decide)
        have hA := tower_pairs (a := A) [(164, .slice (some ⟨B, o, none⟩) 2 c), (165, .pointer (some ⟨B, o, none⟩)), (166, .pointer (some ⟨B, o + 4, none⟩)), (167, .string x.s), (168, .slice (some ⟨B, o, none⟩) 2 c), (169, .pointer (some ⟨B, o + 7, none⟩)), (170, .pointer (some ⟨B, o + 7 + 4, none⟩)), (171, .string y.s), (172, .string (x.s ++ y.s)), (173, .agg #[.int .i64 4, .bool false, .slice none 0 0, .bool false, .string (x.s ++ y.s), .slice none 0 0, .slice none 0 0])] ?_ ?_ hdf hsz (fun m hm => hoth m (fun j hj => by
          simp only [List.forall_mem_cons] at hm
          obtain ⟨k0, k1, k2, k3, k4, k5, k6, k7, k8, k9, -⟩ := hm
          rcases (show j = 0 ∨ j = 1 ∨ j = 2 ∨ j = 3 ∨ j = 4 ∨ j = 5 ∨ j = 6 ∨ j = 7 ∨ j = 8 ∨ j = 9 by omega) with rfl | rfl | rfl | rfl | rfl | rfl | rfl | rfl | rfl | rfl
          · exact k0
          · exact k1
          · exact k2
          · exact k3
          · exact k4
          · exact k5
          · exact k6
          · exact k7
          · exact k8
          · exact k9))
        rotate_left
        · intro p hp
          simp only [List.mem_cons, List.not_mem_nil, or_false] at hp
          rcases hp with rfl | rfl | rfl | rfl | rfl | rfl | rfl | rfl | rfl | rfl <;> simp
        · intro p hp
          simp only [List.mem_cons, List.not_mem_nil, or_false] at hp
          rcases hp with rfl | rfl | rfl | rfl | rfl | rfl | rfl | rfl | rfl | rfl
          · exact v0
          · exact v1
          · exact v2
          · exact v3
          · exact v4
          · exact v5
          · exact v6
          · exact v7
          · exact v8
          · exact v9
        clear v0 v1 v2 v3 v4 v5 v6 v7 v8 v9 hval hoth hsz hdf
        subst hA
        simp only [List.foldl, Act.put, List.setIfInBounds_toArray, List.set_cons_zero, List.set_cons_succ]
        show wpOps _ _ _ [10, 11] _ _
        have hz9 := (hb9.block w.heap.size (Array.getElem?_eq_some_iff.1 HV.out.1).1).trans HV.out.1
        rw [wpOps_cons]
        refine wpOp_storeD rfl rfl rfl rfl rfl (u := plainT 4 false none 0 0 [] false (x.s ++ y.s)) rfl (x := plainT 0 false none 0 0 [] false ⟨#[]⟩) hz9 ?_
        intro W' q1 hoth hsz hbb
        rw [wpOps_cons]
        refine wpOp_val (o := { dst := some 5, op := .assign (.const (.int .i64 0)), type := _, pos := _, after := _, guard := none }) rfl rfl (exec_asgI rfl) ?_
        have HF := Lib.hid (And.intro q1 (HV.out.2.trans ((hb9.mono HV.out.2.size).trans (hbb w.heap.size (Nat.le_refl _)))))
        clear q1 hoth hsz hbb hz9 hc d0 d1 d2 d3 d4 d5 d6 f0 f1 f2 f3 f4 f5 f6 hz4 hb4 hS0 hS4
        simp only [wpOps, Act.put, List.setIfInBounds_toArray, List.set_cons_zero, List.set_cons_succ]
        show Exit.then _ _ _ _ _
        go_wp2_with fail
        obtain ⟨⟨d0, d1, d2, d3, d4, d5, d6⟩, -⟩ := cells7 HF.out.1
        exact bodyPost_ret (results_dt2 rfl rfl rfl d0 d1 d2 d3 d4 d5 d6) rfl ⟨none, 0, 0, rfl, Sl.nil, HF.out.2⟩
end
end Go.Proofs.YtocnlapbkidinaaGreatDoor
