/-
  PrimTexts: its walk.
-/
import Derived.Test.YtekdfdobnpegdaaGreatDoorQPlk
import Derived.RegionTactic
import Derived.BigRegion
import Derived.Deep.CutRange
import Derived.LoopTactic
import Derived.IntWalk
import Derived.Deep.RegionHeld3
import Derived.Deep.QuietTactic
set_option linter.unusedVariables false
set_option linter.unusedSimpArgs false
set_option linter.unusedSectionVars false
set_option linter.unnecessarySimpa false
namespace Go.Proofs.YtekdfdobnpegdaaGreatDoor
open Go.RowKit
set_option maxRecDepth 100000

theorem three_xy (w : World) (A X Y : Obj) : (((w.alloc A).alloc X).alloc Y).heap[w.heap.size]? = some A ∧ (((w.alloc A).alloc X).alloc Y).heap[w.heap.size + 1]? = some X ∧ (((w.alloc A).alloc X).alloc Y).heap[w.heap.size + 1 + 1]? = some Y ∧ Below w.heap.size w (((w.alloc A).alloc X).alloc Y) := by
  have s1 : (w.alloc A).heap.size = w.heap.size + 1 := World.size_alloc ..
  have s2 : ((w.alloc A).alloc X).heap.size = w.heap.size + 1 + 1 := by rw [World.size_alloc, s1]
  have h0 := heap_alloc_new w A
  have h1 := heap_alloc_new (w.alloc A) X
  have h2 := heap_alloc_new ((w.alloc A).alloc X) Y
  rw [s1] at h1
  rw [s2] at h2
  exact ⟨(Below.heap_alloc _ _ _ (by rw [s2]; omega)).trans ((Below.heap_alloc _ _ _ (by rw [s1]; omega)).trans h0), (Below.heap_alloc _ _ _ (by rw [s2]; omega)).trans h1, h2, (((Below.refl _ _).alloc (Nat.le_refl _) _).alloc (by omega) _).alloc (by omega) _⟩
theorem texts_cells {W v : World} {gn gs gq gt gu gl gx : Nat} {s2 rr : Bool} {a2 A1 A2 A3 A4 A5 : Option Addr} {len2 cap2 n1 n2 n3 n4 n5 c1 c2 c3 c4 c5 : Nat} {ab tt a0 : ByteArray} {T0 T1 T2 T3 T4 T5 T6 : TypeId} (b : Below W.heap.size W v)
    (hn : W.heap[gn]? = some (.cells #[.bool s2, .slice a2 len2 cap2] T0 (0, 0))) (hs : W.heap[gs]? = some (.cells #[.int .i64 4, .bool false, .slice A1 n1 c1, .bool false, .string ab, .slice none 0 0, .slice none 0 0] T1 (0, 0)))
    (hq : W.heap[gq]? = some (.cells #[.int .i64 2, .bool false, .slice A3 n3 c3, .bool rr, .string ⟨#[]⟩, .slice none 0 0, .slice none 0 0] T2 (0, 0)))
    (ht : W.heap[gt]? = some (.cells #[.int .i64 4, .bool false, .slice A4 n4 c4, .bool false, .string tt, .slice none 0 0, .slice none 0 0] T3 (0, 0)))
    (hu : W.heap[gu]? = some (.cells #[.int .i64 4, .bool false, .slice A5 n5 c5, .bool false, .string a0, .slice none 0 0, .slice none 0 0] T4 (0, 0)))
    (hl : W.heap[gl]? = some (.cells #[.int .i64 1, .bool false, .slice A2 n2 c2, .bool false, .string ⟨#[]⟩, .slice none 0 0, .slice none 0 0] T5 (0, 0)))
    (hx : W.heap[gx]? = some (.cells #[.int .i64 4, .bool false, .slice none 0 0, .bool false, .string a0, .slice none 0 0, .slice none 0 0] T6 (0, 0))) :
    v.cell? ⟨gs, 4, none⟩ = some (.string ab) ∧ v.cell? ⟨gq, 3, none⟩ = some (.bool rr) ∧ v.cell? ⟨gt, 4, none⟩ = some (.string tt) ∧ v.cell? ⟨gu, 4, none⟩ = some (.string a0) ∧ v.cell? ⟨gn, 0, none⟩ = some (.bool s2) ∧ v.cell? ⟨gn, 1, none⟩ = some (.slice a2 len2 cap2) ∧ v.cell? ⟨gl, 0, none⟩ = some (.int .i64 1) ∧ v.cell? ⟨gl, 1, none⟩ = some (.bool false) ∧ v.cell? ⟨gl, 2, none⟩ = some (.slice A2 n2 c2) ∧ v.cell? ⟨gl, 3, none⟩ = some (.bool false) ∧ v.cell? ⟨gl, 4, none⟩ = some (.string ⟨#[]⟩) ∧ v.cell? ⟨gl, 5, none⟩ = some (.slice none 0 0) ∧ v.cell? ⟨gl, 6, none⟩ = some (.slice none 0 0) ∧ v.cell? ⟨gx, 0, none⟩ = some (.int .i64 4) ∧ v.cell? ⟨gx, 1, none⟩ = some (.bool false) ∧ v.cell? ⟨gx, 2, none⟩ = some (.slice none 0 0) ∧ v.cell? ⟨gx, 3, none⟩ = some (.bool false) ∧ v.cell? ⟨gx, 4, none⟩ = some (.string a0) ∧ v.cell? ⟨gx, 5, none⟩ = some (.slice none 0 0) ∧ v.cell? ⟨gx, 6, none⟩ = some (.slice none 0 0) := by
  replace hn := (b.block gn (Array.getElem?_eq_some_iff.1 hn).1).trans hn
  replace hs := (b.block gs (Array.getElem?_eq_some_iff.1 hs).1).trans hs
  replace hq := (b.block gq (Array.getElem?_eq_some_iff.1 hq).1).trans hq
  replace ht := (b.block gt (Array.getElem?_eq_some_iff.1 ht).1).trans ht
  replace hu := (b.block gu (Array.getElem?_eq_some_iff.1 hu).1).trans hu
  replace hl := (b.block gl (Array.getElem?_eq_some_iff.1 hl).1).trans hl
  replace hx := (b.block gx (Array.getElem?_eq_some_iff.1 hx).1).trans hx
  simp only [World.cell?, hn, hs, hq, ht, hu, hl, hx]
  simp
theorem same_num (m : Nat) (hm : m < 18446744073709551616) {v : World} {A A' : Option Addr} {n n' c c' : Nat} (h1 : Sl v A n c (limbs m)) (h2 : Sl v A' n' c' (limbs m)) :
    Calls Tryz.prog 13 #[.agg #[.int .i64 1, .bool false, .slice A n c, .bool false, .string ⟨#[]⟩, .slice none 0 0, .slice none 0 0], .agg #[.int .i64 1, .bool false, .slice A' n' c', .bool false, .string ⟨#[]⟩, .slice none 0 0, .slice none 0 0]] v fun e w' => e = .returned (.bool true) ∧ Below v.heap.size v w' := by
  have l : (limbs m).length ≤ 2 := limbs_len_le (k := 2) (by omega)
  have h := rsame_plain (k := 1) (k' := 1) (g := false) (g' := false) (b := false) (b' := false) (s := ⟨#[]⟩) (s' := ⟨#[]⟩) h1 h2 (show 0 ≤ maxLen from Nat.zero_le _) (show 0 ≤ maxLen from Nat.zero_le _) (by rw [h1.len]; omega) (by rw [h2.len]; omega)
  rw [sameB_plain.2 ⟨rfl, rfl, rfl, rfl⟩] at h
  exact h
set_option maxHeartbeats 12800000 in
theorem primTexts_walk (a0 a1 : ByteArray) (s2 : Bool) (a2 : Option Addr) (len2 cap2 : Nat) (ys2 : List Nat) (w : World) (z0 : a0.size ≤ 140737488351232) (z1 : a1.size ≤ 140737488351232) (sl2 : Sl w a2 len2 cap2 ys2) :
    Calls Tryz.prog 8 #[.string a0, .string a1, .agg #[.bool s2, .slice a2 len2 cap2]] w fun e w' => e = .returned (.bool true) ∧ Below w.heap.size w w' := by
  obtain ⟨ab, hab⟩ : ∃ ab, a0 ++ a1 = ab := ⟨_, rfl⟩
  obtain ⟨rr, hrr⟩ : ∃ rr, (a0.toList == a1.toList) = rr := ⟨_, rfl⟩
  have hsab : ab.size = a0.size + a1.size := by rw [← hab, ByteArray.size_append]
  have HAB := Lib.hid (And.intro hab (And.intro hrr hsab))
  clear hab hrr hsab
  obtain ⟨tt, ht1, ht2⟩ := wtext2 (zOf s2 (val ys2)) 60 (by decide)
  have HT := Lib.hid (And.intro ht1 ht2)
  have h4 := three_xy w (.cells #[.bool s2, .slice a2 len2 cap2] 27) (.cells #[.int .i64 4, .bool false, .slice none 0 0, .bool false, .string a0, .slice none 0 0, .slice none 0 0] 29) (.cells #[.int .i64 4, .bool false, .slice none 0 0, .bool false, .string a1, .slice none 0 0, .slice none 0 0] 29)
  have h5 := three_xy w (.cells #[.bool s2, .slice a2 len2 cap2] 27) (.cells #[.int .i64 4, .bool false, .slice none 0 0, .bool false, .string a1, .slice none 0 0, .slice none 0 0] 29) (.cells #[.int .i64 4, .bool false, .slice none 0 0, .bool false, .string a0, .slice none 0 0, .slice none 0 0] 29)
  have H45 := Lib.hid (And.intro h4 h5)
  clear h4 h5 ht1 ht2
  have hml := sl2.max
  have hle := sl2.le
  unfold maxLen at hml
  have hwr : IntKind.i64.wrap ((a0.size : Int) + (a1.size : Int)) = (a0.size : Int) + (a1.size : Int) := IntWalk.i64_in _ (by omega)
  have hb0 : Below w.heap.size w (w.alloc (.cells #[.bool s2, .slice a2 len2 cap2] 27)) := (Below.refl _ _).alloc (Nat.le_refl _) _
  have hn0 := Var.mk_ w (.bool s2) (.slice a2 len2 cap2)
  have n0 := hn0.c0
  have n1 := hn0.c1
  have HB0 := Lib.hid (And.intro hb0 hn0)
  clear hb0 hn0
  by_cases hg1 : a0.size + a1.size > 1024
  · have e1 : decide ((1024 : Int) < (a0.size : Int) + (a1.size : Int)) = true := decide_eq_true (by omega)
    go_enter Tryz.func8, Tryz.ntmps8
    go_wp2_with fail
    refine (lives9_yes _).mono ?_
    rintro e w2 ⟨rfl, b2⟩
    have H2 := Lib.hid (HB0.out.1.trans (b2.mono HB0.out.1.size))
    clear b2 HB0
    go_wp2_with fail
    go_ret
    exact ⟨rfl, H2.out⟩
  have e1 : decide ((1024 : Int) < (a0.size : Int) + (a1.size : Int)) = false := decide_eq_false (by omega)
  have e2 : decide ((1024 : Int) < (a0.size : Int)) = false := decide_eq_false (by omega)
  by_cases hg2 : 60 < len2
  · have e3 : decide ((60 : Int) < (len2 : Int)) = true := decide_eq_true (by omega)
    go_enter Tryz.func8, Tryz.ntmps8
    go_wp2_with fail
    refine (lives9_yes _).mono ?_
    rintro e w2 ⟨rfl, b2⟩
    have H2 := Lib.hid (HB0.out.1.trans (b2.mono HB0.out.1.size))
    clear b2 HB0
    go_wp2_with fail
    go_ret
    exact ⟨rfl, H2.out⟩
  have e3 : decide ((60 : Int) < (len2 : Int)) = false := decide_eq_false (by omega)
  have hsz := Lib.hid (show a0.size + a1.size ≤ 1024 by omega)
  have hl60 := Lib.hid (show len2 ≤ 60 by omega)
  have hab9 := Lib.hid (show ab.size ≤ maxLen by rw [HAB.out.2.2]; unfold maxLen; omega)
  clear hg1 hg2
  go_enter Tryz.func8, Tryz.ntmps8
  go_upto_region 4 with (fail)
  clear e1 e2 e3 n0 n1
  obtain ⟨k0, k1, k2, k3⟩ := H45.out.1
  generalize ((w.alloc (.cells #[.bool s2, .slice a2 len2 cap2] 27)).alloc (.cells #[.int .i64 4, .bool false, .slice none 0 0, .bool false, .string a0, .slice none 0 0, .slice none 0 0] 29)).alloc (.cells #[.int .i64 4, .bool false, .slice none 0 0, .bool false, .string a1, .slice none 0 0, .slice none 0 0] 29) = W0 at *
  generalize w.heap.size + 1 + 1 = gy at *
  generalize w.heap.size + 1 = gx at *
  have HB_0 := Lib.hid k3
  have HN_0 := Lib.hid k0
  have HX_0 := Lib.hid k1
  have HY_0 := Lib.hid k2
  clear k0 k1 k2 k3 H45 HB0
  obtain ⟨⟨d0, d1, d2, d3, d4, d5, d6⟩, -⟩ := cells7 HX_0.out
  obtain ⟨⟨e0, e1, e2, e3, e4, e5, e6⟩, -⟩ := cells7 HY_0.out
  go_wp2_with fail
  clear d0 d1 d2 d3 d4 d5 d6 e0 e1 e2 e3 e4 e5 e6
  have hS := strapp_row (w := W0) (s := a0) (t := a1) hsz.out
  rw [HAB.out.1] at hS
  refine (hS).mono ?_
  clear hS
  rintro e w1 ⟨A1, n1, c1, rfl, t1, b1⟩
  have x1 := b1.alloc b1.size (.cells #[.int .i64 4, .bool false, .slice A1 n1 c1, .bool false, .string ab, .slice none 0 0, .slice none 0 0] 29)
  have HB_1 := Lib.hid (HB_0.out.trans (x1.mono HB_0.out.size))
  have HN_1 := Lib.hid ((x1.block w.heap.size (Array.getElem?_eq_some_iff.1 HN_0.out).1).trans HN_0.out)
  have HX_1 := Lib.hid ((x1.block gx (Array.getElem?_eq_some_iff.1 HX_0.out).1).trans HX_0.out)
  have HY_1 := Lib.hid ((x1.block gy (Array.getElem?_eq_some_iff.1 HY_0.out).1).trans HY_0.out)
  have HS_1 := Lib.hid (heap_alloc_new w1 (.cells #[.int .i64 4, .bool false, .slice A1 n1 c1, .bool false, .string ab, .slice none 0 0, .slice none 0 0] 29))
  clear t1 b1 x1 HB_0 HN_0 HX_0 HY_0
  go_upto_region 5 with (fail)
  generalize w1.alloc (.cells #[.int .i64 4, .bool false, .slice A1 n1 c1, .bool false, .string ab, .slice none 0 0, .slice none 0 0] 29) = W1 at *
  generalize w1.heap.size = gs at *
  obtain ⟨⟨d0, d1, d2, d3, d4, d5, d6⟩, -⟩ := cells7 HS_1.out
  go_wp2_with fail
  clear d0 d1 d2 d3 d4 d5 d6
  have hS := strlen_row (w := W1) (s := ab) (A := A1) (n := n1) (c := c1) hab9.out
  refine (hS).mono ?_
  clear hS
  rintro e w2 ⟨A2, n2, c2, rfl, t2, b2⟩
  have x2 := b2.alloc b2.size (.cells #[.int .i64 1, .bool false, .slice A2 n2 c2, .bool false, .string ⟨#[]⟩, .slice none 0 0, .slice none 0 0] 29)
  have HB_2 := Lib.hid (HB_1.out.trans (x2.mono HB_1.out.size))
  have HN_2 := Lib.hid ((x2.block w.heap.size (Array.getElem?_eq_some_iff.1 HN_1.out).1).trans HN_1.out)
  have HX_2 := Lib.hid ((x2.block gx (Array.getElem?_eq_some_iff.1 HX_1.out).1).trans HX_1.out)
  have HY_2 := Lib.hid ((x2.block gy (Array.getElem?_eq_some_iff.1 HY_1.out).1).trans HY_1.out)
  have HS_2 := Lib.hid ((x2.block gs (Array.getElem?_eq_some_iff.1 HS_1.out).1).trans HS_1.out)
  have HL_2 := Lib.hid (heap_alloc_new w2 (.cells #[.int .i64 1, .bool false, .slice A2 n2 c2, .bool false, .string ⟨#[]⟩, .slice none 0 0, .slice none 0 0] 29))
  have HSl_2 := Lib.hid (t2.alloc (.cells #[.int .i64 1, .bool false, .slice A2 n2 c2, .bool false, .string ⟨#[]⟩, .slice none 0 0, .slice none 0 0] 29))
  clear t2 b2 x2 HB_1 HN_1 HX_1 HY_1 HS_1
  go_upto_region 6 with (fail)
  generalize w2.alloc (.cells #[.int .i64 1, .bool false, .slice A2 n2 c2, .bool false, .string ⟨#[]⟩, .slice none 0 0, .slice none 0 0] 29) = W2 at *
  generalize w2.heap.size = gl at *
  obtain ⟨⟨d0, d1, d2, d3, d4, d5, d6⟩, -⟩ := cells7 HX_2.out
  obtain ⟨⟨e0, e1, e2, e3, e4, e5, e6⟩, -⟩ := cells7 HY_2.out
  go_wp2_with fail
  clear d0 d1 d2 d3 d4 d5 d6 e0 e1 e2 e3 e4 e5 e6
  have hS := streq_row (w := W2) (s := a0) (t := a1) HAB.out.2.1
  refine (hS).mono ?_
  clear hS
  rintro e w3 ⟨A3, n3, c3, rfl, t3, b3⟩
  have x3 := b3.alloc b3.size (.cells #[.int .i64 2, .bool false, .slice A3 n3 c3, .bool rr, .string ⟨#[]⟩, .slice none 0 0, .slice none 0 0] 29)
  have HB_3 := Lib.hid (HB_2.out.trans (x3.mono HB_2.out.size))
  have HN_3 := Lib.hid ((x3.block w.heap.size (Array.getElem?_eq_some_iff.1 HN_2.out).1).trans HN_2.out)
  have HX_3 := Lib.hid ((x3.block gx (Array.getElem?_eq_some_iff.1 HX_2.out).1).trans HX_2.out)
  have HY_3 := Lib.hid ((x3.block gy (Array.getElem?_eq_some_iff.1 HY_2.out).1).trans HY_2.out)
  have HS_3 := Lib.hid ((x3.block gs (Array.getElem?_eq_some_iff.1 HS_2.out).1).trans HS_2.out)
  have HL_3 := Lib.hid ((x3.block gl (Array.getElem?_eq_some_iff.1 HL_2.out).1).trans HL_2.out)
  have HQ_3 := Lib.hid (heap_alloc_new w3 (.cells #[.int .i64 2, .bool false, .slice A3 n3 c3, .bool rr, .string ⟨#[]⟩, .slice none 0 0, .slice none 0 0] 29))
  have HSl_3 := Lib.hid (HSl_2.out.below x3)
  clear t3 b3 x3 HB_2 HN_2 HX_2 HY_2 HS_2 HL_2
  go_upto_region 7 with (fail)
  generalize w3.alloc (.cells #[.int .i64 2, .bool false, .slice A3 n3 c3, .bool rr, .string ⟨#[]⟩, .slice none 0 0, .slice none 0 0] 29) = W3 at *
  generalize w3.heap.size = gq at *
  have d0 := Var.c0 HN_3.out
  have d1 := Var.c1 HN_3.out
  go_wp2_with fail
  clear d0 d1
  have hS := numstr_row (w := W3) (g := s2) HT.out.1 (sl2.below HB_3.out) hl60.out
  refine (hS).mono ?_
  clear hS
  rintro e w4 ⟨A4, n4, c4, rfl, t4, b4⟩
  have x4 := b4.alloc b4.size (.cells #[.int .i64 4, .bool false, .slice A4 n4 c4, .bool false, .string tt, .slice none 0 0, .slice none 0 0] 29)
  have HB_4 := Lib.hid (HB_3.out.trans (x4.mono HB_3.out.size))
  have HN_4 := Lib.hid ((x4.block w.heap.size (Array.getElem?_eq_some_iff.1 HN_3.out).1).trans HN_3.out)
  have HX_4 := Lib.hid ((x4.block gx (Array.getElem?_eq_some_iff.1 HX_3.out).1).trans HX_3.out)
  have HY_4 := Lib.hid ((x4.block gy (Array.getElem?_eq_some_iff.1 HY_3.out).1).trans HY_3.out)
  have HS_4 := Lib.hid ((x4.block gs (Array.getElem?_eq_some_iff.1 HS_3.out).1).trans HS_3.out)
  have HL_4 := Lib.hid ((x4.block gl (Array.getElem?_eq_some_iff.1 HL_3.out).1).trans HL_3.out)
  have HQ_4 := Lib.hid ((x4.block gq (Array.getElem?_eq_some_iff.1 HQ_3.out).1).trans HQ_3.out)
  have HT_4 := Lib.hid (heap_alloc_new w4 (.cells #[.int .i64 4, .bool false, .slice A4 n4 c4, .bool false, .string tt, .slice none 0 0, .slice none 0 0] 29))
  have HSl_4 := Lib.hid (HSl_3.out.below x4)
  clear t4 b4 x4 HB_3 HN_3 HX_3 HY_3 HS_3 HL_3 HQ_3
  go_upto_region 8 with (fail)
  generalize w4.alloc (.cells #[.int .i64 4, .bool false, .slice A4 n4 c4, .bool false, .string tt, .slice none 0 0, .slice none 0 0] 29) = W4 at *
  generalize w4.heap.size = gt at *
  go_wp2_with fail
  have hS := symstr_row (w := W4) (s := a0)
  refine (hS).mono ?_
  clear hS
  rintro e w5 ⟨A5, n5, c5, rfl, t5, b5⟩
  have x5 := b5.alloc b5.size (.cells #[.int .i64 4, .bool false, .slice A5 n5 c5, .bool false, .string a0, .slice none 0 0, .slice none 0 0] 29)
  have HB_5 := Lib.hid (HB_4.out.trans (x5.mono HB_4.out.size))
  have HN_5 := Lib.hid ((x5.block w.heap.size (Array.getElem?_eq_some_iff.1 HN_4.out).1).trans HN_4.out)
  have HX_5 := Lib.hid ((x5.block gx (Array.getElem?_eq_some_iff.1 HX_4.out).1).trans HX_4.out)
  have HY_5 := Lib.hid ((x5.block gy (Array.getElem?_eq_some_iff.1 HY_4.out).1).trans HY_4.out)
  have HS_5 := Lib.hid ((x5.block gs (Array.getElem?_eq_some_iff.1 HS_4.out).1).trans HS_4.out)
  have HL_5 := Lib.hid ((x5.block gl (Array.getElem?_eq_some_iff.1 HL_4.out).1).trans HL_4.out)
  have HQ_5 := Lib.hid ((x5.block gq (Array.getElem?_eq_some_iff.1 HQ_4.out).1).trans HQ_4.out)
  have HT_5 := Lib.hid ((x5.block gt (Array.getElem?_eq_some_iff.1 HT_4.out).1).trans HT_4.out)
  have HU_5 := Lib.hid (heap_alloc_new w5 (.cells #[.int .i64 4, .bool false, .slice A5 n5 c5, .bool false, .string a0, .slice none 0 0, .slice none 0 0] 29))
  have HSl_5 := Lib.hid (HSl_4.out.below x5)
  clear t5 b5 x5 HB_4 HN_4 HX_4 HY_4 HS_4 HL_4 HQ_4 HT_4
  go_upto_region 9 with (fail)
  generalize w5.alloc (.cells #[.int .i64 4, .bool false, .slice A5 n5 c5, .bool false, .string a0, .slice none 0 0, .slice none 0 0] 29) = W5 at *
  generalize w5.heap.size = gu at *
  have HK := Lib.hid (fun (v : World) (b : Below W5.heap.size W5 v) => texts_cells b HN_5.out HS_5.out HQ_5.out HT_5.out HU_5.out HL_5.out HX_5.out)
  have hab2 := Lib.hid (show ab.size < 18446744073709551616 by have := hab9.out; unfold maxLen at this; omega)
  have hNum := Lib.hid (fun v => num_at ((a0.size : Int) + (a1.size : Int)) false ab.size (by simp; omega) (by have := HAB.out.2.2; omega) (by have := hsz.out; omega) (by have := hsz.out; omega) v)
  have ho : ¬ (9223372036854775807 < a0.size + a1.size) := by have := hsz.out; omega
  have hab := HAB.out.1
  have hrr := HAB.out.2.1
  clear HN_5 HX_5 HY_5 HS_5 HL_5 HQ_5 HT_5 HU_5 HSl_2 HSl_3 HSl_4
  go_wp2_with fail
  have hS0 := HK.out W5.drew (Below.refl _ _).drew
  dsimp only [List.append]
  go_region_held3 (fun v => v.cell? ⟨gs, 4, none⟩ = some (.string ab) ∧ v.cell? ⟨gq, 3, none⟩ = some (.bool rr) ∧ v.cell? ⟨gt, 4, none⟩ = some (.string tt) ∧ v.cell? ⟨gu, 4, none⟩ = some (.string a0) ∧ v.cell? ⟨w.heap.size, 0, none⟩ = some (.bool s2) ∧ v.cell? ⟨w.heap.size, 1, none⟩ = some (.slice a2 len2 cap2) ∧ v.cell? ⟨gl, 0, none⟩ = some (.int .i64 1) ∧ v.cell? ⟨gl, 1, none⟩ = some (.bool false) ∧ v.cell? ⟨gl, 2, none⟩ = some (.slice A2 n2 c2) ∧ v.cell? ⟨gl, 3, none⟩ = some (.bool false) ∧ v.cell? ⟨gl, 4, none⟩ = some (.string ⟨#[]⟩) ∧ v.cell? ⟨gl, 5, none⟩ = some (.slice none 0 0) ∧ v.cell? ⟨gl, 6, none⟩ = some (.slice none 0 0) ∧ v.cell? ⟨gx, 0, none⟩ = some (.int .i64 4) ∧ v.cell? ⟨gx, 1, none⟩ = some (.bool false) ∧ v.cell? ⟨gx, 2, none⟩ = some (.slice none 0 0) ∧ v.cell? ⟨gx, 3, none⟩ = some (.bool false) ∧ v.cell? ⟨gx, 4, none⟩ = some (.string a0) ∧ v.cell? ⟨gx, 5, none⟩ = some (.slice none 0 0) ∧ v.cell? ⟨gx, 6, none⟩ = some (.slice none 0 0))
    (first | with_reducible exact hS0 | with_reducible exact hS1 | with_reducible exact hS2 | with_reducible exact hS3 | with_reducible exact hS4 | with_reducible exact hS5 | go_keep)
    (first
    | (go_at_call 26; refine (hNum.out _).mono ?_; rintro e w6 ⟨A6, n6, c6, rfl, t6, b6⟩; have b6' : Below W5.heap.size W5 w6 := ⟨b6.os, b6.tape, b6.output, b6.size, b6.block⟩; have hS1 := HK.out w6 b6')
    | (go_at_call 13; refine (same_num ab.size hab2.out (by first | exact HSl_5.out.below b6' | exact (HSl_5.out.below b6').below (Below.refl _ _).drew) (by first | exact t6 | exact t6.below (Below.refl _ _).drew)).mono ?_; rintro e w7 ⟨rfl, b7⟩; have b7' : Below W5.heap.size W5 w7 := (by first | exact b6'.drew.trans (b7.mono b6'.size) | exact b6'.trans (b7.mono b6'.size)); have hS2 := HK.out w7 b7')
    | (go_at_call 27; refine (HT.out.2 _ _ ⟨s2, _, val ys2, rfl, ⟨a2, len2, cap2, ys2, rfl, (by first | exact (sl2.below HB_5.out).below b7' | exact ((sl2.below HB_5.out).below b7').below (Below.refl _ _).drew), rfl, hl60.out⟩, rfl⟩).mono ?_; rintro e w8 ⟨rfl, b8⟩; have b8' : Below W5.heap.size W5 w8 := (by first | exact b7'.drew.trans (b8.mono b7'.size) | exact b7'.trans (b8.mono b7'.size)); have hS3 := HK.out w8 b8')
    | (go_at_call 22; refine (eq_str (by unfold maxLen; have := hsz.out; omega) (by unfold maxLen; have := hsz.out; omega)).mono ?_; rintro e w9 ⟨rfl, b9⟩; have b9' : Below W5.heap.size W5 w9 := (by first | exact b8'.drew.trans (b9.mono b8'.size) | exact b8'.trans (b9.mono b8'.size)); have hS4 := HK.out w9 b9')
    | (go_at_call 10; refine (lives9_yes _).mono ?_; rintro e w10 ⟨rfl, b10⟩; have b10' : Below W5.heap.size W5 w10 := (by first | exact b9'.drew.trans (b10.mono b9'.size) | exact b9'.trans (b10.mono b9'.size)); have hS5 := HK.out w10 b10'))
  trace_state
  go_wp2_with fail
  go_ret
  exact ⟨rfl, HB_5.out.trans (b10'.mono HB_5.out.size)⟩
end Go.Proofs.YtekdfdobnpegdaaGreatDoor
