/-
  PrimOrder: its walk.
-/
import Derived.Test.YtekdfdobnpegdaaGreatDoorPl1
import Derived.RegionTactic
import Derived.BigRegion
import Derived.Deep.CutRange
import Derived.LoopTactic
import Derived.Deep.RegionHeld3
set_option linter.unusedVariables false
set_option linter.unusedSimpArgs false
set_option linter.unusedSectionVars false
set_option linter.unnecessarySimpa false
namespace Go.Proofs.YtekdfdobnpegdaaGreatDoor
open Go.RowKit
set_option maxRecDepth 100000

set_option maxHeartbeats 12800000 in
theorem primOrder_walk (s0 : Bool) (a0 : Option Addr) (len0 cap0 : Nat) (ys0 : List Nat) (s1 : Bool) (a1 : Option Addr) (len1 cap1 : Nat) (ys1 : List Nat) (w : World) (sl0 : Sl w a0 len0 cap0 ys0) (sl1 : Sl w a1 len1 cap1 ys1) :
    Calls Tryz.prog 7 #[.agg #[.bool s0, .slice a0 len0 cap0], .agg #[.bool s1, .slice a1 len1 cap1]] w fun e w' => e = .returned (.bool true) ∧ Below w.heap.size w w' := by
  obtain ⟨r1, r2, r3, hr1, hr2, hr3, hcase⟩ := order_cases (zOf s0 (val ys0)) (zOf s1 (val ys1))
  have HC := Lib.hid (And.intro hcase (And.intro hr1 (And.intro hr2 hr3)))
  have h4 := four_xy w (.cells #[.bool s0, .slice a0 len0 cap0] 27) (.cells #[.bool s1, .slice a1 len1 cap1] 27) (.cells #[.int .i64 1, .bool s0, .slice a0 len0 cap0, .bool false, .string ⟨#[]⟩, .slice none 0 0, .slice none 0 0] 29) (.cells #[.int .i64 1, .bool s1, .slice a1 len1 cap1, .bool false, .string ⟨#[]⟩, .slice none 0 0, .slice none 0 0] 29)
  have h5 := four_xy w (.cells #[.bool s0, .slice a0 len0 cap0] 27) (.cells #[.bool s1, .slice a1 len1 cap1] 27) (.cells #[.int .i64 1, .bool s1, .slice a1 len1 cap1, .bool false, .string ⟨#[]⟩, .slice none 0 0, .slice none 0 0] 29) (.cells #[.int .i64 1, .bool s0, .slice a0 len0 cap0, .bool false, .string ⟨#[]⟩, .slice none 0 0, .slice none 0 0] 29)
  have H45 := Lib.hid (And.intro h4 h5)
  clear hcase hr1 hr2 hr3 h4 h5
  go_enter Tryz.func7, Tryz.ntmps7
  go_wp2_with fail
  go_cut [5, 6] from 16 to 19 (fun x y wc => ∃ gx gy : Nat, x = .pointer (some ⟨gx, 0, none⟩) ∧ y = .pointer (some ⟨gy, 0, none⟩) ∧ Hid (wc.heap[gx]? = some (.cells #[.int .i64 1, .bool s0, .slice a0 len0 cap0, .bool false, .string ⟨#[]⟩, .slice none 0 0, .slice none 0 0] 29) ∧ wc.heap[gy]? = some (.cells #[.int .i64 1, .bool s1, .slice a1 len1 cap1, .bool false, .string ⟨#[]⟩, .slice none 0 0, .slice none 0 0] 29) ∧ Below w.heap.size w wc))
  case first =>
    go_region
    · go_wp2_with fail
      go_meet
      case rel => exact ⟨_, _, rfl, rfl, Lib.hid ⟨H45.out.1.1, H45.out.1.2.1, H45.out.1.2.2⟩⟩
    · go_wp2_with fail
      go_meet
      case rel => exact ⟨_, _, rfl, rfl, Lib.hid ⟨H45.out.2.2.1, H45.out.2.1, H45.out.2.2.2⟩⟩
  case rest =>
  obtain ⟨gx, gy, rfl, rfl, HV⟩ := hcut
  clear H45
  obtain ⟨⟨d0, d1, d2, d3, d4, d5, d6⟩, -⟩ := cells7 HV.out.1
  obtain ⟨⟨e0, e1, e2, e3, e4, e5, e6⟩, -⟩ := cells7 HV.out.2.1
  go_wp2_with fail
  clear d0 d1 d2 d3 d4 d5 d6 e0 e1 e2 e3 e4 e5 e6
  have HL := light_num (g := s0) (g' := s1) (sl0.below HV.out.2.2) (sl1.below HV.out.2.2)
  by_cases hl : ¬ (len0 ≤ 66 ∧ len1 ≤ 66)
  · rw [decide_eq_false hl] at HL
    refine HL.mono ?_
    rintro e w1 ⟨rfl, b1⟩
    have H1 := Lib.hid (HV.out.2.2.trans (b1.mono HV.out.2.2.size))
    clear HL b1 HV hl
    go_wp2_with fail
    refine (lives9_yes w1).mono ?_
    rintro e w2 ⟨rfl, b2⟩
    have H2 := Lib.hid (H1.out.trans (b2.mono H1.out.size))
    clear b2 H1
    go_wp2_with fail
    go_ret
    exact ⟨rfl, H2.out⟩
  replace hl := Decidable.not_not.1 hl
  rw [decide_eq_true hl] at HL
  refine HL.mono ?_
  rintro e w1 ⟨rfl, b1⟩
  have H1 := Lib.hid (And.intro ((b1.block gx (Array.getElem?_eq_some_iff.1 HV.out.1).1).trans HV.out.1) (And.intro ((b1.block gy (Array.getElem?_eq_some_iff.1 HV.out.2.1).1).trans HV.out.2.1) (HV.out.2.2.trans (b1.mono HV.out.2.2.size))))
  clear HL b1 HV
  go_upto_region 4 with (fail)
  obtain ⟨⟨d0, d1, d2, d3, d4, d5, d6⟩, -⟩ := cells7 H1.out.1
  obtain ⟨⟨e0, e1, e2, e3, e4, e5, e6⟩, -⟩ := cells7 H1.out.2.1
  go_wp2_with fail
  clear d0 d1 d2 d3 d4 d5 d6 e0 e1 e2 e3 e4 e5 e6
  have HD := less_row (s0 := s0) (s1 := s1) (sl0.below H1.out.2.2) (sl1.below H1.out.2.2) (by omega) (by omega)
  rw [HC.out.2.1] at HD
  refine HD.mono ?_
  rintro e w2 ⟨A2, n2, c2, rfl, t2, b2⟩
  have x2 := b2.alloc b2.size (.cells #[.int .i64 2, .bool false, .slice A2 n2 c2, .bool r1, .string ⟨#[]⟩, .slice none 0 0, .slice none 0 0] 29)
  have H2 := Lib.hid (And.intro ((x2.block gx (Array.getElem?_eq_some_iff.1 H1.out.1).1).trans H1.out.1) (And.intro ((x2.block gy (Array.getElem?_eq_some_iff.1 H1.out.2.1).1).trans H1.out.2.1) (And.intro (H1.out.2.2.trans (x2.mono H1.out.2.2.size)) (heap_alloc_new w2 (.cells #[.int .i64 2, .bool false, .slice A2 n2 c2, .bool r1, .string ⟨#[]⟩, .slice none 0 0, .slice none 0 0] 29)))))
  clear HD t2 b2 x2 H1
  go_upto_region 5 with (fail)
  generalize w2.alloc (.cells #[.int .i64 2, .bool false, .slice A2 n2 c2, .bool r1, .string ⟨#[]⟩, .slice none 0 0, .slice none 0 0] 29) = W2 at *
  generalize w2.heap.size = gp at *
  obtain ⟨⟨d0, d1, d2, d3, d4, d5, d6⟩, -⟩ := cells7 H2.out.1
  obtain ⟨⟨e0, e1, e2, e3, e4, e5, e6⟩, -⟩ := cells7 H2.out.2.1
  go_wp2_with fail
  clear d0 d1 d2 d3 d4 d5 d6 e0 e1 e2 e3 e4 e5 e6
  have HD := eq_row (s0 := s0) (s1 := s1) (sl0.below H2.out.2.2.1) (sl1.below H2.out.2.2.1) (by omega) (by omega)
  rw [HC.out.2.2.1] at HD
  refine HD.mono ?_
  rintro e w3 ⟨A3, n3, c3, rfl, t3, b3⟩
  have x3 := b3.alloc b3.size (.cells #[.int .i64 2, .bool false, .slice A3 n3 c3, .bool r2, .string ⟨#[]⟩, .slice none 0 0, .slice none 0 0] 29)
  have H3 := Lib.hid (And.intro ((x3.block gx (Array.getElem?_eq_some_iff.1 H2.out.1).1).trans H2.out.1) (And.intro ((x3.block gy (Array.getElem?_eq_some_iff.1 H2.out.2.1).1).trans H2.out.2.1) (And.intro (H2.out.2.2.1.trans (x3.mono H2.out.2.2.1.size)) (And.intro ((x3.block gp (Array.getElem?_eq_some_iff.1 H2.out.2.2.2).1).trans H2.out.2.2.2) (heap_alloc_new w3 (.cells #[.int .i64 2, .bool false, .slice A3 n3 c3, .bool r2, .string ⟨#[]⟩, .slice none 0 0, .slice none 0 0] 29))))))
  clear HD t3 b3 x3 H2
  go_upto_region 6 with (fail)
  generalize w3.alloc (.cells #[.int .i64 2, .bool false, .slice A3 n3 c3, .bool r2, .string ⟨#[]⟩, .slice none 0 0, .slice none 0 0] 29) = W3 at *
  generalize w3.heap.size = gq at *
  obtain ⟨⟨d0, d1, d2, d3, d4, d5, d6⟩, -⟩ := cells7 H3.out.1
  obtain ⟨⟨e0, e1, e2, e3, e4, e5, e6⟩, -⟩ := cells7 H3.out.2.1
  go_wp2_with fail
  clear d0 d1 d2 d3 d4 d5 d6 e0 e1 e2 e3 e4 e5 e6
  have HD := less_row (s0 := s1) (s1 := s0) (sl1.below H3.out.2.2.1) (sl0.below H3.out.2.2.1) (by omega) (by omega)
  rw [HC.out.2.2.2] at HD
  refine HD.mono ?_
  rintro e w4 ⟨A4, n4, c4, rfl, t4, b4⟩
  have x4 := b4.alloc b4.size (.cells #[.int .i64 2, .bool false, .slice A4 n4 c4, .bool r3, .string ⟨#[]⟩, .slice none 0 0, .slice none 0 0] 29)
  have H4 := Lib.hid (And.intro ((x4.block gx (Array.getElem?_eq_some_iff.1 H3.out.1).1).trans H3.out.1) (And.intro ((x4.block gy (Array.getElem?_eq_some_iff.1 H3.out.2.1).1).trans H3.out.2.1) (And.intro (H3.out.2.2.1.trans (x4.mono H3.out.2.2.1.size)) (And.intro ((x4.block gp (Array.getElem?_eq_some_iff.1 H3.out.2.2.2.1).1).trans H3.out.2.2.2.1) (And.intro ((x4.block gq (Array.getElem?_eq_some_iff.1 H3.out.2.2.2.2).1).trans H3.out.2.2.2.2) (heap_alloc_new w4 (.cells #[.int .i64 2, .bool false, .slice A4 n4 c4, .bool r3, .string ⟨#[]⟩, .slice none 0 0, .slice none 0 0] 29)))))))
  clear HD t4 b4 x4 H3
  go_upto_region 7 with (fail)
  generalize w4.alloc (.cells #[.int .i64 2, .bool false, .slice A4 n4 c4, .bool r3, .string ⟨#[]⟩, .slice none 0 0, .slice none 0 0] 29) = W4 at *
  generalize w4.heap.size = gr at *
  obtain ⟨⟨d0, d1, d2, d3, d4, d5, d6⟩, -⟩ := cells7 H4.out.2.2.2.1
  obtain ⟨⟨e0, e1, e2, e3, e4, e5, e6⟩, -⟩ := cells7 H4.out.2.2.2.2.1
  obtain ⟨⟨f0, f1, f2, f3, f4, f5, f6⟩, -⟩ := cells7 H4.out.2.2.2.2.2
  go_wp2_with fail
  clear d0 d1 d2 d3 d4 d5 d6 e0 e1 e2 e3 e4 e5 e6 f0 f1 f2 f3 f4 f5 f6
  have R5 := row3_new (plainT 2 false A2 n2 c2 [] r1 ⟨#[]⟩) (plainT 2 false A3 n3 c3 [] r2 ⟨#[]⟩) (plainT 2 false A4 n4 c4 [] r3 ⟨#[]⟩) W4
  have b5 : Below W4.heap.size W4 (W4.alloc (.cells #[.int .i64 2, .bool false, .slice A2 n2 c2, .bool r1, .string ⟨#[]⟩, .slice none 0 0, .slice none 0 0, .int .i64 2, .bool false, .slice A3 n3 c3, .bool r2, .string ⟨#[]⟩, .slice none 0 0, .slice none 0 0, .int .i64 2, .bool false, .slice A4 n4 c4, .bool r3, .string ⟨#[]⟩, .slice none 0 0, .slice none 0 0] 29)) := (Below.refl _ _).alloc (Nat.le_refl _) _
  replace R5 : RowAt (W4.alloc (.cells #[.int .i64 2, .bool false, .slice A2 n2 c2, .bool r1, .string ⟨#[]⟩, .slice none 0 0, .slice none 0 0, .int .i64 2, .bool false, .slice A3 n3 c3, .bool r2, .string ⟨#[]⟩, .slice none 0 0, .slice none 0 0, .int .i64 2, .bool false, .slice A4 n4 c4, .bool r3, .string ⟨#[]⟩, .slice none 0 0, .slice none 0 0] 29)) W4.heap.size 0 [plainT 2 false A2 n2 c2 [] r1 ⟨#[]⟩, plainT 2 false A3 n3 c3 [] r2 ⟨#[]⟩, plainT 2 false A4 n4 c4 [] r3 ⟨#[]⟩] := R5
  have H5 := Lib.hid (And.intro ((b5.block gx (Array.getElem?_eq_some_iff.1 H4.out.1).1).trans H4.out.1) (And.intro ((b5.block gy (Array.getElem?_eq_some_iff.1 H4.out.2.1).1).trans H4.out.2.1) (And.intro (H4.out.2.2.1.trans (b5.mono H4.out.2.2.1.size)) ((b5.block gq (Array.getElem?_eq_some_iff.1 H4.out.2.2.2.2.1).1).trans H4.out.2.2.2.2.1))))
  clear b5 H4
  generalize W4.alloc (.cells #[.int .i64 2, .bool false, .slice A2 n2 c2, .bool r1, .string ⟨#[]⟩, .slice none 0 0, .slice none 0 0, .int .i64 2, .bool false, .slice A3 n3 c3, .bool r2, .string ⟨#[]⟩, .slice none 0 0, .slice none 0 0, .int .i64 2, .bool false, .slice A4 n4 c4, .bool r3, .string ⟨#[]⟩, .slice none 0 0, .slice none 0 0] 29) = W5 at *
  generalize W4.heap.size = gs at *
  obtain ⟨ts, hts⟩ : ∃ ts, ts = [plainT 2 false A2 n2 c2 [] r1 ⟨#[]⟩, plainT 2 false A3 n3 c3 [] r2 ⟨#[]⟩, plainT 2 false A4 n4 c4 [] r3 ⟨#[]⟩] := ⟨_, rfl⟩
  rw [← hts] at R5
  have HR := Lib.hid (And.intro R5 (And.intro (show ts.length = 3 by rw [hts]; rfl) (And.intro (show ∀ t ∈ ts, t.k = 2 by rw [hts]; simp [plainT, LT.k]) hts)))
  clear R5 hts
  go_loopw [13, 52] (fun m i wr => ∃ k : Nat, k ≤ 3 ∧ i = .int .i64 k ∧ m = .int .i64 (cntB ts k) ∧ Below W5.heap.size W5 wr) (fun _ i _ => 3 - (intOf i).toNat)
  case atStart => exact ⟨0, by omega, rfl, rfl, Below.refl _ _⟩
  case round =>
    obtain ⟨k, hk, rfl, rfl, hb⟩ := hrel
    by_cases hlt : k < 3
    · have hkt : k < ts.length := by rw [HR.out.2.1]; exact hlt
      have h7 := (HR.out.1.below hb).2 k hkt
      have hx2 := HR.out.2.2.1 ts[k] (List.getElem_mem hkt)
      have hst := cntB_step ts k hkt
      have hle := cntB_le ts k
      obtain ⟨x, hx⟩ : ∃ x, ts[k] = x := ⟨_, rfl⟩
      rw [hx] at h7 hx2 hst
      obtain ⟨d0, d1, d2, d3, d4, d5, d6⟩ := h7.cells
      have HT := true_any x
      rw [hx2] at d0 HT
      rw [Nat.zero_add] at d0 d1 d2 d3 d4 d5 d6
      have HTT := Lib.hid (And.intro HT (And.intro hst hb))
      clear h7 hx hb hst HT
      go_wp2_with fail
      clear d0 d1 d2 d3 d4 d5 d6
      refine (HTT.out.1 _).mono ?_
      rintro e w6 ⟨rfl, b6⟩
      have h6 := Lib.hid (HTT.out.2.2.trans ((((Below.refl _ wr).alloc (Nat.le_refl _) _).trans (b6.mono (by rw [World.size_alloc]; omega))).mono HTT.out.2.2.size))
      have hs := HTT.out.2.1
      clear b6 HTT
      generalize x.bb = r at *
      cases r
      · have hs2 := Lib.hid hs
        clear hs
        go_wp2_with fail
        go_roundw
        case rel => exact ⟨k + 1, by omega, by go_num, by rw [hs2.out]; rfl, h6.out⟩
        case measure => simp [intOf]; omega
      · have hs2 := Lib.hid hs
        clear hs
        go_wp2_with fail
        go_roundw
        case rel => exact ⟨k + 1, by omega, by go_num, by rw [hs2.out]; go_num, h6.out⟩
        case measure => simp [intOf]; omega
    · obtain rfl : k = 3 := by omega
      have hcnt : cntB ts 3 = 1 := by
        rw [HR.out.2.2.2]
        rcases HC.out.1 with ⟨h1, h2, h3, _⟩ | ⟨h1, h2, h3, _⟩ | ⟨h1, h2, h3, _⟩ <;> rw [h1, h2, h3] <;> rfl
      rw [hcnt]
      have hr2 : r2 = true ↔ zOf s0 (val ys0) = zOf s1 (val ys1) := by
        rcases HC.out.1 with ⟨_, h2, _, h4⟩ | ⟨_, h2, _, h4⟩ | ⟨_, h2, _, h4⟩ <;> rw [h2] <;> simp [h4]
      have HQ := Lib.hid (And.intro hr2 (And.intro ((hb.block gx (Array.getElem?_eq_some_iff.1 H5.out.1).1).trans H5.out.1) (And.intro ((hb.block gy (Array.getElem?_eq_some_iff.1 H5.out.2.1).1).trans H5.out.2.1) (And.intro ((hb.block gq (Array.getElem?_eq_some_iff.1 H5.out.2.2.2).1).trans H5.out.2.2.2) (H5.out.2.2.1.trans (hb.mono H5.out.2.2.1.size))))))
      clear hcnt hr2 hb HR hlt hk H5
      go_wp2_with fail
      obtain ⟨hx0, -⟩ := cells7 (show wr.drew.heap[gx]? = _ from HQ.out.2.1)
      obtain ⟨hy0, -⟩ := cells7 (show wr.drew.heap[gy]? = _ from HQ.out.2.2.1)
      obtain ⟨hq0, -⟩ := cells7 (show wr.drew.heap[gq]? = _ from HQ.out.2.2.2.1)
      have hS0 := And.intro hq0.2.2.2.1 (And.intro hx0 hy0)
      simp only [and_assoc] at hS0
      clear hx0 hy0 hq0
      go_region_held3 (fun w' => w'.cell? ⟨gq, 3, none⟩ = some (.bool r2) ∧ w'.cell? ⟨gx, 0, none⟩ = some (.int .i64 1) ∧ w'.cell? ⟨gx, 1, none⟩ = some (.bool s0) ∧ w'.cell? ⟨gx, 2, none⟩ = some (.slice a0 len0 cap0) ∧ w'.cell? ⟨gx, 3, none⟩ = some (.bool false) ∧ w'.cell? ⟨gx, 4, none⟩ = some (.string ⟨#[]⟩) ∧ w'.cell? ⟨gx, 5, none⟩ = some (.slice none 0 0) ∧ w'.cell? ⟨gx, 6, none⟩ = some (.slice none 0 0) ∧ w'.cell? ⟨gy, 0, none⟩ = some (.int .i64 1) ∧ w'.cell? ⟨gy, 1, none⟩ = some (.bool s1) ∧ w'.cell? ⟨gy, 2, none⟩ = some (.slice a1 len1 cap1) ∧ w'.cell? ⟨gy, 3, none⟩ = some (.bool false) ∧ w'.cell? ⟨gy, 4, none⟩ = some (.string ⟨#[]⟩) ∧ w'.cell? ⟨gy, 5, none⟩ = some (.slice none 0 0) ∧ w'.cell? ⟨gy, 6, none⟩ = some (.slice none 0 0))
        (first | with_reducible exact hS0 | with_reducible exact hS1 | with_reducible exact hS2 | go_keep)
        (first
        | (go_at_call 22; refine (eq_nums ((sl0.below HQ.out.2.2.2.2).below (Below.refl _ _).drew) ((sl1.below HQ.out.2.2.2.2).below (Below.refl _ _).drew) (by omega) (by omega) HQ.out.1).mono ?_; rintro e w7 ⟨rfl, b7⟩; have b7' : Below wr.heap.size wr w7 := ⟨b7.os, b7.tape, b7.output, b7.size, b7.block⟩;
           obtain ⟨hx1, -⟩ := cells7 ((b7'.block gx (Array.getElem?_eq_some_iff.1 HQ.out.2.1).1).trans HQ.out.2.1); obtain ⟨hy1, -⟩ := cells7 ((b7'.block gy (Array.getElem?_eq_some_iff.1 HQ.out.2.2.1).1).trans HQ.out.2.2.1); obtain ⟨hq1, -⟩ := cells7 ((b7'.block gq (Array.getElem?_eq_some_iff.1 HQ.out.2.2.2.1).1).trans HQ.out.2.2.2.1);
           have hS1 := And.intro hq1.2.2.2.1 (And.intro hx1 hy1); simp only [and_assoc] at hS1; clear hx1 hy1 hq1)
        | (go_at_call 10; refine (lives9_yes _).mono ?_; rintro e w8 ⟨rfl, b8⟩; have b8' := b7'.trans (b8.mono b7'.size);
           obtain ⟨hx1, -⟩ := cells7 ((b8'.block gx (Array.getElem?_eq_some_iff.1 HQ.out.2.1).1).trans HQ.out.2.1); obtain ⟨hy1, -⟩ := cells7 ((b8'.block gy (Array.getElem?_eq_some_iff.1 HQ.out.2.2.1).1).trans HQ.out.2.2.1); obtain ⟨hq1, -⟩ := cells7 ((b8'.block gq (Array.getElem?_eq_some_iff.1 HQ.out.2.2.2.1).1).trans HQ.out.2.2.2.1);
           have hS2 := And.intro hq1.2.2.2.1 (And.intro hx1 hy1); simp only [and_assoc] at hS2; clear hx1 hy1 hq1))
      go_wp2_with fail
      go_ret
      exact ⟨rfl, HQ.out.2.2.2.2.trans (b8'.mono HQ.out.2.2.2.2.size)⟩
end Go.Proofs.YtekdfdobnpegdaaGreatDoor
