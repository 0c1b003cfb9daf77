/-
  pavaneref09.Do of any row of data.
-/
import Derived.Test.YtocnlapbkidinaaGreatDoorPk2
import Derived.Test.YtocnlapbkidinaaGreatDoorPk3
import Derived.Test.YtocnlapbkidinaaGreatDoorPn10
set_option linter.unusedVariables false
set_option linter.unusedSimpArgs false
set_option linter.unusedSectionVars false
set_option linter.unnecessarySimpa false
namespace Go.Proofs.YtocnlapbkidinaaGreatDoor
open Go.RowKit
set_option maxRecDepth 100000

theorem rtxA_told {K : Nat} {z : Int} (hK : K ≤ 1000000) (W : World) (u : Value) (hu : Wh W u z K) : Calls Tryz.prog 29 #[u] W fun e w' => e = .returned (.string (txA z)) ∧ Below W.heap.size W w' := by
  refine (rwtext_num hu hK).mono ?_
  rintro e w' ⟨t, rfl, ht, hb⟩
  exact ⟨by rw [Go.WideShapes.bytes_inj (a := t) (b := txA z) (by rw [ht]; rfl)], hb⟩
set_option maxHeartbeats 6400000 in
theorem rdo_none (p : Int) (h : plainB p = false) (A : Option Addr) (n c : Nat) (w : World) : Calls Tryz.prog 9 #[.int .i64 p, .slice A n c] w (TelA w (errA 2)) := by
  have hb0 : Below w.heap.size w (w.alloc (Obj.cells #[.int .i64 0, .bool false, .slice none 0 0, .bool false, .string ⟨#[]⟩, .slice none 0 0, .slice none 0 0] 29)) := (Below.refl _ _).alloc (Nat.le_refl _) _
  have hz0 : (w.alloc (Obj.cells #[.int .i64 0, .bool false, .slice none 0 0, .bool false, .string ⟨#[]⟩, .slice none 0 0, .slice none 0 0] 29)).heap[w.heap.size]? = some (Obj.cells #[.int .i64 0, .bool false, .slice none 0 0, .bool false, .string ⟨#[]⟩, .slice none 0 0, .slice none 0 0] 29) := heap_alloc_new w (Obj.cells #[.int .i64 0, .bool false, .slice none 0 0, .bool false, .string ⟨#[]⟩, .slice none 0 0, .slice none 0 0] 29)
  have hq := rplain_is p
  rw [h] at hq
  have HQ := Lib.hid hq
  have H0 := Lib.hid (And.intro hb0 hz0)
  clear hq hb0 hz0 h
  go_enter Tryz.func9, Tryz.ntmps9
  go_wp2_with fail
  refine (HQ.out _).mono ?_
  rintro e w1 ⟨rfl, b1⟩
  have H1 := Lib.hid (And.intro (H0.out.1.trans (b1.mono H0.out.1.size)) ((b1.block w.heap.size (Array.getElem?_eq_some_iff.1 H0.out.2).1).trans H0.out.2))
  clear b1
  obtain ⟨⟨d0, d1, d2, d3, d4, d5, d6⟩, f0, f1, f2, f3, f4, f5, f6⟩ := cells7 H1.out.2
  go_wp2_with fail
  exact tel_set rfl rfl rfl rfl H1.out.2 (Nat.le_refl _) Sl.nil H1.out.1
set_option maxHeartbeats 6400000 in
theorem rdo_wrong (p : Int) (h : plainB p = true) (A : Option Addr) (n c : Nat) (hn : n ≤ 1000) (hm : n ≠ arB p) (w : World) : Calls Tryz.prog 9 #[.int .i64 p, .slice A n c] w (TelA w (errA 8)) := by
  have hb0 : Below w.heap.size w (w.alloc (Obj.cells #[.int .i64 0, .bool false, .slice none 0 0, .bool false, .string ⟨#[]⟩, .slice none 0 0, .slice none 0 0] 29)) := (Below.refl _ _).alloc (Nat.le_refl _) _
  have hz0 : (w.alloc (Obj.cells #[.int .i64 0, .bool false, .slice none 0 0, .bool false, .string ⟨#[]⟩, .slice none 0 0, .slice none 0 0] 29)).heap[w.heap.size]? = some (Obj.cells #[.int .i64 0, .bool false, .slice none 0 0, .bool false, .string ⟨#[]⟩, .slice none 0 0, .slice none 0 0] 29) := heap_alloc_new w (Obj.cells #[.int .i64 0, .bool false, .slice none 0 0, .bool false, .string ⟨#[]⟩, .slice none 0 0, .slice none 0 0] 29)
  have hq := rplain_is p
  rw [h] at hq
  have HA := Lib.hid (rarity_any p h)
  have hne : ((n : Int) != (arB p : Int)) = true := bne_iff_ne.2 (by omega)
  generalize arB p = m at *
  have HQ := Lib.hid hq
  have H0 := Lib.hid (And.intro hb0 hz0)
  clear hq hb0 hz0 h hm
  go_enter Tryz.func9, Tryz.ntmps9
  go_wp2_with fail
  refine (HQ.out _).mono ?_
  rintro e w1 ⟨rfl, b1⟩
  have H1 := Lib.hid (And.intro (H0.out.1.trans (b1.mono H0.out.1.size)) ((b1.block w.heap.size (Array.getElem?_eq_some_iff.1 H0.out.2).1).trans H0.out.2))
  clear b1
  go_wp2_with fail
  refine (HA.out _).mono ?_
  rintro e w2 ⟨rfl, b2⟩
  have H2 := Lib.hid (And.intro (H1.out.1.trans (b2.mono H1.out.1.size)) ((b2.block w.heap.size (Array.getElem?_eq_some_iff.1 H1.out.2).1).trans H1.out.2))
  clear b2
  obtain ⟨⟨d0, d1, d2, d3, d4, d5, d6⟩, f0, f1, f2, f3, f4, f5, f6⟩ := cells7 H2.out.2
  go_wp2_with fail
  exact tel_set rfl rfl rfl rfl H2.out.2 (Nat.le_refl _) Sl.nil H2.out.1
set_option maxHeartbeats 1600000 in
theorem rdo_all (p : Int) (M : Nat) (A : Option Addr) (c : Nat) (ts : List LT) (w : World) (hM : M ≤ w.heap.size) (hS : Spot M A ts.length c) (hL : LiesR w M ts (blk A) (ofs A)) (hl : ts.all lightX = true) (hn : ts.length ≤ 10) (hT : TameR ts) :
    Calls Tryz.prog 9 #[.int .i64 p, .slice A ts.length c] w (TelA w (doA p ts)) := by
  unfold doA
  by_cases hp : plainB p = true
  · rw [if_pos hp]
    by_cases hlen : ts.length = arB p
    · rw [if_pos hlen]
      have hpos : 0 < ts.length := by rw [hlen]; unfold arB; split <;> decide
      obtain ⟨hA, hB⟩ := hS.2.2.1 hpos
      have hR := row_of_lies hL hpos hM
      have hHeld : ∀ k (h : k < ts.length), Held w M ts[k] := fun k h => (lies_held.1 ((liesR_iff _ _ _).1 hL k h)).2.2
      rw [hA]
      generalize blk A = B at *
      generalize ofs A = o at *
      rw [List.all_eq_true] at hl
      by_cases h2 : arB p = 2
      · obtain ⟨x, y, rfl⟩ : ∃ x y, ts = [x, y] := by
          rcases ts with _ | ⟨x, _ | ⟨y, _ | ⟨z, l⟩⟩⟩
          · simp at hpos
          · simp [h2] at hlen
          · exact ⟨x, y, rfl⟩
          · simp [h2] at hlen
        have lx := light_parts (hl x (by simp))
        have ly := light_parts (hl y (by simp))
        have fx := light_few (hl x (by simp))
        have hx : Held w M x := hHeld 0 (by simp)
        have hy : Held w M y := hHeld 1 (by simp)
        simp only [TameR] at hT
        have HE : ∀ W, Below w.heap.size w W → Calls Tryz.prog 20 #[.agg #[.int .i64 x.k, .bool x.g, .slice x.la x.ln x.lc, .bool x.bb, .string x.s, .slice x.ia x.items.length x.ic, .slice x.ta x.tail.length x.tc], .agg #[.int .i64 y.k, .bool y.g, .slice y.la y.ln y.lc, .bool y.bb, .string y.s, .slice y.ia y.items.length y.ic, .slice y.ta y.tail.length y.tc]] W fun e w' => e = .returned (.bool (eqB x y)) ∧ Below W.heap.size W w' := fun W hb =>
          req_any M x y (by omega) hT.1 hT.2.1 W (Nat.le_trans hM hb.size) (hx.below hM hb) (hy.below hM hb)
        have HC : ∀ q, 1 ≤ q ∧ q ≤ 8 → ∀ W, Below w.heap.size w W → Calls Tryz.prog 27 #[.int .i64 q, .agg #[.int .i64 x.k, .bool x.g, .slice x.la x.ln x.lc, .bool x.bb, .string x.s, .slice x.ia x.items.length x.ic, .slice x.ta x.tail.length x.tc], .agg #[.int .i64 y.k, .bool y.g, .slice y.la y.ln y.lc, .bool y.bb, .string y.s, .slice y.ia y.items.length y.ic, .slice y.ta y.tail.length y.tc]] W (TelA W (ansA q x y)) := fun q hq W hb =>
          reck_any q hq x y W (hx.1.1.below hb) (hy.1.1.below hb) lx.1 ly.1 (zT_small hx lx.1) (zT_small hy ly.1)
        show Calls _ _ #[_, .slice _ 2 c] w (TelA w (ansA p x y))
        rcases plainB_cases hp with rfl | rfl | rfl | rfl | rfl | rfl | rfl | rfl | rfl | rfl | rfl | rfl | rfl | rfl | rfl | rfl | rfl | rfl | rfl | rfl | rfl
        · exact rdo_reck 1 (by decide) B o c x y _ w hR (HC 1 (by decide))
        · exact rdo_reck 2 (by decide) B o c x y _ w hR (HC 2 (by decide))
        · exact rdo_reck 3 (by decide) B o c x y _ w hR (HC 3 (by decide))
        · exact rdo_reck 4 (by decide) B o c x y _ w hR (HC 4 (by decide))
        · exact rdo_reck 5 (by decide) B o c x y _ w hR (HC 5 (by decide))
        · exact rdo_reck 6 (by decide) B o c x y _ w hR (HC 6 (by decide))
        · exact rdo_reck 7 (by decide) B o c x y _ w hR (HC 7 (by decide))
        · exact rdo_reck 8 (by decide) B o c x y _ w hR (HC 8 (by decide))
        · exact absurd h2 (by decide)
        · exact absurd h2 (by decide)
        · exact absurd h2 (by decide)
        · exact absurd h2 (by decide)
        · exact absurd h2 (by decide)
        · exact absurd h2 (by decide)
        · rw [ans_21]; exact rdo_eqq B o c x y w hR HE
        · exact absurd h2 (by decide)
        · exact absurd h2 (by decide)
        · rw [ans_24]; exact rdo_strapp B o c x y w hR lx.2 ly.2
        · rw [ans_25]; exact rdo_streq B o c x y w hR rfl
        · exact absurd h2 (by decide)
        · exact absurd h2 (by decide)
      · obtain ⟨x, rfl⟩ : ∃ x, ts = [x] := by
          have h1 : arB p = 1 := by unfold arB at h2 ⊢; split at h2 <;> simp_all
          rcases ts with _ | ⟨x, _ | ⟨y, l⟩⟩
          · simp at hpos
          · exact ⟨x, rfl⟩
          · simp [h1] at hlen
        have lx := light_parts (hl x (by simp))
        have hx : Held w M x := hHeld 0 (by simp)
        have wx := whole_wh hx lx.1
        show Calls _ _ #[_, .slice _ 1 c] w (TelA w (ansA p x (plainT 0 false none 0 0 [] false ⟨#[]⟩)))
        rcases plainB_cases hp with rfl | rfl | rfl | rfl | rfl | rfl | rfl | rfl | rfl | rfl | rfl | rfl | rfl | rfl | rfl | rfl | rfl | rfl | rfl | rfl | rfl
        · exact absurd rfl h2
        · exact absurd rfl h2
        · exact absurd rfl h2
        · exact absurd rfl h2
        · exact absurd rfl h2
        · exact absurd rfl h2
        · exact absurd rfl h2
        · exact absurd rfl h2
        · rw [ans_14]; exact rdo_nullq B o c x w hR
        · rw [ans_15]; exact rdo_pairq B o c x w hR
        · rw [ans_16]; exact rdo_numq B o c x w hR
        · rw [ans_17]; exact rdo_symq B o c x w hR
        · rw [ans_18]; exact rdo_strq B o c x w hR
        · rw [ans_19]; exact rdo_boolq B o c x w hR
        · exact absurd rfl h2
        · rw [ans_22]; exact rdo_not B o c x w hR
        · rw [ans_23]; exact rdo_strlen B o c x w hR hx.1.2.2
        · exact absurd rfl h2
        · exact absurd rfl h2
        · rw [ans_26]; exact rdo_symstr B o c x w hR
        · rw [ans_27]; exact rdo_numstr B o c x w hR (fun W hb => rtxA_told (by decide) W _ (wx.below hb))
    · rw [if_neg hlen]
      exact rdo_wrong p hp A ts.length c (by omega) hlen w
  · rw [if_neg hp]
    exact rdo_none p (by simpa using hp) A ts.length c w
end Go.Proofs.YtocnlapbkidinaaGreatDoor
