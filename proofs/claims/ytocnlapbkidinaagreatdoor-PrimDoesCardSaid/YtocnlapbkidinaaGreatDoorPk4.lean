/-
  pavaneref09.number, truth and reckon. pavaneref09.reckon.
-/
import Derived.Test.YtocnlapbkidinaaGreatDoorQPgb
import Derived.Test.YtocnlapbkidinaaGreatDoorPk6
import Derived.Test.YtocnlapbkidinaaGreatDoorPn9
import Derived.Test.YtocnlapbkidinaaGreatDoorQWrfl
import Derived.RegionTactic
import Derived.BigRegion
import Derived.Deep.CutRange
import Derived.LoopTactic
import Derived.Deep.RegionHeld3
set_option linter.unusedVariables false
set_option linter.unusedSimpArgs false
set_option linter.unusedSectionVars false
set_option linter.unnecessarySimpa false
namespace Go.Proofs.YtocnlapbkidinaaGreatDoor
section
open Go.RowKit
set_option maxRecDepth 100000

set_option maxHeartbeats 3200000 in
theorem rtruth_any (b : Bool) (w : World) : Calls Tryz.prog 28 #[.bool b] w (DatP w 2 false [] b ⟨#[]⟩) := by
  go_enter Tryz.func28, Tryz.ntmps28
  go_wp2_with fail
  exact dat_new rfl rfl rfl Sl.nil
set_option maxHeartbeats 3200000 in
theorem rnumber_any (z : Int) (A : Option Addr) (n c : Nat) (w : World) (h : Sl w A n c (limbs z.natAbs)) : Calls Tryz.prog 30 #[.agg #[.bool (decide (z < 0)), .slice A n c]] w (TelA w (rkA z 0)) := by
  have hl := h.len
  have hm : n ≤ maxLen := Nat.le_trans h.le h.max
  unfold maxLen at hm
  unfold rkA
  rw [if_neg (by decide), ← hl]
  have hb1 : ∀ O, Below w.heap.size w (w.alloc O) := fun O => (Below.refl _ _).alloc (Nat.le_refl _) _
  have H := Lib.hid h
  generalize hg : decide (z < 0) = g
  have HG := Lib.hid hg
  clear hl h hg
  have hb0 : Below w.heap.size w (w.alloc (.cells #[.bool g, .slice A n c] 27)) := hb1 _
  have HB := Lib.hid hb0
  clear hb0 hb1
  by_cases h64 : 64 < n
  · have e1 : decide ((64 : Int) < (n : Int)) = true := decide_eq_true (by omega)
    rw [if_pos h64]
    clear h64
    go_enter Tryz.func30, Tryz.ntmps30
    go_wp2_with fail
    exact tel_new rfl (by rw [World.size_alloc]; rfl) rfl rfl Sl.nil HB.out
  · have e1 : decide ((64 : Int) < (n : Int)) = false := decide_eq_false (by omega)
    rw [if_neg h64]
    clear h64
    go_enter Tryz.func30, Tryz.ntmps30
    go_wp2_with fail
    have hs := H.out.below HB.out
    show bodyPost _ _ (TelP w 1 (decide (z < 0)) (limbs z.natAbs) false ⟨#[]⟩ 0) _ _ _
    rw [HG.out]
    exact tel_new rfl (by rw [World.size_alloc]; rfl) rfl rfl hs HB.out
theorem three_new (w : World) (X Y Z : Obj) : ∃ w3, w3 = ((w.alloc X).alloc Y).alloc Z ∧ w3.heap[w.heap.size]? = some X ∧ w3.heap[w.heap.size + 1]? = some Y ∧ w3.heap[w.heap.size + 1 + 1]? = some Z ∧ w3.heap.size = w.heap.size + 3 ∧ Below w.heap.size w w3 := by
  have s1 : (w.alloc X).heap.size = w.heap.size + 1 := World.size_alloc ..
  have s2 : ((w.alloc X).alloc Y).heap.size = w.heap.size + 1 + 1 := by rw [World.size_alloc, s1]
  have h2 := heap_alloc_new ((w.alloc X).alloc Y) Z
  rw [s2] at h2
  have h1 := heap_alloc_new (w.alloc X) Y
  rw [s1] at h1
  exact ⟨_, rfl, (Below.heap_alloc _ _ _ (by rw [s2]; omega)).trans ((Below.heap_alloc _ _ _ (by rw [s1]; omega)).trans (heap_alloc_new w X)), (Below.heap_alloc _ _ _ (by rw [s2]; omega)).trans h1, h2, by rw [World.size_alloc, s2], (((Below.refl _ _).alloc (Nat.le_refl _) _).alloc (by omega) _).alloc (by omega) _⟩
theorem set_twice {w6 : World} {gq gr gz n c : Nat} {s1 x1 s2 x2 : Value} {A : Option Addr} {xs : List Nat} (hv1 : Var w6 gq s1 x1) (hv2 : Var w6 gr s2 x2) (hne : gq ≠ gr) (hz : w6.heap[gz]? = some (Obj.cells #[.int .i64 0, .bool false, .slice none 0 0, .bool false, .string ⟨#[]⟩, .slice none 0 0, .slice none 0 0] 29)) (n5 : gz ≠ gq) (n6 : gz ≠ gr) (hs : Sl w6 A n c xs)
    (q1 : ∀ z, s1 ≠ .int .u32 z) (q2 : ∀ z, x1 ≠ .int .u32 z) (q3 : ∀ z, s2 ≠ .int .u32 z) (q4 : ∀ z, x2 ≠ .int .u32 z) (b1 u1 b2 u2 : Value) (W7 : World) (hW : W7 = ((((w6.setCell ⟨gq, 0, none⟩ b1).setCell ⟨gq, 1, none⟩ u1).setCell ⟨gr, 0, none⟩ b2).setCell ⟨gr, 1, none⟩ u2)) :
    W7.heap[gz]? = some (Obj.cells #[.int .i64 0, .bool false, .slice none 0 0, .bool false, .string ⟨#[]⟩, .slice none 0 0, .slice none 0 0] 29) ∧ Sl W7 A n c xs ∧ ∀ L, L ≤ gq → L ≤ gr → Below L w6 W7 := by
  subst hW
  have o1 : ∀ k, k ≠ gq → ((w6.setCell ⟨gq, 0, none⟩ b1).setCell ⟨gq, 1, none⟩ u1).heap[k]? = w6.heap[k]? := fun k hk => by
    rw [Below.heap_setCell _ _ _ _ hk, Below.heap_setCell _ _ _ _ hk]
  have z1 : ((w6.setCell ⟨gq, 0, none⟩ b1).setCell ⟨gq, 1, none⟩ u1).heap.size = w6.heap.size := by simp [World.setCell]
  have o2 : ∀ k, k ≠ gr → ((((w6.setCell ⟨gq, 0, none⟩ b1).setCell ⟨gq, 1, none⟩ u1).setCell ⟨gr, 0, none⟩ b2).setCell ⟨gr, 1, none⟩ u2).heap[k]? = ((w6.setCell ⟨gq, 0, none⟩ b1).setCell ⟨gq, 1, none⟩ u1).heap[k]? := fun k hk => by
    rw [Below.heap_setCell _ _ _ _ hk, Below.heap_setCell _ _ _ _ hk]
  have hv2' : Var ((w6.setCell ⟨gq, 0, none⟩ b1).setCell ⟨gq, 1, none⟩ u1) gr s2 x2 := (o1 gr hne.symm).trans hv2
  refine ⟨(o2 gz n6).trans ((o1 gz n5).trans hz), (hs.offV hv1 q1 q2 o1 z1).offV hv2' q3 q4 o2 (by simp [World.setCell]), fun L h1 h2 => ?_⟩
  exact ((((Below.refl _ _).setCell (p := ⟨gq, 0, none⟩) h1 _).setCell (p := ⟨gq, 1, none⟩) h1 _).setCell (p := ⟨gr, 0, none⟩) h2 _).setCell (p := ⟨gr, 1, none⟩) h2 _
theorem ans_no (p : Int) (hp : 1 ≤ p ∧ p ≤ 8) (x y : LT) (h : ¬ (x.k = 1 ∧ y.k = 1)) : ansA p x y = errA 6 := by
  rcases (show p = 1 ∨ p = 2 ∨ p = 3 ∨ p = 4 ∨ p = 5 ∨ p = 6 ∨ p = 7 ∨ p = 8 by omega) with rfl | rfl | rfl | rfl | rfl | rfl | rfl | rfl
  · rw [ans_1]; unfold arithA; rw [if_neg h]
  · rw [ans_2]; unfold arithA; rw [if_neg h]
  · rw [ans_3]; unfold arithA; rw [if_neg h]
  · rw [ans_4]; unfold arithA; rw [if_neg h]
  · rw [ans_5]; unfold arithA; rw [if_neg h]
  · rw [ans_6]; unfold arithA; rw [if_neg h]
  · rw [ans_7]; unfold orderA; rw [if_neg h]
  · rw [ans_8]; unfold orderA; rw [if_neg h]
theorem limb_wh {w : World} {A : Option Addr} {n c : Nat} {z : Int} (h : Sl w A n c (limbs z.natAbs)) (hz : z.natAbs < 4294967296 ^ 66) : Wh w (.agg #[.bool (decide (z < 0)), .slice A n c]) z 66 :=
  ⟨_, _, val (limbs z.natAbs), rfl, ⟨A, n, c, _, rfl, h, rfl, sl_le h hz⟩, by rw [limbs_val]; exact zOf_self z⟩
set_option maxHeartbeats 12800000 in
theorem reck_no (p : Int) (x y : LT) (w : World) (h : ¬ (x.k = 1 ∧ y.k = 1)) : Calls Tryz.prog 27 #[.int .i64 p, .agg #[.int .i64 x.k, .bool x.g, .slice x.la x.ln x.lc, .bool x.bb, .string x.s, .slice x.ia x.items.length x.ic, .slice x.ta x.tail.length x.tc], .agg #[.int .i64 y.k, .bool y.g, .slice y.la y.ln y.lc, .bool y.bb, .string y.s, .slice y.ia y.items.length y.ic, .slice y.ta y.tail.length y.tc]] w (TelA w (errA 6)) := by
  obtain ⟨W3, hW3, a0, a1, hz, hbel⟩ := two2 w (Obj.cells #[.int .i64 x.k, .bool x.g, .slice x.la x.ln x.lc, .bool x.bb, .string x.s, .slice x.ia x.items.length x.ic, .slice x.ta x.tail.length x.tc] 29) (Obj.cells #[.int .i64 y.k, .bool y.g, .slice y.la y.ln y.lc, .bool y.bb, .string y.s, .slice y.ia y.items.length y.ic, .slice y.ta y.tail.length y.tc] 29)
  have HW := Lib.hid (hW3 ▸ hbel : Below w.heap.size w ((w.alloc (Obj.cells #[.int .i64 x.k, .bool x.g, .slice x.la x.ln x.lc, .bool x.bb, .string x.s, .slice x.ia x.items.length x.ic, .slice x.ta x.tail.length x.tc] 29)).alloc (Obj.cells #[.int .i64 y.k, .bool y.g, .slice y.la y.ln y.lc, .bool y.bb, .string y.s, .slice y.ia y.items.length y.ic, .slice y.ta y.tail.length y.tc] 29)))
  clear hW3 a0 a1 hz hbel
  by_cases hx : x.k = 1
  · have e1 : (x.k != 1) = false := by simp [hx]
    have e2 : (y.k != 1) = true := bne_iff_ne.2 (fun e => h ⟨hx, e⟩)
    clear hx h
    go_enter Tryz.func27, Tryz.ntmps27
    go_wp2_with fail
    exact tel_new rfl (by rw [World.size_alloc, World.size_alloc]; rfl) rfl rfl Sl.nil HW.out
  · have e1 : (x.k != 1) = true := bne_iff_ne.2 hx
    clear hx h
    go_enter Tryz.func27, Tryz.ntmps27
    go_wp2_with fail
    exact tel_new rfl (by rw [World.size_alloc, World.size_alloc]; rfl) rfl rfl Sl.nil HW.out
end
end Go.Proofs.YtocnlapbkidinaaGreatDoor
namespace Go.Proofs.YtocnlapbkidinaaGreatDoor
section
open Go.RowKit
set_option maxRecDepth 100000

set_option maxHeartbeats 12800000 in
theorem reck_any (p : Int) (hp : 1 ≤ p ∧ p ≤ 8) (x y : LT) (w : World) (sx : Sl w x.la x.ln x.lc x.ys) (sy : Sl w y.la y.ln y.lc y.ys) (lx : x.ln ≤ 66) (ly : y.ln ≤ 66) (zx : (zT x).natAbs < 4294967296 ^ 66) (zy : (zT y).natAbs < 4294967296 ^ 66) :
    Calls Tryz.prog 27 #[.int .i64 p, .agg #[.int .i64 x.k, .bool x.g, .slice x.la x.ln x.lc, .bool x.bb, .string x.s, .slice x.ia x.items.length x.ic, .slice x.ta x.tail.length x.tc], .agg #[.int .i64 y.k, .bool y.g, .slice y.la y.ln y.lc, .bool y.bb, .string y.s, .slice y.ia y.items.length y.ic, .slice y.ta y.tail.length y.tc]] w (TelA w (ansA p x y)) := by
  by_cases hk : ¬ (x.k = 1 ∧ y.k = 1)
  · rw [ans_no p hp x y hk]
    exact reck_no p x y w hk
  obtain ⟨hk1, hk2⟩ := Decidable.not_not.1 hk
  clear hk
  obtain ⟨w3, hw3, a0, a1, a2, hz, hbel⟩ := three_new w (Obj.cells #[.int .i64 x.k, .bool x.g, .slice x.la x.ln x.lc, .bool x.bb, .string x.s, .slice x.ia x.items.length x.ic, .slice x.ta x.tail.length x.tc] 29) (Obj.cells #[.int .i64 y.k, .bool y.g, .slice y.la y.ln y.lc, .bool y.bb, .string y.s, .slice y.ia y.items.length y.ic, .slice y.ta y.tail.length y.tc] 29) (Obj.cells #[.int .i64 0, .bool false, .slice none 0 0, .bool false, .string ⟨#[]⟩, .slice none 0 0, .slice none 0 0] 29)
  have HN0 := Lib.hid (fun (W : World) (hb : Below w.heap.size w W) => rwnorm_num (w := W) (a := zT x) (K := x.ln) (u := intOfT x) ⟨x.g, _, val x.ys, rfl, ⟨x.la, x.ln, x.lc, x.ys, rfl, sx.below hb, rfl, Nat.le_refl _⟩, rfl⟩ (by omega))
  have HN1 := Lib.hid (fun (W : World) (hb : Below w.heap.size w W) => rwnorm_num (w := W) (a := zT y) (K := y.ln) (u := intOfT y) ⟨y.g, _, val y.ys, rfl, ⟨y.la, y.ln, y.lc, y.ys, rfl, sy.below hb, rfl, Nat.le_refl _⟩, rfl⟩ (by omega))
  have HP := Lib.hid hp
  have HZ := Lib.hid (And.intro zx zy)
  have HA := Lib.hid (show ∀ q, 1 ≤ q ∧ q ≤ 8 → ansA q x y = (if q ≤ 6 then rkA (if q = 1 then zT x + zT y else if q = 2 then zT x - zT y else if q = 3 then zT x * zT y else if q = 4 then quoQ (zT x) (zT y) else if q = 5 then quoR (zT x) (zT y) else flR (zT x) (zT y)) (if q ≤ 3 then 0 else quoE (zT y)) else boolA (if q = 7 then decide (cmpZ (zT x) (zT y) = 0) else decide (cmpZ (zT x) (zT y) < 0))) by
    intro q hq
    rcases (show q = 1 ∨ q = 2 ∨ q = 3 ∨ q = 4 ∨ q = 5 ∨ q = 6 ∨ q = 7 ∨ q = 8 by omega) with rfl | rfl | rfl | rfl | rfl | rfl | rfl | rfl
    · rw [ans_1]; unfold arithA; rw [if_pos ⟨hk1, hk2⟩]; rfl
    · rw [ans_2]; unfold arithA; rw [if_pos ⟨hk1, hk2⟩]; rfl
    · rw [ans_3]; unfold arithA; rw [if_pos ⟨hk1, hk2⟩]; rfl
    · rw [ans_4]; unfold arithA; rw [if_pos ⟨hk1, hk2⟩]; rfl
    · rw [ans_5]; unfold arithA; rw [if_pos ⟨hk1, hk2⟩]; rfl
    · rw [ans_6]; unfold arithA; rw [if_pos ⟨hk1, hk2⟩]; rfl
    · rw [ans_7]; unfold orderA; rw [if_pos ⟨hk1, hk2⟩]; rfl
    · rw [ans_8]; unfold orderA; rw [if_pos ⟨hk1, hk2⟩]; rfl
    )
  generalize zT x = a at *
  generalize zT y = b at *
  obtain ⟨R, hR⟩ : ∃ R, ansA p x y = R := ⟨_, rfl⟩
  rw [hR]
  have HRR := Lib.hid (hR.symm.trans (HA.out p hp))
  clear hR
  obtain ⟨bx, hbx⟩ : ∃ bx, decide (a < 0) = bx := ⟨_, rfl⟩
  obtain ⟨byy, hby⟩ : ∃ byy, decide (b < 0) = byy := ⟨_, rfl⟩
  have HB := Lib.hid (And.intro hbx hby)
  have e1 : (x.k != 1) = false := by simp [hk1]
  have e2 : (y.k != 1) = false := by simp [hk2]
  have HW := Lib.hid hw3
  have HT := Lib.hid (And.intro a0 (And.intro a1 (And.intro a2 (And.intro hz hbel))))
  unfold intOfT at HN0 HN1
  clear hw3 a0 a1 a2 hz hbel hbx hby zx zy lx ly sx sy hk1 hk2 HA hp
  go_enter Tryz.func27, Tryz.ntmps27
  go_wp2_with fail
  rw [← HW.out]
  go_cut [8, 9] from 22 to 28 (fun u v wc => ∃ (gx gy : Nat) (A A' : Option Addr) (n c n' c' : Nat), u = .pointer (some ⟨gx, 0, none⟩) ∧ v = .pointer (some ⟨gy, 0, none⟩) ∧ Hid (Var wc gx (.bool bx) (.slice A n c) ∧ Var wc gy (.bool byy) (.slice A' n' c') ∧ Sl wc A n c (limbs a.natAbs) ∧ Sl wc A' n' c' (limbs b.natAbs) ∧ wc.heap[w.heap.size + 1 + 1]? = some (Obj.cells #[.int .i64 0, .bool false, .slice none 0 0, .bool false, .string ⟨#[]⟩, .slice none 0 0, .slice none 0 0] 29) ∧ Below w.heap.size w wc))
  case first =>
    have hbw : ∀ W, Below w3.heap.size w3 W → Below w.heap.size w W := fun W hb => HT.out.2.2.2.2.trans (hb.mono (by rw [HT.out.2.2.2.1]; omega))
    have hp0 : ∀ W, Below w3.heap.size w3 W → W.heap[w.heap.size]? = some (Obj.cells #[.int .i64 x.k, .bool x.g, .slice x.la x.ln x.lc, .bool x.bb, .string x.s, .slice x.ia x.items.length x.ic, .slice x.ta x.tail.length x.tc] 29) := fun W hb => (hb.block _ (by rw [HT.out.2.2.2.1]; omega)).trans HT.out.1
    have hp1 : ∀ W, Below w3.heap.size w3 W → W.heap[w.heap.size + 1]? = some (Obj.cells #[.int .i64 y.k, .bool y.g, .slice y.la y.ln y.lc, .bool y.bb, .string y.s, .slice y.ia y.items.length y.ic, .slice y.ta y.tail.length y.tc] 29) := fun W hb => (hb.block _ (by rw [HT.out.2.2.2.1]; omega)).trans HT.out.2.1
    have hp2 : ∀ W, Below w3.heap.size w3 W → W.heap[w.heap.size + 1 + 1]? = some (Obj.cells #[.int .i64 0, .bool false, .slice none 0 0, .bool false, .string ⟨#[]⟩, .slice none 0 0, .slice none 0 0] 29) := fun W hb => (hb.block _ (by rw [HT.out.2.2.2.1]; omega)).trans HT.out.2.2.1
    refine wp_region_phasesR (nA := 8) 6 7 (by decide) (by decide) (by decide) (fun W v v' => ∃ g g' : Nat, v = .pointer (some ⟨g, 0, none⟩) ∧ v' = .pointer (some ⟨g', 0, none⟩) ∧ g ≠ g') (fun W W' v v' h hb => h)
      (by kernel_rfl) (by kernel_rfl) (fun j => if j < 6 then 22 + j else j + 2)
      (fun i W v => match i with
        | 0 => v = .pointer (some ⟨w.heap.size, 1, none⟩)
        | 1 => v = .agg #[.bool x.g, .slice x.la x.ln x.lc]
        | 2 => ∃ A n c, v = .agg #[.bool bx, .slice A n c] ∧ Sl W A n c (limbs a.natAbs)
        | 3 => v = .pointer (some ⟨w.heap.size + 1, 1, none⟩)
        | 4 => v = .agg #[.bool y.g, .slice y.la y.ln y.lc]
        | 5 => ∃ A n c, v = .agg #[.bool byy, .slice A n c] ∧ Sl W A n c (limbs b.natAbs)
        | _ => ∃ g, v = .pointer (some ⟨g, 0, none⟩) ∧ w3.heap.size ≤ g ∧ Var W g (.bool false) (.slice none 0 0))
      (by decide) (by kernel_rfl)
      (fun i j hi hj h => by split at h <;> split at h <;> omega) (fun i hi => by simp only [List.size_toArray, List.length_cons, List.length_nil]; split <;> omega) ?_ ?_ ?_
    · intro i hi W W' v h hb
      rcases (show i = 0 ∨ i = 1 ∨ i = 2 ∨ i = 3 ∨ i = 4 ∨ i = 5 ∨ i = 6 ∨ i = 7 by omega) with rfl | rfl | rfl | rfl | rfl | rfl | rfl | rfl
      · exact h
      · exact h
      · obtain ⟨A, n, c, e, h1⟩ := h; exact ⟨A, n, c, e, h1.below hb⟩
      · exact h
      · exact h
      · obtain ⟨A, n, c, e, h1⟩ := h; exact ⟨A, n, c, e, h1.below hb⟩
      · obtain ⟨P, e, h1, h2⟩ := h; exact ⟨P, e, h1, h2.next hb⟩
      · obtain ⟨P, e, h1, h2⟩ := h; exact ⟨P, e, h1, h2.next hb⟩
    · intro i hi l A W I hdep
      rcases (show i = 0 ∨ i = 1 ∨ i = 2 ∨ i = 3 ∨ i = 4 ∨ i = 5 ∨ i = 6 ∨ i = 7 by omega) with rfl | rfl | rfl | rfl | rfl | rfl | rfl | rfl
      · exact wpOp_val rfl rfl (exec_fldI rfl ((I.other 4 (by intro j hj; split <;> omega)).trans rfl)) ⟨_, rfl, rfl, Below.refl _ _, fun h => absurd h (by decide), fun h => absurd h (by decide)⟩
      · have v0 : A.tmps.getD 22 undef = _ := I.val 0 (by decide) (hdep 0 (by kernel_rfl))
        exact wpOp_val rfl rfl (exec_loadI1 rfl v0 (by rw [Lib.cell_of_heap (hp0 W I.below)]; rfl) (by rw [Lib.cell_of_heap (hp0 W I.below)]; rfl)) ⟨_, rfl, rfl, Below.refl _ _, fun h => absurd h (by decide), fun h => absurd h (by decide)⟩
      · have v0 : A.tmps.getD 23 undef = _ := I.val 1 (by decide) (hdep 1 (by kernel_rfl))
        refine wpOp_call rfl rfl ((exec_call rfl).trans (by rw [v0])) (by simp [go_sem]) (HN0.out W (hbw W I.below)) ?_
        rintro e W' ⟨v, rfl, ⟨_, rfl, B, n, c, rfl, hs, _⟩, bb⟩
        rw [HB.out.1]
        exact ⟨_, rfl, _, rfl, ⟨B, n, c, rfl, hs⟩, bb, fun h => absurd h (by decide), fun h => absurd h (by decide)⟩
      · exact wpOp_val rfl rfl (exec_fldI rfl ((I.other 5 (by intro j hj; split <;> omega)).trans rfl)) ⟨_, rfl, rfl, Below.refl _ _, fun h => absurd h (by decide), fun h => absurd h (by decide)⟩
      · have v0 : A.tmps.getD 25 undef = _ := I.val 3 (by decide) (hdep 3 (by kernel_rfl))
        exact wpOp_val rfl rfl (exec_loadI1 rfl v0 (by rw [Lib.cell_of_heap (hp1 W I.below)]; rfl) (by rw [Lib.cell_of_heap (hp1 W I.below)]; rfl)) ⟨_, rfl, rfl, Below.refl _ _, fun h => absurd h (by decide), fun h => absurd h (by decide)⟩
      · have v0 : A.tmps.getD 26 undef = _ := I.val 4 (by decide) (hdep 4 (by kernel_rfl))
        refine wpOp_call rfl rfl ((exec_call rfl).trans (by rw [v0])) (by simp [go_sem]) (HN1.out W (hbw W I.below)) ?_
        rintro e W' ⟨v, rfl, ⟨_, rfl, B, n, c, rfl, hs, _⟩, bb⟩
        rw [HB.out.2]
        exact ⟨_, rfl, _, rfl, ⟨B, n, c, rfl, hs⟩, bb, fun h => absurd h (by decide), fun h => absurd h (by decide)⟩
      · refine wpOp_val rfl rfl (exec_alloc rfl) ⟨_, rfl, ⟨_, rfl, I.below.size, Var.mk_ ..⟩, (Below.refl _ _).alloc (Nat.le_refl _) _, fun _ hl => ?_, fun h => absurd h (by decide)⟩
        obtain ⟨g, e, _, u1⟩ : ∃ g, A.tmps.getD 9 undef = .pointer (some ⟨g, 0, none⟩) ∧ w3.heap.size ≤ g ∧ Var W g (.bool false) (.slice none 0 0) := I.val 7 (by decide) hl
        exact ⟨_, g, rfl, e, fun h => by have := u1.lt; omega⟩
      · refine wpOp_val rfl rfl (exec_alloc rfl) ⟨_, rfl, ⟨_, rfl, I.below.size, Var.mk_ ..⟩, (Below.refl _ _).alloc (Nat.le_refl _) _, fun h => absurd h (by decide), fun _ hl => ?_⟩
        obtain ⟨g, e, _, u1⟩ : ∃ g, A.tmps.getD 8 undef = .pointer (some ⟨g, 0, none⟩) ∧ w3.heap.size ≤ g ∧ Var W g (.bool false) (.slice none 0 0) := I.val 6 (by decide) hl
        exact ⟨g, _, e, rfl, fun h => by have := u1.lt; omega⟩
    · intro A W hrel hdf hsz hoth hval hb
      have v0 : A.tmps.getD 22 undef = _ := hval 0 (by decide)
      have v1 : A.tmps.getD 23 undef = _ := hval 1 (by decide)
      obtain ⟨B, n, c, v2, hs⟩ : ∃ B n c, A.tmps.getD 24 undef = .agg #[.bool bx, .slice B n c] ∧ Sl W B n c (limbs a.natAbs) := hval 2 (by decide)
      have v3 : A.tmps.getD 25 undef = _ := hval 3 (by decide)
      have v4 : A.tmps.getD 26 undef = _ := hval 4 (by decide)
      obtain ⟨B', n', c', v5, hs'⟩ : ∃ B n c, A.tmps.getD 27 undef = .agg #[.bool byy, .slice B n c] ∧ Sl W B n c (limbs b.natAbs) := hval 5 (by decide)
      obtain ⟨gx, v6, hgx, hzx⟩ : ∃ g, A.tmps.getD 8 undef = .pointer (some ⟨g, 0, none⟩) ∧ w3.heap.size ≤ g ∧ Var W g (.bool false) (.slice none 0 0) := hval 6 (by decide)
      obtain ⟨gy, v7, hgy, hzy⟩ : ∃ g, A.tmps.getD 9 undef = .pointer (some ⟨g, 0, none⟩) ∧ w3.heap.size ≤ g ∧ Var W g (.bool false) (.slice none 0 0) := hval 7 (by decide)
      have hne : gx ≠ gy := by
        obtain ⟨g, g', q1, q2, h⟩ : ∃ g g' : Nat, A.tmps.getD 8 undef = .pointer (some ⟨g, 0, none⟩) ∧ A.tmps.getD 9 undef = .pointer (some ⟨g', 0, none⟩) ∧ g ≠ g' := hrel
        rw [v6] at q1; rw [v7] at q2
        simp only [Value.pointer.injEq, Option.some.injEq, Addr.mk.injEq, true_and, and_true] at q1 q2
        omega
      have hA := tower_pairs (a := A) [(22, .pointer (some ⟨w.heap.size, 1, none⟩)), (23, .agg #[.bool x.g, .slice x.la x.ln x.lc]), (24, .agg #[.bool bx, .slice B n c]), (25, .pointer (some ⟨w.heap.size + 1, 1, none⟩)), (26, .agg #[.bool y.g, .slice y.la y.ln y.lc]), (27, .agg #[.bool byy, .slice B' n' c']), (8, .pointer (some ⟨gx, 0, none⟩)), (9, .pointer (some ⟨gy, 0, none⟩))] ?_ ?_ hdf hsz (fun m hm => hoth m (fun j hj => by
        simp only [List.forall_mem_cons] at hm
        obtain ⟨k0, k1, k2, k3, k4, k5, k6, k7, -⟩ := hm
        rcases (show j = 0 ∨ j = 1 ∨ j = 2 ∨ j = 3 ∨ j = 4 ∨ j = 5 ∨ j = 6 ∨ j = 7 by omega) with rfl | rfl | rfl | rfl | rfl | rfl | rfl | rfl
        · exact k0
        · exact k1
        · exact k2
        · exact k3
        · exact k4
        · exact k5
        · exact k6
        · exact k7))
      rotate_left
      · intro p hp
        simp only [List.mem_cons, List.not_mem_nil, or_false] at hp
        rcases hp with rfl | rfl | rfl | rfl | rfl | rfl | rfl | rfl <;> simp
      · intro p hp
        simp only [List.mem_cons, List.not_mem_nil, or_false] at hp
        rcases hp with rfl | rfl | rfl | rfl | rfl | rfl | rfl | rfl
        · exact v0
        · exact v1
        · exact v2
        · exact v3
        · exact v4
        · exact v5
        · exact v6
        · exact v7
      clear v0 v1 v2 v3 v4 v5 v6 v7 hval hoth hsz hdf hrel
      subst hA
      show wpOps _ _ _ [8, 9] _ _
      simp only [List.foldl, Act.put, List.setIfInBounds_toArray, List.set_cons_zero, List.set_cons_succ]
      rw [wpOps_cons]
      refine wpOp_storeI rfl rfl rfl rfl rfl rfl hzx ?_
      intro W5 h1 o5 s5 b5
      have hzy5 : Var W5 gy (.bool false) (.slice none 0 0) := (o5 gy hne.symm).trans hzy
      have q3 := hs.offV hzx (by simp) (by simp) o5 s5
      have q4 := hs'.offV hzx (by simp) (by simp) o5 s5
      have q5 := hb.trans (b5 w3.heap.size hgx)
      rw [wpOps_cons]
      refine wpOp_storeI rfl rfl rfl rfl rfl rfl hzy5 ?_
      intro W6 h2 o6 s6 b6
      have q1 : Var W6 gx (.bool bx) (.slice B n c) := (o6 gx hne).trans h1
      have q6 := q3.offV hzy5 (by simp) (by simp) o6 s6
      have q7 := q4.offV hzy5 (by simp) (by simp) o6 s6
      have q8 := q5.trans (b6 w3.heap.size hgy)
      simp only [wpOps]
      show Exit.then _ _ _ _ _
      go_wp2_with fail
      go_meet
      case rel => exact ⟨gx, gy, B, B', n, c, n', c', rfl, rfl, Lib.hid ⟨q1, h2, q6, q7, hp2 W6 q8, hbw W6 q8⟩⟩
  case rest =>
    obtain ⟨gx, gy, A, A', n, c, n', c', rfl, rfl, HV⟩ := hcut
    clear HT HN0 HN1 HW
    have hp := HP.out
    have c0 := HV.out.1.c0
    have c1 := HV.out.1.c1
    have c2 := HV.out.2.1.c0
    have c3 := HV.out.2.1.c1
    have wx : Wh wc (.agg #[.bool bx, .slice A n c]) a 66 := by rw [← HB.out.1]; exact limb_wh HV.out.2.2.1 HZ.out.1
    have wy : Wh wc (.agg #[.bool byy, .slice A' n' c']) b 66 := by rw [← HB.out.2]; exact limb_wh HV.out.2.2.2.1 HZ.out.2
    have HWX := Lib.hid (And.intro wx wy)
    clear wx wy
    have H3 := Lib.hid (And.intro HV.out.2.2.2.2.2 HV.out.2.2.2.2.1)
    rcases (show p = 1 ∨ p = 2 ∨ p = 3 ∨ p = 4 ∨ p = 5 ∨ p = 6 ∨ p = 7 ∨ p = 8 by omega) with rfl | rfl | rfl | rfl | rfl | rfl | rfl | rfl
    all_goals clear hp
    · have hR : R = rkA (a + b) 0 := HRR.out
      subst hR
      clear HRR
      go_wp2_with fail
      refine (rwadd_num HWX.out.1 HWX.out.2 (by decide) (by decide)).mono ?_
      rintro e w4 ⟨v, rfl, ⟨_, rfl, B1, n1, k1, rfl, hs1, _⟩, b4⟩
      have H4 := Lib.hid (And.intro (H3.out.1.trans (b4.mono H3.out.1.size)) ((b4.block (w.heap.size + 1 + 1) (Array.getElem?_eq_some_iff.1 H3.out.2).1).trans H3.out.2))
      have H41 := Lib.hid hs1
      clear b4 hs1 c0 c1 c2 c3
      go_wp2_with fail
      refine (rnumber_any (a + b) B1 n1 k1 _ H41.out).mono ?_
      rintro e w5 ⟨A5, n5, c5, rfl, hs5, b5⟩
      have H5 := Lib.hid (And.intro (H4.out.1.trans (b5.mono H4.out.1.size)) ((b5.block (w.heap.size + 1 + 1) (Array.getElem?_eq_some_iff.1 H4.out.2).1).trans H4.out.2))
      have HS := Lib.hid hs5
      clear b5 hs5
      obtain ⟨⟨d0, d1, d2, d3, d4, d5, d6⟩, f0, f1, f2, f3, f4, f5, f6⟩ := cells7 H5.out.2
      go_wp2_with fail
      exact tel_set rfl rfl rfl rfl H5.out.2 (by omega) HS.out H5.out.1
    · have hR : R = rkA (a - b) 0 := HRR.out
      subst hR
      clear HRR
      go_wp2_with fail
      refine (rwsub_num HWX.out.1 HWX.out.2 (by decide) (by decide)).mono ?_
      rintro e w4 ⟨v, rfl, ⟨_, rfl, B1, n1, k1, rfl, hs1, _⟩, b4⟩
      have H4 := Lib.hid (And.intro (H3.out.1.trans (b4.mono H3.out.1.size)) ((b4.block (w.heap.size + 1 + 1) (Array.getElem?_eq_some_iff.1 H3.out.2).1).trans H3.out.2))
      have H41 := Lib.hid hs1
      clear b4 hs1 c0 c1 c2 c3
      go_wp2_with fail
      refine (rnumber_any (a - b) B1 n1 k1 _ H41.out).mono ?_
      rintro e w5 ⟨A5, n5, c5, rfl, hs5, b5⟩
      have H5 := Lib.hid (And.intro (H4.out.1.trans (b5.mono H4.out.1.size)) ((b5.block (w.heap.size + 1 + 1) (Array.getElem?_eq_some_iff.1 H4.out.2).1).trans H4.out.2))
      have HS := Lib.hid hs5
      clear b5 hs5
      obtain ⟨⟨d0, d1, d2, d3, d4, d5, d6⟩, f0, f1, f2, f3, f4, f5, f6⟩ := cells7 H5.out.2
      go_wp2_with fail
      exact tel_set rfl rfl rfl rfl H5.out.2 (by omega) HS.out H5.out.1
    · have hR : R = rkA (a * b) 0 := HRR.out
      subst hR
      clear HRR
      go_wp2_with fail
      refine (rwmul_num HWX.out.1 HWX.out.2 (by decide) (by decide)).mono ?_
      rintro e w4 ⟨v, rfl, ⟨_, rfl, B1, n1, k1, rfl, hs1, _⟩, b4⟩
      have H4 := Lib.hid (And.intro (H3.out.1.trans (b4.mono H3.out.1.size)) ((b4.block (w.heap.size + 1 + 1) (Array.getElem?_eq_some_iff.1 H3.out.2).1).trans H3.out.2))
      have H41 := Lib.hid hs1
      clear b4 hs1 c0 c1 c2 c3
      go_wp2_with fail
      refine (rnumber_any (a * b) B1 n1 k1 _ H41.out).mono ?_
      rintro e w5 ⟨A5, n5, c5, rfl, hs5, b5⟩
      have H5 := Lib.hid (And.intro (H4.out.1.trans (b5.mono H4.out.1.size)) ((b5.block (w.heap.size + 1 + 1) (Array.getElem?_eq_some_iff.1 H4.out.2).1).trans H4.out.2))
      have HS := Lib.hid hs5
      clear b5 hs5
      obtain ⟨⟨d0, d1, d2, d3, d4, d5, d6⟩, f0, f1, f2, f3, f4, f5, f6⟩ := cells7 H5.out.2
      go_wp2_with fail
      exact tel_set rfl rfl rfl rfl H5.out.2 (by omega) HS.out H5.out.1
    · have hR : R = rkA (quoQ a b) (quoE b) := HRR.out
      have HQ := rwquo_num HWX.out.1 HWX.out.2 (by decide) (by decide)
      have he : quoE b = 3 ∨ quoE b = 0 := by unfold quoE; split <;> simp
      obtain ⟨er, her⟩ : ∃ er, quoE b = er := ⟨_, rfl⟩
      rw [her] at HQ he hR
      have HQQ := Lib.hid HQ
      clear HRR HQ her
      rcases he with rfl | rfl
      all_goals
        subst hR
        go_wp2_with fail
        refine HQQ.out.mono ?_
        rintro e w4 ⟨u, v, rfl, ⟨_, rfl, B1, n1, k1, rfl, hs1, _⟩, ⟨_, rfl, B2, n2, k2, rfl, hs2, _⟩, b4⟩
        obtain ⟨W5, hW5, a0, a1, hz5, bel5⟩ := two2 w4 (.cells #[.bool (decide (quoQ a b < 0)), .slice B1 n1 k1] 27) (.cells #[.bool (decide (quoR a b < 0)), .slice B2 n2 k2] 27)
        have hb5 := H3.out.1.trans ((b4.trans (bel5.mono b4.size)).mono H3.out.1.size)
        have hz := (bel5.block (w.heap.size + 1 + 1) (Nat.lt_of_lt_of_le (Array.getElem?_eq_some_iff.1 H3.out.2).1 b4.size)).trans ((b4.block (w.heap.size + 1 + 1) (Array.getElem?_eq_some_iff.1 H3.out.2).1).trans H3.out.2)
        have H4 := Lib.hid (And.intro hb5 hz)
        have HW5 := Lib.hid hW5
        have HS5 := Lib.hid (And.intro (hs1.below bel5) (hs2.below bel5))
        obtain ⟨⟨d0, d1, d2, d3, d4, d5, d6⟩, f0, f1, f2, f3, f4, f5, f6⟩ := cells7 hz
        rw [hW5] at d0 d1 d2 d3 d4 d5 d6 f0 f1 f2 f3 f4 f5 f6
        clear hW5 a0 a1 hz5 bel5 hb5 hz hs1 hs2 b4 c0 c1 c2 c3
        go_wp2_with fail
        rw [← HW5.out]
      · exact tel_set rfl rfl rfl rfl H4.out.2 (by omega) Sl.nil H4.out.1
      · clear d0 d1 d2 d3 d4 d5 d6 f0 f1 f2 f3 f4 f5 f6
        refine (rnumber_any (quoQ a b) B1 n1 k1 _ HS5.out.1).mono ?_
        rintro e w5 ⟨A5, n5, c5, rfl, hs5, b5⟩
        have H5 := Lib.hid (And.intro (H4.out.1.trans (b5.mono H4.out.1.size)) ((b5.block (w.heap.size + 1 + 1) (Array.getElem?_eq_some_iff.1 H4.out.2).1).trans H4.out.2))
        have HS := Lib.hid hs5
        clear b5 hs5
        obtain ⟨⟨d0, d1, d2, d3, d4, d5, d6⟩, f0, f1, f2, f3, f4, f5, f6⟩ := cells7 H5.out.2
        go_wp2_with fail
        exact tel_set rfl rfl rfl rfl H5.out.2 (by omega) HS.out H5.out.1
    · have hR : R = rkA (quoR a b) (quoE b) := HRR.out
      have HQ := rwquo_num HWX.out.1 HWX.out.2 (by decide) (by decide)
      have he : quoE b = 3 ∨ quoE b = 0 := by unfold quoE; split <;> simp
      obtain ⟨er, her⟩ : ∃ er, quoE b = er := ⟨_, rfl⟩
      rw [her] at HQ he hR
      have HQQ := Lib.hid HQ
      clear HRR HQ her
      rcases he with rfl | rfl
      all_goals
        subst hR
        go_wp2_with fail
        refine HQQ.out.mono ?_
        rintro e w4 ⟨u, v, rfl, ⟨_, rfl, B1, n1, k1, rfl, hs1, _⟩, ⟨_, rfl, B2, n2, k2, rfl, hs2, _⟩, b4⟩
        obtain ⟨W5, hW5, a0, a1, hz5, bel5⟩ := two2 w4 (.cells #[.bool (decide (quoQ a b < 0)), .slice B1 n1 k1] 27) (.cells #[.bool (decide (quoR a b < 0)), .slice B2 n2 k2] 27)
        have hb5 := H3.out.1.trans ((b4.trans (bel5.mono b4.size)).mono H3.out.1.size)
        have hz := (bel5.block (w.heap.size + 1 + 1) (Nat.lt_of_lt_of_le (Array.getElem?_eq_some_iff.1 H3.out.2).1 b4.size)).trans ((b4.block (w.heap.size + 1 + 1) (Array.getElem?_eq_some_iff.1 H3.out.2).1).trans H3.out.2)
        have H4 := Lib.hid (And.intro hb5 hz)
        have HW5 := Lib.hid hW5
        have HS5 := Lib.hid (And.intro (hs1.below bel5) (hs2.below bel5))
        obtain ⟨⟨d0, d1, d2, d3, d4, d5, d6⟩, f0, f1, f2, f3, f4, f5, f6⟩ := cells7 hz
        rw [hW5] at d0 d1 d2 d3 d4 d5 d6 f0 f1 f2 f3 f4 f5 f6
        clear hW5 a0 a1 hz5 bel5 hb5 hz hs1 hs2 b4 c0 c1 c2 c3
        go_wp2_with fail
        rw [← HW5.out]
      · exact tel_set rfl rfl rfl rfl H4.out.2 (by omega) Sl.nil H4.out.1
      · clear d0 d1 d2 d3 d4 d5 d6 f0 f1 f2 f3 f4 f5 f6
        refine (rnumber_any (quoR a b) B2 n2 k2 _ HS5.out.2).mono ?_
        rintro e w5 ⟨A5, n5, c5, rfl, hs5, b5⟩
        have H5 := Lib.hid (And.intro (H4.out.1.trans (b5.mono H4.out.1.size)) ((b5.block (w.heap.size + 1 + 1) (Array.getElem?_eq_some_iff.1 H4.out.2).1).trans H4.out.2))
        have HS := Lib.hid hs5
        clear b5 hs5
        obtain ⟨⟨d0, d1, d2, d3, d4, d5, d6⟩, f0, f1, f2, f3, f4, f5, f6⟩ := cells7 H5.out.2
        go_wp2_with fail
        exact tel_set rfl rfl rfl rfl H5.out.2 (by omega) HS.out H5.out.1
    · have hR : R = rkA (flR a b) (quoE b) := HRR.out
      have HQ := rwquo_num HWX.out.1 HWX.out.2 (by decide) (by decide)
      have HFL := fun W (hb : Below wc.heap.size wc W) => rwfloor_num (HWX.out.1.below hb) (HWX.out.2.below hb) (by decide) (by decide)
      have he : quoE b = 3 ∨ quoE b = 0 := by unfold quoE; split <;> simp
      obtain ⟨er, her⟩ : ∃ er, quoE b = er := ⟨_, rfl⟩
      rw [her] at HQ he hR HFL
      have HQQ := Lib.hid HQ
      have HFF := Lib.hid HFL
      clear HRR HQ her HFL
      rcases he with rfl | rfl
      all_goals
        subst hR
        go_wp2_with fail
        refine HQQ.out.mono ?_
        rintro e w4 ⟨u, v, rfl, ⟨_, rfl, B1, n1, k1, rfl, hs1, _⟩, ⟨_, rfl, B2, n2, k2, rfl, hs2, _⟩, b4⟩
        obtain ⟨W5, hW5, a0, a1, hz5, bel5⟩ := two2 w4 (.cells #[.bool (decide (quoQ a b < 0)), .slice B1 n1 k1] 27) (.cells #[.bool (decide (quoR a b < 0)), .slice B2 n2 k2] 27)
        have hc5 := b4.trans (bel5.mono b4.size)
        have hb5 := H3.out.1.trans (hc5.mono H3.out.1.size)
        have hz := (hc5.block (w.heap.size + 1 + 1) (Array.getElem?_eq_some_iff.1 H3.out.2).1).trans H3.out.2
        have hlt := (Array.getElem?_eq_some_iff.1 H3.out.2).1
        have h4s := b4.size
        have H4 := Lib.hid (And.intro hb5 (And.intro hz (And.intro a0 (And.intro a1 (And.intro hz5 hc5)))))
        have HW5 := Lib.hid hW5
        have v1 := HV.out.1.below hc5 HV.out.1.lt
        have v2 := HV.out.2.1.below hc5 HV.out.2.1.lt
        obtain ⟨x0, x1, x2, x3⟩ := And.intro v1.c0 (And.intro v1.c1 (And.intro v2.c0 v2.c1))
        rw [hW5] at x0 x1 x2 x3
        clear hW5 a0 a1 hz5 bel5 hb5 hz hs1 hs2 b4 c0 c1 c2 c3 v1 v2 hc5
        go_wp2_with fail
        rw [← HW5.out]
        clear x0 x1 x2 x3
        refine (HFF.out W5 H4.out.2.2.2.2.2).mono ?_
        rintro e w6 ⟨u, v, rfl, ⟨_, rfl, B3, n3, k3, rfl, hs3, _⟩, ⟨_, rfl, B4, n4, k4, rfl, hs4, _⟩, b6⟩
        have hv1 : Var w6 w4.heap.size (.bool (decide (quoQ a b < 0))) (.slice B1 n1 k1) := (b6.block _ (by rw [H4.out.2.2.2.2.1]; omega)).trans H4.out.2.2.1
        have hv2 : Var w6 (w4.heap.size + 1) (.bool (decide (quoR a b < 0))) (.slice B2 n2 k2) := (b6.block _ (by rw [H4.out.2.2.2.2.1]; omega)).trans H4.out.2.2.2.1
        have hz := (b6.block (w.heap.size + 1 + 1) (by rw [H4.out.2.2.2.2.1]; omega)).trans H4.out.2.1
        have hb6 := H4.out.1.trans (b6.mono H4.out.1.size)
        obtain ⟨⟨d0, d1, d2, d3, d4, d5, d6⟩, f0, f1, f2, f3, f4, f5, f6⟩ := cells7 hz
        obtain ⟨p1, p2, p3, p4, p5, p6⟩ := hv1.room (.bool (decide (flQ a b < 0)))
        obtain ⟨q1, q2, q3, q4, q5, q6⟩ := hv2.room (.bool (decide (flR a b < 0)))
        have H6 := Lib.hid (And.intro hb6 (And.intro hz (And.intro hv1 (And.intro hv2 (And.intro hs3 hs4)))))
        have hge : w.heap.size + 1 + 1 < w4.heap.size := by omega
        have HG := Lib.hid (show w.heap.size ≤ w4.heap.size ∧ w.heap.size ≤ w4.heap.size + 1 ∧ w.heap.size ≤ w.heap.size + 1 + 1 by omega)
        clear hz hb6 hv1 hv2 hs3 hs4 b6 hlt h4s
        generalize w4.heap.size = gq at *
        generalize hgr : gq + 1 = gr at *
        have hn1 : gq ≠ gr := by omega
        have hn2 : gr ≠ gq := by omega
        have hn3 : gq ≠ w.heap.size + 1 + 1 := by omega
        have hn4 : gr ≠ w.heap.size + 1 + 1 := by omega
        generalize w.heap.size + 1 + 1 = gz at *
        have hn5 := hn3.symm
        have hn6 := hn4.symm
        have HT := Lib.hid (set_twice H6.out.2.2.1 H6.out.2.2.2.1 hn1 H6.out.2.1 hn5 hn6 H6.out.2.2.2.2.2 (by simp) (by simp) (by simp) (by simp) (.bool (decide (flQ a b < 0))) (.slice B3 n3 k3) (.bool (decide (flR a b < 0))) (.slice B4 n4 k4) _ rfl)
        clear hge hgr
        go_wp2_with fail
      · exact tel_set rfl rfl rfl rfl HT.out.1 HG.out.2.2 Sl.nil (H6.out.1.trans (HT.out.2.2 _ HG.out.1 HG.out.2.1))
      · clear d0 d1 d2 d3 d4 d5 d6 f0 f1 f2 f3 f4 f5 f6 p1 p2 p3 p4 p5 p6 q1 q2 q3 q4 q5 q6
        have H7 := Lib.hid (And.intro (H6.out.1.trans (HT.out.2.2 _ HG.out.1 HG.out.2.1)) (And.intro HT.out.1 HT.out.2.1))
        generalize ((((w6.setCell ⟨gq, 0, none⟩ (.bool (decide (flQ a b < 0)))).setCell ⟨gq, 1, none⟩ (.slice B3 n3 k3)).setCell ⟨gr, 0, none⟩ (.bool (decide (flR a b < 0)))).setCell ⟨gr, 1, none⟩ (.slice B4 n4 k4)) = W7 at *
        refine (rnumber_any (flR a b) B4 n4 k4 _ H7.out.2.2).mono ?_
        rintro e w8 ⟨A5, n5, c5, rfl, hs5, b5⟩
        have H5 := Lib.hid (And.intro (H7.out.1.trans (b5.mono H7.out.1.size)) ((b5.block gz (Array.getElem?_eq_some_iff.1 H7.out.2.1).1).trans H7.out.2.1))
        have HS := Lib.hid hs5
        clear b5 hs5
        obtain ⟨⟨d0, d1, d2, d3, d4, d5, d6⟩, f0, f1, f2, f3, f4, f5, f6⟩ := cells7 H5.out.2
        go_wp2_with fail
        exact tel_set rfl rfl rfl rfl H5.out.2 HG.out.2.2 HS.out H5.out.1
    · obtain ⟨z, hz⟩ : ∃ z, cmpZ a b = z := ⟨_, rfl⟩
      obtain ⟨r, hr⟩ : ∃ r, decide (z = 0) = r := ⟨_, rfl⟩
      have hR : R = boolA r := by rw [← hr, ← hz]; exact HRR.out
      subst hR
      have HC := rwcmp_num HWX.out.1 HWX.out.2 (by decide) (by decide)
      rw [hz] at HC
      have HCC := Lib.hid HC
      clear HRR HC hz
      go_wp2_with fail
      refine HCC.out.mono ?_
      rintro e w4 ⟨rfl, b4⟩
      have H4 := Lib.hid (And.intro (H3.out.1.trans (b4.mono H3.out.1.size)) ((b4.block (w.heap.size + 1 + 1) (Array.getElem?_eq_some_iff.1 H3.out.2).1).trans H3.out.2))
      clear b4 c0 c1 c2 c3 HCC
      have er : (z == 0) = r := by rw [← hr]; simp [Bool.beq_eq_decide_eq]
      clear hr
      go_wp2_with fail
      refine (rtruth_any r _).mono ?_
      rintro e w5 ⟨A5, n5, c5, rfl, hs5, b5⟩
      have H5 := Lib.hid (And.intro (H4.out.1.trans (b5.mono H4.out.1.size)) ((b5.block (w.heap.size + 1 + 1) (Array.getElem?_eq_some_iff.1 H4.out.2).1).trans H4.out.2))
      have HS := Lib.hid hs5
      clear b5 hs5
      obtain ⟨⟨d0, d1, d2, d3, d4, d5, d6⟩, f0, f1, f2, f3, f4, f5, f6⟩ := cells7 H5.out.2
      go_wp2_with fail
      exact tel_set rfl rfl rfl rfl H5.out.2 (by omega) HS.out H5.out.1
    · obtain ⟨z, hz⟩ : ∃ z, cmpZ a b = z := ⟨_, rfl⟩
      obtain ⟨r, hr⟩ : ∃ r, decide (z < 0) = r := ⟨_, rfl⟩
      have hR : R = boolA r := by rw [← hr, ← hz]; exact HRR.out
      subst hR
      have HC := rwcmp_num HWX.out.1 HWX.out.2 (by decide) (by decide)
      rw [hz] at HC
      have HCC := Lib.hid HC
      clear HRR HC hz
      go_wp2_with fail
      refine HCC.out.mono ?_
      rintro e w4 ⟨rfl, b4⟩
      have H4 := Lib.hid (And.intro (H3.out.1.trans (b4.mono H3.out.1.size)) ((b4.block (w.heap.size + 1 + 1) (Array.getElem?_eq_some_iff.1 H3.out.2).1).trans H3.out.2))
      clear b4 c0 c1 c2 c3 HCC
      have er : decide (z < 0) = r := by rw [← hr]
      clear hr
      go_wp2_with fail
      refine (rtruth_any r _).mono ?_
      rintro e w5 ⟨A5, n5, c5, rfl, hs5, b5⟩
      have H5 := Lib.hid (And.intro (H4.out.1.trans (b5.mono H4.out.1.size)) ((b5.block (w.heap.size + 1 + 1) (Array.getElem?_eq_some_iff.1 H4.out.2).1).trans H4.out.2))
      have HS := Lib.hid hs5
      clear b5 hs5
      obtain ⟨⟨d0, d1, d2, d3, d4, d5, d6⟩, f0, f1, f2, f3, f4, f5, f6⟩ := cells7 H5.out.2
      go_wp2_with fail
      exact tel_set rfl rfl rfl rfl H5.out.2 (by omega) HS.out H5.out.1
end
end Go.Proofs.YtocnlapbkidinaaGreatDoor
