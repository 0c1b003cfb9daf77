/-
  datum.twin: part, walked.
-/
import Derived.Test.YthdhdmmlmbkalaaGreatDoorJr4
set_option linter.unusedVariables false
set_option linter.unusedSimpArgs false
set_option linter.unusedSectionVars false
set_option linter.unnecessarySimpa false
namespace Go.Proofs.YthdhdmmlmbkalaaGreatDoor
open Go.RowKit

set_option maxRecDepth 100000 in
set_option maxHeartbeats 64000000 in
theorem part_any (b o R g TK n cap M : Nat) (u : LT) (w : World) (hc : ∀ j v, u.cells[j]? = some v → w.cell? ⟨b, o + j, none⟩ = some v) (hfz : ∀ j, w.frozen? ⟨b, o + j, none⟩ = false)
    (hu : Held w M u) (hln : u.ln ≤ 35184372087808) (hT : w.cell? ⟨TK, 0, none⟩ = some (.func (.func 141) #[] #[.pointer (some ⟨R, 0, none⟩)])) (hr : RoomAt w R g n cap) (hcap : cap ≤ 1000000000) (hroom : n + u.items.length + u.tail.length ≤ cap)
    (d1 : R ≠ g) (d2 : b ≠ R) (d3 : TK ≠ R) (d4 : TK ≠ g) (d5 : TK ≠ b) (hbg : b = g → o + 7 ≤ n * 7) (m1 : M ≤ R) (m2 : M ≤ g) (m3 : M ≤ b) :
    Calls Tryz.prog 142 #[.pointer (some ⟨b, o, none⟩), .pointer (some ⟨TK, 0, none⟩)] w fun e w' => e = .returned (.tuple #[]) ∧ PartEff w w' b o R g n cap u := by
  have c2 : w.cell? ⟨b, o + 2, none⟩ = some (.slice u.la u.ln u.lc) := hc 2 _ rfl
  have hblt : b < w.heap.size := World.block_lt_of_cell? w _ c2
  have hTlt : TK < w.heap.size := World.block_lt_of_cell? w _ hT
  have hRlt : R < w.heap.size := World.block_lt_of_cell? w _ hr.1
  have hglt : g < w.heap.size := by
    obtain ⟨cur0, hgb, _⟩ := hr.2.2
    exact (Array.getElem?_eq_some_iff.1 hgb).1
  have HC := Lib.hid (And.intro hc (And.intro hfz (And.intro hu (And.intro hT hr))))
  have HCl := Lib.hid (clone_any u.la u.ln u.lc u.ys w hu.1.1 hln)
  clear hc hfz hu hT hr
  go_enter Tryz.func142, Tryz.ntmps142
  go_wp2_with fail
  refine HCl.out.mono ?_
  rintro e w1 ⟨la, lc, rfl, hsl, hfr, b1⟩
  have hz1 := b1.size
  have k2 : w1.cell? ⟨b, o + 2, none⟩ = some (.slice u.la u.ln u.lc) := (b1.cell (p := ⟨b, o + 2, none⟩) hblt).trans c2
  have f2 : w1.frozen? ⟨b, o + 2, none⟩ = false := (b1.frozen (p := ⟨b, o + 2, none⟩) hblt).trans (HC.out.2.1 2)
  obtain ⟨W2, hW2⟩ : ∃ W2, w1.setCell ⟨b, o + 2, none⟩ (.slice la u.ln lc) = W2 := ⟨_, rfl⟩
  have hT2 : W2.cell? ⟨TK, 0, none⟩ = some (.func (.func 141) #[] #[.pointer (some ⟨R, 0, none⟩)]) := by
    rw [← hW2, set_other (fun e => d5 e.1)]
    exact (b1.cell (p := ⟨TK, 0, none⟩) hTlt).trans HC.out.2.2.2.1
  have x5 : W2.cell? ⟨b, o + 5, none⟩ = some (.slice u.ia u.items.length u.ic) := by
    rw [← hW2, set_other (by omega)]
    exact (b1.cell (p := ⟨b, o + 5, none⟩) hblt).trans (HC.out.1 5 _ rfl)
  have x6 : W2.cell? ⟨b, o + 6, none⟩ = some (.slice u.ta u.tail.length u.tc) := by
    rw [← hW2, set_other (by omega)]
    exact (b1.cell (p := ⟨b, o + 6, none⟩) hblt).trans (HC.out.1 6 _ rfl)
  have hr2 : RoomAt W2 R g n cap := by rw [← hW2]; exact (HC.out.2.2.2.2.below b1).set (o + 2) d2 _
  have hzW : W2.heap.size = w1.heap.size := by rw [← hW2, setCell_size]
  have hu2 : Held W2 M u := HC.out.2.2.1.keep (by omega) fun q hq => by
    rw [← hW2]
    exact (Below.heap_setCell _ _ _ _ (by show q ≠ b; omega)).trans (b1.block q (by omega))
  have fz2 : ∀ j, W2.frozen? ⟨b, o + j, none⟩ = false := fun j => by
    rw [← hW2, set_frz]
    exact (b1.frozen (p := ⟨b, o + j, none⟩) hblt).trans (HC.out.2.1 j)
  have hnew1 : 0 < u.items.length → ∃ ad, u.ia = some ad ∧ ∀ j v, (cellsAll u.items)[j]? = some v → W2.drew.cell? (ad.add j) = some v := fun hp => by
    refine ⟨_, (hu2.2.1.2.2.1 hp).1, fun j v hj => ?_⟩
    rw [cell_add]
    exact cells_of_liesR _ _ _ hu2.2.2.2.1 j v hj
  have HT1 := Lib.hid (take_eff R g n cap u.items.length u.ic u.ia (cellsAll u.items) W2.drew hr2 d1 (by omega) hcap (cellsAll_length _) hnew1 (cellsAll_one _))
  have HK := Lib.hid (And.intro hsl (And.intro hfr (And.intro b1 (And.intro hW2 (And.intro hu2 fz2)))))
  clear hsl hfr b1 hr2 hu2 fz2 hnew1
  go_wp2_with fail
  clear hW2 k2 f2 c2
  have hT2d := show W2.drew.cell? ⟨TK, 0, none⟩ = _ from hT2
  have x5d := show W2.drew.cell? ⟨b, o + 5, none⟩ = _ from x5
  have x6d := show W2.drew.cell? ⟨b, o + 6, none⟩ = _ from x6
  have hmix : Tryz.prog.follows .mixedOrders = true := by kernel_rfl
  go_region_law
    (first
      | (refine step_call 141 #[.slice u.ia u.items.length u.ic, .pointer (some ⟨R, 0, none⟩)] (by rfl) (by simp [execOp, Act.eval, go_sem]) (HT1.out.mono ?_); rintro e w3 ⟨a1, c1, rfl, hch1, ef1⟩; refine ⟨_, rfl, ?_⟩; have hT3 := (ef1.cell TK 0 d3 (fun e => absurd e d4)).trans hT2d; have x63 := (ef1.cell b (o + 6) d2 (fun e => by have := hbg e; omega)).trans x6d; have x53 := (ef1.cell b (o + 5) d2 (fun e => by have := hbg e; omega)).trans x5d; have hz3 : w3.heap.size = W2.heap.size := ef1.size; have hu3 : Held w3 M u := (Held.keep (w := W2) HK.out.2.2.2.2.1 (by omega) fun q hq => ef1.other q (by omega) (by omega)); have hnew2 : 0 < u.tail.length → ∃ ad, u.ta = some ad ∧ ∀ j v, (cellsAll u.tail)[j]? = some v → w3.cell? (ad.add j) = some v := (fun hp => ⟨_, (hu3.2.2.1.2.2.1 hp).1, fun j v hj => (by rw [cell_add]; exact cells_of_liesR _ _ _ hu3.2.2.2.2 j v hj)⟩); have HT2 := Lib.hid (take_eff R g (n + u.items.length) cap u.tail.length u.tc u.ta (cellsAll u.tail) w3 ef1.room d1 hroom hcap (cellsAll_length _) hnew2 (cellsAll_one _)); have HE1 := Lib.hid (And.intro ef1 hch1); clear ef1 hch1 hu3 hnew2)
      | (refine step_call 141 #[.slice u.ta u.tail.length u.tc, .pointer (some ⟨R, 0, none⟩)] (by rfl) (by simp [execOp, Act.eval, go_sem]) (HT2.out.mono ?_); rintro e w4 ⟨a2, c2, rfl, hch2, ef2⟩; refine ⟨_, rfl, ?_⟩; have x54 := (ef2.cell b (o + 5) d2 (fun e => by have := hbg e; omega)).trans x53; have x64 := (ef2.cell b (o + 6) d2 (fun e => by have := hbg e; omega)).trans x63; have f54 := ef2.frz b (o + 5) d2 (HE1.out.1.frz b (o + 5) d2 (show W2.drew.frozen? _ = false from HK.out.2.2.2.2.2 5)); have f64 := ef2.frz b (o + 6) d2 (HE1.out.1.frz b (o + 6) d2 (show W2.drew.frozen? _ = false from HK.out.2.2.2.2.2 6)); have HE2 := Lib.hid (And.intro ef2 hch2); clear ef2 hch2)
      | fail)
  all_goals
    go_wp2_with fail
    go_end0
    exact ⟨rfl, part_end HC.out.1 HK.out.2.2.1 HK.out.1 HK.out.2.1 HK.out.2.2.2.1 HE1.out.1 HE2.out.1 HE1.out.2 HE2.out.2 hblt hRlt hglt d1 d2 hbg m1⟩
theorem part_all : PartAny := part_any
end Go.Proofs.YthdhdmmlmbkalaaGreatDoor
