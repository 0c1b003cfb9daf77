/-
  core.boxes.around of a lambda of one variable that has a box. core.boxes.open of a lambda of one variable that is set. A lambda of one variable that is set: what is told of it, and what becomes of it.
-/
import Derived.Test.YthdhdmmlmbkalaaGreatDoorJr19
import Derived.Test.YthdhdmmlmbkalaaGreatDoorJr15
set_option linter.unusedVariables false
set_option linter.unusedSimpArgs false
set_option linter.unusedSectionVars false
set_option linter.unnecessarySimpa false
namespace Go.Proofs.YthdhdmmlmbkalaaGreatDoor
section
open Go.RowKit Go.Maps

set_option maxRecDepth 100000 in
set_option maxHeartbeats 12800000 in
theorem around_one (mb vb vo vc g2 : Nat) (v y : Int) (w : World) (hB : BoxMap w mb v y) (hv : InR v) (hx : w.cell? ⟨vb, vo, none⟩ = some (.int .i64 v)) :
    Calls Tryz.prog 62 #[.map (some mb), .slice (some ⟨vb, vo, none⟩) 1 vc, .agg #[.int .i64 7, .int .i64 0, .bool false, .slice none 0 0, .bool false, .string ⟨#[]⟩, .slice none 0 0, .slice none 0 0, .int .i64 0, .slice none 0 0, .bool false, .int .i64 37, .slice (some ⟨g2, 0, none⟩) 2 2]] w fun e w' => ∃ g3 g4, w.heap.size ≤ g3 ∧ w.heap.size ≤ g4 ∧ g3 < w'.heap.size ∧ g4 < w'.heap.size ∧ w'.heap[g3]? = some (Obj.cells #[.int .i64 2, .int .i64 0, .bool false, .slice none 0 0, .bool false, .string ⟨#[]⟩, .slice none 0 0, .slice none 0 0, .int .i64 v, .slice none 0 0, .bool false, .int .i64 0, .slice none 0 0] 31 (0, 0)) ∧ w'.heap[g4]? = some (.cells #[.int .i64 7, .int .i64 0, .bool false, .slice none 0 0, .bool false, .string ⟨#[]⟩, .slice none 0 0, .slice none 0 0, .int .i64 0, .slice none 0 0, .bool false, .int .i64 35, .slice (some ⟨g3, 0, none⟩) 1 1, .int .i64 7, .int .i64 0, .bool false, .slice none 0 0, .bool false, .string ⟨#[]⟩, .slice none 0 0, .slice none 0 0, .int .i64 0, .slice none 0 0, .bool false, .int .i64 37, .slice (some ⟨g2, 0, none⟩) 2 2] 31 (0, 0)) ∧
      e = .returned (.agg #[.int .i64 8, .int .i64 0, .bool false, .slice none 0 0, .bool false, .string ⟨#[]⟩, .slice none 0 0, .slice none 0 0, .int .i64 y, .slice none 0 0, .bool false, .int .i64 0, .slice (some ⟨g4, 0, none⟩) 2 2]) ∧ Below w.heap.size w w' := by
  obtain ⟨W2, hW2, a0, a1, hz2, hb2⟩ := two2 w (Obj.cells #[.int .i64 7, .int .i64 0, .bool false, .slice none 0 0, .bool false, .string ⟨#[]⟩, .slice none 0 0, .slice none 0 0, .int .i64 0, .slice none 0 0, .bool false, .int .i64 37, .slice (some ⟨g2, 0, none⟩) 2 2] 31) (Obj.cells #[.int .i64 0, .int .i64 0, .bool false, .slice none 0 0, .bool false, .string ⟨#[]⟩, .slice none 0 0, .slice none 0 0, .int .i64 0, .slice none 0 0, .bool false, .int .i64 0, .slice none 0 0] 31)
  have hvb : vb < w.heap.size := World.block_lt_of_cell? w _ hx
  obtain ⟨n, D, hBx, hat, hhas, -⟩ := hB.of_block (hb2.block mb hB.lt)
  have hx2 : W2.cell? ⟨vb, vo, none⟩ = some (.int .i64 v) := (hb2.cell hvb).trans hx
  have hkey : keyOf Tryz.prog 3 (.int .i64 v) = some (.int .i64 v) := keyOf_int_mk Tryz.underlying3 (WalkArith.wf_i64 hv)
  have H2 := Lib.hid (And.intro hW2.symm (And.intro a0 (And.intro a1 hb2)))
  clear hW2 a0 a1 hb2 hx hB
  go_enter Tryz.func62, Tryz.ntmps62
  go_wp2_with fail
  rw [H2.out.1]
  refine wp_loop_rounds 2 ?_
  rw [rounds_succ]
  go_wp2_with (at_lookup; refine wpList_lookup_own_ok_int _ rfl _ _ 69 rfl 3 3 .i64 keyI Tryz.underlying69 Tryz.underlying3 (zeroI _) mb _ _ rfl hBx _ _ rfl hkey ?_; intro c hatc hwc)
  obtain rfl : y = c := by rw [hat] at hatc; injection hatc with h; injection h
  clear hBx hat hatc hwc hkey
  go_wp2_with fail
  refine (variableE_any v W2).mono ?_
  rintro e w3 ⟨rfl, b3⟩
  have hz3 := b3.size
  obtain ⟨w4, hw4⟩ : ∃ w4, w3.alloc (Obj.cells #[.int .i64 2, .int .i64 0, .bool false, .slice none 0 0, .bool false, .string ⟨#[]⟩, .slice none 0 0, .slice none 0 0, .int .i64 v, .slice none 0 0, .bool false, .int .i64 0, .slice none 0 0] 31) = w4 := ⟨_, rfl⟩
  have hz4 : w4.heap.size = w3.heap.size + 1 := by rw [← hw4, World.size_alloc]
  have b4 : Below w3.heap.size w3 w4 := by rw [← hw4]; exact (Below.refl _ w3).alloc (Nat.le_refl _) _
  have a4 : w4.heap[w3.heap.size]? = some (Obj.cells #[.int .i64 2, .int .i64 0, .bool false, .slice none 0 0, .bool false, .string ⟨#[]⟩, .slice none 0 0, .slice none 0 0, .int .i64 v, .slice none 0 0, .bool false, .int .i64 0, .slice none 0 0] 31 (0, 0)) := by rw [← hw4]; exact World.alloc_heap_new _ _
  have H4 := Lib.hid (And.intro hw4 (And.intro a4 (b3.trans (b4.mono hz3))))
  clear hw4 a4 b3 b4 hx2
  go_wp2_with fail
  rw [H4.out.1]
  refine (primE_any 35 (some ⟨w3.heap.size, 0, none⟩) 1 1 w4).mono ?_
  rintro e w5 ⟨rfl, b5⟩
  have hz5 := b5.size
  obtain ⟨w6, hw6⟩ : ∃ w6, w5.alloc (Obj.cells #[.int .i64 7, .int .i64 0, .bool false, .slice none 0 0, .bool false, .string ⟨#[]⟩, .slice none 0 0, .slice none 0 0, .int .i64 0, .slice none 0 0, .bool false, .int .i64 35, .slice (some ⟨w3.heap.size, 0, none⟩) 1 1] 31) = w6 := ⟨_, rfl⟩
  have hz6 : w6.heap.size = w5.heap.size + 1 := by rw [← hw6, World.size_alloc]
  have b6 : Below w5.heap.size w5 w6 := by rw [← hw6]; exact (Below.refl _ w5).alloc (Nat.le_refl _) _
  have a6 : w6.heap[w5.heap.size]? = some (Obj.cells #[.int .i64 7, .int .i64 0, .bool false, .slice none 0 0, .bool false, .string ⟨#[]⟩, .slice none 0 0, .slice none 0 0, .int .i64 0, .slice none 0 0, .bool false, .int .i64 35, .slice (some ⟨w3.heap.size, 0, none⟩) 1 1] 31 (0, 0)) := by rw [← hw6]; exact World.alloc_heap_new _ _
  have hb26 : Below W2.heap.size W2 w6 := H4.out.2.2.trans ((b5.mono (by omega)).trans (b6.mono (by omega)))
  have p6 := (hb26.block w.heap.size (by omega)).trans H2.out.2.1
  have q6 := (hb26.block (w.heap.size + 1) (by omega)).trans H2.out.2.2.1
  have g6 := (b6.block w3.heap.size (by omega)).trans ((b5.block w3.heap.size (by omega)).trans H4.out.2.1)
  obtain ⟨w7, hw7⟩ : ∃ w7, w6.alloc (.cells #[.int .i64 7, .int .i64 0, .bool false, .slice none 0 0, .bool false, .string ⟨#[]⟩, .slice none 0 0, .slice none 0 0, .int .i64 0, .slice none 0 0, .bool false, .int .i64 35, .slice (some ⟨w3.heap.size, 0, none⟩) 1 1, .int .i64 7, .int .i64 0, .bool false, .slice none 0 0, .bool false, .string ⟨#[]⟩, .slice none 0 0, .slice none 0 0, .int .i64 0, .slice none 0 0, .bool false, .int .i64 37, .slice (some ⟨g2, 0, none⟩) 2 2] 31) = w7 := ⟨_, rfl⟩
  have hz7 : w7.heap.size = w6.heap.size + 1 := by rw [← hw7, World.size_alloc]
  have b7 : Below w6.heap.size w6 w7 := by rw [← hw7]; exact (Below.refl _ w6).alloc (Nat.le_refl _) _
  have a7 : w7.heap[w6.heap.size]? = some (.cells #[.int .i64 7, .int .i64 0, .bool false, .slice none 0 0, .bool false, .string ⟨#[]⟩, .slice none 0 0, .slice none 0 0, .int .i64 0, .slice none 0 0, .bool false, .int .i64 35, .slice (some ⟨w3.heap.size, 0, none⟩) 1 1, .int .i64 7, .int .i64 0, .bool false, .slice none 0 0, .bool false, .string ⟨#[]⟩, .slice none 0 0, .slice none 0 0, .int .i64 0, .slice none 0 0, .bool false, .int .i64 37, .slice (some ⟨g2, 0, none⟩) 2 2] 31 (0, 0)) := by rw [← hw7]; exact World.alloc_heap_new _ _
  have p7 := (b7.block w.heap.size (by omega)).trans p6
  have q7 := (b7.block (w.heap.size + 1) (by omega)).trans q6
  have t0 : w6.cell? ⟨w5.heap.size, 0, none⟩ = some (.int .i64 7) := by rw [Lib.cell_of_heap a6]; rfl
  have tf0 : w6.frozen? ⟨w5.heap.size, 0, none⟩ = false := Lib.frozen_of_heap a6 _
  have t1 : w6.cell? ⟨w5.heap.size, 1, none⟩ = some (.int .i64 0) := by rw [Lib.cell_of_heap a6]; rfl
  have tf1 : w6.frozen? ⟨w5.heap.size, 1, none⟩ = false := Lib.frozen_of_heap a6 _
  have t2 : w6.cell? ⟨w5.heap.size, 2, none⟩ = some (.bool false) := by rw [Lib.cell_of_heap a6]; rfl
  have tf2 : w6.frozen? ⟨w5.heap.size, 2, none⟩ = false := Lib.frozen_of_heap a6 _
  have t3 : w6.cell? ⟨w5.heap.size, 3, none⟩ = some (.slice none 0 0) := by rw [Lib.cell_of_heap a6]; rfl
  have tf3 : w6.frozen? ⟨w5.heap.size, 3, none⟩ = false := Lib.frozen_of_heap a6 _
  have t4 : w6.cell? ⟨w5.heap.size, 4, none⟩ = some (.bool false) := by rw [Lib.cell_of_heap a6]; rfl
  have tf4 : w6.frozen? ⟨w5.heap.size, 4, none⟩ = false := Lib.frozen_of_heap a6 _
  have t5 : w6.cell? ⟨w5.heap.size, 5, none⟩ = some (.string ⟨#[]⟩) := by rw [Lib.cell_of_heap a6]; rfl
  have tf5 : w6.frozen? ⟨w5.heap.size, 5, none⟩ = false := Lib.frozen_of_heap a6 _
  have t6 : w6.cell? ⟨w5.heap.size, 6, none⟩ = some (.slice none 0 0) := by rw [Lib.cell_of_heap a6]; rfl
  have tf6 : w6.frozen? ⟨w5.heap.size, 6, none⟩ = false := Lib.frozen_of_heap a6 _
  have t7 : w6.cell? ⟨w5.heap.size, 7, none⟩ = some (.slice none 0 0) := by rw [Lib.cell_of_heap a6]; rfl
  have tf7 : w6.frozen? ⟨w5.heap.size, 7, none⟩ = false := Lib.frozen_of_heap a6 _
  have t8 : w6.cell? ⟨w5.heap.size, 8, none⟩ = some (.int .i64 0) := by rw [Lib.cell_of_heap a6]; rfl
  have tf8 : w6.frozen? ⟨w5.heap.size, 8, none⟩ = false := Lib.frozen_of_heap a6 _
  have t9 : w6.cell? ⟨w5.heap.size, 9, none⟩ = some (.slice none 0 0) := by rw [Lib.cell_of_heap a6]; rfl
  have tf9 : w6.frozen? ⟨w5.heap.size, 9, none⟩ = false := Lib.frozen_of_heap a6 _
  have t10 : w6.cell? ⟨w5.heap.size, 10, none⟩ = some (.bool false) := by rw [Lib.cell_of_heap a6]; rfl
  have tf10 : w6.frozen? ⟨w5.heap.size, 10, none⟩ = false := Lib.frozen_of_heap a6 _
  have t11 : w6.cell? ⟨w5.heap.size, 11, none⟩ = some (.int .i64 35) := by rw [Lib.cell_of_heap a6]; rfl
  have tf11 : w6.frozen? ⟨w5.heap.size, 11, none⟩ = false := Lib.frozen_of_heap a6 _
  have t12 : w6.cell? ⟨w5.heap.size, 12, none⟩ = some (.slice (some ⟨w3.heap.size, 0, none⟩) 1 1) := by rw [Lib.cell_of_heap a6]; rfl
  have tf12 : w6.frozen? ⟨w5.heap.size, 12, none⟩ = false := Lib.frozen_of_heap a6 _
  have s0 : w6.cell? ⟨w.heap.size, 0, none⟩ = some (.int .i64 7) := by rw [Lib.cell_of_heap p6]; rfl
  have sf0 : w6.frozen? ⟨w.heap.size, 0, none⟩ = false := Lib.frozen_of_heap p6 _
  have s1 : w6.cell? ⟨w.heap.size, 1, none⟩ = some (.int .i64 0) := by rw [Lib.cell_of_heap p6]; rfl
  have sf1 : w6.frozen? ⟨w.heap.size, 1, none⟩ = false := Lib.frozen_of_heap p6 _
  have s2 : w6.cell? ⟨w.heap.size, 2, none⟩ = some (.bool false) := by rw [Lib.cell_of_heap p6]; rfl
  have sf2 : w6.frozen? ⟨w.heap.size, 2, none⟩ = false := Lib.frozen_of_heap p6 _
  have s3 : w6.cell? ⟨w.heap.size, 3, none⟩ = some (.slice none 0 0) := by rw [Lib.cell_of_heap p6]; rfl
  have sf3 : w6.frozen? ⟨w.heap.size, 3, none⟩ = false := Lib.frozen_of_heap p6 _
  have s4 : w6.cell? ⟨w.heap.size, 4, none⟩ = some (.bool false) := by rw [Lib.cell_of_heap p6]; rfl
  have sf4 : w6.frozen? ⟨w.heap.size, 4, none⟩ = false := Lib.frozen_of_heap p6 _
  have s5 : w6.cell? ⟨w.heap.size, 5, none⟩ = some (.string ⟨#[]⟩) := by rw [Lib.cell_of_heap p6]; rfl
  have sf5 : w6.frozen? ⟨w.heap.size, 5, none⟩ = false := Lib.frozen_of_heap p6 _
  have s6 : w6.cell? ⟨w.heap.size, 6, none⟩ = some (.slice none 0 0) := by rw [Lib.cell_of_heap p6]; rfl
  have sf6 : w6.frozen? ⟨w.heap.size, 6, none⟩ = false := Lib.frozen_of_heap p6 _
  have s7 : w6.cell? ⟨w.heap.size, 7, none⟩ = some (.slice none 0 0) := by rw [Lib.cell_of_heap p6]; rfl
  have sf7 : w6.frozen? ⟨w.heap.size, 7, none⟩ = false := Lib.frozen_of_heap p6 _
  have s8 : w6.cell? ⟨w.heap.size, 8, none⟩ = some (.int .i64 0) := by rw [Lib.cell_of_heap p6]; rfl
  have sf8 : w6.frozen? ⟨w.heap.size, 8, none⟩ = false := Lib.frozen_of_heap p6 _
  have s9 : w6.cell? ⟨w.heap.size, 9, none⟩ = some (.slice none 0 0) := by rw [Lib.cell_of_heap p6]; rfl
  have sf9 : w6.frozen? ⟨w.heap.size, 9, none⟩ = false := Lib.frozen_of_heap p6 _
  have s10 : w6.cell? ⟨w.heap.size, 10, none⟩ = some (.bool false) := by rw [Lib.cell_of_heap p6]; rfl
  have sf10 : w6.frozen? ⟨w.heap.size, 10, none⟩ = false := Lib.frozen_of_heap p6 _
  have s11 : w6.cell? ⟨w.heap.size, 11, none⟩ = some (.int .i64 37) := by rw [Lib.cell_of_heap p6]; rfl
  have sf11 : w6.frozen? ⟨w.heap.size, 11, none⟩ = false := Lib.frozen_of_heap p6 _
  have s12 : w6.cell? ⟨w.heap.size, 12, none⟩ = some (.slice (some ⟨g2, 0, none⟩) 2 2) := by rw [Lib.cell_of_heap p6]; rfl
  have sf12 : w6.frozen? ⟨w.heap.size, 12, none⟩ = false := Lib.frozen_of_heap p6 _
  have r0 : w7.cell? ⟨w.heap.size, 0, none⟩ = some (.int .i64 7) := by rw [Lib.cell_of_heap p7]; rfl
  have rf0 : w7.frozen? ⟨w.heap.size, 0, none⟩ = false := Lib.frozen_of_heap p7 _
  have r1 : w7.cell? ⟨w.heap.size, 1, none⟩ = some (.int .i64 0) := by rw [Lib.cell_of_heap p7]; rfl
  have rf1 : w7.frozen? ⟨w.heap.size, 1, none⟩ = false := Lib.frozen_of_heap p7 _
  have r2 : w7.cell? ⟨w.heap.size, 2, none⟩ = some (.bool false) := by rw [Lib.cell_of_heap p7]; rfl
  have rf2 : w7.frozen? ⟨w.heap.size, 2, none⟩ = false := Lib.frozen_of_heap p7 _
  have r3 : w7.cell? ⟨w.heap.size, 3, none⟩ = some (.slice none 0 0) := by rw [Lib.cell_of_heap p7]; rfl
  have rf3 : w7.frozen? ⟨w.heap.size, 3, none⟩ = false := Lib.frozen_of_heap p7 _
  have r4 : w7.cell? ⟨w.heap.size, 4, none⟩ = some (.bool false) := by rw [Lib.cell_of_heap p7]; rfl
  have rf4 : w7.frozen? ⟨w.heap.size, 4, none⟩ = false := Lib.frozen_of_heap p7 _
  have r5 : w7.cell? ⟨w.heap.size, 5, none⟩ = some (.string ⟨#[]⟩) := by rw [Lib.cell_of_heap p7]; rfl
  have rf5 : w7.frozen? ⟨w.heap.size, 5, none⟩ = false := Lib.frozen_of_heap p7 _
  have r6 : w7.cell? ⟨w.heap.size, 6, none⟩ = some (.slice none 0 0) := by rw [Lib.cell_of_heap p7]; rfl
  have rf6 : w7.frozen? ⟨w.heap.size, 6, none⟩ = false := Lib.frozen_of_heap p7 _
  have r7 : w7.cell? ⟨w.heap.size, 7, none⟩ = some (.slice none 0 0) := by rw [Lib.cell_of_heap p7]; rfl
  have rf7 : w7.frozen? ⟨w.heap.size, 7, none⟩ = false := Lib.frozen_of_heap p7 _
  have r8 : w7.cell? ⟨w.heap.size, 8, none⟩ = some (.int .i64 0) := by rw [Lib.cell_of_heap p7]; rfl
  have rf8 : w7.frozen? ⟨w.heap.size, 8, none⟩ = false := Lib.frozen_of_heap p7 _
  have r9 : w7.cell? ⟨w.heap.size, 9, none⟩ = some (.slice none 0 0) := by rw [Lib.cell_of_heap p7]; rfl
  have rf9 : w7.frozen? ⟨w.heap.size, 9, none⟩ = false := Lib.frozen_of_heap p7 _
  have r10 : w7.cell? ⟨w.heap.size, 10, none⟩ = some (.bool false) := by rw [Lib.cell_of_heap p7]; rfl
  have rf10 : w7.frozen? ⟨w.heap.size, 10, none⟩ = false := Lib.frozen_of_heap p7 _
  have r11 : w7.cell? ⟨w.heap.size, 11, none⟩ = some (.int .i64 37) := by rw [Lib.cell_of_heap p7]; rfl
  have rf11 : w7.frozen? ⟨w.heap.size, 11, none⟩ = false := Lib.frozen_of_heap p7 _
  have r12 : w7.cell? ⟨w.heap.size, 12, none⟩ = some (.slice (some ⟨g2, 0, none⟩) 2 2) := by rw [Lib.cell_of_heap p7]; rfl
  have rf12 : w7.frozen? ⟨w.heap.size, 12, none⟩ = false := Lib.frozen_of_heap p7 _
  have H7 := Lib.hid (And.intro hw6 (And.intro hw7 (And.intro p7 (And.intro q7 (And.intro a7 (And.intro ((b7.block w3.heap.size (by omega)).trans g6) (H2.out.2.2.2.trans ((hb26.mono (by omega)).trans (b7.mono (by omega))))))))))
  have hw6' := hw6
  have hw7' := hw7
  clear b5 b6 b7 a6 a7 p6 q6 p7 q7 g6 hb26 hw6 hw7
  go_wp2_with fail
  obtain ⟨w8, hw8⟩ : ∃ w8, (((((((((((((w7.setCell ⟨w.heap.size, 0, none⟩ (.int .i64 8)).setCell ⟨w.heap.size, 1, none⟩ (.int .i64 0)).setCell ⟨w.heap.size, 2, none⟩ (.bool false)).setCell ⟨w.heap.size, 3, none⟩ (.slice none 0 0)).setCell ⟨w.heap.size, 4, none⟩ (.bool false)).setCell ⟨w.heap.size, 5, none⟩ (.string ⟨#[]⟩)).setCell ⟨w.heap.size, 6, none⟩ (.slice none 0 0)).setCell ⟨w.heap.size, 7, none⟩ (.slice none 0 0)).setCell ⟨w.heap.size, 8, none⟩ (.int .i64 y)).setCell ⟨w.heap.size, 9, none⟩ (.slice none 0 0)).setCell ⟨w.heap.size, 10, none⟩ (.bool false)).setCell ⟨w.heap.size, 11, none⟩ (.int .i64 0)).setCell ⟨w.heap.size, 12, none⟩ (.slice (some ⟨w5.heap.size + 1, 0, none⟩) 2 2)) = w8 := ⟨_, rfl⟩
  rw [hw8]
  obtain ⟨-, -, p7, q7, a7, g7, hb7⟩ := H7.out
  have hz8 : w8.heap.size = w7.heap.size := by rw [← hw8]; simp [World.setCell]
  have hk8 : ∀ k, k ≠ w.heap.size → w8.heap[k]? = w7.heap[k]? := fun k hk => by rw [← hw8]; simp [World.setCell, Array.getElem?_modify, Ne.symm hk]
  have p8 : w8.heap[w.heap.size]? = some (Obj.cells #[.int .i64 8, .int .i64 0, .bool false, .slice none 0 0, .bool false, .string ⟨#[]⟩, .slice none 0 0, .slice none 0 0, .int .i64 y, .slice none 0 0, .bool false, .int .i64 0, .slice (some ⟨w5.heap.size + 1, 0, none⟩) 2 2] 31 (0, 0)) := by rw [← hw8]; simp [World.setCell, Array.getElem?_modify, p7]
  have q8 : w8.heap[w.heap.size + 1]? = some (Obj.cells #[.int .i64 0, .int .i64 0, .bool false, .slice none 0 0, .bool false, .string ⟨#[]⟩, .slice none 0 0, .slice none 0 0, .int .i64 0, .slice none 0 0, .bool false, .int .i64 0, .slice none 0 0] 31 (0, 0)) := (hk8 _ (by omega)).trans q7
  have g8 := (hk8 w3.heap.size (by omega)).trans g7
  have a8 := (hk8 w6.heap.size (by omega)).trans a7
  have hb8 : Below w.heap.size w w8 := by
    rw [← hw8]
    exact (((((((((((((hb7.setCell (p := ⟨w.heap.size, 0, none⟩) (Nat.le_refl _) _).setCell (p := ⟨w.heap.size, 1, none⟩) (Nat.le_refl _) _).setCell (p := ⟨w.heap.size, 2, none⟩) (Nat.le_refl _) _).setCell (p := ⟨w.heap.size, 3, none⟩) (Nat.le_refl _) _).setCell (p := ⟨w.heap.size, 4, none⟩) (Nat.le_refl _) _).setCell (p := ⟨w.heap.size, 5, none⟩) (Nat.le_refl _) _).setCell (p := ⟨w.heap.size, 6, none⟩) (Nat.le_refl _) _).setCell (p := ⟨w.heap.size, 7, none⟩) (Nat.le_refl _) _).setCell (p := ⟨w.heap.size, 8, none⟩) (Nat.le_refl _) _).setCell (p := ⟨w.heap.size, 9, none⟩) (Nat.le_refl _) _).setCell (p := ⟨w.heap.size, 10, none⟩) (Nat.le_refl _) _).setCell (p := ⟨w.heap.size, 11, none⟩) (Nat.le_refl _) _).setCell (p := ⟨w.heap.size, 12, none⟩) (Nat.le_refl _) _)
  have u0 : w8.cell? ⟨w.heap.size, 0, none⟩ = some (.int .i64 8) := by rw [Lib.cell_of_heap p8]; rfl
  have uf0 : w8.frozen? ⟨w.heap.size, 0, none⟩ = false := Lib.frozen_of_heap p8 _
  have u1 : w8.cell? ⟨w.heap.size, 1, none⟩ = some (.int .i64 0) := by rw [Lib.cell_of_heap p8]; rfl
  have uf1 : w8.frozen? ⟨w.heap.size, 1, none⟩ = false := Lib.frozen_of_heap p8 _
  have u2 : w8.cell? ⟨w.heap.size, 2, none⟩ = some (.bool false) := by rw [Lib.cell_of_heap p8]; rfl
  have uf2 : w8.frozen? ⟨w.heap.size, 2, none⟩ = false := Lib.frozen_of_heap p8 _
  have u3 : w8.cell? ⟨w.heap.size, 3, none⟩ = some (.slice none 0 0) := by rw [Lib.cell_of_heap p8]; rfl
  have uf3 : w8.frozen? ⟨w.heap.size, 3, none⟩ = false := Lib.frozen_of_heap p8 _
  have u4 : w8.cell? ⟨w.heap.size, 4, none⟩ = some (.bool false) := by rw [Lib.cell_of_heap p8]; rfl
  have uf4 : w8.frozen? ⟨w.heap.size, 4, none⟩ = false := Lib.frozen_of_heap p8 _
  have u5 : w8.cell? ⟨w.heap.size, 5, none⟩ = some (.string ⟨#[]⟩) := by rw [Lib.cell_of_heap p8]; rfl
  have uf5 : w8.frozen? ⟨w.heap.size, 5, none⟩ = false := Lib.frozen_of_heap p8 _
  have u6 : w8.cell? ⟨w.heap.size, 6, none⟩ = some (.slice none 0 0) := by rw [Lib.cell_of_heap p8]; rfl
  have uf6 : w8.frozen? ⟨w.heap.size, 6, none⟩ = false := Lib.frozen_of_heap p8 _
  have u7 : w8.cell? ⟨w.heap.size, 7, none⟩ = some (.slice none 0 0) := by rw [Lib.cell_of_heap p8]; rfl
  have uf7 : w8.frozen? ⟨w.heap.size, 7, none⟩ = false := Lib.frozen_of_heap p8 _
  have u8 : w8.cell? ⟨w.heap.size, 8, none⟩ = some (.int .i64 y) := by rw [Lib.cell_of_heap p8]; rfl
  have uf8 : w8.frozen? ⟨w.heap.size, 8, none⟩ = false := Lib.frozen_of_heap p8 _
  have u9 : w8.cell? ⟨w.heap.size, 9, none⟩ = some (.slice none 0 0) := by rw [Lib.cell_of_heap p8]; rfl
  have uf9 : w8.frozen? ⟨w.heap.size, 9, none⟩ = false := Lib.frozen_of_heap p8 _
  have u10 : w8.cell? ⟨w.heap.size, 10, none⟩ = some (.bool false) := by rw [Lib.cell_of_heap p8]; rfl
  have uf10 : w8.frozen? ⟨w.heap.size, 10, none⟩ = false := Lib.frozen_of_heap p8 _
  have u11 : w8.cell? ⟨w.heap.size, 11, none⟩ = some (.int .i64 0) := by rw [Lib.cell_of_heap p8]; rfl
  have uf11 : w8.frozen? ⟨w.heap.size, 11, none⟩ = false := Lib.frozen_of_heap p8 _
  have u12 : w8.cell? ⟨w.heap.size, 12, none⟩ = some (.slice (some ⟨w5.heap.size + 1, 0, none⟩) 2 2) := by rw [Lib.cell_of_heap p8]; rfl
  have uf12 : w8.frozen? ⟨w.heap.size, 12, none⟩ = false := Lib.frozen_of_heap p8 _
  have x0 : w8.cell? ⟨w.heap.size + 1, 0, none⟩ = some (.int .i64 0) := by rw [Lib.cell_of_heap q8]; rfl
  have xf0 : w8.frozen? ⟨w.heap.size + 1, 0, none⟩ = false := Lib.frozen_of_heap q8 _
  have x1 : w8.cell? ⟨w.heap.size + 1, 1, none⟩ = some (.int .i64 0) := by rw [Lib.cell_of_heap q8]; rfl
  have xf1 : w8.frozen? ⟨w.heap.size + 1, 1, none⟩ = false := Lib.frozen_of_heap q8 _
  have x2 : w8.cell? ⟨w.heap.size + 1, 2, none⟩ = some (.bool false) := by rw [Lib.cell_of_heap q8]; rfl
  have xf2 : w8.frozen? ⟨w.heap.size + 1, 2, none⟩ = false := Lib.frozen_of_heap q8 _
  have x3 : w8.cell? ⟨w.heap.size + 1, 3, none⟩ = some (.slice none 0 0) := by rw [Lib.cell_of_heap q8]; rfl
  have xf3 : w8.frozen? ⟨w.heap.size + 1, 3, none⟩ = false := Lib.frozen_of_heap q8 _
  have x4 : w8.cell? ⟨w.heap.size + 1, 4, none⟩ = some (.bool false) := by rw [Lib.cell_of_heap q8]; rfl
  have xf4 : w8.frozen? ⟨w.heap.size + 1, 4, none⟩ = false := Lib.frozen_of_heap q8 _
  have x5 : w8.cell? ⟨w.heap.size + 1, 5, none⟩ = some (.string ⟨#[]⟩) := by rw [Lib.cell_of_heap q8]; rfl
  have xf5 : w8.frozen? ⟨w.heap.size + 1, 5, none⟩ = false := Lib.frozen_of_heap q8 _
  have x6 : w8.cell? ⟨w.heap.size + 1, 6, none⟩ = some (.slice none 0 0) := by rw [Lib.cell_of_heap q8]; rfl
  have xf6 : w8.frozen? ⟨w.heap.size + 1, 6, none⟩ = false := Lib.frozen_of_heap q8 _
  have x7 : w8.cell? ⟨w.heap.size + 1, 7, none⟩ = some (.slice none 0 0) := by rw [Lib.cell_of_heap q8]; rfl
  have xf7 : w8.frozen? ⟨w.heap.size + 1, 7, none⟩ = false := Lib.frozen_of_heap q8 _
  have x8 : w8.cell? ⟨w.heap.size + 1, 8, none⟩ = some (.int .i64 0) := by rw [Lib.cell_of_heap q8]; rfl
  have xf8 : w8.frozen? ⟨w.heap.size + 1, 8, none⟩ = false := Lib.frozen_of_heap q8 _
  have x9 : w8.cell? ⟨w.heap.size + 1, 9, none⟩ = some (.slice none 0 0) := by rw [Lib.cell_of_heap q8]; rfl
  have xf9 : w8.frozen? ⟨w.heap.size + 1, 9, none⟩ = false := Lib.frozen_of_heap q8 _
  have x10 : w8.cell? ⟨w.heap.size + 1, 10, none⟩ = some (.bool false) := by rw [Lib.cell_of_heap q8]; rfl
  have xf10 : w8.frozen? ⟨w.heap.size + 1, 10, none⟩ = false := Lib.frozen_of_heap q8 _
  have x11 : w8.cell? ⟨w.heap.size + 1, 11, none⟩ = some (.int .i64 0) := by rw [Lib.cell_of_heap q8]; rfl
  have xf11 : w8.frozen? ⟨w.heap.size + 1, 11, none⟩ = false := Lib.frozen_of_heap q8 _
  have x12 : w8.cell? ⟨w.heap.size + 1, 12, none⟩ = some (.slice none 0 0) := by rw [Lib.cell_of_heap q8]; rfl
  have xf12 : w8.frozen? ⟨w.heap.size + 1, 12, none⟩ = false := Lib.frozen_of_heap q8 _
  have H8 := Lib.hid (And.intro g8 (And.intro a8 (And.intro hb8 q8)))
  clear p7 q7 a7 g7 hb7 hw8 hk8 p8 q8 g8 a8 hb8 H7 hw6' hw7' t0 tf0 t1 tf1 t2 tf2 t3 tf3 t4 tf4 t5 tf5 t6 tf6 t7 tf7 t8 tf8 t9 tf9 t10 tf10 t11 tf11 t12 tf12 s0 sf0 s1 sf1 s2 sf2 s3 sf3 s4 sf4 s5 sf5 s6 sf6 s7 sf7 s8 sf8 s9 sf9 s10 sf10 s11 sf11 s12 sf12 r0 rf0 r1 rf1 r2 rf2 r3 rf3 r4 rf4 r5 rf5 r6 rf6 r7 rf7 r8 rf8 r9 rf9 r10 rf10 r11 rf11 r12 rf12
  rw [rounds_succ]
  go_wp2_with fail
  obtain ⟨w9, hw9⟩ : ∃ w9, (((((((((((((w8.setCell ⟨w.heap.size + 1, 0, none⟩ (.int .i64 8)).setCell ⟨w.heap.size + 1, 1, none⟩ (.int .i64 0)).setCell ⟨w.heap.size + 1, 2, none⟩ (.bool false)).setCell ⟨w.heap.size + 1, 3, none⟩ (.slice none 0 0)).setCell ⟨w.heap.size + 1, 4, none⟩ (.bool false)).setCell ⟨w.heap.size + 1, 5, none⟩ (.string ⟨#[]⟩)).setCell ⟨w.heap.size + 1, 6, none⟩ (.slice none 0 0)).setCell ⟨w.heap.size + 1, 7, none⟩ (.slice none 0 0)).setCell ⟨w.heap.size + 1, 8, none⟩ (.int .i64 y)).setCell ⟨w.heap.size + 1, 9, none⟩ (.slice none 0 0)).setCell ⟨w.heap.size + 1, 10, none⟩ (.bool false)).setCell ⟨w.heap.size + 1, 11, none⟩ (.int .i64 0)).setCell ⟨w.heap.size + 1, 12, none⟩ (.slice (some ⟨w5.heap.size + 1, 0, none⟩) 2 2)) = w9 := ⟨_, rfl⟩
  (try simp only [Exit.inBlock, Exit.then])
  (try rw [hw9])
  obtain ⟨g8, a8, hb8, q8⟩ := H8.out
  have hk9 : ∀ k, k ≠ w.heap.size + 1 → w9.heap[k]? = w8.heap[k]? := fun k hk => by rw [← hw9]; simp [World.setCell, Array.getElem?_modify, Ne.symm hk]
  have q9 : w9.heap[w.heap.size + 1]? = some (Obj.cells #[.int .i64 8, .int .i64 0, .bool false, .slice none 0 0, .bool false, .string ⟨#[]⟩, .slice none 0 0, .slice none 0 0, .int .i64 y, .slice none 0 0, .bool false, .int .i64 0, .slice (some ⟨w5.heap.size + 1, 0, none⟩) 2 2] 31 (0, 0)) := by rw [← hw9]; simp [World.setCell, Array.getElem?_modify, q8]
  have hz9 : w9.heap.size = w8.heap.size := by rw [← hw9]; simp [World.setCell]
  have hb9 : Below w.heap.size w w9 := by
    rw [← hw9]
    exact (((((((((((((hb8.setCell (p := ⟨w.heap.size + 1, 0, none⟩) (Nat.le_succ _) _).setCell (p := ⟨w.heap.size + 1, 1, none⟩) (Nat.le_succ _) _).setCell (p := ⟨w.heap.size + 1, 2, none⟩) (Nat.le_succ _) _).setCell (p := ⟨w.heap.size + 1, 3, none⟩) (Nat.le_succ _) _).setCell (p := ⟨w.heap.size + 1, 4, none⟩) (Nat.le_succ _) _).setCell (p := ⟨w.heap.size + 1, 5, none⟩) (Nat.le_succ _) _).setCell (p := ⟨w.heap.size + 1, 6, none⟩) (Nat.le_succ _) _).setCell (p := ⟨w.heap.size + 1, 7, none⟩) (Nat.le_succ _) _).setCell (p := ⟨w.heap.size + 1, 8, none⟩) (Nat.le_succ _) _).setCell (p := ⟨w.heap.size + 1, 9, none⟩) (Nat.le_succ _) _).setCell (p := ⟨w.heap.size + 1, 10, none⟩) (Nat.le_succ _) _).setCell (p := ⟨w.heap.size + 1, 11, none⟩) (Nat.le_succ _) _).setCell (p := ⟨w.heap.size + 1, 12, none⟩) (Nat.le_succ _) _)
  have g9 := (hk9 w3.heap.size (by omega)).trans g8
  have a9 := (hk9 w6.heap.size (by omega)).trans a8
  rw [hz6] at a9
  refine bodyPost_ret (v := .agg #[.int .i64 8, .int .i64 0, .bool false, .slice none 0 0, .bool false, .string ⟨#[]⟩, .slice none 0 0, .slice none 0 0, .int .i64 y, .slice none 0 0, .bool false, .int .i64 0, .slice (some ⟨w5.heap.size + 1, 0, none⟩) 2 2]) (results_e rfl rfl (by rw [Lib.cell_of_heap q9]; rfl) (by rw [Lib.cell_of_heap q9]; rfl) (by rw [Lib.cell_of_heap q9]; rfl) (by rw [Lib.cell_of_heap q9]; rfl) (by rw [Lib.cell_of_heap q9]; rfl) (by rw [Lib.cell_of_heap q9]; rfl) (by rw [Lib.cell_of_heap q9]; rfl) (by rw [Lib.cell_of_heap q9]; rfl) (by rw [Lib.cell_of_heap q9]; rfl) (by rw [Lib.cell_of_heap q9]; rfl) (by rw [Lib.cell_of_heap q9]; rfl) (by rw [Lib.cell_of_heap q9]; rfl) (by rw [Lib.cell_of_heap q9]; rfl)) rfl ?_
  exact ⟨w3.heap.size, w5.heap.size + 1, by omega, by omega, by omega, by omega, g9, a9, rfl, hb9⟩
end
end Go.Proofs.YthdhdmmlmbkalaaGreatDoor
namespace Go.Proofs.YthdhdmmlmbkalaaGreatDoor
section
open Go.RowKit Go.Maps

theorem exec_call3 {P : Program} {a : Act} {w : World} {o : Oper} {f p q r : Nat} {T T' T2 : TypeId} (ho : o.op = .call { callee := .value (.func f), args := #[.tmp p, .tmp q, .tmp r], argTypes := #[T, T', T2] }) :
    (execOp a.eval o).run P w = (callFunc f #[a.tmps.getD p undef, a.tmps.getD q undef, a.tmps.getD r undef]).run P w := by
  simp [execOp, ho, Act.eval, go_sem]
set_option maxRecDepth 100000 in
set_option maxHeartbeats 12800000 in
theorem open_lam (mb O o sb so xb xo vb vo : Nat) (VV y : Int) (T S X : ET) (w : World) (hB : BoxMap w mb VV y) (hv : InR VV) (hT : T.k = 5 ∧ T.v = 0 ∧ T.kids = [S] ∧ T.ka = some ⟨sb, so, none⟩ ∧ T.vs = [VV] ∧ T.va = some ⟨vb, vo, none⟩) (hSS : S.k = 3 ∧ S.v = VV ∧ S.kids = [X] ∧ S.ka = some ⟨xb, xo, none⟩) (hXX : X.k = 2 ∧ X.v = VV ∧ X.kids = [])
    (hTc : ∀ j v, T.cells[j]? = some v → w.cell? ⟨O, o + j, none⟩ = some v) (hS : ∀ j v, S.cells[j]? = some v → w.cell? ⟨sb, so + j, none⟩ = some v) (hfS : ∀ j, w.frozen? ⟨sb, so + j, none⟩ = false) (hX : ∀ j v, X.cells[j]? = some v → w.cell? ⟨xb, xo + j, none⟩ = some v) (hfX : ∀ j, w.frozen? ⟨xb, xo + j, none⟩ = false)
    (hvc : w.cell? ⟨vb, vo, none⟩ = some (.int .i64 VV)) (hne : sb ≠ mb ∧ xb ≠ mb ∧ O ≠ sb ∧ O ≠ xb ∧ vb ≠ sb ∧ vb ≠ xb) (hdis : xb = sb → so + 13 ≤ xo) :
    Calls Tryz.prog 35 #[.map (some mb), .pointer (some ⟨O, o, none⟩)] w fun e w' => e = .returned (.tuple #[]) ∧ ∃ g1 g2 g3 g4, (w.heap.size ≤ g1 ∧ g1 < w'.heap.size) ∧ (w.heap.size ≤ g2 ∧ g2 < w'.heap.size) ∧ (w.heap.size ≤ g3 ∧ g3 < w'.heap.size) ∧ (w.heap.size ≤ g4 ∧ g4 < w'.heap.size) ∧
      w'.heap[g1]? = some (.cells #[.int .i64 2, .int .i64 0, .bool false, .slice none 0 0, .bool false, .string ⟨#[]⟩, .slice none 0 0, .slice none 0 0, .int .i64 y, .slice none 0 0, .bool false, .int .i64 0, .slice none 0 0] 31 (0, 0)) ∧ w'.heap[g2]? = some (.cells #[.int .i64 2, .int .i64 0, .bool false, .slice none 0 0, .bool false, .string ⟨#[]⟩, .slice none 0 0, .slice none 0 0, .int .i64 y, .slice none 0 0, .bool false, .int .i64 0, .slice none 0 0, .int .i64 7, .int .i64 0, .bool false, .slice none 0 0, .bool false, .string ⟨#[]⟩, .slice none 0 0, .slice none 0 0, .int .i64 0, .slice none 0 0, .bool false, .int .i64 36, .slice (some ⟨g1, 0, none⟩) 1 1] 31 (0, 0)) ∧ w'.heap[g3]? = some (.cells #[.int .i64 2, .int .i64 0, .bool false, .slice none 0 0, .bool false, .string ⟨#[]⟩, .slice none 0 0, .slice none 0 0, .int .i64 VV, .slice none 0 0, .bool false, .int .i64 0, .slice none 0 0] 31 (0, 0)) ∧ w'.heap[g4]? = some (.cells #[.int .i64 7, .int .i64 0, .bool false, .slice none 0 0, .bool false, .string ⟨#[]⟩, .slice none 0 0, .slice none 0 0, .int .i64 0, .slice none 0 0, .bool false, .int .i64 35, .slice (some ⟨g3, 0, none⟩) 1 1, .int .i64 7, .int .i64 0, .bool false, .slice none 0 0, .bool false, .string ⟨#[]⟩, .slice none 0 0, .slice none 0 0, .int .i64 0, .slice none 0 0, .bool false, .int .i64 37, .slice (some ⟨g2, 0, none⟩) 2 2] 31 (0, 0)) ∧
      (∀ j v, ([.int .i64 8, .int .i64 0, .bool false, .slice none 0 0, .bool false, .string ⟨#[]⟩, .slice none 0 0, .slice none 0 0, .int .i64 y, .slice none 0 0, .bool false, .int .i64 0, .slice (some ⟨g4, 0, none⟩) 2 2] : List Value)[j]? = some v → w'.cell? ⟨sb, so + j, none⟩ = some v) ∧ Turned2 w w' sb so xb xo := by
  have hOl : O < w.heap.size := World.block_lt_of_cell? w _ (hTc 0 _ rfl)
  have hsl : sb < w.heap.size := World.block_lt_of_cell? w _ (hS 0 _ rfl)
  have hxl : xb < w.heap.size := World.block_lt_of_cell? w _ (hX 0 _ rfl)
  have hvl : vb < w.heap.size := World.block_lt_of_cell? w _ hvc
  have hml := hB.lt
  obtain ⟨n1, n2, n3, n4, n5, n6⟩ := hne
  have hOS := open_set mb sb so xb xo y S X w (by rw [hSS.2.1]; exact hB) (by rw [hSS.2.1]; exact hv) hSS.1 hSS.2.2.1 hSS.2.2.2 hXX.1 (by rw [hXX.2.1, hSS.2.1]) hXX.2.2 hS hfS hX hfX n1 n2 hdis
  have c12 : w.cell? ⟨O, o + 12, none⟩ = some (.slice (some ⟨sb, so, none⟩) 1 T.kc) := by have h := hTc 12 _ rfl; rw [hT.2.2.1, hT.2.2.2.1] at h; exact h
  have c9 : w.cell? ⟨O, o + 9, none⟩ = some (.slice (some ⟨vb, vo, none⟩) 1 T.vc) := by have h := hTc 9 _ rfl; rw [hT.2.2.2.2.1, hT.2.2.2.2.2] at h; exact h
  have c0 : w.cell? ⟨O, o, none⟩ = some (.int .i64 5) := by have h := hTc 0 _ rfl; rw [hT.1] at h; exact h
  have c8 : w.cell? ⟨O, o + 8, none⟩ = some (.int .i64 0) := by have h := hTc 8 _ rfl; rw [hT.2.1] at h; exact h
  have hkey : keyOf Tryz.prog 3 (.int .i64 0) = some (.int .i64 0) := keyOf_int_mk Tryz.underlying3 (WalkArith.wf_i64 (by omega))
  have HH := Lib.hid (And.intro hOS (And.intro hB (And.intro hS (And.intro hfS hvc))))
  have HC := Lib.hid (And.intro c0 (And.intro c8 c9))
  clear hOS hB hS hfS hX hfX hvc hT hSS hXX hTc c0 c8 c9
  go_enter Tryz.func35, Tryz.ntmps35
  go_wp2_with fail
  refine wp_loop_rounds 2 ?_
  rw [rounds_succ]
  go_wp2_with fail
  refine HH.out.1.mono ?_
  rintro e w1 ⟨rfl, g1, g2, hg1a, hg2a, hg1b, hg2b, hg1c, hg2c, hpl, ht2⟩
  have hsz := ht2.size
  have hOc : ∀ off v, w.cell? ⟨O, off, none⟩ = some v → w1.cell? ⟨O, off, none⟩ = some v := fun off v h => (ht2.other O off hOl (fun h => n3 h.1) (fun h => n4 h.1)).trans h
  have d0 := hOc _ _ HC.out.1
  have d8 := hOc _ _ HC.out.2.1
  have d9 := hOc _ _ HC.out.2.2
  have d12 := hOc _ _ c12
  have hOl1 : O < w1.heap.size := by omega
  have hsl1 : sb < w1.heap.size := by omega
  have hvl1 : vb < w1.heap.size := by omega
  have hml1 : mb < w1.heap.size := by omega
  have hB1 := HH.out.2.1.of_block (ht2.block mb hml (Ne.symm n1) (Ne.symm n2))
  obtain ⟨n, D, hBx, -, -, hno⟩ := id hB1
  have H1 := Lib.hid (And.intro ht2 (And.intro hpl (And.intro hB1 ((ht2.other vb vo hvl (fun h => n5 h.1) (fun h => n6 h.1)).trans HH.out.2.2.2.2))))
  have HG := Lib.hid (And.intro hg1c hg2c)
  have HS := Lib.hid (And.intro (show ∀ j, j < 13 → ∃ x, w1.cell? ⟨sb, so + j, none⟩ = some x from fun j hj => ⟨_, hpl j _ (List.getElem?_eq_getElem (l := ([.int .i64 7, .int .i64 0, .bool false, .slice none 0 0, .bool false, .string ⟨#[]⟩, .slice none 0 0, .slice none 0 0, .int .i64 0, .slice none 0 0, .bool false, .int .i64 37, .slice (some ⟨g2, 0, none⟩) 2 2] : List Value)) hj)⟩) (show ∀ j, w1.frozen? ⟨sb, so + j, none⟩ = false from fun j => (ht2.frz sb (so + j) hsl).trans (HH.out.2.2.2.1 j)))
  clear ht2 hpl hB1 hg1c hg2c c12
  go_wp2_with fail
  rw [rounds_succ]
  go_wp2_with (at_lookup; refine wpList_lookup_own_ok_int _ rfl _ _ 69 rfl 3 3 .i64 keyI Tryz.underlying69 Tryz.underlying3 (zeroI _) mb _ _ rfl hBx _ _ rfl hkey ?_; intro c hatc hwc)
  clear hBx hatc hwc hkey
  go_wp2_with fail
  refine wp_region_phases (nA := 17) (by kernel_rfl) (by kernel_rfl) (fun i => 39 + i)
    (fun i W v => match i with
      | 0 => v = .pointer (some ⟨O, o, none⟩)
      | 1 => v = .pointer (some ⟨O, o, none⟩)
      | 2 => v = .pointer (some ⟨O, o + 12, none⟩)
      | 3 => v = .slice (some ⟨sb, so, none⟩) 1 T.kc
      | 4 => v = .map (some mb)
      | 5 => v = .pointer (some ⟨O, o, none⟩)
      | 6 => v = .pointer (some ⟨O, o, none⟩)
      | 7 => v = .pointer (some ⟨O, o + 9, none⟩)
      | 8 => v = .slice (some ⟨vb, vo, none⟩) 1 T.vc
      | 9 => v = .pointer (some ⟨O, o, none⟩)
      | 10 => v = .pointer (some ⟨O, o, none⟩)
      | 11 => v = .pointer (some ⟨O, o + 12, none⟩)
      | 12 => v = .slice (some ⟨sb, so, none⟩) 1 T.kc
      | 13 => v = .pointer (some ⟨sb, so, none⟩)
      | 14 => v = .agg #[.int .i64 7, .int .i64 0, .bool false, .slice none 0 0, .bool false, .string ⟨#[]⟩, .slice none 0 0, .slice none 0 0, .int .i64 0, .slice none 0 0, .bool false, .int .i64 37, .slice (some ⟨g2, 0, none⟩) 2 2]
      | 15 => ∃ g3 g4, w1.heap.size ≤ g3 ∧ w1.heap.size ≤ g4 ∧ g3 < W.heap.size ∧ g4 < W.heap.size ∧ W.heap[g3]? = some (.cells #[.int .i64 2, .int .i64 0, .bool false, .slice none 0 0, .bool false, .string ⟨#[]⟩, .slice none 0 0, .slice none 0 0, .int .i64 VV, .slice none 0 0, .bool false, .int .i64 0, .slice none 0 0] 31 (0, 0)) ∧ W.heap[g4]? = some (.cells #[.int .i64 7, .int .i64 0, .bool false, .slice none 0 0, .bool false, .string ⟨#[]⟩, .slice none 0 0, .slice none 0 0, .int .i64 0, .slice none 0 0, .bool false, .int .i64 35, .slice (some ⟨g3, 0, none⟩) 1 1, .int .i64 7, .int .i64 0, .bool false, .slice none 0 0, .bool false, .string ⟨#[]⟩, .slice none 0 0, .slice none 0 0, .int .i64 0, .slice none 0 0, .bool false, .int .i64 37, .slice (some ⟨g2, 0, none⟩) 2 2] 31 (0, 0)) ∧ v = .agg #[.int .i64 8, .int .i64 0, .bool false, .slice none 0 0, .bool false, .string ⟨#[]⟩, .slice none 0 0, .slice none 0 0, .int .i64 y, .slice none 0 0, .bool false, .int .i64 0, .slice (some ⟨g4, 0, none⟩) 2 2]
      | _ => v = .pointer (some ⟨sb, so, none⟩)) (by decide) (by kernel_rfl)
    (fun i j hi hj h => by omega) (fun i hi => by simp only [List.size_toArray, List.length_cons, List.length_nil]; omega) ?_ ?_ ?_
  · intro i hi W W' v h hb
    rcases (show i = 0 ∨ i = 1 ∨ i = 2 ∨ i = 3 ∨ i = 4 ∨ i = 5 ∨ i = 6 ∨ i = 7 ∨ i = 8 ∨ i = 9 ∨ i = 10 ∨ i = 11 ∨ i = 12 ∨ i = 13 ∨ i = 14 ∨ i = 15 ∨ i = 16 by omega) with rfl | rfl | rfl | rfl | rfl | rfl | rfl | rfl | rfl | rfl | rfl | rfl | rfl | rfl | rfl | rfl | rfl
    · exact h
    · exact h
    · exact h
    · exact h
    · exact h
    · exact h
    · exact h
    · exact h
    · exact h
    · exact h
    · exact h
    · exact h
    · exact h
    · exact h
    · exact h
    · obtain ⟨g3, g4, h1, h2, h3, h4, h5, h6, h7⟩ := h; exact ⟨g3, g4, h1, h2, Nat.lt_of_lt_of_le h3 hb.size, Nat.lt_of_lt_of_le h4 hb.size, (hb.block g3 h3).trans h5, (hb.block g4 h4).trans h6, h7⟩
    · exact h
  · intro i hi l A W I hdep
    rcases (show i = 0 ∨ i = 1 ∨ i = 2 ∨ i = 3 ∨ i = 4 ∨ i = 5 ∨ i = 6 ∨ i = 7 ∨ i = 8 ∨ i = 9 ∨ i = 10 ∨ i = 11 ∨ i = 12 ∨ i = 13 ∨ i = 14 ∨ i = 15 ∨ i = 16 by omega) with rfl | rfl | rfl | rfl | rfl | rfl | rfl | rfl | rfl | rfl | rfl | rfl | rfl | rfl | rfl | rfl | rfl
    · exact wpOp_v8 rfl rfl (exec_mv8 rfl ((I.other 1 (by intro j hj; omega)).trans rfl)) ⟨_, rfl, rfl, Below.refl _ _⟩
    · have v0 : A.tmps.getD 39 undef = _ := I.val 0 (by decide) (hdep 0 (by kernel_rfl))
      exact wpOp_v8 rfl rfl (exec_nil8 rfl v0) ⟨_, rfl, rfl, Below.refl _ _⟩
    · have v1 : A.tmps.getD 40 undef = _ := I.val 1 (by decide) (hdep 1 (by kernel_rfl))
      exact wpOp_v8 rfl rfl (exec_kids8 rfl v1) ⟨_, rfl, rfl, Below.refl _ _⟩
    · have v2 : A.tmps.getD 41 undef = _ := I.val 2 (by decide) (hdep 2 (by kernel_rfl))
      exact wpOp_v8 rfl rfl (exec_lds8 rfl v2 ((I.below.cell (p := ⟨O, o + 12, none⟩) hOl1).trans d12)) ⟨_, rfl, rfl, Below.refl _ _⟩
    · exact wpOp_v8 rfl rfl (exec_mv8 rfl ((I.other 0 (by intro j hj; omega)).trans rfl)) ⟨_, rfl, rfl, Below.refl _ _⟩
    · exact wpOp_v8 rfl rfl (exec_mv8 rfl ((I.other 1 (by intro j hj; omega)).trans rfl)) ⟨_, rfl, rfl, Below.refl _ _⟩
    · have v5 : A.tmps.getD 44 undef = _ := I.val 5 (by decide) (hdep 5 (by kernel_rfl))
      exact wpOp_v8 rfl rfl (exec_nil8 rfl v5) ⟨_, rfl, rfl, Below.refl _ _⟩
    · have v6 : A.tmps.getD 45 undef = _ := I.val 6 (by decide) (hdep 6 (by kernel_rfl))
      exact wpOp_v8 rfl rfl (exec_vars8 rfl v6) ⟨_, rfl, rfl, Below.refl _ _⟩
    · have v7 : A.tmps.getD 46 undef = _ := I.val 7 (by decide) (hdep 7 (by kernel_rfl))
      exact wpOp_v8 rfl rfl (exec_ldi8 rfl v7 ((I.below.cell (p := ⟨O, o + 9, none⟩) hOl1).trans d9)) ⟨_, rfl, rfl, Below.refl _ _⟩
    · exact wpOp_v8 rfl rfl (exec_mv8 rfl ((I.other 1 (by intro j hj; omega)).trans rfl)) ⟨_, rfl, rfl, Below.refl _ _⟩
    · have v9 : A.tmps.getD 48 undef = _ := I.val 9 (by decide) (hdep 9 (by kernel_rfl))
      exact wpOp_v8 rfl rfl (exec_nil8 rfl v9) ⟨_, rfl, rfl, Below.refl _ _⟩
    · have v10 : A.tmps.getD 49 undef = _ := I.val 10 (by decide) (hdep 10 (by kernel_rfl))
      exact wpOp_v8 rfl rfl (exec_kids8 rfl v10) ⟨_, rfl, rfl, Below.refl _ _⟩
    · have v11 : A.tmps.getD 50 undef = _ := I.val 11 (by decide) (hdep 11 (by kernel_rfl))
      exact wpOp_v8 rfl rfl (exec_lds8 rfl v11 ((I.below.cell (p := ⟨O, o + 12, none⟩) hOl1).trans d12)) ⟨_, rfl, rfl, Below.refl _ _⟩
    · have v12 : A.tmps.getD 51 undef = _ := I.val 12 (by decide) (hdep 12 (by kernel_rfl))
      exact wpOp_v8 rfl rfl (exec_ix8 rfl v12 (by decide)) ⟨_, rfl, rfl, Below.refl _ _⟩
    · have v13 : A.tmps.getD 52 undef = _ := I.val 13 (by decide) (hdep 13 (by kernel_rfl))
      exact wpOp_v8 rfl rfl (exec_lde8 rfl v13 (fun j v hj => (I.below.cell (p := ⟨sb, so + j, none⟩) hsl1).trans (H1.out.2.1 j v hj))) ⟨_, rfl, rfl, Below.refl _ _⟩
    · have v4 : A.tmps.getD 43 undef = _ := I.val 4 (by decide) (hdep 4 (by kernel_rfl))
      have v8 : A.tmps.getD 47 undef = _ := I.val 8 (by decide) (hdep 8 (by kernel_rfl))
      have v14 : A.tmps.getD 53 undef = _ := I.val 14 (by decide) (hdep 14 (by kernel_rfl))
      have hms := I.below.size
      refine wpOp_c8 rfl rfl ((exec_call3 rfl).trans (by rw [v4, v8, v14])) (by simp [go_sem]) (around_one mb vb vo T.vc g2 VV y W (H1.out.2.2.1.of_block (I.below.block mb hml1)) hv ((I.below.cell (p := ⟨vb, vo, none⟩) hvl1).trans H1.out.2.2.2)) ?_
      rintro e W' ⟨g3, g4, h1, h2, h3, h4, h5, h6, rfl, b⟩
      exact ⟨_, rfl, _, rfl, ⟨g3, g4, by omega, by omega, h3, h4, h5, h6, rfl⟩, b⟩
    · have v3 : A.tmps.getD 42 undef = _ := I.val 3 (by decide) (hdep 3 (by kernel_rfl))
      exact wpOp_v8 rfl rfl (exec_ix8 rfl v3 (by decide)) ⟨_, rfl, rfl, Below.refl _ _⟩
  intro A w9 hdf hsz hoth hval hb9
  have v0 : A.tmps.getD 39 undef = _ := hval 0 (by decide)
  have v1 : A.tmps.getD 40 undef = _ := hval 1 (by decide)
  have v2 : A.tmps.getD 41 undef = _ := hval 2 (by decide)
  have v3 : A.tmps.getD 42 undef = _ := hval 3 (by decide)
  have v4 : A.tmps.getD 43 undef = _ := hval 4 (by decide)
  have v5 : A.tmps.getD 44 undef = _ := hval 5 (by decide)
  have v6 : A.tmps.getD 45 undef = _ := hval 6 (by decide)
  have v7 : A.tmps.getD 46 undef = _ := hval 7 (by decide)
  have v8 : A.tmps.getD 47 undef = _ := hval 8 (by decide)
  have v9 : A.tmps.getD 48 undef = _ := hval 9 (by decide)
  have v10 : A.tmps.getD 49 undef = _ := hval 10 (by decide)
  have v11 : A.tmps.getD 50 undef = _ := hval 11 (by decide)
  have v12 : A.tmps.getD 51 undef = _ := hval 12 (by decide)
  have v13 : A.tmps.getD 52 undef = _ := hval 13 (by decide)
  have v14 : A.tmps.getD 53 undef = _ := hval 14 (by decide)
  obtain ⟨g3, g4, hg3a, hg4a, hg3b, hg4b, hg3c, hg4c, v15⟩ := hval 15 (by decide)
  have v16 : A.tmps.getD 55 undef = _ := hval 16 (by decide)
  have hA := tower_pairs (a := A) [(39, .pointer (some ⟨O, o, none⟩)), (40, .pointer (some ⟨O, o, none⟩)), (41, .pointer (some ⟨O, o + 12, none⟩)), (42, .slice (some ⟨sb, so, none⟩) 1 T.kc), (43, .map (some mb)), (44, .pointer (some ⟨O, o, none⟩)), (45, .pointer (some ⟨O, o, none⟩)), (46, .pointer (some ⟨O, o + 9, none⟩)), (47, .slice (some ⟨vb, vo, none⟩) 1 T.vc), (48, .pointer (some ⟨O, o, none⟩)), (49, .pointer (some ⟨O, o, none⟩)), (50, .pointer (some ⟨O, o + 12, none⟩)), (51, .slice (some ⟨sb, so, none⟩) 1 T.kc), (52, .pointer (some ⟨sb, so, none⟩)), (53, .agg #[.int .i64 7, .int .i64 0, .bool false, .slice none 0 0, .bool false, .string ⟨#[]⟩, .slice none 0 0, .slice none 0 0, .int .i64 0, .slice none 0 0, .bool false, .int .i64 37, .slice (some ⟨g2, 0, none⟩) 2 2]), (54, .agg #[.int .i64 8, .int .i64 0, .bool false, .slice none 0 0, .bool false, .string ⟨#[]⟩, .slice none 0 0, .slice none 0 0, .int .i64 y, .slice none 0 0, .bool false, .int .i64 0, .slice (some ⟨g4, 0, none⟩) 2 2]), (55, .pointer (some ⟨sb, so, none⟩))] ?_ ?_ hdf hsz (fun m hm => hoth m (fun j hj => by
    simp only [List.forall_mem_cons] at hm
    obtain ⟨k0, k1, k2, k3, k4, k5, k6, k7, k8, k9, k10, k11, k12, k13, k14, k15, k16, -⟩ := hm
    rcases (show j = 0 ∨ j = 1 ∨ j = 2 ∨ j = 3 ∨ j = 4 ∨ j = 5 ∨ j = 6 ∨ j = 7 ∨ j = 8 ∨ j = 9 ∨ j = 10 ∨ j = 11 ∨ j = 12 ∨ j = 13 ∨ j = 14 ∨ j = 15 ∨ j = 16 by omega) with rfl | rfl | rfl | rfl | rfl | rfl | rfl | rfl | rfl | rfl | rfl | rfl | rfl | rfl | rfl | rfl | rfl
    · exact k0
    · exact k1
    · exact k2
    · exact k3
    · exact k4
    · exact k5
    · exact k6
    · exact k7
    · exact k8
    · exact k9
    · exact k10
    · exact k11
    · exact k12
    · exact k13
    · exact k14
    · exact k15
    · exact k16))
  rotate_left
  · intro p hp
    simp only [List.mem_cons, List.not_mem_nil, or_false] at hp
    rcases hp with rfl | rfl | rfl | rfl | rfl | rfl | rfl | rfl | rfl | rfl | rfl | rfl | rfl | rfl | rfl | rfl | rfl <;> simp
  · intro p hp
    simp only [List.mem_cons, List.not_mem_nil, or_false] at hp
    rcases hp with rfl | rfl | rfl | rfl | rfl | rfl | rfl | rfl | rfl | rfl | rfl | rfl | rfl | rfl | rfl | rfl | rfl
    · exact v0
    · exact v1
    · exact v2
    · exact v3
    · exact v4
    · exact v5
    · exact v6
    · exact v7
    · exact v8
    · exact v9
    · exact v10
    · exact v11
    · exact v12
    · exact v13
    · exact v14
    · exact v15
    · exact v16
  clear v0 v1 v2 v3 v4 v5 v6 v7 v8 v9 v10 v11 v12 v13 v14 v15 v16 hval hoth hsz hdf
  subst hA
  simp only [List.foldl, Act.put, List.setIfInBounds_toArray, List.set_cons_zero, List.set_cons_succ]
  show wpOps _ _ _ [17] _ _
  refine wpOps_cons8 ?_
  refine wpOp_st8 rfl rfl rfl rfl rfl rfl (one13 rfl rfl rfl rfl rfl rfl rfl rfl rfl rfl rfl rfl rfl) (onec13 rfl rfl rfl rfl rfl rfl rfl rfl rfl rfl rfl rfl rfl) (fun j hj => (by obtain ⟨x, hx⟩ := HS.out.1 j hj; exact ⟨x, (hb9.cell (p := ⟨sb, so + j, none⟩) hsl1).trans hx⟩)) (fun j => (hb9.frozen (p := ⟨sb, so + j, none⟩) hsl1).trans (HS.out.2 j)) ?_
  simp only [wpOps]
  obtain ⟨w10, hw10⟩ : ∃ w10, setAll w9 sb so ([.int .i64 8, .int .i64 0, .bool false, .slice none 0 0, .bool false, .string ⟨#[]⟩, .slice none 0 0, .slice none 0 0, .int .i64 y, .slice none 0 0, .bool false, .int .i64 0, .slice (some ⟨g4, 0, none⟩) 2 2]) = w10 := ⟨_, rfl⟩
  rw [hw10]
  have hz10 : w10.heap.size = w9.heap.size := by rw [← hw10, setAll_size]
  have hk10 : ∀ k, k ≠ sb → w10.heap[k]? = w9.heap[k]? := fun k hk => by rw [← hw10]; exact setAll_block sb _ _ _ k hk
  have hz9 := hb9.size
  have hT2 : Turned2 w w10 sb so xb xo := by
    refine ⟨by omega, fun c off hc h1 h2 => ?_, fun c off hc => ?_, fun k hk h1 h2 => ?_, fun B h1 h2 h3 => ?_⟩
    · rw [← hw10, setAll_other sb ([.int .i64 8, .int .i64 0, .bool false, .slice none 0 0, .bool false, .string ⟨#[]⟩, .slice none 0 0, .slice none 0 0, .int .i64 y, .slice none 0 0, .bool false, .int .i64 0, .slice (some ⟨g4, 0, none⟩) 2 2]) so w9 c off h1]
      exact (hb9.cell (p := ⟨c, off, none⟩) (by show c < w1.heap.size; omega)).trans (H1.out.1.other c off hc h1 h2)
    · rw [← hw10, setAll_frz sb ([.int .i64 8, .int .i64 0, .bool false, .slice none 0 0, .bool false, .string ⟨#[]⟩, .slice none 0 0, .slice none 0 0, .int .i64 y, .slice none 0 0, .bool false, .int .i64 0, .slice (some ⟨g4, 0, none⟩) 2 2]) so w9 c off]
      exact (hb9.frozen (p := ⟨c, off, none⟩) (by show c < w1.heap.size; omega)).trans (H1.out.1.frz c off hc)
    · exact (hk10 k h1).trans ((hb9.block k (by omega)).trans (H1.out.1.block k hk h1 h2))
    · have hbel := H1.out.1.below B h1 h2 h3
      rw [← hw10]
      exact (hbel.trans (hb9.mono (by have := hbel.size; omega))).trans (setAll_below sb ([.int .i64 8, .int .i64 0, .bool false, .slice none 0 0, .bool false, .string ⟨#[]⟩, .slice none 0 0, .slice none 0 0, .int .i64 y, .slice none 0 0, .bool false, .int .i64 0, .slice (some ⟨g4, 0, none⟩) 2 2]) so w9 B h1)
  have hSex : ∀ i, i < 13 → ∃ x, w9.cell? ⟨sb, so + i, none⟩ = some x := fun i hi => (by obtain ⟨x, hx⟩ := HS.out.1 i hi; exact ⟨x, (hb9.cell (p := ⟨sb, so + i, none⟩) hsl1).trans hx⟩)
  have hh : ∀ j v, (([.int .i64 8, .int .i64 0, .bool false, .slice none 0 0, .bool false, .string ⟨#[]⟩, .slice none 0 0, .slice none 0 0, .int .i64 y, .slice none 0 0, .bool false, .int .i64 0, .slice (some ⟨g4, 0, none⟩) 2 2]) : List Value)[j]? = some v → w10.cell? ⟨sb, so + j, none⟩ = some v := fun j v hj => by
    rw [← hw10]
    exact setAll_here sb ([.int .i64 8, .int .i64 0, .bool false, .slice none 0 0, .bool false, .string ⟨#[]⟩, .slice none 0 0, .slice none 0 0, .int .i64 y, .slice none 0 0, .bool false, .int .i64 0, .slice (some ⟨g4, 0, none⟩) 2 2]) so w9 (fun i hi => hSex i hi) j v hj
  have q1 := (hk10 g1 (by omega)).trans ((hb9.block g1 hg1b).trans HG.out.1)
  have q2 := (hk10 g2 (by omega)).trans ((hb9.block g2 hg2b).trans HG.out.2)
  have q3 := (hk10 g3 (by omega)).trans hg3c
  have q4 := (hk10 g4 (by omega)).trans hg4c
  have HE := Lib.hid (And.intro q1 (And.intro q2 (And.intro q3 (And.intro q4 (And.intro hh hT2)))))
  have l1 : g1 < w10.heap.size := by omega
  have l2 : g2 < w10.heap.size := by omega
  have l3 : g3 < w10.heap.size := by omega
  have l4 : g4 < w10.heap.size := by omega
  clear hT2 hh hk10 hg3c hg4c hb9 hw10 H1 hSex q1 q2 q3 q4
  simp only [Exit.inBlock]
  refine bodyPost_end (results_none rfl _ _ _) rfl ?_
  exact ⟨rfl, g1, g2, g3, g4, ⟨hg1a, l1⟩, ⟨hg2a, l2⟩, ⟨by omega, l3⟩, ⟨by omega, l4⟩, HE.out.1, HE.out.2.1, HE.out.2.2.1, HE.out.2.2.2.1, HE.out.2.2.2.2.1, HE.out.2.2.2.2.2⟩
end
end Go.Proofs.YthdhdmmlmbkalaaGreatDoor
namespace Go.Proofs.YthdhdmmlmbkalaaGreatDoor
section
open Go.RowKit Go.Maps

/-- (lambda (v) (set! v v)), wherever it lies. -/
structure LamT (v : Int) (T S X : ET) : Prop where
  t : T.k = 5 ∧ T.v = 0 ∧ T.vs = [v] ∧ T.rs = false ∧ T.p = 0 ∧ T.kids = [S] ∧ ZeroD T.d
  s : S.k = 3 ∧ S.v = v ∧ S.vs = [] ∧ S.rs = false ∧ S.p = 0 ∧ S.kids = [X] ∧ ZeroD S.d
  x : X.k = 2 ∧ X.v = v ∧ X.vs = [] ∧ X.rs = false ∧ X.p = 0 ∧ X.kids = [] ∧ ZeroD X.d
section
variable {v : Int} {T S X : ET} (h : LamT v T S X)
include h
theorem LamT.size : T.size = 3 ∧ T.depth = 3 ∧ boundN T = 1 := by
  obtain ⟨⟨t0, t1, t2, t3, t4, t5, t6⟩, ⟨s0, s1, s2, s3, s4, s5, s6⟩, x0, x1, x2, x3, x4, x5, x6⟩ := h
  simp [ET.size_eq, ET.depth_eq, boundN_eq, boundNs, sizesE, depthsE, bindE, t0, t2, t5, s0, s5, x0, x5]
theorem LamT.seq (b o : Nat) : seqE T 1 b o = [⟨1, b, o, T⟩, ⟨2, blk T.ka, ofs T.ka, S⟩, ⟨3, blk S.ka, ofs S.ka, X⟩] := by
  obtain ⟨⟨t0, t1, t2, t3, t4, t5, t6⟩, ⟨s0, s1, s2, s3, s4, s5, s6⟩, x0, x1, x2, x3, x4, x5, x6⟩ := h
  rw [seqE_eq, t5, seqER_cons, seqE_eq S, s5, seqER_cons, seqE_eq X, x5]
  simp [seqER_nil]
theorem LamT.place (b o : Nat) : placeE T (fun _ => 0) 0 b o = [⟨b, o, T, fun _ => 0⟩, ⟨blk T.ka, ofs T.ka, S, updE (fun _ => 0) v 1⟩, ⟨blk S.ka, ofs S.ka, X, updE (fun _ => 0) v 1⟩] := by
  obtain ⟨⟨t0, t1, t2, t3, t4, t5, t6⟩, ⟨s0, s1, s2, s3, s4, s5, s6⟩, x0, x1, x2, x3, x4, x5, x6⟩ := h
  rw [placeE_eq, t5]
  simp only [placeER, bodyE, bindE, t0, t2, if_true, envB]
  rw [placeE_eq S, s5]
  simp only [placeER, bodyE, bindE, s0]
  rw [placeE_eq X, x5]
  simp [placeER]
theorem LamT.binds (b o : Nat) : ((seqE T 1 b o).flatMap fun x => bindE x.e) = [v] := by
  rw [h.seq b o]
  obtain ⟨⟨t0, t1, t2, t3, t4, t5, t6⟩, ⟨s0, s1, s2, s3, s4, s5, s6⟩, x0, x1, x2, x3, x4, x5, x6⟩ := h
  simp [bindE, t0, t2, s0, x0]
theorem LamT.keys (b o : Nat) : keysE (seqE T 1 b o) 3 = [v] := by
  have := h.binds b o
  have hl : (seqE T 1 b o).take 3 = seqE T 1 b o := List.take_of_length_le (by rw [h.seq b o]; simp)
  unfold keysE
  rw [hl, this]
theorem LamT.sets (b o : Nat) : setsE (seqE T 1 b o) 3 = [v] := by
  rw [setsE, h.seq b o]
  obtain ⟨⟨t0, t1, t2, t3, t4, t5, t6⟩, ⟨s0, s1, s2, s3, s4, s5, s6⟩, x0, x1, x2, x3, x4, x5, x6⟩ := h
  simp [setsN, t0, s0, s1, x0]
theorem LamT.top (hv : VarOk v) (b o : Nat) : topL (seqE T 1 b o) 3 = v := by
  rw [topL, h.seq b o]
  obtain ⟨⟨t0, t1, t2, t3, t4, t5, t6⟩, ⟨s0, s1, s2, s3, s4, s5, s6⟩, x0, x1, x2, x3, x4, x5, x6⟩ := h
  unfold VarOk at hv
  simp [topN, t1, t2, s1, s2, x1, x2]
  omega
theorem LamT.boxes (hv : VarOk v) (y : Int) (b o : Nat) : ∃ D, (boxL [v] y (seqE T 1 b o) 3).1 = D ∧ D.atKey (.int .i64 v) (.lit (.int .i64 0)) = .lit (.int .i64 y) ∧ Maps.has D (.int .i64 v) = true ∧ Maps.has D (.int .i64 0) = false := by
  rw [boxL, h.seq b o]
  obtain ⟨⟨t0, t1, t2, t3, t4, t5, t6⟩, ⟨s0, s1, s2, s3, s4, s5, s6⟩, x0, x1, x2, x3, x4, x5, x6⟩ := h
  unfold VarOk at hv
  simp [boxN, bindE, boxV, t0, t2, s0, x0]
  have hm : IsMap ((DataW.map [] : DataW Unit).put (.int .i64 v) (.lit (.int .i64 v))) := isMap_empty.put _ _
  refine ⟨atKey_put_same (k := .int .i64 v) hm trivial _ _, has_put_same (k := .int .i64 v) hm trivial _, ?_⟩
  rw [has_put_other (fun e => by injection e with _ e; omega), has_put_other (fun e => by injection e with _ e; omega)]
  rfl
theorem LamT.ones (hv : VarOk v) (b o : Nat) : ∀ x ∈ seqE T 1 b o, GoodOne x.e := by
  rw [h.seq b o]
  obtain ⟨⟨t0, t1, t2, t3, t4, t5, t6⟩, ⟨s0, s1, s2, s3, s4, s5, s6⟩, x0, x1, x2, x3, x4, x5, x6⟩ := h
  intro x hx
  simp only [List.mem_cons, List.not_mem_nil, or_false] at hx
  rcases hx with rfl | rfl | rfl
  · exact ⟨t6, t3, .inr (.inr (.inr (.inr ⟨t0, t1, by rw [t2]; simpa using hv, t4, by simp [t5]⟩)))⟩
  · exact ⟨s6, s3, .inr (.inl ⟨s0, by rw [s1]; exact hv, s2, s4, by simp [s5]⟩)⟩
  · exact ⟨x6, x3, .inl ⟨x0, by rw [x1]; exact hv, x2, x4, by simp [x5]⟩⟩
end
end
end Go.Proofs.YthdhdmmlmbkalaaGreatDoor
