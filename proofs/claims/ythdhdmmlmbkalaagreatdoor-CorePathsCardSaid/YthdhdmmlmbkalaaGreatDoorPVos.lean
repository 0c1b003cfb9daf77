/-
  core.boxes.open of a set variable.
-/
import Derived.Test.YthdhdmmlmbkalaaGreatDoorJp19
set_option linter.unusedVariables false
set_option linter.unusedSimpArgs false
set_option linter.unusedSectionVars false
set_option linter.unnecessarySimpa false
namespace Go.Proofs.YthdhdmmlmbkalaaGreatDoor
open Go.RowKit Go.Maps

/-- Two places may have been stored into; all else stands. -/
structure Turned2 (w w' : World) (b o kb ko : Nat) : Prop where
  size : w.heap.size ≤ w'.heap.size
  other : ∀ c off, c < w.heap.size → ¬ (c = b ∧ o ≤ off ∧ off < o + 13) → ¬ (c = kb ∧ ko ≤ off ∧ off < ko + 13) → w'.cell? ⟨c, off, none⟩ = w.cell? ⟨c, off, none⟩
  frz : ∀ c off, c < w.heap.size → w'.frozen? ⟨c, off, none⟩ = w.frozen? ⟨c, off, none⟩
  block : ∀ k, k < w.heap.size → k ≠ b → k ≠ kb → w'.heap[k]? = w.heap[k]?
  below : ∀ B, B ≤ b → B ≤ kb → B ≤ w.heap.size → Below B w w'
theorem one13 {v0 v1 v2 v3 v4 v5 v6 v7 v8 v9 v10 v11 v12 : Value} (h0 : v0.cells = #[v0]) (h1 : v1.cells = #[v1]) (h2 : v2.cells = #[v2]) (h3 : v3.cells = #[v3]) (h4 : v4.cells = #[v4]) (h5 : v5.cells = #[v5]) (h6 : v6.cells = #[v6]) (h7 : v7.cells = #[v7]) (h8 : v8.cells = #[v8]) (h9 : v9.cells = #[v9]) (h10 : v10.cells = #[v10]) (h11 : v11.cells = #[v11]) (h12 : v12.cells = #[v12]) :
    ∀ v ∈ [v0, v1, v2, v3, v4, v5, v6, v7, v8, v9, v10, v11, v12], v.cells = #[v] := by
  simp only [List.forall_mem_cons, List.not_mem_nil, false_imp_iff, implies_true, and_true]
  exact ⟨h0, h1, h2, h3, h4, h5, h6, h7, h8, h9, h10, h11, h12⟩
theorem onec13 {v0 v1 v2 v3 v4 v5 v6 v7 v8 v9 v10 v11 v12 : Value} (h0 : v0.oneCell' = true) (h1 : v1.oneCell' = true) (h2 : v2.oneCell' = true) (h3 : v3.oneCell' = true) (h4 : v4.oneCell' = true) (h5 : v5.oneCell' = true) (h6 : v6.oneCell' = true) (h7 : v7.oneCell' = true) (h8 : v8.oneCell' = true) (h9 : v9.oneCell' = true) (h10 : v10.oneCell' = true) (h11 : v11.oneCell' = true) (h12 : v12.oneCell' = true) :
    ∀ v ∈ [v0, v1, v2, v3, v4, v5, v6, v7, v8, v9, v10, v11, v12], v.oneCell' = true := by
  simp only [List.forall_mem_cons, List.not_mem_nil, false_imp_iff, implies_true, and_true]
  exact ⟨h0, h1, h2, h3, h4, h5, h6, h7, h8, h9, h10, h11, h12⟩
set_option maxRecDepth 100000 in
set_option maxHeartbeats 12800000 in
theorem open_set (mb b o kb ko : Nat) (y : Int) (S X : ET) (w : World) (hB : BoxMap w mb S.v y) (hv : InR S.v) (hSk : S.k = 3) (hkids : S.kids = [X]) (hka : S.ka = some ⟨kb, ko, none⟩) (hXk : X.k = 2) (hXv : X.v = S.v) (hXkids : X.kids = [])
    (hS : ∀ j v, S.cells[j]? = some v → w.cell? ⟨b, o + j, none⟩ = some v) (hfS : ∀ j, w.frozen? ⟨b, o + j, none⟩ = false) (hX : ∀ j v, X.cells[j]? = some v → w.cell? ⟨kb, ko + j, none⟩ = some v) (hfX : ∀ j, w.frozen? ⟨kb, ko + j, none⟩ = false) (hb : b ≠ mb) (hkb : kb ≠ mb) (hdis : kb = b → o + 13 ≤ ko) :
    Calls Tryz.prog 35 #[.map (some mb), .pointer (some ⟨b, o, none⟩)] w fun e w' => e = .returned (.tuple #[]) ∧ ∃ g1 g2, w.heap.size ≤ g1 ∧ w.heap.size ≤ g2 ∧ g1 < w'.heap.size ∧ g2 < w'.heap.size ∧ w'.heap[g1]? = some (.cells #[.int .i64 2, .int .i64 0, .bool false, .slice none 0 0, .bool false, .string ⟨#[]⟩, .slice none 0 0, .slice none 0 0, .int .i64 y, .slice none 0 0, .bool false, .int .i64 0, .slice none 0 0] 31 (0, 0)) ∧
      w'.heap[g2]? = some (.cells #[.int .i64 2, .int .i64 0, .bool false, .slice none 0 0, .bool false, .string ⟨#[]⟩, .slice none 0 0, .slice none 0 0, .int .i64 y, .slice none 0 0, .bool false, .int .i64 0, .slice none 0 0, .int .i64 7, .int .i64 0, .bool false, .slice none 0 0, .bool false, .string ⟨#[]⟩, .slice none 0 0, .slice none 0 0, .int .i64 0, .slice none 0 0, .bool false, .int .i64 36, .slice (some ⟨g1, 0, none⟩) 1 1] 31 (0, 0)) ∧ (∀ j v, ([.int .i64 7, .int .i64 0, .bool false, .slice none 0 0, .bool false, .string ⟨#[]⟩, .slice none 0 0, .slice none 0 0, .int .i64 0, .slice none 0 0, .bool false, .int .i64 37, .slice (some ⟨g2, 0, none⟩) 2 2] : List Value)[j]? = some v → w'.cell? ⟨b, o + j, none⟩ = some v) ∧ Turned2 w w' b o kb ko := by
  have hbl : b < w.heap.size := World.block_lt_of_cell? w _ (hS 0 _ rfl)
  have hkbl : kb < w.heap.size := World.block_lt_of_cell? w _ (hX 0 _ rfl)
  have c12 : w.cell? ⟨b, o + 12, none⟩ = some (.slice (some ⟨kb, ko, none⟩) 1 S.kc) := by have h := hS 12 _ rfl; rw [hkids, hka] at h; exact h
  have hOV := open_var mb kb ko y X w (by rw [hXv]; exact hB) hXk (by rw [hXv]; exact hv) hXkids hX hfX hkb
  have hkey : keyOf Tryz.prog 3 (.int .i64 S.v) = some (.int .i64 S.v) := keyOf_int_mk Tryz.underlying3 (WalkArith.wf_i64 hv)
  have HH := Lib.hid (And.intro hOV (And.intro hB (And.intro hS (And.intro hfS (And.intro hkids (And.intro hka hSk))))))
  clear hOV hB hS hfS hX hfX hkids hka hSk
  go_enter Tryz.func35, Tryz.ntmps35
  go_wp2_with fail
  refine wp_loop_rounds 2 ?_
  rw [rounds_succ]
  go_wp2_with fail
  refine HH.out.1.mono ?_
  rintro e w1 ⟨rfl, g1, hg1a, hg1b, hg1c, hst⟩
  have hsz := hst.size
  have hSc : ∀ j v, S.cells[j]? = some v → w1.cell? ⟨b, o + j, none⟩ = some v := fun j v hj => by
    have hj13 : j < 13 := (List.getElem?_eq_some_iff.1 hj).1
    rw [hst.other b (o + j) hbl (fun h => by have := hdis h.1.symm; omega)]
    exact HH.out.2.2.1 j v hj
  have c0 : w1.cell? ⟨b, o, none⟩ = some (.int .i64 3) := by have h := hSc 0 _ rfl; rw [HH.out.2.2.2.2.2.2] at h; exact h
  have c8 : w1.cell? ⟨b, o + 8, none⟩ = some (.int .i64 S.v) := hSc 8 _ rfl
  have d12 : w1.cell? ⟨b, o + 12, none⟩ = some (.slice (some ⟨kb, ko, none⟩) 1 S.kc) := by rw [hst.other b (o + 12) hbl (fun h => by have := hdis h.1.symm; omega)]; exact c12
  obtain ⟨n, D, hBx, hat, hhas, -⟩ := HH.out.2.1.of_block (hst.block mb HH.out.2.1.lt (Ne.symm hkb))
  have hbl1 : b < w1.heap.size := by omega
  have hkbl1 : kb < w1.heap.size := by omega
  have H1 := Lib.hid (And.intro hst (And.intro hSc hg1c))
  clear hst hSc c12 hg1c
  go_wp2_with fail
  rw [rounds_succ]
  go_wp2_with (at_lookup; refine wpList_lookup_own_ok_int _ rfl _ _ 69 rfl 3 3 .i64 keyI Tryz.underlying69 Tryz.underlying3 (zeroI _) mb _ _ rfl hBx _ _ rfl hkey ?_; intro c hatc hwc)
  obtain rfl : y = c := by rw [hat] at hatc; injection hatc with h; injection h
  clear hBx hat hatc hwc hkey
  go_wp2_with fail
  refine wp_region_phases (nA := 12) (by kernel_rfl) (by kernel_rfl) (fun i => 77 + i)
    (fun i W v => match i with
      | 0 => v = .pointer (some ⟨b, o, none⟩)
      | 1 => v = .int .i64 y
      | 2 => v = .agg #[.int .i64 2, .int .i64 0, .bool false, .slice none 0 0, .bool false, .string ⟨#[]⟩, .slice none 0 0, .slice none 0 0, .int .i64 y, .slice none 0 0, .bool false, .int .i64 0, .slice none 0 0]
      | 3 => v = .pointer (some ⟨b, o, none⟩)
      | 4 => v = .pointer (some ⟨b, o, none⟩)
      | 5 => v = .pointer (some ⟨b, o + 12, none⟩)
      | 6 => v = .slice (some ⟨kb, ko, none⟩) 1 S.kc
      | 7 => v = .pointer (some ⟨kb, ko, none⟩)
      | 8 => v = .agg #[.int .i64 7, .int .i64 0, .bool false, .slice none 0 0, .bool false, .string ⟨#[]⟩, .slice none 0 0, .slice none 0 0, .int .i64 0, .slice none 0 0, .bool false, .int .i64 36, .slice (some ⟨g1, 0, none⟩) 1 1]
      | 9 => ∃ g, w1.heap.size ≤ g ∧ g < W.heap.size ∧ v = .slice (some ⟨g, 0, none⟩) 2 2 ∧ W.heap[g]? = some (.cells #[.int .i64 2, .int .i64 0, .bool false, .slice none 0 0, .bool false, .string ⟨#[]⟩, .slice none 0 0, .slice none 0 0, .int .i64 y, .slice none 0 0, .bool false, .int .i64 0, .slice none 0 0, .int .i64 7, .int .i64 0, .bool false, .slice none 0 0, .bool false, .string ⟨#[]⟩, .slice none 0 0, .slice none 0 0, .int .i64 0, .slice none 0 0, .bool false, .int .i64 36, .slice (some ⟨g1, 0, none⟩) 1 1] 31 (0, 0))
      | 10 => ∃ g, w1.heap.size ≤ g ∧ g < W.heap.size ∧ v = .agg #[.int .i64 7, .int .i64 0, .bool false, .slice none 0 0, .bool false, .string ⟨#[]⟩, .slice none 0 0, .slice none 0 0, .int .i64 0, .slice none 0 0, .bool false, .int .i64 37, .slice (some ⟨g, 0, none⟩) 2 2] ∧ W.heap[g]? = some (.cells #[.int .i64 2, .int .i64 0, .bool false, .slice none 0 0, .bool false, .string ⟨#[]⟩, .slice none 0 0, .slice none 0 0, .int .i64 y, .slice none 0 0, .bool false, .int .i64 0, .slice none 0 0, .int .i64 7, .int .i64 0, .bool false, .slice none 0 0, .bool false, .string ⟨#[]⟩, .slice none 0 0, .slice none 0 0, .int .i64 0, .slice none 0 0, .bool false, .int .i64 36, .slice (some ⟨g1, 0, none⟩) 1 1] 31 (0, 0))
      | _ => v = .pointer (some ⟨b, o, none⟩)) (by decide) (by kernel_rfl)
    (fun i j hi hj h => by omega) (fun i hi => by simp only [List.size_toArray, List.length_cons, List.length_nil]; omega) ?_ ?_ ?_
  · intro i hi W W' v h hb
    rcases (show i = 0 ∨ i = 1 ∨ i = 2 ∨ i = 3 ∨ i = 4 ∨ i = 5 ∨ i = 6 ∨ i = 7 ∨ i = 8 ∨ i = 9 ∨ i = 10 ∨ i = 11 by omega) with rfl | rfl | rfl | rfl | rfl | rfl | rfl | rfl | rfl | rfl | rfl | rfl
    · exact h
    · exact h
    · exact h
    · exact h
    · exact h
    · exact h
    · exact h
    · exact h
    · exact h
    · obtain ⟨g, h1, h2, h3, h4⟩ := h; exact ⟨g, h1, Nat.lt_of_lt_of_le h2 hb.size, h3, (hb.block g h2).trans h4⟩
    · obtain ⟨g, h1, h2, h3, h4⟩ := h; exact ⟨g, h1, Nat.lt_of_lt_of_le h2 hb.size, h3, (hb.block g h2).trans h4⟩
    · exact h
  · intro i hi l A W I hdep
    rcases (show i = 0 ∨ i = 1 ∨ i = 2 ∨ i = 3 ∨ i = 4 ∨ i = 5 ∨ i = 6 ∨ i = 7 ∨ i = 8 ∨ i = 9 ∨ i = 10 ∨ i = 11 by omega) with rfl | rfl | rfl | rfl | rfl | rfl | rfl | rfl | rfl | rfl | rfl | rfl
    · exact wpOp_v8 rfl rfl (exec_mv8 rfl ((I.other 1 (by intro j hj; omega)).trans rfl)) ⟨_, rfl, rfl, Below.refl _ _⟩
    · exact wpOp_v8 rfl rfl (exec_mv8 rfl ((I.other 5 (by intro j hj; omega)).trans rfl)) ⟨_, rfl, rfl, Below.refl _ _⟩
    · have v1 : A.tmps.getD 78 undef = _ := I.val 1 (by decide) (hdep 1 (by kernel_rfl))
      refine wpOp_c8 rfl rfl ((exec_call rfl).trans (by rw [v1])) (by simp [go_sem]) (variableE_any y W) ?_
      rintro e W' ⟨rfl, b⟩
      exact ⟨_, rfl, _, rfl, rfl, b⟩
    · exact wpOp_v8 rfl rfl (exec_mv8 rfl ((I.other 1 (by intro j hj; omega)).trans rfl)) ⟨_, rfl, rfl, Below.refl _ _⟩
    · have v3 : A.tmps.getD 80 undef = _ := I.val 3 (by decide) (hdep 3 (by kernel_rfl))
      exact wpOp_v8 rfl rfl (exec_nil8 rfl v3) ⟨_, rfl, rfl, Below.refl _ _⟩
    · have v4 : A.tmps.getD 81 undef = _ := I.val 4 (by decide) (hdep 4 (by kernel_rfl))
      exact wpOp_v8 rfl rfl (exec_kids8 rfl v4) ⟨_, rfl, rfl, Below.refl _ _⟩
    · have v5 : A.tmps.getD 82 undef = _ := I.val 5 (by decide) (hdep 5 (by kernel_rfl))
      exact wpOp_v8 rfl rfl (exec_lds8 rfl v5 ((I.below.cell (p := ⟨b, o + 12, none⟩) hbl1).trans d12)) ⟨_, rfl, rfl, Below.refl _ _⟩
    · have v6 : A.tmps.getD 83 undef = _ := I.val 6 (by decide) (hdep 6 (by kernel_rfl))
      exact wpOp_v8 rfl rfl (exec_ix8 rfl v6 (by decide)) ⟨_, rfl, rfl, Below.refl _ _⟩
    · have v7 : A.tmps.getD 84 undef = _ := I.val 7 (by decide) (hdep 7 (by kernel_rfl))
      exact wpOp_v8 rfl rfl (exec_lde8 rfl v7 (fun j v hj => (I.below.cell (p := ⟨kb, ko + j, none⟩) hkbl1).trans (H1.out.1.here j v hj))) ⟨_, rfl, rfl, Below.refl _ _⟩
    · have v2 : A.tmps.getD 79 undef = _ := I.val 2 (by decide) (hdep 2 (by kernel_rfl))
      have v8 : A.tmps.getD 85 undef = _ := I.val 8 (by decide) (hdep 8 (by kernel_rfl))
      exact wpOp_v8 rfl rfl (exec_two8 rfl v2 v8 (one13 rfl rfl rfl rfl rfl rfl rfl rfl rfl rfl rfl rfl rfl) (one13 rfl rfl rfl rfl rfl rfl rfl rfl rfl rfl rfl rfl rfl)) ⟨_, rfl, ⟨W.heap.size, I.below.size, by rw [World.size_alloc]; omega, rfl, World.alloc_heap_new _ _⟩, (Below.refl _ W).alloc (Nat.le_refl _) _⟩
    · have v9 := I.val 9 (by decide) (hdep 9 (by kernel_rfl))
      obtain ⟨g, h1, h2, h3, h4⟩ := v9
      refine wpOp_c8 rfl rfl (f := 63) (args := #[.int .i64 37, .slice (some ⟨g, 0, none⟩) 2 2]) (by rw [← h3]; simp [execOp, Act.eval, go_sem]) (by simp [go_sem]) (primE_any 37 (some ⟨g, 0, none⟩) 2 2 W) ?_
      rintro e W' ⟨rfl, b⟩
      exact ⟨_, rfl, _, rfl, ⟨g, h1, Nat.lt_of_lt_of_le h2 b.size, rfl, (b.block g h2).trans h4⟩, b⟩
    · have v0 : A.tmps.getD 77 undef = _ := I.val 0 (by decide) (hdep 0 (by kernel_rfl))
      exact wpOp_v8 rfl rfl (exec_nil8 rfl v0) ⟨_, rfl, rfl, Below.refl _ _⟩
  intro A w9 hdf hsz hoth hval hb9
  have v0 : A.tmps.getD 77 undef = _ := hval 0 (by decide)
  have v1 : A.tmps.getD 78 undef = _ := hval 1 (by decide)
  have v2 : A.tmps.getD 79 undef = _ := hval 2 (by decide)
  have v3 : A.tmps.getD 80 undef = _ := hval 3 (by decide)
  have v4 : A.tmps.getD 81 undef = _ := hval 4 (by decide)
  have v5 : A.tmps.getD 82 undef = _ := hval 5 (by decide)
  have v6 : A.tmps.getD 83 undef = _ := hval 6 (by decide)
  have v7 : A.tmps.getD 84 undef = _ := hval 7 (by decide)
  have v8 : A.tmps.getD 85 undef = _ := hval 8 (by decide)
  obtain ⟨g2, hg2a, hg2b, v9, hg2c⟩ := hval 9 (by decide)
  obtain ⟨g3, hg3a, hg3b, v10, hg3c⟩ := hval 10 (by decide)
  have v11 : A.tmps.getD 88 undef = _ := hval 11 (by decide)
  have hA := tower_pairs (a := A) [(77, .pointer (some ⟨b, o, none⟩)), (78, .int .i64 y), (79, .agg #[.int .i64 2, .int .i64 0, .bool false, .slice none 0 0, .bool false, .string ⟨#[]⟩, .slice none 0 0, .slice none 0 0, .int .i64 y, .slice none 0 0, .bool false, .int .i64 0, .slice none 0 0]), (80, .pointer (some ⟨b, o, none⟩)), (81, .pointer (some ⟨b, o, none⟩)), (82, .pointer (some ⟨b, o + 12, none⟩)), (83, .slice (some ⟨kb, ko, none⟩) 1 S.kc), (84, .pointer (some ⟨kb, ko, none⟩)), (85, .agg #[.int .i64 7, .int .i64 0, .bool false, .slice none 0 0, .bool false, .string ⟨#[]⟩, .slice none 0 0, .slice none 0 0, .int .i64 0, .slice none 0 0, .bool false, .int .i64 36, .slice (some ⟨g1, 0, none⟩) 1 1]), (86, .slice (some ⟨g2, 0, none⟩) 2 2), (87, .agg #[.int .i64 7, .int .i64 0, .bool false, .slice none 0 0, .bool false, .string ⟨#[]⟩, .slice none 0 0, .slice none 0 0, .int .i64 0, .slice none 0 0, .bool false, .int .i64 37, .slice (some ⟨g3, 0, none⟩) 2 2]), (88, .pointer (some ⟨b, o, none⟩))] ?_ ?_ hdf hsz (fun m hm => hoth m (fun j hj => by
    simp only [List.forall_mem_cons] at hm
    obtain ⟨k0, k1, k2, k3, k4, k5, k6, k7, k8, k9, k10, k11, -⟩ := hm
    rcases (show j = 0 ∨ j = 1 ∨ j = 2 ∨ j = 3 ∨ j = 4 ∨ j = 5 ∨ j = 6 ∨ j = 7 ∨ j = 8 ∨ j = 9 ∨ j = 10 ∨ j = 11 by omega) with rfl | rfl | rfl | rfl | rfl | rfl | rfl | rfl | rfl | rfl | rfl | rfl
    · exact k0
    · exact k1
    · exact k2
    · exact k3
    · exact k4
    · exact k5
    · exact k6
    · exact k7
    · exact k8
    · exact k9
    · exact k10
    · exact k11))
  rotate_left
  · intro p hp
    simp only [List.mem_cons, List.not_mem_nil, or_false] at hp
    rcases hp with rfl | rfl | rfl | rfl | rfl | rfl | rfl | rfl | rfl | rfl | rfl | rfl <;> simp
  · intro p hp
    simp only [List.mem_cons, List.not_mem_nil, or_false] at hp
    rcases hp with rfl | rfl | rfl | rfl | rfl | rfl | rfl | rfl | rfl | rfl | rfl | rfl
    · exact v0
    · exact v1
    · exact v2
    · exact v3
    · exact v4
    · exact v5
    · exact v6
    · exact v7
    · exact v8
    · exact v9
    · exact v10
    · exact v11
  clear v0 v1 v2 v3 v4 v5 v6 v7 v8 v9 v10 v11 hval hoth hsz hdf
  subst hA
  simp only [List.foldl, Act.put, List.setIfInBounds_toArray, List.set_cons_zero, List.set_cons_succ]
  show wpOps _ _ _ [12] _ _
  refine wpOps_cons8 ?_
  refine wpOp_st8 rfl rfl rfl rfl rfl rfl (one13 rfl rfl rfl rfl rfl rfl rfl rfl rfl rfl rfl rfl rfl) (onec13 rfl rfl rfl rfl rfl rfl rfl rfl rfl rfl rfl rfl rfl) (fun j hj => ⟨_, (hb9.cell (p := ⟨b, o + j, none⟩) hbl1).trans (H1.out.2.1 j (S.cells[j]'hj) (List.getElem?_eq_getElem hj))⟩) (fun j => (hb9.frozen (p := ⟨b, o + j, none⟩) hbl1).trans ((H1.out.1.frz b (o + j) hbl).trans (HH.out.2.2.2.1 j))) ?_
  simp only [wpOps]
  obtain ⟨w10, hw10⟩ : ∃ w10, setAll w9 b o [.int .i64 7, .int .i64 0, .bool false, .slice none 0 0, .bool false, .string ⟨#[]⟩, .slice none 0 0, .slice none 0 0, .int .i64 0, .slice none 0 0, .bool false, .int .i64 37, .slice (some ⟨g3, 0, none⟩) 2 2] = w10 := ⟨_, rfl⟩
  rw [hw10]
  have hz10 : w10.heap.size = w9.heap.size := by rw [← hw10, setAll_size]
  have hk10 : ∀ k, k ≠ b → w10.heap[k]? = w9.heap[k]? := fun k hk => by rw [← hw10]; exact setAll_block b _ _ _ k hk
  have hz9 := hb9.size
  have hT2 : Turned2 w w10 b o kb ko := by
    refine ⟨by omega, fun c off hc h1 h2 => ?_, fun c off hc => ?_, fun k hk h1 h2 => ?_, fun B h1 h2 h3 => ?_⟩
    · rw [← hw10, setAll_other b ([.int .i64 7, .int .i64 0, .bool false, .slice none 0 0, .bool false, .string ⟨#[]⟩, .slice none 0 0, .slice none 0 0, .int .i64 0, .slice none 0 0, .bool false, .int .i64 37, .slice (some ⟨g3, 0, none⟩) 2 2]) o w9 c off h1]
      exact (hb9.cell (p := ⟨c, off, none⟩) (by show c < w1.heap.size; omega)).trans (H1.out.1.other c off hc h2)
    · rw [← hw10, setAll_frz b ([.int .i64 7, .int .i64 0, .bool false, .slice none 0 0, .bool false, .string ⟨#[]⟩, .slice none 0 0, .slice none 0 0, .int .i64 0, .slice none 0 0, .bool false, .int .i64 37, .slice (some ⟨g3, 0, none⟩) 2 2]) o w9 c off]
      exact (hb9.frozen (p := ⟨c, off, none⟩) (by show c < w1.heap.size; omega)).trans (H1.out.1.frz c off hc)
    · exact (hk10 k h1).trans ((hb9.block k (by omega)).trans (H1.out.1.block k hk h2))
    · have hbel := H1.out.1.below B h2 h3
      rw [← hw10]
      exact (hbel.trans (hb9.mono (by have := hbel.size; omega))).trans (setAll_below b ([.int .i64 7, .int .i64 0, .bool false, .slice none 0 0, .bool false, .string ⟨#[]⟩, .slice none 0 0, .slice none 0 0, .int .i64 0, .slice none 0 0, .bool false, .int .i64 37, .slice (some ⟨g3, 0, none⟩) 2 2]) o w9 B h1)
  have hSex : ∀ i, i < 13 → ∃ x, w9.cell? ⟨b, o + i, none⟩ = some x := fun i hi => ⟨_, (hb9.cell (p := ⟨b, o + i, none⟩) hbl1).trans (H1.out.2.1 i (S.cells[i]'hi) (List.getElem?_eq_getElem (l := S.cells) hi))⟩
  have hh : ∀ j v, ([.int .i64 7, .int .i64 0, .bool false, .slice none 0 0, .bool false, .string ⟨#[]⟩, .slice none 0 0, .slice none 0 0, .int .i64 0, .slice none 0 0, .bool false, .int .i64 37, .slice (some ⟨g3, 0, none⟩) 2 2] : List Value)[j]? = some v → w10.cell? ⟨b, o + j, none⟩ = some v := fun j v hj => by
    rw [← hw10]
    exact setAll_here b ([.int .i64 7, .int .i64 0, .bool false, .slice none 0 0, .bool false, .string ⟨#[]⟩, .slice none 0 0, .slice none 0 0, .int .i64 0, .slice none 0 0, .bool false, .int .i64 37, .slice (some ⟨g3, 0, none⟩) 2 2]) o w9 (fun i hi => hSex i hi) j v hj
  have HE := Lib.hid (And.intro hT2 (And.intro hh (And.intro ((hk10 g1 (by omega)).trans ((hb9.block g1 hg1b).trans H1.out.2.2)) ((hk10 g3 (by omega)).trans hg3c))))
  have hg3l : g3 < w10.heap.size := by omega
  have hg1l : g1 < w10.heap.size := by omega
  clear hT2 hh hk10 hg3c hg2c hb9 hw10 H1 hSex
  simp only [Exit.inBlock]
  refine bodyPost_end (results_none rfl _ _ _) rfl ?_
  exact ⟨rfl, g1, g3, hg1a, by omega, hg1l, hg3l, HE.out.2.2.1, HE.out.2.2.2, HE.out.2.1, HE.out.1⟩
end Go.Proofs.YthdhdmmlmbkalaaGreatDoor
