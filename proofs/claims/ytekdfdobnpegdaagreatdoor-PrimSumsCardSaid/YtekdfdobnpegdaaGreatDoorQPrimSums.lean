/-
  PrimSums: its walk.
-/
import Derived.Test.YtekdfdobnpegdaaGreatDoorQPsb
import Derived.RegionTactic
import Derived.BigRegion
import Derived.Deep.CutRange
import Derived.LoopTactic
import Derived.IntWalk
import Derived.Deep.RegionHeld3
import Derived.Deep.QuietTactic
set_option linter.unusedVariables false
set_option linter.unusedSimpArgs false
set_option linter.unusedSectionVars false
set_option linter.unnecessarySimpa false
namespace Go.Proofs.YtekdfdobnpegdaaGreatDoor
open Go.RowKit
set_option maxRecDepth 100000

theorem two_new (w : World) (A X : Obj) : ((w.alloc A).alloc X).heap[w.heap.size]? = some A ∧ ((w.alloc A).alloc X).heap[w.heap.size + 1]? = some X ∧ ((w.alloc A).alloc X).heap.size = w.heap.size + 2 ∧ Below w.heap.size w ((w.alloc A).alloc X) := by
  have s1 : (w.alloc A).heap.size = w.heap.size + 1 := World.size_alloc ..
  have h0 := heap_alloc_new w A
  have h1 := heap_alloc_new (w.alloc A) X
  rw [s1] at h1
  exact ⟨(Below.heap_alloc _ _ _ (by rw [s1]; omega)).trans h0, h1, by rw [World.size_alloc, s1], ((Below.refl _ _).alloc (Nat.le_refl _) _).alloc (by omega) _⟩
theorem sums_cells {W v : World} {g g' : Nat} {b b' : Bool} {A A' : Option Addr} {n n' c c' : Nat} {T T' : TypeId} (h : Below W.heap.size W v)
    (h1 : W.heap[g]? = some (.cells #[.int .i64 1, .bool b, .slice A n c, .bool false, .string ⟨#[]⟩, .slice none 0 0, .slice none 0 0] T (0, 0)))
    (h2 : W.heap[g']? = some (.cells #[.int .i64 1, .bool b', .slice A' n' c', .bool false, .string ⟨#[]⟩, .slice none 0 0, .slice none 0 0] T' (0, 0))) :
    v.cell? ⟨g, 0, none⟩ = some (.int .i64 1) ∧ v.cell? ⟨g, 1, none⟩ = some (.bool b) ∧ v.cell? ⟨g, 2, none⟩ = some (.slice A n c) ∧ v.cell? ⟨g, 3, none⟩ = some (.bool false) ∧ v.cell? ⟨g, 4, none⟩ = some (.string ⟨#[]⟩) ∧ v.cell? ⟨g, 5, none⟩ = some (.slice none 0 0) ∧ v.cell? ⟨g, 6, none⟩ = some (.slice none 0 0) ∧ v.cell? ⟨g', 0, none⟩ = some (.int .i64 1) ∧ v.cell? ⟨g', 1, none⟩ = some (.bool b') ∧ v.cell? ⟨g', 2, none⟩ = some (.slice A' n' c') ∧ v.cell? ⟨g', 3, none⟩ = some (.bool false) ∧ v.cell? ⟨g', 4, none⟩ = some (.string ⟨#[]⟩) ∧ v.cell? ⟨g', 5, none⟩ = some (.slice none 0 0) ∧ v.cell? ⟨g', 6, none⟩ = some (.slice none 0 0) := by
  replace h1 := (h.block g (Array.getElem?_eq_some_iff.1 h1).1).trans h1
  replace h2 := (h.block g' (Array.getElem?_eq_some_iff.1 h2).1).trans h2
  simp only [World.cell?, h1, h2]
  simp
set_option maxHeartbeats 12800000 in
theorem primSums_walk (s0 : Bool) (a0 : Option Addr) (len0 cap0 : Nat) (ys0 : List Nat) (s1 : Bool) (a1 : Option Addr) (len1 cap1 : Nat) (ys1 : List Nat) (w : World) (sl0 : Sl w a0 len0 cap0 ys0) (sl1 : Sl w a1 len1 cap1 ys1) (z0 : len0 ≤ 35184372087808) (z1 : len1 ≤ 35184372087808) :
    Calls Tryz.prog 6 #[.agg #[.bool s0, .slice a0 len0 cap0], .agg #[.bool s1, .slice a1 len1 cap1]] w fun e w' => e = .returned (.bool true) ∧ Below w.heap.size w w' := by
  obtain ⟨x, hx⟩ : ∃ x, zOf s0 (val ys0) = x := ⟨_, rfl⟩
  obtain ⟨y, hy⟩ : ∃ y, zOf s1 (val ys1) = y := ⟨_, rfl⟩
  have T := two_new w (.cells #[.bool s0, .slice a0 len0 cap0] 27) (.cells #[.bool s1, .slice a1 len1 cap1] 27)
  obtain ⟨w2, hw2⟩ : ∃ w2, (w.alloc (.cells #[.bool s0, .slice a0 len0 cap0] 27)).alloc (.cells #[.bool s1, .slice a1 len1 cap1] 27) = w2 := ⟨_, rfl⟩
  rw [hw2] at T
  have HW := Lib.hid hw2
  have HT := Lib.hid T
  have HXY := Lib.hid (And.intro hx hy)
  have HN0 := Lib.hid (fun (W : World) (hb : Below w.heap.size w W) => rwnorm_num (w := W) (a := x) (K := len0) (u := .agg #[.bool s0, .slice a0 len0 cap0]) ⟨s0, _, val ys0, rfl, ⟨a0, len0, cap0, ys0, rfl, sl0.below hb, rfl, Nat.le_refl _⟩, hx.symm⟩ z0)
  have HN1 := Lib.hid (fun (W : World) (hb : Below w.heap.size w W) => rwnorm_num (w := W) (a := y) (K := len1) (u := .agg #[.bool s1, .slice a1 len1 cap1]) ⟨s1, _, val ys1, rfl, ⟨a1, len1, cap1, ys1, rfl, sl1.below hb, rfl, Nat.le_refl _⟩, hy.symm⟩ z1)
  obtain ⟨bx, hbx⟩ : ∃ bx, decide (x < 0) = bx := ⟨_, rfl⟩
  obtain ⟨byy, hby⟩ : ∃ byy, decide (y < 0) = byy := ⟨_, rfl⟩
  have HB := Lib.hid (And.intro hbx hby)
  clear T hw2 hx hy hbx hby sl0 sl1
  go_enter Tryz.func6, Tryz.ntmps6
  go_wp2_with fail
  rw [HW.out]
  go_cut [5, 6] from 19 to 25 (fun u v wc => ∃ (gx gy : Nat) (A A' : Option Addr) (n c n' c' : Nat), u = .pointer (some ⟨gx, 0, none⟩) ∧ v = .pointer (some ⟨gy, 0, none⟩) ∧ Hid (wc.heap[gx]? = some (.cells #[.int .i64 1, .bool bx, .slice A n c, .bool false, .string ⟨#[]⟩, .slice none 0 0, .slice none 0 0] 29) ∧ wc.heap[gy]? = some (.cells #[.int .i64 1, .bool byy, .slice A' n' c', .bool false, .string ⟨#[]⟩, .slice none 0 0, .slice none 0 0] 29) ∧ Sl wc A n c (limbs x.natAbs) ∧ Sl wc A' n' c' (limbs y.natAbs) ∧ Below w.heap.size w wc))
  case first =>
    have hbw : ∀ W, Below w2.heap.size w2 W → Below w.heap.size w W := fun W hb => HT.out.2.2.2.trans (hb.mono (by rw [HT.out.2.2.1]; omega))
    have hp0 : ∀ W, Below w2.heap.size w2 W → W.heap[w.heap.size]? = some (.cells #[.bool s0, .slice a0 len0 cap0] 27) := fun W hb => (hb.block _ (by rw [HT.out.2.2.1]; omega)).trans HT.out.1
    have hp1 : ∀ W, Below w2.heap.size w2 W → W.heap[w.heap.size + 1]? = some (.cells #[.bool s1, .slice a1 len1 cap1] 27) := fun W hb => (hb.block _ (by rw [HT.out.2.2.1]; omega)).trans HT.out.2.1
    refine wp_region_late (nA := 8) 5 (by decide) (fun a0 lt a W => ∃ (gx gy : Nat) (A : Option Addr) (n c : Nat), a.tmps.getD 5 undef = .pointer (some ⟨gx, 0, none⟩) ∧ a.tmps.getD 6 undef = .pointer (some ⟨gy, 0, none⟩) ∧ (∃ A n c, a.tmps.getD 23 undef = .agg #[.bool byy, .slice A n c] ∧ Sl W A n c (limbs y.natAbs)) ∧ (lt = true → ∃ A n c, a.tmps.getD 24 undef = .agg #[.int .i64 1, .bool byy, .slice A n c, .bool false, .string ⟨#[]⟩, .slice none 0 0, .slice none 0 0] ∧ Sl W A n c (limbs y.natAbs)) ∧ W.heap[gx]? = some (.cells #[.int .i64 1, .bool bx, .slice A n c, .bool false, .string ⟨#[]⟩, .slice none 0 0, .slice none 0 0] 29) ∧ W.heap[gy]? = some (Obj.cells #[.int .i64 0, .bool false, .slice none 0 0, .bool false, .string ⟨#[]⟩, .slice none 0 0, .slice none 0 0] 29) ∧ gx ≠ gy ∧ w2.heap.size ≤ gx ∧ w2.heap.size ≤ gy ∧ Sl W A n c (limbs x.natAbs) ∧ a.defers = a0.defers ∧ a.tmps.size = a0.tmps.size ∧ (∀ m, (∀ j, j < 8 → m ≠ (if j < 6 then 19 + j else j - 1)) → a.tmps.getD m undef = a0.tmps.getD m undef) ∧ Below w2.heap.size w2 W)
      6 7 (by decide) (by decide) (by decide) (fun W v v' => ∃ g g' : Nat, v = .pointer (some ⟨g, 0, none⟩) ∧ v' = .pointer (some ⟨g', 0, none⟩) ∧ g ≠ g') (fun W W' v v' h hb => h)
      (by kernel_rfl) (by kernel_rfl) (fun j => if j < 6 then 19 + j else j - 1)
      (fun i W v => match i with
        | 0 => v = .agg #[.bool s0, .slice a0 len0 cap0]
        | 1 => ∃ A n c, v = .agg #[.bool bx, .slice A n c] ∧ Sl W A n c (limbs x.natAbs)
        | 2 => ∃ A n c, v = .agg #[.int .i64 1, .bool bx, .slice A n c, .bool false, .string ⟨#[]⟩, .slice none 0 0, .slice none 0 0] ∧ Sl W A n c (limbs x.natAbs)
        | 3 => v = .agg #[.bool s1, .slice a1 len1 cap1]
        | 4 => ∃ A n c, v = .agg #[.bool byy, .slice A n c] ∧ Sl W A n c (limbs y.natAbs)
        | 5 => ∃ A n c, v = .agg #[.int .i64 1, .bool byy, .slice A n c, .bool false, .string ⟨#[]⟩, .slice none 0 0, .slice none 0 0] ∧ Sl W A n c (limbs y.natAbs)
        | _ => ∃ g, v = .pointer (some ⟨g, 0, none⟩) ∧ w2.heap.size ≤ g ∧ W.heap[g]? = some (Obj.cells #[.int .i64 0, .bool false, .slice none 0 0, .bool false, .string ⟨#[]⟩, .slice none 0 0, .slice none 0 0] 29))
      (by kernel_rfl) (by kernel_rfl) (by kernel_rfl)
      (fun i j hi hj h => by split at h <;> split at h <;> omega) (fun i hi => by simp only [List.size_toArray, List.length_cons, List.length_nil]; split <;> omega) ?_ ?_ ?_ ?_ ?_
    · intro i hi W W' v h hb
      rcases (show i = 0 ∨ i = 1 ∨ i = 2 ∨ i = 3 ∨ i = 4 ∨ i = 5 ∨ i = 6 ∨ i = 7 by omega) with rfl | rfl | rfl | rfl | rfl | rfl | rfl | rfl
      · exact h
      · obtain ⟨A, n, c, e, h1⟩ := h; exact ⟨A, n, c, e, h1.below hb⟩
      · obtain ⟨A, n, c, e, h1⟩ := h; exact ⟨A, n, c, e, h1.below hb⟩
      · exact h
      · obtain ⟨A, n, c, e, h1⟩ := h; exact ⟨A, n, c, e, h1.below hb⟩
      · obtain ⟨A, n, c, e, h1⟩ := h; exact ⟨A, n, c, e, h1.below hb⟩
      · obtain ⟨P, e, h1, h2⟩ := h; exact ⟨P, e, h1, (hb.block P (Array.getElem?_eq_some_iff.1 h2).1).trans h2⟩
      · obtain ⟨P, e, h1, h2⟩ := h; exact ⟨P, e, h1, (hb.block P (Array.getElem?_eq_some_iff.1 h2).1).trans h2⟩
    · intro i hi l A W I hdep
      rcases (show i = 0 ∨ i = 1 ∨ i = 2 ∨ i = 3 ∨ i = 4 ∨ i = 5 ∨ i = 6 ∨ i = 7 by omega) with rfl | rfl | rfl | rfl | rfl | rfl | rfl | rfl
      · exact wpOp_val rfl rfl (exec_loadI rfl ((I.other 2 (by intro j hj; split <;> omega)).trans rfl) (by rw [Lib.cell_of_heap (hp0 W I.below)]; rfl) (by rw [Lib.cell_of_heap (hp0 W I.below)]; rfl)) ⟨_, rfl, rfl, Below.refl _ _, fun h => absurd h (by decide), fun h => absurd h (by decide)⟩
      · have v0 : A.tmps.getD 19 undef = _ := I.val 0 (by decide) (hdep 0 (by kernel_rfl))
        refine wpOp_call rfl rfl ((exec_call rfl).trans (by rw [v0])) (by simp [go_sem]) (HN0.out W (hbw W I.below)) ?_
        rintro e W' ⟨v, rfl, ⟨_, rfl, B, n, c, rfl, hs, _⟩, b⟩
        rw [HB.out.1]
        exact ⟨_, rfl, _, rfl, ⟨B, n, c, rfl, hs⟩, b, fun h => absurd h (by decide), fun h => absurd h (by decide)⟩
      · obtain ⟨B, n, c, v0, hs⟩ : ∃ B n c, A.tmps.getD 20 undef = .agg #[.bool bx, .slice B n c] ∧ Sl W B n c (limbs x.natAbs) := I.val 1 (by decide) (hdep 1 (by kernel_rfl))
        exact wpOp_val rfl rfl (exec_buildN rfl v0) ⟨_, rfl, ⟨B, n, c, rfl, hs⟩, Below.refl _ _, fun h => absurd h (by decide), fun h => absurd h (by decide)⟩
      · exact wpOp_val rfl rfl (exec_loadI rfl ((I.other 3 (by intro j hj; split <;> omega)).trans rfl) (by rw [Lib.cell_of_heap (hp1 W I.below)]; rfl) (by rw [Lib.cell_of_heap (hp1 W I.below)]; rfl)) ⟨_, rfl, rfl, Below.refl _ _, fun h => absurd h (by decide), fun h => absurd h (by decide)⟩
      · have v0 : A.tmps.getD 22 undef = _ := I.val 3 (by decide) (hdep 3 (by kernel_rfl))
        refine wpOp_call rfl rfl ((exec_call rfl).trans (by rw [v0])) (by simp [go_sem]) (HN1.out W (hbw W I.below)) ?_
        rintro e W' ⟨v, rfl, ⟨_, rfl, B, n, c, rfl, hs, _⟩, b⟩
        rw [HB.out.2]
        exact ⟨_, rfl, _, rfl, ⟨B, n, c, rfl, hs⟩, b, fun h => absurd h (by decide), fun h => absurd h (by decide)⟩
      · obtain ⟨B, n, c, v0, hs⟩ : ∃ B n c, A.tmps.getD 23 undef = .agg #[.bool byy, .slice B n c] ∧ Sl W B n c (limbs y.natAbs) := I.val 4 (by decide) (hdep 4 (by kernel_rfl))
        exact wpOp_val rfl rfl (exec_buildN rfl v0) ⟨_, rfl, ⟨B, n, c, rfl, hs⟩, Below.refl _ _, fun h => absurd h (by decide), fun h => absurd h (by decide)⟩
      · refine wpOp_val rfl rfl (exec_allocD rfl) ⟨_, rfl, ⟨_, rfl, I.below.size, World.alloc_heap_new _ _⟩, (Below.refl _ _).alloc (Nat.le_refl _) _, fun _ hl => ?_, fun h => absurd h (by decide)⟩
        obtain ⟨g, e, _, u1⟩ : ∃ g, A.tmps.getD 6 undef = .pointer (some ⟨g, 0, none⟩) ∧ w2.heap.size ≤ g ∧ W.heap[g]? = some (Obj.cells #[.int .i64 0, .bool false, .slice none 0 0, .bool false, .string ⟨#[]⟩, .slice none 0 0, .slice none 0 0] 29) := I.val 7 (by decide) hl
        exact ⟨_, g, rfl, e, fun h => by have := (Array.getElem?_eq_some_iff.1 u1).1; omega⟩
      · refine wpOp_val rfl rfl (exec_allocD rfl) ⟨_, rfl, ⟨_, rfl, I.below.size, World.alloc_heap_new _ _⟩, (Below.refl _ _).alloc (Nat.le_refl _) _, fun h => absurd h (by decide), fun _ hl => ?_⟩
        obtain ⟨g, e, _, u1⟩ : ∃ g, A.tmps.getD 5 undef = .pointer (some ⟨g, 0, none⟩) ∧ w2.heap.size ≤ g ∧ W.heap[g]? = some (Obj.cells #[.int .i64 0, .bool false, .slice none 0 0, .bool false, .string ⟨#[]⟩, .slice none 0 0, .slice none 0 0] 29) := I.val 6 (by decide) hl
        exact ⟨g, _, e, rfl, fun h => by have := (Array.getElem?_eq_some_iff.1 u1).1; omega⟩
    · intro l A W I hall
      obtain ⟨gx, v6, hgx, hzx⟩ : ∃ g, A.tmps.getD 5 undef = .pointer (some ⟨g, 0, none⟩) ∧ w2.heap.size ≤ g ∧ W.heap[g]? = some (Obj.cells #[.int .i64 0, .bool false, .slice none 0 0, .bool false, .string ⟨#[]⟩, .slice none 0 0, .slice none 0 0] 29) := I.val 6 (by decide) (hall 6 (by decide) (by decide))
      obtain ⟨gy, v7, hgy, hzy⟩ : ∃ g, A.tmps.getD 6 undef = .pointer (some ⟨g, 0, none⟩) ∧ w2.heap.size ≤ g ∧ W.heap[g]? = some (Obj.cells #[.int .i64 0, .bool false, .slice none 0 0, .bool false, .string ⟨#[]⟩, .slice none 0 0, .slice none 0 0] 29) := I.val 7 (by decide) (hall 7 (by decide) (by decide))
      obtain ⟨B, n, c, v2, hs⟩ : ∃ B n c, A.tmps.getD 21 undef = .agg #[.int .i64 1, .bool bx, .slice B n c, .bool false, .string ⟨#[]⟩, .slice none 0 0, .slice none 0 0] ∧ Sl W B n c (limbs x.natAbs) := I.val 2 (by decide) (hall 2 (by decide) (by decide))
      obtain ⟨B', n', c', v4, hs'⟩ : ∃ B n c, A.tmps.getD 23 undef = .agg #[.bool byy, .slice B n c] ∧ Sl W B n c (limbs y.natAbs) := I.val 4 (by decide) (hall 4 (by decide) (by decide))
      have hne : gx ≠ gy := by
        obtain ⟨g, g', e1, e2, h⟩ : ∃ g g' : Nat, A.tmps.getD 5 undef = .pointer (some ⟨g, 0, none⟩) ∧ A.tmps.getD 6 undef = .pointer (some ⟨g', 0, none⟩) ∧ g ≠ g' := I.rel (hall 6 (by decide) (by decide)) (hall 7 (by decide) (by decide))
        rw [v6] at e1; rw [v7] at e2
        simp only [Value.pointer.injEq, Option.some.injEq, Addr.mk.injEq, true_and, and_true] at e1 e2
        omega
      refine wpOp_storeD rfl rfl rfl rfl v6 (u := plainT 1 bx B n c (limbs x.natAbs) false ⟨#[]⟩) v2 (x := plainT 0 false none 0 0 [] false ⟨#[]⟩) hzx ?_
      intro W' h1 hoth hsz hbb
      refine ⟨gx, gy, B, n, c, v6, v7, ⟨B', n', c', v4, hs'.off hzx hoth hsz⟩, fun hl => ?_, h1, (hoth gy hne.symm).trans hzy, hne, hgx, hgy, hs.off hzx hoth hsz, I.defers, I.size, I.other, I.below.trans (hbb w2.heap.size hgx)⟩
      obtain ⟨B5, n5, c5, v5, hs5⟩ : ∃ B n c, A.tmps.getD 24 undef = .agg #[.int .i64 1, .bool byy, .slice B n c, .bool false, .string ⟨#[]⟩, .slice none 0 0, .slice none 0 0] ∧ Sl W B n c (limbs y.natAbs) := I.val 5 (by decide) hl
      exact ⟨B5, n5, c5, v5, hs5.off hzx hoth hsz⟩
    · rintro A W ⟨gx, gy, B, n, c, v6, v7, ⟨B', n', c', v4, hs'⟩, -, h1, h2, hne, hgx, hgy, hs, hdf, hsz, hoth, hb⟩
      refine wpOp_val rfl rfl (exec_buildN rfl v4) ?_
      have hg : ∀ m, (A.put (some 24) (.agg #[.int .i64 1, .bool byy, .slice B' n' c', .bool false, .string ⟨#[]⟩, .slice none 0 0, .slice none 0 0])).tmps.getD m undef = if m = 24 then .agg #[.int .i64 1, .bool byy, .slice B' n' c', .bool false, .string ⟨#[]⟩, .slice none 0 0, .slice none 0 0] else A.tmps.getD m undef := fun m => put_get (by rw [hsz]; simp)
      refine ⟨gx, gy, B, n, c, (hg 5).trans v6, (hg 6).trans v7, ⟨B', n', c', (hg 23).trans v4, hs'⟩, fun _ => ⟨B', n', c', hg 24, hs'⟩, h1, h2, hne, hgx, hgy, hs, hdf, by rw [← hsz]; simp [Act.put], fun m hm => ?_, hb⟩
      refine (hg m).trans ?_
      rw [if_neg (show m ≠ 24 from hm 5 (by decide))]
      exact hoth m hm
    · rintro A W ⟨gx, gy, B, n, c, v6, v7, ⟨B4, n4, c4, v4, -⟩, h5, h1, h2, hne, hgx, hgy, hs, hdf, hsz, hoth, hb⟩
      obtain ⟨B', n', c', v5, hs'⟩ := h5 rfl
      obtain ⟨u0, v0⟩ : ∃ u, A.tmps.getD 19 undef = u := ⟨_, rfl⟩
      obtain ⟨u1, v1⟩ : ∃ u, A.tmps.getD 20 undef = u := ⟨_, rfl⟩
      obtain ⟨u2, v2⟩ : ∃ u, A.tmps.getD 21 undef = u := ⟨_, rfl⟩
      obtain ⟨u3, v3⟩ : ∃ u, A.tmps.getD 22 undef = u := ⟨_, rfl⟩
      have hA := tower_pairs (a := A) [(19, u0), (20, u1), (21, u2), (22, u3), (23, .agg #[.bool byy, .slice B4 n4 c4]), (24, .agg #[.int .i64 1, .bool byy, .slice B' n' c', .bool false, .string ⟨#[]⟩, .slice none 0 0, .slice none 0 0]), (5, .pointer (some ⟨gx, 0, none⟩)), (6, .pointer (some ⟨gy, 0, none⟩))] ?_ ?_ hdf hsz (fun m hm => hoth m (fun j hj => by
        simp only [List.forall_mem_cons] at hm
        obtain ⟨k0, k1, k2, k3, k4, k5, k6, k7, -⟩ := hm
        rcases (show j = 0 ∨ j = 1 ∨ j = 2 ∨ j = 3 ∨ j = 4 ∨ j = 5 ∨ j = 6 ∨ j = 7 by omega) with rfl | rfl | rfl | rfl | rfl | rfl | rfl | rfl
        · exact k0
        · exact k1
        · exact k2
        · exact k3
        · exact k4
        · exact k5
        · exact k6
        · exact k7))
      rotate_left
      · intro p hp
        simp only [List.mem_cons, List.not_mem_nil, or_false] at hp
        rcases hp with rfl | rfl | rfl | rfl | rfl | rfl | rfl | rfl <;> simp
      · intro p hp
        simp only [List.mem_cons, List.not_mem_nil, or_false] at hp
        rcases hp with rfl | rfl | rfl | rfl | rfl | rfl | rfl | rfl
        · exact v0
        · exact v1
        · exact v2
        · exact v3
        · exact v4
        · exact v5
        · exact v6
        · exact v7
      clear v0 v1 v2 v3 v4 v5 v6 v7 hoth hsz hdf h5
      subst hA
      simp only [List.foldl, Act.put, List.setIfInBounds_toArray, List.set_cons_zero, List.set_cons_succ]
      refine wpOp_storeD rfl rfl rfl rfl rfl (u := plainT 1 byy B' n' c' (limbs y.natAbs) false ⟨#[]⟩) rfl (x := plainT 0 false none 0 0 [] false ⟨#[]⟩) h2 ?_
      intro W' q1 hoth hsz hbb
      have q2 := (hoth gx hne).trans h1
      have q3 := hs.off h2 hoth hsz
      have q4 := hs'.off h2 hoth hsz
      have q5 := hbw W' (hb.trans (hbb w2.heap.size hgy))
      show Exit.then _ _ _ _ _
      go_wp2_with fail
      go_meet
      case rel => exact ⟨gx, gy, B, B', n, c, n', c', rfl, rfl, Lib.hid ⟨q2, q1, q3, q4, q5⟩⟩
  case rest =>
    obtain ⟨gx, gy, A, A', n, c, n', c', rfl, rfl, HV⟩ := hcut
    clear HT HN0 HN1 HW
    obtain ⟨⟨d0, d1, d2, d3, d4, d5, d6⟩, -⟩ := cells7 HV.out.1
    obtain ⟨⟨e0, e1, e2, e3, e4, e5, e6⟩, -⟩ := cells7 HV.out.2.1
    go_wp2_with fail
    clear d0 d1 d2 d3 d4 d5 d6 e0 e1 e2 e3 e4 e5 e6
    have HL := light_num (g := bx) (g' := byy) HV.out.2.2.1 HV.out.2.2.2.1
    by_cases hl : ¬ (n ≤ 66 ∧ n' ≤ 66)
    · rw [decide_eq_false hl] at HL
      refine HL.mono ?_
      rintro e w1 ⟨rfl, b1⟩
      have H1 := Lib.hid (HV.out.2.2.2.2.trans (b1.mono HV.out.2.2.2.2.size))
      clear HL b1 HV hl
      go_wp2_with fail
      refine (lives9_yes w1).mono ?_
      rintro e w2 ⟨rfl, b2⟩
      have H2 := Lib.hid (H1.out.trans (b2.mono H1.out.size))
      clear b2 H1
      go_wp2_with fail
      go_ret
      exact ⟨rfl, H2.out⟩
    replace hl := Decidable.not_not.1 hl
    rw [decide_eq_true hl] at HL
    refine HL.mono ?_
    rintro e w1 ⟨rfl, b1⟩
    have H1 := Lib.hid (And.intro ((b1.block gx (Array.getElem?_eq_some_iff.1 HV.out.1).1).trans HV.out.1) (And.intro ((b1.block gy (Array.getElem?_eq_some_iff.1 HV.out.2.1).1).trans HV.out.2.1) (And.intro (HV.out.2.2.1.below b1) (And.intro (HV.out.2.2.2.1.below b1) (HV.out.2.2.2.2.trans (b1.mono HV.out.2.2.2.2.size))))))
    clear HL b1 HV
    obtain ⟨⟨d0, d1, d2, d3, d4, d5, d6⟩, -⟩ := cells7 H1.out.1
    obtain ⟨⟨e0, e1, e2, e3, e4, e5, e6⟩, -⟩ := cells7 H1.out.2.1
    by_cases hg1 : 60 < n
    · have q1 : decide ((60 : Int) < (n : Int)) = true := decide_eq_true (by omega)
      go_wp2_with fail
      clear d0 d1 d2 d3 d4 d5 d6 e0 e1 e2 e3 e4 e5 e6
      refine (lives9_yes _).mono ?_
      rintro e w2 ⟨rfl, b2⟩
      have H2 := Lib.hid (H1.out.2.2.2.2.trans (b2.mono H1.out.2.2.2.2.size))
      clear b2 H1
      go_wp2_with fail
      go_ret
      exact ⟨rfl, H2.out⟩
    have q1 : decide ((60 : Int) < (n : Int)) = false := decide_eq_false (by omega)
    by_cases hg2 : 60 < n'
    · have q2 : decide ((60 : Int) < (n' : Int)) = true := decide_eq_true (by omega)
      go_wp2_with fail
      clear d0 d1 d2 d3 d4 d5 d6 e0 e1 e2 e3 e4 e5 e6
      refine (lives9_yes _).mono ?_
      rintro e w2 ⟨rfl, b2⟩
      have H2 := Lib.hid (H1.out.2.2.2.2.trans (b2.mono H1.out.2.2.2.2.size))
      clear b2 H1
      go_wp2_with fail
      go_ret
      exact ⟨rfl, H2.out⟩
    have q2 : decide ((60 : Int) < (n' : Int)) = false := decide_eq_false (by omega)
    go_wp2_with fail
    clear d0 d1 d2 d3 d4 d5 d6 e0 e1 e2 e3 e4 e5 e6 q1 q2
    have hx60 := Lib.hid (abs_small H1.out.2.2.1 (by omega))
    have hy60 := Lib.hid (abs_small H1.out.2.2.2.1 (by omega))
    have hn1000 := Lib.hid (And.intro (show n ≤ 1000 by omega) (show n' ≤ 1000 by omega))
    have HX_0 := Lib.hid H1.out.1
    have HY_0 := Lib.hid H1.out.2.1
    have HA_0 := Lib.hid H1.out.2.2.1
    have HC_0 := Lib.hid H1.out.2.2.2.1
    have HB_0 := Lib.hid H1.out.2.2.2.2
    clear H1 hl hg1 hg2
    obtain ⟨sv, hsv⟩ : ∃ sv, x + y = sv := ⟨_, rfl⟩
    obtain ⟨bs, hbs⟩ : ∃ bs, decide (sv < 0) = bs := ⟨_, rfl⟩
    have HS := Lib.hid (And.intro hsv (And.intro hbs (And.intro (show sv.natAbs < 4294967296 ^ 64 by rw [← hsv]; exact sum_small hx60.out hy60.out) (show sv - y = x by omega))))
    clear hsv hbs
    have hS := add_xy HB.out.1 HB.out.2 HA_0.out HC_0.out hn1000.out.1 hn1000.out.2 HS.out.1 HS.out.2.2.1
    refine hS.mono ?_
    clear hS
    rintro e w2 ⟨A1, n1, c1, rfl, t1, b1⟩
    rw [HS.out.2.1]
    have x1 := b1.alloc b1.size (.cells #[.int .i64 1, .bool bs, .slice A1 n1 c1, .bool false, .string ⟨#[]⟩, .slice none 0 0, .slice none 0 0] 29)
    have HB_1 := Lib.hid (HB_0.out.trans (x1.mono HB_0.out.size))
    have HX_1 := Lib.hid ((x1.block gx (Array.getElem?_eq_some_iff.1 HX_0.out).1).trans HX_0.out)
    have HY_1 := Lib.hid ((x1.block gy (Array.getElem?_eq_some_iff.1 HY_0.out).1).trans HY_0.out)
    have HA_1 := Lib.hid (HA_0.out.below x1)
    have HC_1 := Lib.hid (HC_0.out.below x1)
    have HS_1 := Lib.hid (heap_alloc_new w2 (.cells #[.int .i64 1, .bool bs, .slice A1 n1 c1, .bool false, .string ⟨#[]⟩, .slice none 0 0, .slice none 0 0] 29))
    have HD_1 := Lib.hid (t1.alloc (.cells #[.int .i64 1, .bool bs, .slice A1 n1 c1, .bool false, .string ⟨#[]⟩, .slice none 0 0, .slice none 0 0] 29))
    clear t1 b1 x1 HB_0 HX_0 HY_0 HA_0 HC_0
    go_upto_region 5 with (fail)
    generalize w2.alloc (.cells #[.int .i64 1, .bool bs, .slice A1 n1 c1, .bool false, .string ⟨#[]⟩, .slice none 0 0, .slice none 0 0] 29) = W2 at *
    generalize w2.heap.size = gs at *
    obtain ⟨⟨d0, d1, d2, d3, d4, d5, d6⟩, -⟩ := cells7 HS_1.out
    obtain ⟨⟨e0, e1, e2, e3, e4, e5, e6⟩, -⟩ := cells7 HY_1.out
    go_wp2_with fail
    clear d0 d1 d2 d3 d4 d5 d6 e0 e1 e2 e3 e4 e5 e6
    have hS := sub_xy HS.out.2.1 HB.out.2 HD_1.out HC_1.out (sl_small HD_1.out HS.out.2.2.1) hn1000.out.2 HS.out.2.2.2 (small_up hx60.out)
    refine hS.mono ?_
    clear hS
    rintro e w3 ⟨A2, n2, c2, rfl, t2, b2⟩
    rw [HB.out.1]
    have x2 := b2.alloc b2.size (.cells #[.int .i64 1, .bool bx, .slice A2 n2 c2, .bool false, .string ⟨#[]⟩, .slice none 0 0, .slice none 0 0] 29)
    have HB_2 := Lib.hid (HB_1.out.trans (x2.mono HB_1.out.size))
    have HX_2 := Lib.hid ((x2.block gx (Array.getElem?_eq_some_iff.1 HX_1.out).1).trans HX_1.out)
    have HY_2 := Lib.hid ((x2.block gy (Array.getElem?_eq_some_iff.1 HY_1.out).1).trans HY_1.out)
    have HS_2 := Lib.hid ((x2.block gs (Array.getElem?_eq_some_iff.1 HS_1.out).1).trans HS_1.out)
    have HA_2 := Lib.hid (HA_1.out.below x2)
    have HC_2 := Lib.hid (HC_1.out.below x2)
    have HD_2 := Lib.hid (HD_1.out.below x2)
    have HT_2 := Lib.hid (heap_alloc_new w3 (.cells #[.int .i64 1, .bool bx, .slice A2 n2 c2, .bool false, .string ⟨#[]⟩, .slice none 0 0, .slice none 0 0] 29))
    have HE_2 := Lib.hid (t2.alloc (.cells #[.int .i64 1, .bool bx, .slice A2 n2 c2, .bool false, .string ⟨#[]⟩, .slice none 0 0, .slice none 0 0] 29))
    clear t2 b2 x2 HB_1 HX_1 HY_1 HS_1 HA_1 HC_1 HD_1
    go_upto_region 6 with (fail)
    generalize w3.alloc (.cells #[.int .i64 1, .bool bx, .slice A2 n2 c2, .bool false, .string ⟨#[]⟩, .slice none 0 0, .slice none 0 0] 29) = W3 at *
    generalize w3.heap.size = gt at *
    obtain ⟨⟨d0, d1, d2, d3, d4, d5, d6⟩, -⟩ := cells7 HT_2.out
    obtain ⟨⟨e0, e1, e2, e3, e4, e5, e6⟩, -⟩ := cells7 HX_2.out
    go_wp2_with fail
    clear d0 d1 d2 d3 d4 d5 d6 e0 e1 e2 e3 e4 e5 e6
    have hS := same_xy (x := x) (b := bx) HE_2.out HA_2.out (sl_small HE_2.out (small_up hx60.out)) hn1000.out.1
    refine hS.mono ?_
    clear hS
    rintro e w20 ⟨rfl, b20⟩
    have HB_3 := Lib.hid (HB_2.out.trans (b20.mono HB_2.out.size))
    have HX_3 := Lib.hid ((b20.block gx (Array.getElem?_eq_some_iff.1 HX_2.out).1).trans HX_2.out)
    have HY_3 := Lib.hid ((b20.block gy (Array.getElem?_eq_some_iff.1 HY_2.out).1).trans HY_2.out)
    have HS_3 := Lib.hid ((b20.block gs (Array.getElem?_eq_some_iff.1 HS_2.out).1).trans HS_2.out)
    have HT_3 := Lib.hid ((b20.block gt (Array.getElem?_eq_some_iff.1 HT_2.out).1).trans HT_2.out)
    have HA_3 := Lib.hid (HA_2.out.below b20)
    have HC_3 := Lib.hid (HC_2.out.below b20)
    have HD_3 := Lib.hid (HD_2.out.below b20)
    have HE_3 := Lib.hid (HE_2.out.below b20)
    clear HB_2 HX_2 HY_2 HS_2 HT_2 HA_2 HC_2 HD_2 HE_2
    clear b20 HS_3 HT_3 HD_3 HE_3
    go_upto_region 8 with (fail)
    by_cases hy0 : y = 0
    · have q3 : ((n' : Int) == 0) = true := by
        have hn0 : n' = 0 := by rw [HC_3.out.len, hy0]; rfl
        rw [hn0]; rfl
      obtain ⟨⟨d0, d1, d2, d3, d4, d5, d6⟩, -⟩ := cells7 HX_3.out
      obtain ⟨⟨e0, e1, e2, e3, e4, e5, e6⟩, -⟩ := cells7 HY_3.out
      go_wp2_with fail
      clear d0 d1 d2 d3 d4 d5 d6 e0 e1 e2 e3 e4 e5 e6
      have hS := quo0_xy HB.out.1 HB.out.2 HA_3.out HC_3.out hn1000.out.1 hn1000.out.2 hy0
      refine hS.mono ?_
      clear hS
      rintro e w5 ⟨A4, n4, c4, rfl, t4, b4⟩
      have x4 := b4.alloc b4.size (.cells #[.int .i64 0, .bool false, .slice A4 n4 c4, .bool false, .string ⟨#[]⟩, .slice none 0 0, .slice none 0 0] 29)
      have HB_4 := Lib.hid (HB_3.out.trans (x4.mono HB_3.out.size))
      have HX_4 := Lib.hid ((x4.block gx (Array.getElem?_eq_some_iff.1 HX_3.out).1).trans HX_3.out)
      have HY_4 := Lib.hid ((x4.block gy (Array.getElem?_eq_some_iff.1 HY_3.out).1).trans HY_3.out)
      have HA_4 := Lib.hid (HA_3.out.below x4)
      have HC_4 := Lib.hid (HC_3.out.below x4)
      have HQ_4 := Lib.hid (heap_alloc_new w5 (.cells #[.int .i64 0, .bool false, .slice A4 n4 c4, .bool false, .string ⟨#[]⟩, .slice none 0 0, .slice none 0 0] 29))
      clear t4 b4 x4 HB_3 HX_3 HY_3 HA_3 HC_3
      go_upto_region 9 with (fail)
      generalize w5.alloc (.cells #[.int .i64 0, .bool false, .slice A4 n4 c4, .bool false, .string ⟨#[]⟩, .slice none 0 0, .slice none 0 0] 29) = W5 at *
      generalize w5.heap.size = gq at *
      obtain ⟨⟨d0, d1, d2, d3, d4, d5, d6⟩, -⟩ := cells7 HX_4.out
      obtain ⟨⟨e0, e1, e2, e3, e4, e5, e6⟩, -⟩ := cells7 HY_4.out
      go_wp2_with fail
      clear d0 d1 d2 d3 d4 d5 d6 e0 e1 e2 e3 e4 e5 e6
      have hS := rem0_xy HB.out.1 HB.out.2 HA_4.out HC_4.out hn1000.out.1 hn1000.out.2 hy0
      refine hS.mono ?_
      clear hS
      rintro e w6 ⟨A5, n5, c5, rfl, t5, b5⟩
      have x5 := b5.alloc b5.size (.cells #[.int .i64 0, .bool false, .slice A5 n5 c5, .bool false, .string ⟨#[]⟩, .slice none 0 0, .slice none 0 0] 29)
      have HB_5 := Lib.hid (HB_4.out.trans (x5.mono HB_4.out.size))
      have HX_5 := Lib.hid ((x5.block gx (Array.getElem?_eq_some_iff.1 HX_4.out).1).trans HX_4.out)
      have HY_5 := Lib.hid ((x5.block gy (Array.getElem?_eq_some_iff.1 HY_4.out).1).trans HY_4.out)
      have HQ_5 := Lib.hid ((x5.block gq (Array.getElem?_eq_some_iff.1 HQ_4.out).1).trans HQ_4.out)
      have HA_5 := Lib.hid (HA_4.out.below x5)
      have HC_5 := Lib.hid (HC_4.out.below x5)
      have HR_5 := Lib.hid (heap_alloc_new w6 (.cells #[.int .i64 0, .bool false, .slice A5 n5 c5, .bool false, .string ⟨#[]⟩, .slice none 0 0, .slice none 0 0] 29))
      clear t5 b5 x5 HB_4 HX_4 HY_4 HQ_4 HA_4 HC_4
      go_upto_region 10 with (fail)
      generalize w6.alloc (.cells #[.int .i64 0, .bool false, .slice A5 n5 c5, .bool false, .string ⟨#[]⟩, .slice none 0 0, .slice none 0 0] 29) = W6 at *
      generalize w6.heap.size = gr at *
      obtain ⟨⟨e0, e1, e2, e3, e4, e5, e6⟩, -⟩ := cells7 HY_5.out
      go_wp2_with fail
      clear e0 e1 e2 e3 e4 e5 e6
      refine (lives9_yes _).mono ?_
      rintro e w30 ⟨rfl, b30⟩
      have H30 := Lib.hid (HB_5.out.trans (b30.mono HB_5.out.size))
      clear b30 HB_5
      go_wp2_with fail
      go_ret
      exact ⟨rfl, H30.out⟩
    have hyn : n' ≠ 0 := fun h => hy0 (by have h2 := HC_3.out.len; rw [h] at h2; have h3 := limbs_val y.natAbs; rw [List.eq_nil_of_length_eq_zero h2.symm] at h3; have : y.natAbs = 0 := h3.symm; omega)
    have q3 : ((n' : Int) == 0) = false := beq_eq_false_iff_ne.2 (by omega)
    obtain ⟨qv, hqv⟩ : ∃ qv, quoQ x y = qv := ⟨_, rfl⟩
    obtain ⟨rv, hrv⟩ : ∃ rv, quoR x y = rv := ⟨_, rfl⟩
    obtain ⟨pv, hpv⟩ : ∃ pv, qv * y = pv := ⟨_, rfl⟩
    obtain ⟨bq, hbq⟩ : ∃ bq, decide (qv < 0) = bq := ⟨_, rfl⟩
    obtain ⟨br, hbr⟩ : ∃ br, decide (rv < 0) = br := ⟨_, rfl⟩
    obtain ⟨bp, hbp⟩ : ∃ bp, decide (pv < 0) = bp := ⟨_, rfl⟩
    have HQQ := Lib.hid (And.intro hqv (And.intro hbq (show qv.natAbs < 4294967296 ^ 64 by rw [← hqv]; exact small_up (quoQ_small hy0 hx60.out))))
    have HRR := Lib.hid (And.intro hrv (And.intro hbr (show rv.natAbs < 4294967296 ^ 64 by rw [← hrv]; exact small_up (quoR_small hx60.out))))
    have HPP := Lib.hid (And.intro hpv (And.intro hbp (And.intro (show pv.natAbs < 4294967296 ^ 64 by rw [← hpv, ← hqv]; exact qy_small hy0 hx60.out) (show pv + rv = x by rw [← hpv, ← hqv, ← hrv]; exact quo_back hy0))))
    clear hqv hrv hpv hbq hbr hbp hyn
    obtain ⟨⟨d0, d1, d2, d3, d4, d5, d6⟩, -⟩ := cells7 HX_3.out
    obtain ⟨⟨e0, e1, e2, e3, e4, e5, e6⟩, -⟩ := cells7 HY_3.out
    go_wp2_with fail
    clear d0 d1 d2 d3 d4 d5 d6 e0 e1 e2 e3 e4 e5 e6
    have hS := quo_xy HB.out.1 HB.out.2 HA_3.out HC_3.out hn1000.out.1 hn1000.out.2 HQQ.out.1 HQQ.out.2.2 hy0
    refine hS.mono ?_
    clear hS
    rintro e w5 ⟨A4, n4, c4, rfl, t4, b4⟩
    rw [HQQ.out.2.1]
    have x4 := b4.alloc b4.size (.cells #[.int .i64 1, .bool bq, .slice A4 n4 c4, .bool false, .string ⟨#[]⟩, .slice none 0 0, .slice none 0 0] 29)
    have HB_4 := Lib.hid (HB_3.out.trans (x4.mono HB_3.out.size))
    have HX_4 := Lib.hid ((x4.block gx (Array.getElem?_eq_some_iff.1 HX_3.out).1).trans HX_3.out)
    have HY_4 := Lib.hid ((x4.block gy (Array.getElem?_eq_some_iff.1 HY_3.out).1).trans HY_3.out)
    have HA_4 := Lib.hid (HA_3.out.below x4)
    have HC_4 := Lib.hid (HC_3.out.below x4)
    have HQ_4 := Lib.hid (heap_alloc_new w5 (.cells #[.int .i64 1, .bool bq, .slice A4 n4 c4, .bool false, .string ⟨#[]⟩, .slice none 0 0, .slice none 0 0] 29))
    have HF_4 := Lib.hid (t4.alloc (.cells #[.int .i64 1, .bool bq, .slice A4 n4 c4, .bool false, .string ⟨#[]⟩, .slice none 0 0, .slice none 0 0] 29))
    clear t4 b4 x4 HB_3 HX_3 HY_3 HA_3 HC_3
    go_upto_region 9 with (fail)
    generalize w5.alloc (.cells #[.int .i64 1, .bool bq, .slice A4 n4 c4, .bool false, .string ⟨#[]⟩, .slice none 0 0, .slice none 0 0] 29) = W5 at *
    generalize w5.heap.size = gq at *
    obtain ⟨⟨d0, d1, d2, d3, d4, d5, d6⟩, -⟩ := cells7 HX_4.out
    obtain ⟨⟨e0, e1, e2, e3, e4, e5, e6⟩, -⟩ := cells7 HY_4.out
    go_wp2_with fail
    clear d0 d1 d2 d3 d4 d5 d6 e0 e1 e2 e3 e4 e5 e6
    have hS := rem_xy HB.out.1 HB.out.2 HA_4.out HC_4.out hn1000.out.1 hn1000.out.2 HRR.out.1 HRR.out.2.2 hy0
    refine hS.mono ?_
    clear hS
    rintro e w6 ⟨A5, n5, c5, rfl, t5, b5⟩
    rw [HRR.out.2.1]
    have x5 := b5.alloc b5.size (.cells #[.int .i64 1, .bool br, .slice A5 n5 c5, .bool false, .string ⟨#[]⟩, .slice none 0 0, .slice none 0 0] 29)
    have HB_5 := Lib.hid (HB_4.out.trans (x5.mono HB_4.out.size))
    have HX_5 := Lib.hid ((x5.block gx (Array.getElem?_eq_some_iff.1 HX_4.out).1).trans HX_4.out)
    have HY_5 := Lib.hid ((x5.block gy (Array.getElem?_eq_some_iff.1 HY_4.out).1).trans HY_4.out)
    have HQ_5 := Lib.hid ((x5.block gq (Array.getElem?_eq_some_iff.1 HQ_4.out).1).trans HQ_4.out)
    have HA_5 := Lib.hid (HA_4.out.below x5)
    have HC_5 := Lib.hid (HC_4.out.below x5)
    have HF_5 := Lib.hid (HF_4.out.below x5)
    have HR_5 := Lib.hid (heap_alloc_new w6 (.cells #[.int .i64 1, .bool br, .slice A5 n5 c5, .bool false, .string ⟨#[]⟩, .slice none 0 0, .slice none 0 0] 29))
    have HG_5 := Lib.hid (t5.alloc (.cells #[.int .i64 1, .bool br, .slice A5 n5 c5, .bool false, .string ⟨#[]⟩, .slice none 0 0, .slice none 0 0] 29))
    clear t5 b5 x5 HB_4 HX_4 HY_4 HQ_4 HA_4 HC_4 HF_4
    go_upto_region 10 with (fail)
    generalize w6.alloc (.cells #[.int .i64 1, .bool br, .slice A5 n5 c5, .bool false, .string ⟨#[]⟩, .slice none 0 0, .slice none 0 0] 29) = W6 at *
    generalize w6.heap.size = gr at *
    obtain ⟨⟨d0, d1, d2, d3, d4, d5, d6⟩, -⟩ := cells7 HQ_5.out
    obtain ⟨⟨e0, e1, e2, e3, e4, e5, e6⟩, -⟩ := cells7 HY_5.out
    go_wp2_with fail
    clear d0 d1 d2 d3 d4 d5 d6 e0 e1 e2 e3 e4 e5 e6
    have hS := mul_xy HQQ.out.2.1 HB.out.2 HF_5.out HC_5.out (sl_small HF_5.out HQQ.out.2.2) hn1000.out.2 HPP.out.1 HPP.out.2.2.1
    refine hS.mono ?_
    clear hS
    rintro e w7 ⟨A6, n6, c6, rfl, t6, b6⟩
    rw [HPP.out.2.1]
    have x6 := b6.alloc b6.size (.cells #[.int .i64 1, .bool bp, .slice A6 n6 c6, .bool false, .string ⟨#[]⟩, .slice none 0 0, .slice none 0 0] 29)
    have HB_6 := Lib.hid (HB_5.out.trans (x6.mono HB_5.out.size))
    have HX_6 := Lib.hid ((x6.block gx (Array.getElem?_eq_some_iff.1 HX_5.out).1).trans HX_5.out)
    have HY_6 := Lib.hid ((x6.block gy (Array.getElem?_eq_some_iff.1 HY_5.out).1).trans HY_5.out)
    have HQ_6 := Lib.hid ((x6.block gq (Array.getElem?_eq_some_iff.1 HQ_5.out).1).trans HQ_5.out)
    have HR_6 := Lib.hid ((x6.block gr (Array.getElem?_eq_some_iff.1 HR_5.out).1).trans HR_5.out)
    have HA_6 := Lib.hid (HA_5.out.below x6)
    have HC_6 := Lib.hid (HC_5.out.below x6)
    have HF_6 := Lib.hid (HF_5.out.below x6)
    have HG_6 := Lib.hid (HG_5.out.below x6)
    have HP_6 := Lib.hid (heap_alloc_new w7 (.cells #[.int .i64 1, .bool bp, .slice A6 n6 c6, .bool false, .string ⟨#[]⟩, .slice none 0 0, .slice none 0 0] 29))
    have HI_6 := Lib.hid (t6.alloc (.cells #[.int .i64 1, .bool bp, .slice A6 n6 c6, .bool false, .string ⟨#[]⟩, .slice none 0 0, .slice none 0 0] 29))
    clear t6 b6 x6 HB_5 HX_5 HY_5 HQ_5 HR_5 HA_5 HC_5 HF_5 HG_5
    go_upto_region 13 with (fail)
    generalize w7.alloc (.cells #[.int .i64 1, .bool bp, .slice A6 n6 c6, .bool false, .string ⟨#[]⟩, .slice none 0 0, .slice none 0 0] 29) = W7 at *
    generalize w7.heap.size = gp at *
    obtain ⟨⟨d0, d1, d2, d3, d4, d5, d6⟩, -⟩ := cells7 HP_6.out
    obtain ⟨⟨e0, e1, e2, e3, e4, e5, e6⟩, -⟩ := cells7 HR_6.out
    go_wp2_with fail
    clear d0 d1 d2 d3 d4 d5 d6 e0 e1 e2 e3 e4 e5 e6
    have hS := add_xy HPP.out.2.1 HRR.out.2.1 HI_6.out HG_6.out (sl_small HI_6.out HPP.out.2.2.1) (sl_small HG_6.out HRR.out.2.2) HPP.out.2.2.2 (small_up hx60.out)
    refine hS.mono ?_
    clear hS
    rintro e w8 ⟨A7, n7, c7, rfl, t7, b7⟩
    rw [HB.out.1]
    have x7 := b7.alloc b7.size (.cells #[.int .i64 1, .bool bx, .slice A7 n7 c7, .bool false, .string ⟨#[]⟩, .slice none 0 0, .slice none 0 0] 29)
    have HB_7 := Lib.hid (HB_6.out.trans (x7.mono HB_6.out.size))
    have HX_7 := Lib.hid ((x7.block gx (Array.getElem?_eq_some_iff.1 HX_6.out).1).trans HX_6.out)
    have HY_7 := Lib.hid ((x7.block gy (Array.getElem?_eq_some_iff.1 HY_6.out).1).trans HY_6.out)
    have HQ_7 := Lib.hid ((x7.block gq (Array.getElem?_eq_some_iff.1 HQ_6.out).1).trans HQ_6.out)
    have HR_7 := Lib.hid ((x7.block gr (Array.getElem?_eq_some_iff.1 HR_6.out).1).trans HR_6.out)
    have HP_7 := Lib.hid ((x7.block gp (Array.getElem?_eq_some_iff.1 HP_6.out).1).trans HP_6.out)
    have HA_7 := Lib.hid (HA_6.out.below x7)
    have HC_7 := Lib.hid (HC_6.out.below x7)
    have HF_7 := Lib.hid (HF_6.out.below x7)
    have HG_7 := Lib.hid (HG_6.out.below x7)
    have HI_7 := Lib.hid (HI_6.out.below x7)
    have HZ_7 := Lib.hid (heap_alloc_new w8 (.cells #[.int .i64 1, .bool bx, .slice A7 n7 c7, .bool false, .string ⟨#[]⟩, .slice none 0 0, .slice none 0 0] 29))
    have HJ_7 := Lib.hid (t7.alloc (.cells #[.int .i64 1, .bool bx, .slice A7 n7 c7, .bool false, .string ⟨#[]⟩, .slice none 0 0, .slice none 0 0] 29))
    clear t7 b7 x7 HB_6 HX_6 HY_6 HQ_6 HR_6 HP_6 HA_6 HC_6 HF_6 HG_6 HI_6
    go_upto_region 14 with (fail)
    generalize w8.alloc (.cells #[.int .i64 1, .bool bx, .slice A7 n7 c7, .bool false, .string ⟨#[]⟩, .slice none 0 0, .slice none 0 0] 29) = W8 at *
    generalize w8.heap.size = gz at *
    obtain ⟨⟨d0, d1, d2, d3, d4, d5, d6⟩, -⟩ := cells7 HZ_7.out
    obtain ⟨⟨e0, e1, e2, e3, e4, e5, e6⟩, -⟩ := cells7 HX_7.out
    go_wp2_with fail
    clear d0 d1 d2 d3 d4 d5 d6 e0 e1 e2 e3 e4 e5 e6
    have hS := same_xy (x := x) (b := bx) HJ_7.out HA_7.out (sl_small HJ_7.out (small_up hx60.out)) hn1000.out.1
    refine hS.mono ?_
    clear hS
    rintro e w40 ⟨rfl, b40⟩
    have H40 := Lib.hid (HB_7.out.trans (b40.mono HB_7.out.size))
    clear b40 HB_7
    go_wp2_with fail
    refine (lives9_yes _).mono ?_
    rintro e w41 ⟨rfl, b41⟩
    have H41 := Lib.hid (H40.out.trans (b41.mono H40.out.size))
    clear b41 H40
    go_wp2_with fail
    go_ret
    exact ⟨rfl, H41.out⟩
end Go.Proofs.YtekdfdobnpegdaaGreatDoor
