/-
  The law DatumBack, walked.
-/
import Derived.Test.YtgboiopkihemaaaBkr
import Derived.Test.YtgboiopkihemaaaLvs
namespace Go.Proofs.Ytgboiopkihemaaa
open Go.RowKit

section
variable {P : Program} {ops : Array Oper} {Q : Exit → Act → World → Prop} {i : Nat} {o : Oper} {a : Act} {w w' : World} {K : Act → World → Prop}
theorem wpOp_valW {v : Value} (ho : ops[i]? = some o) (hw : Region.wanted o (yielded ops a.tmps) = true) (hr : (execOp a.eval o).run P w = .ok (.value v) w') (h : K (a.put o.dst v) w') : wpOp P ops Q i K a w := by
  refine wpOp_want ho hw ?_
  unfold Oper.wp
  rw [hr, Oper.upon_value]
  exact h
theorem wpOp_callW {f : Nat} {args : Array Value} {R : Ending → World → Prop} (ho : ops[i]? = some o) (hw : Region.wanted o (yielded ops a.tmps) = true) (hr : (execOp a.eval o).run P w = (callFunc f args).run P w) (he : (callFunc f args).run P w = .ok (.enter f args) w) (hc : Calls P f args w R) (h : ∀ e w', R e w' → ∃ v, e = .returned v ∧ K (a.put o.dst v) w') : wpOp P ops Q i K a w := by
  refine wpOp_want ho hw ?_
  unfold Oper.wp
  rw [hr, he, Oper.upon_enter]
  refine hc.mono ?_
  intro e w' hR
  obtain ⟨v, rfl, hK⟩ := h e w' hR
  exact hK
end
set_option maxRecDepth 100000 in
set_option maxHeartbeats 12800000 in
theorem datumBack_walk (a b : LT) (w : World) (hA : Held w w.heap.size a) (hB : Held w w.heap.size b) :
    Calls Try.prog 3 #[.agg #[.int .i64 a.k, .bool a.g, .slice a.la a.ln a.lc, .bool a.bb, .string a.s, .slice a.ia a.items.length a.ic, .slice a.ta a.tail.length a.tc], .agg #[.int .i64 b.k, .bool b.g, .slice b.la b.ln b.lc, .bool b.bb, .string b.s, .slice b.ia b.items.length b.ic, .slice b.ta b.tail.length b.tc]] w fun e w' => e = .returned (.bool true) ∧ Below w.heap.size w w' := by
  obtain ⟨w2, hw2, a0, a1, hz, hbel⟩ := two2 w (Obj.cells #[.int .i64 a.k, .bool a.g, .slice a.la a.ln a.lc, .bool a.bb, .string a.s, .slice a.ia a.items.length a.ic, .slice a.ta a.tail.length a.tc] 27) (Obj.cells #[.int .i64 b.k, .bool b.g, .slice b.la b.ln b.lc, .bool b.bb, .string b.s, .slice b.ia b.items.length b.ic, .slice b.ta b.tail.length b.tc] 27)
  have hAW := fun W (hb : Below w.heap.size w W) => hA.below (Nat.le_refl _) hb
  have hBW := fun W (hb : Below w.heap.size w W) => hB.below (Nat.le_refl _) hb
  have hla := fun W (hb : Below w.heap.size w W) => light_any w.heap.size a W hb.size (hAW W hb)
  have hlb := fun W (hb : Below w.heap.size w W) => light_any w.heap.size b W hb.size (hBW W hb)
  have HL := Lib.hid (And.intro hla hlb)
  have HH := Lib.hid (And.intro hAW hBW)
  have HW := Lib.hid (And.intro hw2 (And.intro a0 (And.intro a1 (And.intro hz hbel))))
  clear hla hlb hAW hBW hA hB hw2 a0 a1 hz hbel
  go_enter Try.func3, Try.ntmps3
  go_wp2_with fail
  rw [← HW.out.1]
  refine (HL.out.1 w2 HW.out.2.2.2.2).mono ?_
  rintro e w3 ⟨rfl, b3⟩
  have x0 := (b3.block w.heap.size (by rw [HW.out.2.2.2.1]; omega)).trans HW.out.2.1
  have x1 := (b3.block (w.heap.size + 1) (by rw [HW.out.2.2.2.1]; omega)).trans HW.out.2.2.1
  have hb3 := HW.out.2.2.2.2.trans (b3.mono HW.out.2.2.2.2.size)
  have H3 := Lib.hid (And.intro x0 (And.intro x1 hb3))
  clear b3 hb3
  by_cases la : lightB a = true
  · rw [la]
    have shs := fun j => Lib.cell_of_heap x1 j
    have s0 := shs 0; have s1 := shs 1; have s2 := shs 2; have s3 := shs 3; have s4 := shs 4; have s5 := shs 5; have s6 := shs 6
    simp only [List.getElem?_toArray, List.getElem?_cons_zero, List.getElem?_cons_succ] at s0 s1 s2 s3 s4 s5 s6
    clear shs
    clear x0 x1
    go_wp2_with fail
    clear s0 s1 s2 s3 s4 s5 s6
    refine (HL.out.2 w3 H3.out.2.2).mono ?_
    rintro e w4 ⟨rfl, b4⟩
    have x0 := (b4.block w.heap.size (Array.getElem?_eq_some_iff.1 H3.out.1).1).trans H3.out.1
    have x1 := (b4.block (w.heap.size + 1) (Array.getElem?_eq_some_iff.1 H3.out.2.1).1).trans H3.out.2.1
    have hb4 := H3.out.2.2.trans (b4.mono H3.out.2.2.size)
    have H4 := Lib.hid (And.intro x0 (And.intro x1 hb4))
    clear x0 x1 hb4 b4
    by_cases lb : lightB b = true
    · rw [lb]
      obtain ⟨ya1, ya2, ya3⟩ := light_tells la
      obtain ⟨yb1, yb2, yb3⟩ := light_tells lb
      have HN := Lib.hid (And.intro (fun W (hb : Below w.heap.size w W) => norm_tree w.heap.size a (by omega) (by omega) ya3 W hb.size (HH.out.1 W hb)) (fun W (hb : Below w.heap.size w W) => norm_tree w.heap.size b (by omega) (by omega) yb3 W hb.size (HH.out.2 W hb)))
      have HY := Lib.hid (And.intro ya3 yb3)
      clear ya3 yb3 la lb
      go_wp2_with fail
      refine wp_region_phasesA (nA := 6) (by kernel_rfl) (by kernel_rfl) (fun i => if i < 4 then 20 + i else i + 1) (BkA a b w4.heap.size) (by decide) (by kernel_rfl)
        (fun i j hi hj h => by split at h <;> split at h <;> omega) (fun i hi => by simp only [List.size_toArray, List.length_cons, List.length_nil]; split <;> omega) ?_ ?_
      · intro i hi l A W I hdep
        have hbW : Below w.heap.size w W := H4.out.2.2.trans (I.below.mono H4.out.2.2.size)
        have hszA : 6 < A.tmps.size := by rw [I.size]; simp
        rcases (show i = 0 ∨ i = 1 ∨ i = 2 ∨ i = 3 ∨ i = 4 ∨ i = 5 by omega) with rfl | rfl | rfl | rfl | rfl | rfl
        · have hc : Seven W w.heap.size 0 a := Seven.of ((I.below.block _ (Array.getElem?_eq_some_iff.1 H4.out.1).1).trans H4.out.1)
          exact wpOp_val rfl rfl (exec_loadD rfl ((I.other 2 (by intro j hj; split <;> omega)).trans rfl) hc) ⟨_, rfl, rfl, Below.refl _ _, fun j hj _ hl => (I.val j hj hl).keep (Below.refl _ _) (by decide) (by decide) hj⟩
        · have v0 : A.tmps.getD 20 undef = _ := I.val 0 (by decide) (hdep 0 (by kernel_rfl))
          refine wpOp_call rfl rfl ((exec_call rfl).trans (by rw [v0])) (by simp [go_sem]) (HN.out.1 W hbW) ?_
          rintro e W' ⟨u, rfl, h1, h2, h3⟩
          refine ⟨_, rfl, _, rfl, ⟨u, rfl, h1.keep (Nat.le_refl _) (fun k hk => ⟨⟨hk.low I.below.size, NoPtr.put ⟨slot_lt I (.inl rfl) rfl hk.1, slot_lt I (.inr rfl) rfl hk.1⟩ (by decide) (by decide)⟩, rfl⟩), h2⟩, h3, fun j hj _ hl => (I.val j hj hl).keep (h3) (by decide) (by decide) hj⟩
        · have hc : Seven W (w.heap.size + 1) 0 b := Seven.of ((I.below.block _ (Array.getElem?_eq_some_iff.1 H4.out.2.1).1).trans H4.out.2.1)
          exact wpOp_val rfl rfl (exec_loadD rfl ((I.other 3 (by intro j hj; split <;> omega)).trans rfl) hc) ⟨_, rfl, rfl, Below.refl _ _, fun j hj _ hl => (I.val j hj hl).keep (Below.refl _ _) (by decide) (by decide) hj⟩
        · have v2 : A.tmps.getD 22 undef = _ := I.val 2 (by decide) (hdep 2 (by kernel_rfl))
          refine wpOp_call rfl rfl ((exec_call rfl).trans (by rw [v2])) (by simp [go_sem]) (HN.out.2 W hbW) ?_
          rintro e W' ⟨u, rfl, h1, h2, h3⟩
          refine ⟨_, rfl, _, rfl, ⟨u, rfl, h1.keep (Nat.le_refl _) (fun k hk => ⟨⟨hk.low I.below.size, NoPtr.put ⟨slot_lt I (.inl rfl) rfl hk.1, slot_lt I (.inr rfl) rfl hk.1⟩ (by decide) (by decide)⟩, rfl⟩), h2⟩, h3, fun j hj _ hl => (I.val j hj hl).keep (h3) (by decide) (by decide) hj⟩
        · exact wpOp_val rfl rfl (exec_allocD rfl) ⟨_, rfl, ⟨_, rfl, I.below.size, World.alloc_heap_new _ _, by show (A.put (some 5) _).tmps.getD 6 undef ≠ _; rw [put_other (by decide)]; exact slot_lt I (.inr rfl) rfl (Nat.le_refl _)⟩, (Below.refl _ _).alloc (Nat.le_refl _) _, fun j hj hne hl => (I.val j hj hl).alloc (.inl rfl) hszA (fun e => absurd e hne) (fun _ => rfl) hj⟩
        · exact wpOp_val rfl rfl (exec_allocD rfl) ⟨_, rfl, ⟨_, rfl, I.below.size, World.alloc_heap_new _ _, by show (A.put (some 6) _).tmps.getD 5 undef ≠ _; rw [put_other (by decide)]; exact slot_lt I (.inl rfl) rfl (Nat.le_refl _)⟩, (Below.refl _ _).alloc (Nat.le_refl _) _, fun j hj hne hl => (I.val j hj hl).alloc (.inr rfl) hszA (fun _ => rfl) (fun e => absurd e hne) hj⟩
      intro A w5 hdf hsz hoth hval hb5
      have v0 : A.tmps.getD 20 undef = _ := hval 0 (by decide)
      obtain ⟨x, v1, hx, hxs⟩ : ∃ u : LT, A.tmps.getD 21 undef = .agg #[.int .i64 u.k, .bool u.g, .slice u.la u.ln u.lc, .bool u.bb, .string u.s, .slice u.ia u.items.length u.ic, .slice u.ta u.tail.length u.tc] ∧ HeldP w5 (fun k => Fresh w5 w4.heap.size k ∧ NoPtr A k) u ∧ shape u = normT a := hval 1 (by decide)
      have v2 : A.tmps.getD 22 undef = _ := hval 2 (by decide)
      obtain ⟨y, v3, hy, hys⟩ : ∃ u : LT, A.tmps.getD 23 undef = .agg #[.int .i64 u.k, .bool u.g, .slice u.la u.ln u.lc, .bool u.bb, .string u.s, .slice u.ia u.items.length u.ic, .slice u.ta u.tail.length u.tc] ∧ HeldP w5 (fun k => Fresh w5 w4.heap.size k ∧ NoPtr A k) u ∧ shape u = normT b := hval 3 (by decide)
      obtain ⟨P5, v4, hP5, hz5, hne⟩ : ∃ P, A.tmps.getD 5 undef = .pointer (some ⟨P, 0, none⟩) ∧ w4.heap.size ≤ P ∧ w5.heap[P]? = some (Obj.cells #[.int .i64 0, .bool false, .slice none 0 0, .bool false, .string ⟨#[]⟩, .slice none 0 0, .slice none 0 0] 27) ∧ A.tmps.getD 6 undef ≠ A.tmps.getD 5 undef := hval 4 (by decide)
      obtain ⟨P6, v5, hP6, hz6, _⟩ : ∃ P, A.tmps.getD 6 undef = .pointer (some ⟨P, 0, none⟩) ∧ w4.heap.size ≤ P ∧ w5.heap[P]? = some (Obj.cells #[.int .i64 0, .bool false, .slice none 0 0, .bool false, .string ⟨#[]⟩, .slice none 0 0, .slice none 0 0] 27) ∧ A.tmps.getD 5 undef ≠ A.tmps.getD 6 undef := hval 5 (by decide)
      have hP56 : P6 ≠ P5 := fun e => hne (by rw [v4, v5, e])
      have hx5 : HeldP w5 (fun k => Fresh w5 w4.heap.size k ∧ k ≠ P5 ∧ k ≠ P6) x := hx.keep (Nat.le_refl _) fun k hk => ⟨⟨hk.1, fun e => hk.2.1 (by rw [v4, e]), fun e => hk.2.2 (by rw [v5, e])⟩, rfl⟩
      have hy5 : HeldP w5 (fun k => Fresh w5 w4.heap.size k ∧ k ≠ P5 ∧ k ≠ P6) y := hy.keep (Nat.le_refl _) fun k hk => ⟨⟨hk.1, fun e => hk.2.1 (by rw [v4, e]), fun e => hk.2.2 (by rw [v5, e])⟩, rfl⟩
      have hA := tower_pairs (a := A) [(20, .agg #[.int .i64 a.k, .bool a.g, .slice a.la a.ln a.lc, .bool a.bb, .string a.s, .slice a.ia a.items.length a.ic, .slice a.ta a.tail.length a.tc]), (21, .agg #[.int .i64 x.k, .bool x.g, .slice x.la x.ln x.lc, .bool x.bb, .string x.s, .slice x.ia x.items.length x.ic, .slice x.ta x.tail.length x.tc]), (22, .agg #[.int .i64 b.k, .bool b.g, .slice b.la b.ln b.lc, .bool b.bb, .string b.s, .slice b.ia b.items.length b.ic, .slice b.ta b.tail.length b.tc]), (23, .agg #[.int .i64 y.k, .bool y.g, .slice y.la y.ln y.lc, .bool y.bb, .string y.s, .slice y.ia y.items.length y.ic, .slice y.ta y.tail.length y.tc]), (5, .pointer (some ⟨P5, 0, none⟩)), (6, .pointer (some ⟨P6, 0, none⟩))] ?_ ?_ hdf hsz (fun m hm => hoth m (fun j hj => by
        simp only [List.forall_mem_cons] at hm
        obtain ⟨k0, k1, k2, k3, k4, k5, -⟩ := hm
        rcases (show j = 0 ∨ j = 1 ∨ j = 2 ∨ j = 3 ∨ j = 4 ∨ j = 5 by omega) with rfl | rfl | rfl | rfl | rfl | rfl
        · exact k0
        · exact k1
        · exact k2
        · exact k3
        · exact k4
        · exact k5))
      rotate_left
      · intro p hp
        simp only [List.mem_cons, List.not_mem_nil, or_false] at hp
        rcases hp with rfl | rfl | rfl | rfl | rfl | rfl <;> simp
      · intro p hp
        simp only [List.mem_cons, List.not_mem_nil, or_false] at hp
        rcases hp with rfl | rfl | rfl | rfl | rfl | rfl
        · exact v0
        · exact v1
        · exact v2
        · exact v3
        · exact v4
        · exact v5
      clear v0 v1 v2 v3 v4 v5 hval hoth hsz hdf hne hx hy
      subst hA
      show wpOps _ _ _ [6, 7] _ _
      simp only [List.foldl, Act.put, List.setIfInBounds_toArray, List.set_cons_zero, List.set_cons_succ]
      rw [wpOps_cons]
      refine wpOp_storeD rfl rfl rfl rfl rfl rfl (x := plainT 0 false none 0 0 [] false ⟨#[]⟩) hz5 ?_
      intro w6 r5 o6 s6 b6
      rw [wpOps_cons]
      refine wpOp_storeD rfl rfl rfl rfl rfl rfl (x := plainT 0 false none 0 0 [] false ⟨#[]⟩) ((o6 _ hP56).trans hz6) ?_
      intro w7 r6 o7 s7 b7
      simp only [wpOps]
      have e7 : ∀ k, k ≠ P5 → k ≠ P6 → w7.heap[k]? = w5.heap[k]? := fun k h1 h2 => (o7 k h2).trans (o6 k h1)
      have hs5 := hb5.size
      have hl5 := (Array.getElem?_eq_some_iff.1 hz5).1
      have hl6 := (Array.getElem?_eq_some_iff.1 hz6).1
      have hBs := H4.out.2.2.size
      have hl0 := (Array.getElem?_eq_some_iff.1 H4.out.1).1
      have hl1 := (Array.getElem?_eq_some_iff.1 H4.out.2.1).1
      have r5' := (o7 _ (Ne.symm hP56)).trans r5
      have hx7 : Held w7 w7.heap.size x := (hx5.keep (Q := fun k => k < w5.heap.size) (w' := w7) (by omega) fun k hk => ⟨hk.1.lt, e7 k hk.2.1 hk.2.2⟩).held fun k hk => by omega
      have hy7 : Held w7 w7.heap.size y := (hy5.keep (Q := fun k => k < w5.heap.size) (w' := w7) (by omega) fun k hk => ⟨hk.1.lt, e7 k hk.2.1 hk.2.2⟩).held fun k hk => by omega
      have ha7 := (e7 w.heap.size (by omega) (by omega)).trans ((hb5.block _ (by omega)).trans H4.out.1)
      have hb7 := (e7 (w.heap.size + 1) (by omega) (by omega)).trans ((hb5.block _ (by omega)).trans H4.out.2.1)
      have hbl7 : Below w.heap.size w w7 := ((H4.out.2.2.trans (hb5.mono hBs)).trans (b6 _ (by omega))).trans (b7 _ (by omega))
      have hm5 : w.heap.size + 2 ≤ P5 := by omega
      have hm6 : w.heap.size + 2 ≤ P6 := by omega
      have hq5 : P5 < w7.heap.size := by omega
      have hq6 : P6 < w7.heap.size := by omega
      have H7 := Lib.hid (And.intro hx7 (And.intro hy7 (And.intro ha7 (And.intro hb7 (And.intro r5' (And.intro r6 hbl7))))))
      clear hx7 hy7 ha7 hb7 r5' r5 r6 hbl7 hx5 hy5 o6 o7 s6 s7 b6 b7 e7 hz5 hz6 hb5 hl0 hl1 hl5 hl6
      have chs := fun j => Lib.cell_of_heap H7.out.2.2.1 j
      have c0 := chs 0; have c1 := chs 1; have c2 := chs 2; have c3 := chs 3; have c4 := chs 4; have c5 := chs 5; have c6 := chs 6
      simp only [List.getElem?_toArray, List.getElem?_cons_zero, List.getElem?_cons_succ] at c0 c1 c2 c3 c4 c5 c6
      clear chs
      have dhs := fun j => Lib.cell_of_heap H7.out.2.2.2.1 j
      have d0 := dhs 0; have d1 := dhs 1; have d2 := dhs 2; have d3 := dhs 3; have d4 := dhs 4; have d5 := dhs 5; have d6 := dhs 6
      simp only [List.getElem?_toArray, List.getElem?_cons_zero, List.getElem?_cons_succ] at d0 d1 d2 d3 d4 d5 d6
      clear dhs
      have hb7' := H7.out.2.2.2.2.2.2
      have hP7 := pair_any w.heap.size a b w7 hb7'.size (HH.out.1 w7 hb7') (HH.out.2 w7 hb7') (by omega) (by omega) (by omega) HY.out.1 HY.out.2
      have hbx := norm_bounds (HH.out.1 w7 hb7') HY.out.1 H7.out.1 hxs
      have hby := norm_bounds (HH.out.2 w7 hb7') HY.out.2 H7.out.2.1 hys
      have HP := Lib.hid hP7
      have HBX := Lib.hid (And.intro hbx (And.intro hby (And.intro hxs hys)))
      clear hbx hby hxs hys hb7' hP7
      go_wp2_with fail
      clear c0 c1 c2 c3 c4 c5 c6 d0 d1 d2 d3 d4 d5 d6
      refine HP.out.mono ?_
      rintro e w8 hp8
      obtain ⟨p, rfl, hp, hps, b8⟩ := npost_held hp8
      have hpw := pair_within (HH.out.1 w7 H7.out.2.2.2.2.2.2) (HH.out.2 w7 H7.out.2.2.2.2.2.2) HY.out.1 HY.out.2 hp hps
      have hps2 := hps.trans (pair_shape _ a b)
      have hpm := pair_more HBX.out.2.2.1 hps
      have hR8 := World.alloc_heap_new w8 (Obj.cells #[.int .i64 p.k, .bool p.g, .slice p.la p.ln p.lc, .bool p.bb, .string p.s, .slice p.ia p.items.length p.ic, .slice p.ta p.tail.length p.tc] 27)
      obtain ⟨W9, hW9⟩ : ∃ W9, w8.alloc (Obj.cells #[.int .i64 p.k, .bool p.g, .slice p.la p.ln p.lc, .bool p.bb, .string p.s, .slice p.ia p.items.length p.ic, .slice p.ta p.tail.length p.tc] 27) = W9 := ⟨_, rfl⟩
      rw [hW9] at hR8
      have b9 : Below w8.heap.size w8 W9 := by rw [← hW9]; exact (Below.refl _ _).alloc (Nat.le_refl _) _
      have hz9 : W9.heap.size = w8.heap.size + 1 := by rw [← hW9, World.size_alloc]
      have rhs := fun j => Lib.cell_of_heap hR8 j
      have r0 := rhs 0; have r1 := rhs 1; have r2 := rhs 2; have r3 := rhs 3; have r4 := rhs 4; have r5 := rhs 5; have r6 := rhs 6
      simp only [List.getElem?_toArray, List.getElem?_cons_zero, List.getElem?_cons_succ] at r0 r1 r2 r3 r4 r5 r6
      clear rhs
      have b79 : Below w7.heap.size w7 W9 := b8.trans (b9.mono b8.size)
      have H9 := Lib.hid (And.intro hp (And.intro hpw (And.intro hps2 (And.intro hpm (And.intro hR8 (And.intro b9 (And.intro hz9 b79)))))))
      clear hp8 hp hpw hps hps2 hpm hR8 b8 b9 hz9 b79 HP
      go_wp2_with fail
      clear hW9 r0 r1 r2 r3 r4 r5 r6
      have hpk : p.k = 5 ∧ ∃ f l, p.items = f :: l ∧ shape f = normT a ∧ shapes l = (spineT b).1 ∧ shapes p.tail = (spineT b).2.toList := by
        have h := H9.out.2.2.1
        rw [shape_eq] at h
        injection h with k1 k2 k3 k4 k5 k6 k7
        cases hpi : p.items with
        | nil => rw [hpi, shapes_nil] at k6; cases k6
        | cons f l =>
          rw [hpi, shapes_cons] at k6
          injection k6 with k6 k8
          exact ⟨k1, f, l, rfl, k6, k8, k7⟩
      obtain ⟨pk, f, l, hpi, hfs, hls, hts⟩ := hpk
      have hsp := split_list w8.heap.size p f l pk hpi (by have := H9.out.2.1.1; omega) (by have := H9.out.2.1.2.1; omega) H9.out.2.1.2.2 W9 H9.out.2.2.2.2.2.1.size (H9.out.1.below (Nat.le_refl _) H9.out.2.2.2.2.2.1)
      rw [hfs, hls, hts, rest_norm] at hsp
      refine hsp.mono ?_
      clear pk f l hpi hfs hls hts hsp
      rintro e w10 ⟨u, vt, rfl, hu, hus, hv, hvs, b10⟩
      obtain ⟨W12, hW12, q0, q1, qz, qb⟩ := two2 w10 (Obj.cells #[.int .i64 u.k, .bool u.g, .slice u.la u.ln u.lc, .bool u.bb, .string u.s, .slice u.ia u.items.length u.ic, .slice u.ta u.tail.length u.tc] 27) (Obj.cells #[.int .i64 vt.k, .bool vt.g, .slice vt.la vt.ln vt.lc, .bool vt.bb, .string vt.s, .slice vt.ia vt.items.length vt.ic, .slice vt.ta vt.tail.length vt.tc] 27)
      have b912 : Below W9.heap.size W9 W12 := b10.trans (qb.mono b10.size)
      have b712 : Below w7.heap.size w7 W12 := H9.out.2.2.2.2.2.2.2.trans (b912.mono H9.out.2.2.2.2.2.2.2.size)
      have hx12 := H7.out.1.below (Nat.le_refl _) b712
      have hy12 := H7.out.2.1.below (Nat.le_refl _) b712
      have hu12 : Held W12 W12.heap.size u := ((hu.held fun k hk => hk.lt).below (Nat.le_refl _) qb).upP qb.size
      have hv12 : Held W12 W12.heap.size vt := ((hv.held fun k hk => hk.lt).below (Nat.le_refl _) qb).upP qb.size
      have hp12 : Held W12 W12.heap.size p := ((H9.out.1.below (Nat.le_refl _) H9.out.2.2.2.2.2.1).below H9.out.2.2.2.2.2.1.size b912).upP (Nat.le_trans H9.out.2.2.2.2.2.1.size b912.size)
      have HBd := Lib.hid (And.intro (hx12.upP b712.size) (And.intro (hy12.upP b712.size) (And.intro hu12 (And.intro hv12 hp12))))
      have s9 := H9.out.2.2.2.2.2.2.1
      have s10 := b10.size
      have s912 := b912.size
      have s712 := b712.size
      have hz7a := (Array.getElem?_eq_some_iff.1 H7.out.2.2.1).1
      have hz7b := (Array.getElem?_eq_some_iff.1 H7.out.2.2.2.1).1
      have H12 := Lib.hid (And.intro ((b712.block _ hz7a).trans H7.out.2.2.1) (And.intro ((b712.block _ hz7b).trans H7.out.2.2.2.1) (And.intro ((b712.block P5 hq5).trans H7.out.2.2.2.2.1) (And.intro ((b712.block P6 hq6).trans H7.out.2.2.2.2.2.1) (And.intro ((b912.block w8.heap.size (by omega)).trans H9.out.2.2.2.2.1) (And.intro q0 (And.intro q1 (H7.out.2.2.2.2.2.2.trans (b712.mono H7.out.2.2.2.2.2.2.size)))))))))
      have tu : Tame u := tame_same hx12 hu12 (hus.trans HBX.out.2.2.1.symm) HBX.out.1.2.2
      have tv : Tame vt := tame_same hy12 hv12 (hvs.trans HBX.out.2.2.2.symm) HBX.out.2.1.2.2
      have eu : shape u = shape x := hus.trans HBX.out.2.2.1.symm
      have ev : shape vt = shape y := hvs.trans HBX.out.2.2.2.symm
      have HS := Lib.hid (And.intro (fun W hb => same_at (W0 := W12) eu (by rw [size_same eu]; have := HBX.out.1.1; omega) (by rw [depth_same eu]; have := HBX.out.1.2.1; omega) tu HBX.out.1.2.2 hu12 HBd.out.1 W hb)
        (And.intro (fun W hb => same_at (W0 := W12) ev (by rw [size_same ev]; have := HBX.out.2.1.1; omega) (by rw [depth_same ev]; have := HBX.out.2.1.2.1; omega) tv HBX.out.2.1.2.2 hv12 HBd.out.2.1 W hb)
        (And.intro (fun W (hb : Below W12.heap.size W12 W) => (norm_again W12.heap.size x a HBX.out.2.2.1 (by have := HBX.out.1.1; omega) (by have := HBX.out.1.2.1; omega) HBX.out.1.2.2 W hb.size (HBd.out.1.below (Nat.le_refl _) hb)))
          (fun W (hb : Below W12.heap.size W12 W) z (hz : Held W W.heap.size z) (hzs : shape z = normT a) => same_yes W.heap.size z x (hzs.trans HBX.out.2.2.1.symm) (by rw [size_same (hzs.trans HBX.out.2.2.1.symm)]; have := HBX.out.1.1; omega) (by rw [depth_same (hzs.trans HBX.out.2.2.1.symm)]; have := HBX.out.1.2.1; omega) (tame_same (HBd.out.1.below (Nat.le_refl _) hb) hz (hzs.trans HBX.out.2.2.1.symm) HBX.out.1.2.2) HBX.out.1.2.2 W (Nat.le_refl _) hz ((HBd.out.1.below (Nat.le_refl _) hb).upP hb.size)))))
      clear hu hus hv hvs b10 qz qb b912 b712 hx12 hy12 hu12 hv12 hp12 s9 s10 s912 s712 hz7a hz7b tu tv eu ev q0 q1
      have HW12 := Lib.hid hW12
      clear hW12
      go_wp2_with fail
      rw [← HW12.out]
      refine wp_region_phases (nA := 21) (by kernel_rfl) (by kernel_rfl) (fun i => 33 + i)
        (fun i W v => match i with
          | 0 => v = .bool true
          | 1 => v = .bool false
          | 2 => v = .bool false
          | 3 => v = .agg #[.int .i64 u.k, .bool u.g, .slice u.la u.ln u.lc, .bool u.bb, .string u.s, .slice u.ia u.items.length u.ic, .slice u.ta u.tail.length u.tc]
          | 4 => v = .agg #[.int .i64 x.k, .bool x.g, .slice x.la x.ln x.lc, .bool x.bb, .string x.s, .slice x.ia x.items.length x.ic, .slice x.ta x.tail.length x.tc]
          | 5 => v = .bool true
          | 6 => v = .bool false
          | 7 => v = .bool false
          | 8 => v = .bool false
          | 9 => v = .agg #[.int .i64 vt.k, .bool vt.g, .slice vt.la vt.ln vt.lc, .bool vt.bb, .string vt.s, .slice vt.ia vt.items.length vt.ic, .slice vt.ta vt.tail.length vt.tc]
          | 10 => v = .agg #[.int .i64 y.k, .bool y.g, .slice y.la y.ln y.lc, .bool y.bb, .string y.s, .slice y.ia y.items.length y.ic, .slice y.ta y.tail.length y.tc]
          | 11 => v = .bool true
          | 12 => v = .bool false
          | 13 => v = .bool false
          | 14 => v = .bool false
          | 15 => v = .agg #[.int .i64 x.k, .bool x.g, .slice x.la x.ln x.lc, .bool x.bb, .string x.s, .slice x.ia x.items.length x.ic, .slice x.ta x.tail.length x.tc]
          | 16 => ∃ z : LT, v = .agg #[.int .i64 z.k, .bool z.g, .slice z.la z.ln z.lc, .bool z.bb, .string z.s, .slice z.ia z.items.length z.ic, .slice z.ta z.tail.length z.tc] ∧ HeldP W (Fresh W W12.heap.size) z ∧ shape z = normT a
          | 17 => v = .agg #[.int .i64 x.k, .bool x.g, .slice x.la x.ln x.lc, .bool x.bb, .string x.s, .slice x.ia x.items.length x.ic, .slice x.ta x.tail.length x.tc]
          | 18 => v = .bool true
          | 19 => v = .bool false
          | _ => v = .bool false) (by decide) (by kernel_rfl)
        (fun i j hi hj h => by omega) (fun i hi => by simp only [List.size_toArray, List.length_cons, List.length_nil]; omega) ?_ ?_ ?_
      · intro i hi W W' v h hb
        rcases (show i = 0 ∨ i = 1 ∨ i = 2 ∨ i = 3 ∨ i = 4 ∨ i = 5 ∨ i = 6 ∨ i = 7 ∨ i = 8 ∨ i = 9 ∨ i = 10 ∨ i = 11 ∨ i = 12 ∨ i = 13 ∨ i = 14 ∨ i = 15 ∨ i = 16 ∨ i = 17 ∨ i = 18 ∨ i = 19 ∨ i = 20 by omega) with rfl | rfl | rfl | rfl | rfl | rfl | rfl | rfl | rfl | rfl | rfl | rfl | rfl | rfl | rfl | rfl | rfl | rfl | rfl | rfl | rfl
        · exact h
        · exact h
        · exact h
        · exact h
        · exact h
        · exact h
        · exact h
        · exact h
        · exact h
        · exact h
        · exact h
        · exact h
        · exact h
        · exact h
        · exact h
        · exact h
        · obtain ⟨z, e, h1, h2⟩ := h; exact ⟨z, e, h1.below hb (Nat.le_refl _), h2⟩
        · exact h
        · exact h
        · exact h
        · exact h
      · intro i hi l A W I hdep
        have hbW : Below w.heap.size w W := H12.out.2.2.2.2.2.2.2.trans (I.below.mono H12.out.2.2.2.2.2.2.2.size)
        rcases (show i = 0 ∨ i = 1 ∨ i = 2 ∨ i = 3 ∨ i = 4 ∨ i = 5 ∨ i = 6 ∨ i = 7 ∨ i = 8 ∨ i = 9 ∨ i = 10 ∨ i = 11 ∨ i = 12 ∨ i = 13 ∨ i = 14 ∨ i = 15 ∨ i = 16 ∨ i = 17 ∨ i = 18 ∨ i = 19 ∨ i = 20 by omega) with rfl | rfl | rfl | rfl | rfl | rfl | rfl | rfl | rfl | rfl | rfl | rfl | rfl | rfl | rfl | rfl | rfl | rfl | rfl | rfl | rfl
        · exact wpOp_valW rfl (rfl) (exec_moveV rfl ((I.other 10 (by intro j hj; omega)).trans rfl)) ⟨_, rfl, rfl, Below.refl _ _⟩
        · have v0 : A.tmps.getD 33 undef = _ := I.val 0 (by decide) (hdep 0 (by kernel_rfl))
          exact wpOp_valW rfl (rfl) (exec_not rfl v0) ⟨_, rfl, rfl, Below.refl _ _⟩
        · have v1 : A.tmps.getD 34 undef = _ := I.val 1 (by decide) (hdep 1 (by kernel_rfl))
          exact wpOp_valW rfl (rfl) (exec_moveV rfl v1) ⟨_, rfl, rfl, Below.refl _ _⟩
        · have g2 : A.tmps.getD 35 undef = _ := I.val 2 (by decide) (hdep 2 (by kernel_rfl))
          have hc : Seven W w10.heap.size 0 u := Seven.of ((I.below.block _ (Array.getElem?_eq_some_iff.1 H12.out.2.2.2.2.2.1).1).trans H12.out.2.2.2.2.2.1)
          exact wpOp_valW rfl (wanted_yes rfl rfl rfl (by rw [I.size]; simp) g2) (exec_loadD rfl ((I.other 8 (by intro j hj; omega)).trans rfl) hc) ⟨_, rfl, rfl, Below.refl _ _⟩
        · have g2 : A.tmps.getD 35 undef = _ := I.val 2 (by decide) (hdep 2 (by kernel_rfl))
          have hc : Seven W P5 0 x := Seven.of ((I.below.block _ (Array.getElem?_eq_some_iff.1 H12.out.2.2.1).1).trans H12.out.2.2.1)
          exact wpOp_valW rfl (wanted_yes rfl rfl rfl (by rw [I.size]; simp) g2) (exec_loadD rfl ((I.other 5 (by intro j hj; omega)).trans rfl) hc) ⟨_, rfl, rfl, Below.refl _ _⟩
        · have g2 : A.tmps.getD 35 undef = _ := I.val 2 (by decide) (hdep 2 (by kernel_rfl))
          have v3 : A.tmps.getD 36 undef = _ := I.val 3 (by decide) (hdep 3 (by kernel_rfl))
          have v4 : A.tmps.getD 37 undef = _ := I.val 4 (by decide) (hdep 4 (by kernel_rfl))
          refine wpOp_callW rfl (wanted_yes rfl rfl rfl (by rw [I.size]; simp) g2) ((exec_call2 rfl).trans (by rw [v3, v4])) (by simp [go_sem]) (HS.out.1 W I.below) ?_
          rintro e W' ⟨rfl, b⟩
          exact ⟨_, rfl, _, rfl, rfl, b⟩
        · have g2 : A.tmps.getD 35 undef = _ := I.val 2 (by decide) (hdep 2 (by kernel_rfl))
          have v5 : A.tmps.getD 38 undef = _ := I.val 5 (by decide) (hdep 5 (by kernel_rfl))
          exact wpOp_valW rfl (wanted_yes rfl rfl rfl (by rw [I.size]; simp) g2) (exec_not rfl v5) ⟨_, rfl, rfl, Below.refl _ _⟩
        · have v2 : A.tmps.getD 35 undef = _ := I.val 2 (by decide) (hdep 2 (by kernel_rfl))
          have v6 : A.tmps.getD 39 undef = _ := I.val 6 (by decide) (hdep 6 (by kernel_rfl))
          exact wpOp_valW rfl (rfl) (exec_pickF rfl v2 v6) ⟨_, rfl, rfl, Below.refl _ _⟩
        · have v7 : A.tmps.getD 40 undef = _ := I.val 7 (by decide) (hdep 7 (by kernel_rfl))
          exact wpOp_valW rfl (rfl) (exec_moveV rfl v7) ⟨_, rfl, rfl, Below.refl _ _⟩
        · have g8 : A.tmps.getD 41 undef = _ := I.val 8 (by decide) (hdep 8 (by kernel_rfl))
          have hc : Seven W (w10.heap.size + 1) 0 vt := Seven.of ((I.below.block _ (Array.getElem?_eq_some_iff.1 H12.out.2.2.2.2.2.2.1).1).trans H12.out.2.2.2.2.2.2.1)
          exact wpOp_valW rfl (wanted_yes rfl rfl rfl (by rw [I.size]; simp) g8) (exec_loadD rfl ((I.other 9 (by intro j hj; omega)).trans rfl) hc) ⟨_, rfl, rfl, Below.refl _ _⟩
        · have g8 : A.tmps.getD 41 undef = _ := I.val 8 (by decide) (hdep 8 (by kernel_rfl))
          have hc : Seven W P6 0 y := Seven.of ((I.below.block _ (Array.getElem?_eq_some_iff.1 H12.out.2.2.2.1).1).trans H12.out.2.2.2.1)
          exact wpOp_valW rfl (wanted_yes rfl rfl rfl (by rw [I.size]; simp) g8) (exec_loadD rfl ((I.other 6 (by intro j hj; omega)).trans rfl) hc) ⟨_, rfl, rfl, Below.refl _ _⟩
        · have g8 : A.tmps.getD 41 undef = _ := I.val 8 (by decide) (hdep 8 (by kernel_rfl))
          have v9 : A.tmps.getD 42 undef = _ := I.val 9 (by decide) (hdep 9 (by kernel_rfl))
          have v10 : A.tmps.getD 43 undef = _ := I.val 10 (by decide) (hdep 10 (by kernel_rfl))
          refine wpOp_callW rfl (wanted_yes rfl rfl rfl (by rw [I.size]; simp) g8) ((exec_call2 rfl).trans (by rw [v9, v10])) (by simp [go_sem]) (HS.out.2.1 W I.below) ?_
          rintro e W' ⟨rfl, b⟩
          exact ⟨_, rfl, _, rfl, rfl, b⟩
        · have g8 : A.tmps.getD 41 undef = _ := I.val 8 (by decide) (hdep 8 (by kernel_rfl))
          have v11 : A.tmps.getD 44 undef = _ := I.val 11 (by decide) (hdep 11 (by kernel_rfl))
          exact wpOp_valW rfl (wanted_yes rfl rfl rfl (by rw [I.size]; simp) g8) (exec_not rfl v11) ⟨_, rfl, rfl, Below.refl _ _⟩
        · have v8 : A.tmps.getD 41 undef = _ := I.val 8 (by decide) (hdep 8 (by kernel_rfl))
          have v12 : A.tmps.getD 45 undef = _ := I.val 12 (by decide) (hdep 12 (by kernel_rfl))
          exact wpOp_valW rfl (rfl) (exec_pickF rfl v8 v12) ⟨_, rfl, rfl, Below.refl _ _⟩
        · have v13 : A.tmps.getD 46 undef = _ := I.val 13 (by decide) (hdep 13 (by kernel_rfl))
          exact wpOp_valW rfl (rfl) (exec_moveV rfl v13) ⟨_, rfl, rfl, Below.refl _ _⟩
        · have g14 : A.tmps.getD 47 undef = _ := I.val 14 (by decide) (hdep 14 (by kernel_rfl))
          have hc : Seven W P5 0 x := Seven.of ((I.below.block _ (Array.getElem?_eq_some_iff.1 H12.out.2.2.1).1).trans H12.out.2.2.1)
          exact wpOp_valW rfl (wanted_yes rfl rfl rfl (by rw [I.size]; simp) g14) (exec_loadD rfl ((I.other 5 (by intro j hj; omega)).trans rfl) hc) ⟨_, rfl, rfl, Below.refl _ _⟩
        · have g14 : A.tmps.getD 47 undef = _ := I.val 14 (by decide) (hdep 14 (by kernel_rfl))
          have v15 : A.tmps.getD 48 undef = _ := I.val 15 (by decide) (hdep 15 (by kernel_rfl))
          refine wpOp_callW rfl (wanted_yes rfl rfl rfl (by rw [I.size]; simp) g14) ((exec_call rfl).trans (by rw [v15])) (by simp [go_sem]) (HS.out.2.2.1 W I.below) ?_
          rintro e W' ⟨u', rfl, h1, h2, h3⟩
          exact ⟨_, rfl, _, rfl, ⟨u', rfl, h1.keep (Nat.le_refl _) (fun k hk => ⟨hk.low I.below.size, rfl⟩), h2⟩, h3⟩
        · have g14 : A.tmps.getD 47 undef = _ := I.val 14 (by decide) (hdep 14 (by kernel_rfl))
          have hc : Seven W P5 0 x := Seven.of ((I.below.block _ (Array.getElem?_eq_some_iff.1 H12.out.2.2.1).1).trans H12.out.2.2.1)
          exact wpOp_valW rfl (wanted_yes rfl rfl rfl (by rw [I.size]; simp) g14) (exec_loadD rfl ((I.other 5 (by intro j hj; omega)).trans rfl) hc) ⟨_, rfl, rfl, Below.refl _ _⟩
        · obtain ⟨z, v16, hz, hzs⟩ : ∃ z : LT, A.tmps.getD 49 undef = .agg #[.int .i64 z.k, .bool z.g, .slice z.la z.ln z.lc, .bool z.bb, .string z.s, .slice z.ia z.items.length z.ic, .slice z.ta z.tail.length z.tc] ∧ HeldP W (Fresh W W12.heap.size) z ∧ shape z = normT a := I.val 16 (by decide) (hdep 16 (by kernel_rfl))
          have g14 : A.tmps.getD 47 undef = _ := I.val 14 (by decide) (hdep 14 (by kernel_rfl))
          have v17 : A.tmps.getD 50 undef = _ := I.val 17 (by decide) (hdep 17 (by kernel_rfl))
          refine wpOp_callW rfl (wanted_yes rfl rfl rfl (by rw [I.size]; simp) g14) ((exec_call2 rfl).trans (by rw [v16, v17])) (by simp [go_sem]) (HS.out.2.2.2 W I.below z (hz.held fun k hk => hk.lt) hzs) ?_
          rintro e W' ⟨rfl, b⟩
          exact ⟨_, rfl, _, rfl, rfl, b⟩
        · have g14 : A.tmps.getD 47 undef = _ := I.val 14 (by decide) (hdep 14 (by kernel_rfl))
          have v18 : A.tmps.getD 51 undef = _ := I.val 18 (by decide) (hdep 18 (by kernel_rfl))
          exact wpOp_valW rfl (wanted_yes rfl rfl rfl (by rw [I.size]; simp) g14) (exec_not rfl v18) ⟨_, rfl, rfl, Below.refl _ _⟩
        · have v14 : A.tmps.getD 47 undef = _ := I.val 14 (by decide) (hdep 14 (by kernel_rfl))
          have v19 : A.tmps.getD 52 undef = _ := I.val 19 (by decide) (hdep 19 (by kernel_rfl))
          exact wpOp_valW rfl (rfl) (exec_pickF rfl v14 v19) ⟨_, rfl, rfl, Below.refl _ _⟩
      intro A w13 hdf hsz hoth hval hb13
      have v0 : A.tmps.getD 33 undef = _ := hval 0 (by decide)
      have v1 : A.tmps.getD 34 undef = _ := hval 1 (by decide)
      have v2 : A.tmps.getD 35 undef = _ := hval 2 (by decide)
      have v3 : A.tmps.getD 36 undef = _ := hval 3 (by decide)
      have v4 : A.tmps.getD 37 undef = _ := hval 4 (by decide)
      have v5 : A.tmps.getD 38 undef = _ := hval 5 (by decide)
      have v6 : A.tmps.getD 39 undef = _ := hval 6 (by decide)
      have v7 : A.tmps.getD 40 undef = _ := hval 7 (by decide)
      have v8 : A.tmps.getD 41 undef = _ := hval 8 (by decide)
      have v9 : A.tmps.getD 42 undef = _ := hval 9 (by decide)
      have v10 : A.tmps.getD 43 undef = _ := hval 10 (by decide)
      have v11 : A.tmps.getD 44 undef = _ := hval 11 (by decide)
      have v12 : A.tmps.getD 45 undef = _ := hval 12 (by decide)
      have v13 : A.tmps.getD 46 undef = _ := hval 13 (by decide)
      have v14 : A.tmps.getD 47 undef = _ := hval 14 (by decide)
      have v15 : A.tmps.getD 48 undef = _ := hval 15 (by decide)
      obtain ⟨z16, v16, hz16, hzs16⟩ : ∃ z : LT, A.tmps.getD 49 undef = .agg #[.int .i64 z.k, .bool z.g, .slice z.la z.ln z.lc, .bool z.bb, .string z.s, .slice z.ia z.items.length z.ic, .slice z.ta z.tail.length z.tc] ∧ HeldP w13 (Fresh w13 W12.heap.size) z ∧ shape z = normT a := hval 16 (by decide)
      have v17 : A.tmps.getD 50 undef = _ := hval 17 (by decide)
      have v18 : A.tmps.getD 51 undef = _ := hval 18 (by decide)
      have v19 : A.tmps.getD 52 undef = _ := hval 19 (by decide)
      have v20 : A.tmps.getD 53 undef = _ := hval 20 (by decide)
      have hA := tower_pairs (a := A) [(33, .bool true), (34, .bool false), (35, .bool false), (36, .agg #[.int .i64 u.k, .bool u.g, .slice u.la u.ln u.lc, .bool u.bb, .string u.s, .slice u.ia u.items.length u.ic, .slice u.ta u.tail.length u.tc]), (37, .agg #[.int .i64 x.k, .bool x.g, .slice x.la x.ln x.lc, .bool x.bb, .string x.s, .slice x.ia x.items.length x.ic, .slice x.ta x.tail.length x.tc]), (38, .bool true), (39, .bool false), (40, .bool false), (41, .bool false), (42, .agg #[.int .i64 vt.k, .bool vt.g, .slice vt.la vt.ln vt.lc, .bool vt.bb, .string vt.s, .slice vt.ia vt.items.length vt.ic, .slice vt.ta vt.tail.length vt.tc]), (43, .agg #[.int .i64 y.k, .bool y.g, .slice y.la y.ln y.lc, .bool y.bb, .string y.s, .slice y.ia y.items.length y.ic, .slice y.ta y.tail.length y.tc]), (44, .bool true), (45, .bool false), (46, .bool false), (47, .bool false), (48, .agg #[.int .i64 x.k, .bool x.g, .slice x.la x.ln x.lc, .bool x.bb, .string x.s, .slice x.ia x.items.length x.ic, .slice x.ta x.tail.length x.tc]), (49, .agg #[.int .i64 z16.k, .bool z16.g, .slice z16.la z16.ln z16.lc, .bool z16.bb, .string z16.s, .slice z16.ia z16.items.length z16.ic, .slice z16.ta z16.tail.length z16.tc]), (50, .agg #[.int .i64 x.k, .bool x.g, .slice x.la x.ln x.lc, .bool x.bb, .string x.s, .slice x.ia x.items.length x.ic, .slice x.ta x.tail.length x.tc]), (51, .bool true), (52, .bool false), (53, .bool false)] ?_ ?_ hdf hsz (fun m hm => hoth m (fun j hj => by
        simp only [List.forall_mem_cons] at hm
        obtain ⟨k0, k1, k2, k3, k4, k5, k6, k7, k8, k9, k10, k11, k12, k13, k14, k15, k16, k17, k18, k19, k20, -⟩ := hm
        rcases (show j = 0 ∨ j = 1 ∨ j = 2 ∨ j = 3 ∨ j = 4 ∨ j = 5 ∨ j = 6 ∨ j = 7 ∨ j = 8 ∨ j = 9 ∨ j = 10 ∨ j = 11 ∨ j = 12 ∨ j = 13 ∨ j = 14 ∨ j = 15 ∨ j = 16 ∨ j = 17 ∨ j = 18 ∨ j = 19 ∨ j = 20 by omega) with rfl | rfl | rfl | rfl | rfl | rfl | rfl | rfl | rfl | rfl | rfl | rfl | rfl | rfl | rfl | rfl | rfl | rfl | rfl | rfl | rfl
        · exact k0
        · exact k1
        · exact k2
        · exact k3
        · exact k4
        · exact k5
        · exact k6
        · exact k7
        · exact k8
        · exact k9
        · exact k10
        · exact k11
        · exact k12
        · exact k13
        · exact k14
        · exact k15
        · exact k16
        · exact k17
        · exact k18
        · exact k19
        · exact k20))
      rotate_left
      · intro p hp
        simp only [List.mem_cons, List.not_mem_nil, or_false] at hp
        rcases hp with rfl | rfl | rfl | rfl | rfl | rfl | rfl | rfl | rfl | rfl | rfl | rfl | rfl | rfl | rfl | rfl | rfl | rfl | rfl | rfl | rfl <;> simp
      · intro p hp
        simp only [List.mem_cons, List.not_mem_nil, or_false] at hp
        rcases hp with rfl | rfl | rfl | rfl | rfl | rfl | rfl | rfl | rfl | rfl | rfl | rfl | rfl | rfl | rfl | rfl | rfl | rfl | rfl | rfl | rfl
        · exact v0
        · exact v1
        · exact v2
        · exact v3
        · exact v4
        · exact v5
        · exact v6
        · exact v7
        · exact v8
        · exact v9
        · exact v10
        · exact v11
        · exact v12
        · exact v13
        · exact v14
        · exact v15
        · exact v16
        · exact v17
        · exact v18
        · exact v19
        · exact v20
      clear v0 v1 v2 v3 v4 v5 v6 v7 v8 v9 v10 v11 v12 v13 v14 v15 v16 v17 v18 v19 v20 hval hoth hsz hdf
      subst hA
      simp only [List.foldl, Act.put, List.setIfInBounds_toArray, List.set_cons_zero, List.set_cons_succ]
      show wpOps _ _ _ [] _ _
      simp only [wpOps]
      have hbw13 : Below w.heap.size w w13 := H12.out.2.2.2.2.2.2.2.trans (hb13.mono H12.out.2.2.2.2.2.2.2.size)
      have l0 := (Array.getElem?_eq_some_iff.1 H12.out.1).1
      have l5 := (Array.getElem?_eq_some_iff.1 H12.out.2.2.1).1
      have l7 := (Array.getElem?_eq_some_iff.1 H12.out.2.2.2.2.1).1
      have t0 := (hb13.block _ l0).trans H12.out.1
      have t5 := (hb13.block _ l5).trans H12.out.2.2.1
      have t7 := (hb13.block _ l7).trans H12.out.2.2.2.2.1
      have hx13 := (HBd.out.1.below (Nat.le_refl _) hb13).upP hb13.size
      have hp13 := (HBd.out.2.2.2.2.below (Nat.le_refl _) hb13).upP hb13.size
      have HG := Lib.hid (good_any w.heap.size a (by omega) (by omega) HY.out.1 w13 hbw13.size (HH.out.1 w13 hbw13))
      have H13 := Lib.hid (And.intro t0 (And.intro t5 (And.intro t7 (And.intro hx13 (And.intro hp13 hbw13)))))
      have chs := fun j => Lib.cell_of_heap t0 j
      have c0 := chs 0; have c1 := chs 1; have c2 := chs 2; have c3 := chs 3; have c4 := chs 4; have c5 := chs 5; have c6 := chs 6
      simp only [List.getElem?_toArray, List.getElem?_cons_zero, List.getElem?_cons_succ] at c0 c1 c2 c3 c4 c5 c6
      clear chs
      clear t0 t5 t7 hx13 hp13 hbw13 l0 l5 l7 hb13
      go_wp2_with fail
      clear c0 c1 c2 c3 c4 c5 c6
      refine HG.out.mono ?_
      rintro e w14 ⟨r, rfl, hr, b14⟩
      have l0 := (Array.getElem?_eq_some_iff.1 H13.out.1).1
      have l5 := (Array.getElem?_eq_some_iff.1 H13.out.2.1).1
      have l7 := (Array.getElem?_eq_some_iff.1 H13.out.2.2.1).1
      have t0 := (b14.block _ l0).trans H13.out.1
      have t5 := (b14.block _ l5).trans H13.out.2.1
      have t7 := (b14.block _ l7).trans H13.out.2.2.1
      have hx14 := (H13.out.2.2.2.1.below (Nat.le_refl _) b14).upP b14.size
      have hp14 := (H13.out.2.2.2.2.1.below (Nat.le_refl _) b14).upP b14.size
      have hb14 : Below w.heap.size w w14 := H13.out.2.2.2.2.2.trans (b14.mono H13.out.2.2.2.2.2.size)
      have H14 := Lib.hid (And.intro t0 (And.intro t5 (And.intro t7 (And.intro hx14 (And.intro hp14 hb14)))))
      cases r with
      | true =>
        have hg := hr rfl
        have HSG := Lib.hid (same_yes w14.heap.size a x (hg.symm.trans HBX.out.2.2.1.symm) (by omega) (by omega) HY.out.1 HBX.out.1.2.2 w14 (Nat.le_refl _) ((HH.out.1 w14 hb14).upP hb14.size) hx14)
        have chs := fun j => Lib.cell_of_heap t0 j
        have c0 := chs 0; have c1 := chs 1; have c2 := chs 2; have c3 := chs 3; have c4 := chs 4; have c5 := chs 5; have c6 := chs 6
        simp only [List.getElem?_toArray, List.getElem?_cons_zero, List.getElem?_cons_succ] at c0 c1 c2 c3 c4 c5 c6
        clear chs
        have dhs := fun j => Lib.cell_of_heap t5 j
        have d0 := dhs 0; have d1 := dhs 1; have d2 := dhs 2; have d3 := dhs 3; have d4 := dhs 4; have d5 := dhs 5; have d6 := dhs 6
        simp only [List.getElem?_toArray, List.getElem?_cons_zero, List.getElem?_cons_succ] at d0 d1 d2 d3 d4 d5 d6
        clear dhs
        clear t0 t5 t7 hx14 hp14 hb14 l0 l5 l7 b14 hr hg HG
        go_wp2_with fail
        clear c0 c1 c2 c3 c4 c5 c6 d0 d1 d2 d3 d4 d5 d6
        refine HSG.out.mono ?_
        rintro e w15 ⟨rfl, b15⟩
        have H15 := Lib.hid (And.intro ((b15.block _ (Array.getElem?_eq_some_iff.1 H14.out.2.1).1).trans H14.out.2.1) (And.intro ((b15.block _ (Array.getElem?_eq_some_iff.1 H14.out.2.2.1).1).trans H14.out.2.2.1) (And.intro ((H14.out.2.2.2.1.below (Nat.le_refl _) b15).upP b15.size) (And.intro ((H14.out.2.2.2.2.1.below (Nat.le_refl _) b15).upP b15.size) (H14.out.2.2.2.2.2.trans (b15.mono H14.out.2.2.2.2.2.size))))))
        clear b15
        have HT := Lib.hid (back_tail H15.out.2.2.1 H15.out.2.2.2.1 HBX.out.1 H9.out.2.1 (by omega) (by omega) (by omega) (by omega) H9.out.2.2.2.1 (pair_again H9.out.2.2.1))
        go_wp2_with fail
        refine wp_region_phases (nA := 14) (by kernel_rfl) (by kernel_rfl) (fun i => 62 + i)
          (fun i W v => match i with
            | 0 => v = .agg #[.int .i64 p.k, .bool p.g, .slice p.la p.ln p.lc, .bool p.bb, .string p.s, .slice p.ia p.items.length p.ic, .slice p.ta p.tail.length p.tc]
            | 1 => ∃ z : LT, v = .agg #[.int .i64 z.k, .bool z.g, .slice z.la z.ln z.lc, .bool z.bb, .string z.s, .slice z.ia z.items.length z.ic, .slice z.ta z.tail.length z.tc] ∧ HeldP W (Fresh W w15.heap.size) z ∧ shape z = normT p
            | 2 => v = .agg #[.int .i64 p.k, .bool p.g, .slice p.la p.ln p.lc, .bool p.bb, .string p.s, .slice p.ia p.items.length p.ic, .slice p.ta p.tail.length p.tc]
            | 3 => v = .bool true
            | 4 => v = .bool true
            | 5 => v = .agg #[.int .i64 p.k, .bool p.g, .slice p.la p.ln p.lc, .bool p.bb, .string p.s, .slice p.ia p.items.length p.ic, .slice p.ta p.tail.length p.tc]
            | 6 => v = .int .i64 p.size
            | 7 => v = .agg #[.int .i64 x.k, .bool x.g, .slice x.la x.ln x.lc, .bool x.bb, .string x.s, .slice x.ia x.items.length x.ic, .slice x.ta x.tail.length x.tc]
            | 8 => v = .int .i64 x.size
            | 9 => v = .bool true
            | 10 => v = .bool true
            | 11 => v = .bool true
            | 12 => v = .bool true
            | _ => v = .bool true) (by decide) (by kernel_rfl)
          (fun i j hi hj h => by omega) (fun i hi => by simp only [List.size_toArray, List.length_cons, List.length_nil]; omega) ?_ ?_ ?_
        · intro i hi W W' v h hb
          rcases (show i = 0 ∨ i = 1 ∨ i = 2 ∨ i = 3 ∨ i = 4 ∨ i = 5 ∨ i = 6 ∨ i = 7 ∨ i = 8 ∨ i = 9 ∨ i = 10 ∨ i = 11 ∨ i = 12 ∨ i = 13 by omega) with rfl | rfl | rfl | rfl | rfl | rfl | rfl | rfl | rfl | rfl | rfl | rfl | rfl | rfl
          · exact h
          · obtain ⟨z, e, h1, h2⟩ := h; exact ⟨z, e, h1.below hb (Nat.le_refl _), h2⟩
          · exact h
          · exact h
          · exact h
          · exact h
          · exact h
          · exact h
          · exact h
          · exact h
          · exact h
          · exact h
          · exact h
          · exact h
        · intro i hi l A W I hdep
          have hbW : Below w.heap.size w W := H15.out.2.2.2.2.trans (I.below.mono H15.out.2.2.2.2.size)
          rcases (show i = 0 ∨ i = 1 ∨ i = 2 ∨ i = 3 ∨ i = 4 ∨ i = 5 ∨ i = 6 ∨ i = 7 ∨ i = 8 ∨ i = 9 ∨ i = 10 ∨ i = 11 ∨ i = 12 ∨ i = 13 by omega) with rfl | rfl | rfl | rfl | rfl | rfl | rfl | rfl | rfl | rfl | rfl | rfl | rfl | rfl
          · have hc : Seven W w8.heap.size 0 p := Seven.of ((I.below.block _ (Array.getElem?_eq_some_iff.1 H15.out.2.1).1).trans H15.out.2.1)
            exact wpOp_valW rfl (rfl) (exec_loadD rfl ((I.other 7 (by intro j hj; omega)).trans rfl) hc) ⟨_, rfl, rfl, Below.refl _ _⟩
          · have v0 : A.tmps.getD 62 undef = _ := I.val 0 (by decide) (hdep 0 (by kernel_rfl))
            refine wpOp_callW rfl (rfl) ((exec_call rfl).trans (by rw [v0])) (by simp [go_sem]) (HT.out.1 W I.below) ?_
            rintro e W' ⟨u', rfl, h1, h2, h3⟩
            exact ⟨_, rfl, _, rfl, ⟨u', rfl, h1.keep (Nat.le_refl _) (fun k hk => ⟨hk.low I.below.size, rfl⟩), h2⟩, h3⟩
          · have hc : Seven W w8.heap.size 0 p := Seven.of ((I.below.block _ (Array.getElem?_eq_some_iff.1 H15.out.2.1).1).trans H15.out.2.1)
            exact wpOp_valW rfl (rfl) (exec_loadD rfl ((I.other 7 (by intro j hj; omega)).trans rfl) hc) ⟨_, rfl, rfl, Below.refl _ _⟩
          · obtain ⟨z, v1, hz, hzs⟩ : ∃ z : LT, A.tmps.getD 63 undef = .agg #[.int .i64 z.k, .bool z.g, .slice z.la z.ln z.lc, .bool z.bb, .string z.s, .slice z.ia z.items.length z.ic, .slice z.ta z.tail.length z.tc] ∧ HeldP W (Fresh W w15.heap.size) z ∧ shape z = normT p := I.val 1 (by decide) (hdep 1 (by kernel_rfl))
            have v2 : A.tmps.getD 64 undef = _ := I.val 2 (by decide) (hdep 2 (by kernel_rfl))
            refine wpOp_callW rfl (rfl) ((exec_call2 rfl).trans (by rw [v1, v2])) (by simp [go_sem]) (HT.out.2.1 W I.below z (hz.held fun k hk => hk.lt) hzs) ?_
            rintro e W' ⟨rfl, b⟩
            exact ⟨_, rfl, _, rfl, rfl, b⟩
          · have v3 : A.tmps.getD 65 undef = _ := I.val 3 (by decide) (hdep 3 (by kernel_rfl))
            exact wpOp_valW rfl (rfl) (exec_moveV rfl v3) ⟨_, rfl, rfl, Below.refl _ _⟩
          · have g4 : A.tmps.getD 66 undef = _ := I.val 4 (by decide) (hdep 4 (by kernel_rfl))
            have hc : Seven W w8.heap.size 0 p := Seven.of ((I.below.block _ (Array.getElem?_eq_some_iff.1 H15.out.2.1).1).trans H15.out.2.1)
            exact wpOp_valW rfl (wanted_yes rfl rfl rfl (by rw [I.size]; simp) g4) (exec_loadD rfl ((I.other 7 (by intro j hj; omega)).trans rfl) hc) ⟨_, rfl, rfl, Below.refl _ _⟩
          · have g4 : A.tmps.getD 66 undef = _ := I.val 4 (by decide) (hdep 4 (by kernel_rfl))
            have v5 : A.tmps.getD 67 undef = _ := I.val 5 (by decide) (hdep 5 (by kernel_rfl))
            refine wpOp_callW rfl (wanted_yes rfl rfl rfl (by rw [I.size]; simp) g4) ((exec_call rfl).trans (by rw [v5])) (by simp [go_sem]) (HT.out.2.2.1 W I.below) ?_
            rintro e W' ⟨rfl, b⟩
            exact ⟨_, rfl, _, rfl, rfl, b⟩
          · have g4 : A.tmps.getD 66 undef = _ := I.val 4 (by decide) (hdep 4 (by kernel_rfl))
            have hc : Seven W P5 0 x := Seven.of ((I.below.block _ (Array.getElem?_eq_some_iff.1 H15.out.1).1).trans H15.out.1)
            exact wpOp_valW rfl (wanted_yes rfl rfl rfl (by rw [I.size]; simp) g4) (exec_loadD rfl ((I.other 5 (by intro j hj; omega)).trans rfl) hc) ⟨_, rfl, rfl, Below.refl _ _⟩
          · have g4 : A.tmps.getD 66 undef = _ := I.val 4 (by decide) (hdep 4 (by kernel_rfl))
            have v7 : A.tmps.getD 69 undef = _ := I.val 7 (by decide) (hdep 7 (by kernel_rfl))
            refine wpOp_callW rfl (wanted_yes rfl rfl rfl (by rw [I.size]; simp) g4) ((exec_call rfl).trans (by rw [v7])) (by simp [go_sem]) (HT.out.2.2.2.1 W I.below) ?_
            rintro e W' ⟨rfl, b⟩
            exact ⟨_, rfl, _, rfl, rfl, b⟩
          · have g4 : A.tmps.getD 66 undef = _ := I.val 4 (by decide) (hdep 4 (by kernel_rfl))
            have v6 : A.tmps.getD 68 undef = _ := I.val 6 (by decide) (hdep 6 (by kernel_rfl))
            have v8 : A.tmps.getD 70 undef = _ := I.val 8 (by decide) (hdep 8 (by kernel_rfl))
            exact wpOp_valW rfl (wanted_yes rfl rfl rfl (by rw [I.size]; simp) g4) (exec_gtr rfl v6 v8 (by have := HT.out.2.2.2.2; omega)) ⟨_, rfl, rfl, Below.refl _ _⟩
          · have v4 : A.tmps.getD 66 undef = _ := I.val 4 (by decide) (hdep 4 (by kernel_rfl))
            have v9 : A.tmps.getD 71 undef = _ := I.val 9 (by decide) (hdep 9 (by kernel_rfl))
            exact wpOp_valW rfl (rfl) (exec_pickT rfl v4 v9) ⟨_, rfl, rfl, Below.refl _ _⟩
          · have v10 : A.tmps.getD 72 undef = _ := I.val 10 (by decide) (hdep 10 (by kernel_rfl))
            exact wpOp_valW rfl (rfl) (exec_moveV rfl v10) ⟨_, rfl, rfl, Below.refl _ _⟩
          · have g11 : A.tmps.getD 73 undef = _ := I.val 11 (by decide) (hdep 11 (by kernel_rfl))
            refine wpOp_callW rfl (wanted_yes rfl rfl rfl (by rw [I.size]; simp) g11) (exec_call0 rfl) (by simp [go_sem]) (lives3_yes W) ?_
            rintro e W' ⟨rfl, b⟩
            exact ⟨_, rfl, _, rfl, rfl, b⟩
          · have v11 : A.tmps.getD 73 undef = _ := I.val 11 (by decide) (hdep 11 (by kernel_rfl))
            have v12 : A.tmps.getD 74 undef = _ := I.val 12 (by decide) (hdep 12 (by kernel_rfl))
            exact wpOp_valW rfl (rfl) (exec_pickT rfl v11 v12) ⟨_, rfl, rfl, Below.refl _ _⟩
        intro A w17 hdf hsz hoth hval hb17
        have v0 : A.tmps.getD 62 undef = _ := hval 0 (by decide)
        obtain ⟨z1, v1, hz1, hzs1⟩ : ∃ z : LT, A.tmps.getD 63 undef = .agg #[.int .i64 z.k, .bool z.g, .slice z.la z.ln z.lc, .bool z.bb, .string z.s, .slice z.ia z.items.length z.ic, .slice z.ta z.tail.length z.tc] ∧ HeldP w17 (Fresh w17 w15.heap.size) z ∧ shape z = normT p := hval 1 (by decide)
        have v2 : A.tmps.getD 64 undef = _ := hval 2 (by decide)
        have v3 : A.tmps.getD 65 undef = _ := hval 3 (by decide)
        have v4 : A.tmps.getD 66 undef = _ := hval 4 (by decide)
        have v5 : A.tmps.getD 67 undef = _ := hval 5 (by decide)
        have v6 : A.tmps.getD 68 undef = _ := hval 6 (by decide)
        have v7 : A.tmps.getD 69 undef = _ := hval 7 (by decide)
        have v8 : A.tmps.getD 70 undef = _ := hval 8 (by decide)
        have v9 : A.tmps.getD 71 undef = _ := hval 9 (by decide)
        have v10 : A.tmps.getD 72 undef = _ := hval 10 (by decide)
        have v11 : A.tmps.getD 73 undef = _ := hval 11 (by decide)
        have v12 : A.tmps.getD 74 undef = _ := hval 12 (by decide)
        have v13 : A.tmps.getD 75 undef = _ := hval 13 (by decide)
        have hA := tower_pairs (a := A) [(62, .agg #[.int .i64 p.k, .bool p.g, .slice p.la p.ln p.lc, .bool p.bb, .string p.s, .slice p.ia p.items.length p.ic, .slice p.ta p.tail.length p.tc]), (63, .agg #[.int .i64 z1.k, .bool z1.g, .slice z1.la z1.ln z1.lc, .bool z1.bb, .string z1.s, .slice z1.ia z1.items.length z1.ic, .slice z1.ta z1.tail.length z1.tc]), (64, .agg #[.int .i64 p.k, .bool p.g, .slice p.la p.ln p.lc, .bool p.bb, .string p.s, .slice p.ia p.items.length p.ic, .slice p.ta p.tail.length p.tc]), (65, .bool true), (66, .bool true), (67, .agg #[.int .i64 p.k, .bool p.g, .slice p.la p.ln p.lc, .bool p.bb, .string p.s, .slice p.ia p.items.length p.ic, .slice p.ta p.tail.length p.tc]), (68, .int .i64 p.size), (69, .agg #[.int .i64 x.k, .bool x.g, .slice x.la x.ln x.lc, .bool x.bb, .string x.s, .slice x.ia x.items.length x.ic, .slice x.ta x.tail.length x.tc]), (70, .int .i64 x.size), (71, .bool true), (72, .bool true), (73, .bool true), (74, .bool true), (75, .bool true)] ?_ ?_ hdf hsz (fun m hm => hoth m (fun j hj => by
          simp only [List.forall_mem_cons] at hm
          obtain ⟨k0, k1, k2, k3, k4, k5, k6, k7, k8, k9, k10, k11, k12, k13, -⟩ := hm
          rcases (show j = 0 ∨ j = 1 ∨ j = 2 ∨ j = 3 ∨ j = 4 ∨ j = 5 ∨ j = 6 ∨ j = 7 ∨ j = 8 ∨ j = 9 ∨ j = 10 ∨ j = 11 ∨ j = 12 ∨ j = 13 by omega) with rfl | rfl | rfl | rfl | rfl | rfl | rfl | rfl | rfl | rfl | rfl | rfl | rfl | rfl
          · exact k0
          · exact k1
          · exact k2
          · exact k3
          · exact k4
          · exact k5
          · exact k6
          · exact k7
          · exact k8
          · exact k9
          · exact k10
          · exact k11
          · exact k12
          · exact k13))
        rotate_left
        · intro p hp
          simp only [List.mem_cons, List.not_mem_nil, or_false] at hp
          rcases hp with rfl | rfl | rfl | rfl | rfl | rfl | rfl | rfl | rfl | rfl | rfl | rfl | rfl | rfl <;> simp
        · intro p hp
          simp only [List.mem_cons, List.not_mem_nil, or_false] at hp
          rcases hp with rfl | rfl | rfl | rfl | rfl | rfl | rfl | rfl | rfl | rfl | rfl | rfl | rfl | rfl
          · exact v0
          · exact v1
          · exact v2
          · exact v3
          · exact v4
          · exact v5
          · exact v6
          · exact v7
          · exact v8
          · exact v9
          · exact v10
          · exact v11
          · exact v12
          · exact v13
        clear v0 v1 v2 v3 v4 v5 v6 v7 v8 v9 v10 v11 v12 v13 hval hoth hsz hdf
        subst hA
        simp only [List.foldl, Act.put, List.setIfInBounds_toArray, List.set_cons_zero, List.set_cons_succ]
        show wpOps _ _ _ [14] _ _
        rw [wpOps_cons]
        refine wpOp_val (o := { dst := some 4, op := .assign (.tmp 75), type := _, pos := _, after := _, guard := none }) rfl rfl (exec_assignV rfl rfl) ?_
        simp only [wpOps, Act.put, List.setIfInBounds_toArray, List.set_cons_zero, List.set_cons_succ]
        have hbf := H15.out.2.2.2.2.trans (hb17.mono H15.out.2.2.2.2.size)
        clear hb17
        go_wp2_with fail
        go_ret
        exact ⟨rfl, hbf⟩
      | false =>
        clear t0 t5 t7 hx14 hp14 hb14 l0 l5 l7 b14 hr HG
        have H15 := Lib.hid H14.out.2
        have HT := Lib.hid (back_tail H15.out.2.2.1 H15.out.2.2.2.1 HBX.out.1 H9.out.2.1 (by omega) (by omega) (by omega) (by omega) H9.out.2.2.2.1 (pair_again H9.out.2.2.1))
        go_wp2_with fail
        refine wp_region_phases (nA := 14) (by kernel_rfl) (by kernel_rfl) (fun i => 62 + i)
          (fun i W v => match i with
            | 0 => v = .agg #[.int .i64 p.k, .bool p.g, .slice p.la p.ln p.lc, .bool p.bb, .string p.s, .slice p.ia p.items.length p.ic, .slice p.ta p.tail.length p.tc]
            | 1 => ∃ z : LT, v = .agg #[.int .i64 z.k, .bool z.g, .slice z.la z.ln z.lc, .bool z.bb, .string z.s, .slice z.ia z.items.length z.ic, .slice z.ta z.tail.length z.tc] ∧ HeldP W (Fresh W w14.heap.size) z ∧ shape z = normT p
            | 2 => v = .agg #[.int .i64 p.k, .bool p.g, .slice p.la p.ln p.lc, .bool p.bb, .string p.s, .slice p.ia p.items.length p.ic, .slice p.ta p.tail.length p.tc]
            | 3 => v = .bool true
            | 4 => v = .bool true
            | 5 => v = .agg #[.int .i64 p.k, .bool p.g, .slice p.la p.ln p.lc, .bool p.bb, .string p.s, .slice p.ia p.items.length p.ic, .slice p.ta p.tail.length p.tc]
            | 6 => v = .int .i64 p.size
            | 7 => v = .agg #[.int .i64 x.k, .bool x.g, .slice x.la x.ln x.lc, .bool x.bb, .string x.s, .slice x.ia x.items.length x.ic, .slice x.ta x.tail.length x.tc]
            | 8 => v = .int .i64 x.size
            | 9 => v = .bool true
            | 10 => v = .bool true
            | 11 => v = .bool true
            | 12 => v = .bool true
            | _ => v = .bool true) (by decide) (by kernel_rfl)
          (fun i j hi hj h => by omega) (fun i hi => by simp only [List.size_toArray, List.length_cons, List.length_nil]; omega) ?_ ?_ ?_
        · intro i hi W W' v h hb
          rcases (show i = 0 ∨ i = 1 ∨ i = 2 ∨ i = 3 ∨ i = 4 ∨ i = 5 ∨ i = 6 ∨ i = 7 ∨ i = 8 ∨ i = 9 ∨ i = 10 ∨ i = 11 ∨ i = 12 ∨ i = 13 by omega) with rfl | rfl | rfl | rfl | rfl | rfl | rfl | rfl | rfl | rfl | rfl | rfl | rfl | rfl
          · exact h
          · obtain ⟨z, e, h1, h2⟩ := h; exact ⟨z, e, h1.below hb (Nat.le_refl _), h2⟩
          · exact h
          · exact h
          · exact h
          · exact h
          · exact h
          · exact h
          · exact h
          · exact h
          · exact h
          · exact h
          · exact h
          · exact h
        · intro i hi l A W I hdep
          have hbW : Below w.heap.size w W := H15.out.2.2.2.2.trans (I.below.mono H15.out.2.2.2.2.size)
          rcases (show i = 0 ∨ i = 1 ∨ i = 2 ∨ i = 3 ∨ i = 4 ∨ i = 5 ∨ i = 6 ∨ i = 7 ∨ i = 8 ∨ i = 9 ∨ i = 10 ∨ i = 11 ∨ i = 12 ∨ i = 13 by omega) with rfl | rfl | rfl | rfl | rfl | rfl | rfl | rfl | rfl | rfl | rfl | rfl | rfl | rfl
          · have hc : Seven W w8.heap.size 0 p := Seven.of ((I.below.block _ (Array.getElem?_eq_some_iff.1 H15.out.2.1).1).trans H15.out.2.1)
            exact wpOp_valW rfl (rfl) (exec_loadD rfl ((I.other 7 (by intro j hj; omega)).trans rfl) hc) ⟨_, rfl, rfl, Below.refl _ _⟩
          · have v0 : A.tmps.getD 62 undef = _ := I.val 0 (by decide) (hdep 0 (by kernel_rfl))
            refine wpOp_callW rfl (rfl) ((exec_call rfl).trans (by rw [v0])) (by simp [go_sem]) (HT.out.1 W I.below) ?_
            rintro e W' ⟨u', rfl, h1, h2, h3⟩
            exact ⟨_, rfl, _, rfl, ⟨u', rfl, h1.keep (Nat.le_refl _) (fun k hk => ⟨hk.low I.below.size, rfl⟩), h2⟩, h3⟩
          · have hc : Seven W w8.heap.size 0 p := Seven.of ((I.below.block _ (Array.getElem?_eq_some_iff.1 H15.out.2.1).1).trans H15.out.2.1)
            exact wpOp_valW rfl (rfl) (exec_loadD rfl ((I.other 7 (by intro j hj; omega)).trans rfl) hc) ⟨_, rfl, rfl, Below.refl _ _⟩
          · obtain ⟨z, v1, hz, hzs⟩ : ∃ z : LT, A.tmps.getD 63 undef = .agg #[.int .i64 z.k, .bool z.g, .slice z.la z.ln z.lc, .bool z.bb, .string z.s, .slice z.ia z.items.length z.ic, .slice z.ta z.tail.length z.tc] ∧ HeldP W (Fresh W w14.heap.size) z ∧ shape z = normT p := I.val 1 (by decide) (hdep 1 (by kernel_rfl))
            have v2 : A.tmps.getD 64 undef = _ := I.val 2 (by decide) (hdep 2 (by kernel_rfl))
            refine wpOp_callW rfl (rfl) ((exec_call2 rfl).trans (by rw [v1, v2])) (by simp [go_sem]) (HT.out.2.1 W I.below z (hz.held fun k hk => hk.lt) hzs) ?_
            rintro e W' ⟨rfl, b⟩
            exact ⟨_, rfl, _, rfl, rfl, b⟩
          · have v3 : A.tmps.getD 65 undef = _ := I.val 3 (by decide) (hdep 3 (by kernel_rfl))
            exact wpOp_valW rfl (rfl) (exec_moveV rfl v3) ⟨_, rfl, rfl, Below.refl _ _⟩
          · have g4 : A.tmps.getD 66 undef = _ := I.val 4 (by decide) (hdep 4 (by kernel_rfl))
            have hc : Seven W w8.heap.size 0 p := Seven.of ((I.below.block _ (Array.getElem?_eq_some_iff.1 H15.out.2.1).1).trans H15.out.2.1)
            exact wpOp_valW rfl (wanted_yes rfl rfl rfl (by rw [I.size]; simp) g4) (exec_loadD rfl ((I.other 7 (by intro j hj; omega)).trans rfl) hc) ⟨_, rfl, rfl, Below.refl _ _⟩
          · have g4 : A.tmps.getD 66 undef = _ := I.val 4 (by decide) (hdep 4 (by kernel_rfl))
            have v5 : A.tmps.getD 67 undef = _ := I.val 5 (by decide) (hdep 5 (by kernel_rfl))
            refine wpOp_callW rfl (wanted_yes rfl rfl rfl (by rw [I.size]; simp) g4) ((exec_call rfl).trans (by rw [v5])) (by simp [go_sem]) (HT.out.2.2.1 W I.below) ?_
            rintro e W' ⟨rfl, b⟩
            exact ⟨_, rfl, _, rfl, rfl, b⟩
          · have g4 : A.tmps.getD 66 undef = _ := I.val 4 (by decide) (hdep 4 (by kernel_rfl))
            have hc : Seven W P5 0 x := Seven.of ((I.below.block _ (Array.getElem?_eq_some_iff.1 H15.out.1).1).trans H15.out.1)
            exact wpOp_valW rfl (wanted_yes rfl rfl rfl (by rw [I.size]; simp) g4) (exec_loadD rfl ((I.other 5 (by intro j hj; omega)).trans rfl) hc) ⟨_, rfl, rfl, Below.refl _ _⟩
          · have g4 : A.tmps.getD 66 undef = _ := I.val 4 (by decide) (hdep 4 (by kernel_rfl))
            have v7 : A.tmps.getD 69 undef = _ := I.val 7 (by decide) (hdep 7 (by kernel_rfl))
            refine wpOp_callW rfl (wanted_yes rfl rfl rfl (by rw [I.size]; simp) g4) ((exec_call rfl).trans (by rw [v7])) (by simp [go_sem]) (HT.out.2.2.2.1 W I.below) ?_
            rintro e W' ⟨rfl, b⟩
            exact ⟨_, rfl, _, rfl, rfl, b⟩
          · have g4 : A.tmps.getD 66 undef = _ := I.val 4 (by decide) (hdep 4 (by kernel_rfl))
            have v6 : A.tmps.getD 68 undef = _ := I.val 6 (by decide) (hdep 6 (by kernel_rfl))
            have v8 : A.tmps.getD 70 undef = _ := I.val 8 (by decide) (hdep 8 (by kernel_rfl))
            exact wpOp_valW rfl (wanted_yes rfl rfl rfl (by rw [I.size]; simp) g4) (exec_gtr rfl v6 v8 (by have := HT.out.2.2.2.2; omega)) ⟨_, rfl, rfl, Below.refl _ _⟩
          · have v4 : A.tmps.getD 66 undef = _ := I.val 4 (by decide) (hdep 4 (by kernel_rfl))
            have v9 : A.tmps.getD 71 undef = _ := I.val 9 (by decide) (hdep 9 (by kernel_rfl))
            exact wpOp_valW rfl (rfl) (exec_pickT rfl v4 v9) ⟨_, rfl, rfl, Below.refl _ _⟩
          · have v10 : A.tmps.getD 72 undef = _ := I.val 10 (by decide) (hdep 10 (by kernel_rfl))
            exact wpOp_valW rfl (rfl) (exec_moveV rfl v10) ⟨_, rfl, rfl, Below.refl _ _⟩
          · have g11 : A.tmps.getD 73 undef = _ := I.val 11 (by decide) (hdep 11 (by kernel_rfl))
            refine wpOp_callW rfl (wanted_yes rfl rfl rfl (by rw [I.size]; simp) g11) (exec_call0 rfl) (by simp [go_sem]) (lives3_yes W) ?_
            rintro e W' ⟨rfl, b⟩
            exact ⟨_, rfl, _, rfl, rfl, b⟩
          · have v11 : A.tmps.getD 73 undef = _ := I.val 11 (by decide) (hdep 11 (by kernel_rfl))
            have v12 : A.tmps.getD 74 undef = _ := I.val 12 (by decide) (hdep 12 (by kernel_rfl))
            exact wpOp_valW rfl (rfl) (exec_pickT rfl v11 v12) ⟨_, rfl, rfl, Below.refl _ _⟩
        intro A w17 hdf hsz hoth hval hb17
        have v0 : A.tmps.getD 62 undef = _ := hval 0 (by decide)
        obtain ⟨z1, v1, hz1, hzs1⟩ : ∃ z : LT, A.tmps.getD 63 undef = .agg #[.int .i64 z.k, .bool z.g, .slice z.la z.ln z.lc, .bool z.bb, .string z.s, .slice z.ia z.items.length z.ic, .slice z.ta z.tail.length z.tc] ∧ HeldP w17 (Fresh w17 w14.heap.size) z ∧ shape z = normT p := hval 1 (by decide)
        have v2 : A.tmps.getD 64 undef = _ := hval 2 (by decide)
        have v3 : A.tmps.getD 65 undef = _ := hval 3 (by decide)
        have v4 : A.tmps.getD 66 undef = _ := hval 4 (by decide)
        have v5 : A.tmps.getD 67 undef = _ := hval 5 (by decide)
        have v6 : A.tmps.getD 68 undef = _ := hval 6 (by decide)
        have v7 : A.tmps.getD 69 undef = _ := hval 7 (by decide)
        have v8 : A.tmps.getD 70 undef = _ := hval 8 (by decide)
        have v9 : A.tmps.getD 71 undef = _ := hval 9 (by decide)
        have v10 : A.tmps.getD 72 undef = _ := hval 10 (by decide)
        have v11 : A.tmps.getD 73 undef = _ := hval 11 (by decide)
        have v12 : A.tmps.getD 74 undef = _ := hval 12 (by decide)
        have v13 : A.tmps.getD 75 undef = _ := hval 13 (by decide)
        have hA := tower_pairs (a := A) [(62, .agg #[.int .i64 p.k, .bool p.g, .slice p.la p.ln p.lc, .bool p.bb, .string p.s, .slice p.ia p.items.length p.ic, .slice p.ta p.tail.length p.tc]), (63, .agg #[.int .i64 z1.k, .bool z1.g, .slice z1.la z1.ln z1.lc, .bool z1.bb, .string z1.s, .slice z1.ia z1.items.length z1.ic, .slice z1.ta z1.tail.length z1.tc]), (64, .agg #[.int .i64 p.k, .bool p.g, .slice p.la p.ln p.lc, .bool p.bb, .string p.s, .slice p.ia p.items.length p.ic, .slice p.ta p.tail.length p.tc]), (65, .bool true), (66, .bool true), (67, .agg #[.int .i64 p.k, .bool p.g, .slice p.la p.ln p.lc, .bool p.bb, .string p.s, .slice p.ia p.items.length p.ic, .slice p.ta p.tail.length p.tc]), (68, .int .i64 p.size), (69, .agg #[.int .i64 x.k, .bool x.g, .slice x.la x.ln x.lc, .bool x.bb, .string x.s, .slice x.ia x.items.length x.ic, .slice x.ta x.tail.length x.tc]), (70, .int .i64 x.size), (71, .bool true), (72, .bool true), (73, .bool true), (74, .bool true), (75, .bool true)] ?_ ?_ hdf hsz (fun m hm => hoth m (fun j hj => by
          simp only [List.forall_mem_cons] at hm
          obtain ⟨k0, k1, k2, k3, k4, k5, k6, k7, k8, k9, k10, k11, k12, k13, -⟩ := hm
          rcases (show j = 0 ∨ j = 1 ∨ j = 2 ∨ j = 3 ∨ j = 4 ∨ j = 5 ∨ j = 6 ∨ j = 7 ∨ j = 8 ∨ j = 9 ∨ j = 10 ∨ j = 11 ∨ j = 12 ∨ j = 13 by omega) with rfl | rfl | rfl | rfl | rfl | rfl | rfl | rfl | rfl | rfl | rfl | rfl | rfl | rfl
          · exact k0
          · exact k1
          · exact k2
          · exact k3
          · exact k4
          · exact k5
          · exact k6
          · exact k7
          · exact k8
          · exact k9
          · exact k10
          · exact k11
          · exact k12
          · exact k13))
        rotate_left
        · intro p hp
          simp only [List.mem_cons, List.not_mem_nil, or_false] at hp
          rcases hp with rfl | rfl | rfl | rfl | rfl | rfl | rfl | rfl | rfl | rfl | rfl | rfl | rfl | rfl <;> simp
        · intro p hp
          simp only [List.mem_cons, List.not_mem_nil, or_false] at hp
          rcases hp with rfl | rfl | rfl | rfl | rfl | rfl | rfl | rfl | rfl | rfl | rfl | rfl | rfl | rfl
          · exact v0
          · exact v1
          · exact v2
          · exact v3
          · exact v4
          · exact v5
          · exact v6
          · exact v7
          · exact v8
          · exact v9
          · exact v10
          · exact v11
          · exact v12
          · exact v13
        clear v0 v1 v2 v3 v4 v5 v6 v7 v8 v9 v10 v11 v12 v13 hval hoth hsz hdf
        subst hA
        simp only [List.foldl, Act.put, List.setIfInBounds_toArray, List.set_cons_zero, List.set_cons_succ]
        show wpOps _ _ _ [14] _ _
        rw [wpOps_cons]
        refine wpOp_val (o := { dst := some 4, op := .assign (.tmp 75), type := _, pos := _, after := _, guard := none }) rfl rfl (exec_assignV rfl rfl) ?_
        simp only [wpOps, Act.put, List.setIfInBounds_toArray, List.set_cons_zero, List.set_cons_succ]
        have hbf := H15.out.2.2.2.2.trans (hb17.mono H15.out.2.2.2.2.size)
        clear hb17
        go_wp2_with fail
        go_ret
        exact ⟨rfl, hbf⟩
    · have lb' : lightB b = false := by simpa using lb
      rw [lb']
      go_wp2_with fail
      refine (lives3_yes _).mono ?_
      rintro e w9 ⟨rfl, b9⟩
      have hb9 := H4.out.2.2.trans (b9.mono H4.out.2.2.size)
      clear b9
      go_wp2_with fail
      go_ret
      exact ⟨rfl, hb9⟩
  · have la' : lightB a = false := by simpa using la
    rw [la']
    clear x0 x1
    go_wp2_with fail
    refine (lives3_yes _).mono ?_
    rintro e w9 ⟨rfl, b9⟩
    have hb9 := H3.out.2.2.trans (b9.mono H3.out.2.2.size)
    clear b9
    go_wp2_with fail
    go_ret
    exact ⟨rfl, hb9⟩
end Go.Proofs.Ytgboiopkihemaaa
