/-
  core.Good of an expression all of which is good by itself, and in which nothing is bound twice.
-/
import Derived.Test.YthdhdmmlmbkalaaGreatDoorJr14
import Derived.Test.YthdhdmmlmbkalaaGreatDoorJr10
import Derived.Maps.OwnIn
import Derived.TacticsInMore
import Derived.LoopIn
set_option linter.unusedVariables false
set_option linter.unusedSimpArgs false
set_option linter.unusedSectionVars false
set_option linter.unnecessarySimpa false
namespace Go.Proofs.YthdhdmmlmbkalaaGreatDoor
open Go.RowKit Go.Maps
attribute [local go_sem] Oper.semAt_some

theorem keyI : Keyed Tryz.prog 3 := int_keyed Tryz.underlying3
theorem zeroU (w : World) : (zeroValue 56).run Tryz.prog w = .ok (.agg #[]) w := by kernel_rfl
/-- The set of these numbers. -/
def setD (zs : List Int) : DataW Unit := setOf (.agg []) (zs.map (Lit.int .i64))
theorem setD_snoc (zs : List Int) (v : Int) : (setD zs).put (.int .i64 v) (.agg []) = setD (zs ++ [v]) := by simp [setD, setOf_snoc]
theorem any_int8 (x : Int) (zs : List Int) : zs.any ((fun y => Lit.sameKey y (.int .i64 x)) ∘ Lit.int .i64) = zs.contains x := by
  induction zs with
  | nil => rfl
  | cons y l ih =>
    simp only [List.any_cons, ih, List.contains_cons, Function.comp]
    congr 1
    show decide (IntKind.i64 = IntKind.i64 ∧ y = x) = (x == y)
    by_cases h : y = x
    · subst h; simp
    · simp [h, Ne.symm h]
theorem setD_has (zs : List Int) (v : Int) : Maps.has (setD zs) (.int .i64 v) = zs.contains v := by
  unfold setD
  rw [has_setOf _ _ _ (fun y hy => by obtain ⟨_, _, rfl⟩ := List.mem_map.1 hy; trivial), List.any_map]
  exact any_int8 v zs
theorem ownsMap_of_block {H : Type} {P : Program} {k : TypeId} {R : Value → Option (DataW H × List MemPlace)} {b n : Nat} {D : DataW H} {w w' : World} (h : w.ownsMap P k R b n D) (e : w'.heap[b]? = w.heap[b]?) : w'.ownsMap P k R b n D := by
  obtain ⟨es, clock, hb, r⟩ := h
  exact ⟨es, clock, e.trans hb, r⟩
/-- What binds told, plainly. -/
theorem binds_use {t : ET} {M : Nat} {w w' : World} {e : Ending} (h : BindsPost t M w e w') (hM : M ≤ w.heap.size) : ∃ a c, e = .returned (.tuple #[.slice a (bindE t).length c, .int .i64 (bodyE t)]) ∧ (bindE t).length ≤ maxLen ∧ (0 < (bindE t).length → a = some ⟨blk a, ofs a, none⟩ ∧ blk a < w'.heap.size ∧ (blk a < M ∨ w.heap.size ≤ blk a)) ∧
    (∀ i (h : i < (bindE t).length), w'.cell? ⟨blk a, ofs a + i, none⟩ = some (.int .i64 (bindE t)[i]) ∧ -9223372036854775808 ≤ (bindE t)[i] ∧ (bindE t)[i] ≤ 9223372036854775807) ∧ Below w.heap.size w w' := by
  obtain ⟨a, c, rfl, h, hb⟩ := h
  refine ⟨a, c, rfl, ?_⟩
  rcases h with h | h
  · exact ⟨Nat.le_trans h.1.1 h.1.2.1, fun hp => ⟨(h.1.2.2.1 hp).1, by have := (h.1.2.2.1 hp).2; have := hb.size; omega, .inl (h.1.2.2.1 hp).2⟩, h.2, hb⟩
  · exact ⟨Nat.le_trans h.1.1 h.1.2.1, fun hp => ⟨(h.1.2.2.1 hp).1, (h.1.2.2.1 hp).2.lt, .inr (h.1.2.2.1 hp).2.1⟩, h.2, hb⟩
theorem five8 (w : World) (A B C D E : Obj) : ∃ w5, w5 = ((((w.alloc A).alloc B).alloc C).alloc D).alloc E ∧ w5.heap[w.heap.size]? = some A ∧ w5.heap[w.heap.size + 1]? = some B ∧ w5.heap[w.heap.size + 2]? = some C ∧ w5.heap[w.heap.size + 3]? = some D ∧ w5.heap[w.heap.size + 4]? = some E ∧ w5.heap.size = w.heap.size + 5 ∧ Below w.heap.size w w5 := by
  obtain ⟨w4, rfl, a0, a1, a2, a3, hz, hb⟩ := four4y w A B C D
  have hk : ∀ k, k < w.heap.size + 4 → (((((w.alloc A).alloc B).alloc C).alloc D).alloc E).heap[k]? = ((((w.alloc A).alloc B).alloc C).alloc D).heap[k]? := fun k hk => Below.heap_alloc _ _ _ (by omega)
  refine ⟨_, rfl, (hk _ (by omega)).trans a0, (hk _ (by omega)).trans a1, (hk _ (by omega)).trans a2, (hk _ (by omega)).trans a3, ?_, by rw [World.size_alloc, hz], hb.alloc (by omega) _⟩
  have := World.alloc_heap_new ((((w.alloc A).alloc B).alloc C).alloc D) E
  rwa [hz] at this
/-- What is bound by what was told so far. -/
def keysE (full : List NodeE) (k : Nat) : List Int := (full.take k).flatMap fun x => bindE x.e
theorem keysE_succ {full : List NodeE} {k : Nat} {x : NodeE} (h : full[k]? = some x) : keysE full (k + 1) = keysE full k ++ bindE x.e := by
  simp [keysE, List.take_add_one, h]
theorem keysE_part {full : List NodeE} {k j : Nat} {x : NodeE} (h : full[k]? = some x) (hj : j < (bindE x.e).length) (hn : (full.flatMap fun x => bindE x.e).Nodup) : (keysE full k ++ (bindE x.e).take j).contains (bindE x.e)[j] = false := by
  have h1 : full = full.take k ++ x :: full.drop (k + 1) := by
    have := List.getElem?_eq_some_iff.1 h
    obtain ⟨hk, hx⟩ := this
    rw [← hx, List.getElem_cons_drop, List.take_append_drop]
  rw [h1, List.flatMap_append, List.flatMap_cons] at hn
  have h2 : bindE x.e = (bindE x.e).take j ++ (bindE x.e)[j] :: (bindE x.e).drop (j + 1) := by rw [List.getElem_cons_drop, List.take_append_drop]
  rw [h2, ← List.append_assoc, ← List.append_assoc] at hn
  refine Bool.eq_false_iff.2 fun hc => ?_
  have hm := List.contains_iff_mem.1 hc
  have h3 := (List.nodup_append.1 (List.nodup_append.1 hn).1).2.2
  exact h3 _ hm _ List.mem_cons_self rfl
/-- The size of what is bound. -/
theorem keysE_le (full : List NodeE) (k : Nat) : (keysE full k).length ≤ (full.flatMap fun x => bindE x.e).length := by
  have : full = full.take k ++ full.drop k := (List.take_append_drop k full).symm
  conv => rhs; rw [this, List.flatMap_append, List.length_append]
  exact Nat.le_add_right _ _
def GoI (B : Nat) (root : ET) (full : List NodeE) (w : World) (k : Nat) (W : World) : Prop :=
  W.heap[B + 1]? = some (.cells #[.bool false] 4 (0, 0)) ∧ W.heap[B + 2]? = some (.cells #[.int .i64 (k : Nat)] 3 (0, 0)) ∧ W.ownsMap Tryz.prog 3 unitElem (B + 3) (keysE full k).length (setD (keysE full k)) ∧
  W.heap[B + 4]? = some (.cells #[.map (some (B + 3))] 50 (0, 0)) ∧ LiesE W (B + 1) root B 0 ∧ Below B w W
theorem GoI.below {B C k : Nat} {root : ET} {full : List NodeE} {w A W : World} (hC : B + 5 ≤ C) (h : GoI B root full w k A) (hb : Below C A W) : GoI B root full w k W :=
  ⟨(hb.block _ (by omega)).trans h.1, (hb.block _ (by omega)).trans h.2.1, ownsMap_of_block h.2.2.1 (hb.block _ (by omega)), (hb.block _ (by omega)).trans h.2.2.2.1,
    h.2.2.2.2.1.keep hb.size (fun i hi => hb.block i (by omega)) _ _ _, h.2.2.2.2.2.trans (hb.mono (by omega))⟩
/-- What Good asks of each expression by itself. -/
def AloneE (B : Nat) (x : NodeE) : Prop := ∀ W, B + 1 ≤ W.heap.size → LiesE W (B + 1) x.e x.b x.o → Calls Tryz.prog 28 #[.agg #[.int .i64 x.e.k, .int .i64 x.e.d.k, .bool x.e.d.g, .slice x.e.d.la x.e.d.ln x.e.d.lc, .bool x.e.d.bb, .string x.e.d.s, .slice x.e.d.ia x.e.d.items.length x.e.d.ic, .slice x.e.d.ta x.e.d.tail.length x.e.d.tc, .int .i64 x.e.v, .slice x.e.va x.e.vs.length x.e.vc, .bool x.e.rs, .int .i64 x.e.p, .slice x.e.ka x.e.kids.length x.e.kc]] W fun e W' => e = .returned (.bool true) ∧ Below W.heap.size W W'
set_option maxRecDepth 100000 in
set_option maxHeartbeats 6400000 in
theorem goodE_in (t : ET) (hs : t.size ≤ 5000) (w : World) (hH : HeldE w w.heap.size t) (hA : ∀ x ∈ seqE t 1 w.heap.size 0, AloneE w.heap.size x) (hn : ((seqE t 1 w.heap.size 0).flatMap fun x => bindE x.e).Nodup) (hl : ((seqE t 1 w.heap.size 0).flatMap fun x => bindE x.e).length ≤ 1000000000)
    (hv : ∀ x ∈ seqE t 1 w.heap.size 0, -9223372036854775808 ≤ x.e.v ∧ x.e.v ≤ 9223372036854775807) :
    CallsIn Fence.wide 5 Tryz.prog 14 #[.agg #[.int .i64 t.k, .int .i64 t.d.k, .bool t.d.g, .slice t.d.la t.d.ln t.d.lc, .bool t.d.bb, .string t.d.s, .slice t.d.ia t.d.items.length t.d.ic, .slice t.d.ta t.d.tail.length t.d.tc, .int .i64 t.v, .slice t.va t.vs.length t.vc, .bool t.rs, .int .i64 t.p, .slice t.ka t.kids.length t.kc]] w fun e w' => e = .returned (.bool true) ∧ Below w.heap.size w w' := by
  obtain ⟨W1, hW1, a0, a1, a2, a3, a4, hz1, hb1⟩ := five8 w (Obj.cells #[.int .i64 t.k, .int .i64 t.d.k, .bool t.d.g, .slice t.d.la t.d.ln t.d.lc, .bool t.d.bb, .string t.d.s, .slice t.d.ia t.d.items.length t.d.ic, .slice t.d.ta t.d.tail.length t.d.tc, .int .i64 t.v, .slice t.va t.vs.length t.vc, .bool t.rs, .int .i64 t.p, .slice t.ka t.kids.length t.kc] 31) (.cells #[.bool false] 4) (.cells #[.int .i64 0] 3) (.map #[] 0) (.cells #[.map (some (w.heap.size + 1 + 1 + 1))] 50)
  obtain ⟨W0, hW0⟩ : ∃ W0, W1.alloc (.cells #[.pointer (some ⟨w.heap.size, 0, none⟩)] 46) = W0 := ⟨_, rfl⟩
  have hz0 : W0.heap.size = w.heap.size + 6 := by rw [← hW0, World.size_alloc, hz1]
  have hb01 : Below (w.heap.size + 5) W1 W0 := by rw [← hW0]; exact (Below.refl _ W1).alloc (by omega) _
  have hb0 : Below w.heap.size w W0 := hb1.trans (hb01.mono (by omega))
  have c5 : W0.heap[w.heap.size + 5]? = some (.cells #[.pointer (some ⟨w.heap.size, 0, none⟩)] 46 (0, 0)) := by rw [← hW0, ← hz1]; exact World.alloc_heap_new _ _
  have c0 := (hb01.block w.heap.size (by omega)).trans a0
  have hL0 : LiesE W0 (w.heap.size + 1) t w.heap.size 0 := hH.boxed (Nat.le_refl _) (Nat.le_refl _) hb0 c0
  have hbd0 : W0.cell? ⟨w.heap.size + 5, 0, none⟩ = some (.pointer (some ⟨w.heap.size, 0, none⟩)) := by rw [Lib.cell_of_heap c5]; rfl
  obtain ⟨full, hfull⟩ : ∃ full, full = seqE t 1 w.heap.size 0 := ⟨_, rfl⟩
  have hlen : full.length = t.size := by rw [hfull, seqE_length]
  have hlv : ∀ x ∈ full, ∀ (w' : World) (M : Nat), LiesE w' M t w.heap.size 0 → LiesE w' M x.e x.b x.o := fun x hx => (levE t.size t (Nat.le_refl _) 1 w.heap.size 0 x (hfull ▸ hx)).2.2
  rw [← hfull] at hA hn hl hv
  have hI0 : GoI w.heap.size t full w 0 W0 := ⟨(hb01.block _ (by omega)).trans a1, (hb01.block _ (by omega)).trans a2, ⟨#[], 0, (hb01.block _ (by omega)).trans a3, ⟨by simp, Go.MapKept.stamped_empty 0, by simp⟩, Nat.zero_le _, rfl⟩, (hb01.block _ (by omega)).trans a4, hL0, hb0⟩
  have hruns := toldE_runs 4 (w.heap.size + 5) (w.heap.size + 1) w.heap.size 0 t (fun r => (r = w.heap.size + 1 ∨ r = w.heap.size + 1 + 1 ∨ r = w.heap.size + 1 + 1 + 1) ∨ r = W0.heap.size + 1) W0 (fun r hr => by rcases hr with (rfl | rfl | rfl) | rfl <;> omega) hbd0 (by omega) hL0 (by omega)
  rw [← hfull] at hruns
  have HF := Lib.hid (And.intro hA (And.intro hn (And.intro hl (And.intro hv hlv))))
  have HW := Lib.hid (And.intro (show ((((((w.alloc (Obj.cells #[.int .i64 t.k, .int .i64 t.d.k, .bool t.d.g, .slice t.d.la t.d.ln t.d.lc, .bool t.d.bb, .string t.d.s, .slice t.d.ia t.d.items.length t.d.ic, .slice t.d.ta t.d.tail.length t.d.tc, .int .i64 t.v, .slice t.va t.vs.length t.vc, .bool t.rs, .int .i64 t.p, .slice t.ka t.kids.length t.kc] 31)).alloc (.cells #[.bool false] 4)).alloc (.cells #[.int .i64 0] 3)).alloc (.map #[] 0)).alloc (.cells #[.map (some (w.heap.size + 1 + 1 + 1))] 50)).alloc (.cells #[.pointer (some ⟨w.heap.size, 0, none⟩)] 46)) = W0 by rw [← hW1]; exact hW0) (And.intro hruns hI0))
  clear hA hn hl hv hlv hH hfull hW1 hW0 a0 a1 a2 a3 a4 hz1 hb1 hb01 hb0 c5 c0 hL0 hbd0 hruns hI0
  have hmm := @run_makeMap Tryz.prog
  refine callsIn_of_wp_marks Tryz.func14 rfl trivial ?_ rfl
  simp only [Tryz.ntmps14, List.size_toArray, List.length_cons, List.length_nil, Nat.reduceAdd, Nat.reduceSub, Array.replicate_succ, Array.replicate_zero, List.push_toArray, List.append_toArray, List.nil_append, List.cons_append]
  gi_wp2_with (refine ⟨trivial, ?_⟩; gi_at_call 27; refine (callsIn_wide.2 (toldE_any _ _)).mono ?_; rintro e w' ⟨rfl, rfl⟩)
  rw [HW.out.1]
  refine wpIn_runs (X := fun r => r = w.heap.size + 1 ∨ r = w.heap.size + 1 + 1 ∨ r = w.heap.size + 1 + 1 + 1) (w0 := W0) rfl (by decide) (gf := 47) (lb := #[.pointer (some ⟨w.heap.size + 5, 0, none⟩)]) rfl trivial (enters_of Tryz.func47 (by kernel_rfl) rfl)
    HW.out.2.1 (fun r hr => by omega) (Below.refl _ _) (fun k => rfl) (fun k W => GoI w.heap.size t full w k W) (fun _ _ _ => False)
    (fun k A B hAB h => h.below (by omega) hAB) (fun _ _ _ _ _ h => h) HW.out.2.2
    (fun k => { tmps := #[.agg #[.int .i64 t.k, .int .i64 t.d.k, .bool t.d.g, .slice t.d.la t.d.ln t.d.lc, .bool t.d.bb, .string t.d.s, .slice t.d.ia t.d.items.length t.d.ic, .slice t.d.ta t.d.tail.length t.d.tc, .int .i64 t.v, .slice t.va t.vs.length t.vc, .bool t.rs, .int .i64 t.p, .slice t.ka t.kids.length t.kc], .pointer (some ⟨w.heap.size, 0, none⟩), .pointer (some ⟨w.heap.size + 1, 0, none⟩), .pointer (some ⟨w.heap.size + 1 + 1, 0, none⟩), .pointer (some ⟨w.heap.size + 1 + 1 + 1 + 1, 0, none⟩), undef, .pointer (some ⟨(ndE full k).b, (ndE full k).o, none⟩), undef, undef, undef, undef, undef, undef,
      .map (some (w.heap.size + 1 + 1 + 1)), .func (.func 47) #[] #[.pointer (some ⟨w.heap.size + 1 + 1 + 1 + 1 + 1, 0, none⟩)], .int .i64 ((ndE full k).lev : Nat), .pointer (some ⟨(ndE full k).b, (ndE full k).o, none⟩),
      undef, undef, undef, undef, undef, undef, undef, undef, undef, undef, undef, undef, undef, undef, undef, undef, undef, undef, undef, undef, undef, undef, undef, undef, undef, undef, undef, undef, undef, undef, undef, undef, undef], defers := [] })
    ?assign ?body ?done ?stop
  case assign =>
    intro l k W K _ hK
    simp only [toldE]
    gi_wp2
    exact hK
  case body =>
    rintro l k W hkN hI
    obtain ⟨⟨lv, xb, xo, x⟩, hat⟩ : ∃ x, full[k]? = some x := ⟨full[k], List.getElem?_eq_getElem hkN⟩
    have hmem := List.mem_of_getElem? hat
    have hx := HF.out.2.2.2.2 _ hmem W (w.heap.size + 1) hI.2.2.2.2.1
    simp only at hx
    have hax := HF.out.1 _ hmem
    have hvx := HF.out.2.2.2.1 _ hmem
    simp only at hvx
    have hz := hI.2.2.2.2.2.size
    have hz4 := (Array.getElem?_eq_some_iff.1 hI.2.2.2.1).1
    obtain ⟨hxb, hcell, hheld⟩ := liesE_held.1 hx
    have p0 := Lib.cell_of_heap hI.2.1 0
    have pf := Lib.frozen_of_heap hI.2.1 0
    simp only [List.getElem?_toArray, List.getElem?_cons_zero] at p0
    simp only [ndE_eq hat]
    have hk5 : k + 1 ≤ 5000 := by omega
    have q1 : decide (5000 < (k : Int) + 1) = false := decide_eq_false (by omega)
    obtain ⟨W1, hW1⟩ : ∃ W1, W.setCell ⟨w.heap.size + 1 + 1, 0, none⟩ (.int .i64 ((k : Int) + 1)) = W1 := ⟨_, rfl⟩
    have hX1 : But (fun r => r = w.heap.size + 1 ∨ r = w.heap.size + 1 + 1 ∨ r = w.heap.size + 1 + 1 + 1) W W1 := hW1 ▸ But.setCell _ _ _ _ (.inr (.inl rfl))
    have hh1 : ∀ q, q ≠ w.heap.size + 1 + 1 → W1.heap[q]? = W.heap[q]? := fun q hq => hW1 ▸ Below.heap_setCell _ _ _ _ hq
    have hc1 : W1.heap[w.heap.size + 2]? = some (.cells #[.int .i64 ((k + 1 : Nat) : Int)] 3 (0, 0)) := by
      rw [← hW1]
      simp [World.setCell, Array.getElem?_modify, hI.2.1]
    have hs1 : W1.heap.size = W.heap.size := by rw [← hW1]; exact setCell_size _ _ _
    have hb1 : Below w.heap.size w W1 := hW1 ▸ hI.2.2.2.2.2.setCell (p := ⟨w.heap.size + 1 + 1, 0, none⟩) (by show w.heap.size ≤ w.heap.size + 1 + 1; omega) _
    have hr1 := (hh1 (w.heap.size + 1) (by omega)).trans hI.1
    have hm1 := ownsMap_of_block hI.2.2.1 (hh1 (w.heap.size + 3) (by omega))
    have hv1 := (hh1 (w.heap.size + 4) (by omega)).trans hI.2.2.2.1
    have hl1 : LiesE W1 (w.heap.size + 1) t w.heap.size 0 := hI.2.2.2.2.1.keep (by omega) (fun q hq => hh1 q (by omega)) _ _ _
    have hx1 : LiesE W1 (w.heap.size + 1) x xb xo := hx.keep (by omega) (fun q hq => hh1 q (by omega)) _ _ _
    have d0 : W.cell? ⟨xb, xo, none⟩ = some (.int .i64 x.k) := hcell 0 _ rfl
    have d1 : W.cell? ⟨xb, xo + 1, none⟩ = some (.int .i64 x.d.k) := hcell 1 _ rfl
    have d2 : W.cell? ⟨xb, xo + 2, none⟩ = some (.bool x.d.g) := hcell 2 _ rfl
    have d3 : W.cell? ⟨xb, xo + 3, none⟩ = some (.slice x.d.la x.d.ln x.d.lc) := hcell 3 _ rfl
    have d4 : W.cell? ⟨xb, xo + 4, none⟩ = some (.bool x.d.bb) := hcell 4 _ rfl
    have d5 : W.cell? ⟨xb, xo + 5, none⟩ = some (.string x.d.s) := hcell 5 _ rfl
    have d6 : W.cell? ⟨xb, xo + 6, none⟩ = some (.slice x.d.ia x.d.items.length x.d.ic) := hcell 6 _ rfl
    have d7 : W.cell? ⟨xb, xo + 7, none⟩ = some (.slice x.d.ta x.d.tail.length x.d.tc) := hcell 7 _ rfl
    have d8 : W.cell? ⟨xb, xo + 8, none⟩ = some (.int .i64 x.v) := hcell 8 _ rfl
    have d9 : W.cell? ⟨xb, xo + 9, none⟩ = some (.slice x.va x.vs.length x.vc) := hcell 9 _ rfl
    have d10 : W.cell? ⟨xb, xo + 10, none⟩ = some (.bool x.rs) := hcell 10 _ rfl
    have d11 : W.cell? ⟨xb, xo + 11, none⟩ = some (.int .i64 x.p) := hcell 11 _ rfl
    have d12 : W.cell? ⟨xb, xo + 12, none⟩ = some (.slice x.ka x.kids.length x.kc) := hcell 12 _ rfl
    have hd1 := hax W1 (by omega) hx1
    simp only at hd1
    have HI := Lib.hid (And.intro hX1 (And.intro hc1 (And.intro hb1 (And.intro hr1 (And.intro hm1 (And.intro hv1 (And.intro hl1 (And.intro hx1 (And.intro hd1 (And.intro hs1 hat))))))))))
    have HW1 := Lib.hid hW1
    clear hI hmem hx hax hcell hheld hat hX1 hh1 hc1 hb1 hr1 hm1 hv1 hl1 hx1 hd1 hW1
    gi_wp2
    refine ⟨trivial, ?_⟩
    rw [HW1.out]
    obtain ⟨hX1, hc1, hb1, hr1, hm1, hv1, hl1, hx1, hd1, hs1, hat⟩ := HI.out
    refine ((callsIn_wide.2 hd1).inRound l).mono ?_
    rintro e W2 ⟨rfl, b2⟩
    have hz2 := b2.size
    have hx2 : LiesE W2 (w.heap.size + 1) x xb xo := hx1.keep b2.size (fun q hq => b2.block q (by omega)) _ _ _
    have hbi := binds_any (w.heap.size + 1) xb xo x W2 (by omega) (liesE_held.1 hx2).2.1 (liesE_held.1 hx2).2.2.1.2 hvx
    have H2 := Lib.hid (And.intro (hX1.below b2 (by omega)) (And.intro ((b2.block _ (by omega)).trans hc1) (And.intro (hb1.trans (b2.mono (by omega))) (And.intro ((b2.block _ (by omega)).trans hr1) (And.intro (ownsMap_of_block hm1 (b2.block _ (by omega))) (And.intro ((b2.block _ (by omega)).trans hv1) (And.intro (hl1.keep b2.size (fun q hq => b2.block q (by omega)) t w.heap.size 0) (And.intro hat hbi))))))))
    clear hX1 hc1 hb1 hr1 hm1 hv1 hl1 hx1 hd1 hat HI HW1 d0 d1 d2 d3 d4 d5 d6 d7 d8 d9 d10 d11 d12 p0 pf q1 hbi hx2 b2
    gi_wp2
    refine ⟨trivial, ?_⟩
    refine ((callsIn_wide.2 H2.out.2.2.2.2.2.2.2.2).inRound l).mono ?_
    rintro e W3 hbp
    obtain ⟨va, vc, rfl, hml, hva, hvs, b3⟩ := binds_use hbp (by omega)
    obtain ⟨hX2, hc2, hb2, hr2, hm2, hv2, hl2, hat, -⟩ := H2.out
    have hz3 := b3.size
    have hX3 := hX2.below b3 (by omega)
    have hm3 := ownsMap_of_block hm2 (b3.block (w.heap.size + 3) (by omega))
    have hv3 := (b3.block (w.heap.size + 4) (by omega)).trans hv2
    have hb3 := hb2.trans (b3.mono (by omega))
    have hks := keysE_succ hat
    have hkl := keysE_le full (k + 1)
    have hpart := fun j (hj : j < (bindE x).length) => keysE_part hat hj HF.out.2.1
    simp only at hks hpart
    have hlen2 := congrArg List.length hks
    rw [List.length_append] at hlen2
    have hnl := HF.out.2.2.1
    generalize bindE x = vs at hml hva hvs hks hpart hlen2
    have H3 := Lib.hid (And.intro hX3 (And.intro ((b3.block (w.heap.size + 2) (by omega)).trans hc2) (And.intro ((b3.block (w.heap.size + 1) (by omega)).trans hr2) (And.intro hv3 (And.intro (hl2.keep b3.size (fun q hq => b3.block q (by omega)) t w.heap.size 0) (And.intro hks (And.intro hpart (And.intro hvs hva))))))))
    have HM3 := Lib.hid (And.intro hm3 hb3)
    clear hX2 hc2 hb2 hr2 hm2 hv2 hl2 hat H2 b3 hX3 hv3 hb3 hks hpart hvs hva hm3 hbp hvx
    gi_wp2
    gi_loopw [35] (fun i wr => ∃ j : Nat, j ≤ vs.length ∧ i = .int .i64 j ∧ wr.ownsMap Tryz.prog 3 unitElem (w.heap.size + 3) ((keysE full k).length + j) (setD (keysE full k ++ vs.take j)) ∧ But (fun r => r = w.heap.size + 1 + 1 + 1) W3 wr ∧ Below w.heap.size w wr)
      (fun i _ => vs.length - (intOf i).toNat)
    case atStart => exact ⟨0, Nat.zero_le _, rfl, by simpa using HM3.out.1, But.refl _ _, HM3.out.2⟩
    case round =>
      obtain ⟨j, hj, rfl, hown, hbut, hbel⟩ := hrel
      have hzr := hbut.1
      have hcv : wr.heap[w.heap.size + 4]? = some (.cells #[.map (some (w.heap.size + 1 + 1 + 1))] 50 (0, 0)) := (hbut.2 _ (by omega) (by omega)).trans H3.out.2.2.2.1
      have v0 : wr.cell? ⟨w.heap.size + 1 + 1 + 1 + 1, 0, none⟩ = some (.map (some (w.heap.size + 1 + 1 + 1))) := by rw [Lib.cell_of_heap hcv]; rfl
      by_cases hlt : j < vs.length
      · obtain ⟨hva1, hva2, hva3⟩ := H3.out.2.2.2.2.2.2.2.2 (by omega)
        have hcx := H3.out.2.2.2.2.2.2.2.1 j hlt
        have hpj := H3.out.2.2.2.2.2.2.1 j hlt
        obtain ⟨z, hze⟩ : ∃ z, vs[j] = z := ⟨_, rfl⟩
        rw [hze] at hcx hpj
        obtain ⟨bb, off, hvq⟩ : ∃ b off, va = some ⟨b, off, none⟩ := ⟨_, _, hva1⟩
        subst hvq
        have hcz : wr.cell? ⟨bb, off + j, none⟩ = some (.int .i64 z) := (World.cell?_of_block (w := W3) (a := ⟨bb, off + j, none⟩) (hbut.2 bb hva2 (by simp only [blk] at hva3; omega))).trans hcx.1
        have hkey : keyOf Tryz.prog 3 (.int .i64 z) = some (.int .i64 z) := keyOf_int_mk Tryz.underlying3 (WalkArith.wf_i64 (by omega))
        have hhas : Maps.has (setD (keysE full k ++ vs.take j)) (.int .i64 z) = false := by rw [setD_has]; exact hpj
        have q : decide ((j : Int) < (vs.length : Int)) = true := decide_eq_true (by omega)
        have HJ := Lib.hid (And.intro hbut (And.intro hbel (And.intro hze hcv)))
        have hbd4 : w.heap.size + 1 + 1 + 1 + 1 < wr.heap.size := (Array.getElem?_eq_some_iff.1 hcv).1
        clear hbut hbel hva1 hva2 hva3 hcx hpj hze hcv
        gi_wp2_with (first
          | (gi_at_lookup; refine wpListIn_lookup_own_unit _ rfl _ _ 50 rfl 3 56 keyI Tryz.underlying50 (zeroU _) (w.heap.size + 3) _ _ rfl hown _ _ rfl hkey ?_)
          | (gi_at_mapUpdate; refine wpListIn_mapUpdate_own _ rfl _ _ _ 50 rfl 3 56 keyI Tryz.underlying50 (unitElem (H := Unit)) (w.heap.size + 3) _ _ rfl (hown.alloc _) (by unfold maxLen; omega) _ _ _ rfl rfl hkey _ [] unitElem_mk ?_; intro w1 hown1 hgrow1))
        obtain ⟨hbut, hbel, hze, hcv⟩ := HJ.out
        have hsa : (wr.alloc (Obj.cells #[] 56)).heap.size = wr.heap.size + 1 := World.size_alloc ..
        have hgs := hgrow1.size
        refine ⟨⟨j + 1, by omega, by go_num, ?_, ⟨by omega, fun q hq hx => ?_⟩, (hbel.alloc hbel.size _).grown hgrow1 (by omega) (fun q hq => by cases hq; omega)⟩, by simp [intOf]; omega⟩
        · rw [List.take_add_one, List.getElem?_eq_getElem hlt, hze, Option.toList_some, ← List.append_assoc, ← setD_snoc]
          exact hown1
        · have h1 := hbut.1
          exact (hgrow1.block q (by omega) (fun e => hx (by injection e))).trans ((Below.heap_alloc wr _ q (by omega)).trans (hbut.2 q hq hx))
      · obtain rfl : j = vs.length := by omega
        have q : decide ((vs.length : Int) < (vs.length : Int)) = false := decide_eq_false (by omega)
        have HJ := Lib.hid (And.intro hbut (And.intro hbel hown))
        gi_wp2
        obtain ⟨hbut, hbel, hown⟩ := HJ.out
        obtain ⟨hX3, hc3, hr3, hv3, hl3, hks, -, -, -⟩ := H3.out
        have hwz := hbut.1
        refine ⟨hX3.trans (hbut.mono fun _ h => .inr (.inr h)), (hbut.2 _ (by omega) (by omega)).trans hr3, (hbut.2 _ (by omega) (by omega)).trans hc3, ?_, (hbut.2 _ (by omega) (by omega)).trans hv3, hl3.keep hbut.1 (fun q hq => hbut.2 q (by omega) (by omega)) t w.heap.size 0, hbel⟩
        rw [hlen2, hks]
        rw [List.take_length] at hown
        exact hown
  case done =>
    rintro D W hD hI hK
    have s0 := Lib.cell_of_heap hI.1 0
    have sf := Lib.frozen_of_heap hI.1 0
    simp only [List.getElem?_toArray, List.getElem?_cons_zero] at s0
    have hbw := Lib.hid hI.2.2.2.2.2
    have HKD := Lib.hid hK
    clear hI hK
    gi_wp2
    have g0 : (W.setCell ⟨w.heap.size + 1, 0, none⟩ (.bool true)).cell? ⟨w.heap.size + 1, 0, none⟩ = some (.bool true) := set_here s0
    generalize hV : W.setCell ⟨w.heap.size + 1, 0, none⟩ (.bool true) = V at g0 ⊢
    have hVD : V.heap[D]? = some (.deferred (some [])) := by
      rw [← hV]
      exact (KeepsOthers.setCell _ _ _).same D _ HKD.out rfl
    have hVb : Below w.heap.size w V := by
      rw [← hV]
      exact hbw.out.setCell (p := ⟨w.heap.size + 1, 0, none⟩) (by show w.heap.size ≤ w.heap.size + 1; omega) _
    have k0 : (V.putObj D (.deferred none)).cell? ⟨w.heap.size + 1, 0, none⟩ = some (.bool true) := (World.cell?_of_block (World.putObj_heap_other (by show w.heap.size + 1 ≠ D; omega))).trans g0
    refine ⟨by simp, .inl ⟨_, _, rfl, run_takeDeferred hVD, ?_⟩⟩
    exact ⟨.bool true, by simp [results, Tryz.results14, k0, go_sem], rfl, hVb.trans ⟨rfl, rfl, rfl, by simp, fun k hk => World.putObj_heap_other (by omega)⟩⟩
  case stop => exact fun _ _ _ _ _ _ h => h.elim
theorem goodE_any (t : ET) (hs : t.size ≤ 5000) (w : World) (hH : HeldE w w.heap.size t) (hA : ∀ x ∈ seqE t 1 w.heap.size 0, AloneE w.heap.size x) (hn : ((seqE t 1 w.heap.size 0).flatMap fun x => bindE x.e).Nodup) (hl : ((seqE t 1 w.heap.size 0).flatMap fun x => bindE x.e).length ≤ 1000000000)
    (hv : ∀ x ∈ seqE t 1 w.heap.size 0, -9223372036854775808 ≤ x.e.v ∧ x.e.v ≤ 9223372036854775807) :
    Calls Tryz.prog 14 #[.agg #[.int .i64 t.k, .int .i64 t.d.k, .bool t.d.g, .slice t.d.la t.d.ln t.d.lc, .bool t.d.bb, .string t.d.s, .slice t.d.ia t.d.items.length t.d.ic, .slice t.d.ta t.d.tail.length t.d.tc, .int .i64 t.v, .slice t.va t.vs.length t.vc, .bool t.rs, .int .i64 t.p, .slice t.ka t.kids.length t.kc]] w fun e w' => e = .returned (.bool true) ∧ Below w.heap.size w w' := callsIn_wide.1 (goodE_in t hs w hH hA hn hl hv)
end Go.Proofs.YthdhdmmlmbkalaaGreatDoor
