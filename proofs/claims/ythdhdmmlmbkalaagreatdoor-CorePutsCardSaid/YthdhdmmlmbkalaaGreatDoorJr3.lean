/-
  datum.told, datum.measure: how many data there are in one, and how deep. datum.Depth, datum.isLookedAt; datum.normal of a symbol or a string. datum.normal of a symbol or a string, datum.normalList of a list of such. datum.normalList of a list of symbols and strings. pavaneref03.All of any tree: the data in the order of Walk, in a list of the call's own.
-/
import Derived.Test.YthdhdmmlmbkalaaGreatDoorJr2
import Derived.Lib.Builder
import Derived.IntWalk
import Derived.OwnWalk
import Derived.Deep.RegionHeld3
import Derived.Deep.RegionLaw
import Derived.Deep.AppendLies
import Derived.LoopN
import Derived.Test.YthdhdmmlmbkalaaGreatDoorJr1
set_option linter.unusedVariables false
set_option linter.unusedSimpArgs false
set_option linter.unusedSectionVars false
set_option linter.unnecessarySimpa false
namespace Go.Proofs.YthdhdmmlmbkalaaGreatDoor
section
open Go.RowKit
attribute [local go_sem] Oper.semAt_some

theorem told_any (p : Option Addr) (w : World) : Calls Tryz.prog 71 #[.pointer p] w fun e w' => e = .returned (.func (.func 88) #[] #[.pointer (some ⟨w.heap.size, 0, none⟩)]) ∧ w' = w.alloc (.cells #[.pointer p] 107) := by
  go_enter Tryz.func71, Tryz.ntmps71
  go_wp2
  go_ret
  exact ⟨rfl, rfl⟩

theorem told_runs (n bd M b o : Nat) (root : LT) (X : Nat → Prop) (w : World) (hX : ∀ r, X r → M ≤ r ∧ r ≠ bd) (hbd : w.cell? ⟨bd, 0, none⟩ = some (.pointer (some ⟨b, o, none⟩))) (hM : M ≤ w.heap.size) (hL : Lies w M root b o) (hN : root.size < 1000000000) :
    Runs Fence.wide n Tryz.prog 88 #[.pointer (some ⟨bd, 0, none⟩)] (toldAt (seqT root 1 b o)) (seqT root 1 b o).length X w := by
  intro l J Jx W hW hXW hJ hJx hY h0
  have hbw : bd < w.heap.size := World.block_lt_of_cell? w _ hbd
  exact told1_in n l bd M (root.size + 1) b o W.heap.size root X J Jx W (Nat.le_trans hM hW.size) (.inl (World.block_lt_of_cell? W _ ((hW.cell (p := ⟨bd, 0, none⟩) hbw).trans hbd))) (fun r hr => ⟨(hX r hr).1, (hX r hr).2, hXW r hr⟩) (fun k A B h => hJ k A B h.toBelow) _ rfl
    (fun k W1 hk hj => by
      obtain ⟨fn, tmps, asg, bo, hy, hR⟩ := hY k W1 hk hj
      exact ⟨fn, tmps, asg, bo, hy, hR.mono fun e W' h => h.imp (fun h => ⟨h.1, h.2.1, h.2.2.1, fun k hk hx => .inl (h.2.2.2 k hk hx)⟩) id⟩) ((hW.cell (p := ⟨bd, 0, none⟩) hbw).trans hbd) (Nat.le_trans hM hW.size)
    (hL.keep hW.size (fun i hi => hW.block i (by omega)) _ _ _) (Nat.le_refl _) (by omega) h0

/-- What measure's blocks hold: what is looked at at most; the results; what has been counted. -/
def MeasI (M b o B md dd : Nat) (root : LT) (full : List Node) (w : World) (k : Nat) (W : World) : Prop :=
  W.heap[B]? = some (.cells #[.int .i64 (md : Nat), .int .i64 (dd : Nat)] 117 (0, 0)) ∧ W.heap[B + 1]? = some (.cells #[.int .i64 0, .int .i64 0] 117 (0, 0)) ∧ W.heap[B + 1 + 1]? = some (.cells #[.bool false] 4 (0, 0)) ∧
  W.heap[B + 1 + 1 + 1]? = some (.cells #[.int .i64 ((1 + sumK (full.take k) : Nat) : Int), .int .i64 ((maxL (full.take k) : Nat) : Int)] 117 (0, 0)) ∧ Lies W M root b o ∧ Below B w W
theorem MeasI.below {M b o B md dd C : Nat} {root : LT} {full : List Node} {w A W : World} {k : Nat} (hM : M ≤ B) (hC : B + 4 ≤ C) (h : MeasI M b o B md dd root full w k A) (hb : Below C A W) : MeasI M b o B md dd root full w k W :=
  ⟨(hb.block _ (by omega)).trans h.1, (hb.block _ (by omega)).trans h.2.1, (hb.block _ (by omega)).trans h.2.2.1, (hb.block _ (by omega)).trans h.2.2.2.1,
    h.2.2.2.2.1.keep hb.size (fun i hi => hb.block i (by omega)) _ _ _, h.2.2.2.2.2.trans (hb.mono (by omega))⟩
theorem take_succ_of {full : List Node} {k : Nat} {x : Node} (h : full[k]? = some x) : full.take (k + 1) = full.take k ++ [x] := by
  rw [List.take_add_one, h]; rfl
theorem sumK_take_le (full : List Node) (k : Nat) : sumK (full.take k) ≤ sumK full := by
  have := sumK_append (full.take k) (full.drop k)
  rw [List.take_append_drop] at this
  omega
theorem maxL_take_le (full : List Node) (k : Nat) : maxL (full.take k) ≤ maxL full := by
  have := maxL_append (full.take k) (full.drop k)
  rw [List.take_append_drop] at this
  omega
theorem five (w : World) (o0 o1 o2 o3 o4 : Obj) : (((((w.alloc o0).alloc o1).alloc o2).alloc o3).alloc o4).heap[w.heap.size]? = some o0 ∧ (((((w.alloc o0).alloc o1).alloc o2).alloc o3).alloc o4).heap[w.heap.size + 1]? = some o1 ∧
    (((((w.alloc o0).alloc o1).alloc o2).alloc o3).alloc o4).heap[w.heap.size + 1 + 1]? = some o2 ∧ (((((w.alloc o0).alloc o1).alloc o2).alloc o3).alloc o4).heap[w.heap.size + 1 + 1 + 1]? = some o3 ∧ (((((w.alloc o0).alloc o1).alloc o2).alloc o3).alloc o4).heap[w.heap.size + 4]? = some o4 := by
  have n0 := World.alloc_heap_new w o0
  have n1 := World.alloc_heap_new (w.alloc o0) o1
  have n2 := World.alloc_heap_new ((w.alloc o0).alloc o1) o2
  have n3 := World.alloc_heap_new (((w.alloc o0).alloc o1).alloc o2) o3
  have n4 := World.alloc_heap_new ((((w.alloc o0).alloc o1).alloc o2).alloc o3) o4
  have s1 : (w.alloc o0).heap.size = w.heap.size + 1 := World.size_alloc ..
  have s2 : ((w.alloc o0).alloc o1).heap.size = w.heap.size + 1 + 1 := by rw [World.size_alloc, s1]
  have s3 : (((w.alloc o0).alloc o1).alloc o2).heap.size = w.heap.size + 1 + 1 + 1 := by rw [World.size_alloc, s2]
  have s4 : ((((w.alloc o0).alloc o1).alloc o2).alloc o3).heap.size = w.heap.size + 1 + 1 + 1 + 1 := by rw [World.size_alloc, s3]
  rw [s1] at n1; rw [s2] at n2; rw [s3] at n3; rw [s4] at n4
  exact ⟨(Below.heap_alloc _ _ _ (by omega)).trans ((Below.heap_alloc _ _ _ (by omega)).trans ((Below.heap_alloc _ _ _ (by omega)).trans ((Below.heap_alloc _ _ _ (by omega)).trans n0))),
    (Below.heap_alloc _ _ _ (by omega)).trans ((Below.heap_alloc _ _ _ (by omega)).trans ((Below.heap_alloc _ _ _ (by omega)).trans n1)), (Below.heap_alloc _ _ _ (by omega)).trans ((Below.heap_alloc _ _ _ (by omega)).trans n2), (Below.heap_alloc _ _ _ (by omega)).trans n3, n4⟩
/-- Two cells of a block. -/
theorem two_cells {w : World} {B : Nat} {x y : Value} {t : TypeId} (h : w.heap[B]? = some (.cells #[x, y] t (0, 0))) : w.cell? ⟨B, 0, none⟩ = some x ∧ w.cell? ⟨B, 1, none⟩ = some y ∧ ∀ j, w.frozen? ⟨B, j, none⟩ = false := by
  refine ⟨by simp [World.cell?, h], by simp [World.cell?, h], fun j => by simp [World.frozen?, h]⟩
theorem two_set {w : World} {B : Nat} {x y u v : Value} {t : TypeId} (h : w.heap[B]? = some (.cells #[x, y] t (0, 0))) : ((w.setCell ⟨B, 1, none⟩ v).setCell ⟨B, 0, none⟩ u).heap[B]? = some (.cells #[u, v] t (0, 0)) := by
  simp [World.setCell, Array.getElem?_modify, h]

theorem MeasI.step {M b o B md dd k S D c : Nat} {root : LT} {full : List Node} {w W : World} (hM : M ≤ B) (h : MeasI M b o B md dd root full w k W) (hs : sumK (full.take (k + 1)) = S + c) (hd : maxL (full.take (k + 1)) = D) (z : Int) (hz : z = ((1 + (S + c) : Nat) : Int)) :
    But (fun r => r = B + 1 + 1 + 1) W ((W.setCell ⟨B + 1 + 1 + 1, 1, none⟩ (.int .i64 (D : Nat))).setCell ⟨B + 1 + 1 + 1, 0, none⟩ (.int .i64 z)).drew ∧ MeasI M b o B md dd root full w (k + 1) ((W.setCell ⟨B + 1 + 1 + 1, 1, none⟩ (.int .i64 (D : Nat))).setCell ⟨B + 1 + 1 + 1, 0, none⟩ (.int .i64 z)).drew := by
  subst hz
  have hbut : But (fun r => r = B + 1 + 1 + 1) W ((W.setCell ⟨B + 1 + 1 + 1, 1, none⟩ (.int .i64 (D : Nat))).setCell ⟨B + 1 + 1 + 1, 0, none⟩ (.int .i64 ((1 + (S + c) : Nat) : Int))).drew :=
    ((But.setCell (fun r => r = B + 1 + 1 + 1) W ⟨B + 1 + 1 + 1, 1, none⟩ _ rfl).trans (But.setCell (fun r => r = B + 1 + 1 + 1) _ ⟨B + 1 + 1 + 1, 0, none⟩ _ rfl)).drew
  have hlt : B + 1 + 1 + 1 < W.heap.size := (Array.getElem?_eq_some_iff.1 h.2.2.2.1).1
  refine ⟨hbut, (hbut.2 _ (by omega) (by omega)).trans h.1, (hbut.2 _ (by omega) (by omega)).trans h.2.1, (hbut.2 _ (by omega) (by omega)).trans h.2.2.1, ?_, h.2.2.2.2.1.keep hbut.1 (fun i hi => hbut.2 i (by omega) (by omega)) _ _ _, ?_⟩
  · rw [hs, hd]
    exact two_set h.2.2.2.1
  · exact h.2.2.2.2.2.trans ((((Below.refl B W).setCell (p := ⟨B + 1 + 1 + 1, 1, none⟩) (by show B ≤ B + 1 + 1 + 1; omega) _).setCell (p := ⟨B + 1 + 1 + 1, 0, none⟩) (by show B ≤ B + 1 + 1 + 1; omega) _).drew)

set_option maxRecDepth 100000 in
set_option maxHeartbeats 3200000 in
theorem measure_in (M b o md dd : Nat) (root : LT) (w : World) (hM : M ≤ w.heap.size) (hL : Lies w M root b o) (hN : root.size < 1000000000) (h1 : root.size ≤ md) (h2 : root.depth ≤ dd) :
    CallsIn Fence.wide 5 Tryz.prog 84 #[.pointer (some ⟨b, o, none⟩), .agg #[.int .i64 md, .int .i64 dd]] w fun e w' => e = .returned (.tuple #[.agg #[.int .i64 root.size, .int .i64 root.depth], .bool true]) ∧ Below w.heap.size w w' := by
  have hbl : Below w.heap.size w (((((w.alloc (Obj.cells #[Value.int IntKind.i64 md, Value.int IntKind.i64 dd] 117)).alloc (Obj.cells #[Value.int IntKind.i64 0, Value.int IntKind.i64 0] 117)).alloc (Obj.cells #[Value.bool false] 4)).alloc (Obj.cells #[Value.int IntKind.i64 1, Value.int IntKind.i64 0] 117)).alloc (.cells #[.pointer (some ⟨b, o, none⟩)] 107)) :=
    (((((Below.refl _ w).alloc (Nat.le_refl _) _).alloc (by simp) _).alloc (by simp; omega) _).alloc (by simp; omega) _).alloc (by simp; omega) _
  obtain ⟨full, hfull⟩ : ∃ full, full = seqT root 1 b o := ⟨_, rfl⟩
  have hs0 := seqT_sum root 1 b o
  have hm0 := seqT_max root 1 b o
  have hl0 : ∀ W, Lies W M root b o → ∀ x ∈ full, Lies W M x.t x.b x.o ∧ 1 ≤ x.lev ∧ x.lev + x.t.size ≤ 1 + root.size := fun W h => hfull ▸ seqT_lies root 1 b o h
  rw [← hfull] at hs0 hm0
  have HF := Lib.hid (And.intro hfull (And.intro hl0 (And.intro hs0 hm0)))
  clear hfull hl0 hs0 hm0
  refine callsIn_of_wp_marks Tryz.func84 rfl trivial ?_ rfl
  simp only [Tryz.ntmps84, List.size_toArray, List.length_cons, List.length_nil, Nat.reduceAdd, Nat.reduceSub, Array.replicate_succ, Array.replicate_zero, List.push_toArray, List.append_toArray, List.nil_append, List.cons_append]
  gi_wp2_with (refine ⟨trivial, ?_⟩; gi_at_call 71; refine (callsIn_wide.2 (told_any _ _)).mono ?_; rintro e w' ⟨rfl, rfl⟩)
  have hI0 : MeasI M b o w.heap.size md dd root full w 0 (((((w.alloc (Obj.cells #[Value.int IntKind.i64 md, Value.int IntKind.i64 dd] 117)).alloc (Obj.cells #[Value.int IntKind.i64 0, Value.int IntKind.i64 0] 117)).alloc (Obj.cells #[Value.bool false] 4)).alloc (Obj.cells #[Value.int IntKind.i64 1, Value.int IntKind.i64 0] 117)).alloc (.cells #[.pointer (some ⟨b, o, none⟩)] 107)) := by
    refine ⟨?_, ?_, ?_, ?_, hL.keep hbl.size (fun i hi => hbl.block i (by omega)) _ _ _, hbl⟩
    · exact (five _ _ _ _ _ _).1
    · exact (five _ _ _ _ _ _).2.1
    · exact (five _ _ _ _ _ _).2.2.1
    · exact (five _ _ _ _ _ _).2.2.2.1
  have hbd0 : (((((w.alloc (Obj.cells #[Value.int IntKind.i64 md, Value.int IntKind.i64 dd] 117)).alloc (Obj.cells #[Value.int IntKind.i64 0, Value.int IntKind.i64 0] 117)).alloc (Obj.cells #[Value.bool false] 4)).alloc (Obj.cells #[Value.int IntKind.i64 1, Value.int IntKind.i64 0] 117)).alloc (.cells #[.pointer (some ⟨b, o, none⟩)] 107)).cell? ⟨w.heap.size + 4, 0, none⟩ = some (.pointer (some ⟨b, o, none⟩)) := by
    exact Lib.cell_of_heap (five _ _ _ _ _ _).2.2.2.2 0
  generalize hW0 : (((((w.alloc (Obj.cells #[Value.int IntKind.i64 md, Value.int IntKind.i64 dd] 117)).alloc (Obj.cells #[Value.int IntKind.i64 0, Value.int IntKind.i64 0] 117)).alloc (Obj.cells #[Value.bool false] 4)).alloc (Obj.cells #[Value.int IntKind.i64 1, Value.int IntKind.i64 0] 117)).alloc (.cells #[.pointer (some ⟨b, o, none⟩)] 107)) = W0 at *
  have hz0 : W0.heap.size = w.heap.size + 5 := by rw [← hW0]; simp
  have hL0 := hI0.2.2.2.2.1
  clear hW0
  have hruns := told_runs 4 (w.heap.size + 4) M b o root (fun r => r = w.heap.size + 1 + 1 + 1 ∨ r = W0.heap.size + 1) W0 (fun r hr => by rcases hr with rfl | rfl <;> omega) hbd0 (by omega) hL0 hN
  rw [← HF.out.1] at hruns
  refine wpIn_runs (X := fun r => r = w.heap.size + 1 + 1 + 1) (w0 := W0) rfl (by decide) (gf := 88) (lb := #[.pointer (some ⟨w.heap.size + 4, 0, none⟩)]) rfl trivial (enters_of Tryz.func88 (by kernel_rfl) rfl)
    hruns (fun r hr => by omega) (Below.refl _ _) (fun k => rfl) (fun k W => MeasI M b o w.heap.size md dd root full w k W) (fun _ _ _ => False)
    (fun k A B hAB h => h.below hM (by omega) hAB) (fun _ _ _ _ _ h => h) hI0
    (fun k => { tmps := #[.pointer (some ⟨b, o, none⟩), .agg #[.int .i64 md, .int .i64 dd], undef, .pointer (some ⟨w.heap.size, 0, none⟩), .pointer (some ⟨w.heap.size + 1, 0, none⟩), .pointer (some ⟨w.heap.size + 1 + 1, 0, none⟩), .pointer (some ⟨w.heap.size + 1 + 1 + 1, 0, none⟩),
      .int .i64 ((nd full k).lev : Nat), .pointer (some ⟨(nd full k).b, (nd full k).o, none⟩), .agg #[.int .i64 1, .int .i64 0], .pointer (some ⟨b, o, none⟩), .func (.func 88) #[] #[.pointer (some ⟨w.heap.size + 4, 0, none⟩)],
      .int .i64 ((nd full k).lev : Nat), .pointer (some ⟨(nd full k).b, (nd full k).o, none⟩), undef, undef, undef, undef, undef, undef, undef, undef, undef, undef, undef, undef, undef, undef, undef, undef, undef, undef, undef, undef, undef, undef, undef, undef, undef, undef, undef, undef, undef, undef, undef, undef, undef, undef], defers := [] })
    ?assign ?body ?done ?stop
  case assign =>
    intro l k W K _ hK
    simp only [toldAt]
    gi_wp2
    exact hK
  case body =>
    rintro l k W hkN hI
    obtain ⟨⟨lv, xb, xo, t⟩, hat⟩ : ∃ x, full[k]? = some x := ⟨full[k], List.getElem?_eq_getElem hkN⟩
    have hnode := HF.out.2.1 W hI.2.2.2.2.1 _ (List.mem_of_getElem? hat)
    obtain ⟨_, hcell, _, h4, h5, _, _⟩ := lies_eq.1 hnode.1
    have c5 : W.cell? ⟨xb, xo + 5, none⟩ = some (.slice t.ia t.items.length t.ic) := hcell 5 _ rfl
    have c6 : W.cell? ⟨xb, xo + 6, none⟩ = some (.slice t.ta t.tail.length t.tc) := hcell 6 _ rfl
    have hxb : xb < M := (lies_eq.1 hnode.1).1
    have hmix : Tryz.prog.follows .mixedOrders = true := by kernel_rfl
    have hsum : sumK (full.take (k + 1)) = sumK (full.take k) + (t.items.length + t.tail.length) := by rw [take_succ_of hat, sumK_append]; rfl
    have hmax : maxL (full.take (k + 1)) = max (maxL (full.take k)) lv := by rw [take_succ_of hat, maxL_append]; simp [maxL]
    have hsle := sumK_take_le full (k + 1)
    have hmle := maxL_take_le full (k + 1)
    have ht1 := HF.out.2.2.1
    have ht2 := HF.out.2.2.2
    rw [hsum] at hsle
    rw [hmax] at hmle
    obtain ⟨p0, p1, pf⟩ := two_cells hI.1
    obtain ⟨q0, q1, qf⟩ := two_cells hI.2.2.2.1
    have hf0 := qf 0
    have hf1 := qf 1
    have HI := Lib.hid (And.intro hI (And.intro hsum hmax))
    simp only [nd_eq hat]
    generalize sumK (full.take k) = S at *
    generalize maxL (full.take k) = D at *
    clear hI hsum hmax hcell hnode h4 h5 qf pf hat
    have far : ∀ (v : Value) (j : Nat), (W.setCell ⟨w.heap.size + 1 + 1 + 1, 1, none⟩ v).cell? ⟨xb, j, none⟩ = W.cell? ⟨xb, j, none⟩ := fun v j => World.cell?_of_block (Below.heap_setCell _ _ _ _ (by show xb ≠ w.heap.size + 1 + 1 + 1; omega))
    by_cases hle : lv ≤ D
    · rw [Nat.max_eq_left hle] at hmle HI
      have c5' := (far (.int .i64 (D : Nat)) (xo + 5)).trans c5
      have c6' := (far (.int .i64 (D : Nat)) (xo + 6)).trans c6
      clear far
      have hw1 : IntKind.i64.wrap ((t.items.length : Int) + t.tail.length) = (t.items.length : Int) + t.tail.length := IntWalk.i64_in _ (by omega)
      have hw2 : IntKind.i64.wrap (1 + (S : Int) + ((t.items.length : Int) + t.tail.length)) = 1 + (S : Int) + ((t.items.length : Int) + t.tail.length) := IntWalk.i64_in _ (by omega)
      gi_wp2
      refine region_round_tail 15 hmix (by kernel_rfl) (by kernel_rfl) ?_
      simp only [List.take_succ_cons, List.take_zero, List.drop_succ_cons, List.drop_zero]
      repeat still_step
      try refine wpStill_nil ?_
      clear hw1 hw2
      go_wp2_with fail
      refine ⟨rfl, ?_⟩
      gi_wp2
      exact HI.out.1.step hM HI.out.2.1 HI.out.2.2 _ (by omega)
    · have hlt : D < lv := by omega
      rw [Nat.max_eq_right (Nat.le_of_lt hlt)] at hmle HI
      clear hle
      have c5' := (far (.int .i64 (lv : Nat)) (xo + 5)).trans c5
      have c6' := (far (.int .i64 (lv : Nat)) (xo + 6)).trans c6
      clear far
      have hw1 : IntKind.i64.wrap ((t.items.length : Int) + t.tail.length) = (t.items.length : Int) + t.tail.length := IntWalk.i64_in _ (by omega)
      have hw2 : IntKind.i64.wrap (1 + (S : Int) + ((t.items.length : Int) + t.tail.length)) = 1 + (S : Int) + ((t.items.length : Int) + t.tail.length) := IntWalk.i64_in _ (by omega)
      gi_wp2
      refine region_round_tail 15 hmix (by kernel_rfl) (by kernel_rfl) ?_
      simp only [List.take_succ_cons, List.take_zero, List.drop_succ_cons, List.drop_zero]
      repeat still_step
      try refine wpStill_nil ?_
      clear hw1 hw2
      go_wp2_with fail
      refine ⟨rfl, ?_⟩
      gi_wp2
      exact HI.out.1.step hM HI.out.2.1 HI.out.2.2 _ (by omega)
  case done =>
    rintro D W hD hI hK
    have e1 : 1 + sumK (full.take full.length) = root.size := by rw [List.take_length]; exact HF.out.2.2.1
    have e2 : maxL (full.take full.length) = root.depth := by have := HF.out.2.2.2; rw [List.take_length]; omega
    obtain ⟨q0, q1, _⟩ := two_cells hI.2.2.2.1
    obtain ⟨r0, r1, rf⟩ := two_cells hI.2.1
    have rf0 := rf 0
    have rf1 := rf 1
    have s0 : W.cell? ⟨w.heap.size + 1 + 1, 0, none⟩ = some (.bool false) := by simp [World.cell?, hI.2.2.1]
    have sf : W.frozen? ⟨w.heap.size + 1 + 1, 0, none⟩ = false := by simp [World.frozen?, hI.2.2.1]
    rw [e1] at q0
    rw [e2] at q1
    have hbw := Lib.hid hI.2.2.2.2.2
    have HKD := Lib.hid hK
    clear hI rf hK e1 e2
    gi_wp2
    have g0 : (((W.setCell ⟨w.heap.size + 1, 0, none⟩ (.int .i64 root.size)).setCell ⟨w.heap.size + 1, 1, none⟩ (.int .i64 root.depth)).setCell ⟨w.heap.size + 1 + 1, 0, none⟩ (.bool true)).cell? ⟨w.heap.size + 1, 0, none⟩ = some (.int .i64 root.size) := by go_simp
    have g1 : (((W.setCell ⟨w.heap.size + 1, 0, none⟩ (.int .i64 root.size)).setCell ⟨w.heap.size + 1, 1, none⟩ (.int .i64 root.depth)).setCell ⟨w.heap.size + 1 + 1, 0, none⟩ (.bool true)).cell? ⟨w.heap.size + 1, 1, none⟩ = some (.int .i64 root.depth) := by go_simp
    have g2 : (((W.setCell ⟨w.heap.size + 1, 0, none⟩ (.int .i64 root.size)).setCell ⟨w.heap.size + 1, 1, none⟩ (.int .i64 root.depth)).setCell ⟨w.heap.size + 1 + 1, 0, none⟩ (.bool true)).cell? ⟨w.heap.size + 1 + 1, 0, none⟩ = some (.bool true) := by go_simp
    generalize hV : (((W.setCell ⟨w.heap.size + 1, 0, none⟩ (.int .i64 root.size)).setCell ⟨w.heap.size + 1, 1, none⟩ (.int .i64 root.depth)).setCell ⟨w.heap.size + 1 + 1, 0, none⟩ (.bool true)) = V at g0 g1 g2 ⊢
    have hVD : V.heap[D]? = some (.deferred (some [])) := by
      rw [← hV]
      exact (((KeepsOthers.setCell _ _ _).trans (KeepsOthers.setCell _ _ _)).trans (KeepsOthers.setCell _ _ _)).same D _ HKD.out rfl
    have hVb : Below w.heap.size w V := by
      rw [← hV]
      exact ((hbw.out.setCell (p := ⟨w.heap.size + 1, 0, none⟩) (by show w.heap.size ≤ w.heap.size + 1; omega) _).setCell (p := ⟨w.heap.size + 1, 1, none⟩) (by show w.heap.size ≤ w.heap.size + 1; omega) _).setCell (p := ⟨w.heap.size + 1 + 1, 0, none⟩) (by show w.heap.size ≤ w.heap.size + 1 + 1; omega) _
    have hp : ∀ b j, b ≠ D → (V.putObj D (.deferred none)).cell? ⟨b, j, none⟩ = V.cell? ⟨b, j, none⟩ := fun b j hb => World.cell?_of_block (World.putObj_heap_other hb)
    have k0 := (hp (w.heap.size + 1) 0 (by omega)).trans g0
    have k1 := (hp (w.heap.size + 1) 1 (by omega)).trans g1
    have k2 := (hp (w.heap.size + 1 + 1) 0 (by omega)).trans g2
    refine ⟨by simp, .inl ⟨_, _, rfl, run_takeDeferred hVD, ?_⟩⟩
    refine ⟨.tuple #[.agg #[.int .i64 root.size, .int .i64 root.depth], .bool true], by simp [results, Tryz.results84, k0, k1, k2, go_sem], rfl, hVb.trans ⟨rfl, rfl, rfl, by simp, fun k hk => World.putObj_heap_other (by omega)⟩⟩
  case stop => exact fun _ _ _ _ _ _ h => h.elim

/-- measure, of what is within most. -/
theorem measure_any (M b o md dd : Nat) (root : LT) (w : World) (hM : M ≤ w.heap.size) (hL : Lies w M root b o) (h1 : root.size ≤ md) (h2 : root.depth ≤ dd) (hmd : md < 1000000000) :
    Calls Tryz.prog 84 #[.pointer (some ⟨b, o, none⟩), .agg #[.int .i64 md, .int .i64 dd]] w fun e w' => e = .returned (.tuple #[.agg #[.int .i64 root.size, .int .i64 root.depth], .bool true]) ∧ Below w.heap.size w w' :=
  callsIn_wide.1 (measure_in M b o md dd root w hM hL (by omega) h1 h2)
end
end Go.Proofs.YthdhdmmlmbkalaaGreatDoor
namespace Go.Proofs.YthdhdmmlmbkalaaGreatDoor
section
open Go.RowKit

theorem Spot.mono {M M' : Nat} {a : Option Addr} {n c : Nat} (h : Spot M a n c) (hM : M ≤ M') : Spot M' a n c := ⟨h.1, h.2.1, fun hn => ⟨(h.2.2.1 hn).1, by have := (h.2.2.1 hn).2; omega⟩, h.2.2.2⟩
mutual
theorem Lies.mono {w : World} {M M' : Nat} (hM : M ≤ M') : ∀ (t : LT) (b o : Nat), Lies w M t b o → Lies w M' t b o
  | .mk k g la ln lc ys bb s ia ic items ta tc tail, b, o, h => by
    simp only [Lies] at h ⊢
    obtain ⟨h1, h2, h3, h4, h5, h6, h7⟩ := h
    exact ⟨by omega, h2, ⟨h3.1, fun h => by have := h3.2.1 h; omega, h3.2.2⟩, h4.mono hM, h5.mono hM, LiesR.mono hM items _ _ h6, LiesR.mono hM tail _ _ h7⟩
theorem LiesR.mono {w : World} {M M' : Nat} (hM : M ≤ M') : ∀ (l : List LT) (b o : Nat), LiesR w M l b o → LiesR w M' l b o
  | [], _, _, _ => by simp [LiesR]
  | t :: l, b, o, h => by
    simp only [LiesR] at h ⊢
    exact ⟨Lies.mono hM t b o h.1, LiesR.mono hM l b (o + 7) h.2⟩
end

/-- A datum that is handed on by value: what it leads to lies below M. -/
def DatV (w : World) (M : Nat) (t : LT) : Prop := (Sl w t.la t.ln t.lc t.ys ∧ (0 < t.ln → blk t.la < M) ∧ t.s.size ≤ maxLen) ∧ Spot M t.ia t.items.length t.ic ∧ Spot M t.ta t.tail.length t.tc ∧ LiesR w M t.items (blk t.ia) (ofs t.ia) ∧ LiesR w M t.tail (blk t.ta) (ofs t.ta)
theorem DatV.keep {w w' : World} {M : Nat} {t : LT} (h : DatV w M t) (hs : w.heap.size ≤ w'.heap.size) (hk : ∀ k, k < M → w'.heap[k]? = w.heap[k]?) : DatV w' M t :=
  ⟨⟨h.1.1.keepM hs h.1.2.1 hk, h.1.2⟩, h.2.1, h.2.2.1, LiesR.keep hs hk _ _ _ h.2.2.2.1, LiesR.keep hs hk _ _ _ h.2.2.2.2⟩
theorem DatV.below {w w' : World} {M : Nat} {t : LT} (h : DatV w M t) (hM : M ≤ w.heap.size) (hb : Below w.heap.size w w') : DatV w' M t := h.keep hb.size (fun k hk => hb.block k (by omega))
/-- What boxing does. -/
theorem DatV.boxed {w : World} {M : Nat} {t : LT} (h : DatV w M t) (hM : M ≤ w.heap.size) : Lies (w.alloc (.cells t.cells.toArray 27)) (w.heap.size + 1) t w.heap.size 0 := by
  have hb : Below w.heap.size w (w.alloc (.cells t.cells.toArray 27)) := (Below.refl _ _).alloc (Nat.le_refl _) _
  have hk : ∀ k, k < M → (w.alloc (.cells t.cells.toArray 27)).heap[k]? = w.heap[k]? := fun k hk => hb.block k (by omega)
  obtain ⟨h1, h2, h3, h4, h5⟩ := h.keep hb.size hk
  refine lies_eq.2 ⟨by omega, fun j v hj => ?_, ⟨h1.1, fun h => by have := h1.2.1 h; omega, h1.2.2⟩, h2.mono (by omega), h3.mono (by omega), LiesR.mono (by omega) _ _ _ h4, LiesR.mono (by omega) _ _ _ h5⟩
  rw [Nat.zero_add, Lib.cell_of_heap (World.alloc_heap_new w _)]
  simpa using hj

theorem looked_any (w : World) : Calls Tryz.prog 85 #[] w fun e w' => e = .returned (.agg #[.int .i64 100000, .int .i64 10000]) ∧ Below w.heap.size w w' := by
  go_enter Tryz.func85, Tryz.ntmps85
  go_wp2_with fail
  (try simp only [Exit.inBlock, Exit.then])
  refine bodyPost_ret (v := .agg #[.int .i64 100000, .int .i64 10000]) (by simp [results, Tryz.results85, go_sem]) rfl ⟨rfl, ?_⟩
  repeat (first | exact Below.refl _ _ | refine Below.setCell (hp := by simp) ?_ _ | refine Below.alloc ?_ (by simp) _)

set_option maxRecDepth 100000 in
set_option maxHeartbeats 1600000 in
theorem isLooked_any (t : LT) (M : Nat) (w : World) (h : DatV w M t) (hM : M ≤ w.heap.size) (h1 : t.size ≤ 100000) (h2 : t.depth ≤ 10000) :
    Calls Tryz.prog 69 #[.agg t.cells.toArray] w fun e w' => e = .returned (.bool true) ∧ Below w.heap.size w w' := by
  have hl := h.boxed hM
  have hb0 : Below w.heap.size w (w.alloc (.cells t.cells.toArray 27)) := (Below.refl _ _).alloc (Nat.le_refl _) _
  unfold LT.cells at hl hb0 ⊢
  have HL := Lib.hid hl
  clear h hl
  go_enter Tryz.func69, Tryz.ntmps69
  go_wp2_with fail
  refine (looked_any _).mono ?_
  rintro e w1 ⟨rfl, b1⟩
  have z1 : w.heap.size + 1 ≤ w1.heap.size := by have := b1.size; simp at this; omega
  have HL1 := Lib.hid (HL.out.keep b1.size (fun k hk => b1.block k (by simp; omega)) _ _ _)
  have hb1 := hb0.trans (b1.mono (by simp))
  clear b1 hb0
  go_wp2_with fail
  refine (measure_any (w.heap.size + 1) w.heap.size 0 100000 10000 t _ z1 HL1.out h1 h2 (by omega)).mono ?_
  rintro e w2 ⟨rfl, b2⟩
  have hb2 := hb1.trans (b2.mono (by omega))
  clear hb1 b2
  go_wp2_with fail
  go_ret
  exact ⟨rfl, hb2.alloc hb2.size _⟩
end
end Go.Proofs.YthdhdmmlmbkalaaGreatDoor
namespace Go.Proofs.YthdhdmmlmbkalaaGreatDoor
section
open Go.RowKit

/-- A symbol or a string, as a value and as cells. -/
def leafC (k : Int) (s : ByteArray) : List Value := [.int .i64 k, .bool false, .slice none 0 0, .bool false, .string s, .slice none 0 0, .slice none 0 0]
theorem results_d {fn : Func} {tmps : Array Value} {t : Tmp} {w : World} {b : Nat} {v0 v1 v2 v3 v4 v5 v6 : Value} (h : fn.results = #[.cell t 27]) (ht : tmps.getD t undef = .pointer (some ⟨b, 0, none⟩)) (c0 : w.cell? ⟨b, 0, none⟩ = some v0) (c1 : w.cell? ⟨b, 1, none⟩ = some v1)
    (c2 : w.cell? ⟨b, 2, none⟩ = some v2) (c3 : w.cell? ⟨b, 3, none⟩ = some v3) (c4 : w.cell? ⟨b, 4, none⟩ = some v4) (c5 : w.cell? ⟨b, 5, none⟩ = some v5) (c6 : w.cell? ⟨b, 6, none⟩ = some v6) :
    (results fn tmps).run Tryz.prog w = .ok (.agg #[v0, v1, v2, v3, v4, v5, v6]) w := by
  rw [Array.getD_eq_getD_getElem?] at ht
  simp [results, h, ht, go_sem, c0, c1, c2, c3, c4, c5, c6]

end
end Go.Proofs.YthdhdmmlmbkalaaGreatDoor
namespace Go.Proofs.YthdhdmmlmbkalaaGreatDoor
section
open Go.RowKit

theorem infoD : (Tryz.prog.info? 27).map (fun i => (i.zero, i.size, i.bytes)) = some (some (.agg #[.int .i64 0, .bool false, .slice none 0 0, .bool false, .string ⟨#[]⟩, .slice none 0 0, .slice none 0 0]), 7, 112) := by kernel_rfl
/-- The list of symbols and strings lies there. -/
def LeafRow (w : World) (ib io : Nat) (its : List (Int × ByteArray)) : Prop := ∀ i x, its[i]? = some x → (x.1 = 3 ∨ x.1 = 4) ∧ ∀ j v, (leafC x.1 x.2)[j]? = some v → w.cell? ⟨ib, io + i * 7 + j, none⟩ = some v
theorem LeafRow.below {w w' : World} {B ib io : Nat} {its : List (Int × ByteArray)} (h : LeafRow w ib io its) (hb : Below B w w') (hi : ib < B) : LeafRow w' ib io its :=
  fun i x hx => ⟨(h i x hx).1, fun j v hj => (hb.cell (p := ⟨ib, io + i * 7 + j, none⟩) hi).trans ((h i x hx).2 j v hj)⟩

theorem step_call {P : Program} {ops : Array Oper} {o : Oper} {a : Act} {w : World} {K : Act → World → Prop} {Q : Exit → Act → World → Prop} {E : Prop} (f : Nat) (args : Array Value) (hgd : o.guard = none) (h : (execOp a.eval o).run P w = .ok (.enter f args) w)
    (hc : Calls P f args w fun e w' => ∃ v, e = .returned v ∧ K (a.put o.dst v) w') : if Region.wanted o (yielded ops a.tmps) = true then Oper.wp P o a w K Q else E := by
  have hw : Region.wanted o (yielded ops a.tmps) = true := by simp [Region.wanted, hgd]
  rw [if_pos hw]
  unfold Oper.wp
  rw [h]
  refine hc.mono ?_
  rintro e w' ⟨v, rfl, hk⟩
  exact hk
end
end Go.Proofs.YthdhdmmlmbkalaaGreatDoor
namespace Go.Proofs.YthdhdmmlmbkalaaGreatDoor
section
open Go.RowKit

def cellsAll : List LT → List Value
  | [] => []
  | t :: l => t.cells ++ cellsAll l
theorem cellsAll_length (l : List LT) : (cellsAll l).length = l.length * 7 := by
  induction l with
  | nil => rfl
  | cons t l ih => simp only [cellsAll, List.length_append, ih, List.length_cons]; rw [show t.cells.length = 7 from rfl]; omega
theorem cellsAll_one : ∀ (l : List LT), ∀ u ∈ cellsAll l, u.oneCell' = true
  | [], u, h => by simp [cellsAll] at h
  | t :: l, u, h => by
    simp only [cellsAll, List.mem_append] at h
    rcases h with h | h
    · simp only [LT.cells, List.mem_cons, List.mem_nil_iff, or_false] at h
      rcases h with rfl | rfl | rfl | rfl | rfl | rfl | rfl <;> rfl
    · exact cellsAll_one l u h
end
end Go.Proofs.YthdhdmmlmbkalaaGreatDoor
