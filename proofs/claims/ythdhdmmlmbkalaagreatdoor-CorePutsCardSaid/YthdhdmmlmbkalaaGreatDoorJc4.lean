/-
  datum.Depth, datum.isLookedAt; datum.normal of a symbol or a string. datum.normal of a symbol or a string, datum.normalList of a list of such. datum.normalList of a list of symbols and strings. pavaneref03.All of any tree: the data in the order of Walk, in a list of the call's own.
-/
import Derived.Test.YthdhdmmlmbkalaaGreatDoorJc3
import Derived.OwnWalk
import Derived.Deep.RegionHeld3
import Derived.Deep.RegionLaw
import Derived.Deep.AppendLies
import Derived.LoopN
import Derived.Test.YthdhdmmlmbkalaaGreatDoorJc2
set_option linter.unusedVariables false
set_option linter.unusedSimpArgs false
set_option linter.unusedSectionVars false
set_option linter.unnecessarySimpa false
namespace Go.Proofs.YthdhdmmlmbkalaaGreatDoor
section
open Go.RowKit

theorem Spot.mono {M M' : Nat} {a : Option Addr} {n c : Nat} (h : Spot M a n c) (hM : M ≤ M') : Spot M' a n c := ⟨h.1, h.2.1, fun hn => ⟨(h.2.2.1 hn).1, by have := (h.2.2.1 hn).2; omega⟩, h.2.2.2⟩
mutual
theorem Lies.mono {w : World} {M M' : Nat} (hM : M ≤ M') : ∀ (t : LT) (b o : Nat), Lies w M t b o → Lies w M' t b o
  | .mk k g la ln lc ys bb s ia ic items ta tc tail, b, o, h => by
    simp only [Lies] at h ⊢
    obtain ⟨h1, h2, h3, h4, h5, h6, h7⟩ := h
    exact ⟨by omega, h2, ⟨h3.1, fun h => by have := h3.2.1 h; omega, h3.2.2⟩, h4.mono hM, h5.mono hM, LiesR.mono hM items _ _ h6, LiesR.mono hM tail _ _ h7⟩
theorem LiesR.mono {w : World} {M M' : Nat} (hM : M ≤ M') : ∀ (l : List LT) (b o : Nat), LiesR w M l b o → LiesR w M' l b o
  | [], _, _, _ => by simp [LiesR]
  | t :: l, b, o, h => by
    simp only [LiesR] at h ⊢
    exact ⟨Lies.mono hM t b o h.1, LiesR.mono hM l b (o + 7) h.2⟩
end

/-- A datum that is handed on by value: what it leads to lies below M. -/
def DatV (w : World) (M : Nat) (t : LT) : Prop := (Sl w t.la t.ln t.lc t.ys ∧ (0 < t.ln → blk t.la < M) ∧ t.s.size ≤ maxLen) ∧ Spot M t.ia t.items.length t.ic ∧ Spot M t.ta t.tail.length t.tc ∧ LiesR w M t.items (blk t.ia) (ofs t.ia) ∧ LiesR w M t.tail (blk t.ta) (ofs t.ta)
theorem Lies.datV {w : World} {M b o : Nat} {t : LT} (h : Lies w M t b o) : DatV w M t := (lies_eq.1 h).2.2
theorem DatV.keep {w w' : World} {M : Nat} {t : LT} (h : DatV w M t) (hs : w.heap.size ≤ w'.heap.size) (hk : ∀ k, k < M → w'.heap[k]? = w.heap[k]?) : DatV w' M t :=
  ⟨⟨h.1.1.keepM hs h.1.2.1 hk, h.1.2⟩, h.2.1, h.2.2.1, LiesR.keep hs hk _ _ _ h.2.2.2.1, LiesR.keep hs hk _ _ _ h.2.2.2.2⟩
theorem DatV.below {w w' : World} {M : Nat} {t : LT} (h : DatV w M t) (hM : M ≤ w.heap.size) (hb : Below w.heap.size w w') : DatV w' M t := h.keep hb.size (fun k hk => hb.block k (by omega))
/-- What boxing does. -/
theorem DatV.boxed {w : World} {M : Nat} {t : LT} (h : DatV w M t) (hM : M ≤ w.heap.size) : Lies (w.alloc (.cells t.cells.toArray 27)) (w.heap.size + 1) t w.heap.size 0 := by
  have hb : Below w.heap.size w (w.alloc (.cells t.cells.toArray 27)) := (Below.refl _ _).alloc (Nat.le_refl _) _
  have hk : ∀ k, k < M → (w.alloc (.cells t.cells.toArray 27)).heap[k]? = w.heap[k]? := fun k hk => hb.block k (by omega)
  obtain ⟨h1, h2, h3, h4, h5⟩ := h.keep hb.size hk
  refine lies_eq.2 ⟨by omega, fun j v hj => ?_, ⟨h1.1, fun h => by have := h1.2.1 h; omega, h1.2.2⟩, h2.mono (by omega), h3.mono (by omega), LiesR.mono (by omega) _ _ _ h4, LiesR.mono (by omega) _ _ _ h5⟩
  rw [Nat.zero_add, Lib.cell_of_heap (World.alloc_heap_new w _)]
  simpa using hj

theorem looked_any (w : World) : Calls Tryz.prog 85 #[] w fun e w' => e = .returned (.agg #[.int .i64 100000, .int .i64 10000]) ∧ Below w.heap.size w w' := by
  go_enter Tryz.func85, Tryz.ntmps85
  go_wp2_with fail
  (try simp only [Exit.inBlock, Exit.then])
  refine bodyPost_ret (v := .agg #[.int .i64 100000, .int .i64 10000]) (by simp [results, Tryz.results85, go_sem]) rfl ⟨rfl, ?_⟩
  repeat (first | exact Below.refl _ _ | refine Below.setCell (hp := by simp) ?_ _ | refine Below.alloc ?_ (by simp) _)

set_option maxRecDepth 100000 in
set_option maxHeartbeats 1600000 in
theorem depth_any (t : LT) (M : Nat) (w : World) (h : DatV w M t) (hM : M ≤ w.heap.size) (h1 : t.size ≤ 100000) (h2 : t.depth ≤ 10000) :
    Calls Tryz.prog 94 #[.agg t.cells.toArray] w fun e w' => e = .returned (.int .i64 t.depth) ∧ Below w.heap.size w w' := by
  have hl := h.boxed hM
  have hb0 : Below w.heap.size w (w.alloc (.cells t.cells.toArray 27)) := (Below.refl _ _).alloc (Nat.le_refl _) _
  unfold LT.cells at hl hb0 ⊢
  have HL := Lib.hid hl
  clear h hl
  go_enter Tryz.func94, Tryz.ntmps94
  go_wp2_with fail
  refine (looked_any _).mono ?_
  rintro e w1 ⟨rfl, b1⟩
  have z1 : w.heap.size + 1 ≤ w1.heap.size := by have := b1.size; simp at this; omega
  have HL1 := Lib.hid (HL.out.keep b1.size (fun k hk => b1.block k (by simp; omega)) _ _ _)
  have hb1 := hb0.trans (b1.mono (by simp))
  clear b1 hb0
  go_wp2_with fail
  refine (measure_any (w.heap.size + 1) w.heap.size 0 100000 10000 t _ z1 HL1.out h1 h2 (by omega)).mono ?_
  rintro e w2 ⟨rfl, b2⟩
  have hb2 := hb1.trans (b2.mono (by omega))
  clear hb1 b2
  go_wp2_with fail
  go_ret
  exact ⟨rfl, hb2.alloc hb2.size _⟩

set_option maxRecDepth 100000 in
set_option maxHeartbeats 1600000 in
theorem isLooked_any (t : LT) (M : Nat) (w : World) (h : DatV w M t) (hM : M ≤ w.heap.size) (h1 : t.size ≤ 100000) (h2 : t.depth ≤ 10000) :
    Calls Tryz.prog 69 #[.agg t.cells.toArray] w fun e w' => e = .returned (.bool true) ∧ Below w.heap.size w w' := by
  have hl := h.boxed hM
  have hb0 : Below w.heap.size w (w.alloc (.cells t.cells.toArray 27)) := (Below.refl _ _).alloc (Nat.le_refl _) _
  unfold LT.cells at hl hb0 ⊢
  have HL := Lib.hid hl
  clear h hl
  go_enter Tryz.func69, Tryz.ntmps69
  go_wp2_with fail
  refine (looked_any _).mono ?_
  rintro e w1 ⟨rfl, b1⟩
  have z1 : w.heap.size + 1 ≤ w1.heap.size := by have := b1.size; simp at this; omega
  have HL1 := Lib.hid (HL.out.keep b1.size (fun k hk => b1.block k (by simp; omega)) _ _ _)
  have hb1 := hb0.trans (b1.mono (by simp))
  clear b1 hb0
  go_wp2_with fail
  refine (measure_any (w.heap.size + 1) w.heap.size 0 100000 10000 t _ z1 HL1.out h1 h2 (by omega)).mono ?_
  rintro e w2 ⟨rfl, b2⟩
  have hb2 := hb1.trans (b2.mono (by omega))
  clear hb1 b2
  go_wp2_with fail
  go_ret
  exact ⟨rfl, hb2.alloc hb2.size _⟩
end
end Go.Proofs.YthdhdmmlmbkalaaGreatDoor
namespace Go.Proofs.YthdhdmmlmbkalaaGreatDoor
section
open Go.RowKit

/-- A symbol or a string, as a value and as cells. -/
def leafC (k : Int) (s : ByteArray) : List Value := [.int .i64 k, .bool false, .slice none 0 0, .bool false, .string s, .slice none 0 0, .slice none 0 0]
theorem results_d {fn : Func} {tmps : Array Value} {t : Tmp} {w : World} {b : Nat} {v0 v1 v2 v3 v4 v5 v6 : Value} (h : fn.results = #[.cell t 27]) (ht : tmps.getD t undef = .pointer (some ⟨b, 0, none⟩)) (c0 : w.cell? ⟨b, 0, none⟩ = some v0) (c1 : w.cell? ⟨b, 1, none⟩ = some v1)
    (c2 : w.cell? ⟨b, 2, none⟩ = some v2) (c3 : w.cell? ⟨b, 3, none⟩ = some v3) (c4 : w.cell? ⟨b, 4, none⟩ = some v4) (c5 : w.cell? ⟨b, 5, none⟩ = some v5) (c6 : w.cell? ⟨b, 6, none⟩ = some v6) :
    (results fn tmps).run Tryz.prog w = .ok (.agg #[v0, v1, v2, v3, v4, v5, v6]) w := by
  rw [Array.getD_eq_getD_getElem?] at ht
  simp [results, h, ht, go_sem, c0, c1, c2, c3, c4, c5, c6]

set_option maxRecDepth 100000 in
set_option maxHeartbeats 3200000 in
theorem normal_leaf (k : Int) (hk : k = 3 ∨ k = 4) (s : ByteArray) (w : World) :
    Calls Tryz.prog 112 #[.agg (leafC k s).toArray] w fun e w' => e = .returned (.agg (leafC k s).toArray) ∧ Below w.heap.size w w' := by
  unfold leafC
  rcases hk with rfl | rfl
  all_goals
    go_enter Tryz.func112, Tryz.ntmps112
    go_wp2_with fail
    (try simp only [Exit.inBlock, Exit.then])
    refine bodyPost_ret (results_d rfl rfl (by go_simp) (by go_simp) (by go_simp) (by go_simp) (by go_simp) (by go_simp) (by go_simp)) rfl ⟨rfl, ?_⟩
    repeat (first | exact Below.refl _ _ | refine Below.setCell (hp := by first | (simp; done) | (simp; omega)) ?_ _ | refine Below.alloc ?_ (by first | (simp; done) | (simp; omega)) _)
end
end Go.Proofs.YthdhdmmlmbkalaaGreatDoor
namespace Go.Proofs.YthdhdmmlmbkalaaGreatDoor
section
open Go.RowKit

theorem infoD : (Tryz.prog.info? 27).map (fun i => (i.zero, i.size, i.bytes)) = some (some (.agg #[.int .i64 0, .bool false, .slice none 0 0, .bool false, .string ⟨#[]⟩, .slice none 0 0, .slice none 0 0]), 7, 112) := by kernel_rfl
def leafAll : List (Int × ByteArray) → List Value | [] => [] | x :: l => leafC x.1 x.2 ++ leafAll l
theorem leafAll_snoc (l : List (Int × ByteArray)) (x : Int × ByteArray) : leafAll (l ++ [x]) = leafAll l ++ leafC x.1 x.2 := by induction l with | nil => simp [leafAll] | cons y l ih => simp [leafAll, ih]
theorem leafAll_length (l : List (Int × ByteArray)) : (leafAll l).length = l.length * 7 := by induction l with | nil => rfl | cons x l ih => simp [leafAll, leafC, ih]; omega
theorem leaf_one (k : Int) (s : ByteArray) : ∀ u ∈ leafC k s, u.oneCell' = true := by
  intro u hu; simp [leafC] at hu; rcases hu with rfl | rfl | rfl | rfl | rfl | rfl | rfl <;> rfl
theorem leaf_news {w : World} {g : Nat} {k : Int} {s : ByteArray} (h : w.heap[g]? = some (.cells (leafC k s).toArray 27 (0, 0))) : ∀ j u, (leafC k s)[j]? = some u → w.cell? ((⟨g, 0, none⟩ : Addr).add j) = some u := by
  intro j u hu
  rw [cell_add, Nat.zero_add, Lib.cell_of_heap h]
  simpa using hu
/-- The list of symbols and strings lies there. -/
def LeafRow (w : World) (ib io : Nat) (its : List (Int × ByteArray)) : Prop := ∀ i x, its[i]? = some x → (x.1 = 3 ∨ x.1 = 4) ∧ ∀ j v, (leafC x.1 x.2)[j]? = some v → w.cell? ⟨ib, io + i * 7 + j, none⟩ = some v
theorem LeafRow.below {w w' : World} {B ib io : Nat} {its : List (Int × ByteArray)} (h : LeafRow w ib io its) (hb : Below B w w') (hi : ib < B) : LeafRow w' ib io its :=
  fun i x hx => ⟨(h i x hx).1, fun j v hj => (hb.cell (p := ⟨ib, io + i * 7 + j, none⟩) hi).trans ((h i x hx).2 j v hj)⟩

theorem own_below7 {w w' : World} {base size n : Nat} {e : TypeId} {v : Value} {xs : List Value} (h : w.ownsRow base e size v n xs) (hb : Below w.heap.size w w') : w'.ownsRow base e size v n xs :=
  h.kept (row := none) ⟨hb.os, hb.tape, hb.output, hb.size, fun k hk _ => hb.block k hk⟩ (by cases hv : v.ownBlock <;> simp)
theorem normal_leafx (k : Int) (hk : k = 3 ∨ k = 4) (s : ByteArray) (w : World) :
    Calls Tryz.prog 112 #[.agg #[.int .i64 k, .bool false, .slice none 0 0, .bool false, .string s, .slice none 0 0, .slice none 0 0]] w fun e w' => e = .returned (.agg #[.int .i64 k, .bool false, .slice none 0 0, .bool false, .string s, .slice none 0 0, .slice none 0 0]) ∧ Below w.heap.size w w' := normal_leaf k hk s w
theorem after_app {W6 w7 w8 : World} {o : Obj} {V : Value} {a : Addr} {v : Value} (c7 : Below W6.heap.size W6 w7) (hg : (w7.alloc o).grownBy w8 V.ownBlock) (h : W6.cell? a = some v) (hne : some a.block ≠ V.ownBlock) : w8.cell? a = some v := by
  have hlt := World.block_lt_of_cell? W6 _ h
  refine hg.cell ?_ hne
  exact (World.cell?_of_block (w := w7) (Below.heap_alloc w7 o a.block (by have := c7.size; omega))).trans ((c7.cell hlt).trans h)
theorem frozen_app {W6 w7 w8 : World} {o : Obj} {V : Value} {a : Addr} (c7 : Below W6.heap.size W6 w7) (hg : (w7.alloc o).grownBy w8 V.ownBlock) (hlt : a.block < W6.heap.size) (h : W6.frozen? a = false) (hne : some a.block ≠ V.ownBlock) : w8.frozen? a = false := by
  have h7 : w7.frozen? a = false := (c7.frozen hlt).trans h
  have h1 : (w7.alloc o).frozen? a = false := (World.frozen?_of_block (w := w7) (Below.heap_alloc w7 o a.block (by have := c7.size; omega))).trans h7
  exact (World.frozen?_of_block (w := w7.alloc o) (hg.block a.block (by have := c7.size; simp; omega) hne)).trans h1
theorem step_call {P : Program} {ops : Array Oper} {o : Oper} {a : Act} {w : World} {K : Act → World → Prop} {Q : Exit → Act → World → Prop} {E : Prop} (f : Nat) (args : Array Value) (hgd : o.guard = none) (h : (execOp a.eval o).run P w = .ok (.enter f args) w)
    (hc : Calls P f args w fun e w' => ∃ v, e = .returned v ∧ K (a.put o.dst v) w') : if Region.wanted o (yielded ops a.tmps) = true then Oper.wp P o a w K Q else E := by
  have hw : Region.wanted o (yielded ops a.tmps) = true := by simp [Region.wanted, hgd]
  rw [if_pos hw]
  unfold Oper.wp
  rw [h]
  refine hc.mono ?_
  rintro e w' ⟨v, rfl, hk⟩
  exact hk
theorem own_base {w : World} {base base' size n : Nat} {e : TypeId} {v : Value} {xs : List Value} (h : w.ownsRow base' e size v n xs) (hb : base ≤ base') : w.ownsRow base e size v n xs := by
  refine ⟨h.1, ?_⟩
  rcases h.2 with h1 | ⟨g, cap, cur, hv, hg, rest⟩
  · exact .inl h1
  · exact .inr ⟨g, cap, cur, hv, Nat.le_trans hb hg, rest⟩
/-- What normalList's loop knows. -/
def NlRel (B ib io n : Nat) (its : List (Int × ByteArray)) (w : World) (i : Value) (wr : World) : Prop :=
  ∃ (k : Nat) (V : Value), k ≤ n ∧ i = .int .i64 k ∧ wr.heap[B]? = some (.cells #[.int .i64 5, .bool false, .slice none 0 0, .bool false, .string ⟨#[]⟩, .slice (some ⟨ib, io, none⟩) n n, .slice none 0 0] 27 (0, 0)) ∧
    wr.heap[B + 1]? = some (.cells #[.int .i64 0, .bool false, .slice none 0 0, .bool false, .string ⟨#[]⟩, .slice none 0 0, .slice none 0 0] 27 (0, 0)) ∧
    wr.heap[B + 1 + 1]? = some (.cells #[.int .i64 5, .bool false, .slice none 0 0, .bool false, .string ⟨#[]⟩, V, .slice none 0 0] 27 (0, 0)) ∧
    wr.ownsRow (B + 3) 27 7 V k (leafAll (its.take k)) ∧ Below B w wr ∧ B + 3 ≤ wr.heap.size

theorem nl_next {B ib io n k gg cap : Nat} {ki : Int} {s : ByteArray} {its : List (Int × ByteArray)} {w wr W6 w7 w8 : World} {o : Obj} {V : Value} (hk : k < n)
    (hI : wr.heap[B]? = some (.cells #[.int .i64 5, .bool false, .slice none 0 0, .bool false, .string ⟨#[]⟩, .slice (some ⟨ib, io, none⟩) n n, .slice none 0 0] 27 (0, 0)) ∧
      wr.heap[B + 1]? = some (.cells #[.int .i64 0, .bool false, .slice none 0 0, .bool false, .string ⟨#[]⟩, .slice none 0 0, .slice none 0 0] 27 (0, 0)) ∧
      wr.heap[B + 1 + 1]? = some (.cells #[.int .i64 5, .bool false, .slice none 0 0, .bool false, .string ⟨#[]⟩, V, .slice none 0 0] 27 (0, 0)) ∧ Below B w wr ∧ Below wr.heap.size wr W6)
    (hx : its[k]? = some (ki, s)) (hsz : B + 3 ≤ wr.heap.size) (hV : ∀ g, V.ownBlock = some g → B + 3 ≤ g) (c7 : Below W6.heap.size W6 w7) (hg : (w7.alloc o).grownBy w8 V.ownBlock)
    (own8 : w8.ownsRow (B + 3) 27 7 (.slice (some ⟨gg, 0, none⟩) (k + 1) cap) (k + 1) (leafAll (its.take k) ++ leafC ki s)) (z : Int) (hz : z = ((k + 1 : Nat) : Int)) :
    NlRel B ib io n its w (.int .i64 z) (w8.setCell ⟨B + 1 + 1, 5, none⟩ (.slice (some ⟨gg, 0, none⟩) (k + 1) cap)) := by
  subst hz
  obtain ⟨h0, h1, h2, hbel, hb6⟩ := hI
  have s6 := hb6.size
  have s7 := c7.size
  have s8 := hg.size
  have hs7 : (w7.alloc o).heap.size = w7.heap.size + 1 := World.size_alloc ..
  have hat : ∀ i, i < B + 3 → w8.heap[i]? = wr.heap[i]? := fun i hi =>
    (hg.block i (by omega) (fun e => by have := hV i e.symm; omega)).trans ((Below.heap_alloc w7 o i (by omega)).trans ((c7.block i (by omega)).trans (hb6.block i (by omega))))
  refine ⟨k + 1, .slice (some ⟨gg, 0, none⟩) (k + 1) cap, by omega, rfl, ?_, ?_, ?_, ?_, ?_, ?_⟩
  · exact (Below.heap_setCell _ _ _ _ (by show B ≠ B + 1 + 1; omega)).trans ((hat _ (by omega)).trans h0)
  · exact (Below.heap_setCell _ _ _ _ (by show B + 1 ≠ B + 1 + 1; omega)).trans ((hat _ (by omega)).trans h1)
  · have h3 := (hat (B + 1 + 1) (by omega)).trans h2
    simp [World.setCell, Array.getElem?_modify, h3]
  · have e : its.take (k + 1) = its.take k ++ [(ki, s)] := by rw [List.take_add_one, hx]; rfl
    rw [e, leafAll_snoc]
    exact ownsRow_setCell_below own8 (a := ⟨B + 1 + 1, 5, none⟩) (by show B + 1 + 1 < B + 3; omega) _
  · have hgb : Below B (w7.alloc o) w8 := (Below.refl B _).grown hg (by omega) (fun i hi => by have := hV i hi; omega)
    have h7 : Below B w7 (w7.alloc o) := (Below.refl B w7).alloc (by omega) o
    exact ((((hbel.trans (hb6.mono (by omega))).trans (c7.mono (by omega))).trans h7).trans hgb).setCell (p := ⟨B + 1 + 1, 5, none⟩) (by show B ≤ B + 1 + 1; omega) _
  · show B + 3 ≤ (w8.setCell ⟨B + 1 + 1, 5, none⟩ _).heap.size
    have := (KeepsWalks.setCell w8 ⟨B + 1 + 1, 5, none⟩ (.slice (some ⟨gg, 0, none⟩) (k + 1) cap)).size
    omega

set_option maxRecDepth 100000 in
set_option maxHeartbeats 6400000 in
theorem normalList_any (ib io n : Nat) (its : List (Int × ByteArray)) (w : World) (hn : its.length = n) (hn9 : n ≤ 1000) (h : LeafRow w ib io its) (hib : ib < w.heap.size) :
    Calls Tryz.prog 131 #[.agg #[.int .i64 5, .bool false, .slice none 0 0, .bool false, .string ⟨#[]⟩, .slice (some ⟨ib, io, none⟩) n n, .slice none 0 0]] w fun e w' =>
      ∃ V, e = .returned (.agg #[.int .i64 5, .bool false, .slice none 0 0, .bool false, .string ⟨#[]⟩, V, .slice none 0 0]) ∧ w'.ownsRow w.heap.size 27 7 V n (leafAll its) ∧ Below w.heap.size w w' := by
  have HN := Lib.hid hn
  clear hn
  have HR := Lib.hid h
  clear h
  go_enter Tryz.func131, Tryz.ntmps131
  go_wp2_with fail
  refine wp_loop_rounds 1 ?_
  rw [rounds_succ]
  go_wp2_with fail
  have n0 : w.heap.size < (w.alloc (Obj.cells #[Value.int IntKind.i64 5, .bool false, .slice none 0 0, .bool false, .string ⟨#[]⟩, .slice (some ⟨ib, io, none⟩) n n, .slice none 0 0] 27)).heap.size := by simp
  go_loopw [13] (fun i wr => NlRel w.heap.size ib io n its w i wr) (fun i _ => n - (intOf i).toNat)
  case atStart =>
    refine ⟨0, .slice none 0 0, Nat.zero_le _, rfl, ?_, ?_, ?_, World.ownsRow_nil _ _ _ _, (((Below.refl _ w).alloc (Nat.le_refl _) _).alloc (by simp) _).alloc (by simp; omega) _, by simp⟩
    · exact (Below.heap_alloc _ _ _ (by simp; omega)).trans ((Below.heap_alloc _ _ _ (by simp)).trans (World.alloc_heap_new w _))
    · exact (Below.heap_alloc _ _ _ (by simp)).trans (by have := World.alloc_heap_new (w.alloc (Obj.cells #[Value.int IntKind.i64 5, .bool false, .slice none 0 0, .bool false, .string ⟨#[]⟩, .slice (some ⟨ib, io, none⟩) n n, .slice none 0 0] 27)) (Obj.cells #[.int .i64 0, .bool false, .slice none 0 0, .bool false, .string ⟨#[]⟩, .slice none 0 0, .slice none 0 0] 27); rwa [World.size_alloc] at this)
    · have := World.alloc_heap_new ((w.alloc (Obj.cells #[Value.int IntKind.i64 5, .bool false, .slice none 0 0, .bool false, .string ⟨#[]⟩, .slice (some ⟨ib, io, none⟩) n n, .slice none 0 0] 27)).alloc (Obj.cells #[.int .i64 0, .bool false, .slice none 0 0, .bool false, .string ⟨#[]⟩, .slice none 0 0, .slice none 0 0] 27)) (Obj.cells #[.int .i64 5, .bool false, .slice none 0 0, .bool false, .string ⟨#[]⟩, .slice none 0 0, .slice none 0 0] 27)
      rwa [World.size_alloc, World.size_alloc] at this
  case round =>
    obtain ⟨k, V, hk, rfl, hB0, hB1, hB2, hown, hbel, hsz⟩ := hrel
    clear n0
    by_cases hlt : k < n
    · obtain ⟨⟨ki, s⟩, hx⟩ : ∃ x, its[k]? = some x := ⟨its[k]'(by rw [HN.out]; exact hlt), List.getElem?_eq_getElem _⟩
      have hrow := (HR.out.below hbel hib) k _ hx
      obtain ⟨hki, hcell⟩ := hrow
      have d0 : wr.cell? ⟨ib, io + k * 7, none⟩ = some (.int .i64 ki) := hcell 0 _ rfl
      have d1 : wr.cell? ⟨ib, io + k * 7 + 1, none⟩ = some (.bool false) := hcell 1 _ rfl
      have d2 : wr.cell? ⟨ib, io + k * 7 + 2, none⟩ = some (.slice none 0 0) := hcell 2 _ rfl
      have d3 : wr.cell? ⟨ib, io + k * 7 + 3, none⟩ = some (.bool false) := hcell 3 _ rfl
      have d4 : wr.cell? ⟨ib, io + k * 7 + 4, none⟩ = some (.string s) := hcell 4 _ rfl
      have d5 : wr.cell? ⟨ib, io + k * 7 + 5, none⟩ = some (.slice none 0 0) := hcell 5 _ rfl
      have d6 : wr.cell? ⟨ib, io + k * 7 + 6, none⟩ = some (.slice none 0 0) := hcell 6 _ rfl
      have HX := Lib.hid (And.intro hx hki)
      clear hx hki hcell
      go_wp2_with fail
      have own6 : (wr.alloc (Obj.cells (leafC ki s).toArray 27)).ownsRow (w.heap.size + 3) 27 7 V k (leafAll (its.take k)) := hown.alloc _
      have hbw6 : Below wr.heap.size wr (wr.alloc (Obj.cells (leafC ki s).toArray 27)) := (Below.refl _ wr).alloc (Nat.le_refl _) _
      have e5 : (wr.alloc (Obj.cells (leafC ki s).toArray 27)).cell? ⟨w.heap.size + 1 + 1, 5, none⟩ = some V := (hbw6.cell (p := ⟨w.heap.size + 1 + 1, 5, none⟩) (by show w.heap.size + 1 + 1 < wr.heap.size; omega)).trans (by rw [Lib.cell_of_heap hB2]; rfl)
      have f5 : (wr.alloc (Obj.cells (leafC ki s).toArray 27)).frozen? ⟨w.heap.size + 1 + 1, 5, none⟩ = false := (hbw6.frozen (p := ⟨w.heap.size + 1 + 1, 5, none⟩) (by show w.heap.size + 1 + 1 < wr.heap.size; omega)).trans (Lib.frozen_of_heap hB2 5)
      have hc := fun j => Lib.cell_of_heap (World.alloc_heap_new wr (Obj.cells (leafC ki s).toArray 27)) j
      have g0 := hc 0; have g1 := hc 1; have g2 := hc 2; have g3 := hc 3; have g4 := hc 4; have g5 := hc 5; have g6 := hc 6
      have hz6 : (wr.alloc (Obj.cells (leafC ki s).toArray 27)).heap.size = wr.heap.size + 1 := World.size_alloc ..
      unfold leafC at own6 e5 f5 g0 g1 g2 g3 g4 g5 g6 hbw6 hz6
      simp only [List.getElem?_toArray, List.getElem?_cons_zero, List.getElem?_cons_succ] at g0 g1 g2 g3 g4 g5 g6
      obtain ⟨W6, hW6⟩ : ∃ W6, wr.alloc (Obj.cells #[Value.int IntKind.i64 ki, .bool false, .slice none 0 0, .bool false, .string s, .slice none 0 0, .slice none 0 0] 27) = W6 := ⟨_, rfl⟩
      rw [hW6] at own6 hbw6 e5 f5 g0 g1 g2 g3 g4 g5 g6 hz6 ⊢
      have HI := Lib.hid (And.intro hB0 (And.intro hB1 (And.intro hB2 (And.intro hbel hbw6))))
      have HO := Lib.hid own6
      have hVg : ∀ g, V.ownBlock = some g → w.heap.size + 3 ≤ g := fun g h => (hown.lt g h).1
      have HVg := Lib.hid hVg
      have neB : some (w.heap.size + 1 + 1) ≠ V.ownBlock := fun h => by have := hown.lt _ h.symm; omega
      have neI : some wr.heap.size ≠ V.ownBlock := fun h => by have := hown.lt _ h.symm; omega
      clear hc d0 d1 d2 d3 d4 d5 d6 hB0 hB1 hB2 hbel hown own6 hW6 hbw6 hVg
      obtain ⟨i0, hi0, hz0, hz1, hz2⟩ := info_parts infoD
      have hmix : Tryz.prog.follows .mixedOrders = true := by kernel_rfl
      have e5d : W6.drew.cell? ⟨w.heap.size + 1 + 1, 5, none⟩ = some V := e5
      have g0d := show W6.drew.cell? ⟨wr.heap.size, 0, none⟩ = _ from g0
      have g1d := show W6.drew.cell? ⟨wr.heap.size, 1, none⟩ = _ from g1
      have g2d := show W6.drew.cell? ⟨wr.heap.size, 2, none⟩ = _ from g2
      have g3d := show W6.drew.cell? ⟨wr.heap.size, 3, none⟩ = _ from g3
      have g4d := show W6.drew.cell? ⟨wr.heap.size, 4, none⟩ = _ from g4
      have g5d := show W6.drew.cell? ⟨wr.heap.size, 5, none⟩ = _ from g5
      have g6d := show W6.drew.cell? ⟨wr.heap.size, 6, none⟩ = _ from g6
      go_region_law
        (first
          | (refine step_call 112 #[.agg #[.int .i64 ki, .bool false, .slice none 0 0, .bool false, .string s, .slice none 0 0, .slice none 0 0]] (by rfl) (by simp [execOp, Act.eval, go_sem]) ((normal_leafx ki HX.out.2 s _).mono ?_); rintro e w7 ⟨rfl, b7⟩; refine ⟨_, rfl, ?_⟩; have c7 : Below W6.heap.size W6 w7 := (⟨b7.os, b7.tape, b7.output, b7.size, b7.block⟩); clear b7; have g7s := And.intro ((c7.cell (p := ⟨wr.heap.size, 0, none⟩) (by show wr.heap.size < W6.heap.size; omega)).trans g0) (And.intro ((c7.cell (p := ⟨wr.heap.size, 1, none⟩) (by show wr.heap.size < W6.heap.size; omega)).trans g1) (And.intro ((c7.cell (p := ⟨wr.heap.size, 2, none⟩) (by show wr.heap.size < W6.heap.size; omega)).trans g2) (And.intro ((c7.cell (p := ⟨wr.heap.size, 3, none⟩) (by show wr.heap.size < W6.heap.size; omega)).trans g3) (And.intro ((c7.cell (p := ⟨wr.heap.size, 4, none⟩) (by show wr.heap.size < W6.heap.size; omega)).trans g4) (And.intro ((c7.cell (p := ⟨wr.heap.size, 5, none⟩) (by show wr.heap.size < W6.heap.size; omega)).trans g5) ((c7.cell (p := ⟨wr.heap.size, 6, none⟩) (by show wr.heap.size < W6.heap.size; omega)).trans g6)))))); obtain ⟨q0, q1, q2, q3, q4, q5, q6⟩ := g7s; have e7 := (c7.cell (p := ⟨w.heap.size + 1 + 1, 5, none⟩) (by show w.heap.size + 1 + 1 < W6.heap.size; omega)).trans e5; have e7a : ∀ o : Obj, (w7.alloc o).cell? ⟨w.heap.size + 1 + 1, 5, none⟩ = some V := fun o => (World.cell?_of_block (w := w7) (Below.heap_alloc w7 o _ (by have := c7.size; show w.heap.size + 1 + 1 < w7.heap.size; omega))).trans e7)
          | (refine step_append_lies _ (by rfl) (.tmp 18) (.tmp 21) 25 (by rfl) (w.heap.size + 3) 27 i0 (.agg #[.int .i64 0, .bool false, .slice none 0 0, .bool false, .string ⟨#[]⟩, .slice none 0 0, .slice none 0 0]) 7 112 Tryz.underlying25 hi0 hz0 hz1 hz2 rfl (by omega) V k (leafAll (its.take k)) (by rfl) ((own_below7 HO.out c7).alloc _)
              ⟨w7.heap.size, 0, none⟩ 1 1 (leafC ki s) (by rfl) (by rfl) (leaf_news (heap_alloc_new _ _)) (leaf_one _ _) (by omega) (by unfold maxLen; omega) (by omega) (by have := c7.size; simp; omega) (w7.heap.size + 1) (by simp) ?_; intro gg cap w8 own8 hgrow8 hat hlt8; have e8 := after_app c7 hgrow8 e5 neB; have f8 := frozen_app (a := ⟨w.heap.size + 1 + 1, 5, none⟩) c7 hgrow8 (by show w.heap.size + 1 + 1 < W6.heap.size; omega) f5 neB; have h0 := after_app c7 hgrow8 g0 neI; have h1 := after_app c7 hgrow8 g1 neI; have h2 := after_app c7 hgrow8 g2 neI; have h3 := after_app c7 hgrow8 g3 neI; have h4 := after_app c7 hgrow8 g4 neI; have h5 := after_app c7 hgrow8 g5 neI; have h6 := after_app c7 hgrow8 g6 neI; have far8 : ∀ (x : Value) (j : Nat), (w8.setCell ⟨w.heap.size + 1 + 1, 5, none⟩ x).cell? ⟨wr.heap.size, j, none⟩ = w8.cell? ⟨wr.heap.size, j, none⟩ := fun x j => World.cell?_of_block (Below.heap_setCell _ _ _ _ (by show wr.heap.size ≠ w.heap.size + 1 + 1; omega)))
          | fail)
      all_goals
        go_wp2_with fail
        go_roundw
        case rel => exact nl_next hlt HI.out HX.out.1 hsz HVg.out c7 hgrow8 own8 _ (by omega)
        case measure => simp [intOf]; omega
    · obtain rfl : k = n := by omega
      have hbs := fun j => Lib.cell_of_heap hB0 j
      have a0 := hbs 0; have a1 := hbs 1; have a2 := hbs 2; have a3 := hbs 3; have a4 := hbs 4; have a5 := hbs 5; have a6 := hbs 6
      have hos := fun j => Lib.cell_of_heap hB2 j
      have o0 := hos 0; have o1 := hos 1; have o2 := hos 2; have o3 := hos 3; have o4 := hos 4; have o5 := hos 5; have o6 := hos 6
      have hrs := fun j => Lib.cell_of_heap hB1 j
      have r0 := hrs 0; have r1 := hrs 1; have r2 := hrs 2; have r3 := hrs 3; have r4 := hrs 4; have r5 := hrs 5; have r6 := hrs 6
      have hrf := fun j => Lib.frozen_of_heap hB1 j
      have f0 := hrf 0; have f1 := hrf 1; have f2 := hrf 2; have f3 := hrf 3; have f4 := hrf 4; have f5 := hrf 5; have f6 := hrf 6
      simp only [List.getElem?_toArray, List.getElem?_cons_zero, List.getElem?_cons_succ] at a0 a1 a2 a3 a4 a5 a6 o0 o1 o2 o3 o4 o5 o6 r0 r1 r2 r3 r4 r5 r6
      have HW := Lib.hid (And.intro hown hbel)
      have hV : (∃ c, V = .slice none 0 0 ∧ c = 0) ∨ ∃ g c, V = .slice (some ⟨g, 0, none⟩) k c := by
        rcases hown.2 with ⟨h, _⟩ | ⟨g, c, _, h, _⟩
        · exact .inl ⟨0, h, rfl⟩
        · exact .inr ⟨g, c, h⟩
      clear hbs hos hrs hrf hB0 hB1 hB2 hown hbel
      rcases hV with ⟨_, rfl, _⟩ | ⟨g, c, rfl⟩
      all_goals
        go_wp2_with fail
        (try simp only [Exit.inBlock, Exit.then])
        refine bodyPost_ret (results_d rfl rfl (by go_simp) (by go_simp) (by go_simp) (by go_simp) (by go_simp) (by go_simp <;> rfl) (by go_simp)) rfl ⟨_, rfl, ?_, ?_⟩
        · have h := HW.out.1
          rw [List.take_of_length_le (by rw [HN.out]; exact Nat.le_refl _)] at h
          exact own_base (ownsRow_setCell_below (a := ⟨w.heap.size + 1, 6, none⟩) (ownsRow_setCell_below (a := ⟨w.heap.size + 1, 5, none⟩) (ownsRow_setCell_below (a := ⟨w.heap.size + 1, 4, none⟩) (ownsRow_setCell_below (a := ⟨w.heap.size + 1, 3, none⟩) (ownsRow_setCell_below (a := ⟨w.heap.size + 1, 2, none⟩) (ownsRow_setCell_below (a := ⟨w.heap.size + 1, 1, none⟩) (ownsRow_setCell_below (a := ⟨w.heap.size + 1, 0, none⟩) (h) (by show w.heap.size + 1 < w.heap.size + 3; omega) _) (by show w.heap.size + 1 < w.heap.size + 3; omega) _) (by show w.heap.size + 1 < w.heap.size + 3; omega) _) (by show w.heap.size + 1 < w.heap.size + 3; omega) _) (by show w.heap.size + 1 < w.heap.size + 3; omega) _) (by show w.heap.size + 1 < w.heap.size + 3; omega) _) (by show w.heap.size + 1 < w.heap.size + 3; omega) _) (show w.heap.size ≤ w.heap.size + 3 by omega)
        · exact (((((((HW.out.2).setCell (p := ⟨w.heap.size + 1, 0, none⟩) (by show w.heap.size ≤ w.heap.size + 1; omega) _).setCell (p := ⟨w.heap.size + 1, 1, none⟩) (by show w.heap.size ≤ w.heap.size + 1; omega) _).setCell (p := ⟨w.heap.size + 1, 2, none⟩) (by show w.heap.size ≤ w.heap.size + 1; omega) _).setCell (p := ⟨w.heap.size + 1, 3, none⟩) (by show w.heap.size ≤ w.heap.size + 1; omega) _).setCell (p := ⟨w.heap.size + 1, 4, none⟩) (by show w.heap.size ≤ w.heap.size + 1; omega) _).setCell (p := ⟨w.heap.size + 1, 5, none⟩) (by show w.heap.size ≤ w.heap.size + 1; omega) _).setCell (p := ⟨w.heap.size + 1, 6, none⟩) (by show w.heap.size ≤ w.heap.size + 1; omega) _
end
end Go.Proofs.YthdhdmmlmbkalaaGreatDoor
namespace Go.Proofs.YthdhdmmlmbkalaaGreatDoor
section
open Go.RowKit

mutual
def allT : LT → List LT
  | .mk k g la ln lc ys bb s ia ic items ta tc tail => .mk k g la ln lc ys bb s ia ic items ta tc tail :: (allR items ++ allR tail)
def allR : List LT → List LT
  | [] => []
  | t :: l => allT t ++ allR l
end
theorem allT_eq (t : LT) : allT t = t :: (allR t.items ++ allR t.tail) := by cases t; simp [allT, LT.items, LT.tail]
theorem allR_cons (t : LT) (l : List LT) : allR (t :: l) = allT t ++ allR l := by simp [allR]
theorem allR_nil : allR [] = [] := by simp [allR]
mutual
theorem allT_length : ∀ t : LT, (allT t).length = t.size
  | .mk k g la ln lc ys bb s ia ic items ta tc tail => by
    have h1 := allR_length items
    have h2 := allR_length tail
    rw [allT_eq, LT.size_eq]
    simp only [List.length_cons, List.length_append, LT.items, LT.tail]
    omega
theorem allR_length : ∀ l : List LT, (allR l).length = sizes l
  | [] => by simp [allR, sizes]
  | t :: l => by
    have h1 := allT_length t
    have h2 := allR_length l
    simp only [allR_cons, List.length_append, sizes]
    omega
end
def cellsAll : List LT → List Value
  | [] => []
  | t :: l => t.cells ++ cellsAll l
theorem cellsAll_append (l m : List LT) : cellsAll (l ++ m) = cellsAll l ++ cellsAll m := by induction l with | nil => rfl | cons t l ih => simp [cellsAll, ih]
theorem cellsAll_length (l : List LT) : (cellsAll l).length = l.length * 7 := by
  induction l with
  | nil => rfl
  | cons t l ih => simp only [cellsAll, List.length_append, ih, List.length_cons]; rw [show t.cells.length = 7 from rfl]; omega
theorem cellsAll_one : ∀ (l : List LT), ∀ u ∈ cellsAll l, u.oneCell' = true
  | [], u, h => by simp [cellsAll] at h
  | t :: l, u, h => by
    simp only [cellsAll, List.mem_append] at h
    rcases h with h | h
    · simp only [LT.cells, List.mem_cons, List.mem_nil_iff, or_false] at h
      rcases h with rfl | rfl | rfl | rfl | rfl | rfl | rfl <;> rfl
    · exact cellsAll_one l u h
def restA (t : LT) (j : Nat) : List LT := match j with | 0 => allR t.items ++ allR t.tail | 1 => allR t.tail | _ => []
theorem restA_step (t : LT) (j : Nat) (hj : j < 2) : restA t j = allR (listB t j) ++ restA t (j + 1) := by
  rcases (show j = 0 ∨ j = 1 by omega) with rfl | rfl
  · rfl
  · exact (List.append_nil _).symm
theorem own_open7 {w : World} {base size n : Nat} {e : TypeId} {v : Value} {xs : List Value} (h : w.ownsRow base e size v n xs) (hn : 1 ≤ n) : ∃ gb c, v = .slice (some ⟨gb, 0, none⟩) n c ∧ base ≤ gb := by
  rcases h.2 with ⟨_, h0⟩ | ⟨gb, c, cur, hv, hb, hg, h1, h2, _⟩
  · omega
  · exact ⟨gb, c, hv, hb⟩

end
end Go.Proofs.YthdhdmmlmbkalaaGreatDoor
