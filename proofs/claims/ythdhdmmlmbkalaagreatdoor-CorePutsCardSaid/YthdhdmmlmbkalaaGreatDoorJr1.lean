/-
  datum.held: the rows of a datum's lists are put on the stack. A datum that came in, opened: where its form is read (DataW.trod), a tree lies in memory. pavaneref03.budget of any tree: how many data there are, counted down. Expressions as trees, with where they lie; an expression that came in, opened. pavaneref03.Small and Few of any tree.
-/
import Derived.Test.YthdhdmmlmbkalaaGreatDoorJr0
import Derived.OwnWalk
import Derived.Test.YthdhdmmlmbkalaaGreatDoorChecked
import Derived.OpenShut
import Derived.ChangeSlices
import Derived.ProofKit
set_option linter.unusedVariables false
set_option linter.unusedSimpArgs false
set_option linter.unusedSectionVars false
set_option linter.unnecessarySimpa false
namespace Go.Proofs.YthdhdmmlmbkalaaGreatDoor
section
open Go.RowKit

theorem infoRow : (Tryz.prog.info? 128).map (fun i => (i.zero, i.size, i.bytes)) = some (some (.agg #[.slice none 0 0, .int .i64 0]), 2, 32) := by kernel_rfl
theorem row_news {w : World} {g : Nat} {x y : Value} (h : w.heap[g]? = some (.cells #[x, y] 128 (0, 0))) : ∀ j u, ([x, y] : List Value)[j]? = some u → w.cell? ((⟨g, 0, none⟩ : Addr).add j) = some u := by
  intro j u hu
  rw [cell_add]
  match j, hu with
  | 0, hu => simpa [World.cell?, h] using hu
  | 1, hu => simpa [World.cell?, h] using hu
  | j + 2, hu => simp at hu
theorem one_row (a : Option Addr) (n c : Nat) (k : Int) : ∀ u ∈ ([.slice a n c, .int .i64 k] : List Value), u.oneCell' = true := by
  intro u hu; simp at hu; rcases hu with rfl | rfl <;> rfl

/-- What may be another one without its owner's doing: a stack of told's, a loop's record and the like. -/
def Mut (o : Obj) : Prop := (∃ c fr, o = .cells c 128 fr) ∨ ∀ c T fr, o ≠ .cells c T fr
/-- Below base all is as it was; above, only such as Mut knows is another one. -/
structure Fine (base : Nat) (w w' : World) : Prop extends Below base w w' where
  kept : ∀ i, i < w.heap.size → w'.heap[i]? = w.heap[i]? ∨ ∃ o, w.heap[i]? = some o ∧ Mut o
theorem Fine.refl (base : Nat) (w : World) : Fine base w w := ⟨Below.refl base w, fun _ _ => .inl rfl⟩
theorem Fine.trans {base : Nat} {a b c : World} (h : Fine base a b) (k : Fine base b c) : Fine base a c := ⟨h.toBelow.trans k.toBelow, fun i hi => by
  rcases h.kept i hi with e | e
  · rcases k.kept i (Nat.lt_of_lt_of_le hi h.size) with e2 | ⟨o, ho, hm⟩
    · exact .inl (e2.trans e)
    · exact .inr ⟨o, by rw [← e]; exact ho, hm⟩
  · exact .inr e⟩
theorem Fine.mono {base base' : Nat} {a b : World} (h : Fine base a b) (hb : base' ≤ base) : Fine base' a b := ⟨h.toBelow.mono hb, h.kept⟩
theorem Fine.new {base : Nat} {a b : World} (h : Below a.heap.size a b) (hb : base ≤ a.heap.size) : Fine base a b := ⟨h.mono hb, fun i hi => .inl (h.block i hi)⟩
theorem Fine.at_ {base : Nat} {a b : World} {g : Nat} {o : Obj} (h : Below base a b) (hg : a.heap[g]? = some o) (hm : Mut o) (hk : ∀ i, i < a.heap.size → i ≠ g → b.heap[i]? = a.heap[i]?) : Fine base a b := ⟨h, fun i hi => by
  by_cases e : i = g
  · subst e
    exact .inr ⟨o, hg, hm⟩
  · exact .inl (hk i hi e)⟩
theorem ownRow_row {w : World} {base : Nat} {v : Value} {n g : Nat} {xs : List Value} (h : w.ownsRow base 128 2 v n xs) (hg : v.ownBlock = some g) : ∃ c, w.heap[g]? = some (.cells c 128 (0, 0)) := by
  rcases h.2 with ⟨hv, _⟩ | ⟨g', cap, cur, hv, hb, hc, _⟩
  · rw [hv] at hg; cases hg
  · rw [hv] at hg
    have e : g' = g := Option.some.inj hg
    subst e
    exact ⟨cur, hc⟩
theorem fine_grown {w w1 : World} {base n : Nat} {v : Value} {xs : List Value} {o : Obj} (hown : w.ownsRow base 128 2 v n xs) (hb : base ≤ w.heap.size) (hg : (w.alloc o).grownBy w1 v.ownBlock) : Fine base w w1 := by
  refine ⟨((Below.refl base w).alloc hb _).grown hg (by simp; omega) (fun k hk => (hown.lt k hk).1), fun i hi => ?_⟩
  by_cases e : v.ownBlock = some i
  · obtain ⟨c, hc⟩ := ownRow_row hown e
    exact .inr ⟨_, hc, .inl ⟨c, _, rfl⟩⟩
  · exact .inl ((hg.block i (by simp; omega) (fun h => e h.symm)).trans (Below.heap_alloc w o i hi))
/-- All blocks but those of X lie as they lay, and but rows of data from base on. -/
def ButU (base : Nat) (X : Nat → Prop) (w w' : World) : Prop := w.heap.size ≤ w'.heap.size ∧ ∀ k, k < w.heap.size → ¬ X k → w'.heap[k]? = w.heap[k]? ∨ (base ≤ k ∧ ∃ c fr, w.heap[k]? = some (.cells c 27 fr))
theorem ButU.refl (base : Nat) (X : Nat → Prop) (w : World) : ButU base X w w := ⟨Nat.le_refl _, fun _ _ _ => .inl rfl⟩
theorem ButU.low {base : Nat} {X : Nat → Prop} {w w' : World} (h : ButU base X w w') {k : Nat} (hk : k < w.heap.size) (hb : k < base) (hx : ¬ X k) : w'.heap[k]? = w.heap[k]? := by
  rcases h.2 k hk hx with e | ⟨h1, _⟩
  · exact e
  · omega
theorem ButU.trans {base : Nat} {X : Nat → Prop} {a b c : World} (h : ButU base X a b) (k : ButU base X b c) : ButU base X a c := ⟨Nat.le_trans h.1 k.1, fun i hi hx => by
  rcases h.2 i hi hx with e | e
  · rcases k.2 i (Nat.lt_of_lt_of_le hi h.1) hx with e2 | ⟨h2, o, fr, ho⟩
    · exact .inl (e2.trans e)
    · exact .inr ⟨h2, o, fr, by rw [← e]; exact ho⟩
  · exact .inr e⟩
theorem ButU.mono {base : Nat} {X Y : Nat → Prop} {a b : World} (h : ButU base X a b) (hxy : ∀ k, X k → Y k) : ButU base Y a b := ⟨h.1, fun k hk hy => h.2 k hk fun hx => hy (hxy k hx)⟩
theorem ButU.more {base base' : Nat} {X : Nat → Prop} {a b : World} (h : ButU base X a b) (hb : base' ≤ base) : ButU base' X a b := ⟨h.1, fun k hk hx => by
  rcases h.2 k hk hx with e | ⟨h1, e⟩
  · exact .inl e
  · exact .inr ⟨Nat.le_trans hb h1, e⟩⟩
theorem ButU.new {base : Nat} {X : Nat → Prop} {a b : World} (h : Below a.heap.size a b) : ButU base X a b := ⟨h.size, fun k hk _ => .inl (h.block k hk)⟩
theorem ButU.cells {base : Nat} {X : Nat → Prop} {w w' : World} (h : ButU base X w w') {k : Nat} {o : Obj} (ho : w.heap[k]? = some o) (hx : ¬ X k) (hn : ∀ c fr, o ≠ .cells c 27 fr) : w'.heap[k]? = some o := by
  rcases h.2 k (Array.getElem?_eq_some_iff.1 ho).1 hx with e | ⟨_, c, fr, e⟩
  · rw [e]; exact ho
  · rw [ho] at e
    injection e with e
    exact absurd e (hn c fr)
theorem ButU.still {base k : Nat} {X : Nat → Prop} {w w' : World} (h : ButU base X w w') (hk : k < w.heap.size) (hx : ¬ X k) (ht : k < base ∨ ∃ c fr, w.heap[k]? = some (.cells c 107 fr)) : w'.heap[k]? = w.heap[k]? := by
  rcases ht with h1 | ⟨c, fr, hc⟩
  · exact h.low hk h1 hx
  · rw [hc]; exact h.cells hc hx (fun c fr e => by injection e with _ e2; exact absurd e2 (by decide))
theorem own_butU {w w' : World} {B base n : Nat} {X : Nat → Prop} {v : Value} {xs : List Value} (h : w.ownsRow B 128 2 v n xs) (hu : ButU base X w w') (hx : ∀ k, B ≤ k → k < w.heap.size → ¬ X k) : w'.ownsRow B 128 2 v n xs := by
  refine ⟨h.1, ?_⟩
  rcases h.2 with hn | ⟨g, cap, cur, hv, hb, hg, rest⟩
  · exact .inl hn
  · exact .inr ⟨g, cap, cur, hv, hb, hu.cells hg (hx g hb (Array.getElem?_eq_some_iff.1 hg).1) (fun c fr e => by injection e with _ e2; exact absurd e2 (by decide)), rest⟩
/-- What held leaves. -/
def HeldPost (base : Nat) (st : List Ent) (w : World) (e : Ending) (w' : World) : Prop := ∃ v', e = .returned v' ∧ w'.ownsRow base 128 2 v' st.length (stCells st) ∧ Fine base w w'

set_option maxRecDepth 100000 in
set_option maxHeartbeats 1600000 in
theorem held_both (v : Value) (st : List Ent) (t : LT) (b o lev M base : Nat) (w : World) (hown : w.ownsRow base 128 2 v st.length (stCells st)) (ht : Lies w M t b o) (hM : M ≤ base) (hb : base ≤ w.heap.size)
    (hlen : st.length ≤ 1000000000) (h1 : 0 < t.items.length) (h2 : 0 < t.tail.length) :
    Calls Tryz.prog 89 #[v, .pointer (some ⟨b, o, none⟩), .int .i64 (lev : Nat)] w (HeldPost base (pushed t lev st) w) := by
  obtain ⟨i0, hi, hz0, hz1, hz2⟩ := info_parts infoRow
  obtain ⟨hbM, hcell, _, h4, h5, _, _⟩ := lies_eq.1 ht
  have c5 : w.cell? ⟨b, o + 5, none⟩ = some (.slice t.ia t.items.length t.ic) := hcell 5 _ rfl
  have c6 : w.cell? ⟨b, o + 6, none⟩ = some (.slice t.ta t.tail.length t.tc) := hcell 6 _ rfl
  have ea := (h4.2.2.1 h1).1
  have eb := (h5.2.2.1 h2).1
  have m1 := Nat.le_trans h4.1 h4.2.1
  have m2 := Nat.le_trans h5.1 h5.2.1
  unfold maxLen at m1 m2
  rw [pushed, pushE_cons h2, pushE_cons h1]
  generalize blk t.ia = xb at *
  generalize ofs t.ia = xo at *
  generalize blk t.ta = yb at *
  generalize ofs t.ta = yo at *
  generalize t.ic = xc at *
  generalize t.tc = yc at *
  generalize hIt : t.items = xs at *
  generalize hTa : t.tail = ys at *
  rw [ea] at c5
  rw [eb] at c6
  have H1 := Lib.hid ht
  clear ht hcell ea eb h4 h5 hIt hTa
  generalize hm : xs.length = m at *
  generalize hk : ys.length = k at *
  have HM := Lib.hid (And.intro hm hk)
  clear hm hk
  go_enter Tryz.func89, Tryz.ntmps89
  go_wp2_with (first | (at_builtin; refine wpList_append_own _ rfl (.tmp 13) (.tmp 20) 124 rfl base 128 i0 (.agg #[.slice none 0 0, .int .i64 0]) 2 32 Tryz.underlying124 hi hz0 hz1 hz2 rfl (by decide) v st.length (stCells st) rfl (hown.alloc _) ⟨w.heap.size, 0, none⟩ 1 1 [.slice (some ⟨yb, yo, none⟩) k yc, .int .i64 (lev : Nat)] rfl rfl (row_news (heap_alloc_new _ _)) (one_row _ _ _ _) (by unfold maxLen; omega) (by omega) (by simp; omega) ?_; intro v1 w1 own1 grow1 _; have b1 : Fine base w w1 := fine_grown hown hb grow1; have c5' : w1.cell? ⟨b, o + 5, none⟩ = some (.slice (some ⟨xb, xo, none⟩) m xc) := (b1.cell (p := ⟨b, o + 5, none⟩) (by show b < base; omega)).trans c5; have hb1 : base ≤ w1.heap.size := (by have := b1.size; omega); clear grow1) | (at_builtin; refine wpList_append_own _ rfl (.tmp 28) (.tmp 35) 124 rfl base 128 i0 (.agg #[.slice none 0 0, .int .i64 0]) 2 32 Tryz.underlying124 hi hz0 hz1 hz2 rfl (by decide) v1 (st.length + 1) _ rfl (own1.alloc _) ⟨w1.heap.size, 0, none⟩ 1 1 [.slice (some ⟨xb, xo, none⟩) m xc, .int .i64 (lev : Nat)] rfl rfl (row_news (heap_alloc_new _ _)) (one_row _ _ _ _) (by unfold maxLen; omega) (by omega) (by simp; omega) ?_; intro v2 w2 own2 grow2 _; have b2 : Fine base w w2 := b1.trans (fine_grown own1 hb1 grow2); clear grow2))
  go_ret
  refine ⟨v2, rfl, ?_, b2⟩
  simp only [stCells, Ent.cells, List.length_cons, HM.out.1, HM.out.2]
  exact own2

set_option maxRecDepth 100000 in
set_option maxHeartbeats 1600000 in
theorem held_items (v : Value) (st : List Ent) (t : LT) (b o lev M base : Nat) (w : World) (hown : w.ownsRow base 128 2 v st.length (stCells st)) (ht : Lies w M t b o) (_hM : M ≤ base) (hb : base ≤ w.heap.size)
    (hlen : st.length ≤ 1000000000) (h1 : 0 < t.items.length) (h2 : t.tail.length = 0) :
    Calls Tryz.prog 89 #[v, .pointer (some ⟨b, o, none⟩), .int .i64 (lev : Nat)] w (HeldPost base (pushed t lev st) w) := by
  obtain ⟨i0, hi, hz0, hz1, hz2⟩ := info_parts infoRow
  obtain ⟨hbM, hcell, _, h4, h5, _, _⟩ := lies_eq.1 ht
  have c5 : w.cell? ⟨b, o + 5, none⟩ = some (.slice t.ia t.items.length t.ic) := hcell 5 _ rfl
  have c6 : w.cell? ⟨b, o + 6, none⟩ = some (.slice t.ta t.tail.length t.tc) := hcell 6 _ rfl
  have ea := (h4.2.2.1 h1).1
  have m1 := Nat.le_trans h4.1 h4.2.1
  unfold maxLen at m1
  rw [pushed, pushE_nil h2, pushE_cons h1]
  generalize blk t.ia = xb at *
  generalize ofs t.ia = xo at *
  generalize t.ic = xc at *
  generalize hIt : t.items = xs at *
  rw [ea] at c5
  rw [h2] at c6
  clear ht hcell ea h4 h5 hIt h2
  generalize hm : xs.length = m at *
  have HM := Lib.hid hm
  clear hm
  go_enter Tryz.func89, Tryz.ntmps89
  go_wp2_with (at_builtin; refine wpList_append_own _ rfl (.tmp 28) (.tmp 35) 124 rfl base 128 i0 (.agg #[.slice none 0 0, .int .i64 0]) 2 32 Tryz.underlying124 hi hz0 hz1 hz2 rfl (by decide) v st.length (stCells st) rfl (hown.alloc _) ⟨w.heap.size, 0, none⟩ 1 1 [.slice (some ⟨xb, xo, none⟩) m xc, .int .i64 (lev : Nat)] rfl rfl (row_news (heap_alloc_new _ _)) (one_row _ _ _ _) (by unfold maxLen; omega) (by omega) (by simp; omega) ?_; intro v1 w1 own1 grow1 _; have b1 : Fine base w w1 := fine_grown hown hb grow1; clear grow1)
  go_ret
  refine ⟨v1, rfl, ?_, b1⟩
  simp only [stCells, Ent.cells, List.length_cons, HM.out]
  exact own1

set_option maxRecDepth 100000 in
set_option maxHeartbeats 1600000 in
theorem held_tail (v : Value) (st : List Ent) (t : LT) (b o lev M base : Nat) (w : World) (hown : w.ownsRow base 128 2 v st.length (stCells st)) (ht : Lies w M t b o) (hM : M ≤ base) (hb : base ≤ w.heap.size)
    (hlen : st.length ≤ 1000000000) (h1 : t.items.length = 0) (h2 : 0 < t.tail.length) :
    Calls Tryz.prog 89 #[v, .pointer (some ⟨b, o, none⟩), .int .i64 (lev : Nat)] w (HeldPost base (pushed t lev st) w) := by
  obtain ⟨i0, hi, hz0, hz1, hz2⟩ := info_parts infoRow
  obtain ⟨hbM, hcell, _, h4, h5, _, _⟩ := lies_eq.1 ht
  have c5 : w.cell? ⟨b, o + 5, none⟩ = some (.slice t.ia t.items.length t.ic) := hcell 5 _ rfl
  have c6 : w.cell? ⟨b, o + 6, none⟩ = some (.slice t.ta t.tail.length t.tc) := hcell 6 _ rfl
  have eb := (h5.2.2.1 h2).1
  have m2 := Nat.le_trans h5.1 h5.2.1
  unfold maxLen at m2
  rw [pushed, pushE_cons h2, pushE_nil h1]
  generalize blk t.ta = yb at *
  generalize ofs t.ta = yo at *
  generalize t.tc = yc at *
  generalize hTa : t.tail = ys at *
  rw [eb] at c6
  rw [h1] at c5
  clear ht hcell eb h4 h5 hTa h1
  generalize hk : ys.length = k at *
  have HM := Lib.hid hk
  clear hk
  go_enter Tryz.func89, Tryz.ntmps89
  go_wp2_with (at_builtin; refine wpList_append_own _ rfl (.tmp 13) (.tmp 20) 124 rfl base 128 i0 (.agg #[.slice none 0 0, .int .i64 0]) 2 32 Tryz.underlying124 hi hz0 hz1 hz2 rfl (by decide) v st.length (stCells st) rfl (hown.alloc _) ⟨w.heap.size, 0, none⟩ 1 1 [.slice (some ⟨yb, yo, none⟩) k yc, .int .i64 (lev : Nat)] rfl rfl (row_news (heap_alloc_new _ _)) (one_row _ _ _ _) (by unfold maxLen; omega) (by omega) (by simp; omega) ?_; intro v1 w1 own1 grow1 _; have b1 : Fine base w w1 := fine_grown hown hb grow1; have c5' : w1.cell? ⟨b, o + 5, none⟩ = some (.slice t.ia 0 t.ic) := (b1.cell (p := ⟨b, o + 5, none⟩) (by show b < base; omega)).trans c5; clear grow1)
  go_ret
  refine ⟨v1, rfl, ?_, b1⟩
  simp only [stCells, Ent.cells, List.length_cons, HM.out]
  exact own1

set_option maxRecDepth 100000 in
set_option maxHeartbeats 1600000 in
theorem held_none (v : Value) (st : List Ent) (t : LT) (b o lev M base : Nat) (w : World) (hown : w.ownsRow base 128 2 v st.length (stCells st)) (ht : Lies w M t b o) (_hM : M ≤ base) (_hb : base ≤ w.heap.size)
    (_hlen : st.length ≤ 1000000000) (h1 : t.items.length = 0) (h2 : t.tail.length = 0) :
    Calls Tryz.prog 89 #[v, .pointer (some ⟨b, o, none⟩), .int .i64 (lev : Nat)] w (HeldPost base (pushed t lev st) w) := by
  obtain ⟨i0, hi, hz0, hz1, hz2⟩ := info_parts infoRow
  obtain ⟨hbM, hcell, _, h4, h5, _, _⟩ := lies_eq.1 ht
  have c5 : w.cell? ⟨b, o + 5, none⟩ = some (.slice t.ia t.items.length t.ic) := hcell 5 _ rfl
  have c6 : w.cell? ⟨b, o + 6, none⟩ = some (.slice t.ta t.tail.length t.tc) := hcell 6 _ rfl
  rw [pushed, pushE_nil h2, pushE_nil h1]
  rw [h2] at c6
  rw [h1] at c5
  clear ht hcell h4 h5 h1 h2
  go_enter Tryz.func89, Tryz.ntmps89
  go_wp2_with fail
  go_ret
  exact ⟨v, rfl, hown, Fine.refl _ _⟩

/-- What held leaves, whatever the datum holds. -/
theorem held_any (v : Value) (st : List Ent) (t : LT) (b o lev M base : Nat) (w : World) (hown : w.ownsRow base 128 2 v st.length (stCells st)) (ht : Lies w M t b o) (hM : M ≤ base) (hb : base ≤ w.heap.size)
    (hlen : st.length ≤ 1000000000) :
    Calls Tryz.prog 89 #[v, .pointer (some ⟨b, o, none⟩), .int .i64 (lev : Nat)] w (HeldPost base (pushed t lev st) w) := by
  by_cases h1 : t.items.length = 0 <;> by_cases h2 : t.tail.length = 0
  · exact held_none v st t b o lev M base w hown ht hM hb hlen h1 h2
  · exact held_tail v st t b o lev M base w hown ht hM hb hlen h1 (by omega)
  · exact held_items v st t b o lev M base w hown ht hM hb hlen (by omega) h2
  · exact held_both v st t b o lev M base w hown ht hM hb hlen (by omega) (by omega)
end
end Go.Proofs.YthdhdmmlmbkalaaGreatDoor
namespace Go.Proofs.YthdhdmmlmbkalaaGreatDoor
section
open Go.ChangeShapes Go.WideShapes Go.ChangeAt Go.RowKit

/-- What a datum's value holds lies below M (the value itself need not lie in memory). -/
def Held (w : World) (M : Nat) (t : LT) : Prop := (Sl w t.la t.ln t.lc t.ys ∧ (0 < t.ln → blk t.la < M) ∧ t.s.size ≤ maxLen) ∧ Spot M t.ia t.items.length t.ic ∧ Spot M t.ta t.tail.length t.tc ∧
  LiesR w M t.items (blk t.ia) (ofs t.ia) ∧ LiesR w M t.tail (blk t.ta) (ofs t.ta)
theorem lies_held {w : World} {M : Nat} {t : LT} {b o : Nat} : Lies w M t b o ↔ b < M ∧ (∀ j v, t.cells[j]? = some v → w.cell? ⟨b, o + j, none⟩ = some v) ∧ Held w M t := lies_eq
theorem liesR_iff {w : World} {M : Nat} : ∀ (l : List LT) (b o : Nat), LiesR w M l b o ↔ ∀ i (h : i < l.length), Lies w M l[i] b (o + 7 * i)
  | [], b, o => by simp
  | t :: l, b, o => by
    rw [liesR_cons, liesR_iff l b (o + 7)]
    constructor
    · rintro ⟨h1, h2⟩ i hi
      cases i with
      | zero => exact h1
      | succ i =>
        have := h2 i (by simpa using hi)
        rw [show o + 7 * (i + 1) = o + 7 + 7 * i by omega]
        exact this
    · intro h
      refine ⟨h 0 (by simp), fun i hi => ?_⟩
      have := h (i + 1) (by simpa using hi)
      rw [show o + 7 + 7 * i = o + 7 * (i + 1) by omega]
      exact this
theorem exists_list {α : Type} {P : Nat → α → Prop} : ∀ n, (∀ i, i < n → ∃ t, P i t) → ∃ l : List α, l.length = n ∧ ∀ i (h : i < l.length), P i l[i]
  | 0, _ => ⟨[], rfl, fun i h => by simp at h⟩
  | n + 1, H => by
    obtain ⟨l, hl, hp⟩ := exists_list n fun i hi => H i (by omega)
    obtain ⟨t, ht⟩ := H n (by omega)
    refine ⟨l ++ [t], by simp [hl], fun i h => ?_⟩
    by_cases hi : i < l.length
    · rw [List.getElem_append_left hi]
      exact hp i hi
    · have : i = l.length := by simp at h; omega
      subst this
      rw [List.getElem_append_right (by omega)]
      simp only [Nat.sub_self, List.getElem_cons_zero]
      rw [hl]
      exact ht

section
variable {H : Type} {enc : TypeId × Value → H} {w : World} {sp : Nat → Bool} {held : Bool}

theorem cells_at {a : Addr} {n : Nat} {cs : List Value} (h : w.cells? 0 a n = some cs) : cs.length = n ∧ ∀ j, j < n → w.cell? (a.add j) = cs[j]? := by
  unfold World.cells? at h
  rw [if_pos (Nat.zero_le _)] at h
  exact ⟨by simpa using mapM_some_length h, fun j hj => mapM_some_get h j j (by simp [hj])⟩

theorem lit1_of_trod {t : TypeId} {k : IntKind} {n : Nat} {cs : List Value} {x : DataW H × List MemPlace} (hu : Tryz.prog.underlying t = some (.int k)) (h : DataW.trod enc Tryz.prog w 0 sp held n t cs = some x) : ∃ z, cs = [.int k z] ∧ (Lit.int k z).wf = true := by
  cases n with
  | zero => simp [DataW.trod] at h
  | succ n =>
    unfold DataW.trod at h
    rw [hu] at h
    split at h <;> simp_all
theorem bool1_of_trod {t : TypeId} {n : Nat} {cs : List Value} {x : DataW H × List MemPlace} (hu : Tryz.prog.underlying t = some .bool) (h : DataW.trod enc Tryz.prog w 0 sp held n t cs = some x) : ∃ b, cs = [.bool b] := by
  cases n with
  | zero => simp [DataW.trod] at h
  | succ n =>
    unfold DataW.trod at h
    rw [hu] at h
    split at h <;> simp_all
theorem str1_of_trod {t : TypeId} {n : Nat} {cs : List Value} {x : DataW H × List MemPlace} (hu : Tryz.prog.underlying t = some .string) (h : DataW.trod enc Tryz.prog w 0 sp held n t cs = some x) : ∃ s, cs = [.string s] ∧ s.size ≤ maxLen := by
  cases n with
  | zero => simp [DataW.trod] at h
  | succ n =>
    unfold DataW.trod at h
    rw [hu] at h
    split at h <;> simp_all

theorem sl_of_trod {n : Nat} {cs : List Value} {x : DataW H × List MemPlace} (h : DataW.trod enc Tryz.prog w 0 sp held n 22 cs = some x) :
    ∃ a ln lc ys, cs = [.slice a ln lc] ∧ Sl w a ln lc ys ∧ (0 < ln → blk a < w.heap.size) := by
  rcases open_ints Tryz.underlying22 Tryz.underlying149 (by kernel_rfl) h with ⟨rfl, _⟩ | ⟨a, len, cap, zs, rfl, _, hl, hm, hz, _, hcell, hwz⟩
  · exact ⟨none, 0, 0, [], rfl, Sl.nil, fun h => absurd h (by decide)⟩
  · have hle : len ≤ zs.length := by rw [hz]; split <;> omega
    have hpl : 0 < len → ∃ b off, a = ⟨b, off, none⟩ ∧ b < w.heap.size := by
      intro hp
      obtain ⟨b, off, spot⟩ := a
      have hc := hcell 0 (by omega)
      have hspot : spot = none := by simpa [Addr.add] using World.cell?_spot hc
      subst hspot
      have := World.block_lt_of_cell? w _ hc
      exact ⟨b, off, rfl, by simpa [Addr.add] using this⟩
    refine ⟨some a, len, cap, (zs.take len).map Int.toNat, rfl, ⟨by rw [List.length_map, List.length_take]; omega, hl, hm, ?_, ?_, fun e => by cases e⟩, ?_⟩
    · intro y hy
      obtain ⟨z, hz1, rfl⟩ := List.mem_map.1 hy
      have := hwz z (List.mem_of_mem_take hz1)
      have := bounds_u32 this
      omega
    · intro hp
      obtain ⟨b, off, rfl, hb⟩ := hpl hp
      refine ⟨b, off, rfl, hb, fun i hi => ?_⟩
      have h1 := hcell i (by omega)
      have hadd : (⟨b, off, none⟩ : Addr).add i = ⟨b, off + i, none⟩ := by unfold Addr.add; split <;> simp_all
      rw [hadd] at h1
      rw [h1, lim_eq]
      have hzi : zs.getD i 0 = zs[i]'(by omega) := by rw [List.getD_eq_getElem?_getD, List.getElem?_eq_getElem (by omega)]; rfl
      have hb := bounds_u32 (hwz (zs[i]'(by omega)) (List.getElem_mem _))
      rw [hzi, List.getElem?_map, List.getElem?_take_of_lt hi, List.getElem?_eq_getElem (by omega)]
      simp
      omega
    · intro hp
      obtain ⟨b, off, rfl, hb⟩ := hpl hp
      exact hb

theorem datumCells : Tryz.prog.cellsOf 27 = 7 := by kernel_rfl
theorem intCells : Tryz.prog.cellsOf 24 = 2 := by kernel_rfl

theorem list7 {α : Type} : ∀ {l : List α}, l.length = 7 → ∃ c0 c1 c2 c3 c4 c5 c6, l = [c0, c1, c2, c3, c4, c5, c6]
  | [a, b, c, d, e, f, g], _ => ⟨a, b, c, d, e, f, g, rfl⟩
theorem cells1 : Tryz.prog.cellsOf 3 = 1 ∧ Tryz.prog.cellsOf 4 = 1 ∧ Tryz.prog.cellsOf 9 = 1 ∧ Tryz.prog.cellsOf 25 = 1 ∧ Tryz.prog.cellsOf 22 = 1 := ⟨by kernel_rfl, by kernel_rfl, by kernel_rfl, by kernel_rfl, by kernel_rfl⟩
theorem trod_at {P : Program} {base m : Nat} {t : TypeId} {cs cs' : List Value} {o n : Nat} {r : Option (DataW H × List MemPlace)} (hc : P.cellsOf t = n) (h : DataW.trod enc P w base sp held m t ((cs.drop o).take (P.cellsOf t)) = r) (e : (cs.drop o).take n = cs') : DataW.trod enc P w base sp held m t cs' = r := by
  rw [hc, e] at h
  exact h

end
end
end Go.Proofs.YthdhdmmlmbkalaaGreatDoor
namespace Go.Proofs.YthdhdmmlmbkalaaGreatDoor
section
open Go.RowKit

mutual
def budT : LT → Int → Int → Int
  | .mk _ _ _ _ _ _ _ _ _ _ items _ _ tail, left, deep => if left - 1 < 0 ∨ deep ≤ 0 then -1 else budR tail (budR items (left - 1) (deep - 1)) (deep - 1)
def budR : List LT → Int → Int → Int
  | [], left, _ => left
  | t :: l, left, deep => if budT t left deep < 0 then -1 else budR l (budT t left deep) deep
end
theorem budT_eq (t : LT) (left deep : Int) : budT t left deep = if left - 1 < 0 ∨ deep ≤ 0 then -1 else budR t.tail (budR t.items (left - 1) (deep - 1)) (deep - 1) := by cases t; simp [budT, LT.items, LT.tail]
theorem budR_cons (t : LT) (l : List LT) (left deep : Int) : budR (t :: l) left deep = if budT t left deep < 0 then -1 else budR l (budT t left deep) deep := by simp [budR]
theorem budR_nil (left deep : Int) : budR [] left deep = left := by simp [budR]
theorem budR_neg (l : List LT) (deep : Int) : budR l (-1) deep = -1 := by
  cases l with
  | nil => exact budR_nil _ _
  | cons t l =>
    have : budT t (-1) deep = -1 := by rw [budT_eq, if_pos (.inl (by decide))]
    rw [budR_cons, this, if_pos (by decide)]
mutual
theorem budT_bd : ∀ (t : LT) (left deep : Int), 0 ≤ left → -1 ≤ budT t left deep ∧ budT t left deep ≤ left
  | .mk k g la ln lc ys bb s ia ic items ta tc tail, left, deep, h => by
    rw [budT_eq]
    by_cases hx : left - 1 < 0 ∨ deep ≤ 0
    · rw [if_pos hx]; omega
    · rw [if_neg hx]
      have h1 := budR_bd items (left - 1) (deep - 1) (by omega)
      have h2 := budR_bd tail (budR items (left - 1) (deep - 1)) (deep - 1) (by omega)
      simp only [LT.items, LT.tail]
      omega
theorem budR_bd : ∀ (l : List LT) (left deep : Int), -1 ≤ left → -1 ≤ budR l left deep ∧ budR l left deep ≤ left
  | [], left, deep, h => by rw [budR_nil]; omega
  | t :: l, left, deep, h => by
    by_cases hl : left = -1
    · subst hl; rw [budR_neg]; omega
    · have h1 := budT_bd t left deep (by omega)
      rw [budR_cons]
      by_cases hx : budT t left deep < 0
      · rw [if_pos hx]; omega
      · rw [if_neg hx]
        have h2 := budR_bd l (budT t left deep) deep (by omega)
        omega
end
/-- What is left to count. -/
def restB (t : LT) (d : Int) (j : Nat) (L : Int) : Int := match j with | 0 => budR t.tail (budR t.items L d) d | 1 => budR t.tail L d | _ => L
def listB (t : LT) (j : Nat) : List LT := match j with | 0 => t.items | _ => t.tail
theorem restB_step (t : LT) (d : Int) (j : Nat) (hj : j < 2) (L : Int) : restB t d j L = restB t d (j + 1) (budR (listB t j) L d) := by
  rcases (show j = 0 ∨ j = 1 by omega) with rfl | rfl <;> rfl
theorem restB_neg (t : LT) (d : Int) (j : Nat) (hj : j < 2) : restB t d (j + 1) (-1) = -1 := by
  rcases (show j = 0 ∨ j = 1 by omega) with rfl | rfl
  · exact budR_neg _ _
  · rfl
theorem Held.keep {w w' : World} {M : Nat} {t : LT} (h : Held w M t) (hs : w.heap.size ≤ w'.heap.size) (hk : ∀ k, k < M → w'.heap[k]? = w.heap[k]?) : Held w' M t :=
  ⟨⟨h.1.1.keepM hs h.1.2.1 hk, h.1.2⟩, h.2.1, h.2.2.1, h.2.2.2.1.keep hs hk, h.2.2.2.2.keep hs hk⟩
theorem sizes_mem {l : List LT} {k : Nat} (h : k < l.length) : l[k].size ≤ sizes l := by
  induction l generalizing k with
  | nil => simp at h
  | cons t l ih =>
    simp only [sizes]
    cases k with
    | zero => simp
    | succ k =>
      have := ih (k := k) (by simpa using h)
      simp only [List.getElem_cons_succ]
      omega

theorem run_two (A : Array Value) (j : Nat) (x : Value) (w : World) (hj : j < 2) (h : A[j]? = some x) (hx : x.cells.size = 1) : (Instr.index 111 (.agg A) (.int .i64 (j : Int))).run Tryz.prog w = .ok x w := by
  simp [Instr.index, asIntOf, part, Sem.run_bind, run_underlying Tryz.underlying111, go_sem, h, hj]

set_option maxRecDepth 100000 in
set_option maxHeartbeats 6400000 in
theorem budget_ok (M : Nat) : ∀ (N : Nat) (t : LT), t.size ≤ N → ∀ (left deep : Int) (w : World), M ≤ w.heap.size → Held w M t → 0 ≤ left → left ≤ 1000000 → 0 ≤ deep → deep ≤ 1000000 →
    Calls Tryz.prog 59 #[.agg #[.int .i64 t.k, .bool t.g, .slice t.la t.ln t.lc, .bool t.bb, .string t.s, .slice t.ia t.items.length t.ic, .slice t.ta t.tail.length t.tc], .int .i64 left, .int .i64 deep] w fun e w' => e = .returned (.int .i64 (budT t left deep)) ∧ Below w.heap.size w w' := by
  intro N
  induction N with
  | zero => intro t ht; rw [t.size_eq] at ht; omega
  | succ N ih =>
    intro t ht left deep w hM hH hl0 hl1 hd0 hd1
    have IH := Lib.hid ih
    clear ih
    by_cases hx : left - 1 < 0
    · have HR := Lib.hid (show budT t left deep = -1 by rw [budT_eq, if_pos (.inl hx)])
      go_enter Tryz.func59, Tryz.ntmps59
      go_wp2_with fail
      go_ret
      exact ⟨by rw [HR.out]; rfl, (Below.refl _ w).alloc (Nat.le_refl _) _⟩
    by_cases hy : deep ≤ 0
    · have HR := Lib.hid (show budT t left deep = -1 by rw [budT_eq, if_pos (.inr hy)])
      go_enter Tryz.func59, Tryz.ntmps59
      go_wp2_with fail
      go_ret
      exact ⟨by rw [HR.out]; rfl, (Below.refl _ w).alloc (Nat.le_refl _) _⟩
    have HT := Lib.hid (show budT t left deep = restB t (deep - 1) 0 (left - 1) by rw [budT_eq, if_neg (by omega)]; rfl)
    have HHH := Lib.hid hH
    have HSZ := Lib.hid (show sizes (listB t 0) ≤ N ∧ sizes (listB t 1) ≤ N by rw [t.size_eq] at ht; simp only [listB]; omega)
    clear hH ht
    go_enter Tryz.func59, Tryz.ntmps59
    go_wp2_with fail
    obtain ⟨A, hA⟩ : ∃ A, A = (#[.slice t.ia t.items.length t.ic, .slice t.ta t.tail.length t.tc] : Array Value) := ⟨_, rfl⟩
    have HAT := Lib.hid (show ∀ j, j < 2 → ∃ a c, A[j]? = some (.slice a (listB t j).length c) ∧ Spot M a (listB t j).length c ∧ LiesR w M (listB t j) (blk a) (ofs a) by
      intro j hj
      rcases (show j = 0 ∨ j = 1 by omega) with rfl | rfl
      · exact ⟨t.ia, t.ic, by rw [hA]; rfl, HHH.out.2.1, HHH.out.2.2.2.1⟩
      · exact ⟨t.ta, t.tc, by rw [hA]; rfl, HHH.out.2.2.1, HHH.out.2.2.2.2⟩)
    have hb0 : Below w.heap.size w (w.alloc (Obj.cells #[.int .i64 t.k, .bool t.g, .slice t.la t.ln t.lc, .bool t.bb, .string t.s, .slice t.ia t.items.length t.ic, .slice t.ta t.tail.length t.tc] 27)) := (Below.refl _ w).alloc (Nat.le_refl _) _
    rw [← hA]
    clear hA
    go_loopw [1, 24] (fun lf i wr => ∃ (j : Nat) (L : Int), j ≤ 2 ∧ i = .int .i64 j ∧ lf = .int .i64 L ∧ 0 ≤ L ∧ L ≤ left ∧ Hid (budT t left deep = restB t (deep - 1) j L) ∧ Below w.heap.size w wr) (fun _ i _ => 2 - (intOf i).toNat)
    case atStart => exact ⟨0, left - 1, by decide, rfl, rfl, by omega, by omega, HT, hb0⟩
    case round =>
      obtain ⟨j, L, hj, rfl, rfl, hL0, hL1, HJ, hbel⟩ := hrel
      clear hb0
      by_cases hj2 : j < 2
      · obtain ⟨a, c, ha, hsp, hli⟩ := HAT.out j hj2
        have hrun := fun w' => run_two A j _ w' hj2 ha rfl
        have hdj : decide ((j : Int) < 2) = true := by simp; omega
        have HS := Lib.hid (show sizes (listB t j) ≤ N by rcases (show j = 0 ∨ j = 1 by omega) with rfl | rfl; exact HSZ.out.1; exact HSZ.out.2)
        have HJ2 := Lib.hid (show budT t left deep = restB t (deep - 1) (j + 1) (budR (listB t j) L (deep - 1)) by rw [HJ.out, restB_step t _ j hj2])
        have HNEG := Lib.hid (restB_neg t (deep - 1) j hj2)
        generalize listB t j = l at *
        by_cases hl : 0 < l.length
        · obtain ⟨haa, hlt⟩ := hsp.2.2.1 hl
          have hsz := hsp.2.1
          have hsc := hsp.1
          unfold maxLen at hsz
          have HLI := Lib.hid hli
          have hrun' := hrun wr
          clear hli hsp ha hrun
          rw [haa] at hrun'
          generalize blk a = gb at *
          generalize ofs a = go at *
          clear haa
          go_wp2_with fail
          go_loopw [1, 29] (fun lf i ws => ∃ (k : Nat) (L' : Int), k ≤ l.length ∧ i = .int .i64 k ∧ lf = .int .i64 L' ∧ 0 ≤ L' ∧ L' ≤ left ∧ Hid (budR l L (deep - 1) = budR (l.drop k) L' (deep - 1)) ∧ Below w.heap.size w ws) (fun _ i _ => l.length - (intOf i).toNat)
          case atStart => exact ⟨0, L, Nat.zero_le _, rfl, rfl, hL0, hL1, Lib.hid rfl, hbel⟩
          case round =>
            obtain ⟨k, L', hk, rfl, rfl, hm0, hm1, HK, hbs⟩ := hrel
            clear hrun' hbel
            by_cases hlk : k < l.length
            · have hli := ((liesR_iff _ _ _).1 HLI.out k hlk).keep hbs.size (fun q hq => hbs.block q (by omega))
              obtain ⟨hgbM, hcell, hheld⟩ := lies_held.1 hli
              have hsz1 := sizes_mem hlk
              have hdr := List.drop_eq_getElem_cons hlk
              obtain ⟨u, hu⟩ : ∃ u, l[k] = u := ⟨_, rfl⟩
              rw [hu] at hcell hheld hsz1 hdr
              rw [Nat.mul_comm 7 k] at hcell
              have d0 : wr.cell? ⟨gb, go + k * 7, none⟩ = some (.int .i64 u.k) := hcell 0 _ rfl
              have d1 : wr.cell? ⟨gb, go + k * 7 + 1, none⟩ = some (.bool u.g) := hcell 1 _ rfl
              have d2 : wr.cell? ⟨gb, go + k * 7 + 2, none⟩ = some (.slice u.la u.ln u.lc) := hcell 2 _ rfl
              have d3 : wr.cell? ⟨gb, go + k * 7 + 3, none⟩ = some (.bool u.bb) := hcell 3 _ rfl
              have d4 : wr.cell? ⟨gb, go + k * 7 + 4, none⟩ = some (.string u.s) := hcell 4 _ rfl
              have d5 : wr.cell? ⟨gb, go + k * 7 + 5, none⟩ = some (.slice u.ia u.items.length u.ic) := hcell 5 _ rfl
              have d6 : wr.cell? ⟨gb, go + k * 7 + 6, none⟩ = some (.slice u.ta u.tail.length u.tc) := hcell 6 _ rfl
              have hba : Below wr.heap.size wr (wr.alloc (Obj.cells #[.int .i64 u.k, .bool u.g, .slice u.la u.ln u.lc, .bool u.bb, .string u.s, .slice u.ia u.items.length u.ic, .slice u.ta u.tail.length u.tc] 27)) := (Below.refl _ _).alloc (Nat.le_refl _) _
              have hMs : M ≤ wr.heap.size := Nat.le_trans hM hbs.size
              have HC := Lib.hid (IH.out u (Nat.le_trans hsz1 HS.out) L' (deep - 1) (wr.alloc (Obj.cells #[.int .i64 u.k, .bool u.g, .slice u.la u.ln u.lc, .bool u.bb, .string u.s, .slice u.ia u.items.length u.ic, .slice u.ta u.tail.length u.tc] 27)) (Nat.le_trans hMs hba.size) (hheld.keep hba.size (fun q hq => hba.block q (by omega))) hm0 (by omega) (by omega) (by omega))
              have HBA := Lib.hid (bnext hbs hba)
              have hbd := budT_bd u L' (deep - 1) hm0
              have HK2 := Lib.hid (show budR l L (deep - 1) = if budT u L' (deep - 1) < 0 then -1 else budR (l.drop (k + 1)) (budT u L' (deep - 1)) (deep - 1) by rw [HK.out, hdr, budR_cons])
              clear hli hcell hheld hsz1 hdr hba
              generalize budT u L' (deep - 1) = r at *
              go_wp2_with fail
              refine HC.out.mono ?_
              rintro e w6 ⟨rfl, b6⟩
              have hb6 := bnext HBA.out b6
              obtain ⟨hr0, hr1⟩ := hbd
              by_cases hr : r < 0
              · have HF := Lib.hid (show budT t left deep = -1 by rw [HJ2.out, HK2.out, if_pos hr, HNEG.out])
                go_wp2_with fail
                go_ret
                exact ⟨by rw [HF.out]; rfl, hb6⟩
              · have HG := Lib.hid (show budR l L (deep - 1) = budR (l.drop (k + 1)) r (deep - 1) by rw [HK2.out, if_neg hr])
                go_wp2_with fail
                go_roundw
                case rel => exact ⟨k + 1, r, by omega, by go_num, rfl, by omega, by omega, HG, hb6⟩
                case measure => simp [intOf]; omega
            · obtain rfl : k = l.length := by omega
              have HF := Lib.hid (show budT t left deep = restB t (deep - 1) (j + 1) L' by rw [HJ2.out, HK.out, List.drop_length, budR_nil])
              go_wp2_with fail
              go_roundw
              case rel => exact ⟨j + 1, L', by omega, by go_num, rfl, hm0, hm1, HF, hbs⟩
              case measure => simp [intOf]; omega
        · obtain rfl : l = [] := List.length_eq_zero_iff.1 (by omega)
          have HF := Lib.hid (show budT t left deep = restB t (deep - 1) (j + 1) L by rw [HJ2.out, budR_nil])
          have hrun' := hrun wr
          clear hli hsp ha hrun hl
          rw [List.length_nil] at hrun'
          go_wp2_with fail
          go_loopw [1, 29] (fun lf i ws => i = .int .i64 0 ∧ lf = .int .i64 L ∧ ws = wr) (fun _ _ _ => 0)
          case atStart => exact ⟨rfl, rfl, rfl⟩
          case round =>
            obtain ⟨rfl, rfl, rfl⟩ := hrel
            clear hrun'
            go_wp2_with fail
            go_roundw
            case rel => exact ⟨j + 1, L, by omega, by go_num, rfl, hL0, hL1, HF, hbel⟩
            case measure => simp [intOf]; omega
      · obtain rfl : j = 2 := by omega
        have HE := Lib.hid (show budT t left deep = L from HJ.out)
        go_wp2_with fail
        go_ret
        exact ⟨by rw [HE.out]; rfl, hbel⟩
end
end Go.Proofs.YthdhdmmlmbkalaaGreatDoor
namespace Go.Proofs.YthdhdmmlmbkalaaGreatDoor
section
open Go.ChangeShapes Go.WideShapes Go.ChangeAt Go.RowKit

/-- An expression: its kind, its datum, its variable, its variables and where they lie, whether the last is a list of what is left, its primitive, its Kids and where they lie. -/
inductive ET where
  | mk (k : Int) (d : LT) (v : Int) (va : Option Addr) (vc : Nat) (vs : List Int) (rs : Bool) (p : Int) (ka : Option Addr) (kc : Nat) (kids : List ET) : ET
def ET.k : ET → Int | .mk k _ _ _ _ _ _ _ _ _ _ => k
def ET.d : ET → LT | .mk _ d _ _ _ _ _ _ _ _ _ => d
def ET.v : ET → Int | .mk _ _ v _ _ _ _ _ _ _ _ => v
def ET.va : ET → Option Addr | .mk _ _ _ va _ _ _ _ _ _ _ => va
def ET.vc : ET → Nat | .mk _ _ _ _ vc _ _ _ _ _ _ => vc
def ET.vs : ET → List Int | .mk _ _ _ _ _ vs _ _ _ _ _ => vs
def ET.rs : ET → Bool | .mk _ _ _ _ _ _ rs _ _ _ _ => rs
def ET.p : ET → Int | .mk _ _ _ _ _ _ _ p _ _ _ => p
def ET.ka : ET → Option Addr | .mk _ _ _ _ _ _ _ _ ka _ _ => ka
def ET.kc : ET → Nat | .mk _ _ _ _ _ _ _ _ _ kc _ => kc
def ET.kids : ET → List ET | .mk _ _ _ _ _ _ _ _ _ _ kids => kids
/-- Its thirteen cells. -/
def ET.cells (e : ET) : List Value := [.int .i64 e.k, .int .i64 e.d.k, .bool e.d.g, .slice e.d.la e.d.ln e.d.lc, .bool e.d.bb, .string e.d.s, .slice e.d.ia e.d.items.length e.d.ic, .slice e.d.ta e.d.tail.length e.d.tc, .int .i64 e.v, .slice e.va e.vs.length e.vc, .bool e.rs, .int .i64 e.p, .slice e.ka e.kids.length e.kc]
mutual
def ET.size : ET → Nat
  | .mk _ _ _ _ _ _ _ _ _ _ kids => 1 + sizesE kids
def sizesE : List ET → Nat
  | [] => 0
  | e :: l => e.size + sizesE l
end
mutual
def ET.depth : ET → Nat
  | .mk _ _ _ _ _ _ _ _ _ _ kids => 1 + depthsE kids
def depthsE : List ET → Nat
  | [] => 0
  | e :: l => max e.depth (depthsE l)
end
theorem ET.size_eq (e : ET) : e.size = 1 + sizesE e.kids := by cases e; simp [ET.size, ET.kids]
theorem ET.depth_eq (e : ET) : e.depth = 1 + depthsE e.kids := by cases e; simp [ET.depth, ET.kids]
theorem sizesE_ge : ∀ l : List ET, l.length ≤ sizesE l
  | [] => Nat.le_refl _
  | e :: l => by
    have := sizesE_ge l
    have := e.size_eq
    simp only [sizesE, List.length_cons]
    omega
theorem sizesE_mem : ∀ {l : List ET} {k : Nat} (h : k < l.length), l[k].size ≤ sizesE l
  | e :: l, 0, _ => by simp [sizesE]
  | e :: l, k + 1, h => by
    have := sizesE_mem (l := l) (k := k) (by simpa using h)
    simp only [sizesE, List.getElem_cons_succ]
    omega
/-- Numbers that lie somewhere below M. -/
def IntsAt (w : World) (M : Nat) (a : Option Addr) (c : Nat) (zs : List Int) : Prop := Spot M a zs.length c ∧ ∀ i (h : i < zs.length), w.cell? ⟨blk a, ofs a + i, none⟩ = some (.int .i64 zs[i]) ∧ -9223372036854775808 ≤ zs[i] ∧ zs[i] ≤ 9223372036854775807
mutual
/-- The expression lies there, and all that is in it below M. -/
def LiesE (w : World) (M : Nat) : ET → Nat → Nat → Prop
  | .mk k d v va vc vs rs p ka kc kids, b, o =>
    b < M ∧ (∀ j x, (ET.cells (.mk k d v va vc vs rs p ka kc kids))[j]? = some x → w.cell? ⟨b, o + j, none⟩ = some x) ∧
      (Held w M d ∧ IntsAt w M va vc vs) ∧ Spot M ka kids.length kc ∧ LiesER w M kids (blk ka) (ofs ka)
def LiesER (w : World) (M : Nat) : List ET → Nat → Nat → Prop
  | [], _, _ => True
  | e :: l, b, o => LiesE w M e b o ∧ LiesER w M l b (o + 13)
end
/-- What an expression's value holds lies below M. -/
def HeldE (w : World) (M : Nat) (e : ET) : Prop := (Held w M e.d ∧ IntsAt w M e.va e.vc e.vs) ∧ Spot M e.ka e.kids.length e.kc ∧ LiesER w M e.kids (blk e.ka) (ofs e.ka)
theorem liesE_held {w : World} {M : Nat} {e : ET} {b o : Nat} : LiesE w M e b o ↔ b < M ∧ (∀ j x, e.cells[j]? = some x → w.cell? ⟨b, o + j, none⟩ = some x) ∧ HeldE w M e := by
  cases e; simp [LiesE, HeldE, ET.d, ET.va, ET.vc, ET.vs, ET.ka, ET.kc, ET.kids]
theorem liesER_nil {w : World} {M b o : Nat} : LiesER w M [] b o = True := by simp [LiesER]
theorem liesER_cons {w : World} {M b o : Nat} {e : ET} {l : List ET} : LiesER w M (e :: l) b o = (LiesE w M e b o ∧ LiesER w M l b (o + 13)) := by simp [LiesER]
theorem liesER_iff {w : World} {M : Nat} : ∀ (l : List ET) (b o : Nat), LiesER w M l b o ↔ ∀ i (h : i < l.length), LiesE w M l[i] b (o + 13 * i)
  | [], b, o => by simp [liesER_nil]
  | t :: l, b, o => by
    rw [liesER_cons, liesER_iff l b (o + 13)]
    constructor
    · rintro ⟨h1, h2⟩ i hi
      cases i with
      | zero => exact h1
      | succ i =>
        have := h2 i (by simpa using hi)
        rw [show o + 13 * (i + 1) = o + 13 + 13 * i by omega]
        exact this
    · intro h
      refine ⟨h 0 (by simp), fun i hi => ?_⟩
      have := h (i + 1) (by simpa using hi)
      rw [show o + 13 + 13 * i = o + 13 * (i + 1) by omega]
      exact this
theorem IntsAt.keep {w w' : World} {M : Nat} {a : Option Addr} {c : Nat} {zs : List Int} (h : IntsAt w M a c zs) (hk : ∀ k, k < M → w'.heap[k]? = w.heap[k]?) : IntsAt w' M a c zs :=
  ⟨h.1, fun i hi => ⟨(World.cell?_of_block (w := w) (a := ⟨blk a, ofs a + i, none⟩) (hk _ (h.1.2.2.1 (by omega)).2)).trans (h.2 i hi).1, (h.2 i hi).2⟩⟩
mutual
theorem LiesE.keep {w w' : World} {M : Nat} (hs : w.heap.size ≤ w'.heap.size) (hk : ∀ k, k < M → w'.heap[k]? = w.heap[k]?) : ∀ (e : ET) (b o : Nat), LiesE w M e b o → LiesE w' M e b o
  | .mk k d v va vc vs rs p ka kc kids, b, o, h => by
    simp only [LiesE] at h ⊢
    obtain ⟨h1, h2, ⟨h3, h4⟩, h5, h6⟩ := h
    exact ⟨h1, fun j x hj => (World.cell?_of_block (hk b h1)).trans (h2 j x hj), ⟨h3.keep hs hk, h4.keep hk⟩, h5, LiesER.keep hs hk kids _ _ h6⟩
theorem LiesER.keep {w w' : World} {M : Nat} (hs : w.heap.size ≤ w'.heap.size) (hk : ∀ k, k < M → w'.heap[k]? = w.heap[k]?) : ∀ (l : List ET) (b o : Nat), LiesER w M l b o → LiesER w' M l b o
  | [], _, _, _ => by simp [LiesER]
  | e :: l, b, o, h => by
    simp only [LiesER] at h ⊢
    exact ⟨LiesE.keep hs hk e b o h.1, LiesER.keep hs hk l b (o + 13) h.2⟩
end
theorem HeldE.keep {w w' : World} {M : Nat} {e : ET} (h : HeldE w M e) (hs : w.heap.size ≤ w'.heap.size) (hk : ∀ k, k < M → w'.heap[k]? = w.heap[k]?) : HeldE w' M e :=
  ⟨⟨h.1.1.keep hs hk, h.1.2.keep hk⟩, h.2.1, LiesER.keep hs hk _ _ _ h.2.2⟩
theorem HeldE.below {w w' : World} {M : Nat} {e : ET} (h : HeldE w M e) (hM : M ≤ w.heap.size) (hb : Below w.heap.size w w') : HeldE w' M e := h.keep hb.size fun k hk => hb.block k (by omega)

section
variable {H : Type} {enc : TypeId × Value → H} {w : World} {sp : Nat → Bool} {held : Bool}
theorem ints_of_trod {n : Nat} {cs : List Value} {x : DataW H × List MemPlace} (h : DataW.trod enc Tryz.prog w 0 sp held n 28 cs = some x) :
    ∃ a c zs, cs = [.slice a zs.length c] ∧ IntsAt w w.heap.size a c zs := by
  rcases open_ints Tryz.underlying28 Tryz.underlying3 (by kernel_rfl) h with ⟨rfl, _⟩ | ⟨a, len, cap, zs, rfl, _, hl, hm, hz, _, hcell, hwz⟩
  · exact ⟨none, 0, [], rfl, ⟨Nat.le_refl _, Nat.zero_le _, fun h => absurd h (by decide), fun _ => rfl⟩, fun i hi => by simp at hi⟩
  · have hle : len ≤ zs.length := by rw [hz]; split <;> omega
    have hpl : 0 < len → ∃ b off, a = ⟨b, off, none⟩ ∧ b < w.heap.size := by
      intro hp
      obtain ⟨b, off, spot⟩ := a
      have hc := hcell 0 (by omega)
      have hspot : spot = none := by simpa [Addr.add] using World.cell?_spot hc
      subst hspot
      have := World.block_lt_of_cell? w _ hc
      exact ⟨b, off, rfl, by simpa [Addr.add] using this⟩
    have hll : (zs.take len).length = len := by rw [List.length_take]; omega
    refine ⟨some a, cap, zs.take len, by rw [hll], ⟨by rw [hll]; exact hl, hm, fun hp => ?_, fun e => by cases e⟩, fun i hi => ?_⟩
    · obtain ⟨b, off, rfl, hb⟩ := hpl (by omega)
      exact ⟨rfl, hb⟩
    · obtain ⟨b, off, rfl, hb⟩ := hpl (by omega)
      have h1 := hcell i (by omega)
      have hadd : (⟨b, off, none⟩ : Addr).add i = ⟨b, off + i, none⟩ := by unfold Addr.add; split <;> simp_all
      rw [hadd] at h1
      have hzi : zs.getD i 0 = zs[i]'(by omega) := by rw [List.getD_eq_getElem?_getD, List.getElem?_eq_getElem (by omega)]; rfl
      rw [hzi] at h1
      have hbd := hwz (zs[i]'(by omega)) (List.getElem_mem _)
      rw [List.getElem_take]
      refine ⟨h1, ?_⟩
      have hmin : IntKind.i64.min = -9223372036854775808 := rfl
      simpa [Lit.wf, hmin] using hbd
theorem exprCells : Tryz.prog.cellsOf 31 = 13 := by kernel_rfl
theorem cells1E : Tryz.prog.cellsOf 28 = 1 ∧ Tryz.prog.cellsOf 29 = 1 := ⟨by kernel_rfl, by kernel_rfl⟩
theorem list13 {α : Type} : ∀ {l : List α}, l.length = 13 → ∃ c0 c1 c2 c3 c4 c5 c6 c7 c8 c9 c10 c11 c12, l = [c0, c1, c2, c3, c4, c5, c6, c7, c8, c9, c10, c11, c12]
  | [a, b, c, d, e, f, g, h, i, j, k, l, m], _ => ⟨a, b, c, d, e, f, g, h, i, j, k, l, m, rfl⟩
end
end
end Go.Proofs.YthdhdmmlmbkalaaGreatDoor
namespace Go.Proofs.YthdhdmmlmbkalaaGreatDoor
section
open Go.RowKit

/-- A datum's value, open. -/
def LT.val (t : LT) : Value := .agg #[.int .i64 t.k, .bool t.g, .slice t.la t.ln t.lc, .bool t.bb, .string t.s, .slice t.ia t.items.length t.ic, .slice t.ta t.tail.length t.tc]

set_option maxRecDepth 100000 in
set_option maxHeartbeats 1600000 in
theorem small_any (M : Nat) (t : LT) (most deep : Int) (w : World) (hM : M ≤ w.heap.size) (hH : Held w M t) (hl0 : 0 ≤ most) (hl1 : most ≤ 1000000) (hd0 : 0 ≤ deep) (hd1 : deep ≤ 1000000) :
    Calls Tryz.prog 33 #[t.val, .int .i64 most, .int .i64 deep] w fun e w' => e = .returned (.bool (decide (0 ≤ budT t most deep))) ∧ Below w.heap.size w w' := by
  have hba : Below w.heap.size w (w.alloc (Obj.cells #[.int .i64 t.k, .bool t.g, .slice t.la t.ln t.lc, .bool t.bb, .string t.s, .slice t.ia t.items.length t.ic, .slice t.ta t.tail.length t.tc] 27)) := (Below.refl _ w).alloc (Nat.le_refl _) _
  have HC := Lib.hid (budget_ok M t.size t (Nat.le_refl _) most deep (w.alloc (Obj.cells #[.int .i64 t.k, .bool t.g, .slice t.la t.ln t.lc, .bool t.bb, .string t.s, .slice t.ia t.items.length t.ic, .slice t.ta t.tail.length t.tc] 27)) (Nat.le_trans hM hba.size) (hH.keep hba.size (fun q hq => hba.block q (by omega))) hl0 hl1 hd0 hd1)
  have HB := Lib.hid hba
  clear hba hH
  unfold LT.val
  generalize budT t most deep = r at *
  go_enter Tryz.func33, Tryz.ntmps33
  go_wp2_with fail
  refine HC.out.mono ?_
  rintro e w1 ⟨rfl, b1⟩
  go_wp2_with fail
  go_ret
  exact ⟨rfl, bnext HB.out b1⟩

/-! ### what the count tells: how many, and how deep -/
mutual
theorem budT_few : ∀ (t : LT) (left deep : Int), 0 ≤ left → 0 ≤ budT t left deep → budT t left deep = left - t.size ∧ (t.depth : Int) ≤ deep
  | .mk k g la ln lc ys bb s ia ic items ta tc tail, left, deep, h, h2 => by
    rw [budT_eq] at h2 ⊢
    by_cases hx : left - 1 < 0 ∨ deep ≤ 0
    · rw [if_pos hx] at h2; omega
    · rw [if_neg hx] at h2 ⊢
      simp only [LT.items, LT.tail] at h2 ⊢
      have hneg : ¬ budR items (left - 1) (deep - 1) < 0 := by
        intro hn
        have hb := (budR_bd items (left - 1) (deep - 1) (by omega)).1
        rw [show budR items (left - 1) (deep - 1) = -1 by omega, budR_neg] at h2
        omega
      have h3 := budR_few items (left - 1) (deep - 1) (by omega) (by omega)
      have h4 := budR_few tail (budR items (left - 1) (deep - 1)) (deep - 1) (by omega) h2
      rw [h4.1, h3.1]
      have e1 : LT.size (.mk k g la ln lc ys bb s ia ic items ta tc tail) = 1 + (sizes items + sizes tail) := by simp [LT.size]
      have e2 : LT.depth (.mk k g la ln lc ys bb s ia ic items ta tc tail) = 1 + max (depths items) (depths tail) := by simp [LT.depth]
      rw [e1, e2]
      omega
theorem budR_few : ∀ (l : List LT) (left deep : Int), 0 ≤ left → 0 ≤ budR l left deep → budR l left deep = left - sizes l ∧ ((depths l : Int) ≤ max 0 deep)
  | [], left, deep, h, h2 => by
    rw [budR_nil]
    simp [sizes, depths]
    omega
  | t :: l, left, deep, h, h2 => by
    rw [budR_cons] at h2 ⊢
    by_cases hx : budT t left deep < 0
    · rw [if_pos hx] at h2; omega
    · rw [if_neg hx] at h2 ⊢
      have h3 := budT_few t left deep h (by omega)
      have h4 := budR_few l (budT t left deep) deep (by omega) h2
      rw [h4.1, h3.1]
      simp only [sizes, depths]
      omega
end
end
end Go.Proofs.YthdhdmmlmbkalaaGreatDoor
