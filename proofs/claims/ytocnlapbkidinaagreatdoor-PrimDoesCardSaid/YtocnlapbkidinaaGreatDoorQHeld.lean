/-
  datum.held: the rows of a datum's lists are put on the stack.
-/
import Derived.Test.YtocnlapbkidinaaGreatDoorQTr
import Derived.OwnWalk
import Derived.Test.YtocnlapbkidinaaGreatDoorChecked
set_option linter.unusedVariables false
set_option linter.unusedSimpArgs false
set_option linter.unusedSectionVars false
set_option linter.unnecessarySimpa false
namespace Go.Proofs.YtocnlapbkidinaaGreatDoor
open Go.RowKit

theorem infoRow : (Tryz.prog.info? 134).map (fun i => (i.zero, i.size, i.bytes)) = some (some (.agg #[.slice none 0 0, .int .i64 0]), 2, 32) := by kernel_rfl
theorem row_news {w : World} {g : Nat} {x y : Value} (h : w.heap[g]? = some (.cells #[x, y] 134 (0, 0))) : ∀ j u, ([x, y] : List Value)[j]? = some u → w.cell? ((⟨g, 0, none⟩ : Addr).add j) = some u := by
  intro j u hu
  rw [cell_add]
  match j, hu with
  | 0, hu => simpa [World.cell?, h] using hu
  | 1, hu => simpa [World.cell?, h] using hu
  | j + 2, hu => simp at hu
theorem one_row (a : Option Addr) (n c : Nat) (k : Int) : ∀ u ∈ ([.slice a n c, .int .i64 k] : List Value), u.oneCell' = true := by
  intro u hu; simp at hu; rcases hu with rfl | rfl <;> rfl

/-- What may be another one without its owner's doing: a stack of told's, a loop's record and the like. -/
def Mut (o : Obj) : Prop := (∃ c fr, o = .cells c 134 fr) ∨ ∀ c T fr, o ≠ .cells c T fr
/-- Below base all is as it was; above, only such as Mut knows is another one. -/
structure Fine (base : Nat) (w w' : World) : Prop extends Below base w w' where
  kept : ∀ i, i < w.heap.size → w'.heap[i]? = w.heap[i]? ∨ ∃ o, w.heap[i]? = some o ∧ Mut o
theorem Fine.refl (base : Nat) (w : World) : Fine base w w := ⟨Below.refl base w, fun _ _ => .inl rfl⟩
theorem Fine.trans {base : Nat} {a b c : World} (h : Fine base a b) (k : Fine base b c) : Fine base a c := ⟨h.toBelow.trans k.toBelow, fun i hi => by
  rcases h.kept i hi with e | e
  · rcases k.kept i (Nat.lt_of_lt_of_le hi h.size) with e2 | ⟨o, ho, hm⟩
    · exact .inl (e2.trans e)
    · exact .inr ⟨o, by rw [← e]; exact ho, hm⟩
  · exact .inr e⟩
theorem Fine.mono {base base' : Nat} {a b : World} (h : Fine base a b) (hb : base' ≤ base) : Fine base' a b := ⟨h.toBelow.mono hb, h.kept⟩
theorem Fine.new {base : Nat} {a b : World} (h : Below a.heap.size a b) (hb : base ≤ a.heap.size) : Fine base a b := ⟨h.mono hb, fun i hi => .inl (h.block i hi)⟩
theorem Fine.at_ {base : Nat} {a b : World} {g : Nat} {o : Obj} (h : Below base a b) (hg : a.heap[g]? = some o) (hm : Mut o) (hk : ∀ i, i < a.heap.size → i ≠ g → b.heap[i]? = a.heap[i]?) : Fine base a b := ⟨h, fun i hi => by
  by_cases e : i = g
  · subst e
    exact .inr ⟨o, hg, hm⟩
  · exact .inl (hk i hi e)⟩
theorem ownRow_row {w : World} {base : Nat} {v : Value} {n g : Nat} {xs : List Value} (h : w.ownsRow base 134 2 v n xs) (hg : v.ownBlock = some g) : ∃ c, w.heap[g]? = some (.cells c 134 (0, 0)) := by
  rcases h.2 with ⟨hv, _⟩ | ⟨g', cap, cur, hv, hb, hc, _⟩
  · rw [hv] at hg; cases hg
  · rw [hv] at hg
    have e : g' = g := Option.some.inj hg
    subst e
    exact ⟨cur, hc⟩
theorem fine_grown {w w1 : World} {base n : Nat} {v : Value} {xs : List Value} {o : Obj} (hown : w.ownsRow base 134 2 v n xs) (hb : base ≤ w.heap.size) (hg : (w.alloc o).grownBy w1 v.ownBlock) : Fine base w w1 := by
  refine ⟨((Below.refl base w).alloc hb _).grown hg (by simp; omega) (fun k hk => (hown.lt k hk).1), fun i hi => ?_⟩
  by_cases e : v.ownBlock = some i
  · obtain ⟨c, hc⟩ := ownRow_row hown e
    exact .inr ⟨_, hc, .inl ⟨c, _, rfl⟩⟩
  · exact .inl ((hg.block i (by simp; omega) (fun h => e h.symm)).trans (Below.heap_alloc w o i hi))
/-- All blocks but those of X lie as they lay, and but rows of data from base on. -/
def ButU (base : Nat) (X : Nat → Prop) (w w' : World) : Prop := w.heap.size ≤ w'.heap.size ∧ ∀ k, k < w.heap.size → ¬ X k → w'.heap[k]? = w.heap[k]? ∨ (base ≤ k ∧ ∃ c fr, w.heap[k]? = some (.cells c 29 fr))
theorem ButU.refl (base : Nat) (X : Nat → Prop) (w : World) : ButU base X w w := ⟨Nat.le_refl _, fun _ _ _ => .inl rfl⟩
theorem ButU.low {base : Nat} {X : Nat → Prop} {w w' : World} (h : ButU base X w w') {k : Nat} (hk : k < w.heap.size) (hb : k < base) (hx : ¬ X k) : w'.heap[k]? = w.heap[k]? := by
  rcases h.2 k hk hx with e | ⟨h1, _⟩
  · exact e
  · omega
theorem ButU.trans {base : Nat} {X : Nat → Prop} {a b c : World} (h : ButU base X a b) (k : ButU base X b c) : ButU base X a c := ⟨Nat.le_trans h.1 k.1, fun i hi hx => by
  rcases h.2 i hi hx with e | e
  · rcases k.2 i (Nat.lt_of_lt_of_le hi h.1) hx with e2 | ⟨h2, o, fr, ho⟩
    · exact .inl (e2.trans e)
    · exact .inr ⟨h2, o, fr, by rw [← e]; exact ho⟩
  · exact .inr e⟩
theorem ButU.mono {base : Nat} {X Y : Nat → Prop} {a b : World} (h : ButU base X a b) (hxy : ∀ k, X k → Y k) : ButU base Y a b := ⟨h.1, fun k hk hy => h.2 k hk fun hx => hy (hxy k hx)⟩
theorem ButU.more {base base' : Nat} {X : Nat → Prop} {a b : World} (h : ButU base X a b) (hb : base' ≤ base) : ButU base' X a b := ⟨h.1, fun k hk hx => by
  rcases h.2 k hk hx with e | ⟨h1, e⟩
  · exact .inl e
  · exact .inr ⟨Nat.le_trans hb h1, e⟩⟩
theorem ButU.new {base : Nat} {X : Nat → Prop} {a b : World} (h : Below a.heap.size a b) : ButU base X a b := ⟨h.size, fun k hk _ => .inl (h.block k hk)⟩
theorem ButU.cells {base : Nat} {X : Nat → Prop} {w w' : World} (h : ButU base X w w') {k : Nat} {o : Obj} (ho : w.heap[k]? = some o) (hx : ¬ X k) (hn : ∀ c fr, o ≠ .cells c 29 fr) : w'.heap[k]? = some o := by
  rcases h.2 k (Array.getElem?_eq_some_iff.1 ho).1 hx with e | ⟨_, c, fr, e⟩
  · rw [e]; exact ho
  · rw [ho] at e
    injection e with e
    exact absurd e (hn c fr)
theorem ButU.still {base k : Nat} {X : Nat → Prop} {w w' : World} (h : ButU base X w w') (hk : k < w.heap.size) (hx : ¬ X k) (ht : k < base ∨ ∃ c fr, w.heap[k]? = some (.cells c 101 fr)) : w'.heap[k]? = w.heap[k]? := by
  rcases ht with h1 | ⟨c, fr, hc⟩
  · exact h.low hk h1 hx
  · rw [hc]; exact h.cells hc hx (fun c fr e => by injection e with _ e2; exact absurd e2 (by decide))
theorem own_butU {w w' : World} {B base n : Nat} {X : Nat → Prop} {v : Value} {xs : List Value} (h : w.ownsRow B 134 2 v n xs) (hu : ButU base X w w') (hx : ∀ k, B ≤ k → k < w.heap.size → ¬ X k) : w'.ownsRow B 134 2 v n xs := by
  refine ⟨h.1, ?_⟩
  rcases h.2 with hn | ⟨g, cap, cur, hv, hb, hg, rest⟩
  · exact .inl hn
  · exact .inr ⟨g, cap, cur, hv, hb, hu.cells hg (hx g hb (Array.getElem?_eq_some_iff.1 hg).1) (fun c fr e => by injection e with _ e2; exact absurd e2 (by decide)), rest⟩
/-- What held leaves. -/
def HeldPost (base : Nat) (st : List Ent) (w : World) (e : Ending) (w' : World) : Prop := ∃ v', e = .returned v' ∧ w'.ownsRow base 134 2 v' st.length (stCells st) ∧ Fine base w w'

theorem ownRow_own {w : World} {base : Nat} {v : Value} {n : Nat} {xs : List Value} (h : w.ownsRow base 134 2 v n xs) : ∀ k, v.ownBlock = some k → base ≤ k := fun k hk => (h.lt k hk).1

set_option maxRecDepth 100000 in
set_option maxHeartbeats 1600000 in
theorem held_both (v : Value) (st : List Ent) (t : LT) (b o lev M base : Nat) (w : World) (hown : w.ownsRow base 134 2 v st.length (stCells st)) (ht : Lies w M t b o) (hM : M ≤ base) (hb : base ≤ w.heap.size)
    (hlen : st.length ≤ 1000000000) (h1 : 0 < t.items.length) (h2 : 0 < t.tail.length) :
    Calls Tryz.prog 137 #[v, .pointer (some ⟨b, o, none⟩), .int .i64 (lev : Nat)] w (HeldPost base (pushed t lev st) w) := by
  obtain ⟨i0, hi, hz0, hz1, hz2⟩ := info_parts infoRow
  obtain ⟨hbM, hcell, _, h4, h5, _, _⟩ := lies_eq.1 ht
  have c5 : w.cell? ⟨b, o + 5, none⟩ = some (.slice t.ia t.items.length t.ic) := hcell 5 _ rfl
  have c6 : w.cell? ⟨b, o + 6, none⟩ = some (.slice t.ta t.tail.length t.tc) := hcell 6 _ rfl
  have ea := (h4.2.2.1 h1).1
  have eb := (h5.2.2.1 h2).1
  have m1 := Nat.le_trans h4.1 h4.2.1
  have m2 := Nat.le_trans h5.1 h5.2.1
  unfold maxLen at m1 m2
  rw [pushed, pushE_cons h2, pushE_cons h1]
  generalize blk t.ia = xb at *
  generalize ofs t.ia = xo at *
  generalize blk t.ta = yb at *
  generalize ofs t.ta = yo at *
  generalize t.ic = xc at *
  generalize t.tc = yc at *
  generalize hIt : t.items = xs at *
  generalize hTa : t.tail = ys at *
  rw [ea] at c5
  rw [eb] at c6
  have H1 := Lib.hid ht
  clear ht hcell ea eb h4 h5 hIt hTa
  generalize hm : xs.length = m at *
  generalize hk : ys.length = k at *
  have HM := Lib.hid (And.intro hm hk)
  clear hm hk
  go_enter Tryz.func137, Tryz.ntmps137
  go_wp2_with (first | (at_builtin; refine wpList_append_own _ rfl (.tmp 13) (.tmp 20) 130 rfl base 134 i0 (.agg #[.slice none 0 0, .int .i64 0]) 2 32 Tryz.underlying130 hi hz0 hz1 hz2 rfl (by decide) v st.length (stCells st) rfl (hown.alloc _) ⟨w.heap.size, 0, none⟩ 1 1 [.slice (some ⟨yb, yo, none⟩) k yc, .int .i64 (lev : Nat)] rfl rfl (row_news (heap_alloc_new _ _)) (one_row _ _ _ _) (by unfold maxLen; omega) (by omega) (by simp; omega) ?_; intro v1 w1 own1 grow1 _; have b1 : Fine base w w1 := fine_grown hown hb grow1; have c5' : w1.cell? ⟨b, o + 5, none⟩ = some (.slice (some ⟨xb, xo, none⟩) m xc) := (b1.cell (p := ⟨b, o + 5, none⟩) (by show b < base; omega)).trans c5; have hb1 : base ≤ w1.heap.size := (by have := b1.size; omega); clear grow1) | (at_builtin; refine wpList_append_own _ rfl (.tmp 28) (.tmp 35) 130 rfl base 134 i0 (.agg #[.slice none 0 0, .int .i64 0]) 2 32 Tryz.underlying130 hi hz0 hz1 hz2 rfl (by decide) v1 (st.length + 1) _ rfl (own1.alloc _) ⟨w1.heap.size, 0, none⟩ 1 1 [.slice (some ⟨xb, xo, none⟩) m xc, .int .i64 (lev : Nat)] rfl rfl (row_news (heap_alloc_new _ _)) (one_row _ _ _ _) (by unfold maxLen; omega) (by omega) (by simp; omega) ?_; intro v2 w2 own2 grow2 _; have b2 : Fine base w w2 := b1.trans (fine_grown own1 hb1 grow2); clear grow2))
  go_ret
  refine ⟨v2, rfl, ?_, b2⟩
  simp only [stCells, Ent.cells, List.length_cons, HM.out.1, HM.out.2]
  exact own2

set_option maxRecDepth 100000 in
set_option maxHeartbeats 1600000 in
theorem held_items (v : Value) (st : List Ent) (t : LT) (b o lev M base : Nat) (w : World) (hown : w.ownsRow base 134 2 v st.length (stCells st)) (ht : Lies w M t b o) (_hM : M ≤ base) (hb : base ≤ w.heap.size)
    (hlen : st.length ≤ 1000000000) (h1 : 0 < t.items.length) (h2 : t.tail.length = 0) :
    Calls Tryz.prog 137 #[v, .pointer (some ⟨b, o, none⟩), .int .i64 (lev : Nat)] w (HeldPost base (pushed t lev st) w) := by
  obtain ⟨i0, hi, hz0, hz1, hz2⟩ := info_parts infoRow
  obtain ⟨hbM, hcell, _, h4, h5, _, _⟩ := lies_eq.1 ht
  have c5 : w.cell? ⟨b, o + 5, none⟩ = some (.slice t.ia t.items.length t.ic) := hcell 5 _ rfl
  have c6 : w.cell? ⟨b, o + 6, none⟩ = some (.slice t.ta t.tail.length t.tc) := hcell 6 _ rfl
  have ea := (h4.2.2.1 h1).1
  have m1 := Nat.le_trans h4.1 h4.2.1
  unfold maxLen at m1
  rw [pushed, pushE_nil h2, pushE_cons h1]
  generalize blk t.ia = xb at *
  generalize ofs t.ia = xo at *
  generalize t.ic = xc at *
  generalize hIt : t.items = xs at *
  rw [ea] at c5
  rw [h2] at c6
  clear ht hcell ea h4 h5 hIt h2
  generalize hm : xs.length = m at *
  have HM := Lib.hid hm
  clear hm
  go_enter Tryz.func137, Tryz.ntmps137
  go_wp2_with (at_builtin; refine wpList_append_own _ rfl (.tmp 28) (.tmp 35) 130 rfl base 134 i0 (.agg #[.slice none 0 0, .int .i64 0]) 2 32 Tryz.underlying130 hi hz0 hz1 hz2 rfl (by decide) v st.length (stCells st) rfl (hown.alloc _) ⟨w.heap.size, 0, none⟩ 1 1 [.slice (some ⟨xb, xo, none⟩) m xc, .int .i64 (lev : Nat)] rfl rfl (row_news (heap_alloc_new _ _)) (one_row _ _ _ _) (by unfold maxLen; omega) (by omega) (by simp; omega) ?_; intro v1 w1 own1 grow1 _; have b1 : Fine base w w1 := fine_grown hown hb grow1; clear grow1)
  go_ret
  refine ⟨v1, rfl, ?_, b1⟩
  simp only [stCells, Ent.cells, List.length_cons, HM.out]
  exact own1

set_option maxRecDepth 100000 in
set_option maxHeartbeats 1600000 in
theorem held_tail (v : Value) (st : List Ent) (t : LT) (b o lev M base : Nat) (w : World) (hown : w.ownsRow base 134 2 v st.length (stCells st)) (ht : Lies w M t b o) (hM : M ≤ base) (hb : base ≤ w.heap.size)
    (hlen : st.length ≤ 1000000000) (h1 : t.items.length = 0) (h2 : 0 < t.tail.length) :
    Calls Tryz.prog 137 #[v, .pointer (some ⟨b, o, none⟩), .int .i64 (lev : Nat)] w (HeldPost base (pushed t lev st) w) := by
  obtain ⟨i0, hi, hz0, hz1, hz2⟩ := info_parts infoRow
  obtain ⟨hbM, hcell, _, h4, h5, _, _⟩ := lies_eq.1 ht
  have c5 : w.cell? ⟨b, o + 5, none⟩ = some (.slice t.ia t.items.length t.ic) := hcell 5 _ rfl
  have c6 : w.cell? ⟨b, o + 6, none⟩ = some (.slice t.ta t.tail.length t.tc) := hcell 6 _ rfl
  have eb := (h5.2.2.1 h2).1
  have m2 := Nat.le_trans h5.1 h5.2.1
  unfold maxLen at m2
  rw [pushed, pushE_cons h2, pushE_nil h1]
  generalize blk t.ta = yb at *
  generalize ofs t.ta = yo at *
  generalize t.tc = yc at *
  generalize hTa : t.tail = ys at *
  rw [eb] at c6
  rw [h1] at c5
  clear ht hcell eb h4 h5 hTa h1
  generalize hk : ys.length = k at *
  have HM := Lib.hid hk
  clear hk
  go_enter Tryz.func137, Tryz.ntmps137
  go_wp2_with (at_builtin; refine wpList_append_own _ rfl (.tmp 13) (.tmp 20) 130 rfl base 134 i0 (.agg #[.slice none 0 0, .int .i64 0]) 2 32 Tryz.underlying130 hi hz0 hz1 hz2 rfl (by decide) v st.length (stCells st) rfl (hown.alloc _) ⟨w.heap.size, 0, none⟩ 1 1 [.slice (some ⟨yb, yo, none⟩) k yc, .int .i64 (lev : Nat)] rfl rfl (row_news (heap_alloc_new _ _)) (one_row _ _ _ _) (by unfold maxLen; omega) (by omega) (by simp; omega) ?_; intro v1 w1 own1 grow1 _; have b1 : Fine base w w1 := fine_grown hown hb grow1; have c5' : w1.cell? ⟨b, o + 5, none⟩ = some (.slice t.ia 0 t.ic) := (b1.cell (p := ⟨b, o + 5, none⟩) (by show b < base; omega)).trans c5; clear grow1)
  go_ret
  refine ⟨v1, rfl, ?_, b1⟩
  simp only [stCells, Ent.cells, List.length_cons, HM.out]
  exact own1

set_option maxRecDepth 100000 in
set_option maxHeartbeats 1600000 in
theorem held_none (v : Value) (st : List Ent) (t : LT) (b o lev M base : Nat) (w : World) (hown : w.ownsRow base 134 2 v st.length (stCells st)) (ht : Lies w M t b o) (_hM : M ≤ base) (_hb : base ≤ w.heap.size)
    (_hlen : st.length ≤ 1000000000) (h1 : t.items.length = 0) (h2 : t.tail.length = 0) :
    Calls Tryz.prog 137 #[v, .pointer (some ⟨b, o, none⟩), .int .i64 (lev : Nat)] w (HeldPost base (pushed t lev st) w) := by
  obtain ⟨i0, hi, hz0, hz1, hz2⟩ := info_parts infoRow
  obtain ⟨hbM, hcell, _, h4, h5, _, _⟩ := lies_eq.1 ht
  have c5 : w.cell? ⟨b, o + 5, none⟩ = some (.slice t.ia t.items.length t.ic) := hcell 5 _ rfl
  have c6 : w.cell? ⟨b, o + 6, none⟩ = some (.slice t.ta t.tail.length t.tc) := hcell 6 _ rfl
  rw [pushed, pushE_nil h2, pushE_nil h1]
  rw [h2] at c6
  rw [h1] at c5
  clear ht hcell h4 h5 h1 h2
  go_enter Tryz.func137, Tryz.ntmps137
  go_wp2_with fail
  go_ret
  exact ⟨v, rfl, hown, Fine.refl _ _⟩

/-- What held leaves, whatever the datum holds. -/
theorem held_any (v : Value) (st : List Ent) (t : LT) (b o lev M base : Nat) (w : World) (hown : w.ownsRow base 134 2 v st.length (stCells st)) (ht : Lies w M t b o) (hM : M ≤ base) (hb : base ≤ w.heap.size)
    (hlen : st.length ≤ 1000000000) :
    Calls Tryz.prog 137 #[v, .pointer (some ⟨b, o, none⟩), .int .i64 (lev : Nat)] w (HeldPost base (pushed t lev st) w) := by
  by_cases h1 : t.items.length = 0 <;> by_cases h2 : t.tail.length = 0
  · exact held_none v st t b o lev M base w hown ht hM hb hlen h1 h2
  · exact held_tail v st t b o lev M base w hown ht hM hb hlen h1 (by omega)
  · exact held_items v st t b o lev M base w hown ht hM hb hlen (by omega) h2
  · exact held_both v st t b o lev M base w hown ht hM hb hlen (by omega) (by omega)
end Go.Proofs.YtocnlapbkidinaaGreatDoor
