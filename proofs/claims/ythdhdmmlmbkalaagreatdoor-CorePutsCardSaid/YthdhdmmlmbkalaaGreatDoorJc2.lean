/-
  Expressions as trees, with where they lie; an expression that came in, opened. pavaneref03.Small and Few of any tree. A range over a function whose iterator keeps a state of its own in memory: what the iterator promises its caller, and what the caller owes.
-/
import Derived.Test.YthdhdmmlmbkalaaGreatDoorJc1
import Derived.RangeFuncNested
import Derived.RangeFuncBound
import Derived.RangeFuncCalls
import Derived.RangeFuncLeaves
set_option linter.unusedVariables false
set_option linter.unusedSimpArgs false
set_option linter.unusedSectionVars false
set_option linter.unnecessarySimpa false
namespace Go.Proofs.YthdhdmmlmbkalaaGreatDoor
section
open Go.ChangeShapes Go.WideShapes Go.ChangeAt Go.RowKit

/-- An expression: its kind, its datum, its variable, its variables and where they lie, whether the last is a list of what is left, its primitive, its Kids and where they lie. -/
inductive ET where
  | mk (k : Int) (d : LT) (v : Int) (va : Option Addr) (vc : Nat) (vs : List Int) (rs : Bool) (p : Int) (ka : Option Addr) (kc : Nat) (kids : List ET) : ET
def ET.k : ET → Int | .mk k _ _ _ _ _ _ _ _ _ _ => k
def ET.d : ET → LT | .mk _ d _ _ _ _ _ _ _ _ _ => d
def ET.v : ET → Int | .mk _ _ v _ _ _ _ _ _ _ _ => v
def ET.va : ET → Option Addr | .mk _ _ _ va _ _ _ _ _ _ _ => va
def ET.vc : ET → Nat | .mk _ _ _ _ vc _ _ _ _ _ _ => vc
def ET.vs : ET → List Int | .mk _ _ _ _ _ vs _ _ _ _ _ => vs
def ET.rs : ET → Bool | .mk _ _ _ _ _ _ rs _ _ _ _ => rs
def ET.p : ET → Int | .mk _ _ _ _ _ _ _ p _ _ _ => p
def ET.ka : ET → Option Addr | .mk _ _ _ _ _ _ _ _ ka _ _ => ka
def ET.kc : ET → Nat | .mk _ _ _ _ _ _ _ _ _ kc _ => kc
def ET.kids : ET → List ET | .mk _ _ _ _ _ _ _ _ _ _ kids => kids
/-- Its thirteen cells. -/
def ET.cells (e : ET) : List Value := [.int .i64 e.k, .int .i64 e.d.k, .bool e.d.g, .slice e.d.la e.d.ln e.d.lc, .bool e.d.bb, .string e.d.s, .slice e.d.ia e.d.items.length e.d.ic, .slice e.d.ta e.d.tail.length e.d.tc, .int .i64 e.v, .slice e.va e.vs.length e.vc, .bool e.rs, .int .i64 e.p, .slice e.ka e.kids.length e.kc]
mutual
def ET.size : ET → Nat
  | .mk _ _ _ _ _ _ _ _ _ _ kids => 1 + sizesE kids
def sizesE : List ET → Nat
  | [] => 0
  | e :: l => e.size + sizesE l
end
mutual
def ET.depth : ET → Nat
  | .mk _ _ _ _ _ _ _ _ _ _ kids => 1 + depthsE kids
def depthsE : List ET → Nat
  | [] => 0
  | e :: l => max e.depth (depthsE l)
end
theorem ET.size_eq (e : ET) : e.size = 1 + sizesE e.kids := by cases e; simp [ET.size, ET.kids]
theorem ET.depth_eq (e : ET) : e.depth = 1 + depthsE e.kids := by cases e; simp [ET.depth, ET.kids]
theorem sizesE_ge : ∀ l : List ET, l.length ≤ sizesE l
  | [] => Nat.le_refl _
  | e :: l => by
    have := sizesE_ge l
    have := e.size_eq
    simp only [sizesE, List.length_cons]
    omega
theorem sizesE_mem : ∀ {l : List ET} {k : Nat} (h : k < l.length), l[k].size ≤ sizesE l
  | e :: l, 0, _ => by simp [sizesE]
  | e :: l, k + 1, h => by
    have := sizesE_mem (l := l) (k := k) (by simpa using h)
    simp only [sizesE, List.getElem_cons_succ]
    omega
/-- Numbers that lie somewhere below M. -/
def IntsAt (w : World) (M : Nat) (a : Option Addr) (c : Nat) (zs : List Int) : Prop := Spot M a zs.length c ∧ ∀ i (h : i < zs.length), w.cell? ⟨blk a, ofs a + i, none⟩ = some (.int .i64 zs[i]) ∧ -9223372036854775808 ≤ zs[i] ∧ zs[i] ≤ 9223372036854775807
mutual
/-- The expression lies there, and all that is in it below M. -/
def LiesE (w : World) (M : Nat) : ET → Nat → Nat → Prop
  | .mk k d v va vc vs rs p ka kc kids, b, o =>
    b < M ∧ (∀ j x, (ET.cells (.mk k d v va vc vs rs p ka kc kids))[j]? = some x → w.cell? ⟨b, o + j, none⟩ = some x) ∧
      (Held w M d ∧ IntsAt w M va vc vs) ∧ Spot M ka kids.length kc ∧ LiesER w M kids (blk ka) (ofs ka)
def LiesER (w : World) (M : Nat) : List ET → Nat → Nat → Prop
  | [], _, _ => True
  | e :: l, b, o => LiesE w M e b o ∧ LiesER w M l b (o + 13)
end
/-- What an expression's value holds lies below M. -/
def HeldE (w : World) (M : Nat) (e : ET) : Prop := (Held w M e.d ∧ IntsAt w M e.va e.vc e.vs) ∧ Spot M e.ka e.kids.length e.kc ∧ LiesER w M e.kids (blk e.ka) (ofs e.ka)
theorem liesE_held {w : World} {M : Nat} {e : ET} {b o : Nat} : LiesE w M e b o ↔ b < M ∧ (∀ j x, e.cells[j]? = some x → w.cell? ⟨b, o + j, none⟩ = some x) ∧ HeldE w M e := by
  cases e; simp [LiesE, HeldE, ET.d, ET.va, ET.vc, ET.vs, ET.ka, ET.kc, ET.kids]
theorem liesER_nil {w : World} {M b o : Nat} : LiesER w M [] b o = True := by simp [LiesER]
theorem liesER_cons {w : World} {M b o : Nat} {e : ET} {l : List ET} : LiesER w M (e :: l) b o = (LiesE w M e b o ∧ LiesER w M l b (o + 13)) := by simp [LiesER]
theorem liesER_iff {w : World} {M : Nat} : ∀ (l : List ET) (b o : Nat), LiesER w M l b o ↔ ∀ i (h : i < l.length), LiesE w M l[i] b (o + 13 * i)
  | [], b, o => by simp [liesER_nil]
  | t :: l, b, o => by
    rw [liesER_cons, liesER_iff l b (o + 13)]
    constructor
    · rintro ⟨h1, h2⟩ i hi
      cases i with
      | zero => exact h1
      | succ i =>
        have := h2 i (by simpa using hi)
        rw [show o + 13 * (i + 1) = o + 13 + 13 * i by omega]
        exact this
    · intro h
      refine ⟨h 0 (by simp), fun i hi => ?_⟩
      have := h (i + 1) (by simpa using hi)
      rw [show o + 13 + 13 * i = o + 13 * (i + 1) by omega]
      exact this
theorem IntsAt.keep {w w' : World} {M : Nat} {a : Option Addr} {c : Nat} {zs : List Int} (h : IntsAt w M a c zs) (hk : ∀ k, k < M → w'.heap[k]? = w.heap[k]?) : IntsAt w' M a c zs :=
  ⟨h.1, fun i hi => ⟨(World.cell?_of_block (w := w) (a := ⟨blk a, ofs a + i, none⟩) (hk _ (h.1.2.2.1 (by omega)).2)).trans (h.2 i hi).1, (h.2 i hi).2⟩⟩
mutual
theorem LiesE.keep {w w' : World} {M : Nat} (hs : w.heap.size ≤ w'.heap.size) (hk : ∀ k, k < M → w'.heap[k]? = w.heap[k]?) : ∀ (e : ET) (b o : Nat), LiesE w M e b o → LiesE w' M e b o
  | .mk k d v va vc vs rs p ka kc kids, b, o, h => by
    simp only [LiesE] at h ⊢
    obtain ⟨h1, h2, ⟨h3, h4⟩, h5, h6⟩ := h
    exact ⟨h1, fun j x hj => (World.cell?_of_block (hk b h1)).trans (h2 j x hj), ⟨h3.keep hs hk, h4.keep hk⟩, h5, LiesER.keep hs hk kids _ _ h6⟩
theorem LiesER.keep {w w' : World} {M : Nat} (hs : w.heap.size ≤ w'.heap.size) (hk : ∀ k, k < M → w'.heap[k]? = w.heap[k]?) : ∀ (l : List ET) (b o : Nat), LiesER w M l b o → LiesER w' M l b o
  | [], _, _, _ => by simp [LiesER]
  | e :: l, b, o, h => by
    simp only [LiesER] at h ⊢
    exact ⟨LiesE.keep hs hk e b o h.1, LiesER.keep hs hk l b (o + 13) h.2⟩
end
theorem HeldE.keep {w w' : World} {M : Nat} {e : ET} (h : HeldE w M e) (hs : w.heap.size ≤ w'.heap.size) (hk : ∀ k, k < M → w'.heap[k]? = w.heap[k]?) : HeldE w' M e :=
  ⟨⟨h.1.1.keep hs hk, h.1.2.keep hk⟩, h.2.1, LiesER.keep hs hk _ _ _ h.2.2⟩
theorem HeldE.below {w w' : World} {M : Nat} {e : ET} (h : HeldE w M e) (hM : M ≤ w.heap.size) (hb : Below w.heap.size w w') : HeldE w' M e := h.keep hb.size fun k hk => hb.block k (by omega)

section
variable {H : Type} {enc : TypeId × Value → H} {w : World} {sp : Nat → Bool} {held : Bool}
theorem ints_of_trod {n : Nat} {cs : List Value} {x : DataW H × List MemPlace} (h : DataW.trod enc Tryz.prog w 0 sp held n 28 cs = some x) :
    ∃ a c zs, cs = [.slice a zs.length c] ∧ IntsAt w w.heap.size a c zs := by
  rcases open_ints Tryz.underlying28 Tryz.underlying3 (by kernel_rfl) h with ⟨rfl, _⟩ | ⟨a, len, cap, zs, rfl, _, hl, hm, hz, _, hcell, hwz⟩
  · exact ⟨none, 0, [], rfl, ⟨Nat.le_refl _, Nat.zero_le _, fun h => absurd h (by decide), fun _ => rfl⟩, fun i hi => by simp at hi⟩
  · have hle : len ≤ zs.length := by rw [hz]; split <;> omega
    have hpl : 0 < len → ∃ b off, a = ⟨b, off, none⟩ ∧ b < w.heap.size := by
      intro hp
      obtain ⟨b, off, spot⟩ := a
      have hc := hcell 0 (by omega)
      have hspot : spot = none := by simpa [Addr.add] using World.cell?_spot hc
      subst hspot
      have := World.block_lt_of_cell? w _ hc
      exact ⟨b, off, rfl, by simpa [Addr.add] using this⟩
    have hll : (zs.take len).length = len := by rw [List.length_take]; omega
    refine ⟨some a, cap, zs.take len, by rw [hll], ⟨by rw [hll]; exact hl, hm, fun hp => ?_, fun e => by cases e⟩, fun i hi => ?_⟩
    · obtain ⟨b, off, rfl, hb⟩ := hpl (by omega)
      exact ⟨rfl, hb⟩
    · obtain ⟨b, off, rfl, hb⟩ := hpl (by omega)
      have h1 := hcell i (by omega)
      have hadd : (⟨b, off, none⟩ : Addr).add i = ⟨b, off + i, none⟩ := by unfold Addr.add; split <;> simp_all
      rw [hadd] at h1
      have hzi : zs.getD i 0 = zs[i]'(by omega) := by rw [List.getD_eq_getElem?_getD, List.getElem?_eq_getElem (by omega)]; rfl
      rw [hzi] at h1
      have hbd := hwz (zs[i]'(by omega)) (List.getElem_mem _)
      rw [List.getElem_take]
      refine ⟨h1, ?_⟩
      have hmin : IntKind.i64.min = -9223372036854775808 := rfl
      simpa [Lit.wf, hmin] using hbd
theorem exprCells : Tryz.prog.cellsOf 31 = 13 := by kernel_rfl
theorem cells1E : Tryz.prog.cellsOf 28 = 1 ∧ Tryz.prog.cellsOf 29 = 1 := ⟨by kernel_rfl, by kernel_rfl⟩
theorem list13 {α : Type} : ∀ {l : List α}, l.length = 13 → ∃ c0 c1 c2 c3 c4 c5 c6 c7 c8 c9 c10 c11 c12, l = [c0, c1, c2, c3, c4, c5, c6, c7, c8, c9, c10, c11, c12]
  | [a, b, c, d, e, f, g, h, i, j, k, l, m], _ => ⟨a, b, c, d, e, f, g, h, i, j, k, l, m, rfl⟩
/-- A list of expressions, opened, when each opens with less fuel. -/
theorem rowE_of_trod {n : Nat} {cs : List Value} {x : DataW H × List MemPlace}
    (ih : ∀ m, m < n → ∀ cs x, DataW.trod enc Tryz.prog w 0 sp held m 31 cs = some x → ∃ e : ET, cs = e.cells ∧ HeldE w w.heap.size e)
    (h : DataW.trod enc Tryz.prog w 0 sp held n 29 cs = some x) :
    ∃ (a : Option Addr) (l : List ET) (c : Nat), cs = [.slice a l.length c] ∧ Spot w.heap.size a l.length c ∧ LiesER w w.heap.size l (blk a) (ofs a) := by
  rcases DataW.trod_slice Tryz.underlying29 h with ⟨rfl, _⟩ | ⟨a, len, cap, elems, rest, m, rfl, rfl, _, _, hl, hm, hlen, hel, _, _⟩
  · exact ⟨none, [], 0, rfl, ⟨Nat.le_refl _, Nat.zero_le _, fun h => absurd h (by decide), fun _ => rfl⟩, by rw [liesER_nil]; trivial⟩
  · have key : ∀ i, i < len → ∃ e : ET, (∀ j v, e.cells[j]? = some v → w.cell? ((a.add (i * 13)).add j) = some v) ∧ HeldE w w.heap.size e := by
      intro i hi
      have h1 := hel i hi
      rw [exprCells, List.getElem?_eq_getElem (by omega)] at h1
      obtain ⟨csi, h2, h3⟩ := Option.bind_eq_some_iff.1 h1
      obtain ⟨t, rfl, ht⟩ := ih m (Nat.lt_succ_self m) csi _ h3
      obtain ⟨_, hc⟩ := cells_at h2
      refine ⟨t, fun j v hj => ?_, ht⟩
      have h13 : t.cells.length = 13 := rfl
      have hj13 : j < 13 := by
        rcases Nat.lt_or_ge j 13 with h | h
        · exact h
        · rw [List.getElem?_eq_none (by omega)] at hj
          cases hj
      rw [hc j hj13, hj]
    obtain ⟨l, hll, hp⟩ := exists_list len key
    subst hll
    refine ⟨some a, l, cap, rfl, ⟨hl, hm, fun hpos => ?_, fun e => by cases e⟩, ?_⟩
    · have h1 := (hp 0 hpos).1 0 _ rfl
      obtain ⟨b, off, spot⟩ := a
      have hspot : spot = none := by simpa [Addr.add] using World.cell?_spot h1
      subst hspot
      have := World.block_lt_of_cell? w _ h1
      exact ⟨rfl, by simpa [Addr.add, blk] using this⟩
    · rw [liesER_iff]
      intro i hi
      obtain ⟨h1, h2⟩ := hp i hi
      obtain ⟨b, off, spot⟩ := a
      have h0 := h1 0 _ rfl
      have hadd : ∀ j, ((⟨b, off, spot⟩ : Addr).add (i * 13)).add j = ⟨b, off + 13 * i + j, none⟩ := by
        have hspot : spot = none := by
          have h00 := (hp 0 (by omega)).1 0 _ rfl
          simpa [Addr.add] using World.cell?_spot h00
        subst hspot
        intro j
        unfold Addr.add
        split <;> split <;> simp_all <;> omega
      refine liesE_held.2 ⟨?_, fun j v hj => ?_, h2⟩
      · have := World.block_lt_of_cell? w _ h0
        rw [hadd] at this
        exact this
      · have := h1 j v hj
        rw [hadd] at this
        exact this
theorem heldE_of_trod : ∀ (n : Nat) (cs : List Value) (x : DataW H × List MemPlace), DataW.trod enc Tryz.prog w 0 sp held n 31 cs = some x → ∃ e : ET, cs = e.cells ∧ HeldE w w.heap.size e := by
  intro n
  induction n using Nat.strongRecOn with
  | _ n ih =>
    intro cs x h
    obtain ⟨xs, m, rfl, _, hl, hxl, hf⟩ := DataW.trod_struct Tryz.underlying31 h
    rw [exprCells] at hl
    obtain ⟨c0, c1, c2, c3, c4, c5, c6, c7, c8, c9, c10, c11, c12, rfl⟩ := list13 hl
    have hx : ∀ i, i < 7 → ∃ y, xs[i]? = some y := fun i hi => ⟨_, List.getElem?_eq_getElem (by rw [hxl]; exact hi)⟩
    have f0 : DataW.trod enc Tryz.prog w 0 sp held m 3 [c0] = xs[0]? := trod_at cells1.1 (hf 0 _ rfl) rfl
    have f1 : DataW.trod enc Tryz.prog w 0 sp held m 27 [c1, c2, c3, c4, c5, c6, c7] = xs[1]? := trod_at datumCells (hf 1 _ rfl) rfl
    have f2 : DataW.trod enc Tryz.prog w 0 sp held m 3 [c8] = xs[2]? := trod_at cells1.1 (hf 2 _ rfl) rfl
    have f3 : DataW.trod enc Tryz.prog w 0 sp held m 28 [c9] = xs[3]? := trod_at cells1E.1 (hf 3 _ rfl) rfl
    have f4 : DataW.trod enc Tryz.prog w 0 sp held m 4 [c10] = xs[4]? := trod_at cells1.2.1 (hf 4 _ rfl) rfl
    have f5 : DataW.trod enc Tryz.prog w 0 sp held m 3 [c11] = xs[5]? := trod_at cells1.1 (hf 5 _ rfl) rfl
    have f6 : DataW.trod enc Tryz.prog w 0 sp held m 29 [c12] = xs[6]? := trod_at cells1E.2 (hf 6 _ rfl) rfl
    obtain ⟨y0, g0⟩ := hx 0 (by decide)
    obtain ⟨y1, g1⟩ := hx 1 (by decide)
    obtain ⟨y2, g2⟩ := hx 2 (by decide)
    obtain ⟨y3, g3⟩ := hx 3 (by decide)
    obtain ⟨y4, g4⟩ := hx 4 (by decide)
    obtain ⟨y5, g5⟩ := hx 5 (by decide)
    obtain ⟨y6, g6⟩ := hx 6 (by decide)
    rw [g0] at f0
    rw [g1] at f1
    rw [g2] at f2
    rw [g3] at f3
    rw [g4] at f4
    rw [g5] at f5
    rw [g6] at f6
    obtain ⟨k, e0, hk⟩ := lit1_of_trod Tryz.underlying3 f0
    obtain ⟨d, e1, hd⟩ := held_of_trod m _ _ f1
    obtain ⟨v, e2, hv⟩ := lit1_of_trod Tryz.underlying3 f2
    obtain ⟨va, vc, vs, e3, hvs⟩ := ints_of_trod f3
    obtain ⟨rs, e4⟩ := bool1_of_trod Tryz.underlying4 f4
    obtain ⟨p, e5, hp⟩ := lit1_of_trod Tryz.underlying3 f5
    obtain ⟨ka, kids, kc, e6, hsk, hlk⟩ := rowE_of_trod (fun q hq => ih q (by omega)) f6
    injection e0 with e0
    simp only [LT.cells, List.cons.injEq, and_true] at e1
    obtain ⟨a1, a2, a3, a4, a5, a6, a7⟩ := e1
    injection e2 with e2
    injection e3 with e3
    injection e4 with e4
    injection e5 with e5
    injection e6 with e6
    subst e0 a1 a2 a3 a4 a5 a6 a7 e2 e3 e4 e5 e6
    exact ⟨.mk k d v va vc vs rs p ka kc kids, rfl, ⟨hd, hvs⟩, hsk, hlk⟩
end
end
end Go.Proofs.YthdhdmmlmbkalaaGreatDoor
namespace Go.Proofs.YthdhdmmlmbkalaaGreatDoor
section
open Go.RowKit

/-- A datum's value, open. -/
def LT.val (t : LT) : Value := .agg #[.int .i64 t.k, .bool t.g, .slice t.la t.ln t.lc, .bool t.bb, .string t.s, .slice t.ia t.items.length t.ic, .slice t.ta t.tail.length t.tc]

set_option maxRecDepth 100000 in
set_option maxHeartbeats 1600000 in
theorem small_any (M : Nat) (t : LT) (most deep : Int) (w : World) (hM : M ≤ w.heap.size) (hH : Held w M t) (hl0 : 0 ≤ most) (hl1 : most ≤ 1000000) (hd0 : 0 ≤ deep) (hd1 : deep ≤ 1000000) :
    Calls Tryz.prog 33 #[t.val, .int .i64 most, .int .i64 deep] w fun e w' => e = .returned (.bool (decide (0 ≤ budT t most deep))) ∧ Below w.heap.size w w' := by
  have hba : Below w.heap.size w (w.alloc (Obj.cells #[.int .i64 t.k, .bool t.g, .slice t.la t.ln t.lc, .bool t.bb, .string t.s, .slice t.ia t.items.length t.ic, .slice t.ta t.tail.length t.tc] 27)) := (Below.refl _ w).alloc (Nat.le_refl _) _
  have HC := Lib.hid (budget_ok M t.size t (Nat.le_refl _) most deep (w.alloc (Obj.cells #[.int .i64 t.k, .bool t.g, .slice t.la t.ln t.lc, .bool t.bb, .string t.s, .slice t.ia t.items.length t.ic, .slice t.ta t.tail.length t.tc] 27)) (Nat.le_trans hM hba.size) (hH.keep hba.size (fun q hq => hba.block q (by omega))) hl0 hl1 hd0 hd1)
  have HB := Lib.hid hba
  clear hba hH
  unfold LT.val
  generalize budT t most deep = r at *
  go_enter Tryz.func33, Tryz.ntmps33
  go_wp2_with fail
  refine HC.out.mono ?_
  rintro e w1 ⟨rfl, b1⟩
  go_wp2_with fail
  go_ret
  exact ⟨rfl, bnext HB.out b1⟩

set_option maxRecDepth 100000 in
set_option maxHeartbeats 1600000 in
theorem few_any (M : Nat) (t : LT) (w : World) (hM : M ≤ w.heap.size) (hH : Held w M t) :
    Calls Tryz.prog 41 #[t.val] w fun e w' => e = .returned (.bool (decide (0 ≤ budT t 100000 10000))) ∧ Below w.heap.size w w' := by
  have hba : Below w.heap.size w (w.alloc (Obj.cells #[.int .i64 t.k, .bool t.g, .slice t.la t.ln t.lc, .bool t.bb, .string t.s, .slice t.ia t.items.length t.ic, .slice t.ta t.tail.length t.tc] 27)) := (Below.refl _ w).alloc (Nat.le_refl _) _
  have HC := Lib.hid (budget_ok M t.size t (Nat.le_refl _) 100000 10000 (w.alloc (Obj.cells #[.int .i64 t.k, .bool t.g, .slice t.la t.ln t.lc, .bool t.bb, .string t.s, .slice t.ia t.items.length t.ic, .slice t.ta t.tail.length t.tc] 27)) (Nat.le_trans hM hba.size) (hH.keep hba.size (fun q hq => hba.block q (by omega))) (by decide) (by decide) (by decide) (by decide))
  have HB := Lib.hid hba
  clear hba hH
  unfold LT.val
  generalize budT t 100000 10000 = r at *
  go_enter Tryz.func41, Tryz.ntmps41
  go_wp2_with fail
  refine HC.out.mono ?_
  rintro e w1 ⟨rfl, b1⟩
  go_wp2_with fail
  go_ret
  exact ⟨rfl, bnext HB.out b1⟩

/-! ### what the count tells: how many, and how deep -/
mutual
theorem budT_few : ∀ (t : LT) (left deep : Int), 0 ≤ left → 0 ≤ budT t left deep → budT t left deep = left - t.size ∧ (t.depth : Int) ≤ deep
  | .mk k g la ln lc ys bb s ia ic items ta tc tail, left, deep, h, h2 => by
    rw [budT_eq] at h2 ⊢
    by_cases hx : left - 1 < 0 ∨ deep ≤ 0
    · rw [if_pos hx] at h2; omega
    · rw [if_neg hx] at h2 ⊢
      simp only [LT.items, LT.tail] at h2 ⊢
      have hneg : ¬ budR items (left - 1) (deep - 1) < 0 := by
        intro hn
        have hb := (budR_bd items (left - 1) (deep - 1) (by omega)).1
        rw [show budR items (left - 1) (deep - 1) = -1 by omega, budR_neg] at h2
        omega
      have h3 := budR_few items (left - 1) (deep - 1) (by omega) (by omega)
      have h4 := budR_few tail (budR items (left - 1) (deep - 1)) (deep - 1) (by omega) h2
      rw [h4.1, h3.1]
      have e1 : LT.size (.mk k g la ln lc ys bb s ia ic items ta tc tail) = 1 + (sizes items + sizes tail) := by simp [LT.size]
      have e2 : LT.depth (.mk k g la ln lc ys bb s ia ic items ta tc tail) = 1 + max (depths items) (depths tail) := by simp [LT.depth]
      rw [e1, e2]
      omega
theorem budR_few : ∀ (l : List LT) (left deep : Int), 0 ≤ left → 0 ≤ budR l left deep → budR l left deep = left - sizes l ∧ ((depths l : Int) ≤ max 0 deep)
  | [], left, deep, h, h2 => by
    rw [budR_nil]
    simp [sizes, depths]
    omega
  | t :: l, left, deep, h, h2 => by
    rw [budR_cons] at h2 ⊢
    by_cases hx : budT t left deep < 0
    · rw [if_pos hx] at h2; omega
    · rw [if_neg hx] at h2 ⊢
      have h3 := budT_few t left deep h (by omega)
      have h4 := budR_few l (budT t left deep) deep (by omega) h2
      rw [h4.1, h3.1]
      simp only [sizes, depths]
      omega
end
end
end Go.Proofs.YthdhdmmlmbkalaaGreatDoor
namespace Go.Proofs.YthdhdmmlmbkalaaGreatDoor
section
open Go.RowKit

/-- All blocks of w but those of X lie in w' as they lay. -/
def But (X : Nat → Prop) (w w' : World) : Prop := w.heap.size ≤ w'.heap.size ∧ ∀ k, k < w.heap.size → ¬ X k → w'.heap[k]? = w.heap[k]?
theorem But.refl (X : Nat → Prop) (w : World) : But X w w := ⟨Nat.le_refl _, fun _ _ _ => rfl⟩
theorem But.trans {X : Nat → Prop} {a b c : World} (h : But X a b) (k : But X b c) : But X a c :=
  ⟨Nat.le_trans h.1 k.1, fun i hi hx => (k.2 i (Nat.lt_of_lt_of_le hi h.1) hx).trans (h.2 i hi hx)⟩
theorem But.mono {X Y : Nat → Prop} {a b : World} (h : But X a b) (hxy : ∀ k, X k → Y k) : But Y a b := ⟨h.1, fun k hk hy => h.2 k hk fun hx => hy (hxy k hx)⟩
theorem But.putObj (X : Nat → Prop) (w : World) (l : Nat) (o : Obj) (hl : X l) : But X w (w.putObj l o) :=
  ⟨by simp, fun k _ hk => World.putObj_heap_other (fun e => hk (e ▸ hl))⟩
theorem But.setCell (X : Nat → Prop) (w : World) (a : Addr) (v : Value) (hl : X a.block) : But X w (w.setCell a v) :=
  ⟨(KeepsWalks.setCell w a v).size, fun k _ hk => Below.heap_setCell w a v k (fun e => hk (e ▸ hl))⟩
theorem But.drew {X : Nat → Prop} {a b : World} (h : But X a b) : But X a b.drew := h
theorem But.alloc {X : Nat → Prop} {a b : World} (h : But X a b) (o : Obj) : But X a (b.alloc o) :=
  h.trans ⟨by simp, fun k hk _ => Below.heap_alloc b o k hk⟩
theorem But.below {X : Nat → Prop} {B : Nat} {a b c : World} (h : But X a b) (k : Below B b c) (hB : a.heap.size ≤ B) : But X a c :=
  ⟨Nat.le_trans h.1 k.size, fun i hi hx => (k.block i (by omega)).trans (h.2 i hi hx)⟩

/-- WHAT AN ITERATOR PROMISES: called with yield it tells enc 0, .., enc (N - 1), as long as yield says so; the caller's J abides whatever happens to blocks from the loop's begin on; a round may write X alone. -/
def Runs (F : Fence) (n : Nat) (P : Program) (g : Nat) (lb : Array Value) (encs : Nat → Array Value) (N : Nat) (X : Nat → Prop) (w : World) : Prop :=
  ∀ (l : Nat) (J Jx : Nat → World → Prop) (W : World), Below w.heap.size w W → (∀ r, X r → r < W.heap.size) → (∀ k A B, Below W.heap.size A B → J k A → J k B) → (∀ k A B, Below W.heap.size A B → Jx k A → Jx k B) →
    (∀ k W1, k < N → J k W1 → YieldAt F (n - 1) P l (encs k) W1 fun e W' =>
      (e = .returned (.bool true) ∧ J (k + 1) W' ∧ But X W1 W') ∨ (e = .returned (.bool false) ∧ Jx k W')) →
    J 0 W →
    CallsIn F n P g (#[.func (.yield l) #[] #[]] ++ lb) W fun e W' => (∃ v, e = .returned v) ∧ (J N W' ∨ ∃ k, k < N ∧ Jx k W')

/-- How the body of a round may be left. -/
def runPost (X : Nat → Prop) (I : Nat → World → Prop) (Ix : Code → Nat → World → Prop) (k : Nat) (W : World) : Exit → Act → World → Prop
  | .normal, _, W' => But X W W' ∧ I (k + 1) W'
  | .ret, _, W' => But X W W' ∧ Ix .ret k W'
  | .exit id, _, W' => But X W W' ∧ Ix (.exit id) k W'
  | .goto t, _, W' => But X W W' ∧ Ix (.goto t) k W'
  | .panic _, _, _ => False
  | .outgrown, _, _ => False

variable {F : Fence} {n : Nat} {P : Program}

/-- What the caller owes. -/
theorem wpIn_runs {g : Operand} {ps : Array Tmp} {assign body : Code} {Q : Exit → Act → World → Prop} {a : Act} {w : World}
    (hro : F.round = none) (h1 : 1 ≤ n) {gf : Nat} {lb : Array Value} (hg : a.eval g = .func (.func gf) #[] lb) (hFg : F.fn gf) (eg : ∀ args w, (callFunc gf args).run P w = .ok (.enter gf args) w)
    {encs : Nat → Array Value} {N : Nat} {X : Nat → Prop} {w0 : World} (hseq : Runs F (n - 1) P gf lb encs N (fun r => X r ∨ r = w.heap.size + 1) w0)
    (hX : ∀ r, X r → r < w.heap.size) (hb0 : Below w0.heap.size w0 w) (hps : ∀ k, (encs k).size = ps.size)
    (I : Nat → World → Prop) (Ix : Code → Nat → World → Prop) (hI : ∀ k A B, Below w.heap.size A B → I k A → I k B) (hIx : ∀ c k A B, Below w.heap.size A B → Ix c k A → Ix c k B) (h0 : I 0 w) (a₁ : Nat → Act)
    (hassign : ∀ (l k : Nat) (W : World) (K : Act → World → Prop), k < N → K (a₁ k) W →
      assign.wpIn (F.inRound l) (n - 1 - 1) P (Exit.then K (fun _ _ _ => False)) { tmps := (ps.zip (encs k)).foldl (fun t (p, v) => t.setIfInBounds p v) a.tmps, defers := [] } W)
    (hbody : ∀ (l k : Nat) (W : World), k < N → I k W → body.wpIn (F.inRound l) (n - 1 - 1) P (runPost X I Ix k W) (a₁ k) W)
    (hdone : ∀ (D : Nat) (W : World), w.heap.size ≤ D → I N W → W.heap[D]? = some (.deferred (some [])) → Q .normal { a with defers := { target := .collected D, args := #[] } :: a.defers } W)
    (hstop : ∀ (D : Nat) (c : Code) (k : Nat) (W : World), w.heap.size ≤ D → k < N → Ix c k W → W.heap[D]? = some (.deferred (some [])) → c.wpIn F n P Q { a with defers := { target := .collected D, args := #[] } :: a.defers } W) :
    (Code.rangeFunc g ps assign body).wpIn F n P Q a w := by
  refine wpIn_rangeFunc ?_
  intro fn hfn
  rw [hro]
  obtain ⟨rec, hrec⟩ : ∃ rec : LoopState → Option Code → Loop, rec = fun st pe => { state := st, pending := pe, fn, tmps := a.tmps, params := ps, assign, body, defers := w.heap.size } := ⟨_, rfl⟩
  obtain ⟨W1, hW1⟩ : ∃ W1, (w.alloc (.deferred (some []))).alloc (.loop (rec .ready none)) = W1 := ⟨_, rfl⟩
  have hsz : W1.heap.size = w.heap.size + 2 := by rw [← hW1]; simp
  have hL1 : W1.heap[w.heap.size + 1]? = some (.loop (rec .ready none)) := by
    rw [← hW1]; have := World.alloc_heap_new (w.alloc (.deferred (some []))) (.loop (rec .ready none)); rwa [World.size_alloc] at this
  have hK1 : W1.heap[w.heap.size]? = some (.deferred (some [])) := by
    rw [← hW1]; exact (Below.heap_alloc _ _ _ (by simp)).trans (World.alloc_heap_new w _)
  have hbw : Below w.heap.size w W1 := by rw [← hW1]; exact ((Below.refl _ w).alloc (Nat.le_refl _) _).alloc (by simp) _
  have hput : ∀ (W : World) (o : Obj), Below w.heap.size W (W.putObj (w.heap.size + 1) o) := fun W o =>
    ⟨rfl, rfl, rfl, by simp, fun k hk => World.putObj_heap_other (by omega)⟩
  refine ⟨w.heap.size + 1, [{ target := .collected w.heap.size, args := #[] }], W1, { target := .fn (.func gf) lb, args := #[.func (.yield (w.heap.size + 1)) #[] #[]] }, W1, gf,
    #[.func (.yield (w.heap.size + 1)) #[] #[]] ++ lb, W1, ?_, ?_, ?_, ?_, fun _ => h1, ?_⟩
  · rw [← hW1, hrec]; exact run_enterLoop_outer _ _ _ _ _
  · simp only [resolve, hg]
    simp [go_sem]
  · intro f' hf'; simp [Target.leads] at hf'; subst hf'; exact hFg
  · simp [invoke, go_sem, eg]
  · refine (hseq (w.heap.size + 1)
      (fun k W => I k W ∧ W.heap[w.heap.size + 1]? = some (.loop (rec .ready none)) ∧ W.heap[w.heap.size]? = some (.deferred (some [])))
      (fun k W => ∃ c, Ix c k W ∧ W.heap[w.heap.size + 1]? = some (.loop (rec .done (some c))) ∧ W.heap[w.heap.size]? = some (.deferred (some [])))
      W1 (hb0.trans (hbw.mono hb0.size)) (fun r hr => by rcases hr with hr | rfl <;> first | (have := hX _ hr; omega) | omega)
      (fun k A B hAB ⟨hi, hl, hk⟩ => ⟨hI k A B (hAB.mono (by omega)) hi, (hAB.block _ (by omega)).trans hl, (hAB.block _ (by omega)).trans hk⟩)
      (fun k A B hAB ⟨c, hi, hl, hk⟩ => ⟨c, hIx c k A B (hAB.mono (by omega)) hi, (hAB.block _ (by omega)).trans hl, (hAB.block _ (by omega)).trans hk⟩)
      ?_ ⟨hI 0 _ _ hbw h0, hL1, hK1⟩).mono ?_
    · rintro k W hkN ⟨hi, hl, hk⟩
      have hlt : w.heap.size + 1 < W.heap.size := (Array.getElem?_eq_some_iff.1 hl).1
      have hy := run_yield (P := P) (args := encs k) hl (by rw [hrec]; exact hps k)
      rw [hrec] at hy
      refine ⟨fn, _, assign, body, hy, roundIn_of_wpIn hfn (hassign _ k W _ hkN ⟨_, run_beginRound hl (by rw [hrec]), ?_⟩)⟩
      generalize hbusy : Obj.loop { rec .ready none with state := .busy } = ob
      have hl2 : (W.putObj (w.heap.size + 1) ob).heap[w.heap.size + 1]? = some ob := World.putObj_heap_same hlt
      have hk2 : (W.putObj (w.heap.size + 1) ob).heap[w.heap.size]? = some (.deferred (some [])) := (World.putObj_heap_other (by omega)).trans hk
      have hsz2 : (W.putObj (w.heap.size + 1) ob).heap.size = W.heap.size := by simp
      refine wpIn_mono (hbody _ k _ hkN (hI k _ _ (hput W ob) hi)) ?_
      have fin : ∀ (jump : Option Code) (W3 : World), But X (W.putObj (w.heap.size + 1) ob) W3 →
          (Instr.endRound (w.heap.size + 1) jump).run P W3 = .ok (.bool jump.isNone) (W3.putObj (w.heap.size + 1) (.loop (rec (if jump.isNone then .ready else .done) jump))) ∧
          (W3.putObj (w.heap.size + 1) (.loop (rec (if jump.isNone then .ready else .done) jump))).heap[w.heap.size + 1]? = some (.loop (rec (if jump.isNone then .ready else .done) jump)) ∧
          (W3.putObj (w.heap.size + 1) (.loop (rec (if jump.isNone then .ready else .done) jump))).heap[w.heap.size]? = some (.deferred (some [])) ∧
          But (fun r => X r ∨ r = w.heap.size + 1) W (W3.putObj (w.heap.size + 1) (.loop (rec (if jump.isNone then .ready else .done) jump))) := fun jump W3 hk3 => by
        have hl3 : W3.heap[w.heap.size + 1]? = some ob := (hk3.2 _ (by omega) (fun h => by have := hX _ h; omega)).trans hl2
        have hd3 : W3.heap[w.heap.size]? = some (.deferred (some [])) := (hk3.2 _ (by omega) (fun h => by have := hX _ h; omega)).trans hk2
        rw [← hbusy] at hl3
        have := run_endRound (P := P) jump hl3
        rw [hrec] at this ⊢
        refine ⟨this, World.putObj_heap_same (Array.getElem?_eq_some_iff.1 hl3).1, (World.putObj_heap_other (by omega)).trans hd3, ?_⟩
        exact ((But.putObj _ W _ _ (.inr rfl)).trans (hk3.mono fun _ => .inl)).trans (But.putObj _ _ _ _ (.inr rfl))
      rintro e a3 W3 hp
      cases e with
      | normal =>
        obtain ⟨hk3, hi3⟩ := hp
        obtain ⟨hr, hl4, hk4, hb4⟩ := fin none W3 hk3
        exact ⟨_, _, hr, .inl ⟨rfl, ⟨hI _ _ _ (hput _ _) hi3, hl4, hk4⟩, hb4⟩⟩
      | ret =>
        obtain ⟨hk3, hi3⟩ := hp
        obtain ⟨hr, hl4, hk4, hb4⟩ := fin (some .ret) W3 hk3
        exact ⟨_, _, hr, .inr ⟨rfl, .ret, hIx _ _ _ _ (hput _ _) hi3, hl4, hk4⟩⟩
      | exit id =>
        obtain ⟨hk3, hi3⟩ := hp
        obtain ⟨hr, hl4, hk4, hb4⟩ := fin (some (.exit id)) W3 hk3
        exact ⟨_, _, hr, .inr ⟨rfl, .exit id, hIx _ _ _ _ (hput _ _) hi3, hl4, hk4⟩⟩
      | goto t =>
        obtain ⟨hk3, hi3⟩ := hp
        obtain ⟨hr, hl4, hk4, hb4⟩ := fin (some (.goto t)) W3 hk3
        exact ⟨_, _, hr, .inr ⟨rfl, .goto t, hIx _ _ _ _ (hput _ _) hi3, hl4, hk4⟩⟩
      | panic ch => exact hp.elim
      | outgrown => exact hp.elim
    · rintro e W2 ⟨⟨v, rfl⟩, (⟨hi, hl, hk⟩ | ⟨k, hkN, c, hi, hl, hk⟩)⟩
      · exact ⟨none, _, by have := run_endLoop (P := P) hl (by rw [hrec]; simp); rw [hrec] at this; exact this, hdone _ _ (Nat.le_refl _) (hI _ _ _ (hput _ _) hi) ((World.putObj_heap_other (by omega)).trans hk)⟩
      · exact ⟨some c, _, by have := run_endLoop (P := P) hl (by rw [hrec]; simp); rw [hrec] at this; exact this, hstop _ c k _ (Nat.le_refl _) hkN (hIx _ _ _ _ (hput _ _) hi) ((World.putObj_heap_other (by omega)).trans hk)⟩
end
end Go.Proofs.YthdhdmmlmbkalaaGreatDoor
