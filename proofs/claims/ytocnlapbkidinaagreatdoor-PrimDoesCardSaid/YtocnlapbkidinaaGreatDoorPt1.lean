/-
  A datum that came in, opened: where its form is read (DataW.trod), a tree lies in memory. pavaneref03.budget of any tree: how many data there are, counted down. pavaneref03.Small and Few of any tree.
-/
import Derived.Test.YtocnlapbkidinaaGreatDoorQHeld
import Derived.OpenShut
import Derived.ChangeSlices
import Derived.ProofKit
import Derived.OwnWalk
set_option linter.unusedVariables false
set_option linter.unusedSimpArgs false
set_option linter.unusedSectionVars false
set_option linter.unnecessarySimpa false
namespace Go.Proofs.YtocnlapbkidinaaGreatDoor
section
open Go.ChangeShapes Go.WideShapes Go.ChangeAt Go.RowKit

/-- What a datum's value holds lies below M (the value itself need not lie in memory). -/
def Held (w : World) (M : Nat) (t : LT) : Prop := (Sl w t.la t.ln t.lc t.ys ∧ (0 < t.ln → blk t.la < M) ∧ t.s.size ≤ maxLen) ∧ Spot M t.ia t.items.length t.ic ∧ Spot M t.ta t.tail.length t.tc ∧
  LiesR w M t.items (blk t.ia) (ofs t.ia) ∧ LiesR w M t.tail (blk t.ta) (ofs t.ta)
theorem lies_held {w : World} {M : Nat} {t : LT} {b o : Nat} : Lies w M t b o ↔ b < M ∧ (∀ j v, t.cells[j]? = some v → w.cell? ⟨b, o + j, none⟩ = some v) ∧ Held w M t := lies_eq
theorem liesR_iff {w : World} {M : Nat} : ∀ (l : List LT) (b o : Nat), LiesR w M l b o ↔ ∀ i (h : i < l.length), Lies w M l[i] b (o + 7 * i)
  | [], b, o => by simp
  | t :: l, b, o => by
    rw [liesR_cons, liesR_iff l b (o + 7)]
    constructor
    · rintro ⟨h1, h2⟩ i hi
      cases i with
      | zero => exact h1
      | succ i =>
        have := h2 i (by simpa using hi)
        rw [show o + 7 * (i + 1) = o + 7 + 7 * i by omega]
        exact this
    · intro h
      refine ⟨h 0 (by simp), fun i hi => ?_⟩
      have := h (i + 1) (by simpa using hi)
      rw [show o + 7 + 7 * i = o + 7 * (i + 1) by omega]
      exact this
theorem exists_list {α : Type} {P : Nat → α → Prop} : ∀ n, (∀ i, i < n → ∃ t, P i t) → ∃ l : List α, l.length = n ∧ ∀ i (h : i < l.length), P i l[i]
  | 0, _ => ⟨[], rfl, fun i h => by simp at h⟩
  | n + 1, H => by
    obtain ⟨l, hl, hp⟩ := exists_list n fun i hi => H i (by omega)
    obtain ⟨t, ht⟩ := H n (by omega)
    refine ⟨l ++ [t], by simp [hl], fun i h => ?_⟩
    by_cases hi : i < l.length
    · rw [List.getElem_append_left hi]
      exact hp i hi
    · have : i = l.length := by simp at h; omega
      subst this
      rw [List.getElem_append_right (by omega)]
      simp only [Nat.sub_self, List.getElem_cons_zero]
      rw [hl]
      exact ht

section
variable {H : Type} {enc : TypeId × Value → H} {w : World} {sp : Nat → Bool} {held : Bool}

theorem cells_at {a : Addr} {n : Nat} {cs : List Value} (h : w.cells? 0 a n = some cs) : cs.length = n ∧ ∀ j, j < n → w.cell? (a.add j) = cs[j]? := by
  unfold World.cells? at h
  rw [if_pos (Nat.zero_le _)] at h
  exact ⟨by simpa using mapM_some_length h, fun j hj => mapM_some_get h j j (by simp [hj])⟩

/-- A list of data, opened, when each datum opens with less fuel. -/
theorem row_of_trod {n : Nat} {cs : List Value} {x : DataW H × List MemPlace}
    (ih : ∀ m, m < n → ∀ cs x, DataW.trod enc Tryz.prog w 0 sp held m 29 cs = some x → ∃ t : LT, cs = t.cells ∧ Held w w.heap.size t)
    (hcell : Tryz.prog.cellsOf 29 = 7) (h : DataW.trod enc Tryz.prog w 0 sp held n 22 cs = some x) :
    ∃ (a : Option Addr) (l : List LT) (c : Nat), cs = [.slice a l.length c] ∧ Spot w.heap.size a l.length c ∧ LiesR w w.heap.size l (blk a) (ofs a) := by
  rcases DataW.trod_slice Tryz.underlying22 h with ⟨rfl, _⟩ | ⟨a, len, cap, elems, rest, m, rfl, rfl, _, _, hl, hm, hlen, hel, _, _⟩
  · exact ⟨none, [], 0, rfl, ⟨Nat.le_refl _, Nat.zero_le _, fun h => absurd h (by decide), fun _ => rfl⟩, trivial⟩
  · have key : ∀ i, i < len → ∃ t : LT, (∀ j v, t.cells[j]? = some v → w.cell? ((a.add (i * 7)).add j) = some v) ∧ Held w w.heap.size t := by
      intro i hi
      have h1 := hel i hi
      rw [hcell, List.getElem?_eq_getElem (by omega)] at h1
      obtain ⟨csi, h2, h3⟩ := Option.bind_eq_some_iff.1 h1
      obtain ⟨t, rfl, ht⟩ := ih m (Nat.lt_succ_self m) csi _ h3
      obtain ⟨_, hc⟩ := cells_at h2
      refine ⟨t, fun j v hj => ?_, ht⟩
      have h7 : t.cells.length = 7 := rfl
      have hj7 : j < 7 := by
        rcases Nat.lt_or_ge j 7 with h | h
        · exact h
        · rw [List.getElem?_eq_none (by omega)] at hj
          cases hj
      rw [hc j hj7, hj]
    obtain ⟨l, hll, hp⟩ := exists_list len key
    subst hll
    refine ⟨some a, l, cap, rfl, ⟨hl, hm, fun hpos => ?_, fun e => by cases e⟩, ?_⟩
    · have h1 := (hp 0 hpos).1 0 _ rfl
      obtain ⟨b, off, spot⟩ := a
      have hspot : spot = none := by simpa [Addr.add] using World.cell?_spot h1
      subst hspot
      have := World.block_lt_of_cell? w _ h1
      exact ⟨rfl, by simpa [Addr.add, blk] using this⟩
    · rw [liesR_iff]
      intro i hi
      obtain ⟨h1, h2⟩ := hp i hi
      obtain ⟨b, off, spot⟩ := a
      have h0 := h1 0 _ rfl
      have hadd : ∀ j, ((⟨b, off, spot⟩ : Addr).add (i * 7)).add j = ⟨b, off + 7 * i + j, none⟩ := by
        have hspot : spot = none := by
          have h00 := (hp 0 (by omega)).1 0 _ rfl
          simpa [Addr.add] using World.cell?_spot h00
        subst hspot
        intro j
        unfold Addr.add
        split <;> split <;> simp_all <;> omega
      refine lies_held.2 ⟨?_, fun j v hj => ?_, h2⟩
      · have := World.block_lt_of_cell? w _ h0
        rw [hadd] at this
        exact this
      · have := h1 j v hj
        rw [hadd] at this
        exact this

theorem lit1_of_trod {t : TypeId} {k : IntKind} {n : Nat} {cs : List Value} {x : DataW H × List MemPlace} (hu : Tryz.prog.underlying t = some (.int k)) (h : DataW.trod enc Tryz.prog w 0 sp held n t cs = some x) : ∃ z, cs = [.int k z] ∧ (Lit.int k z).wf = true := by
  cases n with
  | zero => simp [DataW.trod] at h
  | succ n =>
    unfold DataW.trod at h
    rw [hu] at h
    split at h <;> simp_all
theorem bool1_of_trod {t : TypeId} {n : Nat} {cs : List Value} {x : DataW H × List MemPlace} (hu : Tryz.prog.underlying t = some .bool) (h : DataW.trod enc Tryz.prog w 0 sp held n t cs = some x) : ∃ b, cs = [.bool b] := by
  cases n with
  | zero => simp [DataW.trod] at h
  | succ n =>
    unfold DataW.trod at h
    rw [hu] at h
    split at h <;> simp_all
theorem str1_of_trod {t : TypeId} {n : Nat} {cs : List Value} {x : DataW H × List MemPlace} (hu : Tryz.prog.underlying t = some .string) (h : DataW.trod enc Tryz.prog w 0 sp held n t cs = some x) : ∃ s, cs = [.string s] ∧ s.size ≤ maxLen := by
  cases n with
  | zero => simp [DataW.trod] at h
  | succ n =>
    unfold DataW.trod at h
    rw [hu] at h
    split at h <;> simp_all

theorem sl_of_trod {n : Nat} {cs : List Value} {x : DataW H × List MemPlace} (h : DataW.trod enc Tryz.prog w 0 sp held n 25 cs = some x) :
    ∃ a ln lc ys, cs = [.slice a ln lc] ∧ Sl w a ln lc ys ∧ (0 < ln → blk a < w.heap.size) := by
  rcases open_ints Tryz.underlying25 Tryz.underlying78 (by kernel_rfl) h with ⟨rfl, _⟩ | ⟨a, len, cap, zs, rfl, _, hl, hm, hz, _, hcell, hwz⟩
  · exact ⟨none, 0, 0, [], rfl, Sl.nil, fun h => absurd h (by decide)⟩
  · have hle : len ≤ zs.length := by rw [hz]; split <;> omega
    have hpl : 0 < len → ∃ b off, a = ⟨b, off, none⟩ ∧ b < w.heap.size := by
      intro hp
      obtain ⟨b, off, spot⟩ := a
      have hc := hcell 0 (by omega)
      have hspot : spot = none := by simpa [Addr.add] using World.cell?_spot hc
      subst hspot
      have := World.block_lt_of_cell? w _ hc
      exact ⟨b, off, rfl, by simpa [Addr.add] using this⟩
    refine ⟨some a, len, cap, (zs.take len).map Int.toNat, rfl, ⟨by rw [List.length_map, List.length_take]; omega, hl, hm, ?_, ?_, fun e => by cases e⟩, ?_⟩
    · intro y hy
      obtain ⟨z, hz1, rfl⟩ := List.mem_map.1 hy
      have := hwz z (List.mem_of_mem_take hz1)
      have := bounds_u32 this
      omega
    · intro hp
      obtain ⟨b, off, rfl, hb⟩ := hpl hp
      refine ⟨b, off, rfl, hb, fun i hi => ?_⟩
      have h1 := hcell i (by omega)
      have hadd : (⟨b, off, none⟩ : Addr).add i = ⟨b, off + i, none⟩ := by unfold Addr.add; split <;> simp_all
      rw [hadd] at h1
      rw [h1, lim_eq]
      have hzi : zs.getD i 0 = zs[i]'(by omega) := by rw [List.getD_eq_getElem?_getD, List.getElem?_eq_getElem (by omega)]; rfl
      have hb := bounds_u32 (hwz (zs[i]'(by omega)) (List.getElem_mem _))
      rw [hzi, List.getElem?_map, List.getElem?_take_of_lt hi, List.getElem?_eq_getElem (by omega)]
      simp
      omega
    · intro hp
      obtain ⟨b, off, rfl, hb⟩ := hpl hp
      exact hb

theorem datumCells : Tryz.prog.cellsOf 29 = 7 := by kernel_rfl
theorem intCells : Tryz.prog.cellsOf 27 = 2 := by kernel_rfl

theorem list7 {α : Type} : ∀ {l : List α}, l.length = 7 → ∃ c0 c1 c2 c3 c4 c5 c6, l = [c0, c1, c2, c3, c4, c5, c6]
  | [a, b, c, d, e, f, g], _ => ⟨a, b, c, d, e, f, g, rfl⟩
theorem cells1 : Tryz.prog.cellsOf 3 = 1 ∧ Tryz.prog.cellsOf 4 = 1 ∧ Tryz.prog.cellsOf 9 = 1 ∧ Tryz.prog.cellsOf 22 = 1 ∧ Tryz.prog.cellsOf 25 = 1 := ⟨by kernel_rfl, by kernel_rfl, by kernel_rfl, by kernel_rfl, by kernel_rfl⟩
theorem trod_at {P : Program} {base m : Nat} {t : TypeId} {cs cs' : List Value} {o n : Nat} {r : Option (DataW H × List MemPlace)} (hc : P.cellsOf t = n) (h : DataW.trod enc P w base sp held m t ((cs.drop o).take (P.cellsOf t)) = r) (e : (cs.drop o).take n = cs') : DataW.trod enc P w base sp held m t cs' = r := by
  rw [hc, e] at h
  exact h

theorem held_of_trod : ∀ (n : Nat) (cs : List Value) (x : DataW H × List MemPlace), DataW.trod enc Tryz.prog w 0 sp held n 29 cs = some x → ∃ t : LT, cs = t.cells ∧ Held w w.heap.size t := by
  intro n
  induction n using Nat.strongRecOn with
  | _ n ih =>
    intro cs x h
    obtain ⟨xs, m, rfl, _, hl, hxl, hf⟩ := DataW.trod_struct Tryz.underlying29 h
    rw [datumCells] at hl
    obtain ⟨c0, c1, c2, c3, c4, c5, c6, rfl⟩ := list7 hl
    have hx : ∀ i, i < 6 → ∃ y, xs[i]? = some y := fun i hi => ⟨_, List.getElem?_eq_getElem (by rw [hxl]; exact hi)⟩
    have f0 : DataW.trod enc Tryz.prog w 0 sp held m 3 [c0] = xs[0]? := trod_at cells1.1 (hf 0 _ rfl) rfl
    have f1 : DataW.trod enc Tryz.prog w 0 sp held m 27 [c1, c2] = xs[1]? := trod_at intCells (hf 1 _ rfl) rfl
    have f2 : DataW.trod enc Tryz.prog w 0 sp held m 4 [c3] = xs[2]? := trod_at cells1.2.1 (hf 2 _ rfl) rfl
    have f3 : DataW.trod enc Tryz.prog w 0 sp held m 9 [c4] = xs[3]? := trod_at cells1.2.2.1 (hf 3 _ rfl) rfl
    have f4 : DataW.trod enc Tryz.prog w 0 sp held m 22 [c5] = xs[4]? := trod_at cells1.2.2.2.1 (hf 4 _ rfl) rfl
    have f5 : DataW.trod enc Tryz.prog w 0 sp held m 22 [c6] = xs[5]? := trod_at cells1.2.2.2.1 (hf 5 _ rfl) rfl
    obtain ⟨y0, g0⟩ := hx 0 (by decide)
    obtain ⟨y1, g1⟩ := hx 1 (by decide)
    obtain ⟨y2, g2⟩ := hx 2 (by decide)
    obtain ⟨y3, g3⟩ := hx 3 (by decide)
    obtain ⟨y4, g4⟩ := hx 4 (by decide)
    obtain ⟨y5, g5⟩ := hx 5 (by decide)
    rw [g0] at f0
    rw [g1] at f1
    rw [g2] at f2
    rw [g3] at f3
    rw [g4] at f4
    rw [g5] at f5
    obtain ⟨k, e0, hk⟩ := lit1_of_trod Tryz.underlying3 f0
    obtain ⟨zs, m1, rfl, _, hl1, hzl, hf1⟩ := DataW.trod_struct Tryz.underlying27 f1
    have i0 : DataW.trod enc Tryz.prog w 0 sp held m1 4 [c1] = zs[0]? := trod_at cells1.2.1 (hf1 0 _ rfl) rfl
    have i1 : DataW.trod enc Tryz.prog w 0 sp held m1 25 [c2] = zs[1]? := trod_at cells1.2.2.2.2 (hf1 1 _ rfl) rfl
    obtain ⟨z0, j0⟩ : ∃ y, zs[0]? = some y := ⟨_, List.getElem?_eq_getElem (by rw [hzl]; decide)⟩
    obtain ⟨z1, j1⟩ : ∃ y, zs[1]? = some y := ⟨_, List.getElem?_eq_getElem (by rw [hzl]; decide)⟩
    rw [j0] at i0
    rw [j1] at i1
    obtain ⟨g, e1⟩ := bool1_of_trod Tryz.underlying4 i0
    obtain ⟨la, ln, lc, ys, e2, hsl, hbl⟩ := sl_of_trod i1
    obtain ⟨bb, e3⟩ := bool1_of_trod Tryz.underlying4 f2
    obtain ⟨s, e4, hs⟩ := str1_of_trod Tryz.underlying9 f3
    obtain ⟨ia, items, ic, e5, hsi, hli⟩ := row_of_trod (fun q hq => ih q (by omega)) datumCells f4
    obtain ⟨ta, tail, tc, e6, hst, hlt⟩ := row_of_trod (fun q hq => ih q (by omega)) datumCells f5
    injection e0 with e0
    injection e1 with e1
    injection e2 with e2
    injection e3 with e3
    injection e4 with e4
    injection e5 with e5
    injection e6 with e6
    subst e0 e1 e2 e3 e4 e5 e6
    exact ⟨.mk k g la ln lc ys bb s ia ic items ta tc tail, rfl, ⟨hsl, hbl, hs⟩, hsi, hst, hli, hlt⟩
end
end
end Go.Proofs.YtocnlapbkidinaaGreatDoor
namespace Go.Proofs.YtocnlapbkidinaaGreatDoor
section
open Go.RowKit

mutual
def budT : LT → Int → Int → Int
  | .mk _ _ _ _ _ _ _ _ _ _ items _ _ tail, left, deep => if left - 1 < 0 ∨ deep ≤ 0 then -1 else budR tail (budR items (left - 1) (deep - 1)) (deep - 1)
def budR : List LT → Int → Int → Int
  | [], left, _ => left
  | t :: l, left, deep => if budT t left deep < 0 then -1 else budR l (budT t left deep) deep
end
theorem budT_eq (t : LT) (left deep : Int) : budT t left deep = if left - 1 < 0 ∨ deep ≤ 0 then -1 else budR t.tail (budR t.items (left - 1) (deep - 1)) (deep - 1) := by cases t; simp [budT, LT.items, LT.tail]
theorem budR_cons (t : LT) (l : List LT) (left deep : Int) : budR (t :: l) left deep = if budT t left deep < 0 then -1 else budR l (budT t left deep) deep := by simp [budR]
theorem budR_nil (left deep : Int) : budR [] left deep = left := by simp [budR]
theorem budR_neg (l : List LT) (deep : Int) : budR l (-1) deep = -1 := by
  cases l with
  | nil => exact budR_nil _ _
  | cons t l =>
    have : budT t (-1) deep = -1 := by rw [budT_eq, if_pos (.inl (by decide))]
    rw [budR_cons, this, if_pos (by decide)]
mutual
theorem budT_bd : ∀ (t : LT) (left deep : Int), 0 ≤ left → -1 ≤ budT t left deep ∧ budT t left deep ≤ left
  | .mk k g la ln lc ys bb s ia ic items ta tc tail, left, deep, h => by
    rw [budT_eq]
    by_cases hx : left - 1 < 0 ∨ deep ≤ 0
    · rw [if_pos hx]; omega
    · rw [if_neg hx]
      have h1 := budR_bd items (left - 1) (deep - 1) (by omega)
      have h2 := budR_bd tail (budR items (left - 1) (deep - 1)) (deep - 1) (by omega)
      simp only [LT.items, LT.tail]
      omega
theorem budR_bd : ∀ (l : List LT) (left deep : Int), -1 ≤ left → -1 ≤ budR l left deep ∧ budR l left deep ≤ left
  | [], left, deep, h => by rw [budR_nil]; omega
  | t :: l, left, deep, h => by
    by_cases hl : left = -1
    · subst hl; rw [budR_neg]; omega
    · have h1 := budT_bd t left deep (by omega)
      rw [budR_cons]
      by_cases hx : budT t left deep < 0
      · rw [if_pos hx]; omega
      · rw [if_neg hx]
        have h2 := budR_bd l (budT t left deep) deep (by omega)
        omega
end
/-- What is left to count. -/
def restB (t : LT) (d : Int) (j : Nat) (L : Int) : Int := match j with | 0 => budR t.tail (budR t.items L d) d | 1 => budR t.tail L d | _ => L
def listB (t : LT) (j : Nat) : List LT := match j with | 0 => t.items | _ => t.tail
theorem restB_step (t : LT) (d : Int) (j : Nat) (hj : j < 2) (L : Int) : restB t d j L = restB t d (j + 1) (budR (listB t j) L d) := by
  rcases (show j = 0 ∨ j = 1 by omega) with rfl | rfl <;> rfl
theorem restB_neg (t : LT) (d : Int) (j : Nat) (hj : j < 2) : restB t d (j + 1) (-1) = -1 := by
  rcases (show j = 0 ∨ j = 1 by omega) with rfl | rfl
  · exact budR_neg _ _
  · rfl
theorem Held.keep {w w' : World} {M : Nat} {t : LT} (h : Held w M t) (hs : w.heap.size ≤ w'.heap.size) (hk : ∀ k, k < M → w'.heap[k]? = w.heap[k]?) : Held w' M t :=
  ⟨⟨h.1.1.keepM hs h.1.2.1 hk, h.1.2⟩, h.2.1, h.2.2.1, h.2.2.2.1.keep hs hk, h.2.2.2.2.keep hs hk⟩
theorem sizes_mem {l : List LT} {k : Nat} (h : k < l.length) : l[k].size ≤ sizes l := by
  induction l generalizing k with
  | nil => simp at h
  | cons t l ih =>
    simp only [sizes]
    cases k with
    | zero => simp
    | succ k =>
      have := ih (k := k) (by simpa using h)
      simp only [List.getElem_cons_succ]
      omega

theorem run_two (A : Array Value) (j : Nat) (x : Value) (w : World) (hj : j < 2) (h : A[j]? = some x) (hx : x.cells.size = 1) : (Instr.index 83 (.agg A) (.int .i64 (j : Int))).run Tryz.prog w = .ok x w := by
  simp [Instr.index, asIntOf, part, Sem.run_bind, run_underlying Tryz.underlying83, go_sem, h, hj]

set_option maxRecDepth 100000 in
set_option maxHeartbeats 6400000 in
theorem budget_ok (M : Nat) : ∀ (N : Nat) (t : LT), t.size ≤ N → ∀ (left deep : Int) (w : World), M ≤ w.heap.size → Held w M t → 0 ≤ left → left ≤ 1000000 → 0 ≤ deep → deep ≤ 1000000 →
    Calls Tryz.prog 40 #[.agg #[.int .i64 t.k, .bool t.g, .slice t.la t.ln t.lc, .bool t.bb, .string t.s, .slice t.ia t.items.length t.ic, .slice t.ta t.tail.length t.tc], .int .i64 left, .int .i64 deep] w fun e w' => e = .returned (.int .i64 (budT t left deep)) ∧ Below w.heap.size w w' := by
  intro N
  induction N with
  | zero => intro t ht; rw [t.size_eq] at ht; omega
  | succ N ih =>
    intro t ht left deep w hM hH hl0 hl1 hd0 hd1
    have IH := Lib.hid ih
    clear ih
    by_cases hx : left - 1 < 0
    · have HR := Lib.hid (show budT t left deep = -1 by rw [budT_eq, if_pos (.inl hx)])
      go_enter Tryz.func40, Tryz.ntmps40
      go_wp2_with fail
      go_ret
      exact ⟨by rw [HR.out]; rfl, (Below.refl _ w).alloc (Nat.le_refl _) _⟩
    by_cases hy : deep ≤ 0
    · have HR := Lib.hid (show budT t left deep = -1 by rw [budT_eq, if_pos (.inr hy)])
      go_enter Tryz.func40, Tryz.ntmps40
      go_wp2_with fail
      go_ret
      exact ⟨by rw [HR.out]; rfl, (Below.refl _ w).alloc (Nat.le_refl _) _⟩
    have HT := Lib.hid (show budT t left deep = restB t (deep - 1) 0 (left - 1) by rw [budT_eq, if_neg (by omega)]; rfl)
    have HHH := Lib.hid hH
    have HSZ := Lib.hid (show sizes (listB t 0) ≤ N ∧ sizes (listB t 1) ≤ N by rw [t.size_eq] at ht; simp only [listB]; omega)
    clear hH ht
    go_enter Tryz.func40, Tryz.ntmps40
    go_wp2_with fail
    obtain ⟨A, hA⟩ : ∃ A, A = (#[.slice t.ia t.items.length t.ic, .slice t.ta t.tail.length t.tc] : Array Value) := ⟨_, rfl⟩
    have HAT := Lib.hid (show ∀ j, j < 2 → ∃ a c, A[j]? = some (.slice a (listB t j).length c) ∧ Spot M a (listB t j).length c ∧ LiesR w M (listB t j) (blk a) (ofs a) by
      intro j hj
      rcases (show j = 0 ∨ j = 1 by omega) with rfl | rfl
      · exact ⟨t.ia, t.ic, by rw [hA]; rfl, HHH.out.2.1, HHH.out.2.2.2.1⟩
      · exact ⟨t.ta, t.tc, by rw [hA]; rfl, HHH.out.2.2.1, HHH.out.2.2.2.2⟩)
    have hb0 : Below w.heap.size w (w.alloc (Obj.cells #[.int .i64 t.k, .bool t.g, .slice t.la t.ln t.lc, .bool t.bb, .string t.s, .slice t.ia t.items.length t.ic, .slice t.ta t.tail.length t.tc] 29)) := (Below.refl _ w).alloc (Nat.le_refl _) _
    rw [← hA]
    clear hA
    go_loopw [1, 24] (fun lf i wr => ∃ (j : Nat) (L : Int), j ≤ 2 ∧ i = .int .i64 j ∧ lf = .int .i64 L ∧ 0 ≤ L ∧ L ≤ left ∧ Hid (budT t left deep = restB t (deep - 1) j L) ∧ Below w.heap.size w wr) (fun _ i _ => 2 - (intOf i).toNat)
    case atStart => exact ⟨0, left - 1, by decide, rfl, rfl, by omega, by omega, HT, hb0⟩
    case round =>
      obtain ⟨j, L, hj, rfl, rfl, hL0, hL1, HJ, hbel⟩ := hrel
      clear hb0
      by_cases hj2 : j < 2
      · obtain ⟨a, c, ha, hsp, hli⟩ := HAT.out j hj2
        have hrun := fun w' => run_two A j _ w' hj2 ha rfl
        have hdj : decide ((j : Int) < 2) = true := by simp; omega
        have HS := Lib.hid (show sizes (listB t j) ≤ N by rcases (show j = 0 ∨ j = 1 by omega) with rfl | rfl; exact HSZ.out.1; exact HSZ.out.2)
        have HJ2 := Lib.hid (show budT t left deep = restB t (deep - 1) (j + 1) (budR (listB t j) L (deep - 1)) by rw [HJ.out, restB_step t _ j hj2])
        have HNEG := Lib.hid (restB_neg t (deep - 1) j hj2)
        generalize listB t j = l at *
        by_cases hl : 0 < l.length
        · obtain ⟨haa, hlt⟩ := hsp.2.2.1 hl
          have hsz := hsp.2.1
          have hsc := hsp.1
          unfold maxLen at hsz
          have HLI := Lib.hid hli
          have hrun' := hrun wr
          clear hli hsp ha hrun
          rw [haa] at hrun'
          generalize blk a = gb at *
          generalize ofs a = go at *
          clear haa
          go_wp2_with fail
          go_loopw [1, 29] (fun lf i ws => ∃ (k : Nat) (L' : Int), k ≤ l.length ∧ i = .int .i64 k ∧ lf = .int .i64 L' ∧ 0 ≤ L' ∧ L' ≤ left ∧ Hid (budR l L (deep - 1) = budR (l.drop k) L' (deep - 1)) ∧ Below w.heap.size w ws) (fun _ i _ => l.length - (intOf i).toNat)
          case atStart => exact ⟨0, L, Nat.zero_le _, rfl, rfl, hL0, hL1, Lib.hid rfl, hbel⟩
          case round =>
            obtain ⟨k, L', hk, rfl, rfl, hm0, hm1, HK, hbs⟩ := hrel
            clear hrun' hbel
            by_cases hlk : k < l.length
            · have hli := ((liesR_iff _ _ _).1 HLI.out k hlk).keep hbs.size (fun q hq => hbs.block q (by omega))
              obtain ⟨hgbM, hcell, hheld⟩ := lies_held.1 hli
              have hsz1 := sizes_mem hlk
              have hdr := List.drop_eq_getElem_cons hlk
              obtain ⟨u, hu⟩ : ∃ u, l[k] = u := ⟨_, rfl⟩
              rw [hu] at hcell hheld hsz1 hdr
              rw [Nat.mul_comm 7 k] at hcell
              have d0 : wr.cell? ⟨gb, go + k * 7, none⟩ = some (.int .i64 u.k) := hcell 0 _ rfl
              have d1 : wr.cell? ⟨gb, go + k * 7 + 1, none⟩ = some (.bool u.g) := hcell 1 _ rfl
              have d2 : wr.cell? ⟨gb, go + k * 7 + 2, none⟩ = some (.slice u.la u.ln u.lc) := hcell 2 _ rfl
              have d3 : wr.cell? ⟨gb, go + k * 7 + 3, none⟩ = some (.bool u.bb) := hcell 3 _ rfl
              have d4 : wr.cell? ⟨gb, go + k * 7 + 4, none⟩ = some (.string u.s) := hcell 4 _ rfl
              have d5 : wr.cell? ⟨gb, go + k * 7 + 5, none⟩ = some (.slice u.ia u.items.length u.ic) := hcell 5 _ rfl
              have d6 : wr.cell? ⟨gb, go + k * 7 + 6, none⟩ = some (.slice u.ta u.tail.length u.tc) := hcell 6 _ rfl
              have hba : Below wr.heap.size wr (wr.alloc (Obj.cells #[.int .i64 u.k, .bool u.g, .slice u.la u.ln u.lc, .bool u.bb, .string u.s, .slice u.ia u.items.length u.ic, .slice u.ta u.tail.length u.tc] 29)) := (Below.refl _ _).alloc (Nat.le_refl _) _
              have hMs : M ≤ wr.heap.size := Nat.le_trans hM hbs.size
              have HC := Lib.hid (IH.out u (Nat.le_trans hsz1 HS.out) L' (deep - 1) (wr.alloc (Obj.cells #[.int .i64 u.k, .bool u.g, .slice u.la u.ln u.lc, .bool u.bb, .string u.s, .slice u.ia u.items.length u.ic, .slice u.ta u.tail.length u.tc] 29)) (Nat.le_trans hMs hba.size) (hheld.keep hba.size (fun q hq => hba.block q (by omega))) hm0 (by omega) (by omega) (by omega))
              have HBA := Lib.hid (bnext hbs hba)
              have hbd := budT_bd u L' (deep - 1) hm0
              have HK2 := Lib.hid (show budR l L (deep - 1) = if budT u L' (deep - 1) < 0 then -1 else budR (l.drop (k + 1)) (budT u L' (deep - 1)) (deep - 1) by rw [HK.out, hdr, budR_cons])
              clear hli hcell hheld hsz1 hdr hba
              generalize budT u L' (deep - 1) = r at *
              go_wp2_with fail
              refine HC.out.mono ?_
              rintro e w6 ⟨rfl, b6⟩
              have hb6 := bnext HBA.out b6
              obtain ⟨hr0, hr1⟩ := hbd
              by_cases hr : r < 0
              · have HF := Lib.hid (show budT t left deep = -1 by rw [HJ2.out, HK2.out, if_pos hr, HNEG.out])
                go_wp2_with fail
                go_ret
                exact ⟨by rw [HF.out]; rfl, hb6⟩
              · have HG := Lib.hid (show budR l L (deep - 1) = budR (l.drop (k + 1)) r (deep - 1) by rw [HK2.out, if_neg hr])
                go_wp2_with fail
                go_roundw
                case rel => exact ⟨k + 1, r, by omega, by go_num, rfl, by omega, by omega, HG, hb6⟩
                case measure => simp [intOf]; omega
            · obtain rfl : k = l.length := by omega
              have HF := Lib.hid (show budT t left deep = restB t (deep - 1) (j + 1) L' by rw [HJ2.out, HK.out, List.drop_length, budR_nil])
              go_wp2_with fail
              go_roundw
              case rel => exact ⟨j + 1, L', by omega, by go_num, rfl, hm0, hm1, HF, hbs⟩
              case measure => simp [intOf]; omega
        · obtain rfl : l = [] := List.length_eq_zero_iff.1 (by omega)
          have HF := Lib.hid (show budT t left deep = restB t (deep - 1) (j + 1) L by rw [HJ2.out, budR_nil])
          have hrun' := hrun wr
          clear hli hsp ha hrun hl
          rw [List.length_nil] at hrun'
          go_wp2_with fail
          go_loopw [1, 29] (fun lf i ws => i = .int .i64 0 ∧ lf = .int .i64 L ∧ ws = wr) (fun _ _ _ => 0)
          case atStart => exact ⟨rfl, rfl, rfl⟩
          case round =>
            obtain ⟨rfl, rfl, rfl⟩ := hrel
            clear hrun'
            go_wp2_with fail
            go_roundw
            case rel => exact ⟨j + 1, L, by omega, by go_num, rfl, hL0, hL1, HF, hbel⟩
            case measure => simp [intOf]; omega
      · obtain rfl : j = 2 := by omega
        have HE := Lib.hid (show budT t left deep = L from HJ.out)
        go_wp2_with fail
        go_ret
        exact ⟨by rw [HE.out]; rfl, hbel⟩
end
end Go.Proofs.YtocnlapbkidinaaGreatDoor
namespace Go.Proofs.YtocnlapbkidinaaGreatDoor
section
open Go.RowKit

/-- A datum's value, open. -/
def LT.val (t : LT) : Value := .agg #[.int .i64 t.k, .bool t.g, .slice t.la t.ln t.lc, .bool t.bb, .string t.s, .slice t.ia t.items.length t.ic, .slice t.ta t.tail.length t.tc]

set_option maxRecDepth 100000 in
set_option maxHeartbeats 1600000 in
theorem small_any (M : Nat) (t : LT) (most deep : Int) (w : World) (hM : M ≤ w.heap.size) (hH : Held w M t) (hl0 : 0 ≤ most) (hl1 : most ≤ 1000000) (hd0 : 0 ≤ deep) (hd1 : deep ≤ 1000000) :
    Calls Tryz.prog 22 #[t.val, .int .i64 most, .int .i64 deep] w fun e w' => e = .returned (.bool (decide (0 ≤ budT t most deep))) ∧ Below w.heap.size w w' := by
  have hba : Below w.heap.size w (w.alloc (Obj.cells #[.int .i64 t.k, .bool t.g, .slice t.la t.ln t.lc, .bool t.bb, .string t.s, .slice t.ia t.items.length t.ic, .slice t.ta t.tail.length t.tc] 29)) := (Below.refl _ w).alloc (Nat.le_refl _) _
  have HC := Lib.hid (budget_ok M t.size t (Nat.le_refl _) most deep (w.alloc (Obj.cells #[.int .i64 t.k, .bool t.g, .slice t.la t.ln t.lc, .bool t.bb, .string t.s, .slice t.ia t.items.length t.ic, .slice t.ta t.tail.length t.tc] 29)) (Nat.le_trans hM hba.size) (hH.keep hba.size (fun q hq => hba.block q (by omega))) hl0 hl1 hd0 hd1)
  have HB := Lib.hid hba
  clear hba hH
  unfold LT.val
  generalize budT t most deep = r at *
  go_enter Tryz.func22, Tryz.ntmps22
  go_wp2_with fail
  refine HC.out.mono ?_
  rintro e w1 ⟨rfl, b1⟩
  go_wp2_with fail
  go_ret
  exact ⟨rfl, bnext HB.out b1⟩

/-! ### what the count tells: how many, and how deep -/
mutual
theorem budT_few : ∀ (t : LT) (left deep : Int), 0 ≤ left → 0 ≤ budT t left deep → budT t left deep = left - t.size ∧ (t.depth : Int) ≤ deep
  | .mk k g la ln lc ys bb s ia ic items ta tc tail, left, deep, h, h2 => by
    rw [budT_eq] at h2 ⊢
    by_cases hx : left - 1 < 0 ∨ deep ≤ 0
    · rw [if_pos hx] at h2; omega
    · rw [if_neg hx] at h2 ⊢
      simp only [LT.items, LT.tail] at h2 ⊢
      have hneg : ¬ budR items (left - 1) (deep - 1) < 0 := by
        intro hn
        have hb := (budR_bd items (left - 1) (deep - 1) (by omega)).1
        rw [show budR items (left - 1) (deep - 1) = -1 by omega, budR_neg] at h2
        omega
      have h3 := budR_few items (left - 1) (deep - 1) (by omega) (by omega)
      have h4 := budR_few tail (budR items (left - 1) (deep - 1)) (deep - 1) (by omega) h2
      rw [h4.1, h3.1]
      have e1 : LT.size (.mk k g la ln lc ys bb s ia ic items ta tc tail) = 1 + (sizes items + sizes tail) := by simp [LT.size]
      have e2 : LT.depth (.mk k g la ln lc ys bb s ia ic items ta tc tail) = 1 + max (depths items) (depths tail) := by simp [LT.depth]
      rw [e1, e2]
      omega
theorem budR_few : ∀ (l : List LT) (left deep : Int), 0 ≤ left → 0 ≤ budR l left deep → budR l left deep = left - sizes l ∧ ((depths l : Int) ≤ max 0 deep)
  | [], left, deep, h, h2 => by
    rw [budR_nil]
    simp [sizes, depths]
    omega
  | t :: l, left, deep, h, h2 => by
    rw [budR_cons] at h2 ⊢
    by_cases hx : budT t left deep < 0
    · rw [if_pos hx] at h2; omega
    · rw [if_neg hx] at h2 ⊢
      have h3 := budT_few t left deep h (by omega)
      have h4 := budR_few l (budT t left deep) deep (by omega) h2
      rw [h4.1, h3.1]
      simp only [sizes, depths]
      omega
end
end
end Go.Proofs.YtocnlapbkidinaaGreatDoor
