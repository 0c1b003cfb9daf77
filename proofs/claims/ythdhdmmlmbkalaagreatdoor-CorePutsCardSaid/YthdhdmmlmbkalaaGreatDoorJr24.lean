/-
  A datum that came in, opened: the limbs in it lie within the form's own reach. An expression that came in, opened: the limbs of its data lie within the form's own reach.
-/
import Derived.Test.YthdhdmmlmbkalaaGreatDoorJr1
import Derived.Test.YthdhdmmlmbkalaaGreatDoorJr4
import Derived.Lib.SmallJoins
import Derived.SizedLaws
import Derived.Test.YthdhdmmlmbkalaaGreatDoorJr14
set_option linter.unusedVariables false
set_option linter.unusedSimpArgs false
set_option linter.unusedSectionVars false
set_option linter.unnecessarySimpa false
namespace Go.Proofs.YthdhdmmlmbkalaaGreatDoor
section
open Go.Joins Go.ChangeShapes Go.WideShapes Go.ChangeAt Go.RowKit Go.Deep
set_option maxRecDepth 100000

theorem tameR_each : ∀ (l : List LT), (∀ i (h : i < l.length), Tame l[i]) → TameR l
  | [], _ => by simp [TameR]
  | t :: l, h => by
    simp only [TameR]
    exact ⟨h 0 (by simp), tameR_each l fun i hi => h (i + 1) (by simpa using hi)⟩
section
variable {H : Type} {enc : TypeId × Value → H} {w : World} {sp : Nat → Bool} {held : Bool}
theorem weightsAll_mem {P : Program} {e : TypeId} : ∀ {l : List (DataW H)} {i : Nat} {d : DataW H}, l[i]? = some d → ∀ n ∈ d.weights P e, n ∈ DataW.weightsAll P e l
  | d0 :: l, 0, d, hd, n, hn => by
    simp only [List.getElem?_cons_zero, Option.some.injEq] at hd
    subst hd
    simp only [DataW.weightsAll, List.mem_append]
    exact Or.inl hn
  | d0 :: l, i + 1, d, hd, n, hn => by
    simp only [List.getElem?_cons_succ] at hd
    simp only [DataW.weightsAll, List.mem_append]
    exact Or.inr (weightsAll_mem hd n hn)
  | [], _, _, hd, _, _ => by simp at hd
theorem sl_sized {n : Nat} {cs : List Value} {x : DataW H × List MemPlace} (h : DataW.trod enc Tryz.prog w 0 sp held n 22 cs = some x) (hZ : ∀ q ∈ x.1.weights Tryz.prog 22, q ≤ reachBytes)
    {a : Option Addr} {ln lc : Nat} (e : cs = [.slice a ln lc]) : ln ≤ 35184372087808 := by
  rcases DataW.trod_slice Tryz.underlying22 h with ⟨rfl, _⟩ | ⟨a', len, cap, elems, rest, m, rfl, rfl, rfl, _, _, _, hlen, _, _, _⟩
  · injection e with e1
    injection e1 with _ e2 _
    omega
  · injection e with e1
    injection e1 with _ e2 _
    have hw := hZ ((elems.length + rest.length) * Tryz.prog.bytesOf 149) (by
      simp only [DataW.weights, Tryz.underlying22, List.length_map]
      exact List.mem_cons_self ..)
    have h4 : Tryz.prog.bytesOf 149 = 4 := by kernel_rfl
    rw [h4] at hw
    simp only [reachBytes] at hw
    omega
theorem row_sized {n : Nat} {cs : List Value} {x : DataW H × List MemPlace}
    (ih : ∀ m, m < n → ∀ cs x, DataW.trod enc Tryz.prog w 0 sp held m 27 cs = some x → (∀ q ∈ x.1.weights Tryz.prog 27, q ≤ reachBytes) → ∃ t : LT, cs = t.cells ∧ Held w w.heap.size t ∧ Tame t)
    (h : DataW.trod enc Tryz.prog w 0 sp held n 25 cs = some x) (hZ : ∀ q ∈ x.1.weights Tryz.prog 25, q ≤ reachBytes) :
    ∃ (a : Option Addr) (l : List LT) (c : Nat), cs = [.slice a l.length c] ∧ Spot w.heap.size a l.length c ∧ LiesR w w.heap.size l (blk a) (ofs a) ∧ TameR l := by
  rcases DataW.trod_slice Tryz.underlying25 h with ⟨rfl, _⟩ | ⟨a, len, cap, elems, rest, m, rfl, rfl, rfl, _, hl, hm, hlen, hel, _, _⟩
  · exact ⟨none, [], 0, rfl, ⟨Nat.le_refl _, Nat.zero_le _, fun h => absurd h (by decide), fun _ => rfl⟩, trivial, by simp [TameR]⟩
  · have key : ∀ i, i < len → ∃ t : LT, (∀ j v, t.cells[j]? = some v → w.cell? ((a.add (i * 7)).add j) = some v) ∧ Held w w.heap.size t ∧ Tame t := by
      intro i hi
      have h1 := hel i hi
      rw [datumCells, List.getElem?_eq_getElem (by omega)] at h1
      obtain ⟨csi, h2, h3⟩ := Option.bind_eq_some_iff.1 h1
      obtain ⟨t, rfl, ht, hT⟩ := ih m (Nat.lt_succ_self m) csi _ h3 (fun q hq => hZ q (by
        simp only [DataW.weights, Tryz.underlying25]
        refine List.mem_cons_of_mem _ (List.mem_append.2 (Or.inl (weightsAll_mem (i := i) ?_ q hq)))
        rw [List.getElem?_map, List.getElem?_eq_getElem (by omega)]
        rfl))
      obtain ⟨_, hc⟩ := cells_at h2
      refine ⟨t, fun j v hj => ?_, ht, hT⟩
      have h7 : t.cells.length = 7 := rfl
      have hj7 : j < 7 := by
        rcases Nat.lt_or_ge j 7 with h | h
        · exact h
        · rw [List.getElem?_eq_none (by omega)] at hj
          cases hj
      rw [hc j hj7, hj]
    obtain ⟨l, hll, hp⟩ := exists_list len key
    subst hll
    refine ⟨some a, l, cap, rfl, ⟨hl, hm, fun hpos => ?_, fun e => by cases e⟩, ?_, tameR_each l fun i hi => (hp i hi).2.2⟩
    · have h1 := (hp 0 hpos).1 0 _ rfl
      obtain ⟨b, off, spot⟩ := a
      have hspot : spot = none := by simpa [Addr.add] using World.cell?_spot h1
      subst hspot
      have := World.block_lt_of_cell? w _ h1
      exact ⟨rfl, by simpa [Addr.add, blk] using this⟩
    · rw [liesR_iff]
      intro i hi
      obtain ⟨h1, h2, _⟩ := hp i hi
      obtain ⟨b, off, spot⟩ := a
      have h0 := h1 0 _ rfl
      have hadd : ∀ j, ((⟨b, off, spot⟩ : Addr).add (i * 7)).add j = ⟨b, off + 7 * i + j, none⟩ := by
        have hspot : spot = none := by
          have h00 := (hp 0 (by omega)).1 0 _ rfl
          simpa [Addr.add] using World.cell?_spot h00
        subst hspot
        intro j
        unfold Addr.add
        split <;> split <;> simp_all <;> omega
      refine lies_held.2 ⟨?_, fun j v hj => ?_, h2⟩
      · have := World.block_lt_of_cell? w _ h0
        rw [hadd] at this
        exact this
      · have := h1 j v hj
        rw [hadd] at this
        exact this
theorem held_sized : ∀ (n : Nat) (cs : List Value) (x : DataW H × List MemPlace), DataW.trod enc Tryz.prog w 0 sp held n 27 cs = some x → (∀ q ∈ x.1.weights Tryz.prog 27, q ≤ reachBytes) → ∃ t : LT, cs = t.cells ∧ Held w w.heap.size t ∧ Tame t := by
  intro n
  induction n using Nat.strongRecOn with
  | _ n ih =>
    intro cs x h hZ
    obtain ⟨xs, m, rfl, rfl, hl, hxl, hf⟩ := DataW.trod_struct Tryz.underlying27 h
    rw [datumCells] at hl
    obtain ⟨c0, c1, c2, c3, c4, c5, c6, rfl⟩ := list7 hl
    have hx : ∀ i, i < 6 → ∃ y, xs[i]? = some y := fun i hi => ⟨_, List.getElem?_eq_getElem (by rw [hxl]; exact hi)⟩
    have f0 : DataW.trod enc Tryz.prog w 0 sp held m 3 [c0] = xs[0]? := trod_at cells1.1 (hf 0 _ rfl) rfl
    have f1 : DataW.trod enc Tryz.prog w 0 sp held m 24 [c1, c2] = xs[1]? := trod_at intCells (hf 1 _ rfl) rfl
    have f2 : DataW.trod enc Tryz.prog w 0 sp held m 4 [c3] = xs[2]? := trod_at cells1.2.1 (hf 2 _ rfl) rfl
    have f3 : DataW.trod enc Tryz.prog w 0 sp held m 9 [c4] = xs[3]? := trod_at cells1.2.2.1 (hf 3 _ rfl) rfl
    have f4 : DataW.trod enc Tryz.prog w 0 sp held m 25 [c5] = xs[4]? := trod_at cells1.2.2.2.1 (hf 4 _ rfl) rfl
    have f5 : DataW.trod enc Tryz.prog w 0 sp held m 25 [c6] = xs[5]? := trod_at cells1.2.2.2.1 (hf 5 _ rfl) rfl
    obtain ⟨y0, g0⟩ := hx 0 (by decide)
    obtain ⟨y1, g1⟩ := hx 1 (by decide)
    obtain ⟨y2, g2⟩ := hx 2 (by decide)
    obtain ⟨y3, g3⟩ := hx 3 (by decide)
    obtain ⟨y4, g4⟩ := hx 4 (by decide)
    obtain ⟨y5, g5⟩ := hx 5 (by decide)
    rw [g0] at f0
    rw [g1] at f1
    rw [g2] at f2
    rw [g3] at f3
    rw [g4] at f4
    rw [g5] at f5
    have hZ1 : ∀ q ∈ y1.1.weights Tryz.prog 24, q ≤ reachBytes := fun q hq => hZ q (by
      simp only [DataW.weights, Tryz.underlying27]
      exact DataW.weights_mem_each (j := 1) (t := 24) rfl (by rw [List.getElem?_map, g1]; rfl) q hq)
    have hZ4 : ∀ q ∈ y4.1.weights Tryz.prog 25, q ≤ reachBytes := fun q hq => hZ q (by
      simp only [DataW.weights, Tryz.underlying27]
      exact DataW.weights_mem_each (j := 4) (t := 25) rfl (by rw [List.getElem?_map, g4]; rfl) q hq)
    have hZ5 : ∀ q ∈ y5.1.weights Tryz.prog 25, q ≤ reachBytes := fun q hq => hZ q (by
      simp only [DataW.weights, Tryz.underlying27]
      exact DataW.weights_mem_each (j := 5) (t := 25) rfl (by rw [List.getElem?_map, g5]; rfl) q hq)
    obtain ⟨k, e0, hk⟩ := lit1_of_trod Tryz.underlying3 f0
    obtain ⟨zs, m1, rfl, hy1, hl1, hzl, hf1⟩ := DataW.trod_struct Tryz.underlying24 f1
    have i0 : DataW.trod enc Tryz.prog w 0 sp held m1 4 [c1] = zs[0]? := trod_at cells1.2.1 (hf1 0 _ rfl) rfl
    have i1 : DataW.trod enc Tryz.prog w 0 sp held m1 22 [c2] = zs[1]? := trod_at cells1.2.2.2.2 (hf1 1 _ rfl) rfl
    obtain ⟨z0, j0⟩ : ∃ y, zs[0]? = some y := ⟨_, List.getElem?_eq_getElem (by rw [hzl]; decide)⟩
    obtain ⟨z1, j1⟩ : ∃ y, zs[1]? = some y := ⟨_, List.getElem?_eq_getElem (by rw [hzl]; decide)⟩
    rw [j0] at i0
    rw [j1] at i1
    have hZ11 : ∀ q ∈ z1.1.weights Tryz.prog 22, q ≤ reachBytes := fun q hq => hZ1 q (by
      rw [hy1]
      simp only [DataW.weights, Tryz.underlying24]
      exact DataW.weights_mem_each (j := 1) (t := 22) rfl (by rw [List.getElem?_map, j1]; rfl) q hq)
    obtain ⟨g, e1⟩ := bool1_of_trod Tryz.underlying4 i0
    obtain ⟨la, ln, lc, ys, e2, hsl, hbl⟩ := sl_of_trod i1
    have hln := sl_sized i1 hZ11 e2
    obtain ⟨bb, e3⟩ := bool1_of_trod Tryz.underlying4 f2
    obtain ⟨s, e4, hs⟩ := str1_of_trod Tryz.underlying9 f3
    obtain ⟨ia, items, ic, e5, hsi, hli, hti⟩ := row_sized (fun q hq => ih q (by omega)) f4 hZ4
    obtain ⟨ta, tail, tc, e6, hst, hlt, htt⟩ := row_sized (fun q hq => ih q (by omega)) f5 hZ5
    injection e0 with e0
    injection e1 with e1
    injection e2 with e2
    injection e3 with e3
    injection e4 with e4
    injection e5 with e5
    injection e6 with e6
    subst e0 e1 e2 e3 e4 e5 e6
    exact ⟨.mk k g la ln lc ys bb s ia ic items ta tc tail, rfl, ⟨⟨hsl, hbl, hs⟩, hsi, hst, hli, hlt⟩, by simp only [Tame]; exact ⟨hln, hti, htt⟩⟩
end
end
end Go.Proofs.YthdhdmmlmbkalaaGreatDoor
namespace Go.Proofs.YthdhdmmlmbkalaaGreatDoor
section
open Go.Joins Go.ChangeShapes Go.WideShapes Go.ChangeAt Go.RowKit Go.Deep
set_option maxRecDepth 100000

theorem tamesER_each : ∀ (l : List ET), (∀ i (h : i < l.length), TamesE l[i]) → TamesER l
  | [], _ => by simp [TamesER]
  | t :: l, h => by
    simp only [TamesER]
    exact ⟨h 0 (by simp), tamesER_each l fun i hi => h (i + 1) (by simpa using hi)⟩
section
variable {H : Type} {enc : TypeId × Value → H} {w : World} {sp : Nat → Bool} {held : Bool}
/-- A list of expressions, opened, when each opens with less fuel. -/
theorem rowE_sized {n : Nat} {cs : List Value} {x : DataW H × List MemPlace}
    (ih : ∀ m, m < n → ∀ cs x, DataW.trod enc Tryz.prog w 0 sp held m 31 cs = some x → (∀ q ∈ x.1.weights Tryz.prog 31, q ≤ reachBytes) → ∃ e : ET, cs = e.cells ∧ HeldE w w.heap.size e ∧ TamesE e)
    (h : DataW.trod enc Tryz.prog w 0 sp held n 29 cs = some x) (hZ : ∀ q ∈ x.1.weights Tryz.prog 29, q ≤ reachBytes) :
    ∃ (a : Option Addr) (l : List ET) (c : Nat), cs = [.slice a l.length c] ∧ Spot w.heap.size a l.length c ∧ LiesER w w.heap.size l (blk a) (ofs a) ∧ TamesER l := by
  rcases DataW.trod_slice Tryz.underlying29 h with ⟨rfl, _⟩ | ⟨a, len, cap, elems, rest, m, rfl, rfl, rfl, _, hl, hm, hlen, hel, _, _⟩
  · exact ⟨none, [], 0, rfl, ⟨Nat.le_refl _, Nat.zero_le _, fun h => absurd h (by decide), fun _ => rfl⟩, by rw [liesER_nil]; trivial, by simp [TamesER]⟩
  · have key : ∀ i, i < len → ∃ e : ET, (∀ j v, e.cells[j]? = some v → w.cell? ((a.add (i * 13)).add j) = some v) ∧ HeldE w w.heap.size e ∧ TamesE e := by
      intro i hi
      have h1 := hel i hi
      rw [exprCells, List.getElem?_eq_getElem (by omega)] at h1
      obtain ⟨csi, h2, h3⟩ := Option.bind_eq_some_iff.1 h1
      obtain ⟨t, rfl, ht, hT⟩ := ih m (Nat.lt_succ_self m) csi _ h3 (fun q hq => hZ q (by
        simp only [DataW.weights, Tryz.underlying29]
        refine List.mem_cons_of_mem _ (List.mem_append.2 (Or.inl (weightsAll_mem (i := i) ?_ q hq)))
        rw [List.getElem?_map, List.getElem?_eq_getElem (by omega)]
        rfl))
      obtain ⟨_, hc⟩ := cells_at h2
      refine ⟨t, fun j v hj => ?_, ht, hT⟩
      have h13 : t.cells.length = 13 := rfl
      have hj13 : j < 13 := by
        rcases Nat.lt_or_ge j 13 with h | h
        · exact h
        · rw [List.getElem?_eq_none (by omega)] at hj
          cases hj
      rw [hc j hj13, hj]
    obtain ⟨l, hll, hp⟩ := exists_list len key
    subst hll
    refine ⟨some a, l, cap, rfl, ⟨hl, hm, fun hpos => ?_, fun e => by cases e⟩, ?_, tamesER_each l fun i hi => (hp i hi).2.2⟩
    · have h1 := (hp 0 hpos).1 0 _ rfl
      obtain ⟨b, off, spot⟩ := a
      have hspot : spot = none := by simpa [Addr.add] using World.cell?_spot h1
      subst hspot
      have := World.block_lt_of_cell? w _ h1
      exact ⟨rfl, by simpa [Addr.add, blk] using this⟩
    · rw [liesER_iff]
      intro i hi
      obtain ⟨h1, h2, _⟩ := hp i hi
      obtain ⟨b, off, spot⟩ := a
      have h0 := h1 0 _ rfl
      have hadd : ∀ j, ((⟨b, off, spot⟩ : Addr).add (i * 13)).add j = ⟨b, off + 13 * i + j, none⟩ := by
        have hspot : spot = none := by
          have h00 := (hp 0 (by omega)).1 0 _ rfl
          simpa [Addr.add] using World.cell?_spot h00
        subst hspot
        intro j
        unfold Addr.add
        split <;> split <;> simp_all <;> omega
      refine liesE_held.2 ⟨?_, fun j v hj => ?_, h2⟩
      · have := World.block_lt_of_cell? w _ h0
        rw [hadd] at this
        exact this
      · have := h1 j v hj
        rw [hadd] at this
        exact this
theorem heldE_sized : ∀ (n : Nat) (cs : List Value) (x : DataW H × List MemPlace), DataW.trod enc Tryz.prog w 0 sp held n 31 cs = some x → (∀ q ∈ x.1.weights Tryz.prog 31, q ≤ reachBytes) → ∃ e : ET, cs = e.cells ∧ HeldE w w.heap.size e ∧ TamesE e := by
  intro n
  induction n using Nat.strongRecOn with
  | _ n ih =>
    intro cs x h hZ
    obtain ⟨xs, m, rfl, rfl, hl, hxl, hf⟩ := DataW.trod_struct Tryz.underlying31 h
    rw [exprCells] at hl
    obtain ⟨c0, c1, c2, c3, c4, c5, c6, c7, c8, c9, c10, c11, c12, rfl⟩ := list13 hl
    have hx : ∀ i, i < 7 → ∃ y, xs[i]? = some y := fun i hi => ⟨_, List.getElem?_eq_getElem (by rw [hxl]; exact hi)⟩
    have f0 : DataW.trod enc Tryz.prog w 0 sp held m 3 [c0] = xs[0]? := trod_at cells1.1 (hf 0 _ rfl) rfl
    have f1 : DataW.trod enc Tryz.prog w 0 sp held m 27 [c1, c2, c3, c4, c5, c6, c7] = xs[1]? := trod_at datumCells (hf 1 _ rfl) rfl
    have f2 : DataW.trod enc Tryz.prog w 0 sp held m 3 [c8] = xs[2]? := trod_at cells1.1 (hf 2 _ rfl) rfl
    have f3 : DataW.trod enc Tryz.prog w 0 sp held m 28 [c9] = xs[3]? := trod_at cells1E.1 (hf 3 _ rfl) rfl
    have f4 : DataW.trod enc Tryz.prog w 0 sp held m 4 [c10] = xs[4]? := trod_at cells1.2.1 (hf 4 _ rfl) rfl
    have f5 : DataW.trod enc Tryz.prog w 0 sp held m 3 [c11] = xs[5]? := trod_at cells1.1 (hf 5 _ rfl) rfl
    have f6 : DataW.trod enc Tryz.prog w 0 sp held m 29 [c12] = xs[6]? := trod_at cells1E.2 (hf 6 _ rfl) rfl
    obtain ⟨y0, g0⟩ := hx 0 (by decide)
    obtain ⟨y1, g1⟩ := hx 1 (by decide)
    obtain ⟨y2, g2⟩ := hx 2 (by decide)
    obtain ⟨y3, g3⟩ := hx 3 (by decide)
    obtain ⟨y4, g4⟩ := hx 4 (by decide)
    obtain ⟨y5, g5⟩ := hx 5 (by decide)
    obtain ⟨y6, g6⟩ := hx 6 (by decide)
    rw [g0] at f0
    rw [g1] at f1
    rw [g2] at f2
    rw [g3] at f3
    rw [g4] at f4
    rw [g5] at f5
    rw [g6] at f6
    have hZ1 : ∀ q ∈ y1.1.weights Tryz.prog 27, q ≤ reachBytes := fun q hq => hZ q (by
      simp only [DataW.weights, Tryz.underlying31]
      exact DataW.weights_mem_each (j := 1) (t := 27) rfl (by rw [List.getElem?_map, g1]; rfl) q hq)
    have hZ6 : ∀ q ∈ y6.1.weights Tryz.prog 29, q ≤ reachBytes := fun q hq => hZ q (by
      simp only [DataW.weights, Tryz.underlying31]
      exact DataW.weights_mem_each (j := 6) (t := 29) rfl (by rw [List.getElem?_map, g6]; rfl) q hq)
    obtain ⟨k, e0, hk⟩ := lit1_of_trod Tryz.underlying3 f0
    obtain ⟨d, e1, hd, hdT⟩ := held_sized m _ _ f1 hZ1
    obtain ⟨v, e2, hv⟩ := lit1_of_trod Tryz.underlying3 f2
    obtain ⟨va, vc, vs, e3, hvs⟩ := ints_of_trod f3
    obtain ⟨rs, e4⟩ := bool1_of_trod Tryz.underlying4 f4
    obtain ⟨p, e5, hp⟩ := lit1_of_trod Tryz.underlying3 f5
    obtain ⟨ka, kids, kc, e6, hsk, hlk, hkT⟩ := rowE_sized (fun q hq => ih q (by omega)) f6 hZ6
    injection e0 with e0
    simp only [LT.cells, List.cons.injEq, and_true] at e1
    obtain ⟨a1, a2, a3, a4, a5, a6, a7⟩ := e1
    injection e2 with e2
    injection e3 with e3
    injection e4 with e4
    injection e5 with e5
    injection e6 with e6
    subst e0 a1 a2 a3 a4 a5 a6 a7 e2 e3 e4 e5 e6
    exact ⟨.mk k d v va vc vs rs p ka kc kids, rfl, ⟨⟨hd, hvs⟩, hsk, hlk⟩, by simp only [TamesE]; exact ⟨hdT, hkT⟩⟩
end
theorem open_expr_sized {H : Type} {enc : TypeId × Value → H} {W : World} {b0 : Nat} {v : Value} {d : DataW H} {p : List MemPlace}
    (hv : Value.okWide Tryz.prog W .any b0 31 v) (h : DataW.Trod enc Tryz.prog W 0 (fun _ => true) true 31 v d p) (hZ : ∀ q ∈ d.weights Tryz.prog 31, q ≤ reachBytes) : ∃ t : ET, v = .agg #[.int .i64 t.k, .int .i64 t.d.k, .bool t.d.g, .slice t.d.la t.d.ln t.d.lc, .bool t.d.bb, .string t.d.s, .slice t.d.ia t.d.items.length t.d.ic, .slice t.d.ta t.d.tail.length t.d.tc, .int .i64 t.v, .slice t.va t.vs.length t.vc, .bool t.rs, .int .i64 t.p, .slice t.ka t.kids.length t.kc] ∧ HeldE W W.heap.size t ∧ TamesE t := by
  obtain ⟨cs, rfl, hsz⟩ := okWide_struct Tryz.underlying31 hv
  obtain ⟨fuel, hf⟩ := h
  obtain ⟨t, hc, hh, hT⟩ := heldE_sized fuel _ _ hf hZ
  refine ⟨t, ?_, hh, hT⟩
  have e : cs.toList = t.cells := by simpa [Value.cells] using hc
  have e2 : cs = t.cells.toArray := by rw [← e]
  rw [e2]
  rfl
theorem open_ints_plain {H : Type} {enc : TypeId × Value → H} {W : World} {b0 : Nat} {v : Value} {d : DataW H} {p : List MemPlace}
    (hv : Value.okWide Tryz.prog W .any b0 28 v) (h : DataW.Trod enc Tryz.prog W 0 (fun _ => true) true 28 v d p) : ∃ (a : Option Addr) (zs : List Int) (c : Nat), v = .slice a zs.length c ∧ IntsAt W W.heap.size a c zs := by
  obtain ⟨a, len, cap, rfl⟩ := okWide_slice Tryz.underlying28 hv
  obtain ⟨fuel, hf⟩ := h
  obtain ⟨a', c', zs, hc, hI⟩ := ints_of_trod hf
  have e : Value.slice a len cap = .slice a' zs.length c' := by simpa [Value.cells] using hc
  injection e with e1 e2 e3
  subst e1 e2 e3
  exact ⟨a, zs, cap, rfl, hI⟩
end
end Go.Proofs.YthdhdmmlmbkalaaGreatDoor
