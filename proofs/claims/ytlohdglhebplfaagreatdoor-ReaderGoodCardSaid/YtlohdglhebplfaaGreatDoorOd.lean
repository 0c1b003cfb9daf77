/-
  A datum that came in, opened: where its form is read (DataW.trod), a tree lies in memory.
-/
import Derived.Test.YtlohdglhebplfaaGreatDoorHeld
import Derived.OpenShut
import Derived.ChangeSlices
import Derived.ProofKit
namespace Go.Proofs.YtlohdglhebplfaaGreatDoor
open Go.ChangeShapes Go.WideShapes Go.ChangeAt Go.RowKit

/-- What a datum's value holds lies below M (the value itself need not lie in memory). -/
def Held (w : World) (M : Nat) (t : LT) : Prop := (Sl w t.la t.ln t.lc t.ys ∧ (0 < t.ln → blk t.la < M) ∧ t.s.size ≤ maxLen) ∧ Spot M t.ia t.items.length t.ic ∧ Spot M t.ta t.tail.length t.tc ∧
  LiesR w M t.items (blk t.ia) (ofs t.ia) ∧ LiesR w M t.tail (blk t.ta) (ofs t.ta)
theorem lies_held {w : World} {M : Nat} {t : LT} {b o : Nat} : Lies w M t b o ↔ b < M ∧ (∀ j v, t.cells[j]? = some v → w.cell? ⟨b, o + j, none⟩ = some v) ∧ Held w M t := lies_eq
theorem liesR_iff {w : World} {M : Nat} : ∀ (l : List LT) (b o : Nat), LiesR w M l b o ↔ ∀ i (h : i < l.length), Lies w M l[i] b (o + 7 * i)
  | [], b, o => by simp
  | t :: l, b, o => by
    rw [liesR_cons, liesR_iff l b (o + 7)]
    constructor
    · rintro ⟨h1, h2⟩ i hi
      cases i with
      | zero => exact h1
      | succ i =>
        have := h2 i (by simpa using hi)
        rw [show o + 7 * (i + 1) = o + 7 + 7 * i by omega]
        exact this
    · intro h
      refine ⟨h 0 (by simp), fun i hi => ?_⟩
      have := h (i + 1) (by simpa using hi)
      rw [show o + 7 + 7 * i = o + 7 * (i + 1) by omega]
      exact this
theorem exists_list {α : Type} {P : Nat → α → Prop} : ∀ n, (∀ i, i < n → ∃ t, P i t) → ∃ l : List α, l.length = n ∧ ∀ i (h : i < l.length), P i l[i]
  | 0, _ => ⟨[], rfl, fun i h => by simp at h⟩
  | n + 1, H => by
    obtain ⟨l, hl, hp⟩ := exists_list n fun i hi => H i (by omega)
    obtain ⟨t, ht⟩ := H n (by omega)
    refine ⟨l ++ [t], by simp [hl], fun i h => ?_⟩
    by_cases hi : i < l.length
    · rw [List.getElem_append_left hi]
      exact hp i hi
    · have : i = l.length := by simp at h; omega
      subst this
      rw [List.getElem_append_right (by omega)]
      simp only [Nat.sub_self, List.getElem_cons_zero]
      rw [hl]
      exact ht

section
variable {H : Type} {enc : TypeId × Value → H} {w : World} {sp : Nat → Bool} {held : Bool}

theorem cells_at {a : Addr} {n : Nat} {cs : List Value} (h : w.cells? 0 a n = some cs) : cs.length = n ∧ ∀ j, j < n → w.cell? (a.add j) = cs[j]? := by
  unfold World.cells? at h
  rw [if_pos (Nat.zero_le _)] at h
  exact ⟨by simpa using mapM_some_length h, fun j hj => mapM_some_get h j j (by simp [hj])⟩

/-- A list of data, opened, when each datum opens with less fuel. -/
theorem row_of_trod {n : Nat} {cs : List Value} {x : DataW H × List MemPlace}
    (ih : ∀ m, m < n → ∀ cs x, DataW.trod enc Tryz.prog w 0 sp held m 31 cs = some x → ∃ t : LT, cs = t.cells ∧ Held w w.heap.size t)
    (hcell : Tryz.prog.cellsOf 31 = 7) (h : DataW.trod enc Tryz.prog w 0 sp held n 23 cs = some x) :
    ∃ (a : Option Addr) (l : List LT) (c : Nat), cs = [.slice a l.length c] ∧ Spot w.heap.size a l.length c ∧ LiesR w w.heap.size l (blk a) (ofs a) := by
  rcases DataW.trod_slice Tryz.underlying23 h with ⟨rfl, _⟩ | ⟨a, len, cap, elems, rest, m, rfl, rfl, _, _, hl, hm, hlen, hel, _, _⟩
  · exact ⟨none, [], 0, rfl, ⟨Nat.le_refl _, Nat.zero_le _, fun h => absurd h (by decide), fun _ => rfl⟩, trivial⟩
  · have key : ∀ i, i < len → ∃ t : LT, (∀ j v, t.cells[j]? = some v → w.cell? ((a.add (i * 7)).add j) = some v) ∧ Held w w.heap.size t := by
      intro i hi
      have h1 := hel i hi
      rw [hcell, List.getElem?_eq_getElem (by omega)] at h1
      obtain ⟨csi, h2, h3⟩ := Option.bind_eq_some_iff.1 h1
      obtain ⟨t, rfl, ht⟩ := ih m (Nat.lt_succ_self m) csi _ h3
      obtain ⟨_, hc⟩ := cells_at h2
      refine ⟨t, fun j v hj => ?_, ht⟩
      have h7 : t.cells.length = 7 := rfl
      have hj7 : j < 7 := by
        rcases Nat.lt_or_ge j 7 with h | h
        · exact h
        · rw [List.getElem?_eq_none (by omega)] at hj
          cases hj
      rw [hc j hj7, hj]
    obtain ⟨l, hll, hp⟩ := exists_list len key
    subst hll
    refine ⟨some a, l, cap, rfl, ⟨hl, hm, fun hpos => ?_, fun e => by cases e⟩, ?_⟩
    · have h1 := (hp 0 hpos).1 0 _ rfl
      obtain ⟨b, off, spot⟩ := a
      have hspot : spot = none := by simpa [Addr.add] using World.cell?_spot h1
      subst hspot
      have := World.block_lt_of_cell? w _ h1
      exact ⟨rfl, by simpa [Addr.add, blk] using this⟩
    · rw [liesR_iff]
      intro i hi
      obtain ⟨h1, h2⟩ := hp i hi
      obtain ⟨b, off, spot⟩ := a
      have h0 := h1 0 _ rfl
      have hadd : ∀ j, ((⟨b, off, spot⟩ : Addr).add (i * 7)).add j = ⟨b, off + 7 * i + j, none⟩ := by
        have hspot : spot = none := by
          have h00 := (hp 0 (by omega)).1 0 _ rfl
          simpa [Addr.add] using World.cell?_spot h00
        subst hspot
        intro j
        unfold Addr.add
        split <;> split <;> simp_all <;> omega
      refine lies_held.2 ⟨?_, fun j v hj => ?_, h2⟩
      · have := World.block_lt_of_cell? w _ h0
        rw [hadd] at this
        exact this
      · have := h1 j v hj
        rw [hadd] at this
        exact this

theorem lit1_of_trod {t : TypeId} {k : IntKind} {n : Nat} {cs : List Value} {x : DataW H × List MemPlace} (hu : Tryz.prog.underlying t = some (.int k)) (h : DataW.trod enc Tryz.prog w 0 sp held n t cs = some x) : ∃ z, cs = [.int k z] ∧ (Lit.int k z).wf = true := by
  cases n with
  | zero => simp [DataW.trod] at h
  | succ n =>
    unfold DataW.trod at h
    rw [hu] at h
    split at h <;> simp_all
theorem bool1_of_trod {t : TypeId} {n : Nat} {cs : List Value} {x : DataW H × List MemPlace} (hu : Tryz.prog.underlying t = some .bool) (h : DataW.trod enc Tryz.prog w 0 sp held n t cs = some x) : ∃ b, cs = [.bool b] := by
  cases n with
  | zero => simp [DataW.trod] at h
  | succ n =>
    unfold DataW.trod at h
    rw [hu] at h
    split at h <;> simp_all
theorem str1_of_trod {t : TypeId} {n : Nat} {cs : List Value} {x : DataW H × List MemPlace} (hu : Tryz.prog.underlying t = some .string) (h : DataW.trod enc Tryz.prog w 0 sp held n t cs = some x) : ∃ s, cs = [.string s] ∧ s.size ≤ maxLen := by
  cases n with
  | zero => simp [DataW.trod] at h
  | succ n =>
    unfold DataW.trod at h
    rw [hu] at h
    split at h <;> simp_all

theorem sl_of_trod {n : Nat} {cs : List Value} {x : DataW H × List MemPlace} (h : DataW.trod enc Tryz.prog w 0 sp held n 27 cs = some x) :
    ∃ a ln lc ys, cs = [.slice a ln lc] ∧ Sl w a ln lc ys ∧ (0 < ln → blk a < w.heap.size) := by
  rcases open_ints Tryz.underlying27 Tryz.underlying162 (by kernel_rfl) h with ⟨rfl, _⟩ | ⟨a, len, cap, zs, rfl, _, hl, hm, hz, _, hcell, hwz⟩
  · exact ⟨none, 0, 0, [], rfl, Sl.nil, fun h => absurd h (by decide)⟩
  · have hle : len ≤ zs.length := by rw [hz]; split <;> omega
    have hpl : 0 < len → ∃ b off, a = ⟨b, off, none⟩ ∧ b < w.heap.size := by
      intro hp
      obtain ⟨b, off, spot⟩ := a
      have hc := hcell 0 (by omega)
      have hspot : spot = none := by simpa [Addr.add] using World.cell?_spot hc
      subst hspot
      have := World.block_lt_of_cell? w _ hc
      exact ⟨b, off, rfl, by simpa [Addr.add] using this⟩
    refine ⟨some a, len, cap, (zs.take len).map Int.toNat, rfl, ⟨by rw [List.length_map, List.length_take]; omega, hl, hm, ?_, ?_, fun e => by cases e⟩, ?_⟩
    · intro y hy
      obtain ⟨z, hz1, rfl⟩ := List.mem_map.1 hy
      have := hwz z (List.mem_of_mem_take hz1)
      have := bounds_u32 this
      omega
    · intro hp
      obtain ⟨b, off, rfl, hb⟩ := hpl hp
      refine ⟨b, off, rfl, hb, fun i hi => ?_⟩
      have h1 := hcell i (by omega)
      have hadd : (⟨b, off, none⟩ : Addr).add i = ⟨b, off + i, none⟩ := by unfold Addr.add; split <;> simp_all
      rw [hadd] at h1
      rw [h1, lim_eq]
      have hzi : zs.getD i 0 = zs[i]'(by omega) := by rw [List.getD_eq_getElem?_getD, List.getElem?_eq_getElem (by omega)]; rfl
      have hb := bounds_u32 (hwz (zs[i]'(by omega)) (List.getElem_mem _))
      rw [hzi, List.getElem?_map, List.getElem?_take_of_lt hi, List.getElem?_eq_getElem (by omega)]
      simp
      omega
    · intro hp
      obtain ⟨b, off, rfl, hb⟩ := hpl hp
      exact hb

theorem datumCells : Tryz.prog.cellsOf 31 = 7 := by kernel_rfl
theorem intCells : Tryz.prog.cellsOf 29 = 2 := by kernel_rfl

theorem list7 {α : Type} : ∀ {l : List α}, l.length = 7 → ∃ c0 c1 c2 c3 c4 c5 c6, l = [c0, c1, c2, c3, c4, c5, c6]
  | [a, b, c, d, e, f, g], _ => ⟨a, b, c, d, e, f, g, rfl⟩
theorem cells1 : Tryz.prog.cellsOf 3 = 1 ∧ Tryz.prog.cellsOf 4 = 1 ∧ Tryz.prog.cellsOf 9 = 1 ∧ Tryz.prog.cellsOf 23 = 1 ∧ Tryz.prog.cellsOf 27 = 1 := ⟨by kernel_rfl, by kernel_rfl, by kernel_rfl, by kernel_rfl, by kernel_rfl⟩
theorem trod_at {P : Program} {base m : Nat} {t : TypeId} {cs cs' : List Value} {o n : Nat} {r : Option (DataW H × List MemPlace)} (hc : P.cellsOf t = n) (h : DataW.trod enc P w base sp held m t ((cs.drop o).take (P.cellsOf t)) = r) (e : (cs.drop o).take n = cs') : DataW.trod enc P w base sp held m t cs' = r := by
  rw [hc, e] at h
  exact h

theorem held_of_trod : ∀ (n : Nat) (cs : List Value) (x : DataW H × List MemPlace), DataW.trod enc Tryz.prog w 0 sp held n 31 cs = some x → ∃ t : LT, cs = t.cells ∧ Held w w.heap.size t := by
  intro n
  induction n using Nat.strongRecOn with
  | _ n ih =>
    intro cs x h
    obtain ⟨xs, m, rfl, _, hl, hxl, hf⟩ := DataW.trod_struct Tryz.underlying31 h
    rw [datumCells] at hl
    obtain ⟨c0, c1, c2, c3, c4, c5, c6, rfl⟩ := list7 hl
    have hx : ∀ i, i < 6 → ∃ y, xs[i]? = some y := fun i hi => ⟨_, List.getElem?_eq_getElem (by rw [hxl]; exact hi)⟩
    have f0 : DataW.trod enc Tryz.prog w 0 sp held m 3 [c0] = xs[0]? := trod_at cells1.1 (hf 0 _ rfl) rfl
    have f1 : DataW.trod enc Tryz.prog w 0 sp held m 29 [c1, c2] = xs[1]? := trod_at intCells (hf 1 _ rfl) rfl
    have f2 : DataW.trod enc Tryz.prog w 0 sp held m 4 [c3] = xs[2]? := trod_at cells1.2.1 (hf 2 _ rfl) rfl
    have f3 : DataW.trod enc Tryz.prog w 0 sp held m 9 [c4] = xs[3]? := trod_at cells1.2.2.1 (hf 3 _ rfl) rfl
    have f4 : DataW.trod enc Tryz.prog w 0 sp held m 23 [c5] = xs[4]? := trod_at cells1.2.2.2.1 (hf 4 _ rfl) rfl
    have f5 : DataW.trod enc Tryz.prog w 0 sp held m 23 [c6] = xs[5]? := trod_at cells1.2.2.2.1 (hf 5 _ rfl) rfl
    obtain ⟨y0, g0⟩ := hx 0 (by decide)
    obtain ⟨y1, g1⟩ := hx 1 (by decide)
    obtain ⟨y2, g2⟩ := hx 2 (by decide)
    obtain ⟨y3, g3⟩ := hx 3 (by decide)
    obtain ⟨y4, g4⟩ := hx 4 (by decide)
    obtain ⟨y5, g5⟩ := hx 5 (by decide)
    rw [g0] at f0
    rw [g1] at f1
    rw [g2] at f2
    rw [g3] at f3
    rw [g4] at f4
    rw [g5] at f5
    obtain ⟨k, e0, hk⟩ := lit1_of_trod Tryz.underlying3 f0
    obtain ⟨zs, m1, rfl, _, hl1, hzl, hf1⟩ := DataW.trod_struct Tryz.underlying29 f1
    have i0 : DataW.trod enc Tryz.prog w 0 sp held m1 4 [c1] = zs[0]? := trod_at cells1.2.1 (hf1 0 _ rfl) rfl
    have i1 : DataW.trod enc Tryz.prog w 0 sp held m1 27 [c2] = zs[1]? := trod_at cells1.2.2.2.2 (hf1 1 _ rfl) rfl
    obtain ⟨z0, j0⟩ : ∃ y, zs[0]? = some y := ⟨_, List.getElem?_eq_getElem (by rw [hzl]; decide)⟩
    obtain ⟨z1, j1⟩ : ∃ y, zs[1]? = some y := ⟨_, List.getElem?_eq_getElem (by rw [hzl]; decide)⟩
    rw [j0] at i0
    rw [j1] at i1
    obtain ⟨g, e1⟩ := bool1_of_trod Tryz.underlying4 i0
    obtain ⟨la, ln, lc, ys, e2, hsl, hbl⟩ := sl_of_trod i1
    obtain ⟨bb, e3⟩ := bool1_of_trod Tryz.underlying4 f2
    obtain ⟨s, e4, hs⟩ := str1_of_trod Tryz.underlying9 f3
    obtain ⟨ia, items, ic, e5, hsi, hli⟩ := row_of_trod (fun q hq => ih q (by omega)) datumCells f4
    obtain ⟨ta, tail, tc, e6, hst, hlt⟩ := row_of_trod (fun q hq => ih q (by omega)) datumCells f5
    injection e0 with e0
    injection e1 with e1
    injection e2 with e2
    injection e3 with e3
    injection e4 with e4
    injection e5 with e5
    injection e6 with e6
    subst e0 e1 e2 e3 e4 e5 e6
    exact ⟨.mk k g la ln lc ys bb s ia ic items ta tc tail, rfl, ⟨hsl, hbl, hs⟩, hsi, hst, hli, hlt⟩
end
end Go.Proofs.YtlohdglhebplfaaGreatDoor
