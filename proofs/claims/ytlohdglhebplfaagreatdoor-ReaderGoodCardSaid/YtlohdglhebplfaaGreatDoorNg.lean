/-
  datum.normalList of any tree: what its loops know.
-/
import Derived.Test.YtlohdglhebplfaaGreatDoorNgl
namespace Go.Proofs.YtlohdglhebplfaaGreatDoor
open Go.RowKit

theorem normal_nl (t : LT) (h5 : t.k ≠ 5) (hl : t.ln ≤ 1000) (hs : t.s.size ≤ maxLen) (w : World) (hsl : Sl w t.la t.ln t.lc t.ys) : Calls Tryz.prog 134 #[.agg #[.int .i64 t.k, .bool t.g, .slice t.la t.ln t.lc, .bool t.bb, .string t.s, .slice t.ia t.items.length t.ic, .slice t.ta t.tail.length t.tc]] w (NPost (normT t) w) := by
  by_cases h1 : t.k = 1
  · exact normal_num t h1 hl w hsl
  · by_cases h2 : t.k = 2 ∨ t.k = 3 ∨ t.k = 4
    · exact normal_23 t h2 hs w
    · exact normal_other t h1 (by omega) (by omega) (by omega) h5 w
mutual
/-- No number in it has more than 1000 limbs. -/
def Tame : LT → Prop
  | .mk _ _ _ ln _ _ _ _ _ _ items _ _ tail => ln ≤ 1000 ∧ TameR items ∧ TameR tail
def TameR : List LT → Prop
  | [] => True
  | t :: l => Tame t ∧ TameR l
end
theorem tame_eq (t : LT) : Tame t ↔ t.ln ≤ 1000 ∧ TameR t.items ∧ TameR t.tail := by cases t; simp [Tame, LT.ln, LT.items, LT.tail]
theorem tameR_at : ∀ (l : List LT) (k : Nat) (h : k < l.length), TameR l → Tame l[k]
  | t :: l, 0, _, h => by simp only [TameR] at h; exact h.1
  | t :: l, k + 1, hk, h => by simp only [TameR] at h; exact tameR_at l k (by simpa using hk) h.2
theorem cells_news {w : World} {g : Nat} {u : LT} (h : w.heap[g]? = some (Obj.cells #[.int .i64 u.k, .bool u.g, .slice u.la u.ln u.lc, .bool u.bb, .string u.s, .slice u.ia u.items.length u.ic, .slice u.ta u.tail.length u.tc] 31)) : ∀ j v, u.cells[j]? = some v → w.cell? ((⟨g, 0, none⟩ : Addr).add j) = some v := by
  intro j v hv
  rw [cell_add, Nat.zero_add, Lib.cell_of_heap h]
  simpa [LT.cells] using hv
theorem lt_one (u : LT) : ∀ v ∈ u.cells, v.oneCell' = true := by
  intro v h
  simp only [LT.cells, List.mem_cons, List.mem_nil_iff, or_false] at h
  rcases h with rfl | rfl | rfl | rfl | rfl | rfl | rfl <;> rfl
def outC (V : Value) : Array Value := #[.int .i64 5, .bool false, .slice none 0 0, .bool false, .string ⟨#[]⟩, V, .slice none 0 0]
/-- The items so far. -/
def RowP (B : Nat) (V : Value) (ts : List LT) (wr : World) : Prop := wr.ownsRow (B + 3) 31 7 V ts.length (cellsAll ts) ∧ AllP wr (fun q => Fresh wr (B + 3) q ∧ V.ownBlock ≠ some q) ts
def NgRel (M B lim : Nat) (d : DT) (w : World) (q : Nat) (wr : World) : Prop :=
  ∃ (t : LT) (V : Value) (ts : List LT), t.size = q ∧ wr.heap[B]? = some (Obj.cells #[.int .i64 t.k, .bool t.g, .slice t.la t.ln t.lc, .bool t.bb, .string t.s, .slice t.ia t.items.length t.ic, .slice t.ta t.tail.length t.tc] 31) ∧ wr.heap[B + 1]? = some (Obj.cells #[.int .i64 0, .bool false, .slice none 0 0, .bool false, .string ⟨#[]⟩, .slice none 0 0, .slice none 0 0] 31) ∧ wr.heap[B + 1 + 1]? = some (.cells #[.int .i64 5, .bool false, .slice none 0 0, .bool false, .string ⟨#[]⟩, V, .slice none 0 0] 31 (0, 0)) ∧ RowP B V ts wr ∧
    Hid (closeD (shapes ts ++ (spineT t).1, (spineT t).2) = d) ∧ ts.length + t.size ≤ lim ∧ Hid (Held wr M t) ∧ Hid (Tame t) ∧ Below B w wr ∧ B + 3 ≤ wr.heap.size
def NiRel (M B lim : Nat) (t : LT) (d : DT) (w : World) (i : Value) (wr : World) : Prop :=
  ∃ (k : Nat) (V : Value) (ts : List LT), k ≤ t.items.length ∧ i = .int .i64 k ∧ wr.heap[B]? = some (Obj.cells #[.int .i64 t.k, .bool t.g, .slice t.la t.ln t.lc, .bool t.bb, .string t.s, .slice t.ia t.items.length t.ic, .slice t.ta t.tail.length t.tc] 31) ∧ wr.heap[B + 1]? = some (Obj.cells #[.int .i64 0, .bool false, .slice none 0 0, .bool false, .string ⟨#[]⟩, .slice none 0 0, .slice none 0 0] 31) ∧ wr.heap[B + 1 + 1]? = some (.cells #[.int .i64 5, .bool false, .slice none 0 0, .bool false, .string ⟨#[]⟩, V, .slice none 0 0] 31 (0, 0)) ∧ RowP B V ts wr ∧
    Hid (closeD (shapes ts ++ (normR (t.items.drop k) ++ (spineR t.tail).1), (spineR t.tail).2) = d) ∧ ts.length + (t.items.length - k) + sizes t.tail ≤ lim ∧ Hid (Held wr M t) ∧ Below B w wr ∧ B + 3 ≤ wr.heap.size

theorem ni_next {M B lim k gg cap : Nat} {t u' : LT} {d : DT} {ts : List LT} {w wr W6 w7 w8 : World} {o : Obj} {V : Value} (hk : k < t.items.length) (hM : M ≤ B)
    (hI : wr.heap[B]? = some (Obj.cells #[.int .i64 t.k, .bool t.g, .slice t.la t.ln t.lc, .bool t.bb, .string t.s, .slice t.ia t.items.length t.ic, .slice t.ta t.tail.length t.tc] 31) ∧ wr.heap[B + 1]? = some (Obj.cells #[.int .i64 0, .bool false, .slice none 0 0, .bool false, .string ⟨#[]⟩, .slice none 0 0, .slice none 0 0] 31) ∧ wr.heap[B + 1 + 1]? = some (.cells #[.int .i64 5, .bool false, .slice none 0 0, .bool false, .string ⟨#[]⟩, V, .slice none 0 0] 31 (0, 0)) ∧ Below B w wr ∧ Below wr.heap.size wr W6)
    (hR : RowP B V ts wr) (hu : HeldP w7 (Fresh w7 W6.heap.size) u') (hz6 : wr.heap.size < W6.heap.size) (hH : Held wr M t) (hsz : B + 3 ≤ wr.heap.size) (c7 : Below W6.heap.size W6 w7) (hg : (w7.alloc o).grownBy w8 V.ownBlock) (hat : V.ownBlock = some gg ∨ gg = w7.heap.size + 1)
    (own8 : w8.ownsRow (B + 3) 31 7 (.slice (some ⟨gg, 0, none⟩) (ts.length + 1) cap) (ts.length + 1) (cellsAll ts ++ u'.cells))
    (hd : closeD (shapes ts ++ (normR (t.items.drop k) ++ (spineR t.tail).1), (spineR t.tail).2) = d) (hsh : shape u' = normT t.items[k]) (hl : ts.length + (t.items.length - k) + sizes t.tail ≤ lim) (z : Int) (hz : z = ((k + 1 : Nat) : Int)) :
    NiRel M B lim t d w (.int .i64 z) (w8.setCell ⟨B + 1 + 1, 5, none⟩ (.slice (some ⟨gg, 0, none⟩) (ts.length + 1) cap)) := by
  subst hz
  obtain ⟨h0, h1, h2, hbel, hb6⟩ := hI
  have hV : ∀ g, V.ownBlock = some g → B + 3 ≤ g ∧ g < wr.heap.size := fun g h => hR.1.lt g h
  have s6 := hb6.size
  have s7 := c7.size
  have s8 := hg.size
  have hs7 : (w7.alloc o).heap.size = w7.heap.size + 1 := World.size_alloc ..
  have s9 := (KeepsWalks.setCell w8 ⟨B + 1 + 1, 5, none⟩ (.slice (some ⟨gg, 0, none⟩) (ts.length + 1) cap)).size
  have hat8 : ∀ i, i < w7.heap.size → V.ownBlock ≠ some i → w8.heap[i]? = w7.heap[i]? := fun i hi hne => (hg.block i (by omega) (fun e => hne e.symm)).trans (Below.heap_alloc w7 o i hi)
  have hat0 : ∀ i, i < wr.heap.size → V.ownBlock ≠ some i → w8.heap[i]? = wr.heap[i]? := fun i hi hne => (hat8 i (by omega) hne).trans ((c7.block i (by omega)).trans (hb6.block i hi))
  have hlow : ∀ i, i < B + 3 → w8.heap[i]? = wr.heap[i]? := fun i hi => hat0 i (by omega) (fun e => by have := (hV i e).1; omega)
  have hset : ∀ i, i ≠ B + 1 + 1 → (w8.setCell ⟨B + 1 + 1, 5, none⟩ (.slice (some ⟨gg, 0, none⟩) (ts.length + 1) cap)).heap[i]? = w8.heap[i]? := fun i hi => Below.heap_setCell _ _ _ _ hi
  have hdr := List.drop_eq_getElem_cons hk
  refine ⟨k + 1, .slice (some ⟨gg, 0, none⟩) (ts.length + 1) cap, ts ++ [u'], by omega, rfl, ?_, ?_, ?_, ⟨?_, ?_⟩, ?_, ?_, ?_, ?_, ?_⟩
  · exact (hset _ (by omega)).trans ((hlow _ (by omega)).trans h0)
  · exact (hset _ (by omega)).trans ((hlow _ (by omega)).trans h1)
  · have h3 := (hlow (B + 1 + 1) (by omega)).trans h2
    simp [World.setCell, Array.getElem?_modify, h3]
  · rw [List.length_append, cellsAll_append, show cellsAll [u'] = u'.cells from List.append_nil _]
    exact ownsRow_setCell_below own8 (a := ⟨B + 1 + 1, 5, none⟩) (by show B + 1 + 1 < B + 3; omega) _
  · refine AllP.snoc (AllP.keep hR.2 (by omega) fun q hq => ?_) (hu.keep (by omega) fun q hq => ?_)
    · have hqlt := hq.1.lt
      have hq3 := hq.1.1
      have e : (w8.setCell ⟨B + 1 + 1, 5, none⟩ (.slice (some ⟨gg, 0, none⟩) (ts.length + 1) cap)).heap[q]? = wr.heap[q]? := (hset q (by omega)).trans (hat0 q hqlt hq.2)
      refine ⟨⟨hq.1.same e, fun h => ?_⟩, e⟩
      obtain rfl : gg = q := Option.some.inj h
      rcases hat with h | h
      · exact hq.2 h
      · omega
    · have hqlt := hq.lt
      have hq6 := hq.1
      have hne : V.ownBlock ≠ some q := fun h => by have := (hV q h).2; omega
      have e : (w8.setCell ⟨B + 1 + 1, 5, none⟩ (.slice (some ⟨gg, 0, none⟩) (ts.length + 1) cap)).heap[q]? = w7.heap[q]? := (hset q (by omega)).trans (hat8 q hqlt hne)
      refine ⟨⟨(hq.same e).low (by omega), fun h => ?_⟩, e⟩
      obtain rfl : gg = q := Option.some.inj h
      rcases hat with h | h
      · exact hne h
      · omega
  · refine Lib.hid ?_
    rw [← hd, hdr, normR_cons, shapes_append, shapes_cons, shapes_nil, hsh]
    simp
  · rw [List.length_append, List.length_singleton]; omega
  · exact Lib.hid (hH.keep (by omega) fun q hq => (hset q (by omega)).trans (hlow q (by omega)))
  · have hgb : Below B (w7.alloc o) w8 := (Below.refl B _).grown hg (by omega) (fun i hi => by have := hV i hi; omega)
    have h7 : Below B w7 (w7.alloc o) := (Below.refl B w7).alloc (by omega) o
    exact ((((hbel.trans (hb6.mono (by omega))).trans (c7.mono (by omega))).trans h7).trans hgb).setCell (p := ⟨B + 1 + 1, 5, none⟩) (by show B ≤ B + 1 + 1; omega) _
  · omega
end Go.Proofs.YtlohdglhebplfaaGreatDoor
