/-
  copied of pavanelaw03: what its loops know.
-/
import Derived.Test.YtgboiopkihemaaaNgp
import Derived.Test.YtgboiopkihemaaaRs3
namespace Go.Proofs.Ytgboiopkihemaaa
open Go.RowKit

theorem row_next {B X fld gg cap : Nat} {x' : LT} {ts : List LT} {wr W6 w7 w8 : World} {o : Obj} {V : Value} {C : Array Value} (hX : X < B + 3) (hsz : B + 3 ≤ wr.heap.size) (hb6 : Below wr.heap.size wr W6) (hz6 : wr.heap.size < W6.heap.size) (hR : RowP B V ts wr) (hu : HeldP w7 (Fresh w7 W6.heap.size) x') (c7 : Below W6.heap.size W6 w7) (hg : (w7.alloc o).grownBy w8 V.ownBlock) (hat : V.ownBlock = some gg ∨ gg = w7.heap.size + 1)
    (own8 : w8.ownsRow (B + 3) 27 7 (.slice (some ⟨gg, 0, none⟩) (ts.length + 1) cap) (ts.length + 1) (cellsAll ts ++ x'.cells)) (hC : wr.heap[X]? = some (.cells C 27 (0, 0))) :
    (∀ i, i < B + 3 → i ≠ X → (w8.setCell ⟨X, fld, none⟩ (.slice (some ⟨gg, 0, none⟩) (ts.length + 1) cap)).heap[i]? = wr.heap[i]?) ∧ (w8.setCell ⟨X, fld, none⟩ (.slice (some ⟨gg, 0, none⟩) (ts.length + 1) cap)).heap[X]? = some (.cells (C.setIfInBounds fld (.slice (some ⟨gg, 0, none⟩) (ts.length + 1) cap)) 27 (0, 0)) ∧
    RowP B (.slice (some ⟨gg, 0, none⟩) (ts.length + 1) cap) (ts ++ [x']) (w8.setCell ⟨X, fld, none⟩ (.slice (some ⟨gg, 0, none⟩) (ts.length + 1) cap)) ∧ wr.heap.size ≤ (w8.setCell ⟨X, fld, none⟩ (.slice (some ⟨gg, 0, none⟩) (ts.length + 1) cap)).heap.size ∧ ∀ L, L ≤ X → Below L wr (w8.setCell ⟨X, fld, none⟩ (.slice (some ⟨gg, 0, none⟩) (ts.length + 1) cap)) := by
  have hV : ∀ g, V.ownBlock = some g → B + 3 ≤ g ∧ g < wr.heap.size := fun g h => hR.1.lt g h
  have s6 := hb6.size
  have s7 := c7.size
  have s8 := hg.size
  have hs7 : (w7.alloc o).heap.size = w7.heap.size + 1 := World.size_alloc ..
  have s9 := (KeepsWalks.setCell w8 ⟨X, fld, none⟩ (.slice (some ⟨gg, 0, none⟩) (ts.length + 1) cap)).size
  have hat8 : ∀ i, i < w7.heap.size → V.ownBlock ≠ some i → w8.heap[i]? = w7.heap[i]? := fun i hi hne => (hg.block i (by omega) (fun e => hne e.symm)).trans (Below.heap_alloc w7 o i hi)
  have hat0 : ∀ i, i < wr.heap.size → V.ownBlock ≠ some i → w8.heap[i]? = wr.heap[i]? := fun i hi hne => (hat8 i (by omega) hne).trans ((c7.block i (by omega)).trans (hb6.block i hi))
  have hlow : ∀ i, i < B + 3 → w8.heap[i]? = wr.heap[i]? := fun i hi => hat0 i (by omega) (fun e => by have := (hV i e).1; omega)
  have hset : ∀ i, i ≠ X → (w8.setCell ⟨X, fld, none⟩ (.slice (some ⟨gg, 0, none⟩) (ts.length + 1) cap)).heap[i]? = w8.heap[i]? := fun i hi => Below.heap_setCell _ _ _ _ hi
  refine ⟨fun i hi hne => (hset i hne).trans (hlow i hi), ?_, ⟨?_, ?_⟩, by omega, fun L hL => ?_⟩
  · have h3 := (hlow X hX).trans hC
    simp [World.setCell, Array.getElem?_modify, h3]
  · rw [List.length_append, cellsAll_append, show cellsAll [x'] = x'.cells from List.append_nil _]
    exact ownsRow_setCell_below own8 (a := ⟨X, fld, none⟩) hX _
  · refine AllP.snoc (AllP.keep hR.2 (by omega) fun q hq => ?_) (hu.keep (by omega) fun q hq => ?_)
    · have hqlt := hq.1.lt
      have hq3 := hq.1.1
      have e : (w8.setCell ⟨X, fld, none⟩ (.slice (some ⟨gg, 0, none⟩) (ts.length + 1) cap)).heap[q]? = wr.heap[q]? := (hset q (by omega)).trans (hat0 q hqlt hq.2)
      refine ⟨⟨hq.1.same e, fun h => ?_⟩, e⟩
      obtain rfl : gg = q := Option.some.inj h
      rcases hat with h | h
      · exact hq.2 h
      · omega
    · have hqlt := hq.lt
      have hq6 := hq.1
      have hne : V.ownBlock ≠ some q := fun h => by have := (hV q h).2; omega
      have e : (w8.setCell ⟨X, fld, none⟩ (.slice (some ⟨gg, 0, none⟩) (ts.length + 1) cap)).heap[q]? = w7.heap[q]? := (hset q (by omega)).trans (hat8 q hqlt hne)
      refine ⟨⟨(hq.same e).low (by omega), fun h => ?_⟩, e⟩
      obtain rfl : gg = q := Option.some.inj h
      rcases hat with h | h
      · exact hne h
      · omega
  · have hgb : Below L (w7.alloc o) w8 := (Below.refl L _).grown hg (by omega) (fun i hi => by have := hV i hi; omega)
    have h7 : Below L w7 (w7.alloc o) := (Below.refl L w7).alloc (by omega) o
    exact ((((hb6.mono (by omega)).trans (c7.mono (by omega))).trans h7).trans hgb).setCell (p := ⟨X, fld, none⟩) hL _
theorem Sl.keepB {w w' : World} {A : Option Addr} {n cap : Nat} {xs : List Nat} (h : Sl w A n cap xs) (hs : w.heap.size ≤ w'.heap.size) (hk : 0 < n → w'.heap[blk A]? = w.heap[blk A]?) : Sl w' A n cap xs := by
  refine ⟨h.len, h.le, h.max, h.ok, fun hp => ?_, h.nil_⟩
  have e := hk hp
  obtain ⟨b, off, rfl, hb, hc⟩ := h.here hp
  exact ⟨b, off, rfl, by omega, fun i hi => (World.cell?_of_block (w := w) (w' := w') (a := ⟨b, off + i, none⟩) e).trans (hc i hi)⟩
/-- What a loop that copies a row knows: the row so far, in blocks from Bq + 3 on; below that the variable's block X alone is another one. -/
def CpRel (B Bq X : Nat) (C : Value → Array Value) (src : List LT) (w w0 : World) (i : Value) (wr : World) : Prop :=
  ∃ (k : Nat) (V : Value) (ts : List LT), k ≤ src.length ∧ i = .int .i64 k ∧ wr.heap[X]? = some (.cells (C V) 27 (0, 0)) ∧ RowP Bq V ts wr ∧ Hid (shapes ts = trimsD (shapes (src.take k))) ∧ ts.length = k ∧ Hid (∀ i, i < Bq + 3 → i ≠ X → wr.heap[i]? = w0.heap[i]?) ∧ Bq + 3 ≤ wr.heap.size ∧ Below B w wr
theorem trimsD_snoc (l : List DT) (d : DT) : trimsD (l ++ [d]) = trimsD l ++ [trimD d] := by
  induction l with
  | nil => simp [trimsD]
  | cons t l ih => simp [trimsD, ih]
theorem cp_next {B Bq X fld k gg cap : Nat} {C : Value → Array Value} {src : List LT} {w w0 wr W6 w7 w8 : World} {x' : LT} {ts : List LT} {o : Obj} {V : Value} (hk : k < src.length) (hX : X < Bq + 3) (hBX : B ≤ X) (hC : ∀ V V', (C V).setIfInBounds fld V' = C V') (hcx : wr.heap[X]? = some (.cells (C V) 27 (0, 0))) (hsz : Bq + 3 ≤ wr.heap.size) (hb6 : Below wr.heap.size wr W6) (hz6 : wr.heap.size < W6.heap.size) (hR : RowP Bq V ts wr) (hu : HeldP w7 (Fresh w7 W6.heap.size) x') (c7 : Below W6.heap.size W6 w7) (hg : (w7.alloc o).grownBy w8 V.ownBlock) (hat : V.ownBlock = some gg ∨ gg = w7.heap.size + 1)
    (own8 : w8.ownsRow (Bq + 3) 27 7 (.slice (some ⟨gg, 0, none⟩) (ts.length + 1) cap) (ts.length + 1) (cellsAll ts ++ x'.cells)) (hs : shapes ts = trimsD (shapes (src.take k))) (hsh : shape x' = trimD (shape src[k])) (hl : ts.length = k) (hk0 : ∀ i, i < Bq + 3 → i ≠ X → wr.heap[i]? = w0.heap[i]?) (hbel : Below B w wr) (z : Int) (hz : z = ((k + 1 : Nat) : Int)) :
    CpRel B Bq X C src w w0 (.int .i64 z) (w8.setCell ⟨X, fld, none⟩ (.slice (some ⟨gg, 0, none⟩) (ts.length + 1) cap)) := by
  subst hz
  obtain ⟨h1, h2, h3, h4, h5⟩ := row_next (fld := fld) hX hsz hb6 hz6 hR hu c7 hg hat own8 hcx
  rw [hC] at h2
  refine ⟨k + 1, _, ts ++ [x'], by omega, rfl, h2, h3, Lib.hid ?_, by simp [hl], Lib.hid fun i hi hne => (h1 i hi hne).trans (hk0 i hi hne), by omega, hbel.trans (h5 B hBX)⟩
  rw [List.take_add_one, List.getElem?_eq_getElem hk, shapes_append, shapes_append, hs]
  show trimsD (shapes (src.take k)) ++ shapes [x'] = trimsD (shapes (src.take k) ++ shapes [src[k]])
  rw [shapes_cons, shapes_nil, shapes_cons, shapes_nil, trimsD_snoc, hsh]
end Go.Proofs.Ytgboiopkihemaaa
