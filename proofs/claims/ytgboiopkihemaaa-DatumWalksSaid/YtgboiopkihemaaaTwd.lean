/-
  datum.twin: part.
-/
import Derived.Test.YtgboiopkihemaaaTwc
namespace Go.Proofs.Ytgboiopkihemaaa
open Go.RowKit

theorem Held.below {w w' : World} {M : Nat} {t : LT} (h : Held w M t) (hM : M ≤ w.heap.size) (hb : Below w.heap.size w w') : Held w' M t := h.keep hb.size fun q hq => hb.block q (by omega)
theorem cells_of_liesR {w : World} {M : Nat} : ∀ (l : List LT) (b o : Nat), LiesR w M l b o → ∀ j v, (cellsAll l)[j]? = some v → w.cell? ⟨b, o + j, none⟩ = some v
  | [], _, _, _, j, v, hj => by simp [cellsAll] at hj
  | t :: l, b, o, h, j, v, hj => by
    rw [liesR_cons] at h
    rw [cellsAll] at hj
    by_cases hlt : j < t.cells.length
    · rw [List.getElem?_append_left hlt] at hj
      exact (lies_held.1 h.1).2.1 j v hj
    · rw [List.getElem?_append_right (by omega), show t.cells.length = 7 from rfl] at hj
      have := cells_of_liesR l b (o + 7) h.2 (j - 7) v hj
      rwa [show o + 7 + (j - 7) = o + j by rw [show t.cells.length = 7 from rfl] at hlt; omega] at this
theorem Eff.cell {w w' : World} {R g n m cap : Nat} {news : List Value} (h : Eff w w' R g n m cap news) (b off : Nat) (hR : b ≠ R) (hg : b = g → off < n * 7) : w'.cell? ⟨b, off, none⟩ = w.cell? ⟨b, off, none⟩ := by
  by_cases hb : b = g
  · subst hb; exact h.low off (hg rfl)
  · exact World.cell?_of_block (w := w) (a := ⟨b, off, none⟩) (h.other b hR hb)
theorem Eff.frz {w w' : World} {R g n m cap : Nat} {news : List Value} (h : Eff w w' R g n m cap news) (b off : Nat) (hR : b ≠ R) (hf : w.frozen? ⟨b, off, none⟩ = false) : w'.frozen? ⟨b, off, none⟩ = false := by
  by_cases hb : b = g
  · subst hb; exact h.frozen off
  · exact (World.frozen?_of_block (w := w) (a := ⟨b, off, none⟩) (h.other b hR hb)).trans hf
theorem set_other {w : World} {b o c : Nat} {v : Value} {off : Nat} (h : ¬ (b = c ∧ o = off)) : (w.setCell ⟨c, off, none⟩ v).cell? ⟨b, o, none⟩ = w.cell? ⟨b, o, none⟩ := by
  by_cases hb : b = c
  · subst hb
    have ho : off ≠ o := fun e => h ⟨rfl, e.symm⟩
    simp only [World.setCell, World.cell?, Array.getElem?_modify, if_true]
    cases hh : w.heap[b]? with
    | none => simp
    | some x => cases x <;> simp [Array.getElem?_setIfInBounds, ho]
  · exact World.cell?_of_block (w := w) (a := ⟨b, o, none⟩) (Below.heap_setCell _ _ _ _ (by show b ≠ c; exact hb))
theorem set_frz {w : World} {b o c : Nat} {v : Value} {off : Nat} : (w.setCell ⟨c, off, none⟩ v).frozen? ⟨b, o, none⟩ = w.frozen? ⟨b, o, none⟩ := by
  by_cases hb : b = c
  · subst hb
    simp only [World.setCell, World.frozen?, Array.getElem?_modify, if_true]
    cases hh : w.heap[b]? with
    | none => simp
    | some x => cases x <;> simp
  · exact World.frozen?_of_block (w := w) (a := ⟨b, o, none⟩) (Below.heap_setCell _ _ _ _ (by show b ≠ c; exact hb))
theorem set_here {w : World} {b o : Nat} {v x : Value} (h : w.cell? ⟨b, o, none⟩ = some x) : (w.setCell ⟨b, o, none⟩ v).cell? ⟨b, o, none⟩ = some v := by
  simp only [World.cell?] at h
  revert h
  cases hh : w.heap[b]? with
  | none => simp
  | some y =>
    cases y with
    | cells cs t fr =>
      intro h
      have hlt : o < cs.size := (Array.getElem?_eq_some_iff.1 (by simpa using h)).1
      simp [World.setCell, World.cell?, Array.getElem?_modify, hh, hlt]
    | _ => simp

/-- What part leaves. -/
structure PartEff (w w' : World) (b o R g n cap : Nat) (u : LT) : Prop where
  here : ∃ la lc, (∀ j v, ([.int .i64 u.k, .bool u.g, .slice la u.ln lc, .bool u.bb, .string u.s, childV g n u.items.length, childV g (n + u.items.length) u.tail.length] : List Value)[j]? = some v → w'.cell? ⟨b, o + j, none⟩ = some v) ∧ Sl w' la u.ln lc u.ys ∧ (0 < u.ln → Fresh w' w.heap.size (blk la))
  room : RoomAt w' R g (n + u.items.length + u.tail.length) cap
  new1 : ∀ j v, (cellsAll u.items)[j]? = some v → w'.cell? ⟨g, n * 7 + j, none⟩ = some v
  new2 : ∀ j v, (cellsAll u.tail)[j]? = some v → w'.cell? ⟨g, (n + u.items.length) * 7 + j, none⟩ = some v
  low : ∀ off, off < n * 7 → (b = g → off < o ∨ o + 7 ≤ off) → w'.cell? ⟨g, off, none⟩ = w.cell? ⟨g, off, none⟩
  other : ∀ k, k < w.heap.size → k ≠ R → k ≠ g → k ≠ b → w'.heap[k]? = w.heap[k]?
  size : w.heap.size ≤ w'.heap.size
  below : ∀ B, B ≤ w.heap.size → B ≤ R → B ≤ g → B ≤ b → Below B w w'

theorem part_end {b o R g n cap M : Nat} {u : LT} {w w1 W2 w3 w4 : World} {la a1 a2 : Option Addr} {lc c1 c2 : Nat} (hc : ∀ j v, u.cells[j]? = some v → w.cell? ⟨b, o + j, none⟩ = some v) (b1 : Below w.heap.size w w1) (hsl : Sl w1 la u.ln lc u.ys) (hfr : 0 < u.ln → Fresh w1 w.heap.size (blk la))
    (hW2 : w1.setCell ⟨b, o + 2, none⟩ (.slice la u.ln lc) = W2) (ef1 : Eff W2.drew w3 R g n u.items.length cap (cellsAll u.items)) (ef2 : Eff w3 w4 R g (n + u.items.length) u.tail.length cap (cellsAll u.tail)) (hch1 : childV g n u.items.length = .slice a1 u.items.length c1) (hch2 : childV g (n + u.items.length) u.tail.length = .slice a2 u.tail.length c2)
    (hblt : b < w.heap.size) (hRlt : R < w.heap.size) (hglt : g < w.heap.size) (d1 : R ≠ g) (d2 : b ≠ R) (hbg : b = g → o + 7 ≤ n * 7) (_m1 : M ≤ R) :
    PartEff w ((w4.setCell ⟨b, o + 5, none⟩ (.slice a1 u.items.length c1)).setCell ⟨b, o + 6, none⟩ (.slice a2 u.tail.length c2)) b o R g n cap u := by
  have hz1 := b1.size
  have hzW : W2.heap.size = w1.heap.size := by rw [← hW2, setCell_size]
  have hz3 : w3.heap.size = W2.heap.size := ef1.size
  have hz4 := ef2.size
  have l1 := cellsAll_length u.items
  have l2 := cellsAll_length u.tail
  have hkeep : ∀ j, j < 7 → j ≠ 2 → w4.cell? ⟨b, o + j, none⟩ = w.cell? ⟨b, o + j, none⟩ := fun j hj h2 => by
    rw [ef2.cell b (o + j) d2 (fun e => by have := hbg e; omega), ef1.cell b (o + j) d2 (fun e => by have := hbg e; omega)]
    show W2.cell? _ = _
    rw [← hW2, set_other (by omega)]
    exact b1.cell (p := ⟨b, o + j, none⟩) hblt
  have h2 : w4.cell? ⟨b, o + 2, none⟩ = some (.slice la u.ln lc) := by
    rw [ef2.cell b (o + 2) d2 (fun e => by have := hbg e; omega), ef1.cell b (o + 2) d2 (fun e => by have := hbg e; omega)]
    show W2.cell? _ = _
    rw [← hW2]
    exact set_here ((b1.cell (p := ⟨b, o + 2, none⟩) hblt).trans (hc 2 _ rfl))
  have hoth : ∀ k, k ≠ R → k ≠ g → k ≠ b → w4.heap[k]? = w1.heap[k]? := fun k k1 k2 k3 => by
    rw [ef2.other k k1 k2, ef1.other k k1 k2]
    show W2.heap[k]? = _
    rw [← hW2]
    exact Below.heap_setCell _ _ _ _ (by show k ≠ b; exact k3)
  have hoth' : ∀ k, k ≠ R → k ≠ g → k ≠ b → ((w4.setCell ⟨b, o + 5, none⟩ (.slice a1 u.items.length c1)).setCell ⟨b, o + 6, none⟩ (.slice a2 u.tail.length c2)).heap[k]? = w1.heap[k]? := fun k k1 k2 k3 =>
    (Below.heap_setCell _ _ _ _ (by show k ≠ b; exact k3)).trans ((Below.heap_setCell _ _ _ _ (by show k ≠ b; exact k3)).trans (hoth k k1 k2 k3))
  have hzz : ((w4.setCell ⟨b, o + 5, none⟩ (.slice a1 u.items.length c1)).setCell ⟨b, o + 6, none⟩ (.slice a2 u.tail.length c2)).heap.size = w1.heap.size := by rw [setCell_size, setCell_size, hz4, hz3, hzW]
  refine ⟨⟨la, lc, ?_, ?_, ?_⟩, ?_, ?_, ?_, ?_, ?_, ?_, ?_⟩
  · intro j v hj
    rw [hch1, hch2] at hj
    have hj7 : j < 7 := by
      have := (List.getElem?_eq_some_iff.1 hj).1
      simpa using this
    by_cases h6 : j = 6
    · subst h6
      have hv : Value.slice a2 u.tail.length c2 = v := Option.some.inj hj
      rw [← hv]
      refine set_here (x := .slice u.ta u.tail.length u.tc) ?_
      rw [set_other (by omega), hkeep 6 (by decide) (by decide)]
      exact hc 6 _ rfl
    · rw [set_other (by omega)]
      by_cases h5 : j = 5
      · subst h5
        have hv : Value.slice a1 u.items.length c1 = v := Option.some.inj hj
        rw [← hv]
        refine set_here (x := .slice u.ia u.items.length u.ic) ?_
        rw [hkeep 5 (by decide) (by decide)]
        exact hc 5 _ rfl
      · rw [set_other (by omega)]
        by_cases h2' : j = 2
        · subst h2'
          rw [h2]
          exact hj
        · rw [hkeep j hj7 h2']
          refine hc j v ?_
          rcases (show j = 0 ∨ j = 1 ∨ j = 3 ∨ j = 4 by omega) with rfl | rfl | rfl | rfl <;> exact hj
  · exact hsl.keepP (by omega) fun hp => by
      have hf := (hfr hp).1
      exact hoth' _ (by omega) (by omega) (by omega)
  · intro hp
    have hf := hfr hp
    exact hf.same (hoth' _ (by have := hf.1; omega) (by have := hf.1; omega) (by have := hf.1; omega))
  · exact (ef2.room.set (o + 5) d2 _).set (o + 6) d2 _
  · intro j v hj
    have hjl := (List.getElem?_eq_some_iff.1 hj).1
    rw [set_other (fun e => by have := hbg e.1.symm; omega), set_other (fun e => by have := hbg e.1.symm; omega), ef2.low _ (by omega)]
    exact ef1.new j v hj
  · intro j v hj
    rw [set_other (fun e => by have := hbg e.1.symm; omega), set_other (fun e => by have := hbg e.1.symm; omega)]
    exact ef2.new j v hj
  · intro off ho hb
    rw [set_other (fun e => by have := hb e.1.symm; omega), set_other (fun e => by have := hb e.1.symm; omega), ef2.low _ (by omega), ef1.low _ ho]
    show W2.cell? _ = _
    rw [← hW2, set_other (fun e => by have := hb e.1.symm; omega)]
    exact b1.cell (p := ⟨g, off, none⟩) hglt
  · intro k k0 k1 k2 k3
    rw [hoth' k k1 k2 k3]
    exact b1.block k k0
  · omega
  · intro B B0 B1 B2 B3
    have e1 : Below B w W2 := by rw [← hW2]; exact (b1.mono B0).setCell (p := ⟨b, o + 2, none⟩) B3 _
    exact (((e1.drew.trans (ef1.below B B1 B2)).trans (ef2.below B B1 B2)).setCell (p := ⟨b, o + 5, none⟩) B3 _).setCell (p := ⟨b, o + 6, none⟩) B3 _

/-- What part leaves, of any datum. -/
def PartAny : Prop := ∀ (b o R g TK n cap M : Nat) (u : LT) (w : World) (hc : ∀ j v, u.cells[j]? = some v → w.cell? ⟨b, o + j, none⟩ = some v) (hfz : ∀ j, w.frozen? ⟨b, o + j, none⟩ = false)
    (hu : Held w M u) (hln : u.ln ≤ 1000000000) (hT : w.cell? ⟨TK, 0, none⟩ = some (.func (.func 98) #[] #[.pointer (some ⟨R, 0, none⟩)])) (hr : RoomAt w R g n cap) (hcap : cap ≤ 1000000000) (hroom : n + u.items.length + u.tail.length ≤ cap)
    (d1 : R ≠ g) (d2 : b ≠ R) (d3 : TK ≠ R) (d4 : TK ≠ g) (d5 : TK ≠ b) (hbg : b = g → o + 7 ≤ n * 7) (m1 : M ≤ R) (m2 : M ≤ g) (m3 : M ≤ b), Calls Try.prog 99 #[.pointer (some ⟨b, o, none⟩), .pointer (some ⟨TK, 0, none⟩)] w fun e w' => e = .returned (.tuple #[]) ∧ PartEff w w' b o R g n cap u
end Go.Proofs.Ytgboiopkihemaaa
