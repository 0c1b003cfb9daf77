/-
  datum.twin: take and part, by what they leave.
-/
import Derived.Test.YtgboiopkihemaaaTwb
import Derived.Deep.RegionLaw
namespace Go.Proofs.Ytgboiopkihemaaa
open Go.RowKit

/-- The variable in block R is the room in block g, n of cap places used. -/
def RoomAt (w : World) (R g n cap : Nat) : Prop := w.cell? ⟨R, 0, none⟩ = some (.slice (some ⟨g, 0, none⟩) n cap) ∧ w.frozen? ⟨R, 0, none⟩ = false ∧ ∃ cur, w.heap[g]? = some (.cells cur 27 (0, 0)) ∧ cur.size = cap * 7
theorem RoomAt.below {w w' : World} {R g n cap : Nat} (h : RoomAt w R g n cap) (hb : Below w.heap.size w w') : RoomAt w' R g n cap := by
  obtain ⟨h1, h2, cur, h3, h4⟩ := h
  have hR := World.block_lt_of_cell? w _ h1
  have hg := (Array.getElem?_eq_some_iff.1 h3).1
  exact ⟨(hb.cell hR).trans h1, (hb.frozen hR).trans h2, cur, (hb.block g hg).trans h3, h4⟩
theorem RoomAt.set {w : World} {R g n cap : Nat} (h : RoomAt w R g n cap) {b : Nat} (o : Nat) (hp : b ≠ R) (v : Value) : RoomAt (w.setCell ⟨b, o, none⟩ v) R g n cap := by
  obtain ⟨h1, h2, cur, h3, h4⟩ := h
  refine ⟨(World.cell?_of_block (w := w) (a := ⟨R, 0, none⟩) (Below.heap_setCell _ _ _ _ (by show R ≠ b; exact Ne.symm hp))).trans h1, (World.frozen?_of_block (w := w) (a := ⟨R, 0, none⟩) (Below.heap_setCell _ _ _ _ (by show R ≠ b; exact Ne.symm hp))).trans h2, ?_⟩
  by_cases hg : g = b
  · refine ⟨cur.setIfInBounds o v, ?_, by simpa using h4⟩
    subst hg
    simp [World.setCell, Array.getElem?_modify, h3]
  · exact ⟨cur, (Below.heap_setCell _ _ _ _ (by show g ≠ b; exact hg)).trans h3, h4⟩
/-- What take leaves. -/
structure Eff (w w' : World) (R g n m cap : Nat) (news : List Value) : Prop where
  size : w'.heap.size = w.heap.size
  other : ∀ k, k ≠ R → k ≠ g → w'.heap[k]? = w.heap[k]?
  room : RoomAt w' R g (n + m) cap
  low : ∀ off, off < n * 7 → w'.cell? ⟨g, off, none⟩ = w.cell? ⟨g, off, none⟩
  new : ∀ j v, news[j]? = some v → w'.cell? ⟨g, n * 7 + j, none⟩ = some v
  below : ∀ B, B ≤ R → B ≤ g → Below B w w'
  frozen : ∀ off, w'.frozen? ⟨g, off, none⟩ = false
theorem fillAt_size (cur : Array Value) (n m cap : Nat) (news : List Value) (hc : cur.size = cap * 7) (hl : news.length = m * 7) (hr : n + m ≤ cap) : (fillAt cur n news).size = cap * 7 := by
  unfold fillAt
  rw [List.size_toArray, List.length_append, List.length_append, List.length_take, List.length_drop, Array.length_toList, hc, hl]
  omega
theorem setRow_here {w : World} {g : Nat} {cur X : Array Value} {t : TypeId} {fr : Nat × Nat} (h : w.heap[g]? = some (.cells cur t fr)) : (w.setRow g X).heap[g]? = some (.cells X t fr) := by
  simp [World.setRow, Array.getElem?_modify, h]
theorem setRow_size (w : World) (g : Nat) (X : Array Value) : (w.setRow g X).heap.size = w.heap.size := by simp [World.setRow]
theorem setCell_size (w : World) (p : Addr) (v : Value) : (w.setCell p v).heap.size = w.heap.size := by simp [World.setCell]

theorem take_eff (R g n cap m c : Nat) (a : Option Addr) (news : List Value) (w : World) (hr : RoomAt w R g n cap) (hRg : R ≠ g) (hroom : n + m ≤ cap) (hcap : cap ≤ 1000000000) (hl : news.length = m * 7) (hnews : 0 < m → ∃ ad, a = some ad ∧ ∀ j u, news[j]? = some u → w.cell? (ad.add j) = some u) (h1 : ∀ u ∈ news, u.oneCell' = true) :
    Calls Try.prog 98 #[.slice a m c, .pointer (some ⟨R, 0, none⟩)] w fun e w' => ∃ a1 c1, e = .returned (.slice a1 m c1) ∧ childV g n m = .slice a1 m c1 ∧ Eff w w' R g n m cap news := by
  obtain ⟨r1, r2, cur, r3, r4⟩ := hr
  rcases Nat.eq_zero_or_pos m with h0 | h0
  · subst h0
    refine (take_none R c a w).mono ?_
    rintro e w' ⟨rfl, rfl⟩
    have hn : news = [] := List.length_eq_zero_iff.1 (by omega)
    exact ⟨none, 0, rfl, by unfold childV; rw [if_pos rfl], ⟨rfl, fun _ _ _ => rfl, ⟨r1, r2, cur, r3, r4⟩, fun _ _ => rfl, fun j v hj => by rw [hn] at hj; simp at hj, fun _ _ _ => Below.refl _ _, fun off => Lib.frozen_of_heap r3 off⟩⟩
  · obtain ⟨ad, rfl, hn⟩ := hnews h0
    refine (take_some R g n cap m c ad cur news w h0 r1 r2 hRg r3 r4 hroom hcap hl hn h1).mono ?_
    rintro e w' ⟨rfl, rfl⟩
    have hg1 : ((w.setRow g (fillAt cur n news)).setCell ⟨R, 0, none⟩ (.slice (some ⟨g, 0, none⟩) (n + m) cap)).heap[g]? = some (.cells (fillAt cur n news) 27 (0, 0)) := (Below.heap_setCell _ _ _ _ (by show g ≠ R; exact Ne.symm hRg)).trans (setRow_here r3)
    have hsz : (fillAt cur n news).size = cap * 7 := fillAt_size cur n m cap news r4 hl hroom
    have hother : ∀ k, k ≠ R → k ≠ g → ((w.setRow g (fillAt cur n news)).setCell ⟨R, 0, none⟩ (.slice (some ⟨g, 0, none⟩) (n + m) cap)).heap[k]? = w.heap[k]? := fun k hk hk2 => (Below.heap_setCell _ _ _ _ (by show k ≠ R; exact hk)).trans (setRow_other w g k _ hk2)
    obtain ⟨curR, tR, fR, hRb⟩ : ∃ cs t fr, w.heap[R]? = some (.cells cs t fr) := by
      simp only [World.cell?] at r1
      revert r1
      cases hh : w.heap[R]? with
      | none => simp
      | some o => cases o <;> simp
    have hR1 : (w.setRow g (fillAt cur n news)).heap[R]? = some (.cells curR tR fR) := (setRow_other w g R _ hRg).trans hRb
    refine ⟨_, m, rfl, by unfold childV; rw [if_neg (by omega)], ⟨by rw [setCell_size, setRow_size], hother, ⟨?_, ?_, _, hg1, hsz⟩, fun off ho => ?_, fun j v hj => ?_, fun B hB hB2 => ?_, fun off => Lib.frozen_of_heap hg1 off⟩⟩
    · have hlt : 0 < curR.size := by
        simp only [World.cell?, hRb] at r1
        rcases Nat.eq_zero_or_pos curR.size with h | h
        · have : curR[0]? = none := by simp [h]
          simp [this] at r1
        · exact h
      simp [World.setCell, World.cell?, Array.getElem?_modify, hR1, hlt]
    · have h := r2
      simp only [World.frozen?, hRb] at h
      simp [World.setCell, World.frozen?, Array.getElem?_modify, hR1]
      simpa using h
    · rw [Lib.cell_of_heap hg1, Lib.cell_of_heap r3]
      unfold fillAt
      simp only [List.getElem?_toArray]
      rw [List.append_assoc, List.getElem?_append_left (by rw [List.length_take, Array.length_toList, r4]; omega), List.getElem?_take, if_pos ho]
      simp
    · rw [Lib.cell_of_heap hg1]
      have hjl := (List.getElem?_eq_some_iff.1 hj).1
      have htl : (List.take (n * 7) cur.toList).length = n * 7 := by rw [List.length_take, Array.length_toList, r4]; omega
      unfold fillAt
      simp only [List.getElem?_toArray]
      rw [List.append_assoc, List.getElem?_append_right (by rw [htl]; omega), htl, show n * 7 + j - n * 7 = j by omega, List.getElem?_append_left hjl]
      exact hj
    · have hb1 : Below B w (w.setRow g (fillAt cur n news)) := ⟨rfl, rfl, rfl, by rw [setRow_size]; exact Nat.le_refl _, fun k hk => setRow_other w g k _ (by omega)⟩
      exact hb1.setCell (p := ⟨R, 0, none⟩) hB _
end Go.Proofs.Ytgboiopkihemaaa
