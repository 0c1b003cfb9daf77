/-
  datum.twin: what its room holds, and that it holds the same in the end. datum.twin: take and part, by what they leave. datum.twin: part. datum.twin: what its loop knows. What an expression says, wherever it lies; expressions that lie in blocks of a sort. slices.Clone of numbers.
-/
import Derived.Test.YthdhdmmlmbkalaaGreatDoorJc5
import Derived.Deep.RegionLaw
import Derived.Test.YthdhdmmlmbkalaaGreatDoorJc2
set_option linter.unusedVariables false
set_option linter.unusedSimpArgs false
set_option linter.unusedSectionVars false
set_option linter.unnecessarySimpa false
namespace Go.Proofs.YthdhdmmlmbkalaaGreatDoor
section
open Go.RowKit

/-- A list of data that lie in the room g from place p on. -/
def childV (g p m : Nat) : Value := if m = 0 then .slice none 0 0 else .slice (some ⟨g, p * 7, none⟩) m m
def DT.items : DT → List DT | .mk _ _ _ _ _ items _ => items
def DT.tail : DT → List DT | .mk _ _ _ _ _ _ tail => tail
def DT.g : DT → Bool | .mk _ g _ _ _ _ _ => g
def DT.ys : DT → List Nat | .mk _ _ ys _ _ _ _ => ys
def DT.bb : DT → Bool | .mk _ _ _ bb _ _ _ => bb
def DT.s : DT → ByteArray | .mk _ _ _ _ s _ _ => s
/-- Place p of the room holds these shapes. -/
def AtS (S : List DT) (lo p : Nat) (l : List DT) : Prop := l ≠ [] → lo ≤ p ∧ ∀ i (h : i < l.length), S[p + i]? = some l[i]
/-- The datum at b, o is a copy: its limbs are its own, its lists lie in the room g. -/
def Parted (w : World) (P : Nat → Prop) (g : Nat) (S : List DT) (lo : Nat) (d : DT) (b o : Nat) : Prop :=
  ∃ la lc p q, (∀ j v, ([.int .i64 d.k, .bool d.g, .slice la d.ys.length lc, .bool d.bb, .string d.s, childV g p d.items.length, childV g q d.tail.length] : List Value)[j]? = some v → w.cell? ⟨b, o + j, none⟩ = some v) ∧
    (Sl w la d.ys.length lc d.ys ∧ (0 < d.ys.length → P (blk la)) ∧ d.s.size ≤ maxLen) ∧ AtS S lo p d.items ∧ AtS S lo q d.tail ∧ d.items.length ≤ maxLen ∧ d.tail.length ≤ maxLen
theorem dt_eta (d : DT) : DT.mk d.k d.g d.ys d.bb d.s d.items d.tail = d := by cases d; rfl
theorem child_spot {P : Nat → Prop} {g : Nat} (hg : P g) (p m : Nat) (hm : m ≤ maxLen) : ∃ a c, childV g p m = .slice a m c ∧ SpotP P a m c ∧ (0 < m → a = some ⟨g, p * 7, none⟩) := by
  unfold childV
  by_cases h : m = 0
  · rw [if_pos h, h]
    exact ⟨none, 0, rfl, spotP_nil P, fun h => absurd h (by decide)⟩
  · rw [if_neg h]
    exact ⟨_, m, rfl, ⟨Nat.le_refl _, hm, fun _ => ⟨rfl, hg⟩, fun e => by cases e⟩, fun _ => rfl⟩
/-- A row of trees out of those at each place. -/
theorem row_of {w : World} {P : Nat → Prop} {g : Nat} {S : List DT} : ∀ (l : List DT) (p : Nat), (∀ i (h : i < l.length), ∃ u : LT, shape u = l[i] ∧ LiesP w P u g ((p + i) * 7)) → ∃ us : List LT, shapes us = l ∧ LiesPR w P us g (p * 7)
  | [], p, _ => ⟨[], shapes_nil, by rw [liesPR_nil]; trivial⟩
  | d :: l, p, h => by
    obtain ⟨u, hu, hl⟩ := h 0 (by simp)
    obtain ⟨us, hus, hr⟩ := row_of (S := S) l (p + 1) fun i hi => by
      obtain ⟨v, hv, hvl⟩ := h (i + 1) (by simpa using hi)
      exact ⟨v, by simpa using hv, by rwa [show p + (i + 1) = p + 1 + i by omega] at hvl⟩
    refine ⟨u :: us, by rw [shapes_cons, hus, hu]; rfl, ?_⟩
    rw [liesPR_cons]
    exact ⟨by simpa using hl, by rwa [show p * 7 + 7 = (p + 1) * 7 by omega]⟩
/-- A copy is a tree, if those in its lists are. -/
theorem parted_tree {w : World} {P : Nat → Prop} {g : Nat} (hg : P g) {S : List DT} {lo : Nat} {d : DT} {b o : Nat} (h : Parted w P g S lo d b o) (hS : ∀ i (x : DT), lo ≤ i → S[i]? = some x → ∃ u : LT, shape u = x ∧ LiesP w P u g (i * 7)) :
    ∃ u : LT, shape u = d ∧ (∀ j v, u.cells[j]? = some v → w.cell? ⟨b, o + j, none⟩ = some v) ∧ HeldP w P u := by
  obtain ⟨la, lc, p, q, hc, hl, hp, hq, m1, m2⟩ := h
  have row : ∀ (l : List DT) (r : Nat), AtS S lo r l → ∃ us : List LT, shapes us = l ∧ LiesPR w P us g (r * 7) := fun l r hr => by
    refine row_of (S := S) l r fun i hi => ?_
    have h1 := hr (fun e => by rw [e] at hi; cases hi)
    obtain ⟨u, hu, hul⟩ := hS (r + i) l[i] (by omega) (h1.2 i hi)
    exact ⟨u, hu, hul⟩
  obtain ⟨us, hus, hur⟩ := row d.items p hp
  obtain ⟨vs, hvs, hvr⟩ := row d.tail q hq
  obtain ⟨a1, c1, e1, s1, f1⟩ := child_spot hg p d.items.length m1
  obtain ⟨a2, c2, e2, s2, f2⟩ := child_spot hg q d.tail.length m2
  have n1 : us.length = d.items.length := by rw [← shapes_length, hus]
  have n2 : vs.length = d.tail.length := by rw [← shapes_length, hvs]
  rw [e1, e2] at hc
  refine ⟨.mk d.k d.g la d.ys.length lc d.ys d.bb d.s a1 c1 us a2 c2 vs, ?_, ?_, hl, ?_, ?_, ?_, ?_⟩
  · simp only [shape, hus, hvs]; exact dt_eta d
  · intro j v hj
    refine hc j v ?_
    have hcs : LT.cells (.mk d.k d.g la d.ys.length lc d.ys d.bb d.s a1 c1 us a2 c2 vs) = [.int .i64 d.k, .bool d.g, .slice la d.ys.length lc, .bool d.bb, .string d.s, .slice a1 us.length c1, .slice a2 vs.length c2] := rfl
    rw [hcs, n1, n2] at hj
    exact hj
  · show SpotP P a1 us.length c1
    rw [n1]; exact s1
  · show SpotP P a2 vs.length c2
    rw [n2]; exact s2
  · show LiesPR w P us (blk a1) (ofs a1)
    rcases Nat.eq_zero_or_pos us.length with h0 | h0
    · rw [List.length_eq_zero_iff.1 h0, liesPR_nil]; trivial
    · rw [f1 (by omega)]; exact hur
  · show LiesPR w P vs (blk a2) (ofs a2)
    rcases Nat.eq_zero_or_pos vs.length with h0 | h0
    · rw [List.length_eq_zero_iff.1 h0, liesPR_nil]; trivial
    · rw [f2 (by omega)]; exact hvr
/-- All the room is trees, when all of it was copied. -/
theorem room_trees {w : World} {P : Nat → Prop} {g : Nat} (hg : P g) (S : List DT) (h : ∀ j (hj : j < S.length), Parted w P g S (j + 1) S[j] g (j * 7)) : ∀ (n j : Nat) (x : DT), S.length - j ≤ n → S[j]? = some x → ∃ u : LT, shape u = x ∧ LiesP w P u g (j * 7)
  | 0, j, x, hn, hx => by
    have := (List.getElem?_eq_some_iff.1 hx).1
    omega
  | n + 1, j, x, hn, hx => by
    obtain ⟨hj, rfl⟩ := List.getElem?_eq_some_iff.1 hx
    obtain ⟨u, hu, hc, hh⟩ := parted_tree hg (h j hj) fun i x hi hx => room_trees hg S h n i x (by have := (List.getElem?_eq_some_iff.1 hx).1; omega) hx
    exact ⟨u, hu, liesP_held.2 ⟨hg, hc, hh⟩⟩
end
end Go.Proofs.YthdhdmmlmbkalaaGreatDoor
namespace Go.Proofs.YthdhdmmlmbkalaaGreatDoor
section
open Go.RowKit

/-- The variable in block R is the room in block g, n of cap places used. -/
def RoomAt (w : World) (R g n cap : Nat) : Prop := w.cell? ⟨R, 0, none⟩ = some (.slice (some ⟨g, 0, none⟩) n cap) ∧ w.frozen? ⟨R, 0, none⟩ = false ∧ ∃ cur, w.heap[g]? = some (.cells cur 27 (0, 0)) ∧ cur.size = cap * 7
theorem RoomAt.below {w w' : World} {R g n cap : Nat} (h : RoomAt w R g n cap) (hb : Below w.heap.size w w') : RoomAt w' R g n cap := by
  obtain ⟨h1, h2, cur, h3, h4⟩ := h
  have hR := World.block_lt_of_cell? w _ h1
  have hg := (Array.getElem?_eq_some_iff.1 h3).1
  exact ⟨(hb.cell hR).trans h1, (hb.frozen hR).trans h2, cur, (hb.block g hg).trans h3, h4⟩
theorem RoomAt.set {w : World} {R g n cap : Nat} (h : RoomAt w R g n cap) {b : Nat} (o : Nat) (hp : b ≠ R) (v : Value) : RoomAt (w.setCell ⟨b, o, none⟩ v) R g n cap := by
  obtain ⟨h1, h2, cur, h3, h4⟩ := h
  refine ⟨(World.cell?_of_block (w := w) (a := ⟨R, 0, none⟩) (Below.heap_setCell _ _ _ _ (by show R ≠ b; exact Ne.symm hp))).trans h1, (World.frozen?_of_block (w := w) (a := ⟨R, 0, none⟩) (Below.heap_setCell _ _ _ _ (by show R ≠ b; exact Ne.symm hp))).trans h2, ?_⟩
  by_cases hg : g = b
  · refine ⟨cur.setIfInBounds o v, ?_, by simpa using h4⟩
    subst hg
    simp [World.setCell, Array.getElem?_modify, h3]
  · exact ⟨cur, (Below.heap_setCell _ _ _ _ (by show g ≠ b; exact hg)).trans h3, h4⟩
/-- What take leaves. -/
structure Eff (w w' : World) (R g n m cap : Nat) (news : List Value) : Prop where
  size : w'.heap.size = w.heap.size
  other : ∀ k, k ≠ R → k ≠ g → w'.heap[k]? = w.heap[k]?
  room : RoomAt w' R g (n + m) cap
  low : ∀ off, off < n * 7 → w'.cell? ⟨g, off, none⟩ = w.cell? ⟨g, off, none⟩
  new : ∀ j v, news[j]? = some v → w'.cell? ⟨g, n * 7 + j, none⟩ = some v
  below : ∀ B, B ≤ R → B ≤ g → Below B w w'
  frozen : ∀ off, w'.frozen? ⟨g, off, none⟩ = false
theorem fillAt_size (cur : Array Value) (n m cap : Nat) (news : List Value) (hc : cur.size = cap * 7) (hl : news.length = m * 7) (hr : n + m ≤ cap) : (fillAt cur n news).size = cap * 7 := by
  unfold fillAt
  rw [List.size_toArray, List.length_append, List.length_append, List.length_take, List.length_drop, Array.length_toList, hc, hl]
  omega
theorem setRow_here {w : World} {g : Nat} {cur X : Array Value} {t : TypeId} {fr : Nat × Nat} (h : w.heap[g]? = some (.cells cur t fr)) : (w.setRow g X).heap[g]? = some (.cells X t fr) := by
  simp [World.setRow, Array.getElem?_modify, h]
theorem setRow_size (w : World) (g : Nat) (X : Array Value) : (w.setRow g X).heap.size = w.heap.size := by simp [World.setRow]
theorem setCell_size (w : World) (p : Addr) (v : Value) : (w.setCell p v).heap.size = w.heap.size := by simp [World.setCell]

theorem take_eff (R g n cap m c : Nat) (a : Option Addr) (news : List Value) (w : World) (hr : RoomAt w R g n cap) (hRg : R ≠ g) (hroom : n + m ≤ cap) (hcap : cap ≤ 1000000000) (hl : news.length = m * 7) (hnews : 0 < m → ∃ ad, a = some ad ∧ ∀ j u, news[j]? = some u → w.cell? (ad.add j) = some u) (h1 : ∀ u ∈ news, u.oneCell' = true) :
    Calls Tryz.prog 141 #[.slice a m c, .pointer (some ⟨R, 0, none⟩)] w fun e w' => ∃ a1 c1, e = .returned (.slice a1 m c1) ∧ childV g n m = .slice a1 m c1 ∧ Eff w w' R g n m cap news := by
  obtain ⟨r1, r2, cur, r3, r4⟩ := hr
  rcases Nat.eq_zero_or_pos m with h0 | h0
  · subst h0
    refine (take_none R c a w).mono ?_
    rintro e w' ⟨rfl, rfl⟩
    have hn : news = [] := List.length_eq_zero_iff.1 (by omega)
    exact ⟨none, 0, rfl, by unfold childV; rw [if_pos rfl], ⟨rfl, fun _ _ _ => rfl, ⟨r1, r2, cur, r3, r4⟩, fun _ _ => rfl, fun j v hj => by rw [hn] at hj; simp at hj, fun _ _ _ => Below.refl _ _, fun off => Lib.frozen_of_heap r3 off⟩⟩
  · obtain ⟨ad, rfl, hn⟩ := hnews h0
    refine (take_some R g n cap m c ad cur news w h0 r1 r2 hRg r3 r4 hroom hcap hl hn h1).mono ?_
    rintro e w' ⟨rfl, rfl⟩
    have hg1 : ((w.setRow g (fillAt cur n news)).setCell ⟨R, 0, none⟩ (.slice (some ⟨g, 0, none⟩) (n + m) cap)).heap[g]? = some (.cells (fillAt cur n news) 27 (0, 0)) := (Below.heap_setCell _ _ _ _ (by show g ≠ R; exact Ne.symm hRg)).trans (setRow_here r3)
    have hsz : (fillAt cur n news).size = cap * 7 := fillAt_size cur n m cap news r4 hl hroom
    have hother : ∀ k, k ≠ R → k ≠ g → ((w.setRow g (fillAt cur n news)).setCell ⟨R, 0, none⟩ (.slice (some ⟨g, 0, none⟩) (n + m) cap)).heap[k]? = w.heap[k]? := fun k hk hk2 => (Below.heap_setCell _ _ _ _ (by show k ≠ R; exact hk)).trans (setRow_other w g k _ hk2)
    obtain ⟨curR, tR, fR, hRb⟩ : ∃ cs t fr, w.heap[R]? = some (.cells cs t fr) := by
      simp only [World.cell?] at r1
      revert r1
      cases hh : w.heap[R]? with
      | none => simp
      | some o => cases o <;> simp
    have hR1 : (w.setRow g (fillAt cur n news)).heap[R]? = some (.cells curR tR fR) := (setRow_other w g R _ hRg).trans hRb
    refine ⟨_, m, rfl, by unfold childV; rw [if_neg (by omega)], ⟨by rw [setCell_size, setRow_size], hother, ⟨?_, ?_, _, hg1, hsz⟩, fun off ho => ?_, fun j v hj => ?_, fun B hB hB2 => ?_, fun off => Lib.frozen_of_heap hg1 off⟩⟩
    · have hlt : 0 < curR.size := by
        simp only [World.cell?, hRb] at r1
        rcases Nat.eq_zero_or_pos curR.size with h | h
        · have : curR[0]? = none := by simp [h]
          simp [this] at r1
        · exact h
      simp [World.setCell, World.cell?, Array.getElem?_modify, hR1, hlt]
    · have h := r2
      simp only [World.frozen?, hRb] at h
      simp [World.setCell, World.frozen?, Array.getElem?_modify, hR1]
      simpa using h
    · rw [Lib.cell_of_heap hg1, Lib.cell_of_heap r3]
      unfold fillAt
      simp only [List.getElem?_toArray]
      rw [List.append_assoc, List.getElem?_append_left (by rw [List.length_take, Array.length_toList, r4]; omega), List.getElem?_take, if_pos ho]
      simp
    · rw [Lib.cell_of_heap hg1]
      have hjl := (List.getElem?_eq_some_iff.1 hj).1
      have htl : (List.take (n * 7) cur.toList).length = n * 7 := by rw [List.length_take, Array.length_toList, r4]; omega
      unfold fillAt
      simp only [List.getElem?_toArray]
      rw [List.append_assoc, List.getElem?_append_right (by rw [htl]; omega), htl, show n * 7 + j - n * 7 = j by omega, List.getElem?_append_left hjl]
      exact hj
    · have hb1 : Below B w (w.setRow g (fillAt cur n news)) := ⟨rfl, rfl, rfl, by rw [setRow_size]; exact Nat.le_refl _, fun k hk => setRow_other w g k _ (by omega)⟩
      exact hb1.setCell (p := ⟨R, 0, none⟩) hB _
end
end Go.Proofs.YthdhdmmlmbkalaaGreatDoor
namespace Go.Proofs.YthdhdmmlmbkalaaGreatDoor
section
open Go.RowKit

theorem Held.below {w w' : World} {M : Nat} {t : LT} (h : Held w M t) (hM : M ≤ w.heap.size) (hb : Below w.heap.size w w') : Held w' M t := h.keep hb.size fun q hq => hb.block q (by omega)
theorem cells_of_liesR {w : World} {M : Nat} : ∀ (l : List LT) (b o : Nat), LiesR w M l b o → ∀ j v, (cellsAll l)[j]? = some v → w.cell? ⟨b, o + j, none⟩ = some v
  | [], _, _, _, j, v, hj => by simp [cellsAll] at hj
  | t :: l, b, o, h, j, v, hj => by
    rw [liesR_cons] at h
    rw [cellsAll] at hj
    by_cases hlt : j < t.cells.length
    · rw [List.getElem?_append_left hlt] at hj
      exact (lies_held.1 h.1).2.1 j v hj
    · rw [List.getElem?_append_right (by omega), show t.cells.length = 7 from rfl] at hj
      have := cells_of_liesR l b (o + 7) h.2 (j - 7) v hj
      rwa [show o + 7 + (j - 7) = o + j by rw [show t.cells.length = 7 from rfl] at hlt; omega] at this
theorem Eff.cell {w w' : World} {R g n m cap : Nat} {news : List Value} (h : Eff w w' R g n m cap news) (b off : Nat) (hR : b ≠ R) (hg : b = g → off < n * 7) : w'.cell? ⟨b, off, none⟩ = w.cell? ⟨b, off, none⟩ := by
  by_cases hb : b = g
  · subst hb; exact h.low off (hg rfl)
  · exact World.cell?_of_block (w := w) (a := ⟨b, off, none⟩) (h.other b hR hb)
theorem Eff.frz {w w' : World} {R g n m cap : Nat} {news : List Value} (h : Eff w w' R g n m cap news) (b off : Nat) (hR : b ≠ R) (hf : w.frozen? ⟨b, off, none⟩ = false) : w'.frozen? ⟨b, off, none⟩ = false := by
  by_cases hb : b = g
  · subst hb; exact h.frozen off
  · exact (World.frozen?_of_block (w := w) (a := ⟨b, off, none⟩) (h.other b hR hb)).trans hf
theorem set_other {w : World} {b o c : Nat} {v : Value} {off : Nat} (h : ¬ (b = c ∧ o = off)) : (w.setCell ⟨c, off, none⟩ v).cell? ⟨b, o, none⟩ = w.cell? ⟨b, o, none⟩ := by
  by_cases hb : b = c
  · subst hb
    have ho : off ≠ o := fun e => h ⟨rfl, e.symm⟩
    simp only [World.setCell, World.cell?, Array.getElem?_modify, if_true]
    cases hh : w.heap[b]? with
    | none => simp
    | some x => cases x <;> simp [Array.getElem?_setIfInBounds, ho]
  · exact World.cell?_of_block (w := w) (a := ⟨b, o, none⟩) (Below.heap_setCell _ _ _ _ (by show b ≠ c; exact hb))
theorem set_frz {w : World} {b o c : Nat} {v : Value} {off : Nat} : (w.setCell ⟨c, off, none⟩ v).frozen? ⟨b, o, none⟩ = w.frozen? ⟨b, o, none⟩ := by
  by_cases hb : b = c
  · subst hb
    simp only [World.setCell, World.frozen?, Array.getElem?_modify, if_true]
    cases hh : w.heap[b]? with
    | none => simp
    | some x => cases x <;> simp
  · exact World.frozen?_of_block (w := w) (a := ⟨b, o, none⟩) (Below.heap_setCell _ _ _ _ (by show b ≠ c; exact hb))
theorem set_here {w : World} {b o : Nat} {v x : Value} (h : w.cell? ⟨b, o, none⟩ = some x) : (w.setCell ⟨b, o, none⟩ v).cell? ⟨b, o, none⟩ = some v := by
  simp only [World.cell?] at h
  revert h
  cases hh : w.heap[b]? with
  | none => simp
  | some y =>
    cases y with
    | cells cs t fr =>
      intro h
      have hlt : o < cs.size := (Array.getElem?_eq_some_iff.1 (by simpa using h)).1
      simp [World.setCell, World.cell?, Array.getElem?_modify, hh, hlt]
    | _ => simp

/-- What part leaves. -/
structure PartEff (w w' : World) (b o R g n cap : Nat) (u : LT) : Prop where
  here : ∃ la lc, (∀ j v, ([.int .i64 u.k, .bool u.g, .slice la u.ln lc, .bool u.bb, .string u.s, childV g n u.items.length, childV g (n + u.items.length) u.tail.length] : List Value)[j]? = some v → w'.cell? ⟨b, o + j, none⟩ = some v) ∧ Sl w' la u.ln lc u.ys ∧ (0 < u.ln → Fresh w' w.heap.size (blk la))
  room : RoomAt w' R g (n + u.items.length + u.tail.length) cap
  new1 : ∀ j v, (cellsAll u.items)[j]? = some v → w'.cell? ⟨g, n * 7 + j, none⟩ = some v
  new2 : ∀ j v, (cellsAll u.tail)[j]? = some v → w'.cell? ⟨g, (n + u.items.length) * 7 + j, none⟩ = some v
  low : ∀ off, off < n * 7 → (b = g → off < o ∨ o + 7 ≤ off) → w'.cell? ⟨g, off, none⟩ = w.cell? ⟨g, off, none⟩
  other : ∀ k, k < w.heap.size → k ≠ R → k ≠ g → k ≠ b → w'.heap[k]? = w.heap[k]?
  size : w.heap.size ≤ w'.heap.size
  below : ∀ B, B ≤ w.heap.size → B ≤ R → B ≤ g → B ≤ b → Below B w w'

theorem part_end {b o R g n cap M : Nat} {u : LT} {w w1 W2 w3 w4 : World} {la a1 a2 : Option Addr} {lc c1 c2 : Nat} (hc : ∀ j v, u.cells[j]? = some v → w.cell? ⟨b, o + j, none⟩ = some v) (b1 : Below w.heap.size w w1) (hsl : Sl w1 la u.ln lc u.ys) (hfr : 0 < u.ln → Fresh w1 w.heap.size (blk la))
    (hW2 : w1.setCell ⟨b, o + 2, none⟩ (.slice la u.ln lc) = W2) (ef1 : Eff W2.drew w3 R g n u.items.length cap (cellsAll u.items)) (ef2 : Eff w3 w4 R g (n + u.items.length) u.tail.length cap (cellsAll u.tail)) (hch1 : childV g n u.items.length = .slice a1 u.items.length c1) (hch2 : childV g (n + u.items.length) u.tail.length = .slice a2 u.tail.length c2)
    (hblt : b < w.heap.size) (hRlt : R < w.heap.size) (hglt : g < w.heap.size) (d1 : R ≠ g) (d2 : b ≠ R) (hbg : b = g → o + 7 ≤ n * 7) (_m1 : M ≤ R) :
    PartEff w ((w4.setCell ⟨b, o + 5, none⟩ (.slice a1 u.items.length c1)).setCell ⟨b, o + 6, none⟩ (.slice a2 u.tail.length c2)) b o R g n cap u := by
  have hz1 := b1.size
  have hzW : W2.heap.size = w1.heap.size := by rw [← hW2, setCell_size]
  have hz3 : w3.heap.size = W2.heap.size := ef1.size
  have hz4 := ef2.size
  have l1 := cellsAll_length u.items
  have l2 := cellsAll_length u.tail
  have hkeep : ∀ j, j < 7 → j ≠ 2 → w4.cell? ⟨b, o + j, none⟩ = w.cell? ⟨b, o + j, none⟩ := fun j hj h2 => by
    rw [ef2.cell b (o + j) d2 (fun e => by have := hbg e; omega), ef1.cell b (o + j) d2 (fun e => by have := hbg e; omega)]
    show W2.cell? _ = _
    rw [← hW2, set_other (by omega)]
    exact b1.cell (p := ⟨b, o + j, none⟩) hblt
  have h2 : w4.cell? ⟨b, o + 2, none⟩ = some (.slice la u.ln lc) := by
    rw [ef2.cell b (o + 2) d2 (fun e => by have := hbg e; omega), ef1.cell b (o + 2) d2 (fun e => by have := hbg e; omega)]
    show W2.cell? _ = _
    rw [← hW2]
    exact set_here ((b1.cell (p := ⟨b, o + 2, none⟩) hblt).trans (hc 2 _ rfl))
  have hoth : ∀ k, k ≠ R → k ≠ g → k ≠ b → w4.heap[k]? = w1.heap[k]? := fun k k1 k2 k3 => by
    rw [ef2.other k k1 k2, ef1.other k k1 k2]
    show W2.heap[k]? = _
    rw [← hW2]
    exact Below.heap_setCell _ _ _ _ (by show k ≠ b; exact k3)
  have hoth' : ∀ k, k ≠ R → k ≠ g → k ≠ b → ((w4.setCell ⟨b, o + 5, none⟩ (.slice a1 u.items.length c1)).setCell ⟨b, o + 6, none⟩ (.slice a2 u.tail.length c2)).heap[k]? = w1.heap[k]? := fun k k1 k2 k3 =>
    (Below.heap_setCell _ _ _ _ (by show k ≠ b; exact k3)).trans ((Below.heap_setCell _ _ _ _ (by show k ≠ b; exact k3)).trans (hoth k k1 k2 k3))
  have hzz : ((w4.setCell ⟨b, o + 5, none⟩ (.slice a1 u.items.length c1)).setCell ⟨b, o + 6, none⟩ (.slice a2 u.tail.length c2)).heap.size = w1.heap.size := by rw [setCell_size, setCell_size, hz4, hz3, hzW]
  refine ⟨⟨la, lc, ?_, ?_, ?_⟩, ?_, ?_, ?_, ?_, ?_, ?_, ?_⟩
  · intro j v hj
    rw [hch1, hch2] at hj
    have hj7 : j < 7 := by
      have := (List.getElem?_eq_some_iff.1 hj).1
      simpa using this
    by_cases h6 : j = 6
    · subst h6
      have hv : Value.slice a2 u.tail.length c2 = v := Option.some.inj hj
      rw [← hv]
      refine set_here (x := .slice u.ta u.tail.length u.tc) ?_
      rw [set_other (by omega), hkeep 6 (by decide) (by decide)]
      exact hc 6 _ rfl
    · rw [set_other (by omega)]
      by_cases h5 : j = 5
      · subst h5
        have hv : Value.slice a1 u.items.length c1 = v := Option.some.inj hj
        rw [← hv]
        refine set_here (x := .slice u.ia u.items.length u.ic) ?_
        rw [hkeep 5 (by decide) (by decide)]
        exact hc 5 _ rfl
      · rw [set_other (by omega)]
        by_cases h2' : j = 2
        · subst h2'
          rw [h2]
          exact hj
        · rw [hkeep j hj7 h2']
          refine hc j v ?_
          rcases (show j = 0 ∨ j = 1 ∨ j = 3 ∨ j = 4 by omega) with rfl | rfl | rfl | rfl <;> exact hj
  · exact hsl.keepP (by omega) fun hp => by
      have hf := (hfr hp).1
      exact hoth' _ (by omega) (by omega) (by omega)
  · intro hp
    have hf := hfr hp
    exact hf.same (hoth' _ (by have := hf.1; omega) (by have := hf.1; omega) (by have := hf.1; omega))
  · exact (ef2.room.set (o + 5) d2 _).set (o + 6) d2 _
  · intro j v hj
    have hjl := (List.getElem?_eq_some_iff.1 hj).1
    rw [set_other (fun e => by have := hbg e.1.symm; omega), set_other (fun e => by have := hbg e.1.symm; omega), ef2.low _ (by omega)]
    exact ef1.new j v hj
  · intro j v hj
    rw [set_other (fun e => by have := hbg e.1.symm; omega), set_other (fun e => by have := hbg e.1.symm; omega)]
    exact ef2.new j v hj
  · intro off ho hb
    rw [set_other (fun e => by have := hb e.1.symm; omega), set_other (fun e => by have := hb e.1.symm; omega), ef2.low _ (by omega), ef1.low _ ho]
    show W2.cell? _ = _
    rw [← hW2, set_other (fun e => by have := hb e.1.symm; omega)]
    exact b1.cell (p := ⟨g, off, none⟩) hglt
  · intro k k0 k1 k2 k3
    rw [hoth' k k1 k2 k3]
    exact b1.block k k0
  · omega
  · intro B B0 B1 B2 B3
    have e1 : Below B w W2 := by rw [← hW2]; exact (b1.mono B0).setCell (p := ⟨b, o + 2, none⟩) B3 _
    exact (((e1.drew.trans (ef1.below B B1 B2)).trans (ef2.below B B1 B2)).setCell (p := ⟨b, o + 5, none⟩) B3 _).setCell (p := ⟨b, o + 6, none⟩) B3 _

/-- What part leaves, of any datum. -/
def PartAny : Prop := ∀ (b o R g TK n cap M : Nat) (u : LT) (w : World) (hc : ∀ j v, u.cells[j]? = some v → w.cell? ⟨b, o + j, none⟩ = some v) (hfz : ∀ j, w.frozen? ⟨b, o + j, none⟩ = false)
    (hu : Held w M u) (hln : u.ln ≤ 35184372087808) (hT : w.cell? ⟨TK, 0, none⟩ = some (.func (.func 141) #[] #[.pointer (some ⟨R, 0, none⟩)])) (hr : RoomAt w R g n cap) (hcap : cap ≤ 1000000000) (hroom : n + u.items.length + u.tail.length ≤ cap)
    (d1 : R ≠ g) (d2 : b ≠ R) (d3 : TK ≠ R) (d4 : TK ≠ g) (d5 : TK ≠ b) (hbg : b = g → o + 7 ≤ n * 7) (m1 : M ≤ R) (m2 : M ≤ g) (m3 : M ≤ b), Calls Tryz.prog 142 #[.pointer (some ⟨b, o, none⟩), .pointer (some ⟨TK, 0, none⟩)] w fun e w' => e = .returned (.tuple #[]) ∧ PartEff w w' b o R g n cap u
end
end Go.Proofs.YthdhdmmlmbkalaaGreatDoor
namespace Go.Proofs.YthdhdmmlmbkalaaGreatDoor
section
open Go.RowKit

theorem cellsAll_at' : ∀ (l : List LT) (k : Nat) (h : k < l.length) (j : Nat), j < 7 → (cellsAll l)[k * 7 + j]? = l[k].cells[j]?
  | t :: l, 0, h, j, hj => by
    simp only [cellsAll, Nat.zero_mul, Nat.zero_add, List.getElem_cons_zero]
    rw [List.getElem?_append_left (by rw [show t.cells.length = 7 from rfl]; exact hj)]
  | t :: l, k + 1, h, j, hj => by
    simp only [cellsAll, List.getElem_cons_succ]
    rw [List.getElem?_append_right (by rw [show t.cells.length = 7 from rfl]; omega), show t.cells.length = 7 from rfl, show (k + 1) * 7 + j - 7 = k * 7 + j by omega]
    exact cellsAll_at' l k (by simpa using h) j hj
mutual
def sizeD : DT → Nat
  | .mk _ _ _ _ _ items tail => 1 + (sizesD items + sizesD tail)
def sizesD : List DT → Nat
  | [] => 0
  | t :: l => sizeD t + sizesD l
end
theorem sizesD_append (l m : List DT) : sizesD (l ++ m) = sizesD l + sizesD m := by
  induction l with
  | nil => simp [sizesD]
  | cons t l ih => simp [sizesD, ih]; omega
theorem sizeD_pos (d : DT) : 1 ≤ sizeD d := by cases d; simp only [sizeD]; omega
theorem sizesD_ge (l : List DT) : l.length ≤ sizesD l := by
  induction l with
  | nil => simp
  | cons t l ih => have := sizeD_pos t; simp only [sizesD, List.length_cons]; omega
mutual
theorem sizeD_shape : ∀ t : LT, sizeD (shape t) = t.size
  | .mk k g la ln lc ys bb s ia ic items ta tc tail => by
    have h1 := sizesD_shapes items
    have h2 := sizesD_shapes tail
    simp only [shape, sizeD, LT.size, h1, h2]
theorem sizesD_shapes : ∀ l : List LT, sizesD (shapes l) = sizes l
  | [] => by simp [shapes, sizesD, sizes]
  | t :: l => by
    have h1 := sizeD_shape t
    have h2 := sizesD_shapes l
    simp only [shapes, sizesD, sizes, h1, h2]
end
theorem shapes_at (l : List LT) (k : Nat) (hk : k < l.length) : (shapes l)[k]? = some (shape l[k]) := by
  induction l generalizing k with
  | nil => cases hk
  | cons t l ih =>
    rw [shapes_cons]
    cases k with
    | zero => rfl
    | succ k => simpa using ih k (by simpa using hk)

/-- The datum lies there as it came in: its lists are the source's. -/
def Src (w0 : World) (M : Nat) (w : World) (d : DT) (b o : Nat) : Prop := ∃ u : LT, shape u = d ∧ Held w0 M u ∧ Tame u ∧ ∀ j v, u.cells[j]? = some v → w.cell? ⟨b, o + j, none⟩ = some v
/-- A block of limbs of the call's own. -/
def Lmb (B D g R : Nat) (w : World) (k : Nat) : Prop := Fresh w B k ∧ k ≠ D ∧ k ≠ g ∧ k ≠ R
def TwRel (w0 : World) (M D g R TK cap : Nat) (t : LT) (i : Nat) (w : World) : Prop :=
  ∃ S : List DT, i ≤ S.length ∧ RoomAt w R g S.length cap ∧ w.cell? ⟨TK, 0, none⟩ = some (.func (.func 141) #[] #[.pointer (some ⟨R, 0, none⟩)]) ∧
    Parted w (Lmb (D + 5) D g R w) g S 0 (shape t) D 0 ∧ (∀ j (h : j < S.length), j < i → Parted w (Lmb (D + 5) D g R w) g S (j + 1) S[j] g (j * 7)) ∧ (∀ j (h : j < S.length), i ≤ j → Src w0 M w S[j] g (j * 7)) ∧
    i + sizesD (S.drop i) = cap ∧ Below D w0 w ∧ w.heap[D + 1]? = some (Obj.cells #[.int .i64 0, .bool false, .slice none 0 0, .bool false, .string ⟨#[]⟩, .slice none 0 0, .slice none 0 0] 27) ∧ (∀ j, w.frozen? ⟨g, j, none⟩ = false) ∧ w0.heap.size + 5 ≤ w.heap.size

theorem AtS.mono {S X : List DT} {lo p : Nat} {l : List DT} (h : AtS S lo p l) : AtS (S ++ X) lo p l := fun hne => by
  obtain ⟨h1, h2⟩ := h hne
  refine ⟨h1, fun i hi => ?_⟩
  have h3 := h2 i hi
  rw [List.getElem?_append_left (List.getElem?_eq_some_iff.1 h3).1]
  exact h3
theorem Parted.next {w w' : World} {P Q : Nat → Prop} {g : Nat} {S X : List DT} {lo : Nat} {d : DT} {b o : Nat} (h : Parted w P g S lo d b o) (hc : ∀ j, j < 7 → w'.cell? ⟨b, o + j, none⟩ = w.cell? ⟨b, o + j, none⟩) (hs : w.heap.size ≤ w'.heap.size) (hk : ∀ k, P k → Q k ∧ w'.heap[k]? = w.heap[k]?) :
    Parted w' Q g (S ++ X) lo d b o := by
  obtain ⟨la, lc, p, q, h1, h2, h3, h4, h5, h6⟩ := h
  refine ⟨la, lc, p, q, fun j v hj => ?_, ⟨h2.1.keepP hs fun hp => (hk _ (h2.2.1 hp)).2, fun hp => (hk _ (h2.2.1 hp)).1, h2.2.2⟩, h3.mono, h4.mono, h5, h6⟩
  rw [hc j (by have := (List.getElem?_eq_some_iff.1 hj).1; simpa using this)]
  exact h1 j v hj
/-- What part leaves makes a copy of it. -/
theorem PartEff.parted {w w' : World} {b o R g n cap M B D lo : Nat} {u : LT} {S : List DT} (h : PartEff w w' b o R g n cap u) (hn : S.length = n) (hlo : lo ≤ n) (hs : u.s.size ≤ maxLen) (hln : u.ln = u.ys.length) (hcap : cap ≤ maxLen) (hroom : n + u.items.length + u.tail.length ≤ cap) (hB : B ≤ w.heap.size) (hD : D < w.heap.size) (hg : g < w.heap.size) (hR : R < w.heap.size) (_hM : M ≤ B) :
    Parted w' (Lmb B D g R w') g (S ++ (shapes u.items ++ shapes u.tail)) lo (shape u) b o := by
  obtain ⟨la, lc, h1, h2, h3⟩ := h.here
  have e1 : (shape u).items = shapes u.items := by rw [shape_eq]; rfl
  have e2 : (shape u).tail = shapes u.tail := by rw [shape_eq]; rfl
  have e3 : (shape u).ys = u.ys := by rw [shape_eq]; rfl
  refine ⟨la, lc, n, n + u.items.length, ?_, ?_, ?_, ?_, ?_, ?_⟩
  · rw [e1, e2, e3, shapes_length, shapes_length, ← hln, show (shape u).k = u.k by rw [shape_eq]; rfl, show (shape u).g = u.g by rw [shape_eq]; rfl, show (shape u).bb = u.bb by rw [shape_eq]; rfl, show (shape u).s = u.s by rw [shape_eq]; rfl]
    exact h1
  · rw [e3, ← hln, show (shape u).s = u.s by rw [shape_eq]; rfl]
    refine ⟨h2, fun hp => ?_, hs⟩
    have hf := h3 hp
    exact ⟨hf.low hB, by have := hf.1; omega, by have := hf.1; omega, by have := hf.1; omega⟩
  · rw [e1]
    refine fun _ => ⟨hlo, fun i hi => ?_⟩
    rw [List.getElem?_append_right (by omega), hn, show n + i - n = i by omega, List.getElem?_append_left hi, List.getElem?_eq_getElem hi]
  · rw [e2]
    refine fun _ => ⟨by omega, fun i hi => ?_⟩
    rw [List.getElem?_append_right (by omega), hn, List.getElem?_append_right (by rw [shapes_length]; omega), shapes_length, show n + u.items.length + i - n - u.items.length = i by omega, List.getElem?_eq_getElem hi]
  · rw [e1, shapes_length]; omega
  · rw [e2, shapes_length]; omega
/-- The new places hold the source's data. -/
theorem src_new {w0 w' : World} {M g n : Nat} {l : List LT} {b o : Nat} (hl : LiesR w0 M l b o) (hT : TameR l) (hn : ∀ j v, (cellsAll l)[j]? = some v → w'.cell? ⟨g, n * 7 + j, none⟩ = some v) (i : Nat) (hi : i < l.length) : Src w0 M w' (shape l[i]) g ((n + i) * 7) := by
  have h1 := (lies_held.1 ((liesR_iff _ _ _).1 hl i hi)).2.2
  refine ⟨l[i], rfl, h1, tameR_at l i hi hT, fun j v hj => ?_⟩
  have hj7 : j < 7 := (List.getElem?_eq_some_iff.1 hj).1
  have h2 := hn (i * 7 + j) v (by rw [cellsAll_at' l i hi j hj7]; exact hj)
  rwa [show n * 7 + (i * 7 + j) = (n + i) * 7 + j by omega] at h2
end
end Go.Proofs.YthdhdmmlmbkalaaGreatDoor
namespace Go.Proofs.YthdhdmmlmbkalaaGreatDoor
section
open Go.RowKit

/-- An expression without where it lies. -/
inductive ES where
  | mk (k : Int) (d : DT) (v : Int) (vs : List Int) (rs : Bool) (p : Int) (kids : List ES) : ES
def ES.k : ES → Int | .mk k _ _ _ _ _ _ => k
def ES.d : ES → DT | .mk _ d _ _ _ _ _ => d
def ES.v : ES → Int | .mk _ _ v _ _ _ _ => v
def ES.vs : ES → List Int | .mk _ _ _ vs _ _ _ => vs
def ES.rs : ES → Bool | .mk _ _ _ _ rs _ _ => rs
def ES.p : ES → Int | .mk _ _ _ _ _ p _ => p
def ES.kids : ES → List ES | .mk _ _ _ _ _ _ kids => kids
theorem es_eta (s : ES) : ES.mk s.k s.d s.v s.vs s.rs s.p s.kids = s := by cases s; rfl
mutual
def shapeE : ET → ES
  | .mk k d v _ _ vs rs p _ _ kids => .mk k (shape d) v vs rs p (shapesE kids)
def shapesE : List ET → List ES
  | [] => []
  | e :: l => shapeE e :: shapesE l
end
theorem shapeE_eq (e : ET) : shapeE e = .mk e.k (shape e.d) e.v e.vs e.rs e.p (shapesE e.kids) := by cases e; simp [shapeE, ET.k, ET.d, ET.v, ET.vs, ET.rs, ET.p, ET.kids]
theorem shapesE_nil : shapesE [] = [] := by simp [shapesE]
theorem shapesE_cons (e : ET) (l : List ET) : shapesE (e :: l) = shapeE e :: shapesE l := by simp [shapesE]
theorem shapesE_length (l : List ET) : (shapesE l).length = l.length := by
  induction l with
  | nil => simp [shapesE_nil]
  | cons e l ih => simp [shapesE_cons, ih]
theorem shapesE_at (l : List ET) (k : Nat) (hk : k < l.length) : (shapesE l)[k]? = some (shapeE l[k]) := by
  induction l generalizing k with
  | nil => cases hk
  | cons t l ih =>
    rw [shapesE_cons]
    cases k with
    | zero => rfl
    | succ k => simpa using ih k (by simpa using hk)
mutual
def sizeES : ES → Nat
  | .mk _ _ _ _ _ _ kids => 1 + sizesES kids
def sizesES : List ES → Nat
  | [] => 0
  | e :: l => sizeES e + sizesES l
end
theorem sizeES_eq (s : ES) : sizeES s = 1 + sizesES s.kids := by cases s; simp [sizeES, ES.kids]
theorem sizesES_append (l m : List ES) : sizesES (l ++ m) = sizesES l + sizesES m := by
  induction l with
  | nil => simp [sizesES]
  | cons t l ih => simp [sizesES, ih]; omega
theorem sizesES_ge (l : List ES) : l.length ≤ sizesES l := by
  induction l with
  | nil => simp
  | cons t l ih => have := sizeES_eq t; simp only [sizesES, List.length_cons]; omega
mutual
theorem sizeES_shape : ∀ t : ET, sizeES (shapeE t) = t.size
  | .mk k d v va vc vs rs p ka kc kids => by
    have h1 := sizesES_shapes kids
    simp only [shapeE, sizeES, ET.size, h1]
theorem sizesES_shapes : ∀ l : List ET, sizesES (shapesE l) = sizesE l
  | [] => by simp [shapesE, sizesES, sizesE]
  | t :: l => by
    have h1 := sizeES_shape t
    have h2 := sizesES_shapes l
    simp only [shapesE, sizesES, sizesE, h1, h2]
end
mutual
def depthES : ES → Nat
  | .mk _ _ _ _ _ _ kids => 1 + depthsES kids
def depthsES : List ES → Nat
  | [] => 0
  | e :: l => max (depthES e) (depthsES l)
end
mutual
theorem depthES_shape : ∀ t : ET, depthES (shapeE t) = t.depth
  | .mk k d v va vc vs rs p ka kc kids => by
    have h1 := depthsES_shapes kids
    simp only [shapeE, depthES, ET.depth, h1]
theorem depthsES_shapes : ∀ l : List ET, depthsES (shapesE l) = depthsE l
  | [] => by simp [shapesE, depthsES, depthsE]
  | t :: l => by
    have h1 := depthES_shape t
    have h2 := depthsES_shapes l
    simp only [shapesE, depthsES, depthsE, h1, h2]
end
/-- Its data are such that they are copied and looked at whole. -/
def FewD (d : LT) : Prop := Tame d ∧ d.size ≤ 100000 ∧ d.depth ≤ 10000
mutual
def TameE : ET → Prop
  | .mk _ d _ _ _ vs _ _ _ _ kids => FewD d ∧ vs.length ≤ 1000000 ∧ TameER kids
def TameER : List ET → Prop
  | [] => True
  | e :: l => TameE e ∧ TameER l
end
theorem tameE_eq (e : ET) : TameE e ↔ (FewD e.d ∧ e.vs.length ≤ 1000000 ∧ TameER e.kids) := by cases e; simp [TameE, ET.d, ET.vs, ET.kids]
theorem tameER_at : ∀ (l : List ET) (i : Nat) (h : i < l.length), TameER l → TameE l[i]
  | e :: l, 0, _, h => by simp only [TameER] at h; exact h.1
  | e :: l, i + 1, hi, h => by simp only [TameER] at h; exact tameER_at l i (by simpa using hi) h.2
theorem tameER_of : ∀ (l : List ET), (∀ e ∈ l, TameE e) → TameER l
  | [], _ => by simp [TameER]
  | e :: l, h => by simp only [TameER]; exact ⟨h e (by simp), tameER_of l fun x hx => h x (by simp [hx])⟩

/-- Numbers that lie in blocks of that sort. -/
def IntsP (w : World) (P : Nat → Prop) (a : Option Addr) (c : Nat) (zs : List Int) : Prop := SpotP P a zs.length c ∧ ∀ i (h : i < zs.length), w.cell? ⟨blk a, ofs a + i, none⟩ = some (.int .i64 zs[i]) ∧ -9223372036854775808 ≤ zs[i] ∧ zs[i] ≤ 9223372036854775807
mutual
/-- The expression lies there, in blocks of that sort. -/
def LiesEP (w : World) (P : Nat → Prop) : ET → Nat → Nat → Prop
  | .mk k d v va vc vs rs p ka kc kids, b, o =>
    P b ∧ (∀ j x, (ET.cells (.mk k d v va vc vs rs p ka kc kids))[j]? = some x → w.cell? ⟨b, o + j, none⟩ = some x) ∧
      (HeldP w P d ∧ IntsP w P va vc vs) ∧ SpotP P ka kids.length kc ∧ LiesEPR w P kids (blk ka) (ofs ka)
def LiesEPR (w : World) (P : Nat → Prop) : List ET → Nat → Nat → Prop
  | [], _, _ => True
  | e :: l, b, o => LiesEP w P e b o ∧ LiesEPR w P l b (o + 13)
end
/-- What an expression's value holds lies in blocks of that sort. -/
def HeldEP (w : World) (P : Nat → Prop) (e : ET) : Prop := (HeldP w P e.d ∧ IntsP w P e.va e.vc e.vs) ∧ SpotP P e.ka e.kids.length e.kc ∧ LiesEPR w P e.kids (blk e.ka) (ofs e.ka)
theorem liesEP_held {w : World} {P : Nat → Prop} {e : ET} {b o : Nat} : LiesEP w P e b o ↔ P b ∧ (∀ j x, e.cells[j]? = some x → w.cell? ⟨b, o + j, none⟩ = some x) ∧ HeldEP w P e := by
  cases e; simp [LiesEP, HeldEP, ET.d, ET.va, ET.vc, ET.vs, ET.ka, ET.kc, ET.kids]
theorem liesEPR_nil {w : World} {P : Nat → Prop} {b o : Nat} : LiesEPR w P [] b o = True := by simp [LiesEPR]
theorem liesEPR_cons {w : World} {P : Nat → Prop} {b o : Nat} {e : ET} {l : List ET} : LiesEPR w P (e :: l) b o = (LiesEP w P e b o ∧ LiesEPR w P l b (o + 13)) := by simp [LiesEPR]
theorem IntsP.keep {w w' : World} {P Q : Nat → Prop} {a : Option Addr} {c : Nat} {zs : List Int} (h : IntsP w P a c zs) (hk : ∀ k, P k → Q k ∧ w'.heap[k]? = w.heap[k]?) : IntsP w' Q a c zs :=
  ⟨h.1.mono fun k hp => (hk k hp).1, fun i hi => ⟨(World.cell?_of_block (w := w) (a := ⟨blk a, ofs a + i, none⟩) (hk _ (h.1.2.2.1 (by omega)).2).2).trans (h.2 i hi).1, (h.2 i hi).2⟩⟩
theorem IntsP.ints {w : World} {P : Nat → Prop} {M : Nat} {a : Option Addr} {c : Nat} {zs : List Int} (h : IntsP w P a c zs) (hP : ∀ k, P k → k < M) : IntsAt w M a c zs := ⟨h.1.spot hP, h.2⟩
mutual
theorem LiesEP.keep {w w' : World} {P Q : Nat → Prop} (hs : w.heap.size ≤ w'.heap.size) (hk : ∀ k, P k → Q k ∧ w'.heap[k]? = w.heap[k]?) : ∀ (e : ET) (b o : Nat), LiesEP w P e b o → LiesEP w' Q e b o
  | .mk k d v va vc vs rs p ka kc kids, b, o, h => by
    simp only [LiesEP] at h ⊢
    obtain ⟨h1, h2, ⟨h3, h4⟩, h5, h6⟩ := h
    exact ⟨(hk b h1).1, fun j x hj => (World.cell?_of_block (hk b h1).2).trans (h2 j x hj), ⟨h3.keep hs hk, h4.keep hk⟩, h5.mono (fun k h => (hk k h).1), LiesEPR.keep hs hk kids _ _ h6⟩
theorem LiesEPR.keep {w w' : World} {P Q : Nat → Prop} (hs : w.heap.size ≤ w'.heap.size) (hk : ∀ k, P k → Q k ∧ w'.heap[k]? = w.heap[k]?) : ∀ (l : List ET) (b o : Nat), LiesEPR w P l b o → LiesEPR w' Q l b o
  | [], _, _, _ => by simp [LiesEPR]
  | e :: l, b, o, h => by
    simp only [LiesEPR] at h ⊢
    exact ⟨LiesEP.keep hs hk e b o h.1, LiesEPR.keep hs hk l b (o + 13) h.2⟩
end
theorem HeldEP.keep {w w' : World} {P Q : Nat → Prop} {e : ET} (h : HeldEP w P e) (hs : w.heap.size ≤ w'.heap.size) (hk : ∀ k, P k → Q k ∧ w'.heap[k]? = w.heap[k]?) : HeldEP w' Q e :=
  ⟨⟨h.1.1.keep hs hk, h.1.2.keep hk⟩, h.2.1.mono (fun k h => (hk k h).1), LiesEPR.keep hs hk _ _ _ h.2.2⟩
mutual
theorem LiesEP.lies {w : World} {P : Nat → Prop} {M : Nat} (hP : ∀ k, P k → k < M) : ∀ (e : ET) (b o : Nat), LiesEP w P e b o → LiesE w M e b o
  | .mk k d v va vc vs rs p ka kc kids, b, o, h => by
    simp only [LiesEP] at h
    simp only [LiesE]
    obtain ⟨h1, h2, ⟨h3, h4⟩, h5, h6⟩ := h
    exact ⟨hP b h1, h2, ⟨h3.held hP, h4.ints hP⟩, h5.spot hP, LiesEPR.lies hP kids _ _ h6⟩
theorem LiesEPR.lies {w : World} {P : Nat → Prop} {M : Nat} (hP : ∀ k, P k → k < M) : ∀ (l : List ET) (b o : Nat), LiesEPR w P l b o → LiesER w M l b o
  | [], _, _, _ => by simp [LiesER]
  | e :: l, b, o, h => by
    simp only [LiesEPR] at h
    simp only [LiesER]
    exact ⟨LiesEP.lies hP e b o h.1, LiesEPR.lies hP l b (o + 13) h.2⟩
end
theorem HeldEP.held {w : World} {P : Nat → Prop} {M : Nat} {e : ET} (h : HeldEP w P e) (hP : ∀ k, P k → k < M) : HeldE w M e :=
  ⟨⟨h.1.1.held hP, h.1.2.ints hP⟩, h.2.1.spot hP, LiesEPR.lies hP _ _ _ h.2.2⟩
theorem HeldEP.below {w w' : World} {B B' : Nat} {e : ET} (h : HeldEP w (Fresh w B) e) (hb : Below w.heap.size w w') (hB : B' ≤ B) : HeldEP w' (Fresh w' B') e :=
  h.keep hb.size fun k hk => ⟨(hk.same (hb.block k hk.lt)).low hB, hb.block k hk.lt⟩
theorem HeldEP.low {L U B : Nat} {w w' : World} {e : ET} (h : HeldEP w (Fresh w U) e) (hl : Low L U w w') (hB : B ≤ U) : HeldEP w' (Fresh w' B) e :=
  h.keep hl.1 fun k hk => ⟨(hk.same (hl.2 k (.inr hk.1))).low hB, hl.2 k (.inr hk.1)⟩
/-- What a call that makes an expression leaves. -/
def EPost (s : ES) (w : World) (e : Ending) (w' : World) : Prop := ∃ u : ET, e = .returned (.agg #[.int .i64 u.k, .int .i64 u.d.k, .bool u.d.g, .slice u.d.la u.d.ln u.d.lc, .bool u.d.bb, .string u.d.s, .slice u.d.ia u.d.items.length u.d.ic, .slice u.d.ta u.d.tail.length u.d.tc, .int .i64 u.v, .slice u.va u.vs.length u.vc, .bool u.rs, .int .i64 u.p, .slice u.ka u.kids.length u.kc]) ∧ HeldEP w' (Fresh w' w.heap.size) u ∧ TameE u ∧ shapeE u = s ∧ Below w.heap.size w w'

/-! The room of a copy. -/
/-- A list of expressions that lie in the room g from place p on. -/
def childE (g p m : Nat) : Value := if m = 0 then .slice none 0 0 else .slice (some ⟨g, p * 13, none⟩) m m
/-- Place p of the room holds these. -/
def AtE (S : List ES) (lo p : Nat) (l : List ES) : Prop := l ≠ [] → lo ≤ p ∧ ∀ i (h : i < l.length), S[p + i]? = some l[i]
/-- The expression at b, o is a copy: its datum and its variables are its own, its Kids lie in the room g. -/
def PartedE (w : World) (P : Nat → Prop) (g : Nat) (S : List ES) (lo : Nat) (s : ES) (b o : Nat) : Prop :=
  ∃ (u : LT) (va : Option Addr) (vc p : Nat), shape u = s.d ∧ FewD u ∧
    (∀ j x, ([.int .i64 s.k, .int .i64 u.k, .bool u.g, .slice u.la u.ln u.lc, .bool u.bb, .string u.s, .slice u.ia u.items.length u.ic, .slice u.ta u.tail.length u.tc, .int .i64 s.v, .slice va s.vs.length vc, .bool s.rs, .int .i64 s.p, childE g p s.kids.length] : List Value)[j]? = some x → w.cell? ⟨b, o + j, none⟩ = some x) ∧
    (HeldP w P u ∧ IntsP w P va vc s.vs) ∧ AtE S lo p s.kids ∧ s.kids.length ≤ maxLen ∧ s.vs.length ≤ 1000000
theorem childE_spot {P : Nat → Prop} {g : Nat} (hg : P g) (p m : Nat) (hm : m ≤ maxLen) : ∃ a c, childE g p m = .slice a m c ∧ SpotP P a m c ∧ (0 < m → a = some ⟨g, p * 13, none⟩) := by
  unfold childE
  by_cases h : m = 0
  · rw [if_pos h, h]
    exact ⟨none, 0, rfl, spotP_nil P, fun h => absurd h (by decide)⟩
  · rw [if_neg h]
    exact ⟨_, m, rfl, ⟨Nat.le_refl _, hm, fun _ => ⟨rfl, hg⟩, fun e => by cases e⟩, fun _ => rfl⟩
/-- A row of trees out of those at each place. -/
theorem rowE_of {w : World} {P : Nat → Prop} {g : Nat} {S : List ES} : ∀ (l : List ES) (p : Nat), (∀ i (h : i < l.length), ∃ u : ET, shapeE u = l[i] ∧ TameE u ∧ LiesEP w P u g ((p + i) * 13)) → ∃ us : List ET, shapesE us = l ∧ TameER us ∧ LiesEPR w P us g (p * 13)
  | [], p, _ => ⟨[], shapesE_nil, by simp [TameER], by rw [liesEPR_nil]; trivial⟩
  | d :: l, p, h => by
    obtain ⟨u, hu, ht, hl⟩ := h 0 (by simp)
    obtain ⟨us, hus, htr, hr⟩ := rowE_of (S := S) l (p + 1) fun i hi => by
      obtain ⟨v, hv, ht, hvl⟩ := h (i + 1) (by simpa using hi)
      exact ⟨v, by simpa using hv, ht, by rwa [show p + (i + 1) = p + 1 + i by omega] at hvl⟩
    refine ⟨u :: us, by rw [shapesE_cons, hus, hu]; rfl, by simp only [TameER]; exact ⟨ht, htr⟩, ?_⟩
    rw [liesEPR_cons]
    exact ⟨by simpa using hl, by rwa [show p * 13 + 13 = (p + 1) * 13 by omega]⟩
/-- A copy is a tree, if its Kids are. -/
theorem partedE_tree {w : World} {P : Nat → Prop} {g : Nat} (hg : P g) {S : List ES} {lo : Nat} {s : ES} {b o : Nat} (h : PartedE w P g S lo s b o) (hS : ∀ i (x : ES), lo ≤ i → S[i]? = some x → ∃ u : ET, shapeE u = x ∧ TameE u ∧ LiesEP w P u g (i * 13)) :
    ∃ u : ET, shapeE u = s ∧ TameE u ∧ (∀ j x, u.cells[j]? = some x → w.cell? ⟨b, o + j, none⟩ = some x) ∧ HeldEP w P u := by
  obtain ⟨d, va, vc, p, hd, hf, hc, hl, hp, m1, m2⟩ := h
  obtain ⟨us, hus, htr, hur⟩ := rowE_of (w := w) (P := P) (g := g) (S := S) s.kids p fun i hi => by
    have h1 := hp (fun e => by rw [e] at hi; cases hi)
    obtain ⟨u, hu, ht, hul⟩ := hS (p + i) s.kids[i] (by omega) (h1.2 i hi)
    exact ⟨u, hu, ht, hul⟩
  obtain ⟨a1, c1, e1, s1, f1⟩ := childE_spot hg p s.kids.length m1
  have n1 : us.length = s.kids.length := by rw [← shapesE_length, hus]
  rw [e1] at hc
  refine ⟨.mk s.k d s.v va vc s.vs s.rs s.p a1 c1 us, ?_, ?_, ?_, hl, ?_, ?_⟩
  · simp only [shapeE, hus, hd]; exact es_eta s
  · simp only [TameE]; exact ⟨hf, m2, htr⟩
  · intro j x hj
    refine hc j x ?_
    have hcs : ET.cells (.mk s.k d s.v va vc s.vs s.rs s.p a1 c1 us) = [.int .i64 s.k, .int .i64 d.k, .bool d.g, .slice d.la d.ln d.lc, .bool d.bb, .string d.s, .slice d.ia d.items.length d.ic, .slice d.ta d.tail.length d.tc, .int .i64 s.v, .slice va s.vs.length vc, .bool s.rs, .int .i64 s.p, .slice a1 us.length c1] := rfl
    rw [hcs, n1] at hj
    exact hj
  · show SpotP P a1 us.length c1
    rw [n1]; exact s1
  · show LiesEPR w P us (blk a1) (ofs a1)
    rcases Nat.eq_zero_or_pos us.length with h0 | h0
    · rw [List.length_eq_zero_iff.1 h0, liesEPR_nil]; trivial
    · rw [f1 (by omega)]; exact hur
/-- All the room is trees, when all of it was copied. -/
theorem roomE_trees {w : World} {P : Nat → Prop} {g : Nat} (hg : P g) (S : List ES) (h : ∀ j (hj : j < S.length), PartedE w P g S (j + 1) S[j] g (j * 13)) : ∀ (n j : Nat) (x : ES), S.length - j ≤ n → S[j]? = some x → ∃ u : ET, shapeE u = x ∧ TameE u ∧ LiesEP w P u g (j * 13)
  | 0, j, x, hn, hx => by
    have := (List.getElem?_eq_some_iff.1 hx).1
    omega
  | n + 1, j, x, hn, hx => by
    obtain ⟨hj, rfl⟩ := List.getElem?_eq_some_iff.1 hx
    obtain ⟨u, hu, ht, hc, hh⟩ := partedE_tree hg (h j hj) fun i x hi hx => roomE_trees hg S h n i x (by have := (List.getElem?_eq_some_iff.1 hx).1; omega) hx
    exact ⟨u, hu, ht, liesEP_held.2 ⟨hg, hc, hh⟩⟩
end
end Go.Proofs.YthdhdmmlmbkalaaGreatDoor
namespace Go.Proofs.YthdhdmmlmbkalaaGreatDoor
section
open Go.RowKit

theorem infoInt : (Tryz.prog.info? 3).map (fun i => (i.zero, i.size, i.bytes)) = some (some (.int .i64 0), 1, 8) := by kernel_rfl
def cellsI (zs : List Int) : List Value := zs.map fun z => .int .i64 z
theorem cellsI_at (zs : List Int) (i : Nat) (h : i < zs.length) : (cellsI zs)[i]? = some (.int .i64 zs[i]) := by
  rw [cellsI, List.getElem?_map, List.getElem?_eq_getElem h]; rfl
set_option maxRecDepth 100000 in
theorem nilI_yes (w : World) : (binOp .eql 28 (.slice none 0 0) (.slice none 0 0)).run Tryz.prog w = .ok (.bool true) w := by
  first | rfl | kernel_rfl
set_option maxRecDepth 100000 in
theorem nilI_no (ad : Addr) (n c : Nat) (w : World) : (binOp .eql 28 (.slice (some ad) n c) (.slice none 0 0)).run Tryz.prog w = .ok (.bool false) w := by
  first | rfl | kernel_rfl
/-- What Clone leaves. -/
def CIPost (zs : List Int) (w : World) (e : Ending) (w' : World) : Prop := ∃ A c, e = .returned (.slice A zs.length c) ∧ IntsP w' (Fresh w' w.heap.size) A c zs ∧ Below w.heap.size w w'
theorem ownsI_ints {w w' : World} {v : Value} {zs : List Int} (hown : w'.ownsRow w.heap.size 3 1 v zs.length (cellsI zs)) (hz : ∀ i (h : i < zs.length), -9223372036854775808 ≤ zs[i] ∧ zs[i] ≤ 9223372036854775807) : ∃ A c, v = .slice A zs.length c ∧ IntsP w' (Fresh w' w.heap.size) A c zs := by
  rcases hown.2 with ⟨hv, h0⟩ | ⟨g, c, cur, hv, hg, hgc, h1, h2, _⟩
  · obtain rfl : zs = [] := List.length_eq_zero_iff.1 h0
    exact ⟨none, 0, hv, spotP_nil _, fun i hi => by simp at hi⟩
  · refine ⟨some ⟨g, 0, none⟩, c, hv, ⟨h1, h2, fun _ => ⟨rfl, Fresh.of hg hgc (by decide)⟩, fun e => by cases e⟩, fun i hi => ⟨?_, hz i hi⟩⟩
    have h3 := hown.cells (g := g) (by rw [hv]; rfl) i _ (cellsI_at zs i hi)
    rw [cell_add] at h3
    exact h3
set_option maxRecDepth 100000 in
set_option maxHeartbeats 1600000 in
theorem cloneI_any (M : Nat) (A : Option Addr) (cap : Nat) (zs : List Int) (w : World) (hM : M ≤ w.heap.size) (h : IntsAt w M A cap zs) (hn : zs.length ≤ 1000000) :
    Calls Tryz.prog 66 #[.slice A zs.length cap] w (CIPost zs w) := by
  have hm := h.1.2.1
  have hl := h.1.1
  unfold maxLen at hm
  obtain ⟨i0, hi, hz0, hz1, hz2⟩ := info_parts infoInt
  cases A with
  | none =>
    have hc0 := h.1.2.2.2 rfl
    subst hc0
    obtain rfl : zs = [] := List.length_eq_zero_iff.1 (by omega)
    clear h
    have hnil := nilI_yes w
    go_enter Tryz.func66, Tryz.ntmps66
    go_wp2_with fail
    go_ret
    exact ⟨none, 0, rfl, ⟨spotP_nil _, fun i hi => by simp at hi⟩, Below.refl _ _⟩
  | some ad =>
    have hz : ∀ i (h : i < zs.length), -9223372036854775808 ≤ zs[i] ∧ zs[i] ≤ 9223372036854775807 := fun i hi => (h.2 i hi).2
    have hb1 : Below w.heap.size w (w.alloc (.cells #[] 3)) := (Below.refl _ _).alloc (Nat.le_refl _) _
    have hnews : ∀ j u, (cellsI zs)[j]? = some u → (w.alloc (.cells #[] 3)).cell? (ad.add j) = some u := fun j u hj => by
      have hjl : j < zs.length := by have := (List.getElem?_eq_some_iff.1 hj).1; simpa [cellsI] using this
      have h2 := h.1.2.2.1 (by omega)
      have h3 := h.2 j hjl
      rw [cellsI_at zs j hjl] at hj
      obtain ⟨b, o, sp⟩ := ad
      have e1 := h2.1
      injection e1 with e1
      injection e1 with _ _ e1
      subst e1
      rw [cell_add, ← Option.some.inj hj]
      have hlt : b < M := h2.2
      exact (World.cell?_of_block (w := w) (a := ⟨b, o + j, none⟩) (hb1.block b (by omega))).trans h3.1
    have hone : ∀ u ∈ cellsI zs, u.oneCell' = true := fun u hu => by
      obtain ⟨z, _, rfl⟩ := List.mem_map.1 hu
      rfl
    have hown : (w.alloc (.cells #[] 3)).ownsRow w.heap.size 3 1 (.slice (some ⟨w.heap.size, 0, none⟩) 0 0) 0 [] := World.ownsRow_lit (base := w.heap.size) (size := 1) w #[] 0 (Nat.le_refl _) (by unfold maxLen; omega) rfl
    have HH := Lib.hid (And.intro hnews (And.intro hone (And.intro hown (And.intro hz hb1))))
    clear hnews hone hown hz hb1 h
    have hnil := nilI_no ad zs.length cap w
    go_enter Tryz.func66, Tryz.ntmps66
    go_wp2_with (at_builtin; refine wpList_append_own _ rfl (.tmp 5) (.tmp 6) 28 rfl w.heap.size 3 i0 (.int .i64 0) 1 8 Tryz.underlying28 hi hz0 hz1 hz2 rfl (by decide) _ 0 [] rfl HH.out.2.2.1 ad zs.length cap (cellsI zs) rfl (by simp [cellsI]) HH.out.1 HH.out.2.1 (by unfold maxLen; omega) (by omega) (by simp) ?_; intro v' w1 hown1 hg1 _; have HO := Lib.hid (And.intro hown1 hg1); clear hown1 hg1)
    go_ret
    have h0 := HO.out.1
    rw [Nat.zero_add, List.nil_append] at h0
    obtain ⟨A', c', rfl, hs⟩ := ownsI_ints h0 HH.out.2.2.2.1
    exact ⟨A', c', rfl, hs, HH.out.2.2.2.2.grown HO.out.2 (by simp) (fun j hj => by have h9 : some w.heap.size = some j := hj; injection h9 with h9; omega)⟩
end
end Go.Proofs.YthdhdmmlmbkalaaGreatDoor
