/-
  datum.twin: what its room holds, and that it holds the same in the end.
-/
import Derived.Test.YtgboiopkihemaaaTwa
namespace Go.Proofs.Ytgboiopkihemaaa
open Go.RowKit

/-- A list of data that lie in the room g from place p on. -/
def childV (g p m : Nat) : Value := if m = 0 then .slice none 0 0 else .slice (some ⟨g, p * 7, none⟩) m m
def DT.items : DT → List DT | .mk _ _ _ _ _ items _ => items
def DT.tail : DT → List DT | .mk _ _ _ _ _ _ tail => tail
def DT.g : DT → Bool | .mk _ g _ _ _ _ _ => g
def DT.ys : DT → List Nat | .mk _ _ ys _ _ _ _ => ys
def DT.bb : DT → Bool | .mk _ _ _ bb _ _ _ => bb
def DT.s : DT → ByteArray | .mk _ _ _ _ s _ _ => s
/-- Place p of the room holds these shapes. -/
def AtS (S : List DT) (lo p : Nat) (l : List DT) : Prop := l ≠ [] → lo ≤ p ∧ ∀ i (h : i < l.length), S[p + i]? = some l[i]
/-- The datum at b, o is a copy: its limbs are its own, its lists lie in the room g. -/
def Parted (w : World) (P : Nat → Prop) (g : Nat) (S : List DT) (lo : Nat) (d : DT) (b o : Nat) : Prop :=
  ∃ la lc p q, (∀ j v, ([.int .i64 d.k, .bool d.g, .slice la d.ys.length lc, .bool d.bb, .string d.s, childV g p d.items.length, childV g q d.tail.length] : List Value)[j]? = some v → w.cell? ⟨b, o + j, none⟩ = some v) ∧
    (Sl w la d.ys.length lc d.ys ∧ (0 < d.ys.length → P (blk la)) ∧ d.s.size ≤ maxLen) ∧ AtS S lo p d.items ∧ AtS S lo q d.tail ∧ d.items.length ≤ maxLen ∧ d.tail.length ≤ maxLen
theorem dt_eta (d : DT) : DT.mk d.k d.g d.ys d.bb d.s d.items d.tail = d := by cases d; rfl
theorem child_spot {P : Nat → Prop} {g : Nat} (hg : P g) (p m : Nat) (hm : m ≤ maxLen) : ∃ a c, childV g p m = .slice a m c ∧ SpotP P a m c ∧ (0 < m → a = some ⟨g, p * 7, none⟩) := by
  unfold childV
  by_cases h : m = 0
  · rw [if_pos h, h]
    exact ⟨none, 0, rfl, spotP_nil P, fun h => absurd h (by decide)⟩
  · rw [if_neg h]
    exact ⟨_, m, rfl, ⟨Nat.le_refl _, hm, fun _ => ⟨rfl, hg⟩, fun e => by cases e⟩, fun _ => rfl⟩
/-- A row of trees out of those at each place. -/
theorem row_of {w : World} {P : Nat → Prop} {g : Nat} {S : List DT} : ∀ (l : List DT) (p : Nat), (∀ i (h : i < l.length), ∃ u : LT, shape u = l[i] ∧ LiesP w P u g ((p + i) * 7)) → ∃ us : List LT, shapes us = l ∧ LiesPR w P us g (p * 7)
  | [], p, _ => ⟨[], shapes_nil, by rw [liesPR_nil]; trivial⟩
  | d :: l, p, h => by
    obtain ⟨u, hu, hl⟩ := h 0 (by simp)
    obtain ⟨us, hus, hr⟩ := row_of (S := S) l (p + 1) fun i hi => by
      obtain ⟨v, hv, hvl⟩ := h (i + 1) (by simpa using hi)
      exact ⟨v, by simpa using hv, by rwa [show p + (i + 1) = p + 1 + i by omega] at hvl⟩
    refine ⟨u :: us, by rw [shapes_cons, hus, hu]; rfl, ?_⟩
    rw [liesPR_cons]
    exact ⟨by simpa using hl, by rwa [show p * 7 + 7 = (p + 1) * 7 by omega]⟩
/-- A copy is a tree, if those in its lists are. -/
theorem parted_tree {w : World} {P : Nat → Prop} {g : Nat} (hg : P g) {S : List DT} {lo : Nat} {d : DT} {b o : Nat} (h : Parted w P g S lo d b o) (hS : ∀ i (x : DT), lo ≤ i → S[i]? = some x → ∃ u : LT, shape u = x ∧ LiesP w P u g (i * 7)) :
    ∃ u : LT, shape u = d ∧ (∀ j v, u.cells[j]? = some v → w.cell? ⟨b, o + j, none⟩ = some v) ∧ HeldP w P u := by
  obtain ⟨la, lc, p, q, hc, hl, hp, hq, m1, m2⟩ := h
  have row : ∀ (l : List DT) (r : Nat), AtS S lo r l → ∃ us : List LT, shapes us = l ∧ LiesPR w P us g (r * 7) := fun l r hr => by
    refine row_of (S := S) l r fun i hi => ?_
    have h1 := hr (fun e => by rw [e] at hi; cases hi)
    obtain ⟨u, hu, hul⟩ := hS (r + i) l[i] (by omega) (h1.2 i hi)
    exact ⟨u, hu, hul⟩
  obtain ⟨us, hus, hur⟩ := row d.items p hp
  obtain ⟨vs, hvs, hvr⟩ := row d.tail q hq
  obtain ⟨a1, c1, e1, s1, f1⟩ := child_spot hg p d.items.length m1
  obtain ⟨a2, c2, e2, s2, f2⟩ := child_spot hg q d.tail.length m2
  have n1 : us.length = d.items.length := by rw [← shapes_length, hus]
  have n2 : vs.length = d.tail.length := by rw [← shapes_length, hvs]
  rw [e1, e2] at hc
  refine ⟨.mk d.k d.g la d.ys.length lc d.ys d.bb d.s a1 c1 us a2 c2 vs, ?_, ?_, hl, ?_, ?_, ?_, ?_⟩
  · simp only [shape, hus, hvs]; exact dt_eta d
  · intro j v hj
    refine hc j v ?_
    have hcs : LT.cells (.mk d.k d.g la d.ys.length lc d.ys d.bb d.s a1 c1 us a2 c2 vs) = [.int .i64 d.k, .bool d.g, .slice la d.ys.length lc, .bool d.bb, .string d.s, .slice a1 us.length c1, .slice a2 vs.length c2] := rfl
    rw [hcs, n1, n2] at hj
    exact hj
  · show SpotP P a1 us.length c1
    rw [n1]; exact s1
  · show SpotP P a2 vs.length c2
    rw [n2]; exact s2
  · show LiesPR w P us (blk a1) (ofs a1)
    rcases Nat.eq_zero_or_pos us.length with h0 | h0
    · rw [List.length_eq_zero_iff.1 h0, liesPR_nil]; trivial
    · rw [f1 (by omega)]; exact hur
  · show LiesPR w P vs (blk a2) (ofs a2)
    rcases Nat.eq_zero_or_pos vs.length with h0 | h0
    · rw [List.length_eq_zero_iff.1 h0, liesPR_nil]; trivial
    · rw [f2 (by omega)]; exact hvr
/-- All the room is trees, when all of it was copied. -/
theorem room_trees {w : World} {P : Nat → Prop} {g : Nat} (hg : P g) (S : List DT) (h : ∀ j (hj : j < S.length), Parted w P g S (j + 1) S[j] g (j * 7)) : ∀ (n j : Nat) (x : DT), S.length - j ≤ n → S[j]? = some x → ∃ u : LT, shape u = x ∧ LiesP w P u g (j * 7)
  | 0, j, x, hn, hx => by
    have := (List.getElem?_eq_some_iff.1 hx).1
    omega
  | n + 1, j, x, hn, hx => by
    obtain ⟨hj, rfl⟩ := List.getElem?_eq_some_iff.1 hx
    obtain ⟨u, hu, hc, hh⟩ := parted_tree hg (h j hj) fun i x hi hx => room_trees hg S h n i x (by have := (List.getElem?_eq_some_iff.1 hx).1; omega) hx
    exact ⟨u, hu, liesP_held.2 ⟨hg, hc, hh⟩⟩
end Go.Proofs.Ytgboiopkihemaaa
