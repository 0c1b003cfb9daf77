/-
  datum.twin: its loop's steps, and what is left.
-/
import Derived.Test.YthdhdmmlmbkalaaGreatDoorJp5
set_option linter.unusedVariables false
set_option linter.unusedSimpArgs false
set_option linter.unusedSectionVars false
set_option linter.unnecessarySimpa false
namespace Go.Proofs.YthdhdmmlmbkalaaGreatDoor
open Go.RowKit

theorem room_frozen {w : World} {R g n cap : Nat} (h : RoomAt w R g n cap) (j : Nat) : w.frozen? ⟨g, j, none⟩ = false := by
  obtain ⟨_, _, cur, h3, _⟩ := h
  exact Lib.frozen_of_heap h3 j
theorem tw_room {S : List DT} {i cap : Nat} {u : LT} (hi : i < S.length) (hb : i + sizesD (S.drop i) = cap) (hu : shape u = S[i]) : S.length + u.items.length + u.tail.length ≤ cap := by
  have h1 := List.drop_eq_getElem_cons hi
  rw [h1] at hb
  simp only [sizesD] at hb
  rw [← hu, sizeD_shape, u.size_eq] at hb
  have h2 := sizes_ge u.items
  have h3 := sizes_ge u.tail
  have h4 := sizesD_ge (S.drop (i + 1))
  rw [List.length_drop] at h4
  omega
theorem cell_keep {w w' : World} {b k o : Nat} (h : w'.heap[b]? = w.heap[b]?) : w'.cell? ⟨b, o + k, none⟩ = w.cell? ⟨b, o + k, none⟩ := World.cell?_of_block (w := w) (a := ⟨b, o + k, none⟩) h
theorem tw_step {w0 w w' : World} {M D cap i : Nat} {t u : LT} {S : List DT} (hD : D = w0.heap.size) (hMD : M ≤ D) (hcap : cap ≤ maxLen) (hi : i < S.length) (hT : w.cell? ⟨D + 4, 0, none⟩ = some (.func (.func 141) #[] #[.pointer (some ⟨D + 3, 0, none⟩)]))
    (hroot : Parted w (Lmb (D + 5) D (D + 2) (D + 3) w) (D + 2) S 0 (shape t) D 0) (hpar : ∀ j (h : j < S.length), j < i → Parted w (Lmb (D + 5) D (D + 2) (D + 3) w) (D + 2) S (j + 1) S[j] (D + 2) (j * 7)) (hsrc : ∀ j (h : j < S.length), i ≤ j → Src w0 M w S[j] (D + 2) (j * 7))
    (hb : i + sizesD (S.drop i) = cap) (hbel : Below D w0 w) (hres : w.heap[D + 1]? = some (Obj.cells #[.int .i64 0, .bool false, .slice none 0 0, .bool false, .string ⟨#[]⟩, .slice none 0 0, .slice none 0 0] 27)) (hsz : w0.heap.size + 5 ≤ w.heap.size) (hu : shape u = S[i]) (hH : Held w0 M u) (hTu : Tame u) (he : PartEff w w' (D + 2) (i * 7) (D + 3) (D + 2) S.length cap u) :
    TwRel w0 M D (D + 2) (D + 3) (D + 4) cap t (i + 1) w' := by
  have hroom := tw_room hi hb hu
  have hoth : ∀ k, k < w.heap.size → k ≠ D + 3 → k ≠ D + 2 → w'.heap[k]? = w.heap[k]? := fun k k0 k1 k2 => he.other k k0 k1 k2 k2
  have hlm : ∀ k, Lmb (D + 5) D (D + 2) (D + 3) w k → Lmb (D + 5) D (D + 2) (D + 3) w' k ∧ w'.heap[k]? = w.heap[k]? := fun k hk => by
    have e := hoth k hk.1.lt hk.2.2.2 hk.2.2.1
    exact ⟨⟨hk.1.same e, hk.2⟩, e⟩
  have hlen : (S ++ (shapes u.items ++ shapes u.tail)).length = S.length + u.items.length + u.tail.length := by rw [List.length_append, List.length_append, shapes_length, shapes_length]; omega
  refine ⟨S ++ (shapes u.items ++ shapes u.tail), by omega, by rw [hlen]; exact he.room, ?_, ?_, ?_, ?_, ?_, hbel.trans (he.below D (by omega) (by omega) (by omega) (by omega)), ?_, fun j => room_frozen he.room j, by have := he.size; omega⟩
  · exact (World.cell?_of_block (w := w) (a := ⟨D + 4, 0, none⟩) (hoth (D + 4) (by omega) (by omega) (by omega))).trans hT
  · exact hroot.next (fun j _ => cell_keep (hoth D (by omega) (by omega) (by omega))) he.size hlm
  · intro j hj hji
    by_cases h : j < i
    · have hjS : j < S.length := by omega
      rw [List.getElem_append_left hjS]
      exact (hpar j hjS h).next (fun c hc => he.low _ (by omega) (fun _ => .inl (by omega))) he.size hlm
    · obtain rfl : j = i := by omega
      rw [List.getElem_append_left hi, ← hu]
      exact he.parted (M := M) rfl (by omega) hH.1.2.2 hH.1.1.len hcap hroom (by omega) (by omega) (by omega) (by omega) (by omega)
  · intro j hj hij
    by_cases h : j < S.length
    · rw [List.getElem_append_left h]
      obtain ⟨v, v1, v2, v3, v4⟩ := hsrc j h (by omega)
      refine ⟨v, v1, v2, v3, fun c x hc => ?_⟩
      have hc7 : c < 7 := (List.getElem?_eq_some_iff.1 hc).1
      rw [he.low (j * 7 + c) (by omega) (fun _ => .inr (by omega))]
      exact v4 c x hc
    · rw [List.getElem_append_right (by omega)]
      by_cases h2 : j - S.length < u.items.length
      · rw [List.getElem_append_left (by rw [shapes_length]; exact h2)]
        have h3 := src_new (n := S.length) hH.2.2.2.1 ((tame_eq u).1 hTu).2.1 he.new1 (j - S.length) h2
        rw [show S.length + (j - S.length) = j by omega] at h3
        have h4 := shapes_at u.items (j - S.length) h2
        rw [List.getElem?_eq_getElem (by rw [shapes_length]; exact h2)] at h4
        rw [Option.some.inj h4]
        exact h3
      · rw [List.getElem_append_right (by rw [shapes_length]; omega)]
        have hq : j - S.length - u.items.length < u.tail.length := by omega
        have h3 := src_new (n := S.length + u.items.length) hH.2.2.2.2 ((tame_eq u).1 hTu).2.2 he.new2 (j - S.length - u.items.length) hq
        rw [show S.length + u.items.length + (j - S.length - u.items.length) = j by omega] at h3
        have h4 := shapes_at u.tail (j - S.length - u.items.length) hq
        rw [List.getElem?_eq_getElem (by rw [shapes_length]; exact hq)] at h4
        simp only [shapes_length]
        rw [Option.some.inj h4]
        exact h3
  · rw [List.drop_append_of_le_length (by omega), sizesD_append, sizesD_append, sizesD_shapes, sizesD_shapes]
    have h1 := List.drop_eq_getElem_cons hi
    rw [h1] at hb
    simp only [sizesD] at hb
    rw [← hu, sizeD_shape, u.size_eq] at hb
    omega
  · exact (hoth (D + 1) (by omega) (by omega) (by omega)).trans hres
theorem tw_start {w0 w w' : World} {M D cap : Nat} {t : LT} (hD : D = w0.heap.size) (hMD : M ≤ D) (hcap : cap ≤ maxLen) (hT : w.cell? ⟨D + 4, 0, none⟩ = some (.func (.func 141) #[] #[.pointer (some ⟨D + 3, 0, none⟩)]))
    (hb : t.size = cap + 1) (hbel : Below D w0 w) (hres : w.heap[D + 1]? = some (Obj.cells #[.int .i64 0, .bool false, .slice none 0 0, .bool false, .string ⟨#[]⟩, .slice none 0 0, .slice none 0 0] 27)) (hsz : w0.heap.size + 5 ≤ w.heap.size) (hH : Held w0 M t) (hTu : Tame t) (he : PartEff w w' D 0 (D + 3) (D + 2) 0 cap t) :
    TwRel w0 M D (D + 2) (D + 3) (D + 4) cap t 0 w' := by
  have hse := t.size_eq
  have g1 := sizes_ge t.items
  have g2 := sizes_ge t.tail
  have hroom : 0 + t.items.length + t.tail.length ≤ cap := by omega
  have hoth : ∀ k, k < w.heap.size → k ≠ D + 3 → k ≠ D + 2 → k ≠ D → w'.heap[k]? = w.heap[k]? := fun k k0 k1 k2 k3 => he.other k k0 k1 k2 k3
  have hlen : (shapes t.items ++ shapes t.tail).length = 0 + t.items.length + t.tail.length := by rw [List.length_append, shapes_length, shapes_length]; omega
  refine ⟨shapes t.items ++ shapes t.tail, Nat.zero_le _, by rw [hlen]; exact he.room, ?_, ?_, fun j _ h => absurd h (Nat.not_lt_zero _), ?_, ?_, hbel.trans (he.below D (by omega) (by omega) (by omega) (Nat.le_refl _)), ?_, fun j => room_frozen he.room j, by have := he.size; omega⟩
  · exact (World.cell?_of_block (w := w) (a := ⟨D + 4, 0, none⟩) (hoth (D + 4) (by omega) (by omega) (by omega) (by omega))).trans hT
  · have := he.parted (S := []) (lo := 0) (B := D + 5) (D := D) (M := M) rfl (Nat.le_refl _) hH.1.2.2 hH.1.1.len hcap hroom (by omega) (by omega) (by omega) (by omega) (by omega)
    simpa using this
  · intro j hj _
    by_cases h2 : j < t.items.length
    · rw [List.getElem_append_left (by rw [shapes_length]; exact h2)]
      have h3 := src_new (n := 0) hH.2.2.2.1 ((tame_eq t).1 hTu).2.1 he.new1 j h2
      rw [Nat.zero_add] at h3
      have h4 := shapes_at t.items j h2
      rw [List.getElem?_eq_getElem (by rw [shapes_length]; exact h2)] at h4
      rw [Option.some.inj h4]
      exact h3
    · rw [List.getElem_append_right (by rw [shapes_length]; omega)]
      have hq : j - t.items.length < t.tail.length := by omega
      have h3 := src_new (n := 0 + t.items.length) hH.2.2.2.2 ((tame_eq t).1 hTu).2.2 he.new2 (j - t.items.length) hq
      rw [show 0 + t.items.length + (j - t.items.length) = j by omega] at h3
      have h4 := shapes_at t.tail (j - t.items.length) hq
      rw [List.getElem?_eq_getElem (by rw [shapes_length]; exact hq)] at h4
      simp only [shapes_length]
      rw [Option.some.inj h4]
      exact h3
  · rw [List.drop_zero, sizesD_append, sizesD_shapes, sizesD_shapes]
    omega
  · exact (hoth (D + 1) (by omega) (by omega) (by omega) (by omega)).trans hres
theorem Parted.mono {w : World} {P Q : Nat → Prop} {g : Nat} {S : List DT} {lo : Nat} {d : DT} {b o : Nat} (h : Parted w P g S lo d b o) (hk : ∀ k, P k → Q k) : Parted w Q g S lo d b o := by
  have := h.next (X := []) (w' := w) (Q := Q) (fun _ _ => rfl) (Nat.le_refl _) fun k hp => ⟨hk k hp, rfl⟩
  rwa [List.append_nil] at this
/-- When all is copied, the root is a tree in blocks of the call's own. -/
theorem tw_end {w : World} {D i : Nat} {t : LT} {S : List DT} (hi : S.length ≤ i) (hg : Fresh w (D + 2) (D + 2)) (hroot : Parted w (Lmb (D + 5) D (D + 2) (D + 3) w) (D + 2) S 0 (shape t) D 0) (hpar : ∀ j (h : j < S.length), j < i → Parted w (Lmb (D + 5) D (D + 2) (D + 3) w) (D + 2) S (j + 1) S[j] (D + 2) (j * 7)) :
    ∃ u : LT, shape u = shape t ∧ (∀ j v, u.cells[j]? = some v → w.cell? ⟨D, 0 + j, none⟩ = some v) ∧ HeldP w (Fresh w (D + 2)) u := by
  have hm : ∀ k, Lmb (D + 5) D (D + 2) (D + 3) w k → Fresh w (D + 2) k := fun k hk => hk.1.low (by omega)
  refine parted_tree hg (hroot.mono hm) fun j x _ hx => ?_
  exact room_trees hg S (fun j hj => (hpar j hj (by omega)).mono hm) (S.length - j) j x (Nat.le_refl _) hx
end Go.Proofs.YthdhdmmlmbkalaaGreatDoor
