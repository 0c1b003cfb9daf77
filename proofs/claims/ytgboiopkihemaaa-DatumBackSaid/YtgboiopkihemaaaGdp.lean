/-
  What of a datum's nodes, each by itself, makes it one that Norm leaves.
-/
import Derived.Test.YtgboiopkihemaaaDn
import Derived.Test.YtgboiopkihemaaaGdd
namespace Go.Proofs.Ytgboiopkihemaaa
open Go.RowKit

theorem goodI_norm {g : Bool} {ys : List Nat} (hO : Ok ys) (h : goodI g ys = true) : decide (zOf g (val ys) < 0) = g ∧ limbs (zOf g (val ys)).natAbs = ys := by
  rw [zOf_abs, zOf_neg]
  unfold goodI at h
  by_cases h0 : ys.length = 0
  · rw [if_pos h0] at h
    obtain rfl := List.length_eq_zero_iff.1 h0
    have hg : g = false := by simpa using h
    subst hg
    exact ⟨by simp, by rw [show val [] = 0 from rfl]; exact limbs_zero⟩
  · rw [if_neg h0] at h
    have h := of_decide_eq_true h
    have ht : trimL ys = ys := by
      have hne : ys ≠ [] := fun e => h0 (by rw [e]; rfl)
      have e := List.dropLast_concat_getLast hne
      have hl : ys.getLast hne ≠ 0 := by
        rw [lim_eq, List.getElem?_eq_getElem (by omega)] at h
        rw [List.getLast_eq_getElem]
        simpa using h
      rw [← e]
      exact trimL_snoc _ _ hl
    have hv := limbs_of hO ht
    refine ⟨?_, hv⟩
    have hp : 0 < val ys := by
      rcases Nat.eq_zero_or_pos (val ys) with h1 | h1
      · rw [h1, limbs_zero] at hv
        exact absurd (by rw [← hv]; rfl) h0
      · exact h1
    simp [hp]
mutual
theorem good_norm : ∀ (t : LT) (v b o : Nat), okD (shape t) → (∀ n ∈ seqT t v b o, GoodA n.t) → normT t = shape t
  | .mk k g la ln lc ys bb s ia ic items ta tc tail, v, b, o, hO, h => by
    have h0 : GoodA (.mk k g la ln lc ys bb s ia ic items ta tc tail) := h ⟨v, b, o, .mk k g la ln lc ys bb s ia ic items ta tc tail⟩ (by simp [seqT])
    simp only [shape, okD] at hO
    have hI := good_norms items (v + 1) (blk ia) (ofs ia) hO.2.1 (fun n hn => h n (by simp [seqT, hn]))
    have hT := good_norms tail (v + 1) (blk ta) (ofs ta) hO.2.2 (fun n hn => h n (by simp [seqT, hn]))
    have a1 : k ≠ 1 → g = false ∧ ys = [] := h0.num
    have a2 : k ≠ 2 → bb = false := h0.bool
    have a3 : k ≠ 3 → k ≠ 4 → s = ⟨#[]⟩ := h0.str
    have a4 : k ≠ 5 → items = [] ∧ tail = [] := h0.list
    have a5 : k = 1 → goodI g ys = true := h0.norm
    have a6 : k = 5 → tail = [] ∨ (items ≠ [] ∧ ∃ u : LT, tail = [u] ∧ u.k ≠ 5) := h0.tail
    simp only [shape]
    by_cases hk : k = 5
    · subst hk
      rw [normT_list _ (by rfl)]
      show closeD (normR items ++ (spineR tail).1, (spineR tail).2) = _
      rw [hI, (a1 (by decide)).1, (a1 (by decide)).2, a2 (by decide), a3 (by decide) (by decide)]
      rcases a6 rfl with rfl | ⟨hne, u, rfl, hu⟩
      · rw [spineR_nil, List.append_nil, shapes_nil]
        rfl
      · rw [spineR_cons, spineT_eq, if_neg hu, List.append_nil]
        rw [normR_cons, normR_nil, shapes_cons, shapes_nil, normT_leaf u hu] at hT
        rw [shapes_cons, shapes_nil, ← hT]
        cases items with
        | nil => exact absurd rfl hne
        | cons x l => rw [shapes_cons]; rfl
    · rw [normT_leaf _ (by exact hk)]
      obtain ⟨rfl, rfl⟩ := a4 hk
      show leafD k g ys bb s = _
      rw [shapes_nil]
      unfold leafD
      by_cases h1 : k = 1
      · rw [if_pos h1, (goodI_norm hO.1 (a5 h1)).1, (goodI_norm hO.1 (a5 h1)).2, a2 (by omega), a3 (by omega) (by omega), h1]
      · rw [if_neg h1]
        obtain ⟨rfl, rfl⟩ := a1 h1
        by_cases h2 : k = 2
        · rw [if_pos h2, a3 (by omega) (by omega), h2]
        · rw [if_neg h2, a2 h2]
          by_cases h3 : k = 3 ∨ k = 4
          · rw [if_pos h3]
          · rw [if_neg h3, a3 (by omega) (by omega)]
theorem good_norms : ∀ (l : List LT) (v b o : Nat), oksD (shapes l) → (∀ n ∈ seqR l v b o, GoodA n.t) → normR l = shapes l
  | [], _, _, _, _, _ => by simp [normR, shapes]
  | t :: l, v, b, o, hO, h => by
    simp only [shapes, oksD] at hO
    have h1 := good_norm t v b o hO.1 (fun n hn => h n (by simp [seqR, hn]))
    have h2 := good_norms l v b (o + 7) hO.2 (fun n hn => h n (by simp [seqR, hn]))
    rw [normR_cons, shapes_cons, h1, h2]
end
end Go.Proofs.Ytgboiopkihemaaa
