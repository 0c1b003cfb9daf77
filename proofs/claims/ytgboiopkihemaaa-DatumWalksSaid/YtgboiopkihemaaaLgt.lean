/-
  What light tells of a datum.
-/
import Derived.Test.YtgboiopkihemaaaLvs
import Derived.Test.YtgboiopkihemaaaLit
namespace Go.Proofs.Ytgboiopkihemaaa
open Go.RowKit

mutual
theorem tame_all : ∀ t : LT, (∀ x ∈ allT t, x.ln ≤ 1000) → Tame t
  | .mk k g la ln lc ys bb s ia ic items ta tc tail, h => by
    simp only [Tame]
    exact ⟨h (.mk k g la ln lc ys bb s ia ic items ta tc tail) (by simp [allT]), tameR_all items (fun x hx => h x (by simp [allT, hx])), tameR_all tail (fun x hx => h x (by simp [allT, hx]))⟩
theorem tameR_all : ∀ l : List LT, (∀ x ∈ allR l, x.ln ≤ 1000) → TameR l
  | [], _ => by simp [TameR]
  | t :: l, h => by
    simp only [TameR]
    exact ⟨tame_all t (fun x hx => h x (by simp [allR, hx])), tameR_all l (fun x hx => h x (by simp [allR, hx]))⟩
end
theorem light_tells {t : LT} (h : lightB t = true) : t.size ≤ 400 ∧ t.depth ≤ 60 ∧ Tame t := by
  unfold lightB at h
  simp only [Bool.and_eq_true, decide_eq_true_eq, List.all_eq_true] at h
  have h1 := budT_few t 400 60 (by decide) h.1
  have h2 := h.2
  have h4 := h.1
  refine ⟨by omega, by omega, tame_all t (fun x hx => by have := h2 x hx; simp [lightX] at this; omega)⟩
end Go.Proofs.Ytgboiopkihemaaa
