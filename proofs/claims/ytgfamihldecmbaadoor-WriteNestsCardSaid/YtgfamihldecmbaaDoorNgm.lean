/-
  Rows of a call's own as what a list holds.
-/
import Derived.Test.YtgfamihldecmbaaDoorNg
namespace Go.Proofs.YtgfamihldecmbaaDoor
open Go.RowKit

def rowT (ia : Option Addr) (ic : Nat) (ts : List LT) (ta : Option Addr) (tc : Nat) (tl : List LT) : LT := .mk 5 false none 0 0 [] false ⟨#[]⟩ ia ic ts ta tc tl
theorem rowT_shape (ia : Option Addr) (ic : Nat) (ts : List LT) (ta : Option Addr) (tc : Nat) (tl : List LT) : shape (rowT ia ic ts ta tc tl) = .mk 5 false [] false ⟨#[]⟩ (shapes ts) (shapes tl) := by simp [rowT, shape]
theorem rowT_held {w : World} {P : Nat → Prop} {ia : Option Addr} {ic : Nat} {ts : List LT} {ta : Option Addr} {tc : Nat} {tl : List LT} (h1 : SpotP P ia ts.length ic) (h2 : LiesPR w P ts (blk ia) (ofs ia)) (h3 : SpotP P ta tl.length tc) (h4 : LiesPR w P tl (blk ta) (ofs ta)) : HeldP w P (rowT ia ic ts ta tc tl) :=
  ⟨⟨Sl.nil, fun h => absurd h (by simp [rowT, LT.ln]), empty_le⟩, h1, h3, h2, h4⟩
theorem row_parts {B : Nat} {V : Value} {ts : List LT} {wr : World} (h : RowP B V ts wr) : ∃ ia ic, V = .slice ia ts.length ic ∧ SpotP (Fresh wr (B + 3)) ia ts.length ic ∧ LiesPR wr (Fresh wr (B + 3)) ts (blk ia) (ofs ia) := by
  obtain ⟨hown, hall⟩ := h
  have hc := hown.2
  rcases hc with ⟨hv, h0⟩ | ⟨g, c, cur, hv, hg, hgc, h1, h2, _⟩
  · obtain rfl : ts = [] := List.length_eq_zero_iff.1 h0
    exact ⟨none, 0, hv, ⟨Nat.le_refl _, Nat.zero_le _, fun h => absurd h (by simp), fun _ => rfl⟩, by rw [liesPR_nil]; trivial⟩
  · have hf : Fresh wr (B + 3) g := ⟨hg, _, hgc, fun c fz e => by cases e⟩
    refine ⟨some ⟨g, 0, none⟩, c, hv, ⟨h1, h2, fun _ => ⟨rfl, hf⟩, fun e => by cases e⟩, liesPR_of hf ts 0 (hall.keep (Nat.le_refl _) fun q hq => ⟨hq.1, rfl⟩) fun j v hj => ?_⟩
    have h3 := hown.cells (g := g) (by rw [hv]; rfl) j v hj
    rw [cell_add] at h3
    exact h3
theorem spotP_nil (P : Nat → Prop) : SpotP P none 0 0 := ⟨Nat.le_refl _, Nat.zero_le _, fun h => absurd h (by simp), fun _ => rfl⟩
theorem set7 {w : World} {B : Nat} {c0 c1 c2 c3 c4 c5 c6 v0 v1 v2 v3 v4 v5 v6 : Value} {T : TypeId} {fr : Nat × Nat} (h : w.heap[B]? = some (.cells #[c0, c1, c2, c3, c4, c5, c6] T fr)) :
    (((((((w.setCell ⟨B, 0, none⟩ v0).setCell ⟨B, 1, none⟩ v1).setCell ⟨B, 2, none⟩ v2).setCell ⟨B, 3, none⟩ v3).setCell ⟨B, 4, none⟩ v4).setCell ⟨B, 5, none⟩ v5).setCell ⟨B, 6, none⟩ v6).heap[B]? = some (.cells #[v0, v1, v2, v3, v4, v5, v6] T fr) := by
  simp [World.setCell, Array.getElem?_modify, h]
theorem set7_other {w : World} {B k : Nat} {v0 v1 v2 v3 v4 v5 v6 : Value} (hk : k ≠ B) :
    (((((((w.setCell ⟨B, 0, none⟩ v0).setCell ⟨B, 1, none⟩ v1).setCell ⟨B, 2, none⟩ v2).setCell ⟨B, 3, none⟩ v3).setCell ⟨B, 4, none⟩ v4).setCell ⟨B, 5, none⟩ v5).setCell ⟨B, 6, none⟩ v6).heap[k]? = w.heap[k]? := by
  rw [Below.heap_setCell _ _ _ _ (by show k ≠ B; exact hk), Below.heap_setCell _ _ _ _ (by show k ≠ B; exact hk), Below.heap_setCell _ _ _ _ (by show k ≠ B; exact hk), Below.heap_setCell _ _ _ _ (by show k ≠ B; exact hk), Below.heap_setCell _ _ _ _ (by show k ≠ B; exact hk), Below.heap_setCell _ _ _ _ (by show k ≠ B; exact hk), Below.heap_setCell _ _ _ _ (by show k ≠ B; exact hk)]
theorem set7_below {w a : World} {B L : Nat} {v0 v1 v2 v3 v4 v5 v6 : Value} (h : Below L a w) (hB : L ≤ B) :
    Below L a (((((((w.setCell ⟨B, 0, none⟩ v0).setCell ⟨B, 1, none⟩ v1).setCell ⟨B, 2, none⟩ v2).setCell ⟨B, 3, none⟩ v3).setCell ⟨B, 4, none⟩ v4).setCell ⟨B, 5, none⟩ v5).setCell ⟨B, 6, none⟩ v6) :=
  ((((((h.setCell (p := ⟨B, 0, none⟩) hB v0).setCell (p := ⟨B, 1, none⟩) hB v1).setCell (p := ⟨B, 2, none⟩) hB v2).setCell (p := ⟨B, 3, none⟩) hB v3).setCell (p := ⟨B, 4, none⟩) hB v4).setCell (p := ⟨B, 5, none⟩) hB v5).setCell (p := ⟨B, 6, none⟩) hB v6
theorem set7_low {w a : World} {B L U : Nat} {v0 v1 v2 v3 v4 v5 v6 : Value} (h : Low L U a w) (h1 : L ≤ B) (h2 : B < U) :
    Low L U a (((((((w.setCell ⟨B, 0, none⟩ v0).setCell ⟨B, 1, none⟩ v1).setCell ⟨B, 2, none⟩ v2).setCell ⟨B, 3, none⟩ v3).setCell ⟨B, 4, none⟩ v4).setCell ⟨B, 5, none⟩ v5).setCell ⟨B, 6, none⟩ v6) :=
  ((((((h.setCell (p := ⟨B, 0, none⟩) h1 h2 v0).setCell (p := ⟨B, 1, none⟩) h1 h2 v1).setCell (p := ⟨B, 2, none⟩) h1 h2 v2).setCell (p := ⟨B, 3, none⟩) h1 h2 v3).setCell (p := ⟨B, 4, none⟩) h1 h2 v4).setCell (p := ⟨B, 5, none⟩) h1 h2 v5).setCell (p := ⟨B, 6, none⟩) h1 h2 v6
theorem ownsRow_kept_low {B U size n : Nat} {w w' : World} {e : TypeId} {v : Value} {xs : List Value} {L : Nat} (h : w.ownsRow B e size v n xs) (hU : U ≤ B) (hl : Low L U w w') : w'.ownsRow B e size v n xs := by
  refine ⟨h.1, ?_⟩
  rcases h.2 with h1 | ⟨g, c, cur, hv, hg, hgc, rest⟩
  · exact .inl h1
  · exact .inr ⟨g, c, cur, hv, hg, (hl.2 g (.inr (by omega))).trans hgc, rest⟩
theorem close_none (l : List DT) : closeD (l, none) = .mk 5 false [] false ⟨#[]⟩ l [] := by cases l <;> rfl
theorem close_some (l : List DT) (e : DT) (h : l ≠ []) : closeD (l, some e) = .mk 5 false [] false ⟨#[]⟩ l [e] := by
  cases l with
  | nil => exact absurd rfl h
  | cons x l => rfl
end Go.Proofs.YtgfamihldecmbaaDoor
