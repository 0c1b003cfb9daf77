/-
  datum.Split of a list with items.
-/
import Derived.Test.YtgboiopkihemaaaSpl
import Derived.Test.YtgboiopkihemaaaDn
namespace Go.Proofs.Ytgboiopkihemaaa
open Go.RowKit

/-- The rest of a list: what stands behind its first item. -/
def restS (l tail : List DT) : DT := match l, tail with
  | [], y :: _ => y
  | l, tail => .mk 5 false [] false ⟨#[]⟩ l tail
theorem restS_dot (y : DT) (r : List DT) : restS [] (y :: r) = y := rfl
theorem restS_list {l tail : List DT} (h : ¬ (l = [] ∧ tail ≠ [])) : restS l tail = .mk 5 false [] false ⟨#[]⟩ l tail := by
  cases l with
  | cons x l => cases tail <;> rfl
  | nil =>
    cases tail with
    | nil => rfl
    | cons y r => exact absurd ⟨rfl, by simp⟩ h
/-- What Split tells of a list with items. -/
def SplitPost (d1 d2 : DT) (w : World) (e : Ending) (w' : World) : Prop := ∃ u v : LT, e = .returned (.tuple #[.agg #[.int .i64 u.k, .bool u.g, .slice u.la u.ln u.lc, .bool u.bb, .string u.s, .slice u.ia u.items.length u.ic, .slice u.ta u.tail.length u.tc], .agg #[.int .i64 v.k, .bool v.g, .slice v.la v.ln v.lc, .bool v.bb, .string v.s, .slice v.ia v.items.length v.ic, .slice v.ta v.tail.length v.tc], .bool true]) ∧ HeldP w' (Fresh w' w.heap.size) u ∧ shape u = d1 ∧ HeldP w' (Fresh w' w.heap.size) v ∧ shape v = d2 ∧ Below w.heap.size w w'
theorem split_list (M : Nat) (t x : LT) (l : List LT) (hk : t.k = 5) (hi : t.items = x :: l) (hs : t.size ≤ 20000000) (hd : t.depth ≤ 65537) (hT : Tame t) (w : World) (hM : M ≤ w.heap.size) (hH : Held w M t) :
    Calls Try.prog 14 #[.agg #[.int .i64 t.k, .bool t.g, .slice t.la t.ln t.lc, .bool t.bb, .string t.s, .slice t.ia t.items.length t.ic, .slice t.ta t.tail.length t.tc]] w (SplitPost (shape x) (restS (shapes l) (shapes t.tail)) w) := by
  have hHW := fun W (hb : Below w.heap.size w W) => hH.below hM hb
  have hsz := t.size_eq
  have hdp := t.depth_eq
  have hTm := (tame_eq t).1 hT
  rw [hi] at hsz hdp hTm
  simp only [sizes, depths, TameR] at hsz hdp hTm
  have hsp := hH.2.1
  have hst := hH.2.2.1
  rw [hi] at hsp
  obtain ⟨hn, hic, hpos, hnil⟩ := hsp
  obtain ⟨hia, hib⟩ := hpos (by simp)
  have hxl : ∀ W, Below w.heap.size w W → Lies W M x (blk t.ia) (ofs t.ia) ∧ LiesR W M l (blk t.ia) (ofs t.ia + 7) := fun W hb => by
    have := (hHW W hb).2.2.2.1
    rw [hi, liesR_cons] at this
    exact this
  have hlen : t.items.length = l.length + 1 := by rw [hi]; rfl
  have hkk : t.k = 5 := hk
  rw [hk, hlen]
  have e : t.ia = some ⟨blk t.ia, ofs t.ia, none⟩ := hia
  rw [e]
  obtain ⟨ib, hibe⟩ : ∃ ib, blk t.ia = ib := ⟨_, rfl⟩
  obtain ⟨io, hioe⟩ : ∃ io, ofs t.ia = io := ⟨_, rfl⟩
  rw [hibe] at hib
  rw [hibe, hioe] at hxl ⊢
  refine split_walk t.g t.bb t.s t.la t.ta t.ln t.lc ib io _ (l.length + 1) t.ic t.tail.length t.tc x _ _ w (fun W hb => (lies_held.1 (hxl W hb).1).2.1) (fun W hb => ?_) (by omega) (by simpa using hn) hic rfl ?_ ?_
  · exact copied_any M 20000000 65537 x (by omega) (by decide) (by omega) hTm.2.1.1 W (Nat.le_trans hM hb.size) (lies_held.1 (hxl W hb).1).2.2
  · intro h1 h2
    have hl0 : l = [] := List.length_eq_zero_iff.1 (by omega)
    obtain ⟨hta, htb⟩ := hst.2.2.1 h2
    cases htl : t.tail with
    | nil => rw [htl] at h2; exact absurd h2 (by simp)
    | cons y r =>
      have hy : ∀ W, Below w.heap.size w W → Lies W M y (blk t.ta) (ofs t.ta) := fun W hb => by
        have := (hHW W hb).2.2.2.2
        rw [htl, liesR_cons] at this
        exact this.1
      rw [htl] at hsz hdp hTm
      simp only [sizes, depths, TameR] at hsz hdp hTm
      refine ⟨_, _, y, hta, fun W hb => (lies_held.1 (hy W hb)).2.1, fun W hb => ?_⟩
      rw [hl0, shapes_nil, shapes_cons, restS_dot]
      exact copied_any M 20000000 65537 y (by omega) (by decide) (by omega) hTm.2.2.1 W (Nat.le_trans hM hb.size) (lies_held.1 (hy W hb)).2.2
  · intro hc W hb
    have hr : restS (shapes l) (shapes t.tail) = shape (.mk 5 false none 0 0 [] false ⟨#[]⟩ (some ⟨ib, (if t.ic = 1 then io else io + 7), none⟩) (t.ic - 1) l t.ta t.tc t.tail) := by
      rw [restS_list]
      · simp only [shape]
      · rintro ⟨h1, h2⟩
        have h3 : l.length = 0 := by rw [← shapes_length, h1]; rfl
        have h4 : 0 < t.tail.length := by
          rw [← shapes_length]
          exact List.length_pos_iff.2 h2
        exact hc ⟨by omega, h4⟩
    rw [hr]
    have hW := hHW W hb
    have hl' := (hxl W hb).2
    have hstW := hW.2.2.1
    have := copied_any M 20000000 65537 (.mk 5 false none 0 0 [] false ⟨#[]⟩ (some ⟨ib, (if t.ic = 1 then io else io + 7), none⟩) (t.ic - 1) l t.ta t.tc t.tail) (by simp only [LT.size]; omega) (by decide) (by simp only [LT.depth]; omega) (by simp only [Tame]; exact ⟨by omega, hTm.2.1.2, hTm.2.2⟩) W (Nat.le_trans hM hb.size)
      ⟨⟨Sl.nil, fun h => absurd h (Nat.lt_irrefl _), empty_le⟩, ⟨by show l.length ≤ t.ic - 1; simp at hn; omega, by show t.ic - 1 ≤ maxLen; omega, fun _ => ⟨rfl, hib⟩, fun h => by cases h⟩, hstW, ?_, hW.2.2.2.2⟩
    · exact this
    · show LiesR W M l ib (if t.ic = 1 then io else io + 7)
      by_cases h1 : t.ic = 1
      · have : l = [] := List.length_eq_zero_iff.1 (by simp at hn; omega)
        rw [this]
        simp [LiesR]
      · rw [if_neg h1]
        exact hl'
end Go.Proofs.Ytgboiopkihemaaa
