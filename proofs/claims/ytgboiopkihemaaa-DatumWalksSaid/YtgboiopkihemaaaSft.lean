/-
  Memory in which numbers alone may be other ones; a tree whose kinds and limbs may be any.
-/
import Derived.Test.YtgboiopkihemaaaTwd
namespace Go.Proofs.Ytgboiopkihemaaa
open Go.RowKit

/-- A cell may have another number of its sort. -/
def SoftV (v v' : Value) : Prop := v' = v ∨ (∃ a b, v = .int .i64 a ∧ v' = .int .i64 b) ∨ (∃ a b, v = .int .u32 a ∧ v' = .int .u32 b)
theorem SoftV.trans {a b c : Value} (h : SoftV a b) (k : SoftV b c) : SoftV a c := by
  rcases h with rfl | ⟨x, y, rfl, rfl⟩ | ⟨x, y, rfl, rfl⟩
  · exact k
  · rcases k with rfl | ⟨x', y', e, rfl⟩ | ⟨x', y', e, rfl⟩
    · exact .inr (.inl ⟨_, _, rfl, rfl⟩)
    · exact .inr (.inl ⟨_, _, rfl, rfl⟩)
    · cases e
  · rcases k with rfl | ⟨x', y', e, rfl⟩ | ⟨x', y', e, rfl⟩
    · exact .inr (.inr ⟨_, _, rfl, rfl⟩)
    · cases e
    · exact .inr (.inr ⟨_, _, rfl, rfl⟩)
/-- All cells are as they were, but for numbers. -/
def Soft (w w' : World) : Prop := w.heap.size ≤ w'.heap.size ∧ ∀ b o v, w.cell? ⟨b, o, none⟩ = some v → ∃ v', w'.cell? ⟨b, o, none⟩ = some v' ∧ SoftV v v' ∧ w'.frozen? ⟨b, o, none⟩ = w.frozen? ⟨b, o, none⟩
theorem Soft.refl (w : World) : Soft w w := ⟨Nat.le_refl _, fun _ _ v h => ⟨v, h, .inl rfl, rfl⟩⟩
theorem Soft.trans {a b c : World} (h : Soft a b) (k : Soft b c) : Soft a c := ⟨Nat.le_trans h.1 k.1, fun p q v hp => by
  obtain ⟨v1, e1, s1, f1⟩ := h.2 p q v hp
  obtain ⟨v2, e2, s2, f2⟩ := k.2 p q v1 e1
  exact ⟨v2, e2, s1.trans s2, f2.trans f1⟩⟩
theorem Soft.below {w w' : World} (h : Below w.heap.size w w') : Soft w w' := ⟨h.size, fun b o v hp => by
  have hb : b < w.heap.size := World.block_lt_of_cell? w _ hp
  exact ⟨v, (h.cell (p := ⟨b, o, none⟩) hb).trans hp, .inl rfl, h.frozen (p := ⟨b, o, none⟩) hb⟩⟩
theorem Soft.set {w : World} {b o : Nat} {v v' : Value} (h : w.cell? ⟨b, o, none⟩ = some v) (hs : SoftV v v') : Soft w (w.setCell ⟨b, o, none⟩ v') := by
  refine ⟨by rw [setCell_size]; exact Nat.le_refl _, fun b' o' x hp => ?_⟩
  by_cases e : b' = b ∧ o' = o
  · obtain ⟨rfl, rfl⟩ := e
    rw [h] at hp
    injection hp with hp
    subst hp
    exact ⟨v', set_here h, hs, set_frz⟩
  · exact ⟨x, by rw [set_other e]; exact hp, .inl rfl, set_frz⟩
theorem Soft.drew {w w' : World} (h : Soft w w') : Soft w w'.drew := h
theorem Soft.same {w w' : World} (h : Soft w w') {b o : Nat} {v : Value} (hc : w.cell? ⟨b, o, none⟩ = some v) (h1 : ∀ a, v ≠ .int .i64 a) (h2 : ∀ a, v ≠ .int .u32 a) : w'.cell? ⟨b, o, none⟩ = some v := by
  obtain ⟨v', e, s, _⟩ := h.2 b o v hc
  rcases s with rfl | ⟨x, y, rfl, _⟩ | ⟨x, y, rfl, _⟩
  · exact e
  · exact absurd rfl (h1 x)
  · exact absurd rfl (h2 x)
theorem Soft.i64 {w w' : World} (h : Soft w w') {b o : Nat} {k : Int} (hc : w.cell? ⟨b, o, none⟩ = some (.int .i64 k)) : ∃ k', w'.cell? ⟨b, o, none⟩ = some (.int .i64 k') := by
  obtain ⟨v', e, s, _⟩ := h.2 b o _ hc
  rcases s with rfl | ⟨x, y, e1, rfl⟩ | ⟨x, y, e1, _⟩
  · exact ⟨k, e⟩
  · exact ⟨y, e⟩
  · cases e1
theorem Soft.u32 {w w' : World} (h : Soft w w') {b o : Nat} {k : Int} (hc : w.cell? ⟨b, o, none⟩ = some (.int .u32 k)) : ∃ k', w'.cell? ⟨b, o, none⟩ = some (.int .u32 k') := by
  obtain ⟨v', e, s, _⟩ := h.2 b o _ hc
  rcases s with rfl | ⟨x, y, e1, rfl⟩ | ⟨x, y, e1, rfl⟩
  · exact ⟨k, e⟩
  · cases e1
  · exact ⟨y, e⟩
theorem Soft.free {w w' : World} (h : Soft w w') {b o : Nat} {v : Value} (hc : w.cell? ⟨b, o, none⟩ = some v) (hf : w.frozen? ⟨b, o, none⟩ = false) : w'.frozen? ⟨b, o, none⟩ = false := by
  obtain ⟨_, _, _, f⟩ := h.2 b o v hc
  rw [f, hf]

/-- Limbs lie there, in a block at B or above, which may be written. -/
def WLimbs (w : World) (B : Nat) (la : Option Addr) (ln : Nat) : Prop := 0 < ln → ∃ b off, la = some ⟨b, off, none⟩ ∧ B ≤ b ∧ ∀ i, i < ln → (∃ x, w.cell? ⟨b, off + i, none⟩ = some (.int .u32 x)) ∧ w.frozen? ⟨b, off + i, none⟩ = false
theorem WLimbs.soft {w w' : World} {B : Nat} {la : Option Addr} {ln : Nat} (h : WLimbs w B la ln) (hs : Soft w w') : WLimbs w' B la ln := fun hp => by
  obtain ⟨b, off, e, hB, hc⟩ := h hp
  refine ⟨b, off, e, hB, fun i hi => ?_⟩
  obtain ⟨⟨x, hx⟩, hf⟩ := hc i hi
  exact ⟨hs.u32 hx, hs.free hx hf⟩
mutual
/-- A tree of that form lies there; its kinds and limbs may be any. -/
def WLies (w : World) (B : Nat) : LT → Nat → Nat → Prop
  | .mk _ g la ln lc _ bb s ia ic items ta tc tail, b, o =>
    B ≤ b ∧ ((∃ k, w.cell? ⟨b, o, none⟩ = some (.int .i64 k)) ∧ w.frozen? ⟨b, o, none⟩ = false) ∧ (w.cell? ⟨b, o + 1, none⟩ = some (.bool g) ∧ w.cell? ⟨b, o + 2, none⟩ = some (.slice la ln lc) ∧ w.cell? ⟨b, o + 3, none⟩ = some (.bool bb) ∧ w.cell? ⟨b, o + 4, none⟩ = some (.string s) ∧ w.cell? ⟨b, o + 5, none⟩ = some (.slice ia items.length ic) ∧ w.cell? ⟨b, o + 6, none⟩ = some (.slice ta tail.length tc)) ∧
    WLimbs w B la ln ∧ (0 < items.length → ia = some ⟨blk ia, ofs ia, none⟩) ∧ (0 < tail.length → ta = some ⟨blk ta, ofs ta, none⟩) ∧ WLiesR w B items (blk ia) (ofs ia) ∧ WLiesR w B tail (blk ta) (ofs ta)
def WLiesR (w : World) (B : Nat) : List LT → Nat → Nat → Prop
  | [], _, _ => True
  | t :: l, b, o => WLies w B t b o ∧ WLiesR w B l b (o + 7)
end
def WHeld (w : World) (B : Nat) (t : LT) : Prop := WLimbs w B t.la t.ln ∧ (0 < t.items.length → t.ia = some ⟨blk t.ia, ofs t.ia, none⟩) ∧ (0 < t.tail.length → t.ta = some ⟨blk t.ta, ofs t.ta, none⟩) ∧ WLiesR w B t.items (blk t.ia) (ofs t.ia) ∧ WLiesR w B t.tail (blk t.ta) (ofs t.ta)
theorem wlies_held {w : World} {B : Nat} {t : LT} {b o : Nat} : WLies w B t b o ↔ (B ≤ b ∧ ((∃ k, w.cell? ⟨b, o, none⟩ = some (.int .i64 k)) ∧ w.frozen? ⟨b, o, none⟩ = false) ∧ (w.cell? ⟨b, o + 1, none⟩ = some (.bool t.g) ∧ w.cell? ⟨b, o + 2, none⟩ = some (.slice t.la t.ln t.lc) ∧ w.cell? ⟨b, o + 3, none⟩ = some (.bool t.bb) ∧ w.cell? ⟨b, o + 4, none⟩ = some (.string t.s) ∧ w.cell? ⟨b, o + 5, none⟩ = some (.slice t.ia t.items.length t.ic) ∧ w.cell? ⟨b, o + 6, none⟩ = some (.slice t.ta t.tail.length t.tc)) ∧ WHeld w B t) := by
  cases t
  simp [WLies, WHeld, LT.g, LT.la, LT.ln, LT.lc, LT.bb, LT.s, LT.ia, LT.ic, LT.items, LT.ta, LT.tc, LT.tail]
mutual
theorem WLies.soft {w w' : World} {B : Nat} (hs : Soft w w') : ∀ (t : LT) (b o : Nat), WLies w B t b o → WLies w' B t b o
  | .mk k g la ln lc ys bb s ia ic items ta tc tail, b, o, h => by
    simp only [WLies] at h ⊢
    obtain ⟨h1, ⟨⟨k', hk⟩, hf⟩, ⟨c1, c2, c3, c4, c5, c6⟩, h4, h5, h6, h7, h8⟩ := h
    refine ⟨h1, ⟨hs.i64 hk, hs.free hk hf⟩, ⟨hs.same c1 ?_ ?_, hs.same c2 ?_ ?_, hs.same c3 ?_ ?_, hs.same c4 ?_ ?_, hs.same c5 ?_ ?_, hs.same c6 ?_ ?_⟩, h4.soft hs, h5, h6, WLiesR.soft hs items _ _ h7, WLiesR.soft hs tail _ _ h8⟩
    all_goals (intro a e; cases e)
theorem WLiesR.soft {w w' : World} {B : Nat} (hs : Soft w w') : ∀ (l : List LT) (b o : Nat), WLiesR w B l b o → WLiesR w' B l b o
  | [], _, _, _ => by simp [WLiesR]
  | t :: l, b, o, h => by
    simp only [WLiesR] at h ⊢
    exact ⟨WLies.soft hs t b o h.1, WLiesR.soft hs l b (o + 7) h.2⟩
end
theorem WHeld.soft {w w' : World} {B : Nat} {t : LT} (h : WHeld w B t) (hs : Soft w w') : WHeld w' B t := ⟨h.1.soft hs, h.2.1, h.2.2.1, WLiesR.soft hs _ _ _ h.2.2.2.1, WLiesR.soft hs _ _ _ h.2.2.2.2⟩
theorem wliesR_at {w : World} {B : Nat} : ∀ (l : List LT) (b o : Nat), WLiesR w B l b o → ∀ i (h : i < l.length), WLies w B l[i] b (o + i * 7)
  | t :: l, b, o, h, 0, _ => by simp only [WLiesR] at h; simpa using h.1
  | t :: l, b, o, h, i + 1, hi => by
    simp only [WLiesR] at h
    have := wliesR_at l b (o + 7) h.2 i (by simpa using hi)
    rw [show o + (i + 1) * 7 = o + 7 + i * 7 by omega]
    exact this
mutual
theorem wlies_of {w : World} {B : Nat} : ∀ (t : LT) (b o : Nat), LiesP w (Fresh w B) t b o → WLies w B t b o
  | .mk k g la ln lc ys bb s ia ic items ta tc tail, b, o, h => by
    simp only [LiesP] at h
    obtain ⟨h1, h2, h3, h4, h5, h6, h7⟩ := h
    simp only [WLies]
    refine ⟨h1.1, ⟨⟨k, h2 0 _ rfl⟩, h1.free o⟩, ⟨h2 1 _ rfl, h2 2 _ rfl, h2 3 _ rfl, h2 4 _ rfl, h2 5 _ rfl, h2 6 _ rfl⟩, fun hp => ?_, fun hp => (h4.2.2.1 hp).1, fun hp => (h5.2.2.1 hp).1, wliesR_of items _ _ h6, wliesR_of tail _ _ h7⟩
    obtain ⟨b', off, rfl, hb, hc⟩ := h3.1.here hp
    have hF := h3.2.1 hp
    exact ⟨b', off, rfl, hF.1, fun i hi => ⟨⟨_, hc i hi⟩, hF.free _⟩⟩
theorem wliesR_of {w : World} {B : Nat} : ∀ (l : List LT) (b o : Nat), LiesPR w (Fresh w B) l b o → WLiesR w B l b o
  | [], _, _, _ => by simp [WLiesR]
  | t :: l, b, o, h => by
    simp only [LiesPR] at h
    simp only [WLiesR]
    exact ⟨wlies_of t b o h.1, wliesR_of l b (o + 7) h.2⟩
end
theorem wheld_of {w : World} {B : Nat} {t : LT} (h : HeldP w (Fresh w B) t) : WHeld w B t := by
  refine ⟨fun hp => ?_, fun hp => (h.2.1.2.2.1 hp).1, fun hp => (h.2.2.1.2.2.1 hp).1, wliesR_of _ _ _ h.2.2.2.1, wliesR_of _ _ _ h.2.2.2.2⟩
  obtain ⟨b', off, e, hb, hc⟩ := h.1.1.here hp
  have hF := h.1.2.1 hp
  rw [e] at hF
  exact ⟨b', off, e, hF.1, fun i hi => ⟨⟨_, hc i hi⟩, hF.free _⟩⟩
end Go.Proofs.Ytgboiopkihemaaa
