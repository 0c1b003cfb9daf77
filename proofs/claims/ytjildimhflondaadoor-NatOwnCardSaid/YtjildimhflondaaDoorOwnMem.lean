/-
  Answers that lie apart: what a write to one leaves of the others.
-/
import Derived.Test.YtjildimhflondaaDoorDivA
import Derived.Test.YtjildimhflondaaDoorRefDiv
import Derived.Test.YtjildimhflondaaDoorShiftN
namespace Go.Proofs.YtjildimhflondaaDoor
open Go.RowKit

theorem limbs_top (n m : Nat) (h : (limbs n).length = m + 1) : lim (limbs n) m ≠ 0 := by
  have ht := limbs_trim n
  have e : limbs n = (limbs n).take m ++ [lim (limbs n) m] := by
    rw [← take_snoc _ _ (by omega), ← h, List.take_length]
  intro h0
  rw [h0] at e
  rw [e, trimL_snoc_zero] at ht
  have := trimL_len ((limbs n).take m)
  rw [ht] at this
  simp [h] at this
  omega
theorem New.apart {w w' : World} {g base : Nat} {v : Value} {xs : List Nat} (h : New w base v xs) (ho : Only g w w') (hg : v.ownBlock ≠ some g) : New w' base v xs := by
  obtain ⟨A, n, cap, rfl, hs, hc⟩ := h
  rcases hc with ⟨rfl, rfl⟩ | ⟨b, cur, rfl, hb, hh, hz⟩
  · exact ⟨none, n, 0, rfl, ⟨hs.len, hs.le, hs.max, hs.ok, fun hn => absurd hs.le (by omega), hs.nil_⟩, .inl ⟨rfl, rfl⟩⟩
  · have hbg : b ≠ g := fun e => hg (by rw [e]; rfl)
    refine ⟨_, n, cap, rfl, ⟨hs.len, hs.le, hs.max, hs.ok, fun hn => ?_, hs.nil_⟩, .inr ⟨b, cur, rfl, hb, (ho.block b hbg).trans hh, hz⟩⟩
    obtain ⟨b', off, e, hb', hcell⟩ := hs.here hn
    have e1 : b = b' := congrArg Addr.block (Option.some.inj e)
    exact ⟨b', off, e, by rw [ho.size]; exact hb', fun i hi => (World.cell?_of_block (w := w) (a := ⟨b', off + i, none⟩) (ho.block b' (by omega))).trans (hcell i hi)⟩
/-- An answer's block lies from lo on, below hi. -/
def Tier (lo hi : Nat) (v : Value) : Prop := ∀ g, v.ownBlock = some g → lo ≤ g ∧ g < hi
theorem New.tier {w : World} {base : Nat} {v : Value} {xs : List Nat} (h : New w base v xs) : Tier base w.heap.size v := by
  obtain ⟨A, n, cap, rfl, hs, hc⟩ := h
  intro g hg
  rcases hc with ⟨rfl, rfl⟩ | ⟨b, cur, rfl, hb, hh, hz⟩
  · cases hg
  · have e : b = g := Option.some.inj hg
    subst e
    refine ⟨hb, ?_⟩
    rcases Nat.lt_or_ge b w.heap.size with hlt | hge
    · exact hlt
    · rw [Array.getElem?_eq_none hge] at hh; cases hh
/-- A block of which the first n cells hold limbs. -/
def NRow (w : World) (g n : Nat) : Prop := ∃ cur : Array Value, w.heap[g]? = some (.cells cur 32 (0, 0)) ∧ ∀ i, i < n → ∃ x : Nat, x < 4294967296 ∧ cur[i]? = some (.int .u32 (x : Int))
theorem NRow.frozen {w : World} {g n : Nat} (h : NRow w g n) (i : Nat) : w.frozen? ⟨g, i, none⟩ = false := by
  obtain ⟨cur, hh, _⟩ := h
  simp [World.frozen?, hh]
theorem NRow.cell {w : World} {g n : Nat} (h : NRow w g n) (i : Nat) (hi : i < n) : ∃ x : Nat, x < 4294967296 ∧ w.cell? ⟨g, i, none⟩ = some (.int .u32 (x : Int)) := by
  obtain ⟨cur, hh, hc⟩ := h
  obtain ⟨x, hx, e⟩ := hc i hi
  exact ⟨x, hx, by rw [cell_of_row w g i _ _ (0, 0) hh, e]⟩
theorem NRow.set_ {w : World} {g n : Nat} (h : NRow w g n) (i z : Nat) (hz : z < 4294967296) {zi : Int} (e : zi = (z : Int)) : NRow (w.setCell ⟨g, i, none⟩ (.int .u32 zi)) g n := by
  subst e
  obtain ⟨cur, hh, hc⟩ := h
  refine ⟨cur.setIfInBounds i (.int .u32 (z : Int)), ?_, fun j hj => ?_⟩
  · simp [World.setCell, Array.getElem?_modify, hh]
  · obtain ⟨x, hx, ex⟩ := hc j hj
    by_cases hij : i = j
    · subst hij
      refine ⟨z, hz, ?_⟩
      have : i < cur.size := by
        rcases Nat.lt_or_ge i cur.size with h | h
        · exact h
        · rw [Array.getElem?_eq_none h] at ex; cases ex
      simp [this]
    · exact ⟨x, hx, by rw [Array.getElem?_setIfInBounds_ne hij]; exact ex⟩
theorem new_row {w : World} {base g n c : Nat} {xs : List Nat} (h : New w base (.slice (some ⟨g, 0, none⟩) n c) xs) : NRow w g n := by
  obtain ⟨A, n', cap, e, hs, hc⟩ := h
  simp only [Value.slice.injEq] at e
  obtain ⟨rfl, rfl, rfl⟩ := e
  rcases hc with ⟨h0, _⟩ | ⟨b, cur, e, hb, hh, hz⟩
  · cases h0
  · simp only [Option.some.injEq, Addr.mk.injEq] at e
    obtain ⟨rfl, _⟩ := e
    refine ⟨cur, hh, fun i hi => ⟨lim xs i, hs.ok.getD i, ?_⟩⟩
    obtain ⟨b', off, e, hb', hcell⟩ := hs.here (by omega)
    simp only [Option.some.injEq, Addr.mk.injEq] at e
    obtain ⟨rfl, rfl, _⟩ := e
    have := hcell i hi
    rw [Nat.zero_add, cell_of_row w g i _ _ (0, 0) hh] at this
    exact this
theorem shr0_num {w : World} {u : Value} {a K s : Nat} (hu : Num w u a K) (hK : K ≤ 1000000000) (hs : s ≤ 4096) : Calls Tryd.prog 14 #[u, .int .i64 (-(s : Int))] w (Gives w (a / 2 ^ s)) := by
  rcases Nat.eq_zero_or_pos s with h | h
  · subst h
    have := shl0_num hu hK
    rwa [Nat.pow_zero, Nat.div_one]
  · exact shr_num hu hK h hs
theorem below_append {w w1 : World} {o : Obj} {n c : Nat} (h : (w.alloc o).grownBy w1 (Value.slice (some ⟨w.heap.size, 0, none⟩) n c).ownBlock) : Below w.heap.size w w1 :=
  ((Below.refl _ _).alloc (Nat.le_refl _) _).grown h (by simp) (fun j hj => by have e : w.heap.size = j := Option.some.inj hj; omega)
theorem Own.sl {w : World} {base : Nat} {v : Value} {xs : List Nat} (h : Own w base v xs) : ∃ A c, v = .slice A xs.length c ∧ Sl w A xs.length c xs := by
  obtain ⟨A, n, c, e, hs, _⟩ := h.new
  have := hs.len
  subst this
  exact ⟨A, c, e, hs⟩
def pickV (v0 v1 v2 v3 v4 v5 v6 v7 : Value) : Nat → Value
  | 0 => v0
  | 1 => v1
  | 2 => v2
  | 3 => v3
  | 4 => v4
  | 5 => v5
  | 6 => v6
  | _ => v7
def pickN (s0 s1 s2 s3 s4 s5 s6 s7 s8 : Nat) : Nat → Nat
  | 0 => s0
  | 1 => s1
  | 2 => s2
  | 3 => s3
  | 4 => s4
  | 5 => s5
  | 6 => s6
  | 7 => s7
  | _ => s8
theorem mono_le (T : Nat → Nat) (hT : ∀ r, T r ≤ T (r + 1)) {r s : Nat} (h : r ≤ s) : T r ≤ T s := by
  induction h with
  | refl => exact Nat.le_refl _
  | step _ ih => exact Nat.le_trans ih (hT _)
theorem tier_unique (T : Nat → Nat) (hT : ∀ r, T r ≤ T (r + 1)) {g r s : Nat} (h1 : T r ≤ g ∧ g < T (r + 1)) (h2 : T s ≤ g ∧ g < T (s + 1)) : r = s := by
  rcases Nat.lt_trichotomy r s with h | h | h
  · have := mono_le T hT (show r + 1 ≤ s from h); omega
  · exact h
  · have := mono_le T hT (show s + 1 ≤ r from h); omega
def rankV (i : Nat) : Nat := if i < 4 then i + 2 else if i < 6 then i - 4 else i
theorem own_apart (v0 v1 v2 v3 v4 v5 v6 v7 : Value) (s0 s1 s2 s3 s4 s5 s6 s7 s8 : Nat) (hT : ∀ r, pickN s0 s1 s2 s3 s4 s5 s6 s7 s8 r ≤ pickN s0 s1 s2 s3 s4 s5 s6 s7 s8 (r + 1))
    (h : ∀ i, i < 8 → Tier (pickN s0 s1 s2 s3 s4 s5 s6 s7 s8 (rankV i)) (pickN s0 s1 s2 s3 s4 s5 s6 s7 s8 (rankV i + 1)) (pickV v0 v1 v2 v3 v4 v5 v6 v7 i)) :
    ∀ i k, i < 8 → k < 8 → i ≠ k → ∀ g, (pickV v0 v1 v2 v3 v4 v5 v6 v7 i).ownBlock = some g → (pickV v0 v1 v2 v3 v4 v5 v6 v7 k).ownBlock ≠ some g := by
  intro i k hi hk hne g h1 h2
  have := tier_unique _ hT (h i hi g h1) (h k hk g h2)
  unfold rankV at this
  apply hne
  split at this <;> split at this <;> (try split at this) <;> (try split at this) <;> omega
theorem all8 {P : Nat → Prop} (h0 : P 0) (h1 : P 1) (h2 : P 2) (h3 : P 3) (h4 : P 4) (h5 : P 5) (h6 : P 6) (h7 : P 7) : ∀ i, i < 8 → P i := by
  intro i hi
  rcases (show i = 0 ∨ i = 1 ∨ i = 2 ∨ i = 3 ∨ i = 4 ∨ i = 5 ∨ i = 6 ∨ i = 7 by omega) with rfl | rfl | rfl | rfl | rfl | rfl | rfl | rfl <;> assumption
theorem own_mono (s0 s1 s2 s3 s4 s5 s6 s7 s8 : Nat) (z0 : s0 ≤ s1) (z1 : s1 ≤ s2) (z2 : s2 ≤ s3) (z3 : s3 ≤ s4) (z4 : s4 ≤ s5) (z5 : s5 ≤ s6) (z6 : s6 ≤ s7) (z7 : s7 ≤ s8) : ∀ r, pickN s0 s1 s2 s3 s4 s5 s6 s7 s8 r ≤ pickN s0 s1 s2 s3 s4 s5 s6 s7 s8 (r + 1) := by
  intro r
  rcases (show r = 0 ∨ r = 1 ∨ r = 2 ∨ r = 3 ∨ r = 4 ∨ r = 5 ∨ r = 6 ∨ r = 7 ∨ 8 ≤ r by omega) with rfl | rfl | rfl | rfl | rfl | rfl | rfl | rfl | h
  · exact z0
  · exact z1
  · exact z2
  · exact z3
  · exact z4
  · exact z5
  · exact z6
  · exact z7
  · obtain ⟨t, rfl⟩ : ∃ t, r = t + 8 := ⟨r - 8, by omega⟩
    exact Nat.le_refl _
theorem Tier.mono {lo hi lo' hi' : Nat} {v : Value} (h : Tier lo hi v) (h1 : lo' ≤ lo) (h2 : hi ≤ hi') : Tier lo' hi' v := fun g hg => by have := h g hg; omega
/-- What holds at the head of the round over the eight answers. -/
structure OwnAt (w2 : World) (gl : Nat) (O : Obj) (V : Nat → Value) (M : Nat → Nat) (j : Nat) (wr : World) : Prop where
  new : ∀ i, j ≤ i → i < 8 → New wr w2.heap.size (V i) (limbs (M i))
  list : wr.heap[gl]? = some O
  bel : Below w2.heap.size w2 wr
end Go.Proofs.YtjildimhflondaaDoor
