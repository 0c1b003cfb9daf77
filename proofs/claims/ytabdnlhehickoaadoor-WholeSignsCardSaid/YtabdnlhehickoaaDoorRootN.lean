/-
  The root of a number: what it is, and Newton's step.
-/
import Derived.Test.YtabdnlhehickoaaDoorWhE
namespace Go.Proofs.YtabdnlhehickoaaDoor
/-- The greatest number not above k whose square is not above m. -/
def rootUp (m : Nat) : Nat → Nat
  | 0 => 0
  | k + 1 => if (k + 1) * (k + 1) ≤ m then k + 1 else rootUp m k
theorem rootUp_sq (m k : Nat) : rootUp m k * rootUp m k ≤ m := by
  induction k with
  | zero => simp [rootUp]
  | succ k ih =>
    unfold rootUp
    split
    · assumption
    · exact ih
theorem rootUp_max (m k j : Nat) (hj : j ≤ k) (h : j * j ≤ m) : j ≤ rootUp m k := by
  induction k with
  | zero => omega
  | succ k ih =>
    unfold rootUp
    split
    · exact hj
    · rename_i hn
      rcases Nat.lt_or_ge k j with h1 | h1
      · obtain rfl : j = k + 1 := by omega
        exact absurd h hn
      · exact ih h1
def rootN (m : Nat) : Nat := rootUp m m
theorem rootN_sq (m : Nat) : rootN m * rootN m ≤ m := rootUp_sq m m
theorem rootN_max {m j : Nat} (h : j * j ≤ m) : j ≤ rootN m := by
  refine rootUp_max m m j ?_ h
  rcases Nat.eq_zero_or_pos j with h0 | h0
  · omega
  · exact Nat.le_trans (Nat.le_mul_of_pos_left j h0) h
theorem rootN_lt (m : Nat) : m < (rootN m + 1) * (rootN m + 1) := by
  rcases Nat.lt_or_ge m ((rootN m + 1) * (rootN m + 1)) with h | h
  · exact h
  · have := rootN_max h; omega
theorem rootN_unique {m r : Nat} (h1 : r * r ≤ m) (h2 : m < (r + 1) * (r + 1)) : r = rootN m := by
  have h3 := rootN_max h1
  rcases Nat.lt_or_ge r (rootN m) with h | h
  · have h4 : (r + 1) * (r + 1) ≤ rootN m * rootN m := Nat.mul_le_mul h h
    have h5 := rootN_sq m
    omega
  · omega
theorem rootN_zero : rootN 0 = 0 := rfl
theorem rootN_pos {m : Nat} (h : m ≠ 0) : 0 < rootN m := by
  have := rootN_max (m := m) (j := 1) (by omega)
  omega
theorem rootN_le (m : Nat) : rootN m ≤ m := by
  rcases Nat.eq_zero_or_pos (rootN m) with h0 | h0
  · omega
  · exact Nat.le_trans (Nat.le_mul_of_pos_left _ h0) (rootN_sq m)
/-- Newton's step does not go below the root. -/
theorem newton_ge (m g : Nat) (hg : 0 < g) : rootN m ≤ (g + m / g) / 2 := by
  generalize hr : rootN m = r
  have h1 : r * r ≤ m := by rw [← hr]; exact rootN_sq m
  rw [Nat.le_div_iff_mul_le (by decide)]
  -- 2 r ≤ g + m / g
  rcases Nat.lt_or_ge g (2 * r) with h | h
  · have h2 : (2 * r - g) * g ≤ r * r := by
      obtain ⟨d, hd⟩ : ∃ d : Nat, (g = r + d ∧ d ≤ r) ∨ (g + d = r) := by
        rcases Nat.lt_or_ge g r with h3 | h3
        · exact ⟨r - g, .inr (by omega)⟩
        · exact ⟨g - r, .inl (by omega)⟩
      rcases hd with ⟨rfl, hdr⟩ | h4
      · have e : 2 * r - (r + d) = r - d := by omega
        rw [e, Nat.mul_comm, Nat.mul_sub, Nat.add_mul, Nat.add_mul]
        have : r * d = d * r := Nat.mul_comm _ _
        omega
      · obtain rfl : r = g + d := h4.symm
        have e : 2 * (g + d) - g = g + 2 * d := by omega
        rw [e]
        have e2 : (g + d) * (g + d) = g * g + 2 * d * g + d * d := by
          rw [Nat.add_mul, Nat.mul_add, Nat.mul_add, Nat.mul_assoc 2 d g, Nat.mul_comm g d]; omega
        rw [e2, Nat.add_mul]
        omega
    have h3 : 2 * r - g ≤ m / g := by rw [Nat.le_div_iff_mul_le hg]; exact Nat.le_trans h2 h1
    generalize m / g = q at *
    omega
  · generalize m / g = q
    omega
/-- Above the root Newton's step goes down. -/
theorem newton_lt {m g : Nat} (hg : rootN m < g) : (g + m / g) / 2 < g := by
  have h1 : m < g * g := Nat.lt_of_lt_of_le (rootN_lt m) (Nat.mul_le_mul hg hg)
  have h2 : m / g < g := by rw [Nat.div_lt_iff_lt_mul (by omega)]; exact h1
  omega
/-- What a slice's value leads to, as a number. -/
def numAt (w : World) (v : Value) : Nat :=
  match v with
  | .slice (some a) n _ => val ((List.range n).map fun i => match w.cell? ⟨a.block, a.off + i, none⟩ with | some (.int _ z) => z.toNat | _ => 0)
  | _ => 0
theorem New.at_ {w : World} {base : Nat} {v : Value} {m : Nat} (h : New w base v (limbs m)) : numAt w v = m := by
  obtain ⟨A, n, c, rfl, hs, _⟩ := h
  rcases Nat.eq_zero_or_pos n with h0 | h0
  · have hl := hs.len
    rw [h0] at hl
    have : limbs m = [] := List.length_eq_zero_iff.1 hl.symm
    have hm := (limbs_nil_iff m).1 this
    subst h0
    unfold numAt
    cases A <;> simp [val, hm]
  · obtain ⟨b, off, rfl, _, hc⟩ := hs.here h0
    unfold numAt
    have : ((List.range n).map fun i => match w.cell? ⟨b, off + i, none⟩ with | some (.int _ z) => z.toNat | _ => 0) = limbs m := by
      apply List.ext_getElem
      · simp [hs.len]
      · intro i h1 h2
        have hi : i < n := by simpa using h1
        simp only [List.getElem_map, List.getElem_range, hc i hi, Int.toNat_natCast]
        rw [lim_eq, List.getElem?_eq_getElem h2]; rfl
    dsimp only
    rw [this]
    exact limbs_val m
end Go.Proofs.YtabdnlhehickoaaDoor
