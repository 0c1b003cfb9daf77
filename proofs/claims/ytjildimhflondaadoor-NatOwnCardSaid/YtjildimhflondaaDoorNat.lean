/-
  The contracts of nat's functions over values of which the number alone is known.
-/
import Derived.Test.YtjildimhflondaaDoorLives
namespace Go.Proofs.YtjildimhflondaaDoor
open Go.RowKit

/-- The value v is a slice of at most K limbs that has the number m. -/
def Num (w : World) (v : Value) (m K : Nat) : Prop := ∃ A n c xs, v = .slice A n c ∧ Sl w A n c xs ∧ val xs = m ∧ n ≤ K
theorem Num.below {w w' : World} {v : Value} {m K : Nat} (h : Num w v m K) (hb : Below w.heap.size w w') : Num w' v m K := by
  obtain ⟨A, n, c, xs, e, hs, hv, hn⟩ := h
  exact ⟨A, n, c, xs, e, hs.below hb, hv, hn⟩
theorem Num.alloc {w : World} {v : Value} {m K : Nat} (h : Num w v m K) (o : Obj) : Num (w.alloc o) v m K := h.below ((Below.refl _ _).alloc (Nat.le_refl _) o)
theorem Num.lt {w : World} {v : Value} {m K : Nat} (h : Num w v m K) : m < 4294967296 ^ K := by
  obtain ⟨A, n, c, xs, e, hs, hv, hn⟩ := h
  have h1 := val_lt hs.ok
  have h2 : 4294967296 ^ xs.length ≤ 4294967296 ^ K := Nat.pow_le_pow_right (by decide) (by have := hs.len; omega)
  omega
theorem Num.of_sl {w : World} {A : Option Addr} {n c : Nat} {xs : List Nat} {K : Nat} (h : Sl w A n c xs) (hn : n ≤ K) : Num w (.slice A n c) (val xs) K := ⟨_, _, _, _, rfl, h, rfl, hn⟩
/-- What a call told. -/
theorem New.num {w : World} {base : Nat} {v : Value} {m : Nat} (h : New w base v (limbs m)) (K : Nat) (hm : m < 4294967296 ^ K) : Num w v m K := by
  obtain ⟨A, n, c, rfl, hs, _⟩ := h
  exact ⟨A, n, c, _, rfl, hs, limbs_val m, by have := limbs_len_le hm; have := hs.len; omega⟩
theorem New.next {w w' : World} {base : Nat} {v : Value} {xs : List Nat} (h : New w base v xs) (hb : Below w.heap.size w w') : New w' base v xs := h.below hb (Nat.le_refl _)
theorem New.lim {w : World} {base : Nat} {v : Value} {m K : Nat} (_h : New w base v (limbs m)) (hm : m < 4294967296 ^ K) : (limbs m).length ≤ K := limbs_len_le hm

theorem lt_add {a b K L : Nat} (ha : a < 4294967296 ^ K) (hb : b < 4294967296 ^ L) : a + b < 4294967296 ^ (max K L + 1) := by
  have h1 : 4294967296 ^ K ≤ 4294967296 ^ max K L := Nat.pow_le_pow_right (by decide) (by omega)
  have h2 : 4294967296 ^ L ≤ 4294967296 ^ max K L := Nat.pow_le_pow_right (by decide) (by omega)
  rw [Nat.pow_succ]
  omega
theorem lt_mul {a b K L : Nat} (ha : a < 4294967296 ^ K) (hb : b < 4294967296 ^ L) : a * b < 4294967296 ^ (K + L) := by
  rw [Nat.pow_add]
  exact Nat.mul_lt_mul'' ha hb
theorem lt_up {a K L : Nat} (ha : a < 4294967296 ^ K) (h : K ≤ L) : a < 4294967296 ^ L := by
  have : 4294967296 ^ K ≤ 4294967296 ^ L := Nat.pow_le_pow_right (by decide) h
  omega

section
variable {w : World} {u v : Value} {a b K L : Nat}
theorem add_num (hu : Num w u a K) (hv : Num w v b L) (hK : K ≤ 1000000000) (hL : L ≤ 1000000000) : Calls Tryd.prog 11 #[u, v] w (Gives w (a + b)) := by
  obtain ⟨A1, n1, c1, xs, rfl, s1, rfl, k1⟩ := hu
  obtain ⟨A2, n2, c2, ys, rfl, s2, rfl, k2⟩ := hv
  exact add_any _ _ _ _ _ _ _ _ _ s1 s2 (by omega) (by omega)
theorem sub_num (hu : Num w u a K) (hv : Num w v b L) (hK : K ≤ 1000000000) (hL : L ≤ 1000000000) : Calls Tryd.prog 12 #[u, v] w (Gives w (a - b)) := by
  obtain ⟨A1, n1, c1, xs, rfl, s1, rfl, k1⟩ := hu
  obtain ⟨A2, n2, c2, ys, rfl, s2, rfl, k2⟩ := hv
  exact sub_any _ _ _ _ _ _ _ _ _ s1 s2 (by omega) (by omega)
theorem mul_num' (hu : Num w u a K) (hv : Num w v b L) (hK : K ≤ 1000000000) (hL : L ≤ 1000000000) : Calls Tryd.prog 13 #[u, v] w (Gives w (a * b)) := by
  obtain ⟨A1, n1, c1, xs, rfl, s1, rfl, k1⟩ := hu
  obtain ⟨A2, n2, c2, ys, rfl, s2, rfl, k2⟩ := hv
  exact mul_any _ _ _ _ _ _ _ _ _ s1 s2 (by omega) (by omega)
theorem cmp_num (hu : Num w u a K) (hv : Num w v b L) (hK : K ≤ 1000000000) (hL : L ≤ 1000000000) : Calls Tryd.prog 55 #[u, v] w fun e w' => e = .returned (.int .i64 (cmpN a b)) ∧ w = w' := by
  obtain ⟨A1, n1, c1, xs, rfl, s1, rfl, k1⟩ := hu
  obtain ⟨A2, n2, c2, ys, rfl, s2, rfl, k2⟩ := hv
  exact cmp_any _ _ _ _ _ _ _ _ _ s1 s2 (by omega) (by omega)
theorem norm_num (hu : Num w u a K) (hK : K ≤ 1000000000) : Calls Tryd.prog 10 #[u] w (Gives w a) := by
  obtain ⟨A1, n1, c1, xs, rfl, s1, rfl, k1⟩ := hu
  exact norm_any _ _ _ _ _ s1 (by omega)
end
end Go.Proofs.YtjildimhflondaaDoor
