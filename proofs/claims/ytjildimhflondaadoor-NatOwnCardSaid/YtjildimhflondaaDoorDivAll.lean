/-
  nat.Div: what it answers, of any two numbers.
-/
import Derived.Test.YtjildimhflondaaDoorLong2
import Derived.Test.YtjildimhflondaaDoorRefCmp
namespace Go.Proofs.YtjildimhflondaaDoor
open Go.RowKit

set_option maxHeartbeats 800000 in
theorem div_long_any (A1 : Option Addr) (n1 c1 : Nat) (xs : List Nat) (A2 : Option Addr) (n2 c2 : Nat) (ys : List Nat) (w : World) (h1 : Sl w A1 n1 c1 xs) (h2 : Sl w A2 n2 c2 ys) (b1 : n1 ≤ 100000000) (hle : (limbs (val ys)).length ≤ (limbs (val xs)).length) (hone : 1 < (limbs (val ys)).length) :
    Calls Tryd.prog 9 #[.slice A1 n1 c1, .slice A2 n2 c2] w (Gives2 w (val xs / val ys) (val xs % val ys)) := by
  have t1 := h1.trim
  have t2 := h2.trim
  have k1 := limbs_len_val h1.ok
  have k3 := h1.len
  have hvx := limbs_val (val xs)
  have hvy := limbs_val (val ys)
  obtain ⟨m1, M1⟩ : ∃ m, Hid (m = (limbs (val xs)).length) := ⟨_, rfl⟩
  obtain ⟨m, hm⟩ : ∃ m, (limbs (val ys)).length = m + 1 := ⟨(limbs (val ys)).length - 1, by omega⟩
  have M2 : Hid (m + 1 = (limbs (val ys)).length) := hm.symm
  rw [← M1.out] at t1 k1 hle
  rw [hm] at t2 hle hone
  have bm1 : m1 ≤ 100000000 := by omega
  have e0 : (((m : Int) + 1) == 0) = false := beq_eq_false_iff_ne.2 (by omega)
  have e1 : (((m : Int) + 1) == 1) = false := beq_eq_false_iff_ne.2 (by omega)
  have hdiv := divLong_any A1 m1 c1 _ A2 m c2 _ w t1 t2 (by rw [hvy, hm]) hle bm1
  rw [hvx, hvy] at hdiv
  have HDV := Lib.hid hdiv
  clear k1 k3 hvx hvy hm hdiv
  go_enter Tryd.func9, Tryd.ntmps9
  go_wp2_with fail
  refine (trim_at _ _ _ _ _ h1 m1 M1).mono ?_
  rintro e w' ⟨rfl, rfl⟩
  go_wp2_with fail
  refine (trim_at _ _ _ _ _ h2 (m + 1) M2).mono ?_
  rintro e w' ⟨rfl, rfl⟩
  go_wp2_with fail
  refine HDV.out.mono ?_
  rintro e w1 ⟨u, v, rfl, hu, hv, hb⟩
  go_wp2_with fail
  go_ret2
  exact ⟨u, v, rfl, hu, hv, hb⟩

/-- What is left: nothing of b nought. -/
def remZ (a b : Nat) : Nat := if b = 0 then 0 else a % b
theorem div_num {w : World} {u v : Value} {a b K L : Nat} (hu : Num w u a K) (hv : Num w v b L) (hK : K ≤ 100000000) : Calls Tryd.prog 9 #[u, v] w (Gives2 w (a / b) (remZ a b)) := by
  obtain ⟨A1, n1, c1, xs, rfl, s1, rfl, k1⟩ := hu
  obtain ⟨A2, n2, c2, ys, rfl, s2, rfl, k2⟩ := hv
  unfold remZ
  by_cases h0 : val ys = 0
  · rw [if_pos h0, h0, Nat.div_zero]
    exact div_zero_any _ _ _ _ _ _ _ _ _ s1 s2 h0
  · rw [if_neg h0]
    have hl0 : (limbs (val ys)).length ≠ 0 := by
      intro h
      exact h0 ((limbs_nil_iff _).1 (List.eq_nil_of_length_eq_zero h))
    by_cases h1 : (limbs (val ys)).length = 1
    · exact div_one_any _ _ _ _ _ _ _ _ _ s1 s2 (by omega) h1
    · by_cases h2 : (limbs (val xs)).length < (limbs (val ys)).length
      · have hlt := lt_of_len h2
        rw [Nat.div_eq_of_lt hlt, Nat.mod_eq_of_lt hlt]
        exact div_less_any _ _ _ _ _ _ _ _ _ s1 s2 (by omega) h2 (by omega)
      · exact div_long_any _ _ _ _ _ _ _ _ _ s1 s2 (by omega) (by omega) (by omega)
end Go.Proofs.YtjildimhflondaaDoor
