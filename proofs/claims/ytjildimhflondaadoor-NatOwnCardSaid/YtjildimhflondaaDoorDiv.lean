/-
  nat.Div by nought, by one limb, and of a smaller number.
-/
import Derived.Test.YtjildimhflondaaDoorDivS
namespace Go.Proofs.YtjildimhflondaaDoor
open Go.RowKit

theorem val_one (xs : List Nat) (h : xs.length = 1) : val xs = lim xs 0 := by
  match xs, h with
  | [x], _ => rw [val_cons, val_nil, lim_cons_zero, Nat.mul_zero, Nat.add_zero]
theorem limbs_one (x : Nat) (h : x < 4294967296) : trimL [x] = limbs x := by
  have := trimL_limbs (xs := [x]) (Ok.cons h Ok.nil)
  rwa [val_cons, val_nil, Nat.mul_zero, Nat.add_zero] at this

set_option maxHeartbeats 800000 in
theorem div_zero_any (A1 : Option Addr) (n1 c1 : Nat) (xs : List Nat) (A2 : Option Addr) (n2 c2 : Nat) (ys : List Nat) (w : World) (h1 : Sl w A1 n1 c1 xs) (h2 : Sl w A2 n2 c2 ys) (hz : val ys = 0) :
    Calls Tryd.prog 9 #[.slice A1 n1 c1, .slice A2 n2 c2] w (Gives2 w 0 0) := by
  have e2 : Hid (0 = (limbs (val ys)).length) := by rw [hz]; exact rfl
  clear hz
  go_enter Tryd.func9, Tryd.ntmps9
  go_wp2_with fail
  refine (trim_any _ _ _ _ _ h1).mono ?_
  rintro e w' ⟨rfl, rfl⟩
  go_wp2_with fail
  refine (trim_at _ _ _ _ _ h2 0 e2).mono ?_
  rintro e w' ⟨rfl, rfl⟩
  go_wp2_with fail
  go_ret2
  exact ⟨_, _, rfl, New.nil _ _, New.nil _ _, Below.refl _ _⟩

set_option maxHeartbeats 800000 in
theorem div_one_any (A1 : Option Addr) (n1 c1 : Nat) (xs : List Nat) (A2 : Option Addr) (n2 c2 : Nat) (ys : List Nat) (w : World) (h1 : Sl w A1 n1 c1 xs) (h2 : Sl w A2 n2 c2 ys) (b1 : n1 ≤ 1000000000) (hone : (limbs (val ys)).length = 1) :
    Calls Tryd.prog 9 #[.slice A1 n1 c1, .slice A2 n2 c2] w (Gives2 w (val xs / val ys) (val xs % val ys)) := by
  have t1 := h1.trim
  have t2 := h2.trim
  have k1 := limbs_len_val h1.ok
  have k3 := h1.len
  have hvx := Lib.hid (limbs_val (val xs))
  have hd : val ys = lim (limbs (val ys)) 0 := by rw [← val_one _ hone, limbs_val]
  have hd2 := (limbs_ok (val ys)).getD 0
  rw [← hd] at hd2
  have hd0 : 0 < val ys := by
    rcases Nat.eq_zero_or_pos (val ys) with h | h
    · rw [h] at hone; simp [limbs_zero] at hone
    · exact h
  rw [hone] at t2
  obtain ⟨b, off, rfl, hb, hc⟩ := t2.here (by omega)
  have hc0 := hc 0 (by omega)
  rw [← hd, Nat.add_zero] at hc0
  clear hc
  obtain ⟨m1, M1⟩ : ∃ m, Hid (m = (limbs (val xs)).length) := ⟨_, rfl⟩
  rw [← M1.out] at t1 k1
  have bm1 : m1 ≤ 1000000000 := by omega
  have e2 := Lib.hid hone.symm
  have hrd : val xs % val ys < val ys := Nat.mod_lt _ hd0
  clear k1 k3 hone hd
  obtain ⟨D, HD⟩ : ∃ D, Hid (D = val ys) := ⟨_, rfl⟩
  rw [← HD.out] at hc0 hd2 hd0 hrd ⊢
  obtain ⟨R, HR⟩ : ∃ R, Hid (R = val xs % D) := ⟨_, rfl⟩
  rw [← HR.out] at hrd
  go_enter Tryd.func9, Tryd.ntmps9
  go_wp2_with fail
  refine (trim_at _ _ _ _ _ h1 m1 M1).mono ?_
  rintro e w' ⟨rfl, rfl⟩
  go_wp2_with fail
  refine (trim_at _ _ _ _ _ h2 1 e2).mono ?_
  rintro e w' ⟨rfl, rfl⟩
  go_wp2_with fail
  refine (divSmall_any _ _ _ _ D _ t1 hd0 hd2 bm1).mono ?_
  rintro e w1 ⟨v, rfl, hnew, hbel⟩
  rw [hvx.out, ← HR.out]
  rw [hvx.out] at hnew
  have HNW := Lib.hid hnew
  clear hnew
  have hB := Blk.lit1 w1 R
  have oR : Ok [R] := Ok.cons (by omega) Ok.nil
  have hsl := hB.slAll oR (by unfold maxLen; simp)
  have hn2 := Lib.hid (hB.new (base := w.heap.size) oR (by unfold maxLen; simp) hbel.size)
  go_wp2_with fail
  refine (trim_any _ _ _ _ _ hsl).mono ?_
  rintro e w' ⟨rfl, rfl⟩
  go_wp2_with fail
  go_ret2
  have hR : val [R] = R := by rw [val_cons, val_nil, Nat.mul_zero, Nat.add_zero]
  have hnn := hn2.out
  rw [hR] at hnn ⊢
  exact ⟨_, _, rfl, HNW.out.below ((Below.refl _ _).alloc (Nat.le_refl _) _) (Nat.le_refl _), by rw [← HR.out]; exact hnn, hbel.trans (((Below.refl _ _).alloc (Nat.le_refl _) _).mono hbel.size)⟩

set_option maxHeartbeats 800000 in
theorem div_less_any (A1 : Option Addr) (n1 c1 : Nat) (xs : List Nat) (A2 : Option Addr) (n2 c2 : Nat) (ys : List Nat) (w : World) (h1 : Sl w A1 n1 c1 xs) (h2 : Sl w A2 n2 c2 ys) (b1 : n1 ≤ 1000000000) (hlt : (limbs (val xs)).length < (limbs (val ys)).length) (hone : 1 < (limbs (val ys)).length) :
    Calls Tryd.prog 9 #[.slice A1 n1 c1, .slice A2 n2 c2] w (Gives2 w 0 (val xs)) := by
  have t1 := h1.trim
  have k1 := limbs_len_val h1.ok
  have k3 := h1.len
  have t2 := h2.trim
  have k4 := t2.le
  have k5 := t2.max
  unfold maxLen at k5
  have hvx := Lib.hid (limbs_val (val xs))
  obtain ⟨m1, M1⟩ : ∃ m, Hid (m = (limbs (val xs)).length) := ⟨_, rfl⟩
  obtain ⟨m2, M2⟩ : ∃ m, Hid (m = (limbs (val ys)).length) := ⟨_, rfl⟩
  rw [← M1.out] at t1 k1 hlt
  rw [← M2.out] at hlt hone k4
  have bm1 : m1 ≤ 1000000000 := by omega
  have e0 : ((m2 : Int) == 0) = false := by simp; omega
  have e1 : ((m2 : Int) == 1) = false := by simp; omega
  clear t2 k1 k3
  go_enter Tryd.func9, Tryd.ntmps9
  go_wp2_with fail
  refine (trim_at _ _ _ _ _ h1 m1 M1).mono ?_
  rintro e w' ⟨rfl, rfl⟩
  go_wp2_with fail
  refine (trim_at _ _ _ _ _ h2 m2 M2).mono ?_
  rintro e w' ⟨rfl, rfl⟩
  go_wp2_with fail
  refine (norm_any _ _ _ _ _ t1 bm1).mono ?_
  rintro e w1 ⟨v, rfl, hnew, hbel⟩
  rw [hvx.out] at hnew
  go_wp2_with fail
  go_ret2
  exact ⟨_, _, rfl, New.nil _ _, hnew, hbel⟩
end Go.Proofs.YtjildimhflondaaDoor
