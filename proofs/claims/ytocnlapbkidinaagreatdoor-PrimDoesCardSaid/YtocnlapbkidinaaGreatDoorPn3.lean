/-
  The laws' small and same (with the document's Same): what they answer. The laws' lives: the document's examples are as it says. The contracts of nat's functions over values of which the number alone is known. math/bits.Len32 (the library's contract, laid at this program's numbers), nat.Bits: what they answer.
-/
import Derived.Test.YtocnlapbkidinaaGreatDoorPn2
import Derived.Shelf.Small.Bits
set_option linter.unusedVariables false
set_option linter.unusedSimpArgs false
set_option linter.unusedSectionVars false
set_option linter.unnecessarySimpa false
namespace Go.Proofs.YtocnlapbkidinaaGreatDoor
section
open Go.RowKit

set_option maxHeartbeats 800000 in
theorem refSame_yes (A1 : Option Addr) (n c1 : Nat) (A2 : Option Addr) (c2 : Nat) (xs : List Nat) (w : World) (h1 : Sl w A1 n c1 xs) (h2 : Sl w A2 n c2 xs) (hn : n ≤ 35184372087808) :
    Calls Tryz.prog 75 #[.slice A1 n c1, .slice A2 n c2] w fun e w' => e = .returned (.bool true) ∧ Below w.heap.size w w' := by
  have hne : ((n : Int) != (n : Int)) = false := by simp
  go_enter Tryz.func75, Tryz.ntmps75
  go_wp2_with fail
  go_loopw [13] (fun i wr => ∃ k : Nat, k ≤ n ∧ i = .int .i64 k ∧ Below w.heap.size w wr) (fun i _ => n - (intOf i).toNat)
  case atStart => exact ⟨0, by omega, rfl, Below.refl _ _⟩
  case round =>
    obtain ⟨k, hk, rfl, hbel⟩ := hrel
    by_cases hkn : k < n
    · obtain ⟨b1, o1, rfl, _, hc1⟩ := (h1.below hbel).here (by omega)
      obtain ⟨b2, o2, rfl, _, hc2⟩ := (h2.below hbel).here (by omega)
      have g1 := hc1 k hkn
      have g2 := hc2 k hkn
      have i1 : (k : Int) < (n : Int) := by omega
      clear hc1 hc2
      go_wp2_with fail
      go_region
      all_goals
        go_wp2_with fail
        go_roundw
        case rel => exact ⟨k + 1, by omega, by go_num, hbel.drew⟩
        case measure => simp [intOf]; omega
    · go_wp2_with fail
      go_ret
      exact ⟨rfl, hbel⟩

end
end Go.Proofs.YtocnlapbkidinaaGreatDoor
namespace Go.Proofs.YtocnlapbkidinaaGreatDoor
section
open Go.RowKit

theorem num20 : numB 10 (⟨#[49, 48, 48, 48, 48, 48, 48, 48, 48, 48, 48, 48, 48, 48, 48, 48, 48, 48, 48, 48, 48]⟩ : ByteArray).data.toList = 100000000000000000000 := by decide
theorem good20 : ∀ k (h : k < (⟨#[49, 48, 48, 48, 48, 48, 48, 48, 48, 48, 48, 48, 48, 48, 48, 48, 48, 48, 48, 48, 48]⟩ : ByteArray).size), digN ((⟨#[49, 48, 48, 48, 48, 48, 48, 48, 48, 48, 48, 48, 48, 48, 48, 48, 48, 48, 48, 48, 48]⟩ : ByteArray)[k]).toNat < 10 := by decide
theorem quo20 : txt 10 14285714285714285714 = [49, 52, 50, 56, 53, 55, 49, 52, 50, 56, 53, 55, 49, 52, 50, 56, 53, 55, 49, 52] := by
  have h := txt_of 10 (by decide) (by decide) [4, 1, 7, 5, 8, 2, 4, 1, 7, 5, 8, 2, 4, 1, 7, 5, 8, 2, 4, 1] (by unfold Okb; decide)
  rw [show valb 10 [4, 1, 7, 5, 8, 2, 4, 1, 7, 5, 8, 2, 4, 1, 7, 5, 8, 2, 4, 1] = 14285714285714285714 by decide] at h
  rw [h]; decide
theorem rem20 : txt 10 2 = [50] := by decide +kernel
theorem hex255 : txt 16 255 = [102, 102] := by decide +kernel
theorem limbs7 : limbs 7 = [7] := by decide +kernel
theorem val_single (x : Nat) : val [x] = x := by rw [val_cons, val_nil, Nat.mul_zero, Nat.add_zero]

theorem New.sl {w : World} {base : Nat} {v : Value} {xs : List Nat} (h : New w base v xs) : ∃ A c, v = .slice A xs.length c ∧ Sl w A xs.length c xs := by
  obtain ⟨A, n, cap, rfl, hs, _⟩ := h
  have := hs.len
  subst this
  exact ⟨A, cap, rfl, hs⟩

end
end Go.Proofs.YtocnlapbkidinaaGreatDoor
namespace Go.Proofs.YtocnlapbkidinaaGreatDoor
section
open Go.RowKit

/-- The value v is a slice of at most K limbs that has the number m. -/
def Num (w : World) (v : Value) (m K : Nat) : Prop := ∃ A n c xs, v = .slice A n c ∧ Sl w A n c xs ∧ val xs = m ∧ n ≤ K
theorem Num.below {w w' : World} {v : Value} {m K : Nat} (h : Num w v m K) (hb : Below w.heap.size w w') : Num w' v m K := by
  obtain ⟨A, n, c, xs, e, hs, hv, hn⟩ := h
  exact ⟨A, n, c, xs, e, hs.below hb, hv, hn⟩
theorem Num.alloc {w : World} {v : Value} {m K : Nat} (h : Num w v m K) (o : Obj) : Num (w.alloc o) v m K := h.below ((Below.refl _ _).alloc (Nat.le_refl _) o)
theorem Num.lt {w : World} {v : Value} {m K : Nat} (h : Num w v m K) : m < 4294967296 ^ K := by
  obtain ⟨A, n, c, xs, e, hs, hv, hn⟩ := h
  have h1 := val_lt hs.ok
  have h2 : 4294967296 ^ xs.length ≤ 4294967296 ^ K := Nat.pow_le_pow_right (by decide) (by have := hs.len; omega)
  omega
theorem Num.of_sl {w : World} {A : Option Addr} {n c : Nat} {xs : List Nat} {K : Nat} (h : Sl w A n c xs) (hn : n ≤ K) : Num w (.slice A n c) (val xs) K := ⟨_, _, _, _, rfl, h, rfl, hn⟩
/-- What a call told. -/
theorem New.num {w : World} {base : Nat} {v : Value} {m : Nat} (h : New w base v (limbs m)) (K : Nat) (hm : m < 4294967296 ^ K) : Num w v m K := by
  obtain ⟨A, n, c, rfl, hs, _⟩ := h
  exact ⟨A, n, c, _, rfl, hs, limbs_val m, by have := limbs_len_le hm; have := hs.len; omega⟩
theorem New.next {w w' : World} {base : Nat} {v : Value} {xs : List Nat} (h : New w base v xs) (hb : Below w.heap.size w w') : New w' base v xs := h.below hb (Nat.le_refl _)
theorem New.lim {w : World} {base : Nat} {v : Value} {m K : Nat} (_h : New w base v (limbs m)) (hm : m < 4294967296 ^ K) : (limbs m).length ≤ K := limbs_len_le hm

theorem lt_add {a b K L : Nat} (ha : a < 4294967296 ^ K) (hb : b < 4294967296 ^ L) : a + b < 4294967296 ^ (max K L + 1) := by
  have h1 : 4294967296 ^ K ≤ 4294967296 ^ max K L := Nat.pow_le_pow_right (by decide) (by omega)
  have h2 : 4294967296 ^ L ≤ 4294967296 ^ max K L := Nat.pow_le_pow_right (by decide) (by omega)
  rw [Nat.pow_succ]
  omega
theorem lt_mul {a b K L : Nat} (ha : a < 4294967296 ^ K) (hb : b < 4294967296 ^ L) : a * b < 4294967296 ^ (K + L) := by
  rw [Nat.pow_add]
  exact Nat.mul_lt_mul'' ha hb
theorem lt_up {a K L : Nat} (ha : a < 4294967296 ^ K) (h : K ≤ L) : a < 4294967296 ^ L := by
  have : 4294967296 ^ K ≤ 4294967296 ^ L := Nat.pow_le_pow_right (by decide) h
  omega

section
variable {w : World} {u v : Value} {a b K L : Nat}
theorem add_num (hu : Num w u a K) (hv : Num w v b L) (hK : K ≤ 1000000000) (hL : L ≤ 1000000000) : Calls Tryz.prog 83 #[u, v] w (Gives w (a + b)) := by
  obtain ⟨A1, n1, c1, xs, rfl, s1, rfl, k1⟩ := hu
  obtain ⟨A2, n2, c2, ys, rfl, s2, rfl, k2⟩ := hv
  exact add_any _ _ _ _ _ _ _ _ _ s1 s2 (by omega) (by omega)
theorem sub_num (hu : Num w u a K) (hv : Num w v b L) (hK : K ≤ 1000000000) (hL : L ≤ 1000000000) : Calls Tryz.prog 85 #[u, v] w (Gives w (a - b)) := by
  obtain ⟨A1, n1, c1, xs, rfl, s1, rfl, k1⟩ := hu
  obtain ⟨A2, n2, c2, ys, rfl, s2, rfl, k2⟩ := hv
  exact sub_any _ _ _ _ _ _ _ _ _ s1 s2 (by omega) (by omega)
theorem mul_num' (hu : Num w u a K) (hv : Num w v b L) (hK : K ≤ 1000000000) (hL : L ≤ 1000000000) : Calls Tryz.prog 87 #[u, v] w (Gives w (a * b)) := by
  obtain ⟨A1, n1, c1, xs, rfl, s1, rfl, k1⟩ := hu
  obtain ⟨A2, n2, c2, ys, rfl, s2, rfl, k2⟩ := hv
  exact mul_any _ _ _ _ _ _ _ _ _ s1 s2 (by omega) (by omega)
theorem cmp_num (hu : Num w u a K) (hv : Num w v b L) (hK : K ≤ 35184372087808) (hL : L ≤ 35184372087808) : Calls Tryz.prog 84 #[u, v] w fun e w' => e = .returned (.int .i64 (cmpN a b)) ∧ w = w' := by
  obtain ⟨A1, n1, c1, xs, rfl, s1, rfl, k1⟩ := hu
  obtain ⟨A2, n2, c2, ys, rfl, s2, rfl, k2⟩ := hv
  exact cmp_any _ _ _ _ _ _ _ _ _ s1 s2 (by omega) (by omega)
theorem norm_num (hu : Num w u a K) (hK : K ≤ 35184372087808) : Calls Tryz.prog 112 #[u] w (Gives w a) := by
  obtain ⟨A1, n1, c1, xs, rfl, s1, rfl, k1⟩ := hu
  exact norm_any _ _ _ _ _ s1 (by omega)
end
end
end Go.Proofs.YtocnlapbkidinaaGreatDoor
namespace Go.Proofs.YtocnlapbkidinaaGreatDoor
section
open Go.RowKit

/-- How many bits a number has. -/
def bl (n : Nat) : Nat := if n = 0 then 0 else n.log2 + 1
theorem bl_zero : bl 0 = 0 := rfl
theorem bl_lt (n : Nat) : n < 2 ^ bl n := by
  unfold bl
  split
  · rename_i h; subst h; decide
  · exact Nat.lt_log2_self
theorem bl_le (n : Nat) (h : n ≠ 0) : 2 ^ (bl n - 1) ≤ n := by
  unfold bl
  rw [if_neg h]
  exact Nat.log2_self_le h
theorem bl_pos (n : Nat) (h : n ≠ 0) : 0 < bl n := by
  unfold bl
  rw [if_neg h]
  omega
theorem bl_unique {n k : Nat} (h0 : n ≠ 0) (h1 : n < 2 ^ k) (h2 : 2 ^ (k - 1) ≤ n) (hk : 0 < k) : k = bl n := by
  have a := bl_lt n
  have b := bl_le n h0
  have c := bl_pos n h0
  have d : k - 1 < bl n := (Nat.pow_lt_pow_iff_right (by decide : 1 < 2)).1 (Nat.lt_of_le_of_lt h2 a)
  have e : bl n - 1 < k := (Nat.pow_lt_pow_iff_right (by decide : 1 < 2)).1 (Nat.lt_of_le_of_lt b h1)
  omega
theorem bl_half (n : Nat) (h : n ≠ 0) : bl n = 1 + bl (n / 2) := by
  have a := bl_lt (n / 2)
  by_cases h1 : n / 2 = 0
  · have : n = 1 := by omega
    subst this
    decide
  · have b := bl_le (n / 2) h1
    have c := bl_pos (n / 2) h1
    refine (bl_unique h ?_ ?_ (by omega)).symm
    · rw [Nat.add_comm, Nat.pow_succ]; omega
    · obtain ⟨j, hj⟩ : ∃ j, bl (n / 2) = j + 1 := ⟨bl (n / 2) - 1, by omega⟩
      rw [hj] at b ⊢
      rw [show 1 + (j + 1) - 1 = j + 1 by omega, Nat.pow_succ]
      rw [show j + 1 - 1 = j by omega] at b
      omega
theorem bitLenAux_bl (f x : Nat) (h : x < 2 ^ f) : Lib.bitLenAux f x = bl x := by
  induction f generalizing x with
  | zero =>
    have : x = 0 := by omega
    subst this; rfl
  | succ f ih =>
    unfold Lib.bitLenAux
    split
    · rename_i h0; subst h0; rfl
    · rename_i h0
      rw [ih (x / 2) (by rw [Nat.pow_succ] at h; omega), bl_half x h0]
theorem bitLen_bl (x : Nat) (h : x < 4294967296) : Lib.bitLen x = bl x := bitLenAux_bl 64 x (Nat.lt_trans h (by decide))

/-- The number of bits of a number, by its limbs. -/
theorem bl_limbs (n m : Nat) (h : (limbs n).length = m + 1) : bl n = m * 32 + bl (lim (limbs n) m) := by
  have hl := limbs_val n
  have ht := limbs_trim n
  have e : limbs n = (limbs n).take m ++ [lim (limbs n) m] := by
    rw [← take_snoc _ _ (by omega), ← h, List.take_length]
  have hne : lim (limbs n) m ≠ 0 := by
    intro h0
    rw [h0] at e
    rw [e, trimL_snoc_zero] at ht
    have := trimL_len ((limbs n).take m)
    rw [ht] at this
    simp [h] at this
    omega
  have hv : n = val ((limbs n).take m) + 4294967296 ^ m * lim (limbs n) m := by
    have := val_snoc ((limbs n).take m) (lim (limbs n) m)
    rw [← e, List.length_take, Nat.min_eq_left (by omega), hl] at this
    exact this
  have hlt := val_take_lt (limbs_ok n) m
  generalize val ((limbs n).take m) = v at hv hlt
  generalize lim (limbs n) m = t at hv hne ⊢
  have a := bl_lt t
  have b := bl_le t hne
  have c := bl_pos t hne
  have hp : 4294967296 ^ m = 2 ^ (m * 32) := by rw [Nat.mul_comm, Nat.pow_mul]
  rw [hp] at hv hlt
  have hn0 : n ≠ 0 := by
    have : 2 ^ (m * 32) ≤ 2 ^ (m * 32) * t := Nat.le_mul_of_pos_right _ (by omega)
    have := Nat.pow_pos (n := m * 32) (show 0 < 2 by decide)
    omega
  refine (bl_unique hn0 ?_ ?_ (by omega)).symm
  · rw [Nat.pow_add]
    have : 2 ^ (m * 32) * (t + 1) ≤ 2 ^ (m * 32) * 2 ^ bl t := Nat.mul_le_mul_left _ a
    rw [Nat.mul_add, Nat.mul_one] at this
    omega
  · rw [show m * 32 + bl t - 1 = m * 32 + (bl t - 1) by omega, Nat.pow_add]
    have : 2 ^ (m * 32) * 2 ^ (bl t - 1) ≤ 2 ^ (m * 32) * t := Nat.mul_le_mul_left _ b
    omega

def ren32 : Go.Shelf.Ren := { f := fun n => if n = 128 then 129 else 0, t := fun n => if n = 3 then 3 else if n = 4 then 4 else if n = 5 then 5 else if n = 9 then 9 else if n = 46 then 79 else if n = 51 then 78 else 0, g := fun _ => 0 }
theorem lays32 : Go.Proofs.Lays.n128 Tryz.prog ren32 where
  mixed := by kernel_rfl
  f128 := by kernel_rfl
  t3 := by kernel_rfl
  a3 := fun _ => by kernel_rfl
  z3 := fun _ => by kernel_rfl
  v3 := fun _ => by kernel_rfl
  t4 := by kernel_rfl
  a4 := fun _ => by kernel_rfl
  z4 := fun _ => by kernel_rfl
  v4 := fun _ => by kernel_rfl
  t5 := by kernel_rfl
  a5 := fun _ => by kernel_rfl
  z5 := fun _ => by kernel_rfl
  v5 := fun _ => by kernel_rfl
  t9 := by kernel_rfl
  a9 := fun _ => by kernel_rfl
  z9 := fun _ => by kernel_rfl
  v9 := fun _ => by kernel_rfl
  t46 := by kernel_rfl
  a46 := fun _ => by kernel_rfl
  z46 := fun _ => by kernel_rfl
  v46 := fun _ => by kernel_rfl
  t51 := by kernel_rfl
  a51 := fun _ => by kernel_rfl
  z51 := fun _ => by kernel_rfl
  v51 := fun _ => by kernel_rfl
theorem len32_any (x : Nat) (hx : x < 4294967296) (w : World) : Calls Tryz.prog 129 #[.int .u32 (x : Int)] w fun e w' => e = .returned (.int .i64 (bl x : Int)) ∧ w = w' := by
  have := Go.Proofs.Any.bits_Len32 lays32 (x : Int) w (by omega) (by omega)
  rw [Int.toNat_natCast, bitLen_bl x hx] at this
  exact this.mono fun e w' ⟨he, hw⟩ => ⟨he, hw.symm⟩

set_option maxHeartbeats 800000 in
theorem bits_any (A : Option Addr) (n c : Nat) (xs : List Nat) (w : World) (h : Sl w A n c xs) (hn : n ≤ 35184372087808) :
    Calls Tryz.prog 113 #[.slice A n c] w fun e w' => e = .returned (.int .i64 (bl (val xs) : Int)) ∧ w = w' := by
  have ht := h.trim
  have hl := limbs_len_val h.ok
  have hlen := h.len
  rcases hm : (limbs (val xs)).length with _ | m
  · have e0 : val xs = 0 := (limbs_nil_iff _).1 (List.eq_nil_of_length_eq_zero hm)
    have H0 := Lib.hid e0
    have HM : Hid (0 = (limbs (val xs)).length) := hm.symm
    clear e0 ht hl hlen hm
    go_enter Tryz.func113, Tryz.ntmps113
    go_wp2_with (go_at_call 111; refine (trim_at _ _ _ _ _ h 0 HM).mono ?_; rintro e w' ⟨rfl, rfl⟩)
    go_ret
    exact ⟨by rw [H0.out]; rfl, rfl⟩
  · rw [hm] at ht hl
    have HM : Hid (m + 1 = (limbs (val xs)).length) := hm.symm
    have HB := Lib.hid (bl_limbs _ m hm)
    obtain ⟨b, off, rfl, hb, hc⟩ := ht.here (by omega)
    have hck := hc m (by omega)
    have hx := (limbs_ok (val xs)).getD m
    have hbm : m + 1 ≤ 35184372087808 := by omega
    have hne : (((m : Int) + 1) == 0) = false := beq_eq_false_iff_ne.2 (by omega)
    generalize lim (limbs (val xs)) m = t at hck hx HB
    have hbt : bl t ≤ 32 := by
      rcases Nat.lt_or_ge 32 (bl t) with h1 | h1
      · exfalso
        have h0 : t ≠ 0 := by intro h0; subst h0; rw [bl_zero] at h1; omega
        have h2 := bl_le t h0
        have h3 : 2 ^ 32 ≤ 2 ^ (bl t - 1) := Nat.pow_le_pow_right (by decide) (by omega)
        omega
      · exact h1
    clear hc ht hl hlen hm
    go_enter Tryz.func113, Tryz.ntmps113
    go_wp2_with (first | (go_at_call 111; refine (trim_at _ _ _ _ _ h (m + 1) HM).mono ?_; rintro e w' ⟨rfl, rfl⟩) | (go_at_call 129; refine (len32_any t hx _).mono ?_; rintro e w' ⟨rfl, rfl⟩))
    go_ret
    refine ⟨?_, rfl⟩
    rw [HB.out]
    exact congrArg (fun x => Ending.returned (.int .i64 x)) (by omega)
theorem bits_num {w : World} {u : Value} {a K : Nat} (hu : Num w u a K) (hK : K ≤ 35184372087808) : Calls Tryz.prog 113 #[u] w fun e w' => e = .returned (.int .i64 (bl a : Int)) ∧ w = w' := by
  obtain ⟨A1, n1, c1, xs, rfl, s1, rfl, k1⟩ := hu
  exact bits_any _ _ _ _ _ s1 (by omega)
end
end Go.Proofs.YtocnlapbkidinaaGreatDoor
