/-
  nat.Small and the document's own: what they answer. nat.Shift far down.
-/
import Derived.Test.YtjildimhflondaaDoorRefBits
namespace Go.Proofs.YtjildimhflondaaDoor
open Go.RowKit

/-- What Small tells: the number, if it has at most 63 bits. -/
def smN (a : Nat) : Int := if 63 < bl a then 0 else (a : Int)
def smB (a : Nat) : Bool := if 63 < bl a then false else true
theorem small63 {xs : List Nat} (h : ¬ 63 < bl (val xs)) : val xs = lim xs 1 * 4294967296 + lim xs 0 ∧ lim xs 1 < 2147483648 := by
  have h1 := bl_lt (val xs)
  have h2 : 2 ^ bl (val xs) ≤ 2 ^ 63 := Nat.pow_le_pow_right (by decide) (by omega)
  have h3 := drop_two xs 0
  rw [List.drop_zero, Nat.zero_add, Nat.zero_add] at h3
  omega

set_option maxHeartbeats 1600000 in
theorem nsmall_num {w : World} {u : Value} {a K : Nat} (hu : Num w u a K) (hK : K ≤ 1000000) : Calls Tryd.prog 60 #[u] w fun e w' => e = .returned (.tuple #[.int .i64 (smN a), .bool (smB a)]) ∧ w = w' := by
  have hbl := bl_bd hu.lt
  have HBN := Lib.hid (bits_num hu (by omega))
  obtain ⟨A1, n1, c1, xs, rfl, s1, rfl, k1⟩ := hu
  have x0 := s1.ok.getD 0
  have x1 := s1.ok.getD 1
  by_cases h : 63 < bl (val xs)
  · unfold smN smB
    rw [if_pos h, if_pos h]
    generalize bl (val xs) = m at *
    clear x0 x1
    go_enter Tryd.func60, Tryd.ntmps60
    go_wp2_with fail
    refine HBN.out.mono ?_
    rintro e w1 ⟨rfl, rfl⟩
    go_wp2_with fail
    go_ret2
    exact ⟨rfl, rfl⟩
  · have hs := small63 h
    unfold smN smB
    rw [if_neg h, if_neg h]
    have hor := or_join _ _ x1 x0
    have HE := Lib.hid hs.1
    have hl1 := hs.2
    clear hs
    generalize bl (val xs) = m at *
    go_enter Tryd.func60, Tryd.ntmps60
    go_wp2_with fail
    refine HBN.out.mono ?_
    rintro e w1 ⟨rfl, rfl⟩
    go_wp2_with (go_at_call 54; refine (limbAt_any _ _ _ _ _ _ s1 (by omega)).mono ?_; rintro e w' ⟨rfl, rfl⟩)
    go_ret2
    refine ⟨?_, rfl⟩
    rw [HE.out]
    exact congrArg (fun z => Ending.returned (Value.tuple #[Value.int .i64 z, Value.bool true])) (by omega)

set_option maxHeartbeats 1600000 in
theorem rsmall_num {w : World} {u : Value} {a K : Nat} (hu : Num w u a K) (hK : K ≤ 1000000) : Calls Tryd.prog 63 #[u] w fun e w' => e = .returned (.tuple #[.int .i64 (smN a), .bool (smB a)]) ∧ Below w.heap.size w w' := by
  have hbl := bl_bd hu.lt
  have HBN := Lib.hid (rbits_num hu (by omega))
  obtain ⟨A1, n1, c1, xs, rfl, s1, rfl, k1⟩ := hu
  have x0 := s1.ok.getD 0
  have x1 := s1.ok.getD 1
  by_cases h : 63 < bl (val xs)
  · unfold smN smB
    rw [if_pos h, if_pos h]
    generalize bl (val xs) = m at *
    clear x0 x1
    go_enter Tryd.func63, Tryd.ntmps63
    go_wp2_with fail
    refine HBN.out.mono ?_
    rintro e w1 ⟨rfl, hb1⟩
    go_wp2_with fail
    go_ret2
    exact ⟨rfl, hb1⟩
  · have hs := small63 h
    unfold smN smB
    rw [if_neg h, if_neg h]
    have HE := Lib.hid hs.1
    have hl1 := hs.2
    clear hs
    generalize bl (val xs) = m at *
    go_enter Tryd.func63, Tryd.ntmps63
    go_wp2_with fail
    refine HBN.out.mono ?_
    rintro e w1 ⟨rfl, hb1⟩
    have s2 := s1.below hb1
    go_wp2_with (go_at_call 89; refine (rlimb_any _ _ _ _ _ _ s2 (by omega)).mono ?_; rintro e w' ⟨rfl, rfl⟩)
    go_ret2
    refine ⟨?_, hb1⟩
    rw [HE.out]
    exact congrArg (fun z => Ending.returned (Value.tuple #[Value.int .i64 z, Value.bool true])) (by omega)
theorem low_zero {v n s : Nat} (h : v < 4294967296 ^ n) (hs : 32 * n ≤ s) : v / 2 ^ s = 0 := by
  refine Nat.div_eq_of_lt (Nat.lt_of_lt_of_le h ?_)
  rw [show (4294967296 : Nat) = 2 ^ 32 by decide, ← Nat.pow_mul]
  exact Nat.pow_le_pow_right (by decide) hs
set_option maxHeartbeats 800000 in
theorem shift_low_any (A : Option Addr) (n c : Nat) (xs : List Nat) (i : Int) (w : World) (h : Sl w A n c xs) (hn : n ≤ 100) (_hi0 : -9223372036854775808 ≤ i) (hi : i < -4096) :
    Calls Tryd.prog 14 #[.slice A n c, .int .i64 i] w (Gives w 0) := by
  have ht := h.trim
  have hl := limbs_len_val h.ok
  have hlen := h.len
  have hlow : val (limbs (val xs)) < 4294967296 ^ xs.length := by rw [limbs_val]; exact val_lt h.ok
  obtain ⟨m, HM⟩ : ∃ m, Hid (m = (limbs (val xs)).length) := ⟨_, rfl⟩
  rw [← HM.out] at ht hl
  have hm : m ≤ 1000000000 := by omega
  have m1 : max i (-4096) = -4096 := by omega
  have m2 : min i 4096 = i := by omega
  have hneg : i < 0 := by omega
  obtain ⟨s, hs⟩ : ∃ s : Nat, s = 4096 := ⟨_, rfl⟩
  have hsd := shiftDown_any A m c _ s w ht hm (by omega)
  rw [low_zero hlow (by omega), hs] at hsd
  have HSD := Lib.hid hsd
  clear hl hlen hsd hlow hs
  go_enter Tryd.func14, Tryd.ntmps14
  go_wp2_with (go_at_call 51; refine (trim_at _ _ _ _ _ h m HM).mono ?_; rintro e w' ⟨rfl, rfl⟩)
  refine HSD.out.mono ?_
  rintro e w1 ⟨v, rfl, hnew, hb⟩
  go_wp2_with fail
  go_ret
  exact ⟨v, rfl, hnew, hb⟩
theorem nlow_num {w : World} {u : Value} {a K : Nat} (hu : Num w u a K) (hK : K ≤ 100) (i : Int) (hi0 : -9223372036854775808 ≤ i) (hi : i < -4096) : Calls Tryd.prog 14 #[u, .int .i64 i] w (Gives w 0) := by
  obtain ⟨A1, n1, c1, xs, rfl, s1, rfl, k1⟩ := hu
  exact shift_low_any _ _ _ _ _ _ s1 (by omega) hi0 hi
end Go.Proofs.YtjildimhflondaaDoor
