/-
  The document's own Div of any two numbers, and DivSmall on both sides.
-/
import Derived.Test.YtbcehgmicgddiaaDoorRefDiv
namespace Go.Proofs.YtbcehgmicgddiaaDoor
open Go.RowKit

set_option maxHeartbeats 1600000 in
theorem rdiv_zero {w : World} {u v : Value} {L : Nat} (hv : Num w v 0 L) (hL : L ≤ 100000) : Calls Tryd.prog 26 #[u, v] w (Gives2 w 0 0) := by
  have HBB := Lib.hid (rbits_num hv (by omega))
  have HB0 := Lib.hid bl_zero
  go_enter Tryd.func26, Tryd.ntmps26
  go_wp2_with fail
  refine HBB.out.mono ?_
  rw [HB0.out]
  rintro e w1 ⟨rfl, hb1⟩
  have h1 := (own_lit0 w1 w.heap.size hb1.size).new
  have h2 := (own_lit0 (w1.alloc (.cells #[] 29)) w.heap.size (by have := hb1.size; simp; omega)).new
  have h3 := h1.below (B := (w1.alloc (.cells #[] 29)).heap.size) ((Below.refl _ _).alloc (Nat.le_refl _) (.cells #[] 29)) (Nat.le_refl _)
  have HF := Lib.hid (And.intro h3 (And.intro h2 (bnew (bnew hb1 (.cells #[] 29)) (.cells #[] 29))))
  clear h1 h2 h3
  go_wp2_with fail
  go_ret2
  refine ⟨_, _, rfl, ?_, ?_, ?_⟩
  · rw [limbs_zero]; simpa using HF.out.1
  · rw [limbs_zero]; simpa using HF.out.2.1
  · simpa using HF.out.2.2
theorem rdiv_num {w : World} {u v : Value} {a b K L : Nat} (hu : Num w u a K) (hv : Num w v b L) (hK : K ≤ 100000) (hL : L ≤ 100000) : Calls Tryd.prog 26 #[u, v] w (Gives2 w (a / b) (remZ a b)) := by
  unfold remZ
  by_cases h0 : b = 0
  · subst h0
    rw [if_pos rfl, Nat.div_zero]
    exact rdiv_zero hv hL
  · rw [if_neg h0]
    exact rdiv_pos hu hv hK hL (by omega)

/-- What a division by one limb tells. -/
def GivesD (w : World) (a d : Nat) (e : Ending) (w' : World) : Prop := ∃ v, e = .returned (.tuple #[v, .int .u32 ((remZ a d : Nat) : Int)]) ∧ New w' w.heap.size v (limbs (a / d)) ∧ Below w.heap.size w w'

set_option maxHeartbeats 1600000 in
theorem ndivSmall_zero {w : World} {u : Value} {a : Nat} : Calls Tryd.prog 27 #[u, .int .u32 0] w (GivesD w a 0) := by
  go_enter Tryd.func27, Tryd.ntmps27
  go_wp2_with fail
  go_ret2
  exact ⟨_, rfl, by rw [Nat.div_zero]; exact New.nil _ _, Below.refl _ _⟩
theorem ndivSmall_num {w : World} {u : Value} {a K d : Nat} (hu : Num w u a K) (hK : K ≤ 100000) (hd : d < 4294967296) : Calls Tryd.prog 27 #[u, .int .u32 (d : Int)] w (GivesD w a d) := by
  by_cases h0 : d = 0
  · subst h0; exact ndivSmall_zero
  · obtain ⟨A1, n1, c1, xs, rfl, s1, rfl, k1⟩ := hu
    have := divSmall_any _ _ _ _ d _ s1 (by omega) hd (by omega)
    unfold GivesD remZ
    rw [if_neg h0]
    exact this
set_option maxHeartbeats 1600000 in
theorem rdivSmall_zero {w : World} {u : Value} {a : Nat} : Calls Tryd.prog 28 #[u, .int .u32 0] w (GivesD w a 0) := by
  have h1 := Lib.hid ((own_lit0 w w.heap.size (Nat.le_refl _)).new)
  go_enter Tryd.func28, Tryd.ntmps28
  go_wp2_with fail
  go_ret2
  exact ⟨_, rfl, by rw [Nat.div_zero]; exact h1.out, bnew (Below.refl _ _) _⟩
set_option maxHeartbeats 1600000 in
theorem rdivSmall_num {w : World} {u : Value} {a K d : Nat} (hu : Num w u a K) (hK : K ≤ 100000) (hd : d < 4294967296) : Calls Tryd.prog 28 #[u, .int .u32 (d : Int)] w (GivesD w a d) := by
  by_cases h0 : d = 0
  · subst h0; exact rdivSmall_zero
  · have hl := lit1_num w d hd
    have hne : ((d : Int) == 0) = false := beq_eq_false_iff_ne.2 (by omega)
    have hu1 := hu.alloc (.cells #[Value.int .u32 (d : Int)] 29)
    have hb0 : Below w.heap.size w (w.alloc (.cells #[Value.int .u32 (d : Int)] 29)) := bnew (Below.refl _ _) _
    have hml := Nat.mod_lt a (show 0 < d by omega)
    have HRM := Lib.hid (show remZ a d = a % d by unfold remZ; rw [if_neg h0])
    go_enter Tryd.func28, Tryd.ntmps28
    go_wp2_with fail
    refine (rdiv_pos hu1 hl hK (by omega) (by omega)).mono ?_
    rintro e w1 ⟨v1, v2, rfl, x1, x2, b1⟩
    obtain ⟨A5, c5, rfl, s5⟩ := x2.sl
    have hval := limbs_val (a % d)
    have hlim : lim (limbs (a % d)) 0 = a % d := by
      have h3 := drop_two (limbs (a % d)) 0
      have h4 := (limbs_ok (a % d)).getD 0
      rw [List.drop_zero, hval] at h3
      omega
    have HX := Lib.hid (x1.from_ (base' := w.heap.size) (by simp))
    have hbw := bnext hb0 b1
    clear x1 hval hu1 hl
    go_wp2_with fail
    refine (rlimb_any _ _ _ _ 0 _ s5 (by omega)).mono ?_
    rw [Int.toNat_zero, hlim]
    rintro e w2 ⟨rfl, rfl⟩
    clear hlim
    generalize a % d = md at *
    go_wp2_with fail
    go_ret2
    unfold GivesD
    rw [HRM.out]
    exact ⟨_, rfl, HX.out, hbw⟩
end Go.Proofs.YtbcehgmicgddiaaDoor
