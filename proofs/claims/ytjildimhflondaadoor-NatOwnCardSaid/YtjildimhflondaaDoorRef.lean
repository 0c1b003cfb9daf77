/-
  The document's own Norm, limb, Add (pavaneref01): what they answer.
-/
import Derived.Test.YtjildimhflondaaDoorNat
namespace Go.Proofs.YtjildimhflondaaDoor
open Go.RowKit

set_option maxHeartbeats 400000 in
theorem rlimb_any (A : Option Addr) (n cap : Nat) (xs : List Nat) (i : Int) (w : World) (h : Sl w A n cap xs) (h0 : 0 ≤ i) :
    Calls Tryd.prog 89 #[.slice A n cap, .int .i64 i] w fun e w' => e = .returned (.int .u64 ((lim xs i.toNat : Nat) : Int)) ∧ w = w' := by
  obtain ⟨k, rfl⟩ := Int.eq_ofNat_of_zero_le h0
  rw [Int.toNat_natCast]
  have hm := h.max
  have hl := h.le
  unfold maxLen at hm
  by_cases hk : k < n
  · obtain ⟨b, off, rfl, hb, hc⟩ := h.here (by omega)
    have hck := hc k hk
    have hx := h.ok.getD k
    clear hc
    generalize lim xs k = x at *
    go_enter Tryd.func89, Tryd.ntmps89
    go_wp2
    go_ret
    exact ⟨rfl, rfl⟩
  · have hx : lim xs k = 0 := lim_ge xs k (by have := h.len; omega)
    rw [hx]
    go_enter Tryd.func89, Tryd.ntmps89
    go_wp2
    go_ret
    exact ⟨rfl, rfl⟩

theorem own_lit0 (w : World) (base : Nat) (hb : base ≤ w.heap.size) : Own (w.alloc (.cells #[] 32)) base (.slice (some ⟨w.heap.size, 0, none⟩) 0 0) [] :=
  ⟨Ok.nil, World.ownsRow_lit (base := base) (size := 1) w #[] 0 hb (by unfold maxLen; omega) rfl⟩

set_option maxHeartbeats 800000 in
theorem rnorm_any (A : Option Addr) (n cap : Nat) (xs : List Nat) (w : World) (h : Sl w A n cap xs) (hn : n ≤ 1000000000) :
    Calls Tryd.prog 65 #[.slice A n cap] w (Gives w (val xs)) := by
  have hm := h.max
  have hl := h.le
  unfold maxLen at hm
  obtain ⟨i0, hi, hz0, hz1, hz2⟩ := info_parts info32
  have H := Lib.hid h
  clear h
  have ho := own_lit0 w w.heap.size (Nat.le_refl _)
  go_enter Tryd.func65, Tryd.ntmps65
  go_wp2_with fail
  go_loop [3] (fun t => ∃ k : Nat, k ≤ n ∧ t = .int .i64 k ∧ Hid (trimL (xs.take k) = trimL xs)) (fun t => (intOf t).toNat)
  case atStart => exact ⟨n, Nat.le_refl _, rfl, by rw [H.out.len, List.take_length]; exact rfl⟩
  case round =>
    obtain ⟨k, hk, rfl, hr⟩ := hrel
    have htk := (H.out.take k hk).alloc (.cells #[] 32)
    have fin : ∀ (v : Value) (w' : World), Own w' w.heap.size v ([] ++ xs.take k) → (w.alloc (.cells #[] 32)).grownBy w' (some w.heap.size) → trimL (xs.take k) = xs.take k → New w' w.heap.size v (limbs (val xs)) ∧ Below w.heap.size w w' := by
      intro v w' h1 h2 h3
      refine ⟨?_, ((Below.refl _ _).alloc (Nat.le_refl _) _).grown h2 (by simp) (fun j hj => by injection hj with hj; omega)⟩
      have e : limbs (val xs) = xs.take k := by rw [← trimL_limbs H.out.ok, ← hr.out, h3]
      rw [e]
      simpa using h1.new
    have FIN := Lib.hid fin
    clear fin
    rcases k with _ | k
    · go_wp2_with (at_builtin; refine wpList_append_limbs rfl (.tmp 18) (.tmp 21) rfl i0 Tryd.underlying22 hi hz0 hz1 hz2 w.heap.size _ [] rfl ho _ _ _ _ rfl htk (by simp) (by simp) ?_; intro v' w1 hown1 hg1)
      go_ret
      obtain ⟨f1, f2⟩ := FIN.out v' w1 hown1 hg1 rfl
      exact ⟨v', rfl, f1, f2⟩
    · obtain ⟨b, off, rfl, hb, hc⟩ := H.out.here (by omega)
      have hck := hc k (by omega)
      have hx := H.out.ok.getD k
      by_cases h0 : lim xs k = 0
      · rw [h0] at hck
        clear hc htk FIN
        go_wp2_with fail
        go_round
        case rel => exact ⟨k, by omega, by go_num, by rw [← hr.out, trimL_take_zero xs k (by have := H.out.len; omega) h0]; exact rfl⟩
        case measure => simp [intOf]
      · have hs := Lib.hid (trimL_take_stop xs k (by have := H.out.len; omega) h0)
        have hz : (((lim xs k : Nat) : Int) == 0) = false := beq_eq_false_iff_ne.2 (by omega)
        clear hc h0
        go_wp2_with (at_builtin; refine wpList_append_limbs rfl (.tmp 18) (.tmp 21) rfl i0 Tryd.underlying22 hi hz0 hz1 hz2 w.heap.size _ [] rfl ho _ _ _ _ rfl htk (by simp; omega) (by simp) ?_; intro v' w1 hown1 hg1)
        go_ret
        obtain ⟨f1, f2⟩ := FIN.out v' w1 hown1 hg1 hs.out
        exact ⟨v', rfl, f1, f2⟩
end Go.Proofs.YtjildimhflondaaDoor
