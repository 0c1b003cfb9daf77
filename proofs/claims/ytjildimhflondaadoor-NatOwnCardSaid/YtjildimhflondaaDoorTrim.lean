/-
  nat.trim and nat.limbAt: what they answer.
-/
import Derived.Test.YtjildimhflondaaDoorMem
import Derived.Test.YtjildimhflondaaDoorChecked
namespace Go.Proofs.YtjildimhflondaaDoor
open Go.RowKit

theorem trimL_take_zero (xs : List Nat) (n : Nat) (h : n + 1 ≤ xs.length) (h0 : lim xs n = 0) : trimL (xs.take (n + 1)) = trimL (xs.take n) := by
  rw [take_snoc xs n (by omega), h0, trimL_snoc_zero]
theorem trimL_take_stop (xs : List Nat) (n : Nat) (h : n + 1 ≤ xs.length) (h0 : lim xs n ≠ 0) : trimL (xs.take (n + 1)) = xs.take (n + 1) := by
  rw [take_snoc xs n (by omega), trimL_snoc _ _ h0]

set_option maxHeartbeats 400000 in
theorem limbAt_any (A : Option Addr) (n cap : Nat) (xs : List Nat) (i : Int) (w : World) (h : Sl w A n cap xs) (h0 : 0 ≤ i) :
    Calls Tryd.prog 54 #[.slice A n cap, .int .i64 i] w fun e w' => e = .returned (.int .u64 ((lim xs i.toNat : Nat) : Int)) ∧ w = w' := by
  obtain ⟨k, rfl⟩ := Int.eq_ofNat_of_zero_le h0
  rw [Int.toNat_natCast]
  have hm := h.max
  have hl := h.le
  unfold maxLen at hm
  by_cases hk : k < n
  · obtain ⟨b, off, rfl, hb, hc⟩ := h.here (by omega)
    have hck := hc k hk
    have hx := h.ok.getD k
    clear hc
    generalize lim xs k = x at *
    go_enter Tryd.func54, Tryd.ntmps54
    go_wp2
    go_ret
    exact ⟨rfl, rfl⟩
  · have hx : lim xs k = 0 := by
      rw [lim_eq, List.getElem?_eq_none (by have := h.len; omega)]; rfl
    rw [hx]
    go_enter Tryd.func54, Tryd.ntmps54
    go_wp2
    go_ret
    exact ⟨rfl, rfl⟩

set_option maxHeartbeats 400000 in
theorem trim_any (A : Option Addr) (n cap : Nat) (xs : List Nat) (w : World) (h : Sl w A n cap xs) :
    Calls Tryd.prog 51 #[.slice A n cap] w fun e w' => e = .returned (.slice A (limbs (val xs)).length cap) ∧ w = w' := by
  have hm := h.max
  have hl := h.le
  unfold maxLen at hm
  have H := Lib.hid h
  clear h
  go_enter Tryd.func51, Tryd.ntmps51
  go_wp2
  go_loop [3] (fun t => ∃ k : Nat, k ≤ n ∧ t = .int .i64 k ∧ Hid (trimL (xs.take k) = trimL xs)) (fun t => (intOf t).toNat)
  case atStart => exact ⟨n, Nat.le_refl _, rfl, by rw [H.out.len, List.take_length]; exact rfl⟩
  case round =>
    obtain ⟨k, hk, rfl, hr⟩ := hrel
    rcases k with _ | k
    · go_wp2
      go_ret
      refine ⟨?_, rfl⟩
      have : limbs (val xs) = [] := by rw [← trimL_limbs H.out.ok, ← hr.out]; rfl
      rw [this]; rfl
    · obtain ⟨b, off, rfl, hb, hc⟩ := H.out.here (by omega)
      have hck := hc k (by omega)
      have hx := H.out.ok.getD k
      by_cases h0 : lim xs k = 0
      · rw [h0] at hck
        clear hc
        go_wp2
        go_round
        case rel => exact ⟨k, by omega, by go_num, by rw [← hr.out, trimL_take_zero xs k (by have := H.out.len; omega) h0]; exact rfl⟩
        case measure => simp [intOf]
      · have hs := Lib.hid (trimL_take_stop xs k (by have := H.out.len; omega) h0)
        generalize lim xs k = x at *
        clear hc
        go_wp2
        go_ret
        refine ⟨?_, rfl⟩
        have : limbs (val xs) = xs.take (k + 1) := by rw [← trimL_limbs H.out.ok, ← hr.out, hs.out]
        rw [this, List.length_take, Nat.min_eq_left (by have := H.out.len; omega)]
        simp
/-- The same, the length under a name of one's own. -/
theorem trim_at (A : Option Addr) (n cap : Nat) (xs : List Nat) (w : World) (h : Sl w A n cap xs) (m : Nat) (hm : Hid (m = (limbs (val xs)).length)) :
    Calls Tryd.prog 51 #[.slice A n cap] w fun e w' => e = .returned (.slice A m cap) ∧ w = w' := by
  rw [hm.out]; exact trim_any A n cap xs w h
end Go.Proofs.YtjildimhflondaaDoor
