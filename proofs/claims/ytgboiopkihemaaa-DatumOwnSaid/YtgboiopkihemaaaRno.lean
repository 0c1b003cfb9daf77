/-
  pavaneref01.Norm, pavaneref02.Norm.
-/
import Derived.Test.YtgboiopkihemaaaNw
import Derived.Test.YtgboiopkihemaaaNw
import Derived.Test.YtgboiopkihemaaaMem
import Derived.Test.YtgboiopkihemaaaChecked
import Derived.Outline
import Derived.Laws.BitsAllLaws
import Derived.Deep.LoopGhost
import Derived.Test.YtgboiopkihemaaaNum
import Derived.BigRegion
import Derived.Laws.IdiomStrings
import Derived.Lib.BufferRead
import Derived.Deep.QuietTactic
import Derived.BigQuiet
import Derived.Shelf.Small.Bits
import Derived.WalkMore
import Derived.Deep.RegionHeld3
import Derived.Orders
import Derived.WideShapes
namespace Go.Proofs.Ytgboiopkihemaaa
open Go.RowKit

section
variable {b : Nat}
end
section
variable {w : World} {u v : Value} {a b K L : Nat}
end
theorem own_lit0 (w : World) (base : Nat) (hb : base ≤ w.heap.size) : Own (w.alloc (.cells #[] 65)) base (.slice (some ⟨w.heap.size, 0, none⟩) 0 0) [] :=
  ⟨Ok.nil, World.ownsRow_lit (base := base) (size := 1) w #[] 0 hb (by unfold maxLen; omega) rfl⟩
set_option maxHeartbeats 800000 in
theorem rnorm_any (A : Option Addr) (n cap : Nat) (xs : List Nat) (w : World) (h : Sl w A n cap xs) (hn : n ≤ 1000000000) :
    Calls Try.prog 48 #[.slice A n cap] w (Gives w (val xs)) := by
  have hm := h.max
  have hl := h.le
  unfold maxLen at hm
  obtain ⟨i0, hi, hz0, hz1, hz2⟩ := info_parts info32
  have H := Lib.hid h
  clear h
  have ho := own_lit0 w w.heap.size (Nat.le_refl _)
  go_enter Try.func48, Try.ntmps48
  go_wp2_with fail
  go_loop [3] (fun t => ∃ k : Nat, k ≤ n ∧ t = .int .i64 k ∧ Hid (trimL (xs.take k) = trimL xs)) (fun t => (intOf t).toNat)
  case atStart => exact ⟨n, Nat.le_refl _, rfl, by rw [H.out.len, List.take_length]; exact rfl⟩
  case round =>
    obtain ⟨k, hk, rfl, hr⟩ := hrel
    have htk := (H.out.take k hk).alloc (.cells #[] 65)
    have fin : ∀ (v : Value) (w' : World), Own w' w.heap.size v ([] ++ xs.take k) → (w.alloc (.cells #[] 65)).grownBy w' (some w.heap.size) → trimL (xs.take k) = xs.take k → New w' w.heap.size v (limbs (val xs)) ∧ Below w.heap.size w w' := by
      intro v w' h1 h2 h3
      refine ⟨?_, ((Below.refl _ _).alloc (Nat.le_refl _) _).grown h2 (by simp) (fun j hj => by injection hj with hj; omega)⟩
      have e : limbs (val xs) = xs.take k := by rw [← trimL_limbs H.out.ok, ← hr.out, h3]
      rw [e]
      simpa using h1.new
    have FIN := Lib.hid fin
    clear fin
    rcases k with _ | k
    · go_wp2_with (at_builtin; refine wpList_append_limbs rfl (.tmp 18) (.tmp 21) rfl i0 Try.underlying22 hi hz0 hz1 hz2 w.heap.size _ [] rfl ho _ _ _ _ rfl htk (by simp) (by simp) ?_; intro v' w1 hown1 hg1)
      go_ret
      obtain ⟨f1, f2⟩ := FIN.out v' w1 hown1 hg1 rfl
      exact ⟨v', rfl, f1, f2⟩
    · obtain ⟨b, off, rfl, hb, hc⟩ := H.out.here (by omega)
      have hck := hc k (by omega)
      have hx := H.out.ok.getD k
      by_cases h0 : lim xs k = 0
      · rw [h0] at hck
        clear hc htk FIN
        go_wp2_with fail
        go_round
        case rel => exact ⟨k, by omega, by go_num, by rw [← hr.out, trimL_take_zero xs k (by have := H.out.len; omega) h0]; exact rfl⟩
        case measure => simp [intOf]
      · have hs := Lib.hid (trimL_take_stop xs k (by have := H.out.len; omega) h0)
        have hz : (((lim xs k : Nat) : Int) == 0) = false := beq_eq_false_iff_ne.2 (by omega)
        clear hc h0
        go_wp2_with (at_builtin; refine wpList_append_limbs rfl (.tmp 18) (.tmp 21) rfl i0 Try.underlying22 hi hz0 hz1 hz2 w.heap.size _ [] rfl ho _ _ _ _ rfl htk (by simp; omega) (by simp) ?_; intro v' w1 hown1 hg1)
        go_ret
        obtain ⟨f1, f2⟩ := FIN.out v' w1 hown1 hg1 hs.out
        exact ⟨v', rfl, f1, f2⟩
theorem rnorm_num {w : World} {u : Value} {a K : Nat} (hu : Num w u a K) (hK : K ≤ 1000000000) : Calls Try.prog 48 #[u] w (Gives w a) := by
  obtain ⟨A1, n1, c1, xs, rfl, s1, rfl, k1⟩ := hu
  exact rnorm_any _ _ _ _ _ s1 (by omega)
section
variable {w w' : World} {g : Nat} {s x : Value}
end
section
variable {w : World} {u v : Value} {a b : Int} {K L : Nat}
end
section
variable {w : World} {u v : Value} {a b : Int} {K L : Nat}
end
section
variable {w : World} {u v : Value} {a b : Int} {K L : Nat}
end
section
variable {w : World} {u v : Value} {a b : Int} {K L : Nat}
end
/-- What holds at the head of Text's round: the digits so far, the lowest first; what is left. -/
def RTxt (b n r : Nat) (O : List Nat) (t : ByteArray) : Prop := n = valb b O + b ^ O.length * r ∧ Okb b O ∧ (r = 0 → O = []) ∧ t.data.toList = O.reverse.map chr
theorem RTxt.len {b n r K : Nat} {O : List Nat} {t : ByteArray} (h : RTxt b n r O t) (hb : 2 ≤ b) (hn : n < 4294967296 ^ K) : t.size ≤ 32 * K := by
  have hl : t.size = O.length := by
    have := congrArg List.length h.2.2.2
    simpa using this
  rw [hl]
  rcases Nat.eq_zero_or_pos r with h0 | h0
  · rw [h.2.2.1 h0]; simp
  · have h1 : b ^ O.length ≤ b ^ O.length * r := Nat.le_mul_of_pos_right _ h0
    have h2 : 2 ^ O.length ≤ b ^ O.length := Nat.pow_le_pow_left hb _
    have h3 := h.1
    have h4 : 2 ^ O.length < 2 ^ (32 * K) := by
      rw [Nat.pow_mul]
      have : (2 : Nat) ^ 32 = 4294967296 := by decide
      rw [this]
      omega
    have := (Nat.pow_lt_pow_iff_right (by decide : 1 < 2)).1 h4
    omega
/-- An answer's block lies from lo on, below hi. -/
def Tier (lo hi : Nat) (v : Value) : Prop := ∀ g, v.ownBlock = some g → lo ≤ g ∧ g < hi
theorem Tier.mono {lo hi lo' hi' : Nat} {v : Value} (h : Tier lo hi v) (h1 : lo' ≤ lo) (h2 : hi ≤ hi') : Tier lo' hi' v := fun g hg => by have := h g hg; omega
section
variable {w : World} {u v : Value} {a b : Int} {K L : Nat}
set_option maxHeartbeats 800000 in
theorem rwnorm_num (hu : Wh w u a K) (hK : K ≤ 1000000) : Calls Try.prog 51 #[u] w (WGives w a) := by
  obtain ⟨s, x, m, rfl, hx, rfl⟩ := hu
  obtain ⟨W, hW, hp, hr, hb⟩ := enter1r w (.bool s) x
  have HN := Lib.hid (rnorm_num (hx.below hb) (by omega))
  have e0 := hp.c0
  have e1 := hp.c1
  rw [hW] at e0 e1
  clear hx
  cases s
  · go_enter Try.func51, Try.ntmps51
    go_wp2_with fail
    rw [← hW]
    refine HN.out.mono ?_
    rintro e w1 ⟨v, rfl, hv, hb1⟩
    obtain ⟨A, n, c, rfl, hmax, hnm⟩ := hv.nought
    have f0 := (hp.next hb1).c0
    have f1 := (hp.next hb1).c1
    have hr2 := hr.next hb1
    obtain ⟨q1, q2, q3, q4, q5, q6⟩ := hr2.room (.bool false)
    clear e0 e1 hW HN
    go_wp2_with fail
    exact wret rfl rfl rfl hr2 (WNew.of false m hv rfl) hb.size (by omega) (bnext hb hb1)
  · by_cases h0 : m = 0
    · go_enter Try.func51, Try.ntmps51
      go_wp2_with fail
      rw [← hW]
      refine HN.out.mono ?_
      rintro e w1 ⟨v, rfl, hv, hb1⟩
      obtain ⟨A, n, c, rfl, hmax, hnm⟩ := hv.nought
      obtain rfl : n = 0 := hnm.2 h0
      have f0 := (hp.next hb1).c0
      have f1 := (hp.next hb1).c1
      have hr2 := hr.next hb1
      obtain ⟨q1, q2, q3, q4, q5, q6⟩ := hr2.room (.bool false)
      clear e0 e1 hW HN hnm
      go_wp2_with fail
      exact wret rfl rfl rfl hr2 (WNew.of true m hv (by rw [h0]; rfl)) hb.size (by omega) (bnext hb hb1)
    · go_enter Try.func51, Try.ntmps51
      go_wp2_with fail
      rw [← hW]
      refine HN.out.mono ?_
      rintro e w1 ⟨v, rfl, hv, hb1⟩
      obtain ⟨A, n, c, rfl, hmax, hnm⟩ := hv.nought
      have hn0 : 0 < n := by omega
      have f0 := (hp.next hb1).c0
      have f1 := (hp.next hb1).c1
      have hr2 := hr.next hb1
      obtain ⟨q1, q2, q3, q4, q5, q6⟩ := hr2.room (.bool true)
      have HM : Hid (0 < m) := Lib.hid (by omega)
      clear e0 e1 hW HN hnm h0
      go_wp2_with fail
      exact wret rfl rfl rfl hr2 (WNew.of true m hv (by rw [decide_eq_true HM.out]; rfl)) hb.size (by omega) (bnext hb hb1)
end
section inv
variable {P : Program} {ops : Array Oper} {Q : Exit → Act → World → Prop}
end inv
variable {ops : Array Oper} {Q : Exit → Act → World → Prop}
section
variable {w : World} {u v : Value} {a b : Int} {K L : Nat}
end
section
variable {w : World} {u v : Value} {a b : Int} {K L : Nat}
end
theorem WNew.nought {w : World} {base : Nat} {b : Bool} {A : Option Addr} {n c : Nat} {z : Int} (h : WNew w base (.agg #[.bool b, .slice A n c]) z) : n ≤ 2 ^ 63 - 1 ∧ (n = 0 ↔ z = 0) := by
  obtain ⟨x, e, hn⟩ := h
  have e' : b = decide (z < 0) ∧ Value.slice A n c = x := by simpa using e
  obtain ⟨A', n', c', e2, hm, h0⟩ := hn.nought
  rw [← e'.2] at e2
  injection e2 with _ e3 _
  subst e3
  exact ⟨hm, h0.trans Int.natAbs_eq_zero⟩
section
variable {w : World} {u v : Value} {a b : Int} {K L : Nat}
end
section
variable {w : World} {u v : Value} {a b : Int} {K L : Nat}
end
end Go.Proofs.Ytgboiopkihemaaa
