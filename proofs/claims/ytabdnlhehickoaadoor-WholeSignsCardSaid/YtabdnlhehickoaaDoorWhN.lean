/-
  The laws' same at numbers that are not the same.
-/
import Derived.Test.YtabdnlhehickoaaDoorWhE
namespace Go.Proofs.YtabdnlhehickoaaDoor
open Go.RowKit
theorem first_diff (f g : Nat → Nat) (n : Nat) (h : ¬ ∀ i, i < n → f i = g i) : ∃ j, j < n ∧ f j ≠ g j ∧ ∀ i, i < j → f i = g i := by
  induction n with
  | zero => exact absurd (fun i hi => absurd hi (by omega)) h
  | succ n ih =>
    by_cases h1 : ∀ i, i < n → f i = g i
    · refine ⟨n, by omega, fun e => h (fun i hi => ?_), h1⟩
      rcases Nat.lt_or_ge i n with h2 | h2
      · exact h1 i h2
      · obtain rfl : i = n := by omega
        exact e
    · obtain ⟨j, hj, h2, h3⟩ := ih h1
      exact ⟨j, by omega, h2, h3⟩
theorem lim_ext {xs ys : List Nat} {n : Nat} (hx : n = xs.length) (hy : n = ys.length) (h : ∀ i, i < n → lim xs i = lim ys i) : xs = ys := by
  apply List.ext_getElem
  · omega
  · intro i h1 h2
    have := h i (by omega)
    rw [lim_eq, lim_eq, List.getElem?_eq_getElem h1, List.getElem?_eq_getElem h2] at this
    exact this
set_option maxHeartbeats 1600000 in
theorem refSame_no (A1 : Option Addr) (n1 c1 : Nat) (A2 : Option Addr) (n2 c2 : Nat) (xs ys : List Nat) (w : World) (h1 : Sl w A1 n1 c1 xs) (h2 : Sl w A2 n2 c2 ys) (hn1 : n1 ≤ 1000000000) (hn2 : n2 ≤ 1000000000) (hne : xs ≠ ys) :
    Calls Tryd.prog 63 #[.slice A1 n1 c1, .slice A2 n2 c2] w fun e w' => e = .returned (.bool false) ∧ Below w.heap.size w w' := by
  by_cases hlen : n1 = n2
  · subst hlen
    obtain ⟨j, hj, hd, hs⟩ := first_diff (lim xs) (lim ys) n1 (fun h => hne (lim_ext h1.len h2.len h))
    have HD := Lib.hid (And.intro hd hs)
    have hne1 : ((n1 : Int) != (n1 : Int)) = false := by simp
    clear hd hs hne
    go_enter Tryd.func63, Tryd.ntmps63
    go_wp2_with fail
    go_loopw [13] (fun i wr => ∃ k : Nat, k ≤ j ∧ i = .int .i64 k ∧ Below w.heap.size w wr) (fun i _ => n1 - (intOf i).toNat)
    case atStart => exact ⟨0, by omega, rfl, Below.refl _ _⟩
    case round =>
      obtain ⟨k, hk, rfl, hbel⟩ := hrel
      obtain ⟨b1, o1, rfl, _, hc1⟩ := (h1.below hbel).here (by omega)
      obtain ⟨b2, o2, rfl, _, hc2⟩ := (h2.below hbel).here (by omega)
      have g1 := hc1 k (by omega)
      have g2 := hc2 k (by omega)
      have i1 : (k : Int) < (n1 : Int) := by omega
      clear hc1 hc2
      by_cases hkj : k < j
      · rw [← HD.out.2 k hkj] at g2
        go_wp2_with fail
        go_region
        all_goals
          go_wp2_with fail
          go_roundw
          case rel => exact ⟨k + 1, by omega, by go_num, hbel.drew⟩
          case measure => simp [intOf]; omega
      · obtain rfl : k = j := by omega
        have hx : (((lim xs k : Nat) : Int) == ((lim ys k : Nat) : Int)) = false := beq_eq_false_iff_ne.2 (fun e => HD.out.1 (by omega))
        have hx2 : ¬ ((lim xs k : Nat) : Int) = ((lim ys k : Nat) : Int) := fun e => HD.out.1 (by omega)
        generalize ((lim xs k : Nat) : Int) = p at *
        generalize ((lim ys k : Nat) : Int) = q at *
        go_wp2_with fail
        go_region
        all_goals
          go_wp2_with fail
          go_ret
          exact ⟨rfl, hbel.drew⟩
  · have hne1 : ((n1 : Int) == (n2 : Int)) = false := beq_eq_false_iff_ne.2 (by omega)
    clear hlen hne
    go_enter Tryd.func63, Tryd.ntmps63
    go_wp2_with fail
    go_ret
    exact ⟨rfl, Below.refl _ _⟩
section
variable {w : World} {u v : Value} {a b : Int} {K L : Nat}
set_option maxHeartbeats 800000 in
theorem refSame2_no (hu : ∃ s t A1 n1 c1 A2 n2 c2 xs ys, u = .agg #[.bool s, .slice A1 n1 c1] ∧ v = .agg #[.bool t, .slice A2 n2 c2] ∧ Sl w A1 n1 c1 xs ∧ Sl w A2 n2 c2 ys ∧ n1 ≤ 1000000000 ∧ n2 ≤ 1000000000 ∧ (s = t → xs ≠ ys)) :
    Calls Tryd.prog 67 #[u, v] w fun e w' => e = .returned (.bool false) ∧ Below w.heap.size w w' := by
  obtain ⟨s, t, A1, n1, c1, A2, n2, c2, xs, ys, rfl, rfl, h1, h2, hn1, hn2, hne⟩ := hu
  obtain ⟨W, hW, hp, hq, hb⟩ := enter2 w (.bool s) (.slice A1 n1 c1) (.bool t) (.slice A2 n2 c2)
  have hp0 := hp.c0
  have hp1 := hp.c1
  have hq0 := hq.c0
  have hq1 := hq.c1
  rw [hW] at hp0 hp1 hq0 hq1
  by_cases hst : s = t
  · have HS := Lib.hid (refSame_no _ _ _ _ _ _ _ _ _ (h1.below hb) (h2.below hb) hn1 hn2 (hne hst))
    subst hst
    have hss : (s == s) = true := by cases s <;> rfl
    clear hne
    go_enter Tryd.func67, Tryd.ntmps67
    go_wp2_with fail
    rw [← hW]
    refine HS.out.mono ?_
    rintro e w1 ⟨rfl, hb1⟩
    go_wp2_with fail
    go_ret
    exact ⟨rfl, bnext hb hb1⟩
  · have hss : (s == t) = false := by cases s <;> cases t <;> simp at *
    clear hne hst
    go_enter Tryd.func67, Tryd.ntmps67
    go_wp2_with fail
    rw [← hW]
    go_ret
    exact ⟨rfl, hb⟩
theorem wdiff {base base' : Nat} (hu : WNew w base u a) (hv : WNew w base' v b) (ha : a.natAbs < 4294967296 ^ K) (hb : b.natAbs < 4294967296 ^ L) (hK : K ≤ 1000000) (hL : L ≤ 1000000) (hab : a ≠ b) :
    ∃ s t A1 n1 c1 A2 n2 c2 xs ys, u = .agg #[.bool s, .slice A1 n1 c1] ∧ v = .agg #[.bool t, .slice A2 n2 c2] ∧ Sl w A1 n1 c1 xs ∧ Sl w A2 n2 c2 ys ∧ n1 ≤ 1000000000 ∧ n2 ≤ 1000000000 ∧ (s = t → xs ≠ ys) := by
  obtain ⟨x, rfl, A1, n1, c1, rfl, s1, _⟩ := hu
  obtain ⟨y, rfl, A2, n2, c2, rfl, s2, _⟩ := hv
  have l1 := limbs_len_le ha
  have l2 := limbs_len_le hb
  refine ⟨_, _, A1, n1, c1, A2, n2, c2, _, _, rfl, rfl, s1, s2, by have := s1.len; omega, by have := s2.len; omega, fun hst e => hab ?_⟩
  have hm := limbs_inj e
  rw [zOf_self a, zOf_self b, hst, hm]
theorem refSame2_dec {base base' : Nat} (hu : WNew w base u a) (hv : WNew w base' v b) (ha : a.natAbs < 4294967296 ^ K) (hb : b.natAbs < 4294967296 ^ L) (hK : K ≤ 1000000) (hL : L ≤ 1000000) :
    Calls Tryd.prog 67 #[u, v] w fun e w' => e = .returned (.bool (decide (a = b))) ∧ Below w.heap.size w w' := by
  by_cases h : a = b
  · subst h
    rw [decide_eq_true rfl]
    exact refSame2_yes (wsame_both hu hv (Nat.le_trans (limbs_len_le ha) (by omega)))
  · rw [decide_eq_false h]
    exact refSame2_no (wdiff hu hv ha hb hK hL h)
set_option maxHeartbeats 400000 in
theorem wsame_dec {base base' : Nat} (hu : WNew w base u a) (hv : WNew w base' v b) (ha : a.natAbs < 4294967296 ^ K) (hb : b.natAbs < 4294967296 ^ L) (hK : K ≤ 1000000) (hL : L ≤ 1000000) :
    Calls Tryd.prog 25 #[u, v] w fun e w' => e = .returned (.bool (decide (a = b))) ∧ Below w.heap.size w w' := by
  obtain ⟨s, xA, xN, xC, rfl, _⟩ := hu.opened
  obtain ⟨t, yA, yN, yC, rfl, _⟩ := hv.opened
  obtain ⟨W, hW, hp, hq, hbb⟩ := enter2 w (.bool s) (.slice xA xN xC) (.bool t) (.slice yA yN yC)
  have HS := Lib.hid (refSame2_dec (hu.next hbb) (hv.next hbb) ha hb hK hL)
  have hp0 := hp.c0
  have hp1 := hp.c1
  have hq0 := hq.c0
  have hq1 := hq.c1
  rw [hW] at hp0 hp1 hq0 hq1
  generalize decide (a = b) = d at *
  clear hu hv ha hb
  go_enter Tryd.func25, Tryd.ntmps25
  go_wp2_with fail
  rw [← hW]
  refine HS.out.mono ?_
  rintro e w1 ⟨rfl, hb1⟩
  go_wp2_with fail
  go_ret
  exact ⟨rfl, bnext hbb hb1⟩
end
end Go.Proofs.YtabdnlhehickoaaDoor
