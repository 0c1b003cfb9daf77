/-
  datum.goodAlone: what it says true of is good by itself.
-/
import Derived.Test.YtgboiopkihemaaaGdd
import Derived.Test.YtgboiopkihemaaaNgp
namespace Go.Proofs.Ytgboiopkihemaaa
open Go.RowKit

set_option maxRecDepth 100000 in
set_option maxHeartbeats 1600000 in
theorem wgood_any (g : Bool) (la : Option Addr) (ln lc : Nat) (ys : List Nat) (w : World) (h : Sl w la ln lc ys) (hn : ln ≤ 1000000000) :
    Calls Try.prog 72 #[.agg #[.bool g, .slice la ln lc]] w fun e w' => e = .returned (.bool (goodI g ys)) ∧ Below w.heap.size w w' := by
  have hlen := h.len
  rcases Nat.eq_zero_or_pos ln with h0 | h0
  · subst h0
    have e : goodI g ys = !g := by unfold goodI; rw [if_pos hlen.symm]
    rw [e]
    clear h e hlen
    go_enter Try.func72, Try.ntmps72
    go_wp2_with fail
    go_ret
    exact ⟨rfl, (Below.refl _ w).alloc (Nat.le_refl _) _⟩
  · obtain ⟨b, off, rfl, hb, hc⟩ := h.here h0
    obtain ⟨j, rfl⟩ : ∃ j, ln = j + 1 := ⟨ln - 1, by omega⟩
    have hcj := hc j (by omega)
    have q0 : (((j : Int) + 1) == 0) = false := beq_eq_false_iff_ne.2 (by omega)
    have e : goodI g ys = decide (lim ys j ≠ 0) := by unfold goodI; rw [if_neg (by omega), ← hlen]; rfl
    have hw : IntKind.i64.wrap ((j : Int) + 1 - 1) = (j : Int) := by rw [IntWalk.i64_in _ (by omega)]; omega
    have hcW : (w.alloc (.cells #[.bool g, .slice (some ⟨b, off, none⟩) (j + 1) lc] 24)).cell? ⟨b, off + j, none⟩ = some (.int .u32 (lim ys j : Nat)) := by
      rw [World.cell?_of_block (w := w) (Below.heap_alloc _ _ _ (by show b < _; exact hb))]
      exact hcj
    rw [e]
    clear h e hlen hc hcj
    by_cases hz : lim ys j = 0
    · have qz : ((lim ys j : Nat) : Int) = 0 := by omega
      rw [qz] at hcW
      have e : decide (lim ys j ≠ 0) = false := by simp [hz]
      rw [e]
      clear e hz qz
      go_enter Try.func72, Try.ntmps72
      go_wp2_with fail
      go_ret
      exact ⟨rfl, (Below.refl _ w).alloc (Nat.le_refl _) _⟩
    · have qz : (((lim ys j : Nat) : Int) != 0) = true := by rw [bne, beq_eq_false_iff_ne.2 (by omega)]; rfl
      have e : decide (lim ys j ≠ 0) = true := by simp [hz]
      rw [e]
      clear e hz
      go_enter Try.func72, Try.ntmps72
      go_wp2_with fail
      go_ret
      exact ⟨by first | rfl | (rw [← qz]; rfl), (Below.refl _ w).alloc (Nat.le_refl _) _⟩

set_option maxRecDepth 100000 in
set_option maxHeartbeats 1600000 in
theorem goodTail_any (k : Int) (g bb : Bool) (s : ByteArray) (la ia ta : Option Addr) (ln lc n ic n' tc : Nat) (k' : Int) (w : World) (hk : n' = 1 → ∃ B O, ta = some ⟨B, O, none⟩ ∧ B < w.heap.size ∧ w.cell? ⟨B, O, none⟩ = some (.int .i64 k')) :
    Calls Try.prog 73 #[.agg #[.int .i64 k, .bool g, .slice la ln lc, .bool bb, .string s, .slice ia n ic, .slice ta n' tc]] w fun e w' => ∃ r : Bool, e = .returned (.bool r) ∧ (r = true → n' = 0 ∨ (0 < n ∧ n' = 1 ∧ k' ≠ 5)) ∧ Below w.heap.size w w' := by
  by_cases h0 : n' = 0
  · subst h0
    clear hk
    go_enter Try.func73, Try.ntmps73
    go_wp2_with fail
    go_ret
    exact ⟨true, rfl, fun _ => .inl (by trivial), (Below.refl _ w).alloc (Nat.le_refl _) _⟩
  · have q0 : ((n' : Int) == 0) = false := beq_eq_false_iff_ne.2 (by omega)
    by_cases h1 : n = 0
    · subst h1
      clear hk h0
      go_enter Try.func73, Try.ntmps73
      go_wp2_with fail
      go_ret
      exact ⟨false, rfl, fun h => (by cases h), (Below.refl _ w).alloc (Nat.le_refl _) _⟩
    · have q1 : decide (0 < (n : Int)) = true := decide_eq_true (by omega)
      by_cases h2 : n' = 1
      · obtain ⟨B, O, rfl, hB, hc⟩ := hk h2
        subst h2
        have hcW : (w.alloc (.cells #[.int .i64 k, .bool g, .slice la ln lc, .bool bb, .string s, .slice ia n ic, .slice (some ⟨B, O, none⟩) 1 tc] 27)).cell? ⟨B, O, none⟩ = some (.int .i64 k') := by
          rw [World.cell?_of_block (w := w) (Below.heap_alloc _ _ _ (by show B < _; exact hB))]
          exact hc
        clear hc hk h0
        by_cases h5 : k' = 5
        · subst h5
          go_enter Try.func73, Try.ntmps73
          go_wp2_with fail
          go_ret
          exact ⟨false, rfl, fun h => (by cases h), (Below.refl _ w).alloc (Nat.le_refl _) _⟩
        · have q5 : (k' != 5) = true := by rw [bne, beq_eq_false_iff_ne.2 h5]; rfl
          go_enter Try.func73, Try.ntmps73
          go_wp2_with fail
          go_ret
          exact ⟨true, by first | rfl | (rw [← q5]; rfl), fun _ => .inr ⟨by omega, by trivial, h5⟩, (Below.refl _ w).alloc (Nat.le_refl _) _⟩
      · have q2 : ((n' : Int) == 1) = false := beq_eq_false_iff_ne.2 (by omega)
        clear hk h0
        go_enter Try.func73, Try.ntmps73
        go_wp2_with fail
        go_ret
        exact ⟨false, by first | rfl | (rw [← q2]; rfl), fun h => (by cases h), (Below.refl _ w).alloc (Nat.le_refl _) _⟩

theorem text_ne' {a b : ByteArray} (h : a ≠ b) : (a.toList == b.toList) = false := by
  rw [ByteArray.toList_eq, ByteArray.toList_eq]
  refine beq_eq_false_iff_ne.2 fun e => h ?_
  cases a with
  | mk x => cases b with
    | mk y => rw [show x = y from Array.toList_inj.1 e]
theorem empty_of {s : ByteArray} (h : s.size = 0) : s = ⟨#[]⟩ := by
  cases s with
  | mk d => rw [Array.eq_empty_of_size_eq_zero (xs := d) h]
set_option maxRecDepth 100000 in
set_option maxHeartbeats 3200000 in
theorem isZero_any (k : Int) (g bb : Bool) (s : ByteArray) (la ia ta : Option Addr) (ln lc n ic n' tc : Nat) (w : World) :
    Calls Try.prog 74 #[.agg #[.int .i64 k, .bool g, .slice la ln lc, .bool bb, .string s, .slice ia n ic, .slice ta n' tc]] w fun e w' => ∃ r : Bool, e = .returned (.bool r) ∧ (r = true → g = false ∧ ln = 0 ∧ bb = false ∧ s = ⟨#[]⟩ ∧ n = 0 ∧ n' = 0) ∧ Below w.heap.size w w' := by
  have hb : Below w.heap.size w (w.alloc (.cells #[.int .i64 k, .bool g, .slice la ln lc, .bool bb, .string s, .slice ia n ic, .slice ta n' tc] 27)) := (Below.refl _ w).alloc (Nat.le_refl _) _
  have HB := Lib.hid hb
  clear hb
  cases g
  case true =>
    go_enter Try.func74, Try.ntmps74
    go_wp2_with fail
    go_ret
    exact ⟨false, rfl, fun h => (by cases h), HB.out⟩
  case false =>
    by_cases h1 : ln = 0
    case neg =>
      have q1 : ((ln : Int) == 0) = false := beq_eq_false_iff_ne.2 (by omega)
      go_enter Try.func74, Try.ntmps74
      go_wp2_with fail
      go_ret
      exact ⟨false, rfl, fun h => (by cases h), HB.out⟩
    case pos =>
      subst h1
      cases bb
      case true =>
        go_enter Try.func74, Try.ntmps74
        go_wp2_with fail
        go_ret
        exact ⟨false, rfl, fun h => (by cases h), HB.out⟩
      case false =>
        by_cases h2 : s = ⟨#[]⟩
        case neg =>
          have q2 : ¬ s.toList = [] := fun e => by
            have h := text_ne' h2
            rw [e, ByteArray.toList_eq] at h
            exact absurd h (by decide)
          go_enter Try.func74, Try.ntmps74
          go_wp2_with fail
          go_ret
          exact ⟨false, rfl, fun h => (by cases h), HB.out⟩
        case pos =>
          subst h2
          by_cases h3 : n = 0
          case neg =>
            have q3 : ((n : Int) == 0) = false := beq_eq_false_iff_ne.2 (by omega)
            go_enter Try.func74, Try.ntmps74
            go_wp2_with fail
            go_ret
            exact ⟨false, rfl, fun h => (by cases h), HB.out⟩
          case pos =>
            subst h3
            by_cases h4 : n' = 0
            case neg =>
              have q4 : ((n' : Int) == 0) = false := beq_eq_false_iff_ne.2 (by omega)
              go_enter Try.func74, Try.ntmps74
              go_wp2_with fail
              go_ret
              exact ⟨false, by first | rfl | (rw [← q4]; rfl), fun h => (by cases h), HB.out⟩
            case pos =>
              subst h4
              go_enter Try.func74, Try.ntmps74
              go_wp2_with fail
              go_ret
              exact ⟨true, rfl, fun _ => (by simp), HB.out⟩
end Go.Proofs.Ytgboiopkihemaaa
