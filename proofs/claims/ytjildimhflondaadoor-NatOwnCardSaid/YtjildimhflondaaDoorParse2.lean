/-
  nat.Parse: what it answers.
-/
import Derived.Test.YtjildimhflondaaDoorParse
namespace Go.Proofs.YtjildimhflondaaDoor
open Go.RowKit

/-- The number of digits. -/
def numB (b : Nat) (l : List UInt8) : Nat := l.foldl (fun a c => a * b + digN c.toNat) 0
theorem numB_snoc (b : Nat) (l : List UInt8) (c : UInt8) : numB b (l ++ [c]) = numB b l * b + digN c.toNat := by simp [numB]
theorem bytes_snoc (s : ByteArray) (k : Nat) (h : k < s.size) : s.data.toList.take (k + 1) = s.data.toList.take k ++ [s[k]] := by
  rw [List.take_succ_eq_append_getElem (by simpa using h)]; rfl
theorem numB_lt (b : Nat) (hb : b ≤ 36) (s : ByteArray) (k : Nat) (hk : k ≤ s.size) : numB b (s.data.toList.take k) < 4294967296 ^ k := by
  induction k with
  | zero => simp [numB]
  | succ k ih =>
    rw [bytes_snoc s k (by omega), numB_snoc, Nat.pow_succ]
    have h1 := ih (by omega)
    have h2 := digN_le s[k].toNat
    have h3 : numB b (s.data.toList.take k) * b ≤ numB b (s.data.toList.take k) * 36 := Nat.mul_le_mul_left _ hb
    omega

set_option maxHeartbeats 1600000 in
theorem parse_yes (s : ByteArray) (b : Nat) (w : World) (h2 : 2 ≤ b) (h36 : b ≤ 36) (hs1 : 1 ≤ s.size) (hs2 : s.size ≤ 1000) (hgood : ∀ k (h : k < s.size), digN s[k].toNat < b) :
    Calls Tryd.prog 49 #[.string s, .int .i64 (b : Int)] w fun e w' =>
      ∃ v, e = .returned (.tuple #[v, .bool true]) ∧ New w' w.heap.size v (limbs (numB b s.data.toList)) ∧ Below w.heap.size w w' := by
  have HG := Lib.hid hgood
  clear hgood
  have hne : ((s.size : Int) == 0) = false := beq_eq_false_iff_ne.2 (by omega)
  go_enter Tryd.func49, Tryd.ntmps49
  go_wp2_with (go_at_call 79; refine (isBase_yes _ (by omega) (by omega) _).mono ?_; rintro e w' ⟨rfl, rfl⟩)
  go_loopw [6, 24] (fun v i wr => ∃ k : Nat, k ≤ s.size ∧ i = .int .i64 k ∧ Own wr w.heap.size v (limbs (numB b (s.data.toList.take k))) ∧ Below w.heap.size w wr) (fun _ i _ => s.size - (intOf i).toNat)
  case atStart => exact ⟨0, by omega, rfl, Own.nil _ _, Below.refl _ _⟩
  case round =>
    obtain ⟨k, hk, rfl, hown, hbel⟩ := hrel
    by_cases hks : k < s.size
    · have hd := HG.out k hks
      have hlen : (limbs (numB b (s.data.toList.take k))).length ≤ 1000000 := by
        have := limbs_len_le (numB_lt b h36 s k hk)
        omega
      have hsz := hbel.size
      have HE := Lib.hid (show numB b (s.data.toList.take (k + 1)) = numB b (s.data.toList.take k) * b + digN s[k].toNat by rw [bytes_snoc s k hks, numB_snoc])
      go_wp2_with (first | (go_at_call 80; refine (digitOf_any _ (by have := UInt8.toNat_lt s[k]; omega) _).mono ?_; rintro e w' ⟨rfl, rfl⟩) | (go_at_call 81; refine (putDigit_any w.heap.size _ (numB b (s.data.toList.take k)) b _ _ hown h2 h36 hd hsz hlen).mono ?_; rintro e w1 ⟨v1, rfl, hown1, hbel1⟩))
      go_roundw
      case rel => exact ⟨k + 1, by omega, by go_num, by rw [HE.out]; exact hown1, hbel.trans hbel1⟩
      case measure => simp [intOf]; omega
    · obtain rfl : k = s.size := by omega
      have hn := Lib.hid hown.new
      clear hown
      go_wp2_with fail
      go_ret2
      have := hn.out
      rw [List.take_of_length_le (by simp)] at this
      exact ⟨_, rfl, this, hbel⟩

set_option maxHeartbeats 1600000 in
theorem parse_bad (s : ByteArray) (b : Nat) (w : World) (h2 : 2 ≤ b) (h36 : b ≤ 36) (hs1 : 1 ≤ s.size) (hs2 : s.size ≤ 1000) (j : Nat) (hj : j < s.size) (hbad : b ≤ digN s[j].toNat) :
    Calls Tryd.prog 49 #[.string s, .int .i64 (b : Int)] w fun e w' => e = .returned (.tuple #[.slice none 0 0, .bool false]) ∧ Below w.heap.size w w' := by
  have HB := Lib.hid hbad
  clear hbad
  have hne : ((s.size : Int) == 0) = false := beq_eq_false_iff_ne.2 (by omega)
  go_enter Tryd.func49, Tryd.ntmps49
  go_wp2_with (go_at_call 79; refine (isBase_yes _ (by omega) (by omega) _).mono ?_; rintro e w' ⟨rfl, rfl⟩)
  go_loopw [6, 24] (fun v i wr => ∃ k : Nat, k ≤ j ∧ i = .int .i64 k ∧ Own wr w.heap.size v (limbs (numB b (s.data.toList.take k))) ∧ Below w.heap.size w wr) (fun _ i _ => s.size - (intOf i).toNat)
  case atStart => exact ⟨0, by omega, rfl, Own.nil _ _, Below.refl _ _⟩
  case round =>
    obtain ⟨k, hk, rfl, hown, hbel⟩ := hrel
    have hks : k < s.size := by omega
    have hd36 := digN_le s[k].toNat
    by_cases hd : digN s[k].toNat < b
    · have hkj : k < j := by
        rcases Nat.lt_or_ge k j with h | h
        · exact h
        · obtain rfl : k = j := by omega
          have := HB.out
          omega
      have hlen : (limbs (numB b (s.data.toList.take k))).length ≤ 1000000 := by
        have := limbs_len_le (numB_lt b h36 s k (by omega))
        omega
      have hsz := hbel.size
      have HE := Lib.hid (show numB b (s.data.toList.take (k + 1)) = numB b (s.data.toList.take k) * b + digN s[k].toNat by rw [bytes_snoc s k hks, numB_snoc])
      go_wp2_with (first | (go_at_call 80; refine (digitOf_any _ (by have := UInt8.toNat_lt s[k]; omega) _).mono ?_; rintro e w' ⟨rfl, rfl⟩) | (go_at_call 81; refine (putDigit_any w.heap.size _ (numB b (s.data.toList.take k)) b _ _ hown h2 h36 hd hsz hlen).mono ?_; rintro e w1 ⟨v1, rfl, hown1, hbel1⟩))
      go_roundw
      case rel => exact ⟨k + 1, by omega, by go_num, by rw [HE.out]; exact hown1, hbel.trans hbel1⟩
      case measure => simp [intOf]; omega
    · have hd' : b ≤ digN s[k].toNat := by omega
      go_wp2_with (first | (go_at_call 80; refine (digitOf_any _ (by have := UInt8.toNat_lt s[k]; omega) _).mono ?_; rintro e w' ⟨rfl, rfl⟩))
      go_ret2
      exact ⟨rfl, hbel⟩

set_option maxHeartbeats 800000 in
theorem parse_no (s : ByteArray) (b : Int) (w : World) (h : b < 2 ∨ 36 < b ∨ s.size = 0 ∨ 1000 < s.size) (hm : s.size ≤ maxLen) :
    Calls Tryd.prog 49 #[.string s, .int .i64 b] w fun e w' => e = .returned (.tuple #[.slice none 0 0, .bool false]) ∧ Below w.heap.size w w' := by
  unfold maxLen at hm
  by_cases hb : b < 2 ∨ 36 < b
  · go_enter Tryd.func49, Tryd.ntmps49
    go_wp2_with (go_at_call 79; refine (isBase_no _ hb _).mono ?_; rintro e w' ⟨rfl, rfl⟩)
    go_ret2
    exact ⟨rfl, Below.refl _ _⟩
  · by_cases h0 : s.size = 0
    · have hne : ((s.size : Int) == 0) = true := by simp [h0]
      have H0 := Lib.hid h0
      clear h0 h
      go_enter Tryd.func49, Tryd.ntmps49
      go_wp2_with (go_at_call 79; refine (isBase_yes _ (by omega) (by omega) _).mono ?_; rintro e w' ⟨rfl, rfl⟩)
      go_ret2
      exact ⟨rfl, Below.refl _ _⟩
    · have hne : ((s.size : Int) == 0) = false := beq_eq_false_iff_ne.2 (by omega)
      have h1 : 1000 < s.size := by omega
      clear h
      go_enter Tryd.func49, Tryd.ntmps49
      go_wp2_with (go_at_call 79; refine (isBase_yes _ (by omega) (by omega) _).mono ?_; rintro e w' ⟨rfl, rfl⟩)
      go_ret2
      exact ⟨rfl, Below.refl _ _⟩
end Go.Proofs.YtjildimhflondaaDoor
