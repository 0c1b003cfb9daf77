/-
  write.between, write.Quote: a text between two marks.
-/
import Derived.Test.YtlohdglhebplfaaGreatDoorEsc
namespace Go.Proofs.YtlohdglhebplfaaGreatDoor
open Go.RowKit

def escs (M : Nat) : List UInt8 → List UInt8
  | [] => []
  | c :: l => esc M c.toNat ++ escs M l
theorem escs_append (M : Nat) (l m : List UInt8) : escs M (l ++ m) = escs M l ++ escs M m := by induction l with | nil => rfl | cons c l ih => simp [escs, ih]
theorem escs_length (M : Nat) (l : List UInt8) : l.length ≤ (escs M l).length ∧ (escs M l).length ≤ 5 * l.length := by
  induction l with
  | nil => simp [escs]
  | cons c l ih => have := esc_length M c.toNat; simp only [escs, List.length_append, List.length_cons]; omega
def betw (M : Nat) (l : List UInt8) : List UInt8 := by8 M :: (escs M l ++ [by8 M])
theorem take_snoc8 (s : ByteArray) (k : Nat) (h : k < s.size) : s.data.toList.take (k + 1) = s.data.toList.take k ++ [s[k]] := by
  rw [List.take_succ_eq_append_getElem (by simpa using h)]; rfl

set_option maxRecDepth 100000 in
set_option maxHeartbeats 3200000 in
theorem between_any (M : Nat) (hM : M = 124 ∨ M = 34) (s : ByteArray) (w : World) (hs : s.size ≤ 100000000) :
    Calls Tryz.prog 207 #[.int .u8 (M : Int), .string s] w fun e w' => e = .returned (.string ⟨(betw M s.data.toList).toArray⟩) ∧ Below w.heap.size w w' := by
  have hM2 : M < 256 := by omega
  have HM := Lib.hid hM
  clear hM
  go_enter Tryz.func207, Tryz.ntmps207
  have hf := Bl.fresh w
  have hb0 : Below w.heap.size w (w.alloc (.cells #[.pointer none, .slice none 0 0] 109)) := (Below.refl _ w).alloc (Nat.le_refl _) _
  go_wp2_with fail
  refine (putZ w.heap.size w.heap.size [] _ _ hf (by simp) (by simp) (by omega) (by omega)).mono ?_
  rintro e w1 ⟨rfl, h1⟩
  have z1 : w.heap.size < w1.heap.size := by have := h1.size; simp at this; omega
  have b1 := hb0.trans h1.2.1
  have hb1 := h1.1
  clear h1 hf hb0
  go_wp2_with fail
  go_loopw [14] (fun i wr => ∃ k : Nat, k ≤ s.size ∧ i = .int .i64 k ∧ Bl w.heap.size w.heap.size (by8 M :: escs M (s.data.toList.take k)) wr ∧ Below w.heap.size w wr ∧ w.heap.size < wr.heap.size) (fun i _ => s.size - (intOf i).toNat)
  case atStart => exact ⟨0, Nat.zero_le _, rfl, by simpa [escs] using hb1, b1, z1⟩
  case round =>
    obtain ⟨k, hk, rfl, hbl, hbel, hsz⟩ := hrel
    have hlen := (escs_length M (s.data.toList.take k)).2
    have hl2 : (s.data.toList.take k).length ≤ k := List.length_take_le _ _
    clear hb1 b1 z1
    by_cases hlt : k < s.size
    · have hts := Lib.hid (take_snoc8 s k hlt)
      go_wp2_with fail
      refine (putIn_any M HM.out w.heap.size w.heap.size _ _ _ hbl (by simp only [List.length_cons]; omega) (by omega) (UInt8.toNat_lt _)).mono ?_
      rintro e w2 ⟨rfl, h2⟩
      have z2 := h2.size
      go_wp2_with fail
      go_roundw
      case rel => exact ⟨k + 1, by omega, by go_num, by rw [hts.out, escs_append]; simpa [escs] using h2.1, hbel.trans h2.2.1, by omega⟩
      case measure => simp [intOf]; omega
    · obtain rfl : k = s.size := by omega
      go_wp2_with fail
      refine (putZ w.heap.size w.heap.size _ _ _ hbl (by simp only [List.length_cons]; omega) (by omega) (by omega) (by omega)).mono ?_
      rintro e w2 ⟨rfl, h2⟩
      have z2 := h2.size
      go_wp2_with fail
      refine (built w.heap.size w.heap.size _ _ h2.1 (by omega)).mono ?_
      rintro e w3 ⟨rfl, h3⟩
      go_wp2_with fail
      go_ret
      refine ⟨?_, (hbel.trans h2.2.1).trans h3.2.1⟩
      rw [List.take_of_length_le (by simp)]
      rfl

theorem quote_any (s : ByteArray) (w : World) (hs : s.size ≤ 100000000) : Calls Tryz.prog 160 #[.string s] w fun e w' => e = .returned (.string ⟨(betw 34 s.data.toList).toArray⟩) ∧ Below w.heap.size w w' := by
  go_enter Tryz.func160, Tryz.ntmps160
  go_wp2_with fail
  refine (between_any 34 (.inr rfl) s _ hs).mono ?_
  rintro e w1 ⟨rfl, h1⟩
  go_wp2_with fail
  go_ret
  exact ⟨rfl, h1⟩
end Go.Proofs.YtlohdglhebplfaaGreatDoor
