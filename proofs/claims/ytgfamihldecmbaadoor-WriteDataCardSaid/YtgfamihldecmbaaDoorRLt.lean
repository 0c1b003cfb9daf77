/-
  The document's own letter and Plain (pavaneref04): they say what the code says.
-/
import Derived.Test.YtgfamihldecmbaaDoorRNm
import Derived.Lib.SlBytesConst
namespace Go.Proofs.YtgfamihldecmbaaDoor
open Go.RowKit

theorem sg_cell (w : World) (k : Nat) (hk : k < 18) : (w.alloc (.cells #[Value.int .u8 33, .int .u8 36, .int .u8 37, .int .u8 38, .int .u8 42, .int .u8 47, .int .u8 58, .int .u8 60, .int .u8 61, .int .u8 62, .int .u8 63, .int .u8 94, .int .u8 95, .int .u8 126, .int .u8 43, .int .u8 45, .int .u8 46, .int .u8 64] 5 (18, 19))).cell? ⟨w.heap.size, k, none⟩ = some (.int .u8 ((sgL.getD k 0 : Nat) : Int)) := by
  rw [Lib.cell_of_heap (World.alloc_heap_new w _)]
  exact sg_at k hk

set_option maxRecDepth 100000 in
set_option maxHeartbeats 6400000 in
theorem letter_sign (n : Nat) (hn : n < 256) (h : n < 48 ∨ (58 ≤ n ∧ n < 65) ∨ (91 ≤ n ∧ n < 97) ∨ 123 ≤ n) (w : World) : Calls Tryd.prog 36 #[.int .u8 (n : Int)] w fun e w' => e = .returned (.bool (isPl n)) ∧ Below w.heap.size w w' := by
  have hdg : isDig n = false := by simp [isDig]; omega
  have hpl : isPl n = isSign n := by
    have a : (decide (97 ≤ n) && decide (n ≤ 122)) = false := by simp; omega
    have b : (decide (65 ≤ n) && decide (n ≤ 90)) = false := by simp; omega
    simp only [isPl, a, b, hdg, Bool.or_false]
  have HPL := Lib.hid hpl
  have hD := fun w => rdig4_any n w
  rw [hdg] at hD
  have HDG := Lib.hid hD
  have HC := Lib.hid (sg_cell w)
  have HB := Lib.hid (show Below w.heap.size w (w.alloc (.cells #[Value.int .u8 33, .int .u8 36, .int .u8 37, .int .u8 38, .int .u8 42, .int .u8 47, .int .u8 58, .int .u8 60, .int .u8 61, .int .u8 62, .int .u8 63, .int .u8 94, .int .u8 95, .int .u8 126, .int .u8 43, .int .u8 45, .int .u8 46, .int .u8 64] 5 (18, 19))) from (Below.refl _ w).alloc (Nat.le_refl _) _)
  clear hpl hdg hD
  have hconv : (convert 58 58 (.slice (some ⟨w.heap.size, 0, none⟩) 18 18)).run Tryd.prog (w.alloc (.cells #[Value.int .u8 33, .int .u8 36, .int .u8 37, .int .u8 38, .int .u8 42, .int .u8 47, .int .u8 58, .int .u8 60, .int .u8 61, .int .u8 62, .int .u8 63, .int .u8 94, .int .u8 95, .int .u8 126, .int .u8 43, .int .u8 45, .int .u8 46, .int .u8 64] 5)) = .ok (.slice (some ⟨w.heap.size, 0, none⟩) 18 18) (w.alloc (.cells #[Value.int .u8 33, .int .u8 36, .int .u8 37, .int .u8 38, .int .u8 42, .int .u8 47, .int .u8 58, .int .u8 60, .int .u8 61, .int .u8 62, .int .u8 63, .int .u8 94, .int .u8 95, .int .u8 126, .int .u8 43, .int .u8 45, .int .u8 46, .int .u8 64] 5 (18, 19))) :=
    Lib.run_convert_bytes_const w 58 5 #[Value.int .u8 33, .int .u8 36, .int .u8 37, .int .u8 38, .int .u8 42, .int .u8 47, .int .u8 58, .int .u8 60, .int .u8 61, .int .u8 62, .int .u8 63, .int .u8 94, .int .u8 95, .int .u8 126, .int .u8 43, .int .u8 45, .int .u8 46, .int .u8 64] 18 18 Tryd.underlying58 Tryd.underlying5
  rcases h with h | ⟨h, h'⟩ | ⟨h, h'⟩ | h
  all_goals
    go_enter Tryd.func36, Tryd.ntmps36
    go_wp2_with (go_at_call 35; refine (HDG.out _).mono ?_; rintro e w' ⟨rfl, rfl⟩)
    clear hconv
    generalize hW : w.alloc (.cells #[Value.int .u8 33, .int .u8 36, .int .u8 37, .int .u8 38, .int .u8 42, .int .u8 47, .int .u8 58, .int .u8 60, .int .u8 61, .int .u8 62, .int .u8 63, .int .u8 94, .int .u8 95, .int .u8 126, .int .u8 43, .int .u8 45, .int .u8 46, .int .u8 64] 5 (18, 19)) = W at *
    clear hW
    go_loop [26] (fun i => ∃ k : Nat, k ≤ 18 ∧ i = .int .i64 k ∧ Hid (∀ j, j < k → sgL.getD j 0 ≠ n)) (fun i => 18 - (intOf i).toNat)
    case atStart => exact ⟨0, Nat.zero_le _, rfl, Lib.hid fun j hj => by omega⟩
    case round =>
      obtain ⟨k, hk, rfl, HN⟩ := hrel
      by_cases hlt : k < 18
      · have hc := HC.out k hlt
        by_cases he : sgL.getD k 0 = n
        · have HP := Lib.hid (show isPl n = true by rw [HPL.out]; exact (isSign_iff n).2 ⟨k, hlt, he⟩)
          rw [he] at hc
          clear he
          go_wp2_with fail
          go_ret
          exact ⟨by rw [HP.out]; rfl, HB.out⟩
        · have HM : Hid (∀ j, j < k + 1 → sgL.getD j 0 ≠ n) := Lib.hid fun j hj => by
            rcases Nat.lt_succ_iff_lt_or_eq.1 hj with h | rfl
            · exact HN.out j h
            · exact he
          generalize sgL.getD k 0 = x at *
          have hx : ((x : Int) == (n : Int)) = false := by simp; omega
          clear he
          go_wp2_with fail
          go_round
          case rel => exact ⟨k + 1, by omega, by go_num, HM⟩
          case measure => simp [intOf]; omega
      · obtain rfl : k = 18 := by omega
        have HS := Lib.hid (show isPl n = false by
          rw [HPL.out]
          cases h : isSign n with
          | false => rfl
          | true => obtain ⟨j, hj, e⟩ := (isSign_iff n).1 h; exact absurd e (HN.out j hj))
        go_wp2_with fail
        go_ret
        exact ⟨by rw [HS.out]; rfl, HB.out⟩

set_option maxRecDepth 100000 in
set_option maxHeartbeats 3200000 in
theorem letter_any (n : Nat) (hn : n < 256) (w : World) : Calls Tryd.prog 36 #[.int .u8 (n : Int)] w fun e w' => e = .returned (.bool (isPl n)) ∧ Below w.heap.size w w' := by
  rcases (show (97 ≤ n ∧ n ≤ 122) ∨ (65 ≤ n ∧ n ≤ 90) ∨ (48 ≤ n ∧ n ≤ 57) ∨ (n < 48 ∨ (58 ≤ n ∧ n < 65) ∨ (91 ≤ n ∧ n < 97) ∨ 123 ≤ n) by omega) with ⟨h, h'⟩ | ⟨h, h'⟩ | ⟨h, h'⟩ | h
  · have HP := Lib.hid (show isPl n = true by simp [isPl, h, h'])
    go_enter Tryd.func36, Tryd.ntmps36
    go_wp2_with fail
    go_ret
    exact ⟨by rw [HP.out]; rfl, Below.refl _ _⟩
  · have HP := Lib.hid (show isPl n = true by simp [isPl, h, h'])
    go_enter Tryd.func36, Tryd.ntmps36
    go_wp2_with fail
    go_ret
    exact ⟨by rw [HP.out]; rfl, Below.refl _ _⟩
  · have hdg : isDig n = true := by simp [isDig, h, h']
    have HP := Lib.hid (show isPl n = true by simp only [isPl, hdg, Bool.or_true])
    have hD := fun w => rdig4_any n w
    rw [hdg] at hD
    have HDG := Lib.hid hD
    clear hdg hD
    go_enter Tryd.func36, Tryd.ntmps36
    go_wp2_with (go_at_call 35; refine (HDG.out _).mono ?_; rintro e w' ⟨rfl, rfl⟩)
    go_ret
    exact ⟨by rw [HP.out]; rfl, Below.refl _ _⟩
  · exact letter_sign n hn h w
end Go.Proofs.YtgfamihldecmbaaDoor
