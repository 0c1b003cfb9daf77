/-
  write.isPlain: which bytes need no bars.
-/
import Derived.Test.YtlohdglhebplfaaGreatDoorChecked
import Derived.WalkKit
import Derived.LoopN
import Derived.Lib.Hide
import Derived.Lib.Builder
namespace Go.Proofs.YtlohdglhebplfaaGreatDoor
open Go.RowKit

/-- The table of signs lies where it is laid. -/
def Tab (w : World) : Prop := ∃ t, w.heap[2]? = some (.cells #[.int .u8 33, .int .u8 36, .int .u8 37, .int .u8 38, .int .u8 42, .int .u8 47, .int .u8 58, .int .u8 60, .int .u8 61, .int .u8 62, .int .u8 63, .int .u8 94, .int .u8 95, .int .u8 126, .int .u8 43, .int .u8 45, .int .u8 46, .int .u8 64] t (0, 0))
theorem Tab.keep {w w' : World} (h : Tab w) (hk : ∀ k, k < w.heap.size → w'.heap[k]? = w.heap[k]?) : Tab w' := by
  obtain ⟨t, h⟩ := h
  exact ⟨t, (hk _ (Array.getElem?_eq_some_iff.1 h).1).trans h⟩
theorem Tab.below {w w' : World} (h : Tab w) (hb : Below w.heap.size w w') : Tab w' := h.keep hb.block

def isDig (n : Nat) : Bool := decide (48 ≤ n) && decide (n ≤ 57)
def isSign (n : Nat) : Bool := [33, 36, 37, 38, 42, 47, 58, 60, 61, 62, 63, 94, 95, 126, 43, 45, 46, 64].contains n
def isPl (n : Nat) : Bool := isSign n || (decide (97 ≤ n) && decide (n ≤ 122)) || (decide (65 ≤ n) && decide (n ≤ 90)) || isDig n

theorem isDigit_any (n : Nat) (w : World) : Calls Tryz.prog 215 #[.int .u8 (n : Int)] w fun e w' => e = .returned (.bool (isDig n)) ∧ w = w' := by
  by_cases h1 : 48 ≤ n
  · by_cases h2 : n ≤ 57
    · have e : isDig n = true := by simp [isDig, h1, h2]
      rw [e]
      go_enter Tryz.func215, Tryz.ntmps215
      go_wp2
      all_goals (go_ret; first | exact ⟨rfl, rfl⟩ | (refine ⟨?_, rfl⟩; simp; omega))
    · have e : isDig n = false := by simp [isDig]; omega
      rw [e]
      have hd : decide ((n : Int) ≤ 57) = false := by simp; omega
      go_enter Tryz.func215, Tryz.ntmps215
      go_wp2
      all_goals (go_ret; first | exact ⟨rfl, rfl⟩ | (refine ⟨?_, rfl⟩; simp; omega))
  · have e : isDig n = false := by simp [isDig]; omega
    rw [e]
    have hd : decide (48 ≤ (n : Int)) = false := by simp; omega
    go_enter Tryz.func215, Tryz.ntmps215
    go_wp2
    all_goals (go_ret; first | exact ⟨rfl, rfl⟩ | (refine ⟨?_, rfl⟩; simp; omega))

def sgL : List Nat := [33, 36, 37, 38, 42, 47, 58, 60, 61, 62, 63, 94, 95, 126, 43, 45, 46, 64]
theorem sg_at (k : Nat) (hk : k < 18) : (#[Value.int .u8 33, .int .u8 36, .int .u8 37, .int .u8 38, .int .u8 42, .int .u8 47, .int .u8 58, .int .u8 60, .int .u8 61, .int .u8 62, .int .u8 63, .int .u8 94, .int .u8 95, .int .u8 126, .int .u8 43, .int .u8 45, .int .u8 46, .int .u8 64] : Array Value)[k]? = some (.int .u8 ((sgL.getD k 0 : Nat) : Int)) := by
  have h : ∀ j, j < 18 → (#[Value.int .u8 33, .int .u8 36, .int .u8 37, .int .u8 38, .int .u8 42, .int .u8 47, .int .u8 58, .int .u8 60, .int .u8 61, .int .u8 62, .int .u8 63, .int .u8 94, .int .u8 95, .int .u8 126, .int .u8 43, .int .u8 45, .int .u8 46, .int .u8 64] : Array Value)[j]? = some (.int .u8 ((sgL.getD j 0 : Nat) : Int)) := by
    intro j hj
    match j, hj with
    | 0, _ | 1, _ | 2, _ | 3, _ | 4, _ | 5, _ | 6, _ | 7, _ | 8, _ | 9, _ | 10, _ | 11, _ | 12, _ | 13, _ | 14, _ | 15, _ | 16, _ | 17, _ => rfl
    | j + 18, hj => omega
  exact h k hk
theorem isSign_iff (n : Nat) : isSign n = true ↔ ∃ k, k < 18 ∧ sgL.getD k 0 = n := by
  unfold isSign
  rw [List.contains_iff_mem, show ([33, 36, 37, 38, 42, 47, 58, 60, 61, 62, 63, 94, 95, 126, 43, 45, 46, 64] : List Nat) = sgL from rfl, List.mem_iff_getElem]
  constructor
  · rintro ⟨k, hk, e⟩
    exact ⟨k, hk, by rw [List.getD_eq_getElem?_getD, List.getElem?_eq_getElem hk]; exact e⟩
  · rintro ⟨k, hk, e⟩
    exact ⟨k, hk, by rw [List.getD_eq_getElem?_getD, List.getElem?_eq_getElem (show k < sgL.length from hk)] at e; exact e⟩

theorem run_sign (A : Array Value) (k : Nat) (x : Int) (w : World) (hk : k < 18) (h : A[k]? = some (.int .u8 x)) : (Instr.index 245 (.agg A) (.int .i64 (k : Int))).run Tryz.prog w = .ok (.int .u8 x) w := by
  simp [Instr.index, asIntOf, part, Sem.run_bind, run_underlying Tryz.underlying245, go_sem, h, hk]

set_option maxRecDepth 100000 in
set_option maxHeartbeats 6400000 in
theorem isPlain_any (n : Nat) (hn : n < 256) (w : World) (ht : Tab w) : Calls Tryz.prog 214 #[.int .u8 (n : Int)] w fun e w' => e = .returned (.bool (isPl n)) ∧ w = w' := by
  obtain ⟨t, ht⟩ := ht
  have hc := fun j => Lib.cell_of_heap ht j
  have c0 := hc 0; have c1 := hc 1; have c2 := hc 2; have c3 := hc 3; have c4 := hc 4; have c5 := hc 5; have c6 := hc 6; have c7 := hc 7; have c8 := hc 8
  have c9 := hc 9; have c10 := hc 10; have c11 := hc 11; have c12 := hc 12; have c13 := hc 13; have c14 := hc 14; have c15 := hc 15; have c16 := hc 16; have c17 := hc 17
  simp only [List.getElem?_toArray, List.getElem?_cons_zero, List.getElem?_cons_succ] at c0 c1 c2 c3 c4 c5 c6 c7 c8 c9 c10 c11 c12 c13 c14 c15 c16 c17
  clear ht hc
  go_enter Tryz.func214, Tryz.ntmps214
  go_wp2
  clear c0 c1 c2 c3 c4 c5 c6 c7 c8 c9 c10 c11 c12 c13 c14 c15 c16 c17
  have hat := Lib.hid sg_at
  generalize hA : (#[Value.int .u8 33, .int .u8 36, .int .u8 37, .int .u8 38, .int .u8 42, .int .u8 47, .int .u8 58, .int .u8 60, .int .u8 61, .int .u8 62, .int .u8 63, .int .u8 94, .int .u8 95, .int .u8 126, .int .u8 43, .int .u8 45, .int .u8 46, .int .u8 64] : Array Value) = A at *
  have hAs : A.size = 18 := by rw [← hA]; rfl
  clear hA
  go_loop [6] (fun i => ∃ k : Nat, k ≤ 18 ∧ i = .int .i64 k ∧ ∀ j, j < k → sgL.getD j 0 ≠ n) (fun i => 18 - (intOf i).toNat)
  case atStart => exact ⟨0, Nat.zero_le _, rfl, fun j hj => by omega⟩
  case round =>
    obtain ⟨k, hk, rfl, hne⟩ := hrel
    have HN := Lib.hid hne
    clear hne
    by_cases hlt : k < 18
    · have hak := hat.out k hlt
      by_cases he : sgL.getD k 0 = n
      · have hp : isPl n = true := by simp [isPl, (isSign_iff n).2 ⟨k, hlt, he⟩]
        have HP := Lib.hid hp
        rw [he] at hak
        have hrun := run_sign A k (n : Int) w hlt hak
        clear hp he hak
        go_wp2
        go_ret
        exact ⟨by rw [HP.out]; rfl, rfl⟩
      · have hne2 : ∀ j, j < k + 1 → sgL.getD j 0 ≠ n := fun j hj => by
          rcases Nat.lt_succ_iff_lt_or_eq.1 hj with h | rfl
          · exact HN.out j h
          · exact he
        have HM := Lib.hid hne2
        generalize sgL.getD k 0 = x at *
        have hx : ((n : Int) == (x : Int)) = false := by simp; omega
        have hrun := run_sign A k (x : Int) w hlt hak
        clear hne2 he hak
        go_wp2
        go_round
        case rel => exact ⟨k + 1, by omega, by go_num, HM.out⟩
        case measure => simp [intOf]; omega
    · obtain rfl : k = 18 := by omega
      have hns : isSign n = false := by
        cases h : isSign n with
        | false => rfl
        | true => obtain ⟨j, hj, e⟩ := (isSign_iff n).1 h; exact absurd e (HN.out j hj)
      have HS := Lib.hid hns
      clear hns
      by_cases a1 : 97 ≤ n
      · by_cases a2 : n ≤ 122
        · have b1 : decide (97 ≤ (n : Int)) = true := by simp; omega
          have b2 : decide ((n : Int) ≤ 122) = true := by simp; omega
          have HP := Lib.hid (show isPl n = true by simp [isPl, a1, a2])
          clear a1 a2
          go_wp2
          go_ret
          exact ⟨by rw [HP.out]; rfl, rfl⟩
        · have b1 : decide (97 ≤ (n : Int)) = true := by simp; omega
          have b2 : decide ((n : Int) ≤ 122) = false := by simp; omega
          have b3 : decide (65 ≤ (n : Int)) = true := by simp; omega
          have b4 : decide ((n : Int) ≤ 90) = false := by simp; omega
          have HP := Lib.hid (show isPl n = isDig n by simp [isPl, HS.out, a2]; omega)
          clear a1 a2
          go_wp2_with (go_at_call 215; refine (isDigit_any n _).mono ?_; rintro e w' ⟨rfl, rfl⟩)
          go_ret
          exact ⟨by rw [HP.out]; rfl, rfl⟩
      · have b1 : decide (97 ≤ (n : Int)) = false := by simp; omega
        by_cases a3 : 65 ≤ n
        · by_cases a4 : n ≤ 90
          · have b3 : decide (65 ≤ (n : Int)) = true := by simp; omega
            have b4 : decide ((n : Int) ≤ 90) = true := by simp; omega
            have HP := Lib.hid (show isPl n = true by simp [isPl, a3, a4])
            clear a1 a3 a4
            go_wp2
            go_ret
            exact ⟨by rw [HP.out]; rfl, rfl⟩
          · have b3 : decide (65 ≤ (n : Int)) = true := by simp; omega
            have b4 : decide ((n : Int) ≤ 90) = false := by simp; omega
            have HP := Lib.hid (show isPl n = isDig n by simp [isPl, HS.out, a4]; omega)
            clear a1 a3 a4
            go_wp2_with (go_at_call 215; refine (isDigit_any n _).mono ?_; rintro e w' ⟨rfl, rfl⟩)
            go_ret
            exact ⟨by rw [HP.out]; rfl, rfl⟩
        · have b3 : decide (65 ≤ (n : Int)) = false := by simp; omega
          have HP := Lib.hid (show isPl n = isDig n by simp [isPl, HS.out]; omega)
          clear a1 a3
          go_wp2_with (go_at_call 215; refine (isDigit_any n _).mono ?_; rintro e w' ⟨rfl, rfl⟩)
          go_ret
          exact ⟨by rw [HP.out]; rfl, rfl⟩
end Go.Proofs.YtlohdglhebplfaaGreatDoor
