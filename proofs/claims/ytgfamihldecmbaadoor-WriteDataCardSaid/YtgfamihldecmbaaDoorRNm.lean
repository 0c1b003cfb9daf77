/-
  The document's own digit, letter, and Parse of what is no number (pavaneref04, 02, 01).
-/
import Derived.Test.YtgfamihldecmbaaDoorWriteApart
namespace Go.Proofs.YtgfamihldecmbaaDoor
open Go.RowKit

theorem rdig4_any (n : Nat) (w : World) : Calls Tryd.prog 35 #[.int .u8 (n : Int)] w fun e w' => e = .returned (.bool (isDig n)) ∧ w = w' := by
  by_cases h1 : 48 ≤ n
  · by_cases h2 : n ≤ 57
    · have e : isDig n = true := by simp [isDig, h1, h2]
      rw [e]
      go_enter Tryd.func35, Tryd.ntmps35
      go_wp2
      all_goals (go_ret; first | exact ⟨rfl, rfl⟩ | (refine ⟨?_, rfl⟩; simp; omega))
    · have e : isDig n = false := by simp [isDig]; omega
      rw [e]
      have hd : decide ((n : Int) ≤ 57) = false := by simp; omega
      go_enter Tryd.func35, Tryd.ntmps35
      go_wp2
      all_goals (go_ret; first | exact ⟨rfl, rfl⟩ | (refine ⟨?_, rfl⟩; simp; omega))
  · have e : isDig n = false := by simp [isDig]; omega
    rw [e]
    have hd : decide (48 ≤ (n : Int)) = false := by simp; omega
    go_enter Tryd.func35, Tryd.ntmps35
    go_wp2
    all_goals (go_ret; first | exact ⟨rfl, rfl⟩ | (refine ⟨?_, rfl⟩; simp; omega))

set_option maxHeartbeats 1600000 in
theorem rdig1_not (c : Nat) (hc : c ≤ 255) (hn : isDig c = false) (w : World) : Calls Tryd.prog 69 #[.int .u8 (c : Int)] w fun e w' => ∃ z : Int, e = .returned (.int .i64 z) ∧ (z = -1 ∨ (10 ≤ z ∧ z ≤ 36)) ∧ w = w' := by
  have hn2 : ¬ (48 ≤ c ∧ c ≤ 57) := by
    intro h
    simp [isDig, h.1, h.2] at hn
  clear hn
  rcases (show c < 48 ∨ (58 ≤ c ∧ c < 65) ∨ (65 ≤ c ∧ c ≤ 90) ∨ (91 ≤ c ∧ c < 97) ∨ (97 ≤ c ∧ c ≤ 122) ∨ 123 ≤ c by omega) with h | ⟨h, h'⟩ | ⟨h, h'⟩ | ⟨h, h'⟩ | ⟨h, h'⟩ | h
  all_goals
    clear hn2
    go_enter Tryd.func69, Tryd.ntmps69
    go_wp2_with fail
    go_ret
    exact ⟨_, rfl, by omega, rfl⟩

set_option maxHeartbeats 1600000 in
theorem rpar1_no (s : ByteArray) (w : World) (hm : s.size ≤ 64) (hn : ∀ h : 0 < s.size, isDig s[0].toNat = false) :
    Calls Tryd.prog 52 #[.string s, .int .i64 10] w fun e w' => e = .returned (.tuple #[.slice none 0 0, .bool false]) ∧ Below w.heap.size w w' := by
  by_cases h3 : s.size < 1
  · clear hn
    go_enter Tryd.func52, Tryd.ntmps52
    go_wp2_with fail
    go_ret2
    exact ⟨rfl, Below.refl _ _⟩
  · have h0 : 0 < s.size := by omega
    have hd := hn h0
    have hc := UInt8.toNat_lt s[0]
    have HD := Lib.hid (fun w => rdig1_not s[0].toNat (by omega) hd w)
    clear hn hd h3
    go_enter Tryd.func52, Tryd.ntmps52
    go_wp2_with fail
    go_loopw [6, 7] (fun _ i wr => i = .int .i64 0 ∧ Below w.heap.size w wr) (fun _ _ _ => 0)
    case atStart => exact ⟨rfl, bnew (Below.refl _ _) _⟩
    case round =>
      obtain ⟨rfl, hbel⟩ := hrel
      go_wp2_with fail
      refine (HD.out _).mono ?_
      rintro e w' ⟨z, rfl, hz, rfl⟩
      rcases hz with rfl | ⟨hz, hz'⟩
      · go_wp2_with fail
        go_ret2
        exact ⟨rfl, hbel⟩
      · have hz0 : 0 ≤ z := by omega
        go_wp2_with fail
        go_ret2
        exact ⟨rfl, hbel⟩

theorem results_p {fn : Func} {tmps : Array Value} {t t2 : Tmp} {w : World} {b : Nat} {v0 v1 v2 : Value} (h : fn.results = #[.cell t 24, .tmp t2]) (ht : tmps.getD t undef = .pointer (some ⟨b, 0, none⟩)) (ht2 : tmps.getD t2 undef = v2) (c0 : w.cell? ⟨b, 0, none⟩ = some v0) (c1 : w.cell? ⟨b, 1, none⟩ = some v1) :
    (results fn tmps).run Tryd.prog w = .ok (.tuple #[.agg #[v0, v1], v2]) w := by
  rw [Array.getD_eq_getD_getElem?] at ht ht2
  simp [results, h, ht, ht2, go_sem, c0, c1]

/-- No number: behind a sign, or at the head, no digit stands. -/
def NoNum (s : ByteArray) : Prop := 0 < s.size ∧ s.size ≤ 64 ∧ isDig (at8 s 0) = false ∧ ((at8 s 0 = 43 ∨ at8 s 0 = 45) → 1 < s.size → isDig (at8 s 1) = false)
theorem at8_extract (s : ByteArray) (h : 1 < s.size) : ∀ k : 0 < (s.extract 1 s.size).size, (s.extract 1 s.size)[0] = s[1] := by
  intro k
  simp [ByteArray.getElem_extract]
theorem size_extract1 (s : ByteArray) : (s.extract 1 s.size).size = s.size - 1 := by simp [ByteArray.size_extract]

set_option maxHeartbeats 3200000 in
theorem rpar2_no (s : ByteArray) (w : World) (h : NoNum s) : Calls Tryd.prog 37 #[.string s] w fun e w' => e = .returned (.tuple #[.agg #[.bool false, .slice none 0 0], .bool false]) ∧ Below w.heap.size w w' := by
  obtain ⟨h0, h64, hd0, hd1⟩ := h
  rw [at8_eq s 0 h0] at hd0 hd1
  have hl : s.data.toList.length = s.size := by simp
  have q1 : (s.toList == []) = false := by
    rw [ByteArray.toList_eq]
    cases h : s.data.toList with
    | nil => rw [h] at hl; simp at hl; omega
    | cons => rfl
  have q2 : ¬ s.toList = [] := by simpa using q1
  have q3 : s.toList.isEmpty = false := by
    rw [ByteArray.toList_eq]
    cases h : s.data.toList with
    | nil => rw [h] at hl; simp at hl; omega
    | cons => rfl
  clear hl
  have hb0 : Below w.heap.size w (w.alloc (.cells #[.bool false, .slice none 0 0] 24)) := (Below.refl _ w).alloc (Nat.le_refl _) _
  have hR := World.alloc_heap_new w (.cells #[.bool false, .slice none 0 0] 24)
  have hz : (w.alloc (.cells #[.bool false, .slice none 0 0] 24)).heap.size = w.heap.size + 1 := World.size_alloc _ _
  by_cases hs : s[0].toNat = 43 ∨ s[0].toNat = 45
  · have hP := rpar1_no (s.extract 1 s.size) (w.alloc (.cells #[.bool false, .slice none 0 0] 24)) (by rw [size_extract1]; omega) (fun k => by
      have h1 : 1 < s.size := by rw [size_extract1] at k; omega
      rw [at8_extract s h1 k, ← at8_eq s 1 h1]
      exact hd1 hs h1)
    have HP := Lib.hid (And.intro hP (And.intro hb0 (And.intro hR hz)))
    clear hd1 hP hb0 hR hz hd0
    rcases hs with hs | hs
    · have e1 : (((s[0].toNat : Nat) : Int) == 45) = false := by rw [hs]; rfl
      have e2 : (((s[0].toNat : Nat) : Int) == 43) = true := by rw [hs]; rfl
      clear hs
      go_enter Tryd.func37, Tryd.ntmps37
      go_wp2_with fail
      refine HP.out.1.mono ?_
      rintro e w1 ⟨rfl, b1⟩
      have hR1 := (b1.block w.heap.size (by rw [HP.out.2.2.2]; omega)).trans HP.out.2.2.1
      have hb1 := HP.out.2.1.trans (b1.mono (by rw [HP.out.2.2.2]; omega))
      have c0 := Lib.cell_of_heap hR1 0
      have c1 := Lib.cell_of_heap hR1 1
      have f0 := Lib.frozen_of_heap hR1 0
      have f1 := Lib.frozen_of_heap hR1 1
      simp only [List.getElem?_toArray, List.getElem?_cons_zero, List.getElem?_cons_succ] at c0 c1
      clear hR1
      go_wp2_with fail
      refine bodyPost_ret (results_p rfl rfl rfl (by go_simp) (by go_simp)) rfl ⟨rfl, ?_⟩
      exact Below.setCell (hp := Nat.le_refl _) (Below.setCell (hp := Nat.le_refl _) hb1 _) _
    · have e1 : (((s[0].toNat : Nat) : Int) == 45) = true := by rw [hs]; rfl
      clear hs
      go_enter Tryd.func37, Tryd.ntmps37
      go_wp2_with fail
      refine HP.out.1.mono ?_
      rintro e w1 ⟨rfl, b1⟩
      have hR1 := (b1.block w.heap.size (by rw [HP.out.2.2.2]; omega)).trans HP.out.2.2.1
      have hb1 := HP.out.2.1.trans (b1.mono (by rw [HP.out.2.2.2]; omega))
      have c0 := Lib.cell_of_heap hR1 0
      have c1 := Lib.cell_of_heap hR1 1
      have f0 := Lib.frozen_of_heap hR1 0
      have f1 := Lib.frozen_of_heap hR1 1
      simp only [List.getElem?_toArray, List.getElem?_cons_zero, List.getElem?_cons_succ] at c0 c1
      clear hR1
      go_wp2_with fail
      refine bodyPost_ret (results_p rfl rfl rfl (by go_simp) (by go_simp)) rfl ⟨rfl, ?_⟩
      exact Below.setCell (hp := Nat.le_refl _) (Below.setCell (hp := Nat.le_refl _) hb1 _) _
  · have hP := rpar1_no s (w.alloc (.cells #[.bool false, .slice none 0 0] 24)) h64 (fun _ => hd0)
    have HP := Lib.hid (And.intro hP (And.intro hb0 (And.intro hR hz)))
    clear hd1 hP hb0 hR hz hd0
    · have e1 : (((s[0].toNat : Nat) : Int) == 45) = false := by simp; omega
      have e2 : (((s[0].toNat : Nat) : Int) == 43) = false := by simp; omega
      clear hs
      go_enter Tryd.func37, Tryd.ntmps37
      go_wp2_with fail
      refine HP.out.1.mono ?_
      rintro e w1 ⟨rfl, b1⟩
      have hR1 := (b1.block w.heap.size (by rw [HP.out.2.2.2]; omega)).trans HP.out.2.2.1
      have hb1 := HP.out.2.1.trans (b1.mono (by rw [HP.out.2.2.2]; omega))
      have c0 := Lib.cell_of_heap hR1 0
      have c1 := Lib.cell_of_heap hR1 1
      have f0 := Lib.frozen_of_heap hR1 0
      have f1 := Lib.frozen_of_heap hR1 1
      simp only [List.getElem?_toArray, List.getElem?_cons_zero, List.getElem?_cons_succ] at c0 c1
      clear hR1
      go_wp2_with fail
      refine bodyPost_ret (results_p rfl rfl rfl (by go_simp) (by go_simp)) rfl ⟨rfl, ?_⟩
      exact Below.setCell (hp := Nat.le_refl _) (Below.setCell (hp := Nat.le_refl _) hb1 _) _
end Go.Proofs.YtgfamihldecmbaaDoor
