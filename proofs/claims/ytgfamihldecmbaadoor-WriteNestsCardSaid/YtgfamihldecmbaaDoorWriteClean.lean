/-
  The law WriteClean: its walk.
-/
import Derived.Test.YtgfamihldecmbaaDoorWtn
namespace Go.Proofs.YtgfamihldecmbaaDoor
open Go.RowKit

/-- A byte that is shown as it is. -/
def okb (c : UInt8) : Bool := decide (32 ≤ c.toNat) && decide (c.toNat ≤ 126)
theorem esc_ok (M n : Nat) (hM : M = 124 ∨ M = 34) (hn : n < 256) : (esc M n).all okb = true := by
  have h : ∀ k : Fin 256, (esc 124 k.val).all okb = true ∧ (esc 34 k.val).all okb = true := by decide +kernel
  rcases hM with rfl | rfl
  · exact (h ⟨n, hn⟩).1
  · exact (h ⟨n, hn⟩).2
theorem escs_ok (M : Nat) (hM : M = 124 ∨ M = 34) (l : List UInt8) : (escs M l).all okb = true := by
  induction l with
  | nil => rfl
  | cons c l ih => rw [escs, List.all_append, esc_ok M c.toNat hM (UInt8.toNat_lt _), ih]; rfl
theorem betw_ok (M : Nat) (hM : M = 124 ∨ M = 34) (l : List UInt8) : (betw M l).all okb = true := by
  have h : okb (by8 M) = true := by rcases hM with rfl | rfl <;> decide
  simp only [betw, List.all_cons, List.all_append, escs_ok M hM, h, List.all_nil, Bool.and_self]
theorem pl_ok (n : Nat) (hn : n < 256) (h : isPl n = true) : 32 ≤ n ∧ n ≤ 126 := by
  have key : ∀ k : Fin 256, isPl k.val = true → 32 ≤ k.val ∧ k.val ≤ 126 := by decide +kernel
  exact key ⟨n, hn⟩ h
theorem plain_all {s : ByteArray} (h : plainB s = true) : s.data.toList.all (fun c => isPl c.toNat) = true := by
  simp only [plainB, Bool.and_eq_true] at h
  exact h.1.1.2
theorem name_ok (s : ByteArray) : (nameS s).data.toList.all okb = true := by
  unfold nameS
  cases h : plainB s with
  | true =>
    rw [if_pos rfl, List.all_eq_true]
    intro c hc
    have := pl_ok c.toNat (UInt8.toNat_lt _) (List.all_eq_true.1 (plain_all h) c hc)
    simp [okb, this.1, this.2]
  | false => exact betw_ok 124 (.inl rfl) _
theorem betw_length (M : Nat) (l : List UInt8) : l.length + 2 ≤ (betw M l).length ∧ (betw M l).length ≤ 5 * l.length + 2 := by
  have := escs_length M l
  simp only [betw, List.length_cons, List.length_append, List.length_nil]; omega
theorem betw_size (M : Nat) (l : List UInt8) : (⟨(betw M l).toArray⟩ : ByteArray).size = (betw M l).length := by
  show ((betw M l).toArray).size = _
  simp
theorem name_size (s : ByteArray) : s.size ≤ (nameS s).size ∧ (nameS s).size ≤ 5 * s.size + 2 := by
  unfold nameS
  have h := betw_length 124 s.data.toList
  have e : s.data.toList.length = s.size := by simp
  split
  · omega
  · rw [betw_size]; omega
theorem quo_size (s : ByteArray) : s.size + 2 ≤ (quoS s).size ∧ (quoS s).size ≤ 5 * s.size + 2 := by
  have h := betw_length 34 s.data.toList
  have e : s.data.toList.length = s.size := by simp
  unfold quoS
  rw [betw_size]; omega
theorem quote_q (s : ByteArray) (w : World) (hs : s.size ≤ 100000000) : Calls Tryd.prog 20 #[.string s] w fun e w' => e = .returned (.string (quoS s)) ∧ Below w.heap.size w w' := quote_any s w hs
theorem quo_ok (s : ByteArray) : (quoS s).data.toList.all okb = true := betw_ok 34 (.inr rfl) _

set_option maxRecDepth 100000 in
set_option maxHeartbeats 1600000 in
theorem writeClean_in (s : ByteArray) (w : World) (ht : Tab w) (hs : s.size ≤ 1100) :
    Calls Tryd.prog 6 #[.string s] w fun e w' => e = .returned (.bool true) ∧ Below w.heap.size w w' := by
  have n1 := name_size s
  have n2 := quo_size s
  have HT := Lib.hid ht
  have hok : ∀ c ∈ (nameS s).data.toList ++ (quoS s).data.toList, 32 ≤ c.toNat ∧ c.toNat ≤ 126 := by
    intro c hc
    have h := List.all_eq_true.1 (show ((nameS s).data.toList ++ (quoS s).data.toList).all okb = true by rw [List.all_append, name_ok, quo_ok]; rfl) c hc
    simpa [okb] using h
  have HO := Lib.hid hok
  clear ht hok
  go_enter Tryd.func6, Tryd.ntmps6
  go_wp2_with fail
  refine (name_any s _ HT.out (by omega)).mono ?_
  rintro e w1 ⟨rfl, b1⟩
  go_wp2_with fail
  refine (quote_q s _ (by omega)).mono ?_
  rintro e w2 ⟨rfl, b2⟩
  have hb := bnext b1 b2
  clear b1 b2
  go_wp2_with fail
  have htt : 2 * s.size ≤ (nameS s ++ quoS s).size ∧ (nameS s ++ quoS s).size ≤ 20000 := by rw [ByteArray.size_append]; omega
  have hall : ∀ k (h : k < (nameS s ++ quoS s).size), 32 ≤ (nameS s ++ quoS s)[k].toNat ∧ (nameS s ++ quoS s)[k].toNat ≤ 126 := by
    intro k h
    refine HO.out _ ?_
    have h1 : (nameS s ++ quoS s).data.toList[k]? = some (nameS s ++ quoS s)[k] := by rw [List.getElem?_eq_getElem (by simpa using h)]; rfl
    have h2 := List.mem_of_getElem? h1
    rwa [ByteArray.data_append, Array.toList_append] at h2
  generalize nameS s ++ quoS s = t at *
  have HA := Lib.hid hall
  have HL := Lib.hid (lives4_yes w2 (HT.out.below hb))
  obtain ⟨t1, t2⟩ := htt
  clear hall n1 n2
  go_loop [4] (fun i => ∃ k : Nat, k ≤ t.size ∧ i = .int .i64 k) (fun i => t.size - (intOf i).toNat)
  case atStart => exact ⟨0, Nat.zero_le _, rfl⟩
  case round =>
    obtain ⟨k, hk, rfl⟩ := hrel
    by_cases hlt : k < t.size
    · have hc := HA.out k hlt
      have q1 : decide (((t[k].toNat : Nat) : Int) < 32) = false := by simp; omega
      have q2 : decide (126 < ((t[k].toNat : Nat) : Int)) = false := by simp; omega
      clear hc
      go_wp2_with fail
      go_round
      case rel => exact ⟨k + 1, by omega, by go_num⟩
      case measure => simp [intOf]; omega
    · obtain rfl : k = t.size := by omega
      go_wp2_with fail
      refine HL.out.mono ?_
      rintro e w3 ⟨rfl, b3⟩
      go_wp2_with fail
      go_ret
      exact ⟨rfl, bnext hb b3⟩

theorem writeClean_walk (s : ByteArray) (w : World) (hs : s.size ≤ maxLen) (ht : Tab w) :
    Calls Tryd.prog 6 #[.string s] w fun e w' => e = .returned (.bool true) ∧ Below w.heap.size w w' := by
  by_cases h : s.size ≤ 1100
  · exact writeClean_in s w ht h
  · unfold maxLen at hs
    have HL := Lib.hid (lives4_yes w ht)
    have q : decide (1100 < (s.size : Int)) = true := by simp; omega
    clear ht
    go_enter Tryd.func6, Tryd.ntmps6
    go_wp2_with fail
    refine HL.out.mono ?_
    rintro e w3 ⟨rfl, b3⟩
    go_wp2_with fail
    go_ret
    exact ⟨rfl, b3⟩
end Go.Proofs.YtgfamihldecmbaaDoor
