/-
  The law WriteNames: Plain, Name and Quote are the document's.
-/
import Derived.Test.YtgfamihldecmbaaDoorRMk
namespace Go.Proofs.YtgfamihldecmbaaDoor
open Go.RowKit

set_option maxRecDepth 100000 in
set_option maxHeartbeats 1600000 in
theorem rplain_any (s : ByteArray) (w : World) (hs : s.size ≤ 1100) : Calls Tryd.prog 17 #[.string s] w fun e w' => e = .returned (.bool (plainB s)) ∧ Below w.heap.size w w' := by
  by_cases h0 : 0 < s.size
  · by_cases h64 : s.size ≤ 64
    · by_cases hd : s.data.toList = [46]
      · obtain rfl : s = ⟨#[46]⟩ := by
          have : s = ⟨s.data.toList.toArray⟩ := by cases s; simp
          rw [this, hd]
        go_enter Tryd.func17, Tryd.ntmps17
        go_wp2_with fail
        go_ret
        exact ⟨rfl, Below.refl _ _⟩
      · cases hdg : isDig s[0].toNat with
        | false => exact rplain_ok s w h0 h64 hd hdg
        | true =>
          have HN := Lib.hid (show plainB s = false by simp only [plainB, at8_eq s 0 h0, hdg, Bool.not_true, Bool.and_false, Bool.false_and])
          have q2 : (s.toList == [46]) = false := by rw [ByteArray.toList_eq]; simpa using hd
          have hD := fun w => rdig4_any s[0].toNat w
          rw [hdg] at hD
          have HD0 := Lib.hid hD
          clear hd hD hdg
          go_enter Tryd.func17, Tryd.ntmps17
          go_wp2_with (go_at_call 35; refine (HD0.out _).mono ?_; rintro e w' ⟨rfl, rfl⟩)
          go_ret
          exact ⟨by rw [HN.out]; rfl, Below.refl _ _⟩
    · have HN := Lib.hid (show plainB s = false by simp [plainB, h64])
      have t1 : decide ((s.size : Int) < 1) = false := by simp; omega
      have t64 : decide (64 < (s.size : Int)) = true := by simp; omega
      go_enter Tryd.func17, Tryd.ntmps17
      go_wp2_with fail
      go_ret
      exact ⟨by rw [HN.out]; rfl, Below.refl _ _⟩
  · obtain rfl : s = ⟨#[]⟩ := by
      have h1 : s.size = 0 := by omega
      have : s = ⟨s.data⟩ := by cases s; rfl
      rw [this, Array.eq_empty_of_size_eq_zero h1]
    go_enter Tryd.func17, Tryd.ntmps17
    go_wp2_with fail
    go_ret
    exact ⟨rfl, Below.refl _ _⟩

theorem text_of {T : ByteArray} {l : List UInt8} (h : T.data.toList = l) : T = ⟨l.toArray⟩ := bytes_ext (by rw [h])

set_option maxHeartbeats 1600000 in
theorem rname_any (s : ByteArray) (w : World) (hs : s.size ≤ 1100) : Calls Tryd.prog 19 #[.string s] w fun e w' => e = .returned (.string (nameS s)) ∧ Below w.heap.size w w' := by
  have hp := rplain_any s w hs
  cases hpl : plainB s with
  | true =>
    have HN := Lib.hid (show nameS s = s by unfold nameS; rw [if_pos hpl])
    rw [hpl] at hp
    have HP := Lib.hid hp
    clear hp hpl
    go_enter Tryd.func19, Tryd.ntmps19
    go_wp2_with fail
    refine HP.out.mono ?_
    rintro e w1 ⟨rfl, b1⟩
    go_wp2_with fail
    go_ret
    exact ⟨by rw [HN.out]; rfl, b1⟩
  | false =>
    have HN := Lib.hid (show nameS s = ⟨(betw 124 s.data.toList).toArray⟩ by unfold nameS; rw [if_neg (by rw [hpl]; decide)])
    rw [hpl] at hp
    have HP := Lib.hid hp
    clear hp hpl
    go_enter Tryd.func19, Tryd.ntmps19
    go_wp2_with fail
    refine HP.out.mono ?_
    rintro e w1 ⟨rfl, b1⟩
    go_wp2_with fail
    refine (marked_bar s w1 hs).mono ?_
    rintro e w2 ⟨⟨T, rfl, hT⟩, b2⟩
    go_wp2_with fail
    go_ret
    exact ⟨by rw [HN.out, text_of hT]; rfl, bnext b1 b2⟩

set_option maxHeartbeats 1600000 in
theorem rquote_any (s : ByteArray) (w : World) (hs : s.size ≤ 1100) : Calls Tryd.prog 21 #[.string s] w fun e w' => e = .returned (.string (quoS s)) ∧ Below w.heap.size w w' := by
  go_enter Tryd.func21, Tryd.ntmps21
  go_wp2_with fail
  refine (marked_quo s w hs).mono ?_
  rintro e w2 ⟨⟨T, rfl, hT⟩, b2⟩
  go_wp2_with fail
  go_ret
  exact ⟨by rw [text_of hT]; rfl, b2⟩

/-! ### the law -/
set_option maxRecDepth 100000 in
set_option maxHeartbeats 1600000 in
theorem writeNames_in (s : ByteArray) (w : World) (ht : Tab w) (hs : s.size ≤ 1100) :
    Calls Tryd.prog 4 #[.string s] w fun e w' => e = .returned (.bool true) ∧ Below w.heap.size w w' := by
  have hnn : ((nameS s).toList == (nameS s).toList) = true := beq_self_eq_true _
  have hqq : ((quoS s).toList == (quoS s).toList) = true := beq_self_eq_true _
  have hpp : (plainB s == plainB s) = true := beq_self_eq_true _
  have HT := Lib.hid ht
  have z1 : decide (1100 < (s.size : Int)) = false := by simp; omega
  clear ht
  go_enter Tryd.func4, Tryd.ntmps4
  go_wp2_with fail
  refine (plain_any s _ HT.out (by omega)).mono ?_
  rintro e w0 ⟨rfl, rfl⟩
  go_wp2_with fail
  refine (rplain_any s _ hs).mono ?_
  rintro e w1 ⟨rfl, g1⟩
  go_wp2_with fail
  refine (name_any s _ (HT.out.below g1) (by omega)).mono ?_
  rintro e w2 ⟨rfl, b2⟩
  have g2 := bnext g1 b2
  clear g1 b2
  go_wp2_with fail
  refine (rname_any s _ hs).mono ?_
  rintro e w3 ⟨rfl, b3⟩
  have g3 := bnext g2 b3
  clear g2 b3
  go_wp2_with fail
  refine (quote_q s _ (by omega)).mono ?_
  rintro e w4 ⟨rfl, b4⟩
  have g4 := bnext g3 b4
  clear g3 b4
  go_wp2_with fail
  refine (rquote_any s _ hs).mono ?_
  rintro e w5 ⟨rfl, b5⟩
  have g5 := bnext g4 b5
  clear g4 b5
  have HL := Lib.hid (lives4_yes w5 (HT.out.below g5))
  go_wp2_with fail
  refine HL.out.mono ?_
  rintro e w7 ⟨rfl, b7⟩
  go_wp2_with fail
  go_ret
  exact ⟨rfl, bnext g5 b7⟩

theorem writeNames_walk (s : ByteArray) (w : World) (hs : s.size ≤ maxLen) (ht : Tab w) :
    Calls Tryd.prog 4 #[.string s] w fun e w' => e = .returned (.bool true) ∧ Below w.heap.size w w' := by
  by_cases h : s.size ≤ 1100
  · exact writeNames_in s w ht h
  · unfold maxLen at hs
    have HL := Lib.hid (lives4_yes w ht)
    have q : decide (1100 < (s.size : Int)) = true := by simp; omega
    clear ht
    go_enter Tryd.func4, Tryd.ntmps4
    go_wp2_with fail
    refine HL.out.mono ?_
    rintro e w3 ⟨rfl, b3⟩
    go_wp2_with fail
    go_ret
    exact ⟨rfl, b3⟩
end Go.Proofs.YtgfamihldecmbaaDoor
