/-
  strings.TrimLeft of a text by "0".
-/
import Derived.Test.YtjildimhflondaaDoorParse2
import Derived.Deep.LoopGhost
namespace Go.Proofs.YtjildimhflondaaDoor
open Go.RowKit

theorem extract_one (t : ByteArray) : (t.extract 1 t.size).data.toList = t.data.toList.drop 1 := by
  simp [ByteArray.data_extract, List.take_of_length_le]
theorem head_drop (t : ByteArray) (h : 0 < t.size) : t.data.toList = t[0] :: t.data.toList.drop 1 := by
  have := List.drop_eq_getElem_cons (i := 0) (l := t.data.toList) (by simpa using h)
  rw [List.drop_zero] at this
  exact this

set_option maxHeartbeats 800000 in
theorem trimLeftByte_any (s : ByteArray) (w : World) :
    Calls Tryd.prog 95 #[.string s, .int .u8 48] w fun e w' => ∃ t : ByteArray, e = .returned (.string t) ∧ t.data.toList = s.data.toList.dropWhile (· == 48) ∧ w = w' := by
  go_enter Tryd.func95, Tryd.ntmps95
  go_wp2_with fail
  go_loopg [0] s.size (fun k v wr => ∃ t : ByteArray, v = .string t ∧ t.size = k ∧ k ≤ s.size ∧ Hid (t.data.toList.dropWhile (· == 48) = s.data.toList.dropWhile (· == 48)) ∧ wr = w)
  case atStart => exact ⟨s, rfl, rfl, Nat.le_refl _, rfl, rfl⟩
  case round =>
    obtain ⟨t, rfl, hk, hle, hd, rfl⟩ := hrel
    subst hk
    by_cases h0 : 0 < t.size
    · by_cases hc : t[0] = 48
      · have hcc : (((t[0].toNat : Nat) : Int) == 48) = true := by simp [hc]
        have hz : (t.extract 1 t.size).size < t.size := by simp; omega
        have HD := Lib.hid (show (t.extract 1 t.size).data.toList.dropWhile (· == 48) = s.data.toList.dropWhile (· == 48) by
          rw [← hd.out, extract_one t, head_drop t h0, List.dropWhile_cons_of_pos (by simp [hc])]; simp)
        have HC := Lib.hid hc
        clear hc
        go_wp2_with fail
        go_roundg (t.extract 1 t.size).size
        case measure => exact hz
        case rel => exact ⟨_, rfl, rfl, by omega, HD, rfl⟩
      · have hcc : (((t[0].toNat : Nat) : Int) == 48) = false := by
          rw [beq_eq_false_iff_ne]
          intro h
          exact hc (by
            have : t[0].toNat = 48 := by omega
            exact UInt8.toNat_inj.1 this)
        have HC := Lib.hid hc
        clear hc
        go_wp2_with fail
        go_ret
        refine ⟨t, rfl, ?_, rfl⟩
        rw [← hd.out, head_drop t h0, List.dropWhile_cons_of_neg (by simpa using HC.out)]
    · have he : t.size = 0 := by omega
      have H0 := Lib.hid he
      have h0' : ¬ (0 : Int) < (t.size : Int) := by omega
      clear he
      go_wp2_with fail
      go_ret
      refine ⟨t, rfl, ?_, rfl⟩
      have : t.data.toList = [] := by apply List.eq_nil_of_length_eq_zero; simpa using H0.out
      rw [← hd.out, this]; rfl

set_option maxRecDepth 100000 in
set_option maxHeartbeats 800000 in
theorem trimLeft_any (s : ByteArray) (w : World) :
    Calls Tryd.prog 85 #[.string s, .string ⟨#[48]⟩] w fun e w' => ∃ t : ByteArray, e = .returned (.string t) ∧ t.data.toList = s.data.toList.dropWhile (· == 48) ∧ w = w' := by
  by_cases h0 : s.size = 0
  · have hl : s.data.toList = [] := by apply List.eq_nil_of_length_eq_zero; simpa using h0
    have he : s.toList.isEmpty = true := by
      rw [ByteArray.toList_eq]; simp [hl]
    have HL := Lib.hid hl
    clear h0 hl
    go_enter Tryd.func85, Tryd.ntmps85
    go_wp2_with fail
    go_ret
    exact ⟨s, rfl, by rw [HL.out]; rfl, rfl⟩
  · have hl : s.data.toList ≠ [] := by
      intro h; apply h0; have := congrArg List.length h; simpa using this
    have he : s.toList.isEmpty = false := by
      rw [ByteArray.toList_eq]; simpa using hl
    clear h0 hl
    go_enter Tryd.func85, Tryd.ntmps85
    go_wp2_with (go_at_call 95; refine (trimLeftByte_any s _).mono ?_; rintro e w' ⟨t, rfl, ht, rfl⟩)
    go_ret
    exact ⟨t, rfl, ht, rfl⟩
end Go.Proofs.YtjildimhflondaaDoor
