/-
  write.beginsNumber, write.Plain, write.Name.
-/
import Derived.Test.YtlohdglhebplfaaGreatDoorPln
import Derived.Test.YtlohdglhebplfaaGreatDoorBetw
namespace Go.Proofs.YtlohdglhebplfaaGreatDoor
open Go.RowKit

def at8 (s : ByteArray) (i : Nat) : Nat := (s.data.toList.getD i 0).toNat
theorem at8_eq (s : ByteArray) (i : Nat) (h : i < s.size) : at8 s i = s[i].toNat := by
  unfold at8
  rw [List.getD_eq_getElem?_getD, List.getElem?_eq_getElem (by simpa using h)]
  rfl
def begB (s : ByteArray) : Bool := decide (1 < s.size) && (at8 s 0 == 43 || at8 s 0 == 45 || at8 s 0 == 46) && isDig (at8 s 1)

set_option maxRecDepth 100000 in
set_option maxHeartbeats 3200000 in
theorem begins_any (s : ByteArray) (w : World) (hs : s.size ≤ 100000000) : Calls Tryz.prog 216 #[.string s] w fun e w' => e = .returned (.bool (begB s)) ∧ w = w' := by
  by_cases h1 : 1 < s.size
  · have e0 := at8_eq s 0 (by omega)
    have e1 := at8_eq s 1 h1
    unfold begB
    rw [e0, e1]
    have hz0 : 0 < s.size := by omega
    by_cases h43 : s[0].toNat = 43
    · have t1 : (((s[0].toNat : Nat) : Int) == 43) = true := by simp; omega
      have HP := Lib.hid (show (decide (1 < s.size) && (s[0].toNat == 43 || s[0].toNat == 45 || s[0].toNat == 46) && isDig s[1].toNat) = isDig s[1].toNat by simp [h1, h43])
      clear e0 e1 h43
      go_enter Tryz.func216, Tryz.ntmps216
      go_wp2_with (go_at_call 215; refine (isDigit_any _ _).mono ?_; rintro e w' ⟨rfl, rfl⟩)
      go_ret
      exact ⟨by rw [HP.out]; rfl, rfl⟩
    · have t1 : (((s[0].toNat : Nat) : Int) == 43) = false := by simp; omega
      by_cases h45 : s[0].toNat = 45
      · have t2 : (((s[0].toNat : Nat) : Int) == 45) = true := by simp; omega
        have HP := Lib.hid (show (decide (1 < s.size) && (s[0].toNat == 43 || s[0].toNat == 45 || s[0].toNat == 46) && isDig s[1].toNat) = isDig s[1].toNat by simp [h1, h45])
        clear e0 e1 h43 h45
        go_enter Tryz.func216, Tryz.ntmps216
        go_wp2_with (go_at_call 215; refine (isDigit_any _ _).mono ?_; rintro e w' ⟨rfl, rfl⟩)
        go_ret
        exact ⟨by rw [HP.out]; rfl, rfl⟩
      · have t2 : (((s[0].toNat : Nat) : Int) == 45) = false := by simp; omega
        by_cases h46 : s[0].toNat = 46
        · have t3 : (((s[0].toNat : Nat) : Int) == 46) = true := by simp; omega
          have HP := Lib.hid (show (decide (1 < s.size) && (s[0].toNat == 43 || s[0].toNat == 45 || s[0].toNat == 46) && isDig s[1].toNat) = isDig s[1].toNat by simp [h1, h46])
          clear e0 e1 h43 h45 h46
          go_enter Tryz.func216, Tryz.ntmps216
          go_wp2_with (go_at_call 215; refine (isDigit_any _ _).mono ?_; rintro e w' ⟨rfl, rfl⟩)
          go_ret
          exact ⟨by rw [HP.out]; rfl, rfl⟩
        · have t3 : (((s[0].toNat : Nat) : Int) == 46) = false := by simp; omega
          have HP := Lib.hid (show (decide (1 < s.size) && (s[0].toNat == 43 || s[0].toNat == 45 || s[0].toNat == 46) && isDig s[1].toNat) = false by simp [h43, h45, h46])
          clear e0 e1 h43 h45 h46
          go_enter Tryz.func216, Tryz.ntmps216
          go_wp2
          go_ret
          exact ⟨by rw [HP.out]; rfl, rfl⟩
  · have HP := Lib.hid (show begB s = false by simp [begB, h1])
    have t0 : decide (1 < s.size) = false := by simp; omega
    go_enter Tryz.func216, Tryz.ntmps216
    go_wp2
    go_ret
    exact ⟨by rw [HP.out]; rfl, rfl⟩

def plainB (s : ByteArray) : Bool := decide (0 < s.size) && decide (s.size ≤ 64) && !(s.data.toList == [46]) && s.data.toList.all (fun c => isPl c.toNat) && !isDig (at8 s 0) && !begB s
/-- The first k bytes are plain ones. -/
def plTo (s : ByteArray) (k : Nat) : Prop := (s.data.toList.take k).all (fun c => isPl c.toNat) = true

set_option maxRecDepth 100000 in
set_option maxHeartbeats 3200000 in
theorem plain_ok (s : ByteArray) (w : World) (ht : Tab w) (h0 : 0 < s.size) (h64 : s.size ≤ 64) (hd : s.data.toList ≠ [46]) : Calls Tryz.prog 172 #[.string s] w fun e w' => e = .returned (.bool (plainB s)) ∧ w = w' := by
  have q1 : (s.toList == []) = false := by
    rw [ByteArray.toList_eq]
    have hl : s.data.toList.length = s.size := by simp
    cases h : s.data.toList with
    | nil => rw [h] at hl; simp at hl; omega
    | cons => rfl
  have q2 : (s.toList == [46]) = false := by rw [ByteArray.toList_eq]; simpa using hd
  have q3 : s.toList.isEmpty = false := by
    rw [ByteArray.toList_eq]
    have hl : s.data.toList.length = s.size := by simp
    cases h : s.data.toList with
    | nil => rw [h] at hl; simp at hl; omega
    | cons => rfl
  have HD := Lib.hid hd
  have HT := Lib.hid ht
  clear hd ht
  go_enter Tryz.func172, Tryz.ntmps172
  go_wp2_with fail
  go_loop [17] (fun i => ∃ k : Nat, k ≤ s.size ∧ i = .int .i64 k ∧ plTo s k) (fun i => s.size - (intOf i).toNat)
  case atStart => exact ⟨0, Nat.zero_le _, rfl, by simp [plTo]⟩
  case round =>
    obtain ⟨k, hk, rfl, hpl⟩ := hrel
    have HPL := Lib.hid hpl
    clear hpl q1 q2 q3
    by_cases hlt : k < s.size
    · have hc := isPlain_any s[k].toNat (UInt8.toNat_lt _) w HT.out
      by_cases hp : isPl s[k].toNat = true
      · rw [hp] at hc
        have HC := Lib.hid hc
        have HN := Lib.hid (show plTo s (k + 1) by unfold plTo; rw [take_snoc8 s k hlt, List.all_append, HPL.out]; simp [hp])
        clear hc hp
        go_wp2_with (go_at_call 214; refine HC.out.mono ?_; rintro e w' ⟨rfl, rfl⟩)
        go_round
        case rel => exact ⟨k + 1, by omega, by go_num, HN.out⟩
        case measure => simp [intOf]; omega
      · have hp' : isPl s[k].toNat = false := by simpa using hp
        rw [hp'] at hc
        have HC := Lib.hid hc
        have HN := Lib.hid (show plainB s = false by
          have hm : s[k] ∈ s.data.toList := by
            have : s.data.toList[k]? = some s[k] := by rw [List.getElem?_eq_getElem (by simpa using hlt)]; rfl
            exact List.mem_of_getElem? this
          have : s.data.toList.all (fun c => isPl c.toNat) = false := by
            rw [List.all_eq_false]
            exact ⟨s[k], hm, by simpa using hp'⟩
          simp only [plainB, this, Bool.and_false, Bool.false_and])
        clear hc hp hp'
        go_wp2_with (go_at_call 214; refine HC.out.mono ?_; rintro e w' ⟨rfl, rfl⟩)
        go_ret
        exact ⟨by rw [HN.out]; rfl, rfl⟩
    · obtain rfl : k = s.size := by omega
      have hall : s.data.toList.all (fun c => isPl c.toNat) = true := by
        have := HPL.out
        unfold plTo at this
        rwa [List.take_of_length_le (by simp)] at this
      have e0 := at8_eq s 0 h0
      have hc := isDigit_any s[0].toNat w
      have hb := begins_any s w (by omega)
      have hdd : (!(s.data.toList == [46])) = true := by simpa using HD.out
      cases hdg : isDig s[0].toNat with
      | true =>
        rw [hdg] at hc
        have HC := Lib.hid hc
        have HN := Lib.hid (show plainB s = false by simp [plainB, e0, hdg])
        clear hc hb hall e0 hdd hdg
        go_wp2_with (go_at_call 215; refine HC.out.mono ?_; rintro e w' ⟨rfl, rfl⟩)
        go_ret
        exact ⟨by rw [HN.out]; rfl, rfl⟩
      | false =>
        rw [hdg] at hc
        have HC := Lib.hid hc
        have HB := Lib.hid hb
        have HN := Lib.hid (show plainB s = !begB s by simp only [plainB, e0, hdg, hall, hdd]; simp [h0, h64])
        clear hc hb hall e0 hdd hdg
        go_wp2_with (first | (go_at_call 215; refine HC.out.mono ?_; rintro e w' ⟨rfl, rfl⟩) | (go_at_call 216; refine HB.out.mono ?_; rintro e w' ⟨rfl, rfl⟩))
        go_ret
        exact ⟨by rw [HN.out]; rfl, rfl⟩

set_option maxRecDepth 100000 in
set_option maxHeartbeats 1600000 in
theorem plain_any (s : ByteArray) (w : World) (ht : Tab w) (hs : s.size ≤ 100000000) : Calls Tryz.prog 172 #[.string s] w fun e w' => e = .returned (.bool (plainB s)) ∧ w = w' := by
  by_cases h0 : 0 < s.size
  · by_cases h64 : s.size ≤ 64
    · by_cases hd : s.data.toList = [46]
      · obtain rfl : s = ⟨#[46]⟩ := by
          have : s = ⟨s.data.toList.toArray⟩ := by cases s; simp
          rw [this, hd]
        go_enter Tryz.func172, Tryz.ntmps172
        go_wp2
        go_ret
        exact ⟨rfl, rfl⟩
      · exact plain_ok s w ht h0 h64 hd
    · have HN := Lib.hid (show plainB s = false by simp [plainB, h64])
      have q1 : (s.toList == []) = false := by
        rw [ByteArray.toList_eq]
        have hl : s.data.toList.length = s.size := by simp
        cases h : s.data.toList with
        | nil => rw [h] at hl; simp at hl; omega
        | cons => rfl
      have q3 : s.toList.isEmpty = false := by
        rw [ByteArray.toList_eq]
        have hl : s.data.toList.length = s.size := by simp
        cases h : s.data.toList with
        | nil => rw [h] at hl; simp at hl; omega
        | cons => rfl
      have t64 : decide (64 < (s.size : Int)) = true := by simp; omega
      go_enter Tryz.func172, Tryz.ntmps172
      go_wp2
      go_ret
      exact ⟨by rw [HN.out]; rfl, rfl⟩
  · obtain rfl : s = ⟨#[]⟩ := by
      have h1 : s.size = 0 := by omega
      have : s = ⟨s.data⟩ := by cases s; rfl
      rw [this, Array.eq_empty_of_size_eq_zero h1]
    go_enter Tryz.func172, Tryz.ntmps172
    go_wp2
    go_ret
    exact ⟨rfl, rfl⟩

/-- What Name tells. -/
def nameS (s : ByteArray) : ByteArray := if plainB s then s else ⟨(betw 124 s.data.toList).toArray⟩
theorem name_any (s : ByteArray) (w : World) (ht : Tab w) (hs : s.size ≤ 100000000) : Calls Tryz.prog 159 #[.string s] w fun e w' => e = .returned (.string (nameS s)) ∧ Below w.heap.size w w' := by
  have hp := plain_any s w ht hs
  cases hb : plainB s with
  | true =>
    rw [hb] at hp
    have HN := Lib.hid (show nameS s = s by simp [nameS, hb])
    clear hb ht
    go_enter Tryz.func159, Tryz.ntmps159
    go_wp2_with fail
    refine hp.mono ?_
    rintro e w' ⟨rfl, rfl⟩
    clear hp
    go_wp2_with fail
    go_ret
    exact ⟨by rw [HN.out]; rfl, Below.refl _ _⟩
  | false =>
    rw [hb] at hp
    have HN := Lib.hid (show nameS s = ⟨(betw 124 s.data.toList).toArray⟩ by simp [nameS, hb])
    clear hb ht
    go_enter Tryz.func159, Tryz.ntmps159
    go_wp2_with fail
    refine hp.mono ?_
    rintro e w' ⟨rfl, rfl⟩
    clear hp
    go_wp2_with fail
    refine (between_any 124 (.inl rfl) s _ hs).mono ?_
    rintro e w1 ⟨rfl, b1⟩
    go_wp2_with fail
    go_ret
    exact ⟨by rw [HN.out]; rfl, b1⟩
end Go.Proofs.YtlohdglhebplfaaGreatDoor
