/-
  The document's own Plain (pavaneref04): it says what the code says.
-/
import Derived.Test.YtgfamihldecmbaaDoorRLt
namespace Go.Proofs.YtgfamihldecmbaaDoor
open Go.RowKit

set_option maxRecDepth 100000 in
set_option maxHeartbeats 6400000 in
theorem rplain_ok (s : ByteArray) (w : World) (h0 : 0 < s.size) (h64 : s.size ≤ 64) (hd : s.data.toList ≠ [46]) (hdg : isDig s[0].toNat = false) : Calls Tryd.prog 17 #[.string s] w fun e w' => e = .returned (.bool (plainB s)) ∧ Below w.heap.size w w' := by
  have q2 : (s.toList == [46]) = false := by rw [ByteArray.toList_eq]; simpa using hd
  have HPL := Lib.hid (show s.data.toList.all (fun c => isPl c.toNat) = true → plainB s = !begB s by
    intro hall
    have hdd : (!(s.data.toList == [46])) = true := by simpa using hd
    simp only [plainB, at8_eq s 0 h0, hdg, hall, hdd]
    simp [h0, h64])
  have hD := fun w => rdig4_any s[0].toNat w
  rw [hdg] at hD
  have HD0 := Lib.hid hD
  have HDG := Lib.hid hdg
  clear hd hD hdg
  go_enter Tryd.func17, Tryd.ntmps17
  go_wp2_with (go_at_call 35; refine (HD0.out _).mono ?_; rintro e w' ⟨rfl, rfl⟩)
  clear q2 HD0
  go_loopw [3] (fun i wr => ∃ k : Nat, k ≤ s.size ∧ i = .int .i64 k ∧ Hid (plTo s k) ∧ Below w.heap.size w wr) (fun i _ => s.size - (intOf i).toNat)
  case atStart => exact ⟨0, Nat.zero_le _, rfl, Lib.hid (by simp [plTo]), Below.refl _ _⟩
  case round =>
    obtain ⟨k, hk, rfl, HPT, hbel⟩ := hrel
    by_cases hlt : k < s.size
    · have hc := letter_any s[k].toNat (UInt8.toNat_lt _) wr
      by_cases hp : isPl s[k].toNat = true
      · rw [hp] at hc
        have HC := Lib.hid hc
        have HN : Hid (plTo s (k + 1)) := Lib.hid (show plTo s (k + 1) by unfold plTo; rw [take_snoc8 s k hlt, List.all_append, HPT.out]; simp [hp])
        clear hc hp
        go_wp2_with fail
        refine HC.out.mono ?_
        rintro e w2 ⟨rfl, b2⟩
        replace hbel := bnext hbel b2
        go_wp2_with fail
        go_roundw
        case rel => exact ⟨k + 1, by omega, by go_num, HN, hbel⟩
        case measure => simp [intOf]; omega
      · have hp' : isPl s[k].toNat = false := by simpa using hp
        rw [hp'] at hc
        have HC := Lib.hid hc
        have HN := Lib.hid (show plainB s = false by
          have hm : s[k] ∈ s.data.toList := by
            have : s.data.toList[k]? = some s[k] := by rw [List.getElem?_eq_getElem (by simpa using hlt)]; rfl
            exact List.mem_of_getElem? this
          have : s.data.toList.all (fun c => isPl c.toNat) = false := by
            rw [List.all_eq_false]
            exact ⟨s[k], hm, by simpa using hp'⟩
          simp only [plainB, this, Bool.and_false, Bool.false_and])
        clear hc hp hp'
        go_wp2_with fail
        refine HC.out.mono ?_
        rintro e w2 ⟨rfl, b2⟩
        replace hbel := bnext hbel b2
        go_wp2_with fail
        go_ret
        exact ⟨by rw [HN.out]; rfl, hbel⟩
    · obtain rfl : k = s.size := by omega
      have hall : s.data.toList.all (fun c => isPl c.toNat) = true := by
        have := HPT.out
        unfold plTo at this
        rwa [List.take_of_length_le (by simp)] at this
      have HB := Lib.hid (HPL.out hall)
      clear hall
      by_cases hsg : s[0].toNat = 43 ∨ s[0].toNat = 45 ∨ s[0].toNat = 46
      · by_cases h1 : 1 < s.size
        · have hD := fun w => rdig4_any s[1].toNat w
          cases hdx : isDig s[1].toNat with
          | true =>
            rw [hdx] at hD
            have HD1 := Lib.hid hD
            have HR := Lib.hid (show plainB s = false by
              rw [HB.out]
              have : begB s = true := by
                unfold begB
                rw [at8_eq s 0 h0, at8_eq s 1 h1, hdx]
                simp only [Bool.and_true, Bool.and_eq_true, decide_eq_true_eq, Bool.or_eq_true, beq_iff_eq]
                omega
              rw [this]; rfl)
            clear hD hdx
            rcases hsg with hs | hs | hs
            · have e1 : (((s[0].toNat : Nat) : Int) == 43) = true := by rw [hs]; rfl
              clear hs
              go_wp2_with (go_at_call 35; refine (HD1.out _).mono ?_; rintro e w' ⟨rfl, rfl⟩)
              go_ret
              exact ⟨by rw [HR.out]; rfl, hbel⟩
            · have e1 : (((s[0].toNat : Nat) : Int) == 43) = false := by rw [hs]; rfl
              have e2 : (((s[0].toNat : Nat) : Int) == 45) = true := by rw [hs]; rfl
              clear hs
              go_wp2_with (go_at_call 35; refine (HD1.out _).mono ?_; rintro e w' ⟨rfl, rfl⟩)
              go_ret
              exact ⟨by rw [HR.out]; rfl, hbel⟩
            · have e1 : (((s[0].toNat : Nat) : Int) == 43) = false := by rw [hs]; rfl
              have e2 : (((s[0].toNat : Nat) : Int) == 45) = false := by rw [hs]; rfl
              have e3 : (((s[0].toNat : Nat) : Int) == 46) = true := by rw [hs]; rfl
              clear hs
              go_wp2_with (go_at_call 35; refine (HD1.out _).mono ?_; rintro e w' ⟨rfl, rfl⟩)
              go_ret
              exact ⟨by rw [HR.out]; rfl, hbel⟩
          | false =>
            rw [hdx] at hD
            have HD1 := Lib.hid hD
            have HR := Lib.hid (show plainB s = true by
              rw [HB.out]
              have : begB s = false := by
                unfold begB
                rw [at8_eq s 1 h1, hdx, Bool.and_false]
              rw [this]; rfl)
            have HNN := Lib.hid (show NoNum s from ⟨h0, h64, by rw [at8_eq s 0 h0]; exact HDG.out, fun _ _ => by rw [at8_eq s 1 h1]; exact hdx⟩)
            clear hD hdx
            rcases hsg with hs | hs | hs
            · have e1 : (((s[0].toNat : Nat) : Int) == 43) = true := by rw [hs]; rfl
              clear hs
              go_wp2_with (go_at_call 35; refine (HD1.out _).mono ?_; rintro e w' ⟨rfl, rfl⟩)
              refine (rpar2_no s _ HNN.out).mono ?_
              rintro e w2 ⟨rfl, b2⟩
              replace hbel := bnext hbel b2
              go_wp2_with fail
              go_ret
              refine ⟨by rw [HR.out]; rfl, ?_⟩
              have hsz2 := hbel.size
              repeat (first | exact hbel | refine Below.setCell (hp := hsz2) ?_ _ | refine Below.alloc ?_ hsz2 _)
            · have e1 : (((s[0].toNat : Nat) : Int) == 43) = false := by rw [hs]; rfl
              have e2 : (((s[0].toNat : Nat) : Int) == 45) = true := by rw [hs]; rfl
              clear hs
              go_wp2_with (go_at_call 35; refine (HD1.out _).mono ?_; rintro e w' ⟨rfl, rfl⟩)
              refine (rpar2_no s _ HNN.out).mono ?_
              rintro e w2 ⟨rfl, b2⟩
              replace hbel := bnext hbel b2
              go_wp2_with fail
              go_ret
              refine ⟨by rw [HR.out]; rfl, ?_⟩
              have hsz2 := hbel.size
              repeat (first | exact hbel | refine Below.setCell (hp := hsz2) ?_ _ | refine Below.alloc ?_ hsz2 _)
            · have e1 : (((s[0].toNat : Nat) : Int) == 43) = false := by rw [hs]; rfl
              have e2 : (((s[0].toNat : Nat) : Int) == 45) = false := by rw [hs]; rfl
              have e3 : (((s[0].toNat : Nat) : Int) == 46) = true := by rw [hs]; rfl
              clear hs
              go_wp2_with (go_at_call 35; refine (HD1.out _).mono ?_; rintro e w' ⟨rfl, rfl⟩)
              refine (rpar2_no s _ HNN.out).mono ?_
              rintro e w2 ⟨rfl, b2⟩
              replace hbel := bnext hbel b2
              go_wp2_with fail
              go_ret
              refine ⟨by rw [HR.out]; rfl, ?_⟩
              have hsz2 := hbel.size
              repeat (first | exact hbel | refine Below.setCell (hp := hsz2) ?_ _ | refine Below.alloc ?_ hsz2 _)
        · have HR := Lib.hid (show plainB s = true by
            rw [HB.out]
            have : begB s = false := by
              unfold begB
              rw [decide_eq_false h1, Bool.false_and, Bool.false_and]
            rw [this]; rfl)
          have HNN := Lib.hid (show NoNum s from ⟨h0, h64, by rw [at8_eq s 0 h0]; exact HDG.out, fun _ h => absurd h h1⟩)
          have t1 : decide (1 < (s.size : Int)) = false := by simp; omega
          rcases hsg with hs | hs | hs
          · have e1 : (((s[0].toNat : Nat) : Int) == 43) = true := by rw [hs]; rfl
            clear hs
            go_wp2_with fail
            refine (rpar2_no s _ HNN.out).mono ?_
            rintro e w2 ⟨rfl, b2⟩
            replace hbel := bnext hbel b2
            go_wp2_with fail
            go_ret
            refine ⟨by rw [HR.out]; rfl, ?_⟩
            have hsz2 := hbel.size
            repeat (first | exact hbel | refine Below.setCell (hp := hsz2) ?_ _ | refine Below.alloc ?_ hsz2 _)
          · have e1 : (((s[0].toNat : Nat) : Int) == 43) = false := by rw [hs]; rfl
            have e2 : (((s[0].toNat : Nat) : Int) == 45) = true := by rw [hs]; rfl
            clear hs
            go_wp2_with fail
            refine (rpar2_no s _ HNN.out).mono ?_
            rintro e w2 ⟨rfl, b2⟩
            replace hbel := bnext hbel b2
            go_wp2_with fail
            go_ret
            refine ⟨by rw [HR.out]; rfl, ?_⟩
            have hsz2 := hbel.size
            repeat (first | exact hbel | refine Below.setCell (hp := hsz2) ?_ _ | refine Below.alloc ?_ hsz2 _)
          · have e1 : (((s[0].toNat : Nat) : Int) == 43) = false := by rw [hs]; rfl
            have e2 : (((s[0].toNat : Nat) : Int) == 45) = false := by rw [hs]; rfl
            have e3 : (((s[0].toNat : Nat) : Int) == 46) = true := by rw [hs]; rfl
            clear hs
            go_wp2_with fail
            refine (rpar2_no s _ HNN.out).mono ?_
            rintro e w2 ⟨rfl, b2⟩
            replace hbel := bnext hbel b2
            go_wp2_with fail
            go_ret
            refine ⟨by rw [HR.out]; rfl, ?_⟩
            have hsz2 := hbel.size
            repeat (first | exact hbel | refine Below.setCell (hp := hsz2) ?_ _ | refine Below.alloc ?_ hsz2 _)
      · have HR := Lib.hid (show plainB s = true by
          rw [HB.out]
          have : begB s = false := by
            unfold begB
            have hx : (at8 s 0 == 43 || at8 s 0 == 45 || at8 s 0 == 46) = false := by
              rw [at8_eq s 0 h0]
              simp only [Bool.or_eq_false_iff, beq_eq_false_iff_ne]
              omega
            rw [hx, Bool.and_false, Bool.false_and]
          rw [this]; rfl)
        have HNN := Lib.hid (show NoNum s from ⟨h0, h64, by rw [at8_eq s 0 h0]; exact HDG.out, fun h => by rw [at8_eq s 0 h0] at h; omega⟩)
        have e1 : (((s[0].toNat : Nat) : Int) == 43) = false := by simp; omega
        have e2 : (((s[0].toNat : Nat) : Int) == 45) = false := by simp; omega
        have e3 : (((s[0].toNat : Nat) : Int) == 46) = false := by simp; omega
        clear hsg
        go_wp2_with fail
        refine (rpar2_no s _ HNN.out).mono ?_
        rintro e w2 ⟨rfl, b2⟩
        replace hbel := bnext hbel b2
        go_wp2_with fail
        go_ret
        refine ⟨by rw [HR.out]; rfl, ?_⟩
        have hsz2 := hbel.size
        repeat (first | exact hbel | refine Below.setCell (hp := hsz2) ?_ _ | refine Below.alloc ?_ hsz2 _)
end Go.Proofs.YtgfamihldecmbaaDoor
