/-
  The document's own marked (pavaneref04): what is written between marks.
-/
import Derived.Test.YtgfamihldecmbaaDoorRPl
import Derived.Laws.BytesArg
import Derived.Deep.QuietTactic
import Derived.BigQuiet
namespace Go.Proofs.YtgfamihldecmbaaDoor
open Go.RowKit

theorem drewN_below {w w' : World} {B : Nat} (h : Below B w w') (n : Nat) : Below B w (w'.drewN n) := h.trans ⟨rfl, rfl, rfl, Nat.le_refl _, fun _ _ => rfl⟩
theorem ext1 (s : ByteArray) (k : Nat) (h : k < s.size) : (s.extract k (k + 1)).data.toList = [s[k]] := by
  have h2 : k < s.data.toList.length := by simpa using h
  rw [ByteArray.data_extract, Array.toList_extract, List.extract_eq_take_drop, List.drop_eq_getElem_cons h2, show k + 1 - k = 1 by omega]
  rfl
theorem ext1_size (s : ByteArray) (k : Nat) (h : k < s.size) : (s.extract k (k + 1)).size = 1 := by rw [ByteArray.size_extract]; omega
theorem mk_next (M : Nat) (s T T' : ByteArray) (k : Nat) (hk : k < s.size) (h : T.data.toList = by8 M :: escs M (s.data.toList.take k)) (h' : T'.data.toList = T.data.toList ++ esc M s[k].toNat) : T'.data.toList = by8 M :: escs M (s.data.toList.take (k + 1)) := by
  rw [h', h, take_snoc8 s k hk, escs_append]
  simp [escs]
theorem by8_at (x : UInt8) : by8 x.toNat = x := by unfold by8; simp
theorem app_list (a b : ByteArray) : (a ++ b).data.toList = a.data.toList ++ b.data.toList := by rw [ByteArray.data_append, Array.toList_append]
def hexS : ByteArray := ⟨#[48, 49, 50, 51, 52, 53, 54, 55, 56, 57, 97, 98, 99, 100, 101, 102]⟩
theorem hexS_size : hexS.size = 16 := rfl
theorem hexS_ext (i : Nat) (h : i < 16) : (hexS.extract i (i + 1)).data.toList = [hexd i] := by
  rw [ext1 hexS i (by rw [hexS_size]; exact h)]
  exact congrArg (fun x => [x]) (hex_at i (by exact h))
theorem mark_conv (M : Nat) (hM : M = 124 ∨ M = 34) (w : World) : (convert 58 9 (.slice (some ⟨w.heap.size, 0, none⟩) 1 1)).run Tryd.prog (w.alloc (.cells #[.int .u8 (M : Int)] 5)) = .ok (.string ⟨#[by8 M]⟩) (w.alloc (.cells #[.int .u8 (M : Int)] 5)) := by
  have := run_convert_bytes_arg (P := Tryd.prog) (w.alloc (.cells #[.int .u8 (M : Int)] 5)) 58 5 Tryd.underlying58 Tryd.underlying5 w.heap.size 0 1 1 [(M : Int)] rfl (fun i hi => by
    obtain rfl : i = 0 := by omega
    rw [Lib.cell_of_heap (World.alloc_heap_new w _)]
    rfl) 9 Tryd.underlying9
  rw [this]
  rcases hM with rfl | rfl <;> rfl

set_option maxRecDepth 100000 in
set_option maxHeartbeats 12800000 in
theorem marked_bar (s : ByteArray) (w : World) (hs : s.size ≤ 1100) : Calls Tryd.prog 39 #[.string s, .int .u8 124] w fun e w' => (∃ T : ByteArray, e = .returned (.string T) ∧ T.data.toList = betw 124 s.data.toList) ∧ Below w.heap.size w w' := by
  have hconv : (convert 58 9 (.slice (some ⟨w.heap.size, 0, none⟩) 1 1)).run Tryd.prog (w.alloc (.cells #[.int .u8 124] 5)) = .ok (.string ⟨#[by8 124]⟩) (w.alloc (.cells #[.int .u8 124] 5)) := mark_conv 124 (by decide) w
  have HB := Lib.hid (show Below w.heap.size w (w.alloc (.cells #[.int .u8 124] 5)) from (Below.refl _ w).alloc (Nat.le_refl _) _)
  go_enter Tryd.func39, Tryd.ntmps39
  go_wp2_with fail
  clear hconv
  generalize w.alloc (.cells #[.int .u8 124] 5) = W at *
  go_loopw [6, 7] (fun o i wr => ∃ (k : Nat) (T : ByteArray), k ≤ s.size ∧ i = .int .i64 k ∧ o = .string T ∧ T.size ≤ 5 * k + 1 ∧ Hid (T.data.toList = by8 124 :: escs 124 (s.data.toList.take k)) ∧ Below w.heap.size w wr) (fun _ i _ => s.size - (intOf i).toNat)
  case atStart => exact ⟨0, _, Nat.zero_le _, rfl, rfl, by decide, Lib.hid (by simp [escs]), HB.out⟩
  case round =>
    obtain ⟨k, T, hk, rfl, rfl, hT, HT, hbel⟩ := hrel
    by_cases hlt : k < s.size
    · have hx := ext1_size s k hlt
      have z1 : ∀ x, (⟨#[x]⟩ : ByteArray).size = 1 := fun _ => rfl
      have z2 : ∀ x y, (⟨#[x, y]⟩ : ByteArray).size = 2 := fun _ _ => rfl
      have HX := Lib.hid (ext1 s k hlt)
      have hc8 := UInt8.toNat_lt s[k]
      rcases (show s[k].toNat = 124 ∨ s[k].toNat = 92 ∨ (s[k].toNat < 32) ∨ (126 < s[k].toNat) ∨ (32 ≤ s[k].toNat ∧ s[k].toNat ≤ 126 ∧ s[k].toNat ≠ 124 ∧ s[k].toNat ≠ 92) by omega) with hc | hc | hc | hc | ⟨hc, hc1, hc2, hc3⟩
      · have t1 : (((s[k].toNat : Nat) : Int) == 124) = true := by rw [hc]; rfl
        have HE := Lib.hid (show esc 124 s[k].toNat = _ by rw [esc, if_pos (by omega)])
        clear hc
        go_wp2_with fail
        go_round
        case rel => exact ⟨k + 1, _, by omega, by go_num, rfl, by simp only [ByteArray.size_append, hx, z1, z2]; omega, Lib.hid (mk_next 124 s T _ k hlt HT.out (by rw [HE.out, app_list, app_list, HX.out]; (try rw [by8_at]); (try rfl))), hbel⟩
        case measure => simp [intOf]; omega
      · have t1 : (((s[k].toNat : Nat) : Int) == 124) = false := by rw [hc]; rfl
        have t2 : (((s[k].toNat : Nat) : Int) == 92) = true := by rw [hc]; rfl
        have HE := Lib.hid (show esc 124 s[k].toNat = _ by rw [esc, if_pos (by omega)])
        clear hc
        go_wp2_with fail
        go_round
        case rel => exact ⟨k + 1, _, by omega, by go_num, rfl, by simp only [ByteArray.size_append, hx, z1, z2]; omega, Lib.hid (mk_next 124 s T _ k hlt HT.out (by rw [HE.out, app_list, app_list, HX.out]; (try rw [by8_at]); (try rfl))), hbel⟩
        case measure => simp [intOf]; omega
      · have t1 : (((s[k].toNat : Nat) : Int) == 124) = false := by simp; omega
        have t2 : (((s[k].toNat : Nat) : Int) == 92) = false := by simp; omega
        have HE := Lib.hid (show esc 124 s[k].toNat = _ by rw [esc, if_neg (by omega), if_neg (by omega), if_neg (by omega), if_pos (by omega)])
        have hq : s[k].toNat / 16 < 16 := by omega
        have hr : s[k].toNat % 16 < 16 := by omega
        have HQ := Lib.hid (hexS_ext (s[k].toNat / 16) hq)
        have HR := Lib.hid (hexS_ext (s[k].toNat % 16) hr)
        have hqs := ext1_size hexS (s[k].toNat / 16) hq
        have hrs := ext1_size hexS (s[k].toNat % 16) hr
        unfold hexS at HQ HR hqs hrs
        go_wp2_with fail
        go_quiet (fail)
        replace hbel := drewN_below hbel nq
        generalize wr.drewN nq = w5 at *
        go_wp2_with fail
        go_round
        case rel => exact ⟨k + 1, _, by omega, by go_num, rfl, by simp only [ByteArray.size_append, hx, z1, z2, hqs, hrs]; omega, Lib.hid (mk_next 124 s T _ k hlt HT.out (by rw [HE.out, app_list, app_list, app_list, app_list, HQ.out, HR.out]; (try rfl))), hbel⟩
        case measure => simp [intOf]; omega
      · have t1 : (((s[k].toNat : Nat) : Int) == 124) = false := by simp; omega
        have t2 : (((s[k].toNat : Nat) : Int) == 92) = false := by simp; omega
        have HE := Lib.hid (show esc 124 s[k].toNat = _ by rw [esc, if_neg (by omega), if_neg (by omega), if_neg (by omega), if_pos (by omega)])
        have hq : s[k].toNat / 16 < 16 := by omega
        have hr : s[k].toNat % 16 < 16 := by omega
        have HQ := Lib.hid (hexS_ext (s[k].toNat / 16) hq)
        have HR := Lib.hid (hexS_ext (s[k].toNat % 16) hr)
        have hqs := ext1_size hexS (s[k].toNat / 16) hq
        have hrs := ext1_size hexS (s[k].toNat % 16) hr
        unfold hexS at HQ HR hqs hrs
        go_wp2_with fail
        go_quiet (fail)
        replace hbel := drewN_below hbel nq
        generalize wr.drewN nq = w5 at *
        go_wp2_with fail
        go_round
        case rel => exact ⟨k + 1, _, by omega, by go_num, rfl, by simp only [ByteArray.size_append, hx, z1, z2, hqs, hrs]; omega, Lib.hid (mk_next 124 s T _ k hlt HT.out (by rw [HE.out, app_list, app_list, app_list, app_list, HQ.out, HR.out]; (try rfl))), hbel⟩
        case measure => simp [intOf]; omega
      · have t1 : (((s[k].toNat : Nat) : Int) == 124) = false := by simp; omega
        have t2 : (((s[k].toNat : Nat) : Int) == 92) = false := by simp; omega
        have HE := Lib.hid (show esc 124 s[k].toNat = _ by rw [esc, if_neg (by omega), if_neg (by omega), if_neg (by omega), if_neg (by omega)])
        go_wp2_with fail
        go_round
        case rel => exact ⟨k + 1, _, by omega, by go_num, rfl, by simp only [ByteArray.size_append, hx, z1, z2]; omega, Lib.hid (mk_next 124 s T _ k hlt HT.out (by rw [HE.out, app_list, HX.out]; (try rw [by8_at]); (try rfl))), hbel⟩
        case measure => simp [intOf]; omega
    · obtain rfl : k = s.size := by omega
      go_wp2_with fail
      go_ret
      refine ⟨⟨_, rfl, ?_⟩, hbel⟩
      rw [app_list, HT.out, List.take_of_length_le (by simp)]
      rfl

set_option maxRecDepth 100000 in
set_option maxHeartbeats 12800000 in
theorem marked_quo (s : ByteArray) (w : World) (hs : s.size ≤ 1100) : Calls Tryd.prog 39 #[.string s, .int .u8 34] w fun e w' => (∃ T : ByteArray, e = .returned (.string T) ∧ T.data.toList = betw 34 s.data.toList) ∧ Below w.heap.size w w' := by
  have hconv : (convert 58 9 (.slice (some ⟨w.heap.size, 0, none⟩) 1 1)).run Tryd.prog (w.alloc (.cells #[.int .u8 34] 5)) = .ok (.string ⟨#[by8 34]⟩) (w.alloc (.cells #[.int .u8 34] 5)) := mark_conv 34 (by decide) w
  have HB := Lib.hid (show Below w.heap.size w (w.alloc (.cells #[.int .u8 34] 5)) from (Below.refl _ w).alloc (Nat.le_refl _) _)
  go_enter Tryd.func39, Tryd.ntmps39
  go_wp2_with fail
  clear hconv
  generalize w.alloc (.cells #[.int .u8 34] 5) = W at *
  go_loopw [6, 7] (fun o i wr => ∃ (k : Nat) (T : ByteArray), k ≤ s.size ∧ i = .int .i64 k ∧ o = .string T ∧ T.size ≤ 5 * k + 1 ∧ Hid (T.data.toList = by8 34 :: escs 34 (s.data.toList.take k)) ∧ Below w.heap.size w wr) (fun _ i _ => s.size - (intOf i).toNat)
  case atStart => exact ⟨0, _, Nat.zero_le _, rfl, rfl, by decide, Lib.hid (by simp [escs]), HB.out⟩
  case round =>
    obtain ⟨k, T, hk, rfl, rfl, hT, HT, hbel⟩ := hrel
    by_cases hlt : k < s.size
    · have hx := ext1_size s k hlt
      have z1 : ∀ x, (⟨#[x]⟩ : ByteArray).size = 1 := fun _ => rfl
      have z2 : ∀ x y, (⟨#[x, y]⟩ : ByteArray).size = 2 := fun _ _ => rfl
      have HX := Lib.hid (ext1 s k hlt)
      have hc8 := UInt8.toNat_lt s[k]
      rcases (show s[k].toNat = 34 ∨ s[k].toNat = 92 ∨ s[k].toNat = 10 ∨ s[k].toNat = 9 ∨ (s[k].toNat < 32 ∧ s[k].toNat ≠ 34 ∧ s[k].toNat ≠ 92 ∧ s[k].toNat ≠ 10 ∧ s[k].toNat ≠ 9) ∨ (126 < s[k].toNat) ∨ (32 ≤ s[k].toNat ∧ s[k].toNat ≤ 126 ∧ s[k].toNat ≠ 34 ∧ s[k].toNat ≠ 92) by omega) with hc | hc | hc | hc | ⟨hc, hc1, hc2, hc3, hc4⟩ | hc | ⟨hc, hc1, hc2, hc3⟩
      · have t1 : (((s[k].toNat : Nat) : Int) == 34) = true := by rw [hc]; rfl
        have HE := Lib.hid (show esc 34 s[k].toNat = _ by rw [esc, if_pos (by omega)])
        clear hc
        go_wp2_with fail
        go_round
        case rel => exact ⟨k + 1, _, by omega, by go_num, rfl, by simp only [ByteArray.size_append, hx, z1, z2]; omega, Lib.hid (mk_next 34 s T _ k hlt HT.out (by rw [HE.out, app_list, app_list, HX.out]; (try rw [by8_at]); (try rfl))), hbel⟩
        case measure => simp [intOf]; omega
      · have t1 : (((s[k].toNat : Nat) : Int) == 34) = false := by rw [hc]; rfl
        have t2 : (((s[k].toNat : Nat) : Int) == 92) = true := by rw [hc]; rfl
        have HE := Lib.hid (show esc 34 s[k].toNat = _ by rw [esc, if_pos (by omega)])
        clear hc
        go_wp2_with fail
        go_round
        case rel => exact ⟨k + 1, _, by omega, by go_num, rfl, by simp only [ByteArray.size_append, hx, z1, z2]; omega, Lib.hid (mk_next 34 s T _ k hlt HT.out (by rw [HE.out, app_list, app_list, HX.out]; (try rw [by8_at]); (try rfl))), hbel⟩
        case measure => simp [intOf]; omega
      · have t1 : (((s[k].toNat : Nat) : Int) == 34) = false := by rw [hc]; rfl
        have t2 : (((s[k].toNat : Nat) : Int) == 92) = false := by rw [hc]; rfl
        have t3 : (((s[k].toNat : Nat) : Int) == 10) = true := by rw [hc]; rfl
        have HE := Lib.hid (show esc 34 s[k].toNat = _ by rw [esc, if_neg (by omega), if_pos (by omega)])
        clear hc
        go_wp2_with fail
        go_round
        case rel => exact ⟨k + 1, _, by omega, by go_num, rfl, by simp only [ByteArray.size_append, hx, z1, z2]; omega, Lib.hid (mk_next 34 s T _ k hlt HT.out (by rw [HE.out, app_list]; (try rfl))), hbel⟩
        case measure => simp [intOf]; omega
      · have t1 : (((s[k].toNat : Nat) : Int) == 34) = false := by rw [hc]; rfl
        have t2 : (((s[k].toNat : Nat) : Int) == 92) = false := by rw [hc]; rfl
        have t3 : (((s[k].toNat : Nat) : Int) == 10) = false := by rw [hc]; rfl
        have t4 : (((s[k].toNat : Nat) : Int) == 9) = true := by rw [hc]; rfl
        have HE := Lib.hid (show esc 34 s[k].toNat = _ by rw [esc, if_neg (by omega), if_neg (by omega), if_pos (by omega)])
        clear hc
        go_wp2_with fail
        go_round
        case rel => exact ⟨k + 1, _, by omega, by go_num, rfl, by simp only [ByteArray.size_append, hx, z1, z2]; omega, Lib.hid (mk_next 34 s T _ k hlt HT.out (by rw [HE.out, app_list]; (try rfl))), hbel⟩
        case measure => simp [intOf]; omega
      · have t1 : (((s[k].toNat : Nat) : Int) == 34) = false := by simp; omega
        have t2 : (((s[k].toNat : Nat) : Int) == 92) = false := by simp; omega
        have t3 : (((s[k].toNat : Nat) : Int) == 10) = false := by simp; omega
        have t4 : (((s[k].toNat : Nat) : Int) == 9) = false := by simp; omega
        have HE := Lib.hid (show esc 34 s[k].toNat = _ by rw [esc, if_neg (by omega), if_neg (by omega), if_neg (by omega), if_pos (by omega)])
        have hq : s[k].toNat / 16 < 16 := by omega
        have hr : s[k].toNat % 16 < 16 := by omega
        have HQ := Lib.hid (hexS_ext (s[k].toNat / 16) hq)
        have HR := Lib.hid (hexS_ext (s[k].toNat % 16) hr)
        have hqs := ext1_size hexS (s[k].toNat / 16) hq
        have hrs := ext1_size hexS (s[k].toNat % 16) hr
        unfold hexS at HQ HR hqs hrs
        go_wp2_with fail
        go_quiet (fail)
        replace hbel := drewN_below hbel nq
        generalize wr.drewN nq = w5 at *
        go_wp2_with fail
        go_round
        case rel => exact ⟨k + 1, _, by omega, by go_num, rfl, by simp only [ByteArray.size_append, hx, z1, z2, hqs, hrs]; omega, Lib.hid (mk_next 34 s T _ k hlt HT.out (by rw [HE.out, app_list, app_list, app_list, app_list, HQ.out, HR.out]; (try rfl))), hbel⟩
        case measure => simp [intOf]; omega
      · have t1 : (((s[k].toNat : Nat) : Int) == 34) = false := by simp; omega
        have t2 : (((s[k].toNat : Nat) : Int) == 92) = false := by simp; omega
        have t3 : (((s[k].toNat : Nat) : Int) == 10) = false := by simp; omega
        have t4 : (((s[k].toNat : Nat) : Int) == 9) = false := by simp; omega
        have HE := Lib.hid (show esc 34 s[k].toNat = _ by rw [esc, if_neg (by omega), if_neg (by omega), if_neg (by omega), if_pos (by omega)])
        have hq : s[k].toNat / 16 < 16 := by omega
        have hr : s[k].toNat % 16 < 16 := by omega
        have HQ := Lib.hid (hexS_ext (s[k].toNat / 16) hq)
        have HR := Lib.hid (hexS_ext (s[k].toNat % 16) hr)
        have hqs := ext1_size hexS (s[k].toNat / 16) hq
        have hrs := ext1_size hexS (s[k].toNat % 16) hr
        unfold hexS at HQ HR hqs hrs
        go_wp2_with fail
        go_quiet (fail)
        replace hbel := drewN_below hbel nq
        generalize wr.drewN nq = w5 at *
        go_wp2_with fail
        go_round
        case rel => exact ⟨k + 1, _, by omega, by go_num, rfl, by simp only [ByteArray.size_append, hx, z1, z2, hqs, hrs]; omega, Lib.hid (mk_next 34 s T _ k hlt HT.out (by rw [HE.out, app_list, app_list, app_list, app_list, HQ.out, HR.out]; (try rfl))), hbel⟩
        case measure => simp [intOf]; omega
      · have t1 : (((s[k].toNat : Nat) : Int) == 34) = false := by simp; omega
        have t2 : (((s[k].toNat : Nat) : Int) == 92) = false := by simp; omega
        have t3 : (((s[k].toNat : Nat) : Int) == 10) = false := by simp; omega
        have t4 : (((s[k].toNat : Nat) : Int) == 9) = false := by simp; omega
        have HE := Lib.hid (show esc 34 s[k].toNat = _ by rw [esc, if_neg (by omega), if_neg (by omega), if_neg (by omega), if_neg (by omega)])
        go_wp2_with fail
        go_round
        case rel => exact ⟨k + 1, _, by omega, by go_num, rfl, by simp only [ByteArray.size_append, hx, z1, z2]; omega, Lib.hid (mk_next 34 s T _ k hlt HT.out (by rw [HE.out, app_list, HX.out]; (try rw [by8_at]); (try rfl))), hbel⟩
        case measure => simp [intOf]; omega
    · obtain rfl : k = s.size := by omega
      go_wp2_with fail
      go_ret
      refine ⟨⟨_, rfl, ?_⟩, hbel⟩
      rw [app_list, HT.out, List.take_of_length_le (by simp)]
      rfl
end Go.Proofs.YtgfamihldecmbaaDoor
