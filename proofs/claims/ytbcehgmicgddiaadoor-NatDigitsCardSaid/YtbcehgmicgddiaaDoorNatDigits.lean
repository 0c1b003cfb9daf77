/-
  The law NatDigits: its walk.
-/
import Derived.Test.YtbcehgmicgddiaaDoorDig2
import Derived.Test.YtbcehgmicgddiaaDoorNat
import Derived.Laws.IdiomStrings
import Derived.OpenShut
import Derived.Outline
namespace Go.Proofs.YtbcehgmicgddiaaDoor
open Go.RowKit

set_option maxHeartbeats 3200000 in
theorem natDigits_small (a0 : Option Addr) (len0 cap0 : Nat) (A b z : Nat) (bb zz : Int) (w : World) (n_a : Num w (.slice a0 len0 cap0) A 20) (k0 : len0 ≤ 20) (hbb : 2 + bb % 35 = (b : Int)) (hzz : zz % 9 = (z : Int)) (hb0 : 0 ≤ bb) (hz0 : 0 ≤ zz) (hb64 : bb ≤ 18446744073709551615) (hz64 : zz ≤ 18446744073709551615) :
    Calls Tryd.prog 10 #[.slice a0 len0 cap0, .int .u64 bb, .int .u64 zz] w fun e w' => e = .returned (.bool true) ∧ Below w.heap.size w w' := by
  have l_a := n_a.lt
  have hb2 : 2 ≤ b := by omega
  have hb36 : b ≤ 36 := by omega
  have hz9 : z < 9 := by omega
  have hall : ∀ i, i < 1 → ∃ A n c, (w.alloc (.cells #[.slice a0 len0 cap0] 22)).cell? ⟨w.heap.size, i, none⟩ = some (.slice A n c) ∧ n ≤ 40 := by
    intro i hi
    obtain rfl : i = 0 := by omega
    exact ⟨a0, len0, cap0, by simp, by omega⟩
  have HA := Lib.hid hall
  clear hall
  have hb : Below w.heap.size w (w.alloc (.cells #[.slice a0 len0 cap0] 22)) := (Below.refl _ _).alloc (Nat.le_refl _) _
  go_enter Tryd.func10, Tryd.ntmps10
  go_wp2_with fail
  refine (small_yes w.heap.size 1 _ (by decide) HA.out).mono ?_
  rintro e w0 ⟨rfl, rfl⟩
  replace n_a := n_a.below hb
  clear HA
  obtain ⟨A1, n1, c1, xs, hsl, s1, hv1, k1⟩ := id n_a
  injection hsl with e1 e2 e3
  subst e1 e2 e3
  have HT := text_any a0 len0 cap0 xs b _ s1 hb2 hb36 (by omega)
  rw [hv1] at HT
  have HTX := Lib.hid HT
  clear HT hv1 s1 k1
  go_wp2_with fail
  refine HTX.out.mono ?_
  rintro e w1 ⟨s, rfl, hs, b1⟩
  replace hb := bnext hb b1
  replace n_a := n_a.below b1
  clear HTX b1
  have hslen : s.size = (txt b A).length := by rw [← hs]; simp
  have hs1 : 1 ≤ s.size := by rw [hslen]; exact txt_pos b A hb2
  have hs2 : s.size ≤ 641 := by rw [hslen]; exact txt_len b A 20 hb2 l_a
  have HS := Lib.hid hs
  clear hs hslen
  go_wp2_with fail
  try simp only [hzz]
  go_loop [9, 10] (fun t i => ∃ (k : Nat) (T : ByteArray), k ≤ z ∧ i = .int .i64 k ∧ t = .string T ∧ T.size = k ∧ Hid (T.data.toList.map dig = List.replicate k 0)) (fun _ i => z - (intOf i).toNat)
  case atStart => exact ⟨0, ⟨#[]⟩, by omega, rfl, rfl, rfl, rfl⟩
  case round =>
    obtain ⟨k, T, hk, rfl, rfl, hTs, HTd⟩ := hrel
    have HTs := Lib.hid hTs
    have hTb : T.size ≤ 9 := by omega
    clear hTs
    by_cases hkz : k < z
    · go_wp2_with fail
      go_round
      case rel => exact ⟨k + 1, _, by omega, by go_num, rfl, by rw [ByteArray.size_append, HTs.out]; rfl, by rw [List.replicate_succ', ← HTd.out]; simp [Hid, dig, digN]⟩
      case measure => simp [intOf]; omega
    · obtain rfl : k = z := by omega
      obtain ⟨z, rfl⟩ : ∃ z, z = k := ⟨_, rfl⟩
      have HGD := Lib.hid (good_txt b A hb2 hb36)
      go_wp2_with fail
      go_loopw [9, 11] (fun t i wr => ∃ (k : Nat) (T : ByteArray), k ≤ s.size ∧ i = .int .i64 k ∧ t = .string T ∧ T.size = z + k ∧ Hid (T.data.toList.map dig = List.replicate z 0 ++ (s.data.toList.take k).map dig) ∧ Below w.heap.size w wr ∧ Num wr (.slice a0 len0 cap0) A 20) (fun _ i _ => s.size - (intOf i).toNat)
      case atStart => exact ⟨0, T, by omega, rfl, rfl, by have := HTs.out; omega, by rw [HTd.out]; simp [Hid], hb, n_a⟩
      case round =>
        obtain ⟨k, T, hk, rfl, rfl, hTs, HTd, hbel, n_a⟩ := hrel
        have HTs := Lib.hid hTs
        have hTb : T.size ≤ 700 := by omega
        clear hTs
        by_cases hks : k < s.size
        · have hc122 : s[k].toNat ≤ 122 := by
            rcases Nat.lt_or_ge 122 s[k].toNat with h | h
            · exfalso
              have h1 := HGD.out s[k] (by rw [← HS.out]; exact List.getElem_mem (l := s.data.toList) (by simpa using hks))
              have h2 : dig s[k] = 36 := digN_36 _ h
              omega
            · exact h
          have hTd : True := trivial
          by_cases h97 : 97 ≤ s[k].toNat
          · by_cases hev : k % 2 = 0
            · have he : (((k : Int) % 2) == 0) = true := by rw [beq_iff_eq]; omega
              have HEV := Lib.hid hev
              clear hev
              have hcv : (convert 47 9 (.slice (some ⟨wr.heap.size, 0, none⟩) 1 1)).run Tryd.prog (wr.alloc (.cells #[Value.int .u8 ((s[k].toNat : Int) - 32)] 5)) = .ok (.string ⟨#[UInt8.ofNat (s[k].toNat - 32)]⟩) (wr.alloc (.cells #[Value.int .u8 ((s[k].toNat : Int) - 32)] 5)) :=
                run_convert_bytes_back (P := Tryd.prog) _ 47 9 5 ⟨wr.heap.size, 0, none⟩ 1 [UInt8.ofNat (s[k].toNat - 32)] Tryd.underlying47 Tryd.underlying5 Tryd.underlying9 (fun j hj => by
                  obtain rfl : j = 0 := by simp at hj; omega
                  have e : ((UInt8.ofNat (s[k].toNat - 32)).toNat : Int) = ((s[k].toNat : Int) - 32) := by rw [UInt8.toNat_ofNat']; omega
                  have h9 : ([UInt8.ofNat (s[k].toNat - 32)][0]'hj).toNat = (UInt8.ofNat (s[k].toNat - 32)).toNat := rfl
                  rw [h9, e]
                  simp [Addr.add])
              have HD := Lib.hid (show (T ++ (⟨#[UInt8.ofNat (s[k].toNat - 32)]⟩ : ByteArray)).data.toList.map dig = List.replicate z 0 ++ (s.data.toList.take (k + 1)).map dig by
                rw [bytes_snoc s k hks, List.map_append, ← List.append_assoc, ← HTd.out]
                have e : dig (UInt8.ofNat (s[k].toNat - 32)) = dig s[k] := by show digN (UInt8.ofNat (s[k].toNat - 32)).toNat = digN s[k].toNat; rw [UInt8.toNat_ofNat', show (s[k].toNat - 32) % 2 ^ 8 = s[k].toNat - 32 by omega]; exact dig_capital _ h97 hc122
                simp [e])
              clear hTd
              go_wp2_with fail
              clear hcv
              go_roundw
              case rel => exact ⟨k + 1, _, by omega, by go_num, rfl, by rw [ByteArray.size_append, HTs.out]; rfl, HD.out, bnew hbel _, n_a.alloc _⟩
              case measure => simp [intOf]; omega
            · have he : (((k : Int) % 2) == 0) = false := beq_eq_false_iff_ne.2 (by omega)
              have hcv : (convert 47 9 (.slice (some ⟨wr.heap.size, 0, none⟩) 1 1)).run Tryd.prog (wr.alloc (.cells #[Value.int .u8 (s[k].toNat : Int)] 5)) = .ok (.string ⟨#[s[k]]⟩) (wr.alloc (.cells #[Value.int .u8 (s[k].toNat : Int)] 5)) :=
                run_convert_bytes_back (P := Tryd.prog) _ 47 9 5 ⟨wr.heap.size, 0, none⟩ 1 [s[k]] Tryd.underlying47 Tryd.underlying5 Tryd.underlying9 (fun j hj => by
                  obtain rfl : j = 0 := by simp at hj; omega
                  have e : ((s[k]).toNat : Int) = (s[k].toNat : Int) := by rfl
                  have h9 : ([s[k]][0]'hj).toNat = (s[k]).toNat := rfl
                  rw [h9, e]
                  simp [Addr.add])
              have HD := Lib.hid (show (T ++ (⟨#[s[k]]⟩ : ByteArray)).data.toList.map dig = List.replicate z 0 ++ (s.data.toList.take (k + 1)).map dig by
                rw [bytes_snoc s k hks, List.map_append, ← List.append_assoc, ← HTd.out]
                simp)
              clear hTd
              go_wp2_with fail
              clear hcv
              go_roundw
              case rel => exact ⟨k + 1, _, by omega, by go_num, rfl, by rw [ByteArray.size_append, HTs.out]; rfl, HD.out, bnew hbel _, n_a.alloc _⟩
              case measure => simp [intOf]; omega
          · have hlt : ¬ (97 : Int) ≤ (s[k].toNat : Int) := by omega
            have hcv : (convert 47 9 (.slice (some ⟨wr.heap.size, 0, none⟩) 1 1)).run Tryd.prog (wr.alloc (.cells #[Value.int .u8 (s[k].toNat : Int)] 5)) = .ok (.string ⟨#[s[k]]⟩) (wr.alloc (.cells #[Value.int .u8 (s[k].toNat : Int)] 5)) :=
              run_convert_bytes_back (P := Tryd.prog) _ 47 9 5 ⟨wr.heap.size, 0, none⟩ 1 [s[k]] Tryd.underlying47 Tryd.underlying5 Tryd.underlying9 (fun j hj => by
                obtain rfl : j = 0 := by simp at hj; omega
                have e : ((s[k]).toNat : Int) = (s[k].toNat : Int) := by rfl
                have h9 : ([s[k]][0]'hj).toNat = (s[k]).toNat := rfl
                rw [h9, e]
                simp [Addr.add])
            have HD := Lib.hid (show (T ++ (⟨#[s[k]]⟩ : ByteArray)).data.toList.map dig = List.replicate z 0 ++ (s.data.toList.take (k + 1)).map dig by
              rw [bytes_snoc s k hks, List.map_append, ← List.append_assoc, ← HTd.out]
              simp)
            clear hTd
            go_wp2_with fail
            clear hcv
            go_roundw
            case rel => exact ⟨k + 1, _, by omega, by go_num, rfl, by rw [ByteArray.size_append, HTs.out]; rfl, HD.out, bnew hbel _, n_a.alloc _⟩
            case measure => simp [intOf]; omega
        · obtain rfl : k = s.size := by omega
          have hss : s.data.toList.take s.size = s.data.toList := List.take_of_length_le (by simp)
          have HTd2 : Hid (T.data.toList.map dig = List.replicate z 0 ++ (txt b A).map dig) := by rw [HTd.out, hss, HS.out]; exact rfl
          have hTs2 : 1 ≤ T.size ∧ T.size ≤ 1000 := by have := HTs.out; omega
          have ps := parse_yes s b wr hb2 hb36 hs1 (by omega) (good_of_list (by rw [HS.out]; exact HGD.out))
          rw [HS.out, numB_txt b A hb2 hb36] at ps
          have PS := Lib.hid ps
          have n_t : numB b T.data.toList = A := by rw [numB_zeros b z HTd2.out, numB_txt b A hb2 hb36]
          have pt := fun W : World => parse_yes T b W hb2 hb36 hTs2.1 hTs2.2 (good_of_list (good_of_dig (by omega) HTd2.out HGD.out))
          rw [n_t] at pt
          have PT := Lib.hid pt
          clear ps pt n_t hss
          go_wp2_with fail
          refine PS.out.mono ?_
          rintro e w2 ⟨vx, rfl, xx, b2⟩
          replace hbel := bnext hbel b2
          replace n_a := n_a.below b2
          clear b2 PS
          go_wp2_with fail
          refine (PT.out _).mono ?_
          rintro e w3 ⟨vy, rfl, xy, b3⟩
          replace hbel := bnext hbel b3
          replace n_a := n_a.below b3
          replace xx := xx.next b3
          clear b3 PT
          go_wp2_with fail
          refine (norm_num n_a (by decide)).mono ?_
          rintro e w4 ⟨vz, rfl, xz, b4⟩
          replace hbel := bnext hbel b4
          replace xx := xx.next b4
          replace xy := xy.next b4
          clear b4
          go_wp2_with fail
          refine (same_new _ _ _ _ _ _ xx xz (Nat.le_trans (limbs_len_le l_a) (by decide))).mono ?_
          rintro e w5 ⟨rfl, b5⟩
          replace hbel := bnext hbel b5
          replace xx := xx.next b5
          replace xy := xy.next b5
          clear b5
          go_wp2_with fail
          refine (same_new _ _ _ _ _ _ xy xx (Nat.le_trans (limbs_len_le l_a) (by decide))).mono ?_
          rintro e w6 ⟨rfl, b6⟩
          replace hbel := bnext hbel b6
          go_wp2_with fail
          refine (lives_yes _).mono ?_
          rintro e w7 ⟨rfl, b7⟩
          replace hbel := bnext hbel b7
          go_wp2_with fail
          go_ret
          exact ⟨rfl, hbel⟩

set_option maxHeartbeats 800000 in
theorem natDigits_mid (a0 : Option Addr) (len0 cap0 : Nat) (bb zz : Int) (w : World) (k0 : len0 ≤ 40) (k1 : 20 < len0) (hb0 : 0 ≤ bb) (hb64 : bb ≤ 18446744073709551615) :
    Calls Tryd.prog 10 #[.slice a0 len0 cap0, .int .u64 bb, .int .u64 zz] w fun e w' => e = .returned (.bool true) ∧ Below w.heap.size w w' := by
  have hall : ∀ i, i < 1 → ∃ A n c, (w.alloc (.cells #[.slice a0 len0 cap0] 22)).cell? ⟨w.heap.size, i, none⟩ = some (.slice A n c) ∧ n ≤ 40 := by
    intro i hi
    obtain rfl : i = 0 := by omega
    exact ⟨a0, len0, cap0, by simp, by omega⟩
  have HA := Lib.hid hall
  clear hall
  have hb : Below w.heap.size w (w.alloc (.cells #[.slice a0 len0 cap0] 22)) := (Below.refl _ _).alloc (Nat.le_refl _) _
  go_enter Tryd.func10, Tryd.ntmps10
  go_wp2_with fail
  refine (small_yes w.heap.size 1 _ (by decide) HA.out).mono ?_
  rintro e w0 ⟨rfl, rfl⟩
  go_wp2_with fail
  refine (lives_yes _).mono ?_
  rintro e w1 ⟨rfl, b1⟩
  go_wp2_with fail
  go_ret
  exact ⟨rfl, bnext hb b1⟩

set_option maxHeartbeats 800000 in
theorem natDigits_big (a0 : Option Addr) (len0 cap0 : Nat) (bb zz : Int) (w : World) (m0 : len0 ≤ maxLen) (h : 40 < len0) (hb0 : 0 ≤ bb) (hb64 : bb ≤ 18446744073709551615) :
    Calls Tryd.prog 10 #[.slice a0 len0 cap0, .int .u64 bb, .int .u64 zz] w fun e w' => e = .returned (.bool true) ∧ Below w.heap.size w w' := by
  have hall : ∀ i, i < 1 → ∃ A n c, (w.alloc (.cells #[.slice a0 len0 cap0] 22)).cell? ⟨w.heap.size, i, none⟩ = some (.slice A n c) ∧ n ≤ maxLen := by
    intro i hi
    obtain rfl : i = 0 := by omega
    · exact ⟨a0, len0, cap0, by simp, m0⟩
  obtain ⟨m, hm, hbig⟩ : ∃ m, m < 1 ∧ ∃ A n c, (w.alloc (.cells #[.slice a0 len0 cap0] 22)).cell? ⟨w.heap.size, m, none⟩ = some (.slice A n c) ∧ 40 < n := by
    · exact ⟨0, by omega, a0, len0, cap0, by simp, h⟩
  have HA := Lib.hid (And.intro hall hbig)
  clear hall hbig h m0
  have hb : Below w.heap.size w (w.alloc (.cells #[.slice a0 len0 cap0] 22)) := (Below.refl _ _).alloc (Nat.le_refl _) _
  go_enter Tryd.func10, Tryd.ntmps10
  go_wp2_with fail
  refine (small_no w.heap.size 1 _ (by decide) HA.out.1 m hm HA.out.2).mono ?_
  rintro e w0 ⟨rfl, rfl⟩
  go_wp2_with fail
  refine (lives_yes _).mono ?_
  rintro e w1 ⟨rfl, b1⟩
  go_wp2_with fail
  go_ret
  exact ⟨rfl, bnext hb b1⟩
theorem natDigits_walk (a0 : Option Addr) (len0 cap0 : Nat) (ys0 : List Nat) (bb zz : Int) (w : World) (s0 : Sl w a0 len0 cap0 ys0) (hbb : (Lit.int .u64 bb).wf = true) (hzz : (Lit.int .u64 zz).wf = true) :
    Calls Tryd.prog 10 #[.slice a0 len0 cap0, .int .u64 bb, .int .u64 zz] w fun e w' => e = .returned (.bool true) ∧ Below w.heap.size w w' := by
  have h1 := bounds_u64 hbb
  have h2 := bounds_u64 hzz
  by_cases h : 40 < len0
  · exact natDigits_big a0 len0 cap0 bb zz w (Nat.le_trans s0.le s0.max) h h1.1 h1.2
  · by_cases h20 : 20 < len0
    · exact natDigits_mid a0 len0 cap0 bb zz w (by omega) h20 h1.1 h1.2
    · exact natDigits_small a0 len0 cap0 _ (2 + bb % 35).toNat (zz % 9).toNat bb zz w (Num.of_sl s0 (by omega)) (by omega) (by omega) (by omega) h1.1 h2.1 h1.2 h2.2
end Go.Proofs.YtbcehgmicgddiaaDoor
