/-
  The law ReaderDeep, walked.
-/
import Derived.Test.YtifogchgfbieoaaDoorRdx3
namespace Go.Proofs.YtifogchgfbieoaaDoor
open Go.RowKit

theorem add_bytes (a b : ByteArray) : (a ++ b).data.toList = a.data.toList ++ b.data.toList := by simp
theorem nest_size : ∀ j, sizeD (nestD j) = j + 1
  | 0 => by simp [nestD, listD, sizeD, sizesD]
  | j + 1 => by simp only [nestD, listD, sizeD, sizesD, nest_size j]; omega
theorem nest_depth : ∀ j, depthD (nestD j) = j + 1
  | 0 => by simp [nestD, listD, depthD, depthsD]
  | j + 1 => by simp only [nestD, listD, depthD, depthsD, nest_depth j]; omega
theorem nest_norm : ∀ j, normD (nestD j) = nestD j
  | 0 => by rw [normD, nestD, listD, spineD_eq, if_pos rfl, spinesD_nil, normsD_nil]; rfl
  | j + 1 => by rw [normD, nestD, listD, spineD_eq, if_pos rfl, spinesD_nil, normsD_cons, nest_norm j, normsD_nil]; rfl
section
variable {w : World}
theorem stop_open (l : By) : stopL (40 :: l) = true := rfl
theorem deep_yes {U : ByteArray} {aa K : Nat} (hU : U.data.toList = List.replicate aa 32 ++ (List.replicate K 40 ++ List.replicate K 41)) (hK1 : 1 ≤ K) (hK : K ≤ 200) (haa : aa < 9) (ht : Tabs w) :
    Calls Tryd.prog 9 #[.string U, .int .i64 0] w fun E w' => ∃ u : LT, E = .returned (.tuple #[.agg #[.int .i64 u.k, .bool u.g, .slice u.la u.ln u.lc, .bool u.bb, .string u.s, .slice u.ia u.items.length u.ic, .slice u.ta u.tail.length u.tc], .int .i64 (U.size : Nat), .int .i64 0]) ∧ HeldP w' (Fresh w' w.heap.size) u ∧ u.depth = K ∧ u.size ≤ 1000 ∧ Below w.heap.size w w' := by
  obtain ⟨j, rfl⟩ : ∃ j, K = j + 1 := ⟨K - 1, by omega⟩
  have hus : U.size = aa + 2 * (j + 1) := by
    have := congrArg List.length hU
    simp at this
    omega
  have hm : Rdd .datum (List.replicate (j + 1) 40 ++ List.replicate (j + 1) 41) 0 (.ok (nestD j) []) := by
    have h := nest_read j 0 [] (by omega)
    rwa [List.append_nil] at h
  have hst : Rdd .skip (List.replicate (j + 1) 40 ++ List.replicate (j + 1) 41) 0 (.ok zeroD (List.replicate (j + 1) 40 ++ List.replicate (j + 1) 41)) := .stop (by rw [List.replicate_succ, List.cons_append]; exact stop_open _)
  have hd : Rdd .datum U.data.toList 0 (.ok (nestD j) []) := by rw [hU]; exact Rdd.ahead (blanks_skip aa hst) hst hm
  refine (read_const U _ hd (by omega) (fun d l e => by injection e with e _; rw [← e, nest_size]; omega) ht).mono ?_
  rintro E w' ⟨hb, q, _, hq, hl, ⟨_, u, rfl, hu, hsh, htm⟩ | ⟨hno, _⟩⟩
  · have hqU : q = U.size := by
      have := congrArg List.length hl
      rw [rsB_len] at this
      simp at this
      omega
    rw [hqU]
    rw [nest_norm] at hsh
    refine ⟨u, rfl, hu, ?_, ?_, hb⟩
    · rw [← depthD_shape, hsh, nest_depth]
    · rw [← sizeD_shape, hsh, nest_size]; omega
  · rw [nest_norm, nest_depth] at hno
    omega
theorem deep_open {S : ByteArray} {aa K : Nat} (hS : S.data.toList = List.replicate aa 32 ++ List.replicate K 40) (hK1 : 1 ≤ K) (hK : K ≤ 200) (haa : aa < 9) (ht : Tabs w) :
    Calls Tryd.prog 9 #[.string S, .int .i64 0] w fun E w' => E = .returned (.tuple #[.agg #[.int .i64 0, .bool false, .slice none 0 0, .bool false, .string ⟨#[]⟩, .slice none 0 0, .slice none 0 0], .int .i64 (S.size : Nat), .int .i64 4]) ∧ Below w.heap.size w w' := by
  have hss : S.size = aa + K := by
    have := congrArg List.length hS
    simpa using this
  obtain ⟨j, rfl⟩ : ∃ j, K = j + 1 := ⟨K - 1, by omega⟩
  have hst : Rdd .skip (List.replicate (j + 1) 40) 0 (.ok zeroD (List.replicate (j + 1) 40)) := .stop (by rw [List.replicate_succ]; exact stop_open _)
  have hd : Rdd .datum S.data.toList 0 (.bad errRead []) := by rw [hS]; exact Rdd.ahead (blanks_skip aa hst) hst (nest_open (j + 1) 0 (by omega))
  refine (read_const S _ hd (by omega) (fun d l e => by cases e) ht).mono ?_
  rintro E w' ⟨hb, q, hq, hl, rfl⟩
  have hqU : q = S.size := by
    have := congrArg List.length hl
    rw [rsB_len] at this
    simp at this
    omega
  rw [hqU]
  exact ⟨rfl, hb⟩
theorem deep_no {U : ByteArray} {aa K : Nat} (hU : U.data.toList = List.replicate aa 32 ++ (List.replicate K 40 ++ List.replicate K 41)) (hK : 200 < K) (hK2 : K ≤ 1000) (haa : aa < 9) (ht : Tabs w) :
    Calls Tryd.prog 9 #[.string U, .int .i64 0] w fun E w' => E = .returned (.tuple #[.agg #[.int .i64 0, .bool false, .slice none 0 0, .bool false, .string ⟨#[]⟩, .slice none 0 0, .slice none 0 0], .int .i64 ((aa : Int) + 200), .int .i64 13]) ∧ Below w.heap.size w w' := by
  have hus : U.size = aa + 2 * K := by
    have := congrArg List.length hU
    simp at this
    omega
  have hm : Rdd .datum (List.replicate K 40 ++ List.replicate K 41) 0 (.bad errDeep (List.replicate (K - 200) 40 ++ List.replicate K 41)) := nest_deep 200 0 K _ rfl hK
  obtain ⟨j, rfl⟩ : ∃ j, K = j + 1 := ⟨K - 1, by omega⟩
  have hst : Rdd .skip (List.replicate (j + 1) 40 ++ List.replicate (j + 1) 41) 0 (.ok zeroD (List.replicate (j + 1) 40 ++ List.replicate (j + 1) 41)) := .stop (by rw [List.replicate_succ, List.cons_append]; exact stop_open _)
  have hd : Rdd .datum U.data.toList 0 (.bad errDeep (List.replicate (j + 1 - 200) 40 ++ List.replicate (j + 1) 41)) := by rw [hU]; exact Rdd.ahead (blanks_skip aa hst) hst hm
  refine (read_const U _ hd (by omega) (fun d l e => by cases e) ht).mono ?_
  rintro E w' ⟨hb, q, hq, hl, rfl⟩
  have hqU : q = aa + 200 := by
    have := congrArg List.length hl
    rw [rsB_len] at this
    simp at this
    omega
  rw [hqU]
  exact ⟨rfl, hb⟩
set_option maxRecDepth 100000 in
set_option maxHeartbeats 12800000 in
theorem deep_core (kk aa : Nat) (nn zz : Int) (ht : Tabs w) (hk : nn % 20 = (kk : Int)) (hk20 : kk < 20) (ha : zz % 9 = (aa : Int)) (ha9 : aa < 9) (hn0 : 0 ≤ nn) (hz0 : 0 ≤ zz) (hn1 : nn < 18446744073709551616) (hz1 : zz < 18446744073709551616) :
    Calls Tryd.prog 4 #[.int .u64 nn, .int .u64 zz] w fun E w' => E = .returned (.bool true) ∧ Below w.heap.size w w' := by
  have H := Lib.hid ht
  clear ht
  go_enter Tryd.func4, Tryd.ntmps4
  go_wp2_with fail
  try simp only [hk]
  go_loop [6, 7] (fun t i => ∃ (j : Nat) (T : ByteArray), j ≤ aa ∧ i = .int .i64 j ∧ t = .string T ∧ T.size = j ∧ Hid (T.data.toList = List.replicate j 32)) (fun _ i => aa - (intOf i).toNat)
  case atStart => exact ⟨0, ⟨#[]⟩, by omega, rfl, rfl, rfl, rfl⟩
  case round =>
    obtain ⟨j, T, hj, rfl, rfl, hTs, HTd⟩ := hrel
    have hTs' := Lib.hid hTs
    have hTb : T.size ≤ 9 := by omega
    clear hTs
    by_cases hja : j < aa
    · go_wp2_with fail
      go_round
      case rel => exact ⟨j + 1, _, by omega, by go_num, rfl, by rw [ByteArray.size_append, hTs'.out]; rfl, by rw [Hid, add_bytes, HTd.out, List.replicate_succ']⟩
      case measure => simp [intOf]; omega
    · have hja2 : j = aa := by omega
      clear hja
      go_wp2_with fail
      have HT2 := Lib.hid (show T.data.toList = List.replicate aa 32 by rw [HTd.out, hja2])
      have hTa : T.size = aa := by rw [hTs'.out, hja2]
      clear hja2 HTd hTs'
      go_loop [6, 9] (fun t i => ∃ (j : Nat) (S : ByteArray), j ≤ 190 + kk ∧ i = .int .i64 j ∧ t = .string S ∧ S.size = aa + j ∧ Hid (S.data.toList = List.replicate aa 32 ++ List.replicate j 40)) (fun _ i => 190 + kk - (intOf i).toNat)
      case atStart => exact ⟨0, T, by omega, rfl, rfl, by omega, Lib.hid (by rw [HT2.out]; simp)⟩
      case round =>
        obtain ⟨j2, S, hj2, rfl, rfl, hSs, HSd⟩ := hrel
        have hSs' := Lib.hid hSs
        have hSb : S.size ≤ 300 := by omega
        clear hSs
        by_cases hja : j2 < 190 + kk
        · go_wp2_with fail
          go_round
          case rel => exact ⟨j2 + 1, _, by omega, by go_num, rfl, by rw [ByteArray.size_append, hSs'.out]; rfl, by rw [Hid, add_bytes, HSd.out, List.replicate_succ', List.append_assoc]⟩
          case measure => simp [intOf]; omega
        · have hja2 : j2 = 190 + kk := by omega
          have HS2 := Lib.hid (show S.data.toList = List.replicate aa 32 ++ List.replicate (190 + kk) 40 by rw [HSd.out, hja2])
          have HSz := Lib.hid (show S.size = aa + (190 + kk) by rw [hSs'.out, hja2])
          clear hja HSd hSs'
          go_wp2_with fail
          go_loop [10, 11] (fun t i => ∃ (j : Nat) (U : ByteArray), j ≤ 190 + kk ∧ i = .int .i64 j ∧ t = .string U ∧ U.size = S.size + j ∧ Hid (U.data.toList = S.data.toList ++ List.replicate j 41)) (fun _ i => 190 + kk - (intOf i).toNat)
          case atStart => exact ⟨0, S, by omega, rfl, rfl, by omega, Lib.hid (by simp)⟩
          case round =>
            obtain ⟨j3, U, hj3, rfl, rfl, hUs, HUd⟩ := hrel
            have hUs' := Lib.hid hUs
            have hUb : U.size ≤ 600 := by omega
            clear hUs
            by_cases hjb : j3 < 190 + kk
            · go_wp2_with fail
              go_round
              case rel => exact ⟨j3 + 1, _, by omega, by go_num, rfl, by rw [ByteArray.size_append, hUs'.out]; rfl, by rw [Hid, add_bytes, HUd.out, List.replicate_succ', List.append_assoc]⟩
              case measure => simp [intOf]; omega
            · have hjb2 : j3 = 190 + kk := by omega
              have HU2 := Lib.hid (show U.data.toList = List.replicate aa 32 ++ (List.replicate (190 + kk) 40 ++ List.replicate (190 + kk) 41) by rw [HUd.out, hjb2, HS2.out, List.append_assoc])
              clear hjb HUd hUs'
              by_cases hdeep : 200 < 190 + kk
              · have HR := Lib.hid (deep_no HU2.out hdeep (by omega) ha9 H.out)
                have q0 : decide ((200 : Int) < 190 + (kk : Int)) = true := decide_eq_true (by omega)
                go_wp2_with fail
                refine HR.out.mono ?_
                rintro E w1 ⟨rfl, b1⟩
                have hb1 := b1.alloc b1.size (Obj.cells #[.int .i64 0, .bool false, .slice none 0 0, .bool false, .string ⟨#[]⟩, .slice none 0 0, .slice none 0 0] 34)
                have hL := lives5_yes (H.out.below hb1)
                have HL := Lib.hid hL
                have HB := Lib.hid hb1
                clear hL hb1 b1
                go_wp2_with fail
                refine HL.out.mono ?_
                rintro E w2 ⟨rfl, b2⟩
                have hb2 := HB.out.trans (b2.mono HB.out.size)
                clear b2
                go_wp2_with fail
                go_ret
                exact ⟨rfl, hb2⟩
              · have HR := Lib.hid (deep_yes HU2.out (by omega) (by omega) ha9 H.out)
                have q0 : decide ((200 : Int) < 190 + (kk : Int)) = false := decide_eq_false (by omega)
                go_wp2_with fail
                refine HR.out.mono ?_
                rintro E w1 ⟨u, rfl, hu, hdp, hsz, b1⟩
                obtain ⟨W1, hW1⟩ : ∃ W, w1.alloc (Obj.cells #[.int .i64 u.k, .bool u.g, .slice u.la u.ln u.lc, .bool u.bb, .string u.s, .slice u.ia u.items.length u.ic, .slice u.ta u.tail.length u.tc] 34) = W := ⟨_, rfl⟩
                have h1s : W1.heap.size = w1.heap.size + 1 := by rw [← hW1]; exact World.size_alloc ..
                have hb1 : Below w.heap.size w W1 := hW1 ▸ b1.alloc b1.size _
                have hbw : Below w1.heap.size w1 W1 := hW1 ▸ (Below.refl _ _).alloc (Nat.le_refl _) _
                have hn1 : W1.heap[w1.heap.size]? = some (Obj.cells #[.int .i64 u.k, .bool u.g, .slice u.la u.ln u.lc, .bool u.bb, .string u.s, .slice u.ia u.items.length u.ic, .slice u.ta u.tail.length u.tc] 34) := hW1 ▸ World.alloc_heap_new _ _
                have hu1 : HeldP W1 (Fresh W1 w.heap.size) u := hu.below hbw (Nat.le_refl _)
                have hz1 := b1.size
                have HS := Lib.hid (deep_open HS2.out (by omega) (by omega) ha9 (H.out.below hb1))
                have HB := Lib.hid (And.intro hb1 (And.intro hn1 hu1))
                have HDP := Lib.hid (show ((u.depth : Nat) : Int) = 190 + (kk : Int) by rw [hdp]; omega)
                clear hu b1 hb1 hbw hn1 hu1 hdp
                go_wp2_with fail
                refine HS.out.mono ?_
                rintro E w2 ⟨rfl, b2⟩
                have hn2 := (b2.block w1.heap.size (by omega)).trans HB.out.2.1
                obtain ⟨⟨x0, x1, x2, x3, x4, x5, x6⟩, -⟩ := seven hn2
                have hz2 := b2.size
                have hz12 : w1.heap.size < w2.heap.size := by omega
                have hba : Below W1.heap.size W1 (w2.alloc (Obj.cells #[.int .i64 0, .bool false, .slice none 0 0, .bool false, .string ⟨#[]⟩, .slice none 0 0, .slice none 0 0] 34)) := b2.alloc b2.size _
                have hu2 := HB.out.2.2.below hba (Nat.le_refl _)
                have hD := rdepth_any (w2.alloc (Obj.cells #[.int .i64 0, .bool false, .slice none 0 0, .bool false, .string ⟨#[]⟩, .slice none 0 0, .slice none 0 0] 34)).heap.size 1000 (by omega) u hsz (w2.alloc (Obj.cells #[.int .i64 0, .bool false, .slice none 0 0, .bool false, .string ⟨#[]⟩, .slice none 0 0, .slice none 0 0] 34)) (Nat.le_refl _) (hu2.held fun i hi => hi.lt)
                rw [HDP.out] at hD
                have HD := Lib.hid hD
                have HB2 := Lib.hid (HB.out.1.trans (hba.mono (by omega)))
                clear b2 hn2 hu2 hD hba
                go_wp2_with fail
                refine HD.out.mono ?_
                rintro E w3 ⟨rfl, b3⟩
                have hb3 := HB2.out.trans (b3.mono HB2.out.size)
                have HL := Lib.hid (lives5_yes (H.out.below hb3))
                have HB3 := Lib.hid hb3
                clear b3 hb3
                go_wp2_with fail
                refine HL.out.mono ?_
                rintro E w4 ⟨rfl, b4⟩
                have hb4 := HB3.out.trans (b4.mono HB3.out.size)
                clear b4
                go_wp2_with fail
                go_ret
                exact ⟨rfl, hb4⟩
theorem readerDeep_walk (nn zz : Int) (w : World) (hn : (Lit.int .u64 nn).wf = true) (hz : (Lit.int .u64 zz).wf = true) (ht : Tabs w) :
    Calls Tryd.prog 4 #[.int .u64 nn, .int .u64 zz] w fun e w' => e = .returned (.bool true) ∧ Below w.heap.size w w' := by
  have h1 := bounds_u64 hn
  have h2 := bounds_u64 hz
  exact deep_core (nn % 20).toNat (zz % 9).toNat nn zz ht (by omega) (by omega) (by omega) (by omega) h1.1 h2.1 (by omega) (by omega)
end
end Go.Proofs.YtifogchgfbieoaaDoor
