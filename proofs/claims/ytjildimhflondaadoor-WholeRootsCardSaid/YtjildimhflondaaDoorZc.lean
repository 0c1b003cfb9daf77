/-
  Parse and Text on both sides.
-/
import Derived.Test.YtjildimhflondaaDoorWp
import Derived.Test.YtjildimhflondaaDoorWra
import Derived.Test.YtjildimhflondaaDoorRefParse
import Derived.Test.YtjildimhflondaaDoorZb
import Derived.Test.YtjildimhflondaaDoorRefText
import Derived.WideShapes
namespace Go.Proofs.YtjildimhflondaaDoor
open Go.RowKit
theorem str_ne {s : ByteArray} (h : 0 < s.size) : ¬ s.toList = [] ∧ (s.toList.isEmpty) = false := by
  have h1 : s.data.toList.length = s.size := Array.length_toList
  rw [ByteArray.toList_eq]
  cases he : s.data.toList with
  | nil => rw [he] at h1; simp at h1; omega
  | cons a l => exact ⟨by simp, rfl⟩
set_option maxHeartbeats 1600000 in
theorem wparse_minusL {w : World} (s : ByteArray) (h0 : 0 < s.size) (hc : s[0] = 45) (hsz : s.size ≤ 9223372036854775807) (ok : Bool) (m : Nat) (hok : ok = false → m = 0)
    (HP : ∀ w, Calls Tryd.prog 49 #[.string (s.extract 1 s.size), .int .i64 10] w (PG w ok m)) : Calls Tryd.prog 45 #[.string s] w (WP w ok (zOf true m)) := by
  obtain ⟨W, hW, hr, hb⟩ := enter0r w
  have h45 : (((s[0].toNat : Nat) : Int) == 45) = true := by simp [hc]
  have HC := Lib.hid hc
  clear hc
  have HP' := Lib.hid (HP W)
  clear HP
  cases ok
  · obtain rfl := hok rfl
    have HZ : Hid (zOf true 0 = 0) := Lib.hid (zOf_zero.2 rfl)
    clear hok
    go_enter Tryd.func45, Tryd.ntmps45
    go_wp2_with fail
    rw [← hW]
    refine HP'.out.mono ?_
    rintro e w1 ⟨v, rfl, hv, hb1⟩
    have hr2 := hr.next hb1
    obtain ⟨q1, q2, q3, q4, q5, q6⟩ := hr2.room (.bool false)
    go_wp2_with fail
    rw [HZ.out]
    exact wretp rfl rfl rfl rfl hr2 (nil_wnew _ w.heap.size) (Nat.le_refl _) (Nat.le_refl _) (bnext hb hb1)
  · clear hok
    go_enter Tryd.func45, Tryd.ntmps45
    go_wp2_with fail
    rw [← hW]
    refine HP'.out.mono ?_
    rintro e w1 ⟨v, rfl, hv, hb1⟩
    go_wp2_with fail
    refine (signed_w true hv).mono ?_
    rintro e w2 ⟨b, xa, xn, xc, rfl, hnew, hb2⟩
    have hr2 := (hr.next hb1).next hb2
    obtain ⟨q1, q2, q3, q4, q5, q6⟩ := hr2.room (.bool b)
    go_wp2_with fail
    exact wretp rfl rfl rfl rfl hr2 hnew.out hb.size (Nat.le_refl _) (bnext (bnext hb hb1) hb2)
set_option maxHeartbeats 1600000 in
theorem wparse_plusL {w : World} (s : ByteArray) (h0 : 0 < s.size) (hc : s[0] = 43) (hsz : s.size ≤ 9223372036854775807) (ok : Bool) (m : Nat) (hok : ok = false → m = 0)
    (HP : ∀ w, Calls Tryd.prog 49 #[.string (s.extract 1 s.size), .int .i64 10] w (PG w ok m)) : Calls Tryd.prog 45 #[.string s] w (WP w ok (zOf false m)) := by
  obtain ⟨W, hW, hr, hb⟩ := enter0r w
  have h45 : (((s[0].toNat : Nat) : Int) == 45) = false := by simp [hc]
  have h43 : (((s[0].toNat : Nat) : Int) == 43) = true := by simp [hc]
  have HC := Lib.hid hc
  clear hc
  have HP' := Lib.hid (HP W)
  clear HP
  cases ok
  · obtain rfl := hok rfl
    have HZ : Hid (zOf false 0 = 0) := Lib.hid (zOf_zero.2 rfl)
    clear hok
    go_enter Tryd.func45, Tryd.ntmps45
    go_wp2_with fail
    rw [← hW]
    refine HP'.out.mono ?_
    rintro e w1 ⟨v, rfl, hv, hb1⟩
    have hr2 := hr.next hb1
    obtain ⟨q1, q2, q3, q4, q5, q6⟩ := hr2.room (.bool false)
    go_wp2_with fail
    rw [HZ.out]
    exact wretp rfl rfl rfl rfl hr2 (nil_wnew _ w.heap.size) (Nat.le_refl _) (Nat.le_refl _) (bnext hb hb1)
  · clear hok
    go_enter Tryd.func45, Tryd.ntmps45
    go_wp2_with fail
    rw [← hW]
    refine HP'.out.mono ?_
    rintro e w1 ⟨v, rfl, hv, hb1⟩
    go_wp2_with fail
    refine (signed_w false hv).mono ?_
    rintro e w2 ⟨b, xa, xn, xc, rfl, hnew, hb2⟩
    have hr2 := (hr.next hb1).next hb2
    obtain ⟨q1, q2, q3, q4, q5, q6⟩ := hr2.room (.bool b)
    go_wp2_with fail
    exact wretp rfl rfl rfl rfl hr2 hnew.out hb.size (Nat.le_refl _) (bnext (bnext hb hb1) hb2)
set_option maxHeartbeats 1600000 in
theorem wparse_noneL {w : World} (s : ByteArray) (h0 : 0 < s.size) (hc : s[0] ≠ 45) (hc2 : s[0] ≠ 43) (_hsz : s.size ≤ 9223372036854775807) (ok : Bool) (m : Nat) (hok : ok = false → m = 0)
    (HP : ∀ w, Calls Tryd.prog 49 #[.string s, .int .i64 10] w (PG w ok m)) : Calls Tryd.prog 45 #[.string s] w (WP w ok (zOf false m)) := by
  obtain ⟨W, hW, hr, hb⟩ := enter0r w
  have h45 : (((s[0].toNat : Nat) : Int) == 45) = false := by
    rw [beq_eq_false_iff_ne]
    intro h
    exact hc (UInt8.toNat_inj.1 (show s[0].toNat = 45 by omega))
  have h43 : (((s[0].toNat : Nat) : Int) == 43) = false := by
    rw [beq_eq_false_iff_ne]
    intro h
    exact hc2 (UInt8.toNat_inj.1 (show s[0].toNat = 43 by omega))
  clear hc hc2
  have HP' := Lib.hid (HP W)
  clear HP
  cases ok
  · obtain rfl := hok rfl
    have HZ : Hid (zOf false 0 = 0) := Lib.hid (zOf_zero.2 rfl)
    clear hok
    go_enter Tryd.func45, Tryd.ntmps45
    go_wp2_with fail
    rw [← hW]
    refine HP'.out.mono ?_
    rintro e w1 ⟨v, rfl, hv, hb1⟩
    have hr2 := hr.next hb1
    obtain ⟨q1, q2, q3, q4, q5, q6⟩ := hr2.room (.bool false)
    go_wp2_with fail
    rw [HZ.out]
    exact wretp rfl rfl rfl rfl hr2 (nil_wnew _ w.heap.size) (Nat.le_refl _) (Nat.le_refl _) (bnext hb hb1)
  · clear hok
    go_enter Tryd.func45, Tryd.ntmps45
    go_wp2_with fail
    rw [← hW]
    refine HP'.out.mono ?_
    rintro e w1 ⟨v, rfl, hv, hb1⟩
    go_wp2_with fail
    refine (signed_w false hv).mono ?_
    rintro e w2 ⟨b, xa, xn, xc, rfl, hnew, hb2⟩
    have hr2 := (hr.next hb1).next hb2
    obtain ⟨q1, q2, q3, q4, q5, q6⟩ := hr2.room (.bool b)
    go_wp2_with fail
    exact wretp rfl rfl rfl rfl hr2 hnew.out hb.size (Nat.le_refl _) (bnext (bnext hb hb1) hb2)

set_option maxHeartbeats 1600000 in
theorem rwparse_minus {w : World} (s : ByteArray) (h0 : 0 < s.size) (hc : s[0] = 45) (_hsz : s.size ≤ 9223372036854775807) (ok : Bool) (m K : Nat) (hm : m < 4294967296 ^ K) (hK : K ≤ 1000000) (hok : ok = false → m = 0)
    (HP : ∀ w, Calls Tryd.prog 77 #[.string (s.extract 1 s.size), .int .i64 10] w (PG w ok m)) : Calls Tryd.prog 46 #[.string s] w (WP w ok (zOf true m)) := by
  obtain ⟨W, hW, hr, hb⟩ := enter0r w
  have h45 : (((s[0].toNat : Nat) : Int) == 45) = true := by simp [hc]
  have HC := Lib.hid hc
  clear hc
  have HE := str_ne h0
  obtain ⟨he1, he2⟩ := HE
  have HP' := Lib.hid (HP W)
  clear HP
  have HM := Lib.hid hm
  clear hm
  cases ok
  · obtain rfl := hok rfl
    have HZ : Hid (zOf true 0 = 0) := Lib.hid (zOf_zero.2 rfl)
    clear hok
    go_enter Tryd.func46, Tryd.ntmps46
    go_wp2_with fail
    rw [← hW]
    refine HP'.out.mono ?_
    rintro e w1 ⟨v, rfl, hv, hb1⟩
    have hr2 := hr.next hb1
    obtain ⟨q1, q2, q3, q4, q5, q6⟩ := hr2.room (.bool false)
    go_wp2_with fail
    rw [HZ.out]
    exact wretp rfl rfl rfl rfl hr2 (nil_wnew _ w.heap.size) (Nat.le_refl _) (Nat.le_refl _) (bnext hb hb1)
  · clear hok
    go_enter Tryd.func46, Tryd.ntmps46
    go_wp2_with fail
    rw [← hW]
    refine HP'.out.mono ?_
    rintro e w1 ⟨v, rfl, hv, hb1⟩
    obtain ⟨na, nn, nc, rfl, -, -⟩ := hv.nought
    have HNN := Lib.hid (rwnorm_num (w := w1) (u := .agg #[.bool true, .slice na nn nc]) ⟨true, _, m, rfl, hv.num K HM.out, rfl⟩ hK)
    clear hv
    go_wp2_with fail
    refine HNN.out.mono ?_
    rintro e w2 ⟨v2, rfl, hv2, hb2⟩
    obtain ⟨b, xa, xn, xc, rfl, hnew⟩ := hv2.opened
    have hr2 := (hr.next hb1).next hb2
    obtain ⟨q1, q2, q3, q4, q5, q6⟩ := hr2.room (.bool b)
    clear HNN hv2
    go_wp2_with fail
    exact wretp rfl rfl rfl rfl hr2 hnew.out (Nat.le_trans hb.size hb1.size) (Nat.le_refl _) (bnext (bnext hb hb1) hb2)

set_option maxHeartbeats 1600000 in
theorem rwparse_plus {w : World} (s : ByteArray) (h0 : 0 < s.size) (hc : s[0] = 43) (_hsz : s.size ≤ 9223372036854775807) (ok : Bool) (m K : Nat) (hm : m < 4294967296 ^ K) (hK : K ≤ 1000000) (hok : ok = false → m = 0)
    (HP : ∀ w, Calls Tryd.prog 77 #[.string (s.extract 1 s.size), .int .i64 10] w (PG w ok m)) : Calls Tryd.prog 46 #[.string s] w (WP w ok (zOf false m)) := by
  obtain ⟨W, hW, hr, hb⟩ := enter0r w
  have h45 : (((s[0].toNat : Nat) : Int) == 45) = false := by simp [hc]
  have h43 : (((s[0].toNat : Nat) : Int) == 43) = true := by simp [hc]
  have HC := Lib.hid hc
  clear hc
  have HE := str_ne h0
  obtain ⟨he1, he2⟩ := HE
  have HP' := Lib.hid (HP W)
  clear HP
  have HM := Lib.hid hm
  clear hm
  cases ok
  · obtain rfl := hok rfl
    have HZ : Hid (zOf false 0 = 0) := Lib.hid (zOf_zero.2 rfl)
    clear hok
    go_enter Tryd.func46, Tryd.ntmps46
    go_wp2_with fail
    rw [← hW]
    refine HP'.out.mono ?_
    rintro e w1 ⟨v, rfl, hv, hb1⟩
    have hr2 := hr.next hb1
    obtain ⟨q1, q2, q3, q4, q5, q6⟩ := hr2.room (.bool false)
    go_wp2_with fail
    rw [HZ.out]
    exact wretp rfl rfl rfl rfl hr2 (nil_wnew _ w.heap.size) (Nat.le_refl _) (Nat.le_refl _) (bnext hb hb1)
  · clear hok
    go_enter Tryd.func46, Tryd.ntmps46
    go_wp2_with fail
    rw [← hW]
    refine HP'.out.mono ?_
    rintro e w1 ⟨v, rfl, hv, hb1⟩
    obtain ⟨na, nn, nc, rfl, -, -⟩ := hv.nought
    have HNN := Lib.hid (rwnorm_num (w := w1) (u := .agg #[.bool false, .slice na nn nc]) ⟨false, _, m, rfl, hv.num K HM.out, rfl⟩ hK)
    clear hv
    go_wp2_with fail
    refine HNN.out.mono ?_
    rintro e w2 ⟨v2, rfl, hv2, hb2⟩
    obtain ⟨b, xa, xn, xc, rfl, hnew⟩ := hv2.opened
    have hr2 := (hr.next hb1).next hb2
    obtain ⟨q1, q2, q3, q4, q5, q6⟩ := hr2.room (.bool b)
    clear HNN hv2
    go_wp2_with fail
    exact wretp rfl rfl rfl rfl hr2 hnew.out (Nat.le_trans hb.size hb1.size) (Nat.le_refl _) (bnext (bnext hb hb1) hb2)

set_option maxHeartbeats 1600000 in
theorem rwparse_none {w : World} (s : ByteArray) (h0 : 0 < s.size) (hc : s[0] ≠ 45) (hc2 : s[0] ≠ 43) (_hsz : s.size ≤ 9223372036854775807) (ok : Bool) (m K : Nat) (hm : m < 4294967296 ^ K) (hK : K ≤ 1000000) (hok : ok = false → m = 0)
    (HP : ∀ w, Calls Tryd.prog 77 #[.string s, .int .i64 10] w (PG w ok m)) : Calls Tryd.prog 46 #[.string s] w (WP w ok (zOf false m)) := by
  obtain ⟨W, hW, hr, hb⟩ := enter0r w
  have h45 : (((s[0].toNat : Nat) : Int) == 45) = false := by
    rw [beq_eq_false_iff_ne]
    intro h
    exact hc (UInt8.toNat_inj.1 (show s[0].toNat = 45 by omega))
  have h43 : (((s[0].toNat : Nat) : Int) == 43) = false := by
    rw [beq_eq_false_iff_ne]
    intro h
    exact hc2 (UInt8.toNat_inj.1 (show s[0].toNat = 43 by omega))
  clear hc hc2
  have HE := str_ne h0
  obtain ⟨he1, he2⟩ := HE
  have HP' := Lib.hid (HP W)
  clear HP
  have HM := Lib.hid hm
  clear hm
  cases ok
  · obtain rfl := hok rfl
    have HZ : Hid (zOf false 0 = 0) := Lib.hid (zOf_zero.2 rfl)
    clear hok
    go_enter Tryd.func46, Tryd.ntmps46
    go_wp2_with fail
    rw [← hW]
    refine HP'.out.mono ?_
    rintro e w1 ⟨v, rfl, hv, hb1⟩
    have hr2 := hr.next hb1
    obtain ⟨q1, q2, q3, q4, q5, q6⟩ := hr2.room (.bool false)
    go_wp2_with fail
    rw [HZ.out]
    exact wretp rfl rfl rfl rfl hr2 (nil_wnew _ w.heap.size) (Nat.le_refl _) (Nat.le_refl _) (bnext hb hb1)
  · clear hok
    go_enter Tryd.func46, Tryd.ntmps46
    go_wp2_with fail
    rw [← hW]
    refine HP'.out.mono ?_
    rintro e w1 ⟨v, rfl, hv, hb1⟩
    obtain ⟨na, nn, nc, rfl, -, -⟩ := hv.nought
    have HNN := Lib.hid (rwnorm_num (w := w1) (u := .agg #[.bool false, .slice na nn nc]) ⟨false, _, m, rfl, hv.num K HM.out, rfl⟩ hK)
    clear hv
    go_wp2_with fail
    refine HNN.out.mono ?_
    rintro e w2 ⟨v2, rfl, hv2, hb2⟩
    obtain ⟨b, xa, xn, xc, rfl, hnew⟩ := hv2.opened
    have hr2 := (hr.next hb1).next hb2
    obtain ⟨q1, q2, q3, q4, q5, q6⟩ := hr2.room (.bool b)
    clear HNN hv2
    go_wp2_with fail
    exact wretp rfl rfl rfl rfl hr2 hnew.out (Nat.le_trans hb.size hb1.size) (Nat.le_refl _) (bnext (bnext hb hb1) hb2)

theorem nil_of_size {s : ByteArray} (h : s.size = 0) : s = ⟨#[]⟩ := by
  obtain ⟨d⟩ := s
  have : d.size = 0 := h
  rw [Array.eq_empty_of_size_eq_zero this]
set_option maxHeartbeats 800000 in
theorem wparse_nil {w : World} : Calls Tryd.prog 45 #[.string ⟨#[]⟩] w (WP w false 0) := by
  obtain ⟨W, hW, hr, hb⟩ := enter0r w
  have HP' := Lib.hid (parse_no ⟨#[]⟩ 10 W (.inr (.inr (.inl rfl))) (by unfold maxLen; decide))
  go_enter Tryd.func45, Tryd.ntmps45
  go_wp2_with fail
  rw [← hW]
  refine HP'.out.mono ?_
  rintro e w1 ⟨rfl, hb1⟩
  have hr2 := hr.next hb1
  obtain ⟨q1, q2, q3, q4, q5, q6⟩ := hr2.room (.bool false)
  go_wp2_with fail
  exact wretp rfl rfl rfl rfl hr2 (nil_wnew _ w.heap.size) (Nat.le_refl _) (Nat.le_refl _) (bnext hb hb1)
set_option maxHeartbeats 800000 in
theorem rwparse_nil {w : World} : Calls Tryd.prog 46 #[.string ⟨#[]⟩] w (WP w false 0) := by
  obtain ⟨W, hW, hr, hb⟩ := enter0r w
  have HP' := Lib.hid (rparse_no ⟨#[]⟩ 10 W (.inr (.inr (.inl rfl))) (by unfold maxLen; decide))
  go_enter Tryd.func46, Tryd.ntmps46
  go_wp2_with fail
  rw [← hW]
  refine HP'.out.mono ?_
  rintro e w1 ⟨rfl, hb1⟩
  have hr2 := hr.next hb1
  obtain ⟨q1, q2, q3, q4, q5, q6⟩ := hr2.room (.bool false)
  go_wp2_with fail
  exact wretp rfl rfl rfl rfl hr2 (nil_wnew _ w.heap.size) (Nat.le_refl _) (Nat.le_refl _) (bnext hb hb1)
end Go.Proofs.YtjildimhflondaaDoor
namespace Go.Proofs.YtjildimhflondaaDoor
open Go.RowKit
theorem PG.none {P : Program} {f : FuncId} {args : Array Value} {w : World} (h : Calls P f args w fun e w' => e = .returned (.tuple #[.slice none 0 0, .bool false]) ∧ Below w.heap.size w w') : Calls P f args w (PG w false 0) :=
  h.mono fun _ _ ⟨he, hb⟩ => ⟨_, he, New.nil _ _, hb⟩
theorem nparse2 (s : ByteArray) (hs : s.size ≤ maxLen) : ∃ ok m K, K ≤ 1000000 ∧ m < 4294967296 ^ K ∧ (ok = false → m = 0) ∧ (∀ w, Calls Tryd.prog 49 #[.string s, .int .i64 10] w (PG w ok m)) ∧ (∀ w, Calls Tryd.prog 77 #[.string s, .int .i64 10] w (PG w ok m)) := by
  by_cases h : s.size = 0 ∨ 1000 < s.size
  · exact ⟨false, 0, 0, by decide, by decide, fun _ => rfl, fun w => PG.none (parse_no s 10 w (.inr (.inr h)) hs), fun w => PG.none (rparse_no s 10 w (.inr (.inr h)) hs)⟩
  · by_cases hg : ∀ k (h : k < s.size), digN s[k].toNat < 10
    · refine ⟨true, numB 10 s.data.toList, s.size, by omega, ?_, (fun h => by cases h), fun w => parse_yes s 10 w (by omega) (by omega) (by omega) (by omega) hg, fun w => rparse_yes s 10 w (by omega) (by omega) (by omega) (by omega) hg⟩
      have := numB_lt 10 (by omega) s s.size (Nat.le_refl _)
      rwa [List.take_of_length_le (by simp)] at this
    · simp only [Classical.not_forall] at hg
      obtain ⟨j, hj, hbad⟩ := hg
      exact ⟨false, 0, 0, by decide, by decide, fun _ => rfl, fun w => PG.none (parse_bad s 10 w (by omega) (by omega) (by omega) (by omega) j hj (by omega)), fun w => PG.none (rparse_bad s 10 w (by omega) (by omega) (by omega) (by omega) j hj (by omega))⟩
theorem wparse2 (s : ByteArray) (hs : s.size ≤ maxLen) : ∃ ok z K, K ≤ 1000000 ∧ z.natAbs < 4294967296 ^ K ∧ (∀ w, Calls Tryd.prog 45 #[.string s] w (WP w ok z)) ∧ (∀ w, Calls Tryd.prog 46 #[.string s] w (WP w ok z)) := by
  by_cases h0 : s.size = 0
  · rw [nil_of_size h0]
    exact ⟨false, 0, 0, by decide, by decide, fun w => wparse_nil, fun w => rwparse_nil⟩
  · have h0 : 0 < s.size := by omega
    have hb : s.size ≤ 9223372036854775807 := by unfold maxLen at hs; omega
    have he : (s.extract 1 s.size).size ≤ maxLen := by rw [ByteArray.size_extract]; exact Nat.le_trans (Nat.sub_le _ _) (Nat.le_trans (Nat.min_le_left _ _) hs)
    by_cases h45 : s[0] = 45
    · obtain ⟨ok, m, K, hK, hm, hok, h1, h2⟩ := nparse2 _ he
      exact ⟨ok, zOf true m, K, hK, by rw [zOf_abs]; exact hm, fun w => wparse_minusL s h0 h45 hb ok m hok h1, fun w => rwparse_minus s h0 h45 hb ok m K hm hK hok h2⟩
    · by_cases h43 : s[0] = 43
      · obtain ⟨ok, m, K, hK, hm, hok, h1, h2⟩ := nparse2 _ he
        exact ⟨ok, zOf false m, K, hK, by rw [zOf_abs]; exact hm, fun w => wparse_plusL s h0 h43 hb ok m hok h1, fun w => rwparse_plus s h0 h43 hb ok m K hm hK hok h2⟩
      · obtain ⟨ok, m, K, hK, hm, hok, h1, h2⟩ := nparse2 _ hs
        exact ⟨ok, zOf false m, K, hK, by rw [zOf_abs]; exact hm, fun w => wparse_noneL s h0 h45 h43 hb ok m hok h1, fun w => rwparse_none s h0 h45 h43 hb ok m K hm hK hok h2⟩
section
variable {w : World} {u v : Value} {a b : Int} {K L : Nat}
set_option maxHeartbeats 1600000 in
theorem rwtext_num (hu : Wh w u a K) (hK : K ≤ 1000000) : Calls Tryd.prog 48 #[u] w fun e w' => ∃ t : ByteArray, e = .returned (.string t) ∧ t.data.toList = wtxt a ∧ Below w.heap.size w w' := by
  have la := hu.lt
  have hlen := txt_len 10 a.natAbs K (by decide) la
  have HT := Lib.hid (fun (w' : World) (x : Value) (hx : Num w' x a.natAbs K) => rtext_any hx hK 10 (by decide) (by decide))
  obtain ⟨s, xA, xN, xC, rfl, hx0⟩ := hu.opened
  obtain ⟨W, hW, hp, hb⟩ := enter1 w (.bool s) (.slice xA xN xC)
  have HN := Lib.hid (rwnorm_num (hx0.out.below hb) hK)
  have HL := Lib.hid (And.intro la hlen)
  have e0 := hp.c0
  have e1 := hp.c1
  rw [hW] at e0 e1
  clear hu hx0 la hlen
  obtain ⟨d, hd⟩ : ∃ d, d = decide (a < 0) := ⟨_, rfl⟩
  cases d
  · have HS := Lib.hid hd
    clear hd
    go_enter Tryd.func48, Tryd.ntmps48
    go_wp2_with fail
    rw [← hW]
    refine HN.out.mono ?_
    rintro e w1 ⟨v, rfl, x1, b1⟩
    obtain ⟨sg, xa, xn, xc, rfl, y1⟩ := x1.opened
    obtain rfl : sg = false := y1.out.neg.trans HS.out.symm
    clear x1 e0 e1 HN
    have vx := Var.mk_ w1 (.bool false) (.slice xa xn xc)
    have b2 : Below w1.heap.size w1 (w1.alloc (.cells #[.bool false, .slice xa xn xc] 36)) := bnew (Below.refl _ _) _
    have hn := (y1.out.next b2).num_ K HL.out.1
    have hB := bnext hb (bnext b1 b2)
    clear y1 b1 b2 hp hW hb
    have e0 := vx.c0
    have e1 := vx.c1
    go_wp2_with fail
    refine (HT.out _ _ hn).mono ?_
    rintro e w3 ⟨t, rfl, ht, b3⟩
    have f0 := (vx.next b3).c0
    have HT2 := Lib.hid ht
    have hB3 := bnext hB b3
    clear e0 e1 HT ht hn
    go_wp2_with fail
    go_ret
    exact ⟨_, rfl, by rw [HT2.out]; unfold wtxt; rw [if_neg (of_decide_eq_false HS.out.symm)], hB3⟩
  · have HS := Lib.hid hd
    clear hd
    go_enter Tryd.func48, Tryd.ntmps48
    go_wp2_with fail
    rw [← hW]
    refine HN.out.mono ?_
    rintro e w1 ⟨v, rfl, x1, b1⟩
    obtain ⟨sg, xa, xn, xc, rfl, y1⟩ := x1.opened
    obtain rfl : sg = true := y1.out.neg.trans HS.out.symm
    clear x1 e0 e1 HN
    have vx := Var.mk_ w1 (.bool true) (.slice xa xn xc)
    have b2 : Below w1.heap.size w1 (w1.alloc (.cells #[.bool true, .slice xa xn xc] 36)) := bnew (Below.refl _ _) _
    have hn := (y1.out.next b2).num_ K HL.out.1
    have hB := bnext hb (bnext b1 b2)
    clear y1 b1 b2 hp hW hb
    have e0 := vx.c0
    have e1 := vx.c1
    go_wp2_with fail
    refine (HT.out _ _ hn).mono ?_
    rintro e w3 ⟨t, rfl, ht, b3⟩
    have f0 := (vx.next b3).c0
    have HT2 := Lib.hid ht
    have hts : t.size ≤ 32 * K + 1 := by
      have : t.size = t.data.toList.length := (Array.length_toList (xs := t.data)).symm
      rw [this, ht]; exact HL.out.2
    have hB3 := bnext hB b3
    clear e0 e1 HT ht hn
    go_wp2_with fail
    go_ret
    refine ⟨_, rfl, ?_, hB3⟩
    unfold wtxt
    rw [if_pos (of_decide_eq_true HS.out.symm)]
    simp [HT2.out]
theorem wtext2 (a : Int) (K : Nat) (hK : K ≤ 1000000) : ∃ t : ByteArray, (∀ w u, Wh w u a K → Calls Tryd.prog 47 #[u] w fun e w' => e = .returned (.string t) ∧ Below w.heap.size w w') ∧ (∀ w u, Wh w u a K → Calls Tryd.prog 48 #[u] w fun e w' => e = .returned (.string t) ∧ Below w.heap.size w w') := by
  refine ⟨⟨(wtxt a).toArray⟩, fun w u hu => (wtext_num hu hK).mono ?_, fun w u hu => (rwtext_num hu hK).mono ?_⟩ <;>
  · rintro e w' ⟨t, rfl, ht, hb⟩
    exact ⟨by rw [Go.WideShapes.bytes_inj (a := t) (b := ⟨(wtxt a).toArray⟩) (by rw [ht])], hb⟩
end
end Go.Proofs.YtjildimhflondaaDoor
