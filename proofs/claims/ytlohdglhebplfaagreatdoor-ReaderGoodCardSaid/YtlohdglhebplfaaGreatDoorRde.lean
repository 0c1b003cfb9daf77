/-
  The reader: remarks up to a line's end, and between marks.
-/
import Derived.Test.YtlohdglhebplfaaGreatDoorRdx1
import Derived.Deep.LoopGhost
namespace Go.Proofs.YtlohdglhebplfaaGreatDoor
open Go.RowKit

section
variable {w : World} {R p k : Nat} {s : ByteArray} {x : Int}
theorem lineL_cons {c : UInt8} {l : By} (h : c ≠ 10) : lineL (c :: l) = lineL l := by simp [lineL, List.dropWhile_cons, h]
theorem lineL_stop {l : By} : lineL (10 :: l) = 10 :: l := by simp [lineL, List.dropWhile_cons]
set_option maxRecDepth 100000 in
set_option maxHeartbeats 3200000 in
theorem skipLine_any (h : Rdr w R s p x k) (hp : p ≤ s.size) (hs : s.size ≤ 16384) : Calls Tryz.prog 138 #[.pointer (some ⟨R, 0, none⟩)] w fun E w' => (∃ v, E = .returned v) ∧ ∃ q, p ≤ q ∧ q ≤ s.size ∧ rsB s q = lineL (rsB s p) ∧ Rdr w' R s q x k ∧ Kept R w w' := by
  have H := Lib.hid h
  clear h
  go_enter Tryz.func138, Tryz.ntmps138
  go_wp2_with fail
  go_loopg [] (s.size - p) (fun g wr => ∃ q, p ≤ q ∧ q ≤ s.size ∧ g = s.size - q ∧ Rdr wr R s q x k ∧ Kept R w wr ∧ lineL (rsB s q) = lineL (rsB s p))
  case atStart => exact ⟨p, Nat.le_refl _, hp, rfl, H.out, Kept.rfl' R w, rfl⟩
  case round =>
    obtain ⟨q, hpq, hq, rfl, hr, hk, hl⟩ := hrel
    obtain ⟨c0, c1, c2, c3⟩ := hr.c
    have HR := Lib.hid (And.intro hr (And.intro hk hl))
    clear hr hk hl
    by_cases hlt : q < s.size
    · by_cases h10 : s[q] = 10
      · have hb : ((s[q].toNat : Int) == 10) = true := by rw [h10]; rfl
        have hL := Lib.hid h10
        clear h10
        go_wp2_with fail
        go_quiet (fail)
        go_wp2_with fail
        go_end0
        refine ⟨⟨_, rfl⟩, q, hpq, hq, ?_, HR.out.1.drewN nq, HR.out.2.1.drewN nq⟩
        rw [← HR.out.2.2, rsB_cons hlt, hL.out, lineL_stop]
      · have hb : ((s[q].toNat : Int) == 10) = false := byte_ne (b := 10) h10
        have hL := Lib.hid h10
        clear h10
        go_wp2_with fail
        go_quiet (fail)
        have H2 := HR.out.1.drewN nq
        obtain ⟨c0, c1, c2, c3⟩ := H2.c
        obtain ⟨f1, f2, f3⟩ := H2.f
        have HD := Lib.hid H2
        clear H2
        go_wp2_with fail
        go_roundg (s.size - (q + 1))
        case measure => omega
        case rel => exact ⟨q + 1, by omega, by omega, rfl, HD.out.set1 _ (by omega), (HR.out.2.1.drewN nq).set _ _ rfl, by rw [← HR.out.2.2, rsB_cons hlt, lineL_cons hL.out]⟩
    · obtain rfl : q = s.size := by omega
      go_wp2_with fail
      go_quiet (fail)
      go_wp2_with fail
      go_end0
      refine ⟨⟨_, rfl⟩, s.size, hpq, hq, ?_, HR.out.1.drewN nq, HR.out.2.1.drewN nq⟩
      rw [← HR.out.2.2, rsB_end (Nat.le_refl _)]; rfl
def At2 (s : ByteArray) (q : Nat) (a b : UInt8) : Prop := s.data.toList[q]? = some a ∧ s.data.toList[q + 1]? = some b
theorem rsB_head (s : ByteArray) (q : Nat) : (rsB s q).head? = s.data.toList[q]? := List.head?_drop ..
theorem At2.lt {s : ByteArray} {q : Nat} {a b : UInt8} (h : At2 s q a b) : q + 1 < s.size := by
  have := (List.getElem?_eq_some_iff.1 h.2).1
  simpa using this
theorem At2.rest {s : ByteArray} {q : Nat} {a b : UInt8} (h : At2 s q a b) : rsB s q = a :: b :: rsB s (q + 2) := by
  obtain ⟨h1, e1⟩ := List.getElem?_eq_some_iff.1 h.1
  obtain ⟨h2, e2⟩ := List.getElem?_eq_some_iff.1 h.2
  unfold rsB
  rw [List.drop_eq_getElem_cons h1, List.drop_eq_getElem_cons h2, e1, e2]
theorem At2.yes {s : ByteArray} {q : Nat} {a b : UInt8} (h : At2 s q a b) : Lib.hasPrefix (s.extract q s.size).data.toList [a, b] = true := by
  rw [rsB_extract, h.rest]; simp [Lib.hasPrefix, List.isPrefixOf]
theorem At2.no {s : ByteArray} {q : Nat} {a b : UInt8} (h : ¬ At2 s q a b) : Lib.hasPrefix (s.extract q s.size).data.toList [a, b] = false := by
  cases he : Lib.hasPrefix (s.extract q s.size).data.toList [a, b] with
  | false => rfl
  | true =>
    rw [rsB_extract] at he
    have h1 := List.isPrefixOf_iff_prefix.1 he
    obtain ⟨r, hr⟩ := h1
    have e0 : (rsB s q)[0]? = some a := by rw [← hr]; rfl
    have e1 : (rsB s q)[1]? = some b := by rw [← hr]; rfl
    unfold rsB at e0 e1
    rw [List.getElem?_drop] at e0 e1
    exact absurd ⟨e0, e1⟩ h
theorem blkL_one (o : Nat) (c : UInt8) : blkL o [c] = none := by simp [blkL]
theorem blkL_open (o : Nat) (l : By) : blkL o (35 :: 124 :: l) = blkL (o + 1) l := by rw [blkL, if_pos ⟨rfl, rfl⟩]
theorem blkL_close (o : Nat) (l : By) : blkL o (124 :: 35 :: l) = if o ≤ 1 then some l else blkL (o - 1) l := by rw [blkL, if_neg (by decide), if_pos ⟨rfl, rfl⟩]
theorem blkL_other (o : Nat) (c : UInt8) (l : By) (h1 : ¬ (c = 35 ∧ l.head? = some 124)) (h2 : ¬ (c = 124 ∧ l.head? = some 35)) : blkL o (c :: l) = blkL o l := by
  cases l with
  | nil => simp [blkL]
  | cons d l => rw [blkL, if_neg (fun h => h1 ⟨h.1, by rw [h.2]; rfl⟩), if_neg (fun h => h2 ⟨h.1, by rw [h.2]; rfl⟩)]
/-- Where a remark between marks stands: so many are open, and this is what is left. -/
def BlkAt (s : ByteArray) (p q : Nat) (o : Nat) : Prop := blkL 1 (rsB s (p + 2)) = blkL o (rsB s q)
set_option maxRecDepth 100000 in
set_option maxHeartbeats 6400000 in
theorem skipBlock_any (h : Rdr w R s p x k) (hs : s.size ≤ 16384) (hab : At2 s p 35 124) : Calls Tryz.prog 140 #[.pointer (some ⟨R, 0, none⟩)] w fun E w' => Kept R w w' ∧
    ((∃ q, p + 2 ≤ q ∧ q ≤ s.size ∧ blkL 1 (rsB s (p + 2)) = some (rsB s q) ∧ E = .returned (.bool true) ∧ Rdr w' R s q x k) ∨ (blkL 1 (rsB s (p + 2)) = none ∧ E = .returned (.bool false) ∧ Rdr w' R s p 4 k)) := by
  obtain ⟨c0, c1, c2, c3⟩ := h.c
  have H := Lib.hid h
  have hp := hab.lt
  have HA := Lib.hid hab
  clear h hab
  go_enter Tryz.func140, Tryz.ntmps140
  go_wp2_with fail
  clear c0 c1 c2 c3
  go_loopg [4] (s.size - p + 1) (fun g o wr => ∃ q n : Nat, q ≤ s.size ∧ n ≤ q ∧ g = s.size - q + 1 ∧ o = .int .i64 n ∧ Hid (Rdr wr R s q x k ∧ Kept R w wr ∧ ((q = p ∧ n = 0) ∨ (p + 2 ≤ q ∧ 1 ≤ n ∧ BlkAt s p q n))))
  case atStart => exact ⟨p, 0, by omega, by omega, rfl, rfl, Lib.hid ⟨H.out, Kept.rfl' R w, .inl ⟨rfl, rfl⟩⟩⟩
  case round =>
    obtain ⟨q, n, hq, hnq, rfl, rfl, HR⟩ := hrel
    obtain ⟨c0, c1, c2, c3⟩ := HR.out.1.c
    by_cases hlt : q < s.size
    · go_wp2_with fail
      go_quiet (fail)
      have hr1 := HR.out.1.drewN nq
      have hk1 := HR.out.2.1.drewN nq
      have HN := Lib.hid HR.out.2.2
      generalize wr.drewN nq = W1 at *
      clear HR c0 c1 c2 c3
      obtain ⟨c0, c1, c2, c3⟩ := hr1.c
      have HR := Lib.hid (And.intro hr1 hk1)
      clear hr1 hk1
      go_wp2_with fail
      go_quiet (fail)
      rename_i nq2
      have hr1 := HR.out.1.drewN nq
      have hk1 := HR.out.2.drewN nq
      generalize W1.drewN nq = W2 at *
      clear HR c0 c1 c2 c3
      have hp1 := prefix_any (s.extract q s.size) ⟨#[35, 124]⟩ W2
      have hp2 := prefix_any (s.extract q s.size) ⟨#[124, 35]⟩ W2
      obtain ⟨c0, c1, c2, c3⟩ := hr1.c
      obtain ⟨f1, f2, f3⟩ := hr1.f
      have HR := Lib.hid (And.intro hr1 hk1)
      clear hr1 hk1
      have hxe : (⟨#[35, 124]⟩ : ByteArray).data.toList = [35, 124] := rfl
      have hxe2 : (⟨#[124, 35]⟩ : ByteArray).data.toList = [124, 35] := rfl
      rw [hxe] at hp1
      rw [hxe2] at hp2
      by_cases h1 : At2 s q 35 124
      · rw [h1.yes] at hp1
        have H1 := Lib.hid hp1
        have hq2 := h1.lt
        have HB := Lib.hid (show p + 2 ≤ q + 2 ∧ 1 ≤ n + 1 ∧ BlkAt s p (q + 2) (n + 1) by
          rcases HN.out with ⟨rfl, rfl⟩ | ⟨a, b, c⟩
          · exact ⟨by omega, by omega, rfl⟩
          · refine ⟨by omega, by omega, ?_⟩
            unfold BlkAt at c ⊢
            rw [c, h1.rest, blkL_open])
        clear hp1 hp2 h1 hxe hxe2
        have hne : (((n : Int) + 1) == 0) = false := beq_false_of_ne (by omega)
        go_wp2_with (go_at_call 139; refine H1.out.mono ?_; rintro E w' ⟨rfl, rfl⟩)
        go_roundg (s.size - (q + 2) + 1)
        case measure => omega
        case rel => exact ⟨q + 2, n + 1, by omega, by omega, rfl, by go_num, Lib.hid ⟨HR.out.1.set1 _ (by omega), HR.out.2.set _ _ rfl, .inr HB.out⟩⟩
      · rw [At2.no h1] at hp1
        have H1 := Lib.hid hp1
        clear hp1 hxe hxe2
        have HN2 := Lib.hid (show p + 2 ≤ q ∧ 1 ≤ n ∧ BlkAt s p q n by
          rcases HN.out with ⟨rfl, rfl⟩ | h
          · exact absurd HA.out h1
          · exact h)
        have hn1 := HN2.out.2.1
        by_cases h2 : At2 s q 124 35
        · rw [h2.yes] at hp2
          have H2 := Lib.hid hp2
          have hq2 := h2.lt
          have HB := Lib.hid (show blkL 1 (rsB s (p + 2)) = if n ≤ 1 then some (rsB s (q + 2)) else blkL (n - 1) (rsB s (q + 2)) by
            have c := HN2.out.2.2
            unfold BlkAt at c
            rw [c, h2.rest, blkL_close])
          clear hp2 h1 h2
          by_cases hn2 : n = 1
          · have hN2 := Lib.hid hn2
            have hne : (((n : Int) - 1) == 0) = true := by rw [hn2]; rfl
            clear hn2
            go_wp2_with (go_at_call 139; first | (refine H1.out.mono ?_; rintro E w' ⟨rfl, rfl⟩) | (refine H2.out.mono ?_; rintro E w' ⟨rfl, rfl⟩))
            go_ret
            exact ⟨HR.out.2.set _ _ rfl, .inl ⟨q + 2, by have := HN2.out.1; omega, by omega, by rw [HB.out, if_pos (by have := hN2.out; omega)], rfl, HR.out.1.set1 _ (by omega)⟩⟩
          · have hne : (((n : Int) - 1) == 0) = false := beq_false_of_ne (by omega)
            go_wp2_with (go_at_call 139; first | (refine H1.out.mono ?_; rintro E w' ⟨rfl, rfl⟩) | (refine H2.out.mono ?_; rintro E w' ⟨rfl, rfl⟩))
            go_roundg (s.size - (q + 2) + 1)
            case measure => omega
            case rel => exact ⟨q + 2, n - 1, by omega, by omega, rfl, by go_num, Lib.hid ⟨HR.out.1.set1 _ (by omega), HR.out.2.set _ _ rfl, .inr ⟨by have := HN2.out.1; omega, by omega, by unfold BlkAt; rw [HB.out, if_neg (by omega)]⟩⟩⟩
        · rw [At2.no h2] at hp2
          have H2 := Lib.hid hp2
          have HB := Lib.hid (show blkL 1 (rsB s (p + 2)) = blkL n (rsB s (q + 1)) by
            have c := HN2.out.2.2
            unfold BlkAt at c
            have e : s.data.toList[q]? = some s[q] := List.getElem?_eq_getElem (by simpa using hlt)
            rw [c, rsB_cons hlt, blkL_other _ _ _ (fun h => h1 ⟨by rw [e, h.1], by rw [← rsB_head]; exact h.2⟩) (fun h => h2 ⟨by rw [e, h.1], by rw [← rsB_head]; exact h.2⟩)])
          clear hp2 h1 h2
          have hne : ((n : Int) == 0) = false := beq_false_of_ne (by omega)
          go_wp2_with (go_at_call 139; first | (refine H1.out.mono ?_; rintro E w' ⟨rfl, rfl⟩) | (refine H2.out.mono ?_; rintro E w' ⟨rfl, rfl⟩))
          go_roundg (s.size - (q + 1) + 1)
          case measure => omega
          case rel => exact ⟨q + 1, n, by omega, by omega, rfl, rfl, Lib.hid ⟨HR.out.1.set1 _ (by omega), HR.out.2.set _ _ rfl, .inr ⟨by have := HN2.out.1; omega, by omega, HB.out⟩⟩⟩
    · obtain rfl : q = s.size := by omega
      have HN2 := Lib.hid (show BlkAt s p s.size n by
          rcases HR.out.2.2 with ⟨h, _⟩ | h
          · omega
          · exact h.2.2)
      go_wp2_with fail
      go_quiet (fail)
      have H1 := Lib.hid (fail_any (HR.out.1.drewN nq) 4 p)
      go_wp2_with (go_at_call 163; refine H1.out.mono ?_; rintro E w' ⟨rfl, hr, hk⟩)
      go_ret
      refine ⟨(HR.out.2.1.drewN nq).trans hk, .inr ⟨?_, rfl, hr⟩⟩
      have c := HN2.out
      unfold BlkAt at c
      rw [c, rsB_end (Nat.le_refl _)]
      rfl
end
end Go.Proofs.YtlohdglhebplfaaGreatDoor
