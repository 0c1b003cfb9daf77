/-
  The reader: blanks, marks, what stands here.
-/
import Derived.Test.YtlohdglhebplfaaGreatDoorRda
import Derived.Test.YtlohdglhebplfaaGreatDoorRds
import Derived.Test.YtlohdglhebplfaaGreatDoorShf
namespace Go.Proofs.YtlohdglhebplfaaGreatDoor
open Go.RowKit

section

theorem beq_u8 (c d : UInt8) : (c == d) = (c.toNat == d.toNat) := by
  by_cases h : c = d
  · subst h; simp
  · have h1 : (c == d) = false := beq_false_of_ne h
    have h2 : (c.toNat == d.toNat) = false := beq_false_of_ne fun e => h (UInt8.toNat_inj.1 e)
    rw [h1, h2]
theorem isBl_nat (c : UInt8) : isBl c = (c.toNat == 32 || c.toNat == 9 || c.toNat == 10 || c.toNat == 13 || c.toNat == 12) := by
  simp only [isBl, beq_u8]; rfl
theorem int_beq (a b : Nat) : (((a : Nat) : Int) == ((b : Nat) : Int)) = (a == b) := by
  by_cases h : a = b
  · subst h; simp
  · have h1 : (a == b) = false := beq_false_of_ne h
    have h2 : (((a : Nat) : Int) == ((b : Nat) : Int)) = false := beq_false_of_ne fun e => h (by omega)
    rw [h1, h2]

set_option maxHeartbeats 1600000 in
theorem isBlank_any (c : UInt8) (w : World) : Calls Tryz.prog 137 #[.int .u8 (c.toNat : Int)] w fun e w' => e = .returned (.bool (isBl c)) ∧ w = w' := by
  rw [isBl_nat]
  generalize c.toNat = n
  have e0 := int_beq n 32; have e1 := int_beq n 9; have e2 := int_beq n 10; have e3 := int_beq n 13; have e4 := int_beq n 12
  rw [← e0, ← e1, ← e2, ← e3, ← e4]
  have E := Lib.hid True.intro
  clear e0 e1 e2 e3 e4
  go_enter Tryz.func137, Tryz.ntmps137
  go_wp2
  all_goals (go_ret; refine ⟨?_, rfl⟩; simp_all)

/-- The table of the bytes that end an atom lies where it is laid. -/
def MkT (w : World) : Prop := ∃ t, w.heap[1]? = some (.cells #[.int .u8 40, .int .u8 41, .int .u8 91, .int .u8 93, .int .u8 34, .int .u8 59, .int .u8 39, .int .u8 96, .int .u8 44, .int .u8 124] t (0, 0))
theorem MkT.keep {w w' : World} (h : MkT w) (hk : ∀ k, k < w.heap.size → w'.heap[k]? = w.heap[k]?) : MkT w' := by
  obtain ⟨t, h⟩ := h
  exact ⟨t, (hk _ (Array.getElem?_eq_some_iff.1 h).1).trans h⟩
def mkN : List Nat := [40, 41, 91, 93, 34, 59, 39, 96, 44, 124]
def isMkN (n : Nat) : Bool := mkN.contains n
theorem isMk_nat (c : UInt8) : isMk c = isMkN c.toNat := by
  simp only [isMk, beq_u8, isMkN, mkN, List.contains_cons, List.contains_nil, Bool.or_false, Bool.or_assoc]; rfl
theorem mk_at (k : Nat) (hk : k < 10) : (#[Value.int .u8 40, .int .u8 41, .int .u8 91, .int .u8 93, .int .u8 34, .int .u8 59, .int .u8 39, .int .u8 96, .int .u8 44, .int .u8 124] : Array Value)[k]? = some (.int .u8 ((mkN.getD k 0 : Nat) : Int)) := by
  have h : ∀ j, j < 10 → (#[Value.int .u8 40, .int .u8 41, .int .u8 91, .int .u8 93, .int .u8 34, .int .u8 59, .int .u8 39, .int .u8 96, .int .u8 44, .int .u8 124] : Array Value)[j]? = some (.int .u8 ((mkN.getD j 0 : Nat) : Int)) := by
    intro j hj
    match j, hj with
    | 0, _ | 1, _ | 2, _ | 3, _ | 4, _ | 5, _ | 6, _ | 7, _ | 8, _ | 9, _ => rfl
    | j + 10, hj => omega
  exact h k hk
theorem mkN_iff (n : Nat) : isMkN n = true ↔ ∃ k, k < 10 ∧ mkN.getD k 0 = n := by
  unfold isMkN
  rw [List.contains_iff_mem, List.mem_iff_getElem]
  constructor
  · rintro ⟨k, hk, e⟩
    exact ⟨k, hk, by rw [List.getD_eq_getElem?_getD, List.getElem?_eq_getElem hk]; exact e⟩
  · rintro ⟨k, hk, e⟩
    exact ⟨k, hk, by rw [List.getD_eq_getElem?_getD, List.getElem?_eq_getElem (show k < mkN.length from hk)] at e; exact e⟩
theorem run_mark (A : Array Value) (k : Nat) (x : Int) (w : World) (hk : k < 10) (h : A[k]? = some (.int .u8 x)) : (Instr.index 240 (.agg A) (.int .i64 (k : Int))).run Tryz.prog w = .ok (.int .u8 x) w := by
  simp [Instr.index, asIntOf, part, Sem.run_bind, run_underlying Tryz.underlying240, go_sem, h, hk]

set_option maxRecDepth 100000 in
set_option maxHeartbeats 6400000 in
theorem isMark_any (c : UInt8) (w : World) (ht : MkT w) : Calls Tryz.prog 210 #[.int .u8 (c.toNat : Int)] w fun e w' => e = .returned (.bool (isMk c)) ∧ w = w' := by
  rw [isMk_nat]
  have hn : c.toNat < 256 := UInt8.toNat_lt _
  generalize c.toNat = n at *
  obtain ⟨t, ht⟩ := ht
  have hc := fun j => Lib.cell_of_heap ht j
  have c0 := hc 0; have c1 := hc 1; have c2 := hc 2; have c3 := hc 3; have c4 := hc 4; have c5 := hc 5; have c6 := hc 6; have c7 := hc 7; have c8 := hc 8; have c9 := hc 9
  simp only [List.getElem?_toArray, List.getElem?_cons_zero, List.getElem?_cons_succ] at c0 c1 c2 c3 c4 c5 c6 c7 c8 c9
  clear ht hc
  go_enter Tryz.func210, Tryz.ntmps210
  go_wp2
  clear c0 c1 c2 c3 c4 c5 c6 c7 c8 c9
  have hat := Lib.hid mk_at
  generalize hA : (#[Value.int .u8 40, .int .u8 41, .int .u8 91, .int .u8 93, .int .u8 34, .int .u8 59, .int .u8 39, .int .u8 96, .int .u8 44, .int .u8 124] : Array Value) = A at *
  have hAs : A.size = 10 := by rw [← hA]; rfl
  clear hA
  go_loop [6] (fun i => ∃ k : Nat, k ≤ 10 ∧ i = .int .i64 k ∧ ∀ j, j < k → mkN.getD j 0 ≠ n) (fun i => 10 - (intOf i).toNat)
  case atStart => exact ⟨0, Nat.zero_le _, rfl, fun j hj => by omega⟩
  case round =>
    obtain ⟨k, hk, rfl, hne⟩ := hrel
    have HN := Lib.hid hne
    clear hne
    by_cases hlt : k < 10
    · have hak := hat.out k hlt
      by_cases he : mkN.getD k 0 = n
      · have HP := Lib.hid ((mkN_iff n).2 ⟨k, hlt, he⟩)
        rw [he] at hak
        have hrun := run_mark A k (n : Int) w hlt hak
        clear he hak
        go_wp2
        go_ret
        exact ⟨by rw [HP.out]; rfl, rfl⟩
      · have hne2 : ∀ j, j < k + 1 → mkN.getD j 0 ≠ n := fun j hj => by
          rcases Nat.lt_succ_iff_lt_or_eq.1 hj with h | rfl
          · exact HN.out j h
          · exact he
        have HM := Lib.hid hne2
        generalize mkN.getD k 0 = x at *
        have hx : ((n : Int) == (x : Int)) = false := by simp; omega
        have hrun := run_mark A k (x : Int) w hlt hak
        clear hne2 he hak
        go_wp2
        go_round
        case rel => exact ⟨k + 1, by omega, by go_num, HM.out⟩
        case measure => simp [intOf]; omega
    · obtain rfl : k = 10 := by omega
      have hns : isMkN n = false := by
        cases h : isMkN n with
        | false => rfl
        | true => obtain ⟨j, hj, e⟩ := (mkN_iff n).1 h; exact absurd e (HN.out j hj)
      have HS := Lib.hid hns
      clear hns
      go_wp2
      go_ret
      exact ⟨by rw [HS.out]; rfl, rfl⟩
end

section

section
variable {w : World} {R p k : Nat} {s : ByteArray} {x : Int}
theorem byte_ne {a b : UInt8} (h : a ≠ b) : ((a.toNat : Int) == (b.toNat : Int)) = false := beq_false_of_ne fun e => h (UInt8.toNat_inj.1 (by omega))

set_option maxRecDepth 100000 in
set_option maxHeartbeats 3200000 in
theorem has_yes (h : Rdr w R s p x k) (hp : p < s.size) (hs : s.size ≤ 16384) (c : UInt8) (hc : s[p] = c) : Calls Tryz.prog 164 #[.pointer (some ⟨R, 0, none⟩), .int .u8 (c.toNat : Int)] w fun E w' => E = .returned (.bool true) ∧ Rdr w' R s (p + 1) x k ∧ Kept R w w' := by
  subst hc
  obtain ⟨c0, c1, c2, c3⟩ := h.c
  obtain ⟨f1, f2, f3⟩ := h.f
  have hne : decide ((p : Int) = (s.size : Int)) = false := by simp; omega
  have hne2 : ((p : Int) == (s.size : Int)) = false := beq_false_of_ne (by omega)
  have H := Lib.hid h
  clear h
  go_enter Tryz.func164, Tryz.ntmps164
  go_wp2_with fail
  go_quiet (fail)
  have H2 := H.out.drewN nq
  obtain ⟨c0, c1, c2, c3⟩ := H2.c
  obtain ⟨f1, f2, f3⟩ := H2.f
  have HD := Lib.hid H2
  clear H2
  go_wp2_with fail
  go_ret
  exact ⟨rfl, HD.out.set1 _ (by omega), (Kept.rfl' R w).drewN nq |>.set _ _ rfl⟩
set_option maxRecDepth 100000 in
set_option maxHeartbeats 3200000 in
theorem has_end (h : Rdr w R s p x k) (hp : p = s.size) (c : UInt8) : Calls Tryz.prog 164 #[.pointer (some ⟨R, 0, none⟩), .int .u8 (c.toNat : Int)] w fun E w' => E = .returned (.bool false) ∧ Rdr w' R s p x k ∧ Kept R w w' := by
  obtain ⟨c0, c1, c2, c3⟩ := h.c
  have hne : decide ((p : Int) = (s.size : Int)) = true := by simp; omega
  have hne2 : ((p : Int) == (s.size : Int)) = true := by simp; omega
  have H := Lib.hid h
  clear h
  go_enter Tryz.func164, Tryz.ntmps164
  go_wp2_with fail
  go_quiet (fail)
  go_wp2_with fail
  go_ret
  exact ⟨rfl, H.out.drewN nq, (Kept.rfl' R w).drewN nq⟩
set_option maxRecDepth 100000 in
set_option maxHeartbeats 3200000 in
theorem has_other (h : Rdr w R s p x k) (hp : p < s.size) (hs : s.size ≤ 16384) (c : UInt8) (hc : s[p] ≠ c) : Calls Tryz.prog 164 #[.pointer (some ⟨R, 0, none⟩), .int .u8 (c.toNat : Int)] w fun E w' => E = .returned (.bool false) ∧ Rdr w' R s p x k ∧ Kept R w w' := by
  have hb := byte_ne hc
  obtain ⟨c0, c1, c2, c3⟩ := h.c
  have hne : decide ((p : Int) = (s.size : Int)) = false := by simp; omega
  have hne2 : ((p : Int) == (s.size : Int)) = false := beq_false_of_ne (by omega)
  have H := Lib.hid h
  clear h hc
  go_enter Tryz.func164, Tryz.ntmps164
  go_wp2_with fail
  go_quiet (fail)
  go_wp2_with fail
  go_ret
  exact ⟨rfl, H.out.drewN nq, (Kept.rfl' R w).drewN nq⟩
/-- Whether that mark stands here. -/
theorem has_no (h : Rdr w R s p x k) (hp : p ≤ s.size) (hs : s.size ≤ 16384) (c : UInt8) (hc : ¬ (rsB s p).head? = some c) : Calls Tryz.prog 164 #[.pointer (some ⟨R, 0, none⟩), .int .u8 (c.toNat : Int)] w fun E w' => E = .returned (.bool false) ∧ Rdr w' R s p x k ∧ Kept R w w' := by
  by_cases hl : p < s.size
  · exact has_other h hl hs c fun e => hc (by rw [rsB_cons hl, e]; rfl)
  · exact has_end h (by omega) c
theorem has_head (h : Rdr w R s p x k) (hs : s.size ≤ 16384) (c : UInt8) (hc : (rsB s p).head? = some c) : Calls Tryz.prog 164 #[.pointer (some ⟨R, 0, none⟩), .int .u8 (c.toNat : Int)] w fun E w' => E = .returned (.bool true) ∧ Rdr w' R s (p + 1) x k ∧ Kept R w w' := by
  by_cases hl : p < s.size
  · rw [rsB_cons hl] at hc
    exact has_yes h hl hs c (Option.some.inj hc)
  · rw [rsB_end (by omega)] at hc; cases hc
end
end

section

theorem take_while {f : UInt8 → Bool} : ∀ {l : By} {i : Nat}, (∀ j (h : j < l.length), j < i → f l[j] = true) → (i = l.length ∨ ∃ h : i < l.length, f l[i] = false) → l.takeWhile f = l.take i
  | [], i, _, _ => by simp
  | c :: l, 0, _, h2 => by
    rcases h2 with h2 | ⟨_, h2⟩
    · simp at h2
    · have h3 : f c = false := h2
      simp [List.takeWhile_cons, h3]
  | c :: l, i + 1, h1, h2 => by
    have h3 : f c = true := h1 0 (by simp) (by omega)
    rw [List.takeWhile_cons, if_pos h3, List.take_succ_cons, take_while (i := i) (fun j h hj => h1 (j + 1) (by simpa using h) (by omega)) (by
      rcases h2 with h2 | ⟨h, h2⟩
      · exact .inl (by simpa using h2)
      · exact .inr ⟨by simpa using h, h2⟩)]
theorem rsB_extract (s : ByteArray) (p : Nat) : (s.extract p s.size).data.toList = rsB s p := by
  rw [← Lib.toList_data, Lib.extract_toList]
  rw [List.take_of_length_le (by simp)]; rfl
theorem extract_pre (s : ByteArray) (k : Nat) : (s.extract 0 k).data.toList = s.data.toList.take k := by
  rw [← Lib.toList_data, Lib.extract_toList]
  simp [Lib.toList_data]
theorem bytes_eq {a b : ByteArray} (h : a.data.toList = b.data.toList) : a = b := by
  cases a; cases b; simp only [ByteArray.mk.injEq]; exact Array.toList_inj.1 h
theorem bytesOf_list (l : By) : (bytesOf l).data.toList = l := rfl
theorem bytesOf_size (l : By) : (bytesOf l).size = l.length := rfl

section
variable {w : World} {R p k : Nat} {s : ByteArray} {x : Int}
theorem MkT.kept {w w' : World} {R : Nat} (h : MkT w) (hR : 1 ≠ R) (hk : Kept R w w') : MkT w' := by
  obtain ⟨t, h⟩ := h
  exact ⟨t, (hk.2 _ (Array.getElem?_eq_some_iff.1 h).1 hR).trans h⟩
set_option maxRecDepth 100000 in
set_option maxHeartbeats 3200000 in
theorem ahead_any (h : Rdr w R s p x k) (hm : MkT w) (hp : p ≤ s.size) (hs : s.size ≤ 16384) : Calls Tryz.prog 165 #[.pointer (some ⟨R, 0, none⟩)] w fun E w' => E = .returned (.string (bytesOf (aheadL (rsB s p)))) ∧ ∃ n, w' = w.drewN n := by
  obtain ⟨c0, c1, c2, c3⟩ := h.c
  have H := Lib.hid (And.intro h hm)
  clear h hm
  go_enter Tryz.func165, Tryz.ntmps165
  go_wp2_with fail
  go_quiet (fail)
  have hW : (∃ n, w.drewN nq = w.drewN n) ∧ MkT (w.drewN nq) := ⟨⟨nq, rfl⟩, H.out.2⟩
  have HW := Lib.hid hW
  clear hW c0 c1 c2 c3
  generalize w.drewN nq = W at *
  have ht := rsB_extract s p
  have hn : (s.extract p s.size).size = s.size - p := by rw [ByteArray.size_extract]; omega
  generalize s.extract p s.size = t at *
  have HT := Lib.hid ht
  have hts : t.size ≤ 16384 := by omega
  clear ht hn hp hs
  go_wp2_with fail
  go_loop [16] (fun i => ∃ k : Nat, k ≤ t.size ∧ i = .int .i64 k ∧ ∀ j (h : j < t.data.toList.length), j < k → (!(isBl t.data.toList[j] || isMk t.data.toList[j])) = true) (fun i => t.size - (intOf i).toNat)
  case atStart => exact ⟨0, Nat.zero_le _, rfl, fun j _ hj => by omega⟩
  case round =>
    obtain ⟨k, hk, rfl, hall⟩ := hrel
    have HA := Lib.hid hall
    clear hall
    by_cases hlt : k < t.size
    · have e : t.data.toList[k]'(by simpa using hlt) = t[k] := rfl
      have hb := isBlank_any t[k] W
      have hc := isMark_any t[k] W HW.out.2
      cases hbl : isBl t[k] with
      | true =>
        rw [hbl] at hb
        have HB := Lib.hid hb
        have HE := Lib.hid (take_while (f := fun c => !(isBl c || isMk c)) (l := t.data.toList) (i := k) HA.out (.inr ⟨by simpa using hlt, by rw [e, hbl]; rfl⟩))
        clear hb hc hbl e
        go_wp2_with (go_at_call 137; refine HB.out.mono ?_; rintro E w' ⟨rfl, rfl⟩)
        go_ret
        refine ⟨?_, HW.out.1⟩
        show Ending.returned (.string (t.extract 0 k)) = _
        rw [show t.extract 0 k = bytesOf (aheadL (rsB s p)) from bytes_eq (by rw [extract_pre, bytesOf_list, ← HT.out]; exact HE.out.symm)]
      | false =>
        rw [hbl] at hb
        have HB := Lib.hid hb
        cases hmk : isMk t[k] with
        | true =>
          rw [hmk] at hc
          have HC := Lib.hid hc
          have HE := Lib.hid (take_while (f := fun c => !(isBl c || isMk c)) (l := t.data.toList) (i := k) HA.out (.inr ⟨by simpa using hlt, by rw [e, hbl, hmk]; rfl⟩))
          clear hb hc hbl hmk e
          go_wp2_with (first | (go_at_call 137; refine HB.out.mono ?_; rintro E w' ⟨rfl, rfl⟩) | (go_at_call 210; refine HC.out.mono ?_; rintro E w' ⟨rfl, rfl⟩))
          go_ret
          refine ⟨?_, HW.out.1⟩
          show Ending.returned (.string (t.extract 0 k)) = _
          rw [show t.extract 0 k = bytesOf (aheadL (rsB s p)) from bytes_eq (by rw [extract_pre, bytesOf_list, ← HT.out]; exact HE.out.symm)]
        | false =>
          rw [hmk] at hc
          have HC := Lib.hid hc
          have HN := Lib.hid (show ∀ j (h : j < t.data.toList.length), j < k + 1 → (!(isBl t.data.toList[j] || isMk t.data.toList[j])) = true from fun j h hj => by
            by_cases hjk : j = k
            · subst hjk; rw [e, hbl, hmk]; rfl
            · exact HA.out j h (by omega))
          clear hb hc hbl hmk e
          go_wp2_with (first | (go_at_call 137; refine HB.out.mono ?_; rintro E w' ⟨rfl, rfl⟩) | (go_at_call 210; refine HC.out.mono ?_; rintro E w' ⟨rfl, rfl⟩))
          go_round
          case rel => exact ⟨k + 1, by omega, by go_num, HN.out⟩
          case measure => simp [intOf]; omega
    · obtain rfl : k = t.size := by omega
      have HE := Lib.hid (take_while (f := fun c => !(isBl c || isMk c)) (l := t.data.toList) (i := t.size) HA.out (.inl (by simp)))
      go_wp2_with fail
      go_ret
      refine ⟨?_, HW.out.1⟩
      show Ending.returned (.string t) = _
      rw [show t = bytesOf (aheadL (rsB s p)) from bytes_eq (by rw [bytesOf_list, ← HT.out, show aheadL t.data.toList = t.data.toList.take t.size from HE.out, List.take_of_length_le (by simp)])]
end
end
end Go.Proofs.YtlohdglhebplfaaGreatDoor
