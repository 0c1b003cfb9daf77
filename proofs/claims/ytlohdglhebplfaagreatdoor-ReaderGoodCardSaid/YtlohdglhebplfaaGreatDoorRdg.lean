/-
  The reader: broken lines, and escapes.
-/
import Derived.Test.YtlohdglhebplfaaGreatDoorRdf
namespace Go.Proofs.YtlohdglhebplfaaGreatDoor
open Go.RowKit

theorem drop_take_len (f : UInt8 → Bool) : ∀ l : By, (l.dropWhile f).length + (l.takeWhile f).length = l.length
  | [] => rfl
  | c :: l => by
    have := drop_take_len f l
    cases h : f c <;> simp [List.dropWhile_cons, List.takeWhile_cons, h] <;> omega
theorem blanksL_len (l : By) : (Lib.trimLeftS l [32, 9]).length + blanksL l = l.length := by
  have h := drop_take_len (fun c => c == 32 || c == 9) l
  have e : (fun c : UInt8 => ([32, 9] : List UInt8).contains c) = fun c => c == 32 || c == 9 := by
    funext c; simp only [List.contains_cons, List.contains_nil, Bool.or_false]
  unfold Lib.trimLeftS blanksL
  rw [e]
  exact h
set_option maxHeartbeats 1600000 in
theorem blanks_any (s : ByteArray) (hs : s.size ≤ 16384) (w : World) : Calls Tryz.prog 259 #[.string s] w fun e w' => e = .returned (.int .i64 (blanksL s.data.toList : Nat)) ∧ Below w.heap.size w w' := by
  have hc := trimSet_any s ⟨#[32, 9]⟩ w (by decide) (fun j b h => by
    match j with
    | 0 => obtain rfl : (32 : UInt8) = b := Option.some.inj h; decide
    | 1 => obtain rfl : (9 : UInt8) = b := Option.some.inj h; decide
    | j + 2 => simp at h)
  have hl := blanksL_len s.data.toList
  have hsz : s.data.toList.length = s.size := by simp
  have ht : (⟨(Lib.trimLeftS s.data.toList [32, 9]).toArray⟩ : ByteArray).size = (Lib.trimLeftS s.data.toList [32, 9]).length := rfl
  have hxe : (⟨#[32, 9]⟩ : ByteArray).data.toList = [32, 9] := rfl
  rw [hxe] at hc
  generalize (⟨(Lib.trimLeftS s.data.toList [32, 9]).toArray⟩ : ByteArray) = t at *
  generalize blanksL s.data.toList = b at *
  have HC := Lib.hid hc
  have hts : t.size + b = s.size := by omega
  clear hc hl hsz ht hxe
  go_enter Tryz.func259, Tryz.ntmps259
  go_wp2_with (go_at_call 268; refine HC.out.mono ?_; rintro E w' ⟨rfl, hb⟩)
  go_ret
  exact ⟨congrArg (fun x => Ending.returned (.int .i64 x)) (by omega), hb⟩
theorem blanksL_le (l : By) : blanksL l ≤ l.length := by have := blanksL_len l; omega
theorem brokenL_eq {l : By} {b : Nat} (hb : blanksL (l.drop 1) = b) : brokenL l = if l[1 + b]? = some 10 then 1 + b + 1 + blanksL (l.drop (1 + b + 1)) else 0 := by
  unfold brokenL; rw [hb]
set_option maxRecDepth 100000 in
set_option maxHeartbeats 3200000 in
theorem brokenLine_any (s : ByteArray) (h1 : 1 ≤ s.size) (hs : s.size ≤ 16384) (w : World) : Calls Tryz.prog 241 #[.string s] w fun e w' => e = .returned (.int .i64 (brokenL s.data.toList : Nat)) ∧ Below w.heap.size w w' := by
  have hb1 := fun W => blanks_any (s.extract 1 s.size) (by rw [ByteArray.size_extract]; omega) W
  have hbl := blanksL_le (s.data.toList.drop 1)
  obtain ⟨b, hb⟩ : ∃ b, blanksL (s.data.toList.drop 1) = b := ⟨_, rfl⟩
  have he := brokenL_eq hb
  have hex := rsB_extract s 1
  unfold rsB at hex
  rw [hex, hb] at hb1
  rw [hb, List.length_drop] at hbl
  have hbl2 : 1 + b ≤ s.size := by simp at hbl; omega
  have HB1 := Lib.hid hb1
  have HE := Lib.hid he
  clear hb1 hb he hex hbl
  by_cases hlt : 1 + b < s.size
  · by_cases h10 : s[1 + b] = 10
    · have hbe : ((s[1 + b].toNat : Int) == 10) = true := by rw [h10]; rfl
      have hb2 := fun W => blanks_any (s.extract (1 + b + 1) s.size) (by rw [ByteArray.size_extract]; omega) W
      have hex := rsB_extract s (1 + b + 1)
      unfold rsB at hex
      rw [hex] at hb2
      have hbl3 := blanksL_le (s.data.toList.drop (1 + b + 1))
      rw [List.length_drop] at hbl3
      have hbl4 : blanksL (s.data.toList.drop (1 + b + 1)) ≤ 16384 := by simp at hbl3; omega
      have HE2 := Lib.hid (show brokenL s.data.toList = 1 + b + 1 + blanksL (s.data.toList.drop (1 + b + 1)) by
        rw [HE.out, if_pos (by rw [List.getElem?_eq_getElem (by simpa using hlt)]; exact congrArg some h10)])
      have HB2 := Lib.hid hb2
      generalize blanksL (s.data.toList.drop (1 + b + 1)) = b2 at *
      have hne : ((1 + (b : Int)) == (s.size : Int)) = false := beq_false_of_ne (by omega)
      clear hb2 hex hbl3 h10
      go_enter Tryz.func241, Tryz.ntmps241
      go_wp2_with (go_at_call 259; first | (refine (HB1.out _).mono ?_; rintro E w' ⟨rfl, hw1⟩) | (refine (HB2.out _).mono ?_; rintro E w'' ⟨rfl, hw2⟩))
      go_ret
      exact ⟨by rw [HE2.out]; exact congrArg (fun x => Ending.returned (.int .i64 x)) (by omega), bnext hw1 hw2⟩
    · have hbe : ((s[1 + b].toNat : Int) == 10) = false := byte_ne (b := 10) h10
      have HE2 := Lib.hid (show brokenL s.data.toList = 0 by
        rw [HE.out, if_neg (by rw [List.getElem?_eq_getElem (by simpa using hlt)]; intro h; exact h10 (Option.some.inj h))])
      have hne : ((1 + (b : Int)) == (s.size : Int)) = false := beq_false_of_ne (by omega)
      clear h10
      go_enter Tryz.func241, Tryz.ntmps241
      go_wp2_with (go_at_call 259; refine (HB1.out _).mono ?_; rintro E w' ⟨rfl, hw1⟩)
      go_ret
      exact ⟨by rw [HE2.out]; rfl, hw1⟩
  · have HE2 := Lib.hid (show brokenL s.data.toList = 0 by
      rw [HE.out, if_neg (by rw [List.getElem?_eq_none (by simp; omega)]; intro h; cases h)])
    have hne : ((1 + (b : Int)) == (s.size : Int)) = true := by simp; omega
    have hne2 : (1 : Int) + (b : Int) = (s.size : Int) := by omega
    go_enter Tryz.func241, Tryz.ntmps241
    go_wp2_with (go_at_call 259; refine (HB1.out _).mono ?_; rintro E w' ⟨rfl, hw1⟩)
    go_ret
    exact ⟨by rw [HE2.out]; rfl, hw1⟩
end Go.Proofs.YtlohdglhebplfaaGreatDoor
