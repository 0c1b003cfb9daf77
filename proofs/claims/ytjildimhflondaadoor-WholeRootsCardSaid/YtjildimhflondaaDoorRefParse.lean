/-
  The document's own digit and Parse (pavaneref01): what they answer.
-/
import Derived.Test.YtjildimhflondaaDoorRefDiv
import Derived.Test.YtjildimhflondaaDoorDig2
namespace Go.Proofs.YtjildimhflondaaDoor
open Go.RowKit

/-- A digit's number; -1: it is none. -/
def rdg (c : Nat) : Int := if digN c = 36 then -1 else (digN c : Int)
set_option maxHeartbeats 1600000 in
theorem rdigit_any (c : Nat) (hc : c ≤ 255) (w : World) : Calls Tryd.prog 94 #[.int .u8 (c : Int)] w fun e w' => e = .returned (.int .i64 (rdg c)) ∧ w = w' := by
  rcases (show c < 48 ∨ (48 ≤ c ∧ c ≤ 57) ∨ (58 ≤ c ∧ c < 65) ∨ (65 ≤ c ∧ c ≤ 90) ∨ (91 ≤ c ∧ c < 97) ∨ (97 ≤ c ∧ c ≤ 122) ∨ 123 ≤ c by omega) with h | h | h | h | h | h | h
  · have hd := Lib.hid (show rdg c = -1 by
      have e : digN c = 36 := by unfold digN; rw [if_neg (by omega), if_neg (by omega), if_neg (by omega)]
      unfold rdg; rw [if_pos e])
    go_enter Tryd.func94, Tryd.ntmps94
    go_wp2_with fail
    go_ret
    exact ⟨by rw [hd.out]; rfl, rfl⟩
  · have hd := Lib.hid (show rdg c = (c : Int) - 48 by
      have e : digN c = c - 48 := by unfold digN; rw [if_pos (by omega)]
      unfold rdg; rw [e, if_neg (by omega)]; omega)
    obtain ⟨h, h'⟩ := h
    go_enter Tryd.func94, Tryd.ntmps94
    go_wp2_with fail
    go_ret
    exact ⟨by rw [hd.out]; exact congrArg (fun x => Ending.returned (.int .i64 x)) (by omega), rfl⟩
  · have hd := Lib.hid (show rdg c = -1 by
      have e : digN c = 36 := by unfold digN; rw [if_neg (by omega), if_neg (by omega), if_neg (by omega)]
      unfold rdg; rw [if_pos e])
    obtain ⟨h, h'⟩ := h
    go_enter Tryd.func94, Tryd.ntmps94
    go_wp2_with fail
    go_ret
    exact ⟨by rw [hd.out]; rfl, rfl⟩
  · have hd := Lib.hid (show rdg c = (c : Int) - 55 by
      have e : digN c = c - 55 := by unfold digN; rw [if_neg (by omega), if_neg (by omega), if_pos (by omega)]
      unfold rdg; rw [e, if_neg (by omega)]; omega)
    obtain ⟨h, h'⟩ := h
    go_enter Tryd.func94, Tryd.ntmps94
    go_wp2_with fail
    go_ret
    exact ⟨by rw [hd.out]; exact congrArg (fun x => Ending.returned (.int .i64 x)) (by omega), rfl⟩
  · have hd := Lib.hid (show rdg c = -1 by
      have e : digN c = 36 := by unfold digN; rw [if_neg (by omega), if_neg (by omega), if_neg (by omega)]
      unfold rdg; rw [if_pos e])
    obtain ⟨h, h'⟩ := h
    go_enter Tryd.func94, Tryd.ntmps94
    go_wp2_with fail
    go_ret
    exact ⟨by rw [hd.out]; rfl, rfl⟩
  · have hd := Lib.hid (show rdg c = (c : Int) - 87 by
      have e : digN c = c - 87 := by unfold digN; rw [if_neg (by omega), if_pos (by omega)]
      unfold rdg; rw [e, if_neg (by omega)]; omega)
    obtain ⟨h, h'⟩ := h
    go_enter Tryd.func94, Tryd.ntmps94
    go_wp2_with fail
    go_ret
    exact ⟨by rw [hd.out]; exact congrArg (fun x => Ending.returned (.int .i64 x)) (by omega), rfl⟩
  · have hd := Lib.hid (show rdg c = -1 by
      have e : digN c = 36 := by unfold digN; rw [if_neg (by omega), if_neg (by omega), if_neg (by omega)]
      unfold rdg; rw [if_pos e])
    go_enter Tryd.func94, Tryd.ntmps94
    go_wp2_with fail
    go_ret
    exact ⟨by rw [hd.out]; rfl, rfl⟩
theorem numB_bd (b : Nat) (hb : b ≤ 36) (s : ByteArray) (k : Nat) (hk : k ≤ s.size) : numB b (s.data.toList.take k) < 4294967296 ^ s.size := Nat.lt_of_lt_of_le (numB_lt b hb s k hk) (Nat.pow_le_pow_right (by decide) hk)

set_option maxHeartbeats 3200000 in
theorem rparse_yes (s : ByteArray) (b : Nat) (w : World) (h2 : 2 ≤ b) (h36 : b ≤ 36) (hs1 : 1 ≤ s.size) (hs2 : s.size ≤ 1000) (hgood : ∀ k (h : k < s.size), digN s[k].toNat < b) :
    Calls Tryd.prog 77 #[.string s, .int .i64 (b : Int)] w fun e w' => ∃ v, e = .returned (.tuple #[v, .bool true]) ∧ New w' w.heap.size v (limbs (numB b s.data.toList)) ∧ Below w.heap.size w w' := by
  have HG := Lib.hid hgood
  clear hgood
  have HX0 := Lib.hid ((own_lit0 w w.heap.size (Nat.le_refl _)).new)
  go_enter Tryd.func77, Tryd.ntmps77
  go_wp2_with fail
  go_loopw [6, 7] (fun v i wr => ∃ k : Nat, k ≤ s.size ∧ i = .int .i64 k ∧ New wr w.heap.size v (limbs (numB b (s.data.toList.take k))) ∧ Below w.heap.size w wr) (fun _ i _ => s.size - (intOf i).toNat)
  case atStart => exact ⟨0, by omega, rfl, HX0.out, bnew (Below.refl _ _) _⟩
  case round =>
    obtain ⟨k, hk, rfl, hx, hbel⟩ := hrel
    by_cases hks : k < s.size
    · have hd := HG.out k hks
      have l1 := numB_bd b h36 s k (by omega)
      have n1 := (hx.num s.size l1).alloc (.cells #[Value.int .u32 (b : Int)] 32)
      have n2 := lit1_num wr b (by omega)
      have l2 : numB b (s.data.toList.take k) * b < 4294967296 ^ (s.size + 1) := lt_mul (L := 1) l1 (by omega)
      have HE := Lib.hid (show numB b (s.data.toList.take (k + 1)) = numB b (s.data.toList.take k) * b + digN s[k].toNat by rw [bytes_snoc s k hks, numB_snoc])
      have hrd : rdg s[k].toNat = (digN s[k].toNat : Int) := by unfold rdg; rw [if_neg (by omega)]
      have hc255 : s[k].toNat ≤ 255 := by have := UInt8.toNat_lt s[k]; omega
      have hdc := rdigit_any s[k].toNat hc255 wr
      rw [hrd] at hdc
      have HDC := Lib.hid hdc
      have HSZ := Lib.hid hbel.size
      generalize numB b (s.data.toList.take k) = m at *
      generalize digN s[k].toNat = dg at *
      clear hdc hrd hx
      go_wp2_with fail
      refine HDC.out.mono ?_
      rintro e w' ⟨rfl, rfl⟩
      go_wp2_with fail
      refine (rmul_num n1 n2 (by omega) (by omega)).mono ?_
      rintro e w2 ⟨v2, rfl, x2, b2⟩
      have n3 := (x2.num (s.size + 1) l2).alloc (.cells #[Value.int .u32 (dg : Int)] 32)
      have n4 := lit1_num w2 dg (by omega)
      replace hbel := bnew (bnext (bnew hbel (.cells #[Value.int .u32 (b : Int)] 32)) b2) (.cells #[Value.int .u32 (dg : Int)] 32)
      have hbs := b2.size
      clear n1 n2 x2
      go_wp2_with fail
      refine (radd_num n3 n4 (by omega) (by omega)).mono ?_
      rintro e w3 ⟨v3, rfl, x3, b3⟩
      have x4 := x3.from_ (base' := w.heap.size) hbel.size
      replace hbel := bnext hbel b3
      go_wp2_with fail
      go_roundw
      case rel => exact ⟨k + 1, by omega, by go_num, by rw [HE.out]; exact x4, hbel⟩
      case measure => simp [intOf]; omega
    · obtain rfl : k = s.size := by omega
      have hn := Lib.hid hx
      clear hx
      go_wp2_with fail
      go_ret2
      have := hn.out
      rw [List.take_of_length_le (by simp)] at this
      exact ⟨_, rfl, this, hbel⟩
set_option maxHeartbeats 3200000 in
theorem rparse_bad (s : ByteArray) (b : Nat) (w : World) (h2 : 2 ≤ b) (h36 : b ≤ 36) (hs1 : 1 ≤ s.size) (hs2 : s.size ≤ 1000) (j : Nat) (hj : j < s.size) (hbad : b ≤ digN s[j].toNat) :
    Calls Tryd.prog 77 #[.string s, .int .i64 (b : Int)] w fun e w' => e = .returned (.tuple #[.slice none 0 0, .bool false]) ∧ Below w.heap.size w w' := by
  have HB := Lib.hid hbad
  clear hbad
  have HX0 := Lib.hid ((own_lit0 w w.heap.size (Nat.le_refl _)).new)
  go_enter Tryd.func77, Tryd.ntmps77
  go_wp2_with fail
  go_loopw [6, 7] (fun v i wr => ∃ k : Nat, k ≤ j ∧ i = .int .i64 k ∧ New wr w.heap.size v (limbs (numB b (s.data.toList.take k))) ∧ Below w.heap.size w wr) (fun _ i _ => s.size - (intOf i).toNat)
  case atStart => exact ⟨0, by omega, rfl, HX0.out, bnew (Below.refl _ _) _⟩
  case round =>
    obtain ⟨k, hk, rfl, hx, hbel⟩ := hrel
    have hks : k < s.size := by omega
    have hd36 := digN_le s[k].toNat
    by_cases hd : digN s[k].toNat < b
    · have hkj : k < j := by
        rcases Nat.lt_or_ge k j with h | h
        · exact h
        · obtain rfl : k = j := by omega
          have := HB.out
          omega
      have l1 := numB_bd b h36 s k (by omega)
      have n1 := (hx.num s.size l1).alloc (.cells #[Value.int .u32 (b : Int)] 32)
      have n2 := lit1_num wr b (by omega)
      have l2 : numB b (s.data.toList.take k) * b < 4294967296 ^ (s.size + 1) := lt_mul (L := 1) l1 (by omega)
      have HE := Lib.hid (show numB b (s.data.toList.take (k + 1)) = numB b (s.data.toList.take k) * b + digN s[k].toNat by rw [bytes_snoc s k hks, numB_snoc])
      have hrd : rdg s[k].toNat = (digN s[k].toNat : Int) := by unfold rdg; rw [if_neg (by omega)]
      have hc255 : s[k].toNat ≤ 255 := by have := UInt8.toNat_lt s[k]; omega
      have hdc := rdigit_any s[k].toNat hc255 wr
      rw [hrd] at hdc
      have HDC := Lib.hid hdc
      have HSZ := Lib.hid hbel.size
      generalize numB b (s.data.toList.take k) = m at *
      generalize digN s[k].toNat = dg at *
      clear hdc hrd hx
      go_wp2_with fail
      refine HDC.out.mono ?_
      rintro e w' ⟨rfl, rfl⟩
      go_wp2_with fail
      refine (rmul_num n1 n2 (by omega) (by omega)).mono ?_
      rintro e w2 ⟨v2, rfl, x2, b2⟩
      have n3 := (x2.num (s.size + 1) l2).alloc (.cells #[Value.int .u32 (dg : Int)] 32)
      have n4 := lit1_num w2 dg (by omega)
      replace hbel := bnew (bnext (bnew hbel (.cells #[Value.int .u32 (b : Int)] 32)) b2) (.cells #[Value.int .u32 (dg : Int)] 32)
      have hbs := b2.size
      clear n1 n2 x2
      go_wp2_with fail
      refine (radd_num n3 n4 (by omega) (by omega)).mono ?_
      rintro e w3 ⟨v3, rfl, x3, b3⟩
      have x4 := x3.from_ (base' := w.heap.size) hbel.size
      replace hbel := bnext hbel b3
      go_wp2_with fail
      go_roundw
      case rel => exact ⟨k + 1, by omega, by go_num, by rw [HE.out]; exact x4, hbel⟩
      case measure => simp [intOf]; omega
    · have hc255 : s[k].toNat ≤ 255 := by have := UInt8.toNat_lt s[k]; omega
      have hdc := Lib.hid (rdigit_any s[k].toNat hc255 wr)
      have hrd : rdg s[k].toNat < 0 ∨ (b : Int) ≤ rdg s[k].toNat := by unfold rdg; split <;> omega
      have hrb : -1 ≤ rdg s[k].toNat ∧ rdg s[k].toNat ≤ 36 := by unfold rdg; split <;> omega
      generalize rdg s[k].toNat = dd at *
      obtain ⟨hr1, hr2⟩ := hrb
      rcases hrd with hrd | hrd
      · go_wp2_with fail
        refine hdc.out.mono ?_
        rintro e w' ⟨rfl, rfl⟩
        go_wp2_with fail
        go_ret2
        exact ⟨rfl, hbel⟩
      · have hr0 : 0 ≤ dd := by omega
        go_wp2_with fail
        refine hdc.out.mono ?_
        rintro e w' ⟨rfl, rfl⟩
        go_wp2_with fail
        go_ret2
        exact ⟨rfl, hbel⟩
set_option maxHeartbeats 1600000 in
theorem rparse_no (s : ByteArray) (b : Int) (w : World) (h : b < 2 ∨ 36 < b ∨ s.size = 0 ∨ 1000 < s.size) (hm : s.size ≤ maxLen) :
    Calls Tryd.prog 77 #[.string s, .int .i64 b] w fun e w' => e = .returned (.tuple #[.slice none 0 0, .bool false]) ∧ Below w.heap.size w w' := by
  unfold maxLen at hm
  by_cases h1 : b < 2
  · clear h
    go_enter Tryd.func77, Tryd.ntmps77
    go_wp2_with fail
    go_ret2
    exact ⟨rfl, Below.refl _ _⟩
  by_cases h2 : 36 < b
  · clear h
    go_enter Tryd.func77, Tryd.ntmps77
    go_wp2_with fail
    go_ret2
    exact ⟨rfl, Below.refl _ _⟩
  by_cases h3 : s.size < 1
  · clear h
    go_enter Tryd.func77, Tryd.ntmps77
    go_wp2_with fail
    go_ret2
    exact ⟨rfl, Below.refl _ _⟩
  · have h4 : 1000 < s.size := by omega
    clear h
    go_enter Tryd.func77, Tryd.ntmps77
    go_wp2_with fail
    go_ret2
    exact ⟨rfl, Below.refl _ _⟩
end Go.Proofs.YtjildimhflondaaDoor
