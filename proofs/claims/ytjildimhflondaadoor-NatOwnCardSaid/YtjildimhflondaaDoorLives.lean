/-
  The laws' lives: the document's examples are as it says.
-/
import Derived.Test.YtjildimhflondaaDoorSmall
namespace Go.Proofs.YtjildimhflondaaDoor
open Go.RowKit

theorem num20 : numB 10 (⟨#[49, 48, 48, 48, 48, 48, 48, 48, 48, 48, 48, 48, 48, 48, 48, 48, 48, 48, 48, 48, 48]⟩ : ByteArray).data.toList = 100000000000000000000 := by decide
theorem good20 : ∀ k (h : k < (⟨#[49, 48, 48, 48, 48, 48, 48, 48, 48, 48, 48, 48, 48, 48, 48, 48, 48, 48, 48, 48, 48]⟩ : ByteArray).size), digN ((⟨#[49, 48, 48, 48, 48, 48, 48, 48, 48, 48, 48, 48, 48, 48, 48, 48, 48, 48, 48, 48, 48]⟩ : ByteArray)[k]).toNat < 10 := by decide
theorem quo20 : txt 10 14285714285714285714 = [49, 52, 50, 56, 53, 55, 49, 52, 50, 56, 53, 55, 49, 52, 50, 56, 53, 55, 49, 52] := by
  have h := txt_of 10 (by decide) (by decide) [4, 1, 7, 5, 8, 2, 4, 1, 7, 5, 8, 2, 4, 1, 7, 5, 8, 2, 4, 1] (by unfold Okb; decide)
  rw [show valb 10 [4, 1, 7, 5, 8, 2, 4, 1, 7, 5, 8, 2, 4, 1, 7, 5, 8, 2, 4, 1] = 14285714285714285714 by decide] at h
  rw [h]; decide
theorem rem20 : txt 10 2 = [50] := by decide +kernel
theorem hex255 : txt 16 255 = [102, 102] := by decide +kernel
theorem limbs7 : limbs 7 = [7] := by decide +kernel
theorem val_single (x : Nat) : val [x] = x := by rw [val_cons, val_nil, Nat.mul_zero, Nat.add_zero]

theorem New.sl {w : World} {base : Nat} {v : Value} {xs : List Nat} (h : New w base v xs) : ∃ A c, v = .slice A xs.length c ∧ Sl w A xs.length c xs := by
  obtain ⟨A, n, cap, rfl, hs, _⟩ := h
  have := hs.len
  subst this
  exact ⟨A, cap, rfl, hs⟩

set_option maxHeartbeats 1600000 in
theorem lives_yes (w : World) : Calls Tryd.prog 8 #[] w fun e w' => e = .returned (.bool true) ∧ Below w.heap.size w w' := by
  go_enter Tryd.func8, Tryd.ntmps8
  go_wp2_with fail
  refine (parse_yes ⟨#[49, 48, 48, 48, 48, 48, 48, 48, 48, 48, 48, 48, 48, 48, 48, 48, 48, 48, 48, 48, 48]⟩ 10 _ (by omega) (by omega) (by decide) (by decide) good20).mono ?_
  rintro e w1 ⟨v, rfl, hnew, hbel1⟩
  rw [num20] at hnew
  obtain ⟨A, c, rfl, hs⟩ := hnew.sl
  have hlen : (limbs 100000000000000000000).length ≤ 10 := limbs_len_le (by decide)
  generalize hl : (limbs 100000000000000000000).length = n at *
  have hval := limbs_val 100000000000000000000
  generalize hL : limbs 100000000000000000000 = L at *
  have HL := Lib.hid (And.intro hl hval)
  clear hl hval hL hnew
  have hB : Blk (w1.alloc (.cells #[Value.int .u32 7] 32)) w1.heap.size [7] := Blk.lit1 w1 7
  have hs7 := hB.slAll (Ok.cons (by decide) Ok.nil) (by unfold maxLen; simp)
  have hsa := hs.alloc (.cells #[Value.int .u32 7] 32)
  have hone : (limbs (val [7])).length = 1 := by rw [val_single, limbs7]; rfl
  go_wp2_with fail
  refine (div_one_any _ _ _ _ _ _ _ _ _ hsa hs7 (by omega) hone).mono ?_
  rintro e w2 ⟨u, v, rfl, hu, hv, hbel2⟩
  rw [HL.out.2, val_single] at hu hv
  rw [show 100000000000000000000 / 7 = 14285714285714285714 by decide] at hu
  rw [show 100000000000000000000 % 7 = 2 by decide] at hv
  obtain ⟨Au, cu, rfl, hsu⟩ := hu.sl
  obtain ⟨Av, cv, rfl, hsv⟩ := hv.sl
  have hlu : (limbs 14285714285714285714).length ≤ 10 := limbs_len_le (by decide)
  have hlv : (limbs 2).length ≤ 10 := limbs_len_le (by decide)
  have hqu := limbs_val 14285714285714285714
  have hqv := limbs_val 2
  generalize limbs 14285714285714285714 = LU at *
  generalize limbs 2 = LV at *
  have HQ := Lib.hid (And.intro hqu hqv)
  clear hqu hqv hu hv hs hs7 hsa hB
  go_wp2_with fail
  refine (text_any _ _ _ _ 10 _ hsu (by omega) (by omega) (by omega)).mono ?_
  rintro e w3 ⟨t1, rfl, ht1, hbel3⟩
  rw [HQ.out.1, quo20] at ht1
  have hsv3 := hsv.below hbel3
  have e1 : (t1.toList == [49, 52, 50, 56, 53, 55, 49, 52, 50, 56, 53, 55, 49, 52, 50, 56, 53, 55, 49, 52]) = true := by rw [ByteArray.toList_eq, ht1]; decide
  clear ht1
  go_wp2_with fail
  refine (text_any _ _ _ _ 10 _ hsv3 (by omega) (by omega) (by omega)).mono ?_
  rintro e w4 ⟨t2, rfl, ht2, hbel4⟩
  rw [HQ.out.2, rem20] at ht2
  have e2 : (t2.toList == [50]) = true := by rw [ByteArray.toList_eq, ht2]; decide
  clear ht2
  have hB4 : Blk (w4.alloc (.cells #[Value.int .u32 255] 32)) w4.heap.size [255] := Blk.lit1 w4 255
  have hs4 := hB4.slAll (Ok.cons (by decide) Ok.nil) (by unfold maxLen; simp)
  go_wp2_with fail
  refine (text_any _ _ _ _ 16 _ hs4 (by omega) (by omega) (by simp)).mono ?_
  rintro e w5 ⟨t3, rfl, ht3, hbel5⟩
  rw [val_single, hex255] at ht3
  have e3 : (t3.toList == [102, 102]) = true := by rw [ByteArray.toList_eq, ht3]; decide
  clear ht3
  go_wp2_with fail
  go_ret
  exact ⟨rfl, bnext (bnew (bnext (bnext (bnext (bnew hbel1 _) hbel2) hbel3) hbel4) _) hbel5⟩
end Go.Proofs.YtjildimhflondaaDoor
