/-
  whole.Of of any int
-/
import Derived.Test.YtgboiopkihemaaaNw
import Derived.Test.YtgboiopkihemaaaMem
import Derived.Test.YtgboiopkihemaaaChecked
import Derived.Outline
import Derived.Deep.RegionHeld3
namespace Go.Proofs.Ytgboiopkihemaaa
open Go.RowKit

section
variable {w w' : World} {g : Nat} {s x : Value}
end
theorem enter0r (w : World) : ∃ W, W = w.alloc (.cells #[.bool false, .slice none 0 0] 24) ∧ Var W w.heap.size (.bool false) (.slice none 0 0) ∧ Below w.heap.size w W :=
  ⟨_, rfl, Var.mk_ _ _ _, bnew (Below.refl _ _) _⟩
section
variable {w : World} {u v : Value} {a b : Int} {K L : Nat}
end
section
variable {w : World} {u v : Value} {a b : Int} {K L : Nat}
end
section
variable {w : World} {u v : Value} {a b : Int} {K L : Nat}
end
theorem Blk.lit2 (w : World) (x y : Nat) : Blk (w.alloc (.cells #[Value.int .u32 (x : Int), Value.int .u32 (y : Int)] 65)) w.heap.size [x, y] := heap_alloc_new w _
set_option maxHeartbeats 400000 in
theorem limbsOf_any (lo hi : Nat) (w : World) (hlo : lo < 4294967296) (hhi : hi < 4294967296) : Calls Try.prog 96 #[.int .u64 ((lo + 4294967296 * hi : Nat) : Int)] w (Gives w (lo + 4294967296 * hi)) := by
  have hB := Blk.lit2 w lo hi
  have hs := hB.slAll (Ok.cons hlo (Ok.cons hhi Ok.nil)) (by unfold maxLen; simp)
  have hN : Num (w.alloc (.cells #[Value.int .u32 (lo : Int), Value.int .u32 (hi : Int)] 65)) (.slice (some ⟨w.heap.size, 0, none⟩) 2 2) (lo + 4294967296 * hi) 2 := ⟨_, _, _, _, rfl, hs, by simp [val], by simp⟩
  have HN := Lib.hid (norm_num hN (by omega))
  have e1 : ((lo + 4294967296 * hi : Nat) : Int) % 4294967296 = (lo : Int) := by omega
  have e2 : ((lo + 4294967296 * hi : Nat) : Int) / 4294967296 = (hi : Int) := by omega
  have e3 : ((hi : Nat) : Int) % 4294967296 = (hi : Int) := by omega
  have hbd : (lo + 4294967296 * hi) < 18446744073709551616 := by omega
  generalize hn : lo + 4294967296 * hi = n at *
  clear hN hs hB hn
  go_enter Try.func96, Try.ntmps96
  go_wp2_with fail
  refine HN.out.mono ?_
  rintro e w1 ⟨v, rfl, hnew, hb⟩
  go_wp2_with fail
  go_ret
  exact ⟨v, rfl, hnew.from_ (by simp), bnext (bnew (Below.refl _ _) _) hb⟩
theorem limbsOf_n (n : Nat) (w : World) (hn : n < 18446744073709551616) : Calls Try.prog 96 #[.int .u64 (n : Int)] w (Gives w n) := by
  have h := limbsOf_any (n % 4294967296) (n / 4294967296) w (by omega) (by omega)
  rw [show n % 4294967296 + 4294967296 * (n / 4294967296) = n by omega] at h
  exact h
set_option maxHeartbeats 800000 in
theorem wof_num (i : Int) (w : World) (h0 : -9223372036854775808 ≤ i) (h1 : i ≤ 9223372036854775807) : Calls Try.prog 64 #[.int .i64 i] w (WGives w i) := by
  obtain ⟨W, hW, hr, hb⟩ := enter0r w
  by_cases hi : i < 0
  · obtain ⟨k, rfl⟩ : ∃ k : Nat, i = -((k : Int) + 1) := ⟨(-i - 1).toNat, by omega⟩
    have hz : -((k : Int) + 1) = zOf true (k + 1) := by simp [zOf]
    have HL := limbsOf_n (k + 1) W (by omega)
    rw [show ((k + 1 : Nat) : Int) = (k : Int) + 1 from rfl] at HL
    replace HL := Lib.hid HL
    have hk : (k : Int) ≤ 9223372036854775807 := by omega
    have e1 : -((k : Int) + 1) + 1 = -(k : Int) := by omega
    have e2 : - -(k : Int) = (k : Int) := by omega
    have HZ := Lib.hid hz
    clear hz
    go_enter Try.func64, Try.ntmps64
    go_wp2_with fail
    rw [← hW]
    refine HL.out.mono ?_
    rintro e w1 ⟨v, rfl, hv, hb1⟩
    go_wp2_with fail
    refine (signed_w true hv).mono ?_
    rintro e w2 ⟨b, xa, xn, xc, rfl, hnew, hb2⟩
    have hr2 := (hr.next hb1).next hb2
    obtain ⟨q1, q2, q3, q4, q5, q6⟩ := hr2.room (.bool b)
    go_wp2_with fail
    rw [HZ.out]
    exact wret rfl rfl rfl hr2 hnew.out hb.size (Nat.le_refl _) (bnext (bnext hb hb1) hb2)
  · obtain ⟨k, rfl⟩ : ∃ k : Nat, i = (k : Int) := ⟨i.toNat, by omega⟩
    have HL := Lib.hid (limbsOf_n k W (by omega))
    clear hi
    go_enter Try.func64, Try.ntmps64
    go_wp2_with fail
    rw [← hW]
    refine HL.out.mono ?_
    rintro e w1 ⟨v, rfl, hv, hb1⟩
    go_wp2_with fail
    refine (signed_w false hv).mono ?_
    rintro e w2 ⟨b, xa, xn, xc, rfl, hnew, hb2⟩
    have hr2 := (hr.next hb1).next hb2
    obtain ⟨q1, q2, q3, q4, q5, q6⟩ := hr2.room (.bool b)
    go_wp2_with fail
    exact wret (z := zOf false k) rfl rfl rfl hr2 hnew.out hb.size (Nat.le_refl _) (bnext (bnext hb hb1) hb2)
section
variable {w : World} {u v : Value} {a b : Int} {K L : Nat}
end
section
variable {w : World} {u v : Value} {a b : Int} {K L : Nat}
end
end Go.Proofs.Ytgboiopkihemaaa
