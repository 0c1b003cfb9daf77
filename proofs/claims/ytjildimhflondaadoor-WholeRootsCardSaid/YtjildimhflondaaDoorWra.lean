/-
  The document's own whole numbers: Norm, Neg, Sub, Mul, Add, Cmp.
-/
import Derived.Test.YtjildimhflondaaDoorWc
import Derived.Test.YtjildimhflondaaDoorRefMul
namespace Go.Proofs.YtjildimhflondaaDoor
open Go.RowKit
section
variable {w : World} {u v : Value} {a b : Int} {K L : Nat}
set_option maxHeartbeats 800000 in
theorem rwnorm_num (hu : Wh w u a K) (hK : K ≤ 1000000) : Calls Tryd.prog 22 #[u] w (WGives w a) := by
  obtain ⟨s, x, m, rfl, hx, rfl⟩ := hu
  obtain ⟨W, hW, hp, hr, hb⟩ := enter1r w (.bool s) x
  have HN := Lib.hid (rnorm_num (hx.below hb) (by omega))
  have e0 := hp.c0
  have e1 := hp.c1
  rw [hW] at e0 e1
  clear hx
  cases s
  · go_enter Tryd.func22, Tryd.ntmps22
    go_wp2_with fail
    rw [← hW]
    refine HN.out.mono ?_
    rintro e w1 ⟨v, rfl, hv, hb1⟩
    obtain ⟨A, n, c, rfl, hmax, hnm⟩ := hv.nought
    have f0 := (hp.next hb1).c0
    have f1 := (hp.next hb1).c1
    have hr2 := hr.next hb1
    obtain ⟨q1, q2, q3, q4, q5, q6⟩ := hr2.room (.bool false)
    clear e0 e1 hW HN
    go_wp2_with fail
    exact wret rfl rfl rfl hr2 (WNew.of false m hv rfl) hb.size (by omega) (bnext hb hb1)
  · by_cases h0 : m = 0
    · go_enter Tryd.func22, Tryd.ntmps22
      go_wp2_with fail
      rw [← hW]
      refine HN.out.mono ?_
      rintro e w1 ⟨v, rfl, hv, hb1⟩
      obtain ⟨A, n, c, rfl, hmax, hnm⟩ := hv.nought
      obtain rfl : n = 0 := hnm.2 h0
      have f0 := (hp.next hb1).c0
      have f1 := (hp.next hb1).c1
      have hr2 := hr.next hb1
      obtain ⟨q1, q2, q3, q4, q5, q6⟩ := hr2.room (.bool false)
      clear e0 e1 hW HN hnm
      go_wp2_with fail
      exact wret rfl rfl rfl hr2 (WNew.of true m hv (by rw [h0]; rfl)) hb.size (by omega) (bnext hb hb1)
    · go_enter Tryd.func22, Tryd.ntmps22
      go_wp2_with fail
      rw [← hW]
      refine HN.out.mono ?_
      rintro e w1 ⟨v, rfl, hv, hb1⟩
      obtain ⟨A, n, c, rfl, hmax, hnm⟩ := hv.nought
      have hn0 : 0 < n := by omega
      have f0 := (hp.next hb1).c0
      have f1 := (hp.next hb1).c1
      have hr2 := hr.next hb1
      obtain ⟨q1, q2, q3, q4, q5, q6⟩ := hr2.room (.bool true)
      have HM : Hid (0 < m) := Lib.hid (by omega)
      clear e0 e1 hW HN hnm h0
      go_wp2_with fail
      exact wret rfl rfl rfl hr2 (WNew.of true m hv (by rw [decide_eq_true HM.out]; rfl)) hb.size (by omega) (bnext hb hb1)
set_option maxHeartbeats 800000 in
theorem rwneg_num (hu : Wh w u a K) (hK : K ≤ 1000000) : Calls Tryd.prog 32 #[u] w (WGives w (-a)) := by
  obtain ⟨s, x, m, rfl, hx, rfl⟩ := hu
  obtain ⟨W, hW, hp, hr, hb⟩ := enter1r w (.bool s) x
  have hz : -(zOf s m) = zOf (!s) m := by cases s <;> simp [zOf]
  have HN := rwnorm_num (u := .agg #[.bool (!s), x]) ⟨!s, x, m, rfl, hx.below hb, rfl⟩ hK
  rw [hz]
  obtain ⟨XA, XN, XC, xs, rfl, hxs⟩ := hx
  replace HN := Lib.hid HN
  have e0 := hp.c0
  have e1 := hp.c1
  rw [hW] at e0 e1
  clear hxs hz
  go_enter Tryd.func32, Tryd.ntmps32
  go_wp2_with fail
  rw [← hW]
  refine HN.out.mono ?_
  rintro e w1 ⟨v, rfl, hv, hb1⟩
  obtain ⟨b, xa, xn, xc, rfl, hnew⟩ := hv.opened
  have hr2 := hr.next hb1
  obtain ⟨q1, q2, q3, q4, q5, q6⟩ := hr2.room (.bool b)
  clear e0 e1 hW HN
  go_wp2_with fail
  exact wret rfl rfl rfl hr2 hnew.out hb.size (by omega) (bnext hb hb1)

theorem rnum2 (w : World) (lo hi : Nat) (hlo : lo < 4294967296) (hhi : hi < 4294967296) : Num (w.alloc (.cells #[Value.int .u32 (lo : Int), Value.int .u32 (hi : Int)] 32)) (.slice (some ⟨w.heap.size, 0, none⟩) 2 2) (lo + 4294967296 * hi) 2 := by
  have hs := (Blk.lit2 w lo hi).slAll (Ok.cons hlo (Ok.cons hhi Ok.nil)) (by unfold maxLen; simp)
  exact ⟨_, _, _, _, rfl, hs, by simp [val], by simp⟩
set_option maxHeartbeats 1600000 in
theorem rwof_num (i : Int) (w : World) (h0 : -9223372036854775808 ≤ i) (h1 : i ≤ 9223372036854775807) : Calls Tryd.prog 36 #[.int .i64 i] w (WGives w i) := by
  obtain ⟨W, hW, hr, hb⟩ := enter0r w
  have hsz : W.heap.size = w.heap.size + 1 := by rw [hW]; simp
  obtain ⟨m, hm⟩ : ∃ m, m = i.natAbs := ⟨_, rfl⟩
  have hmb : m < 18446744073709551616 := by omega
  have hN := rnum2 W (m % 4294967296) (m / 4294967296) (by omega) (by omega)
  rw [show m % 4294967296 + 4294967296 * (m / 4294967296) = m by omega, hsz] at hN
  have HN := Lib.hid (rwnorm_num (u := .agg #[.bool (decide (i < 0)), .slice (some ⟨w.heap.size + 1, 0, none⟩) 2 2]) (a := i) (K := 2) ⟨decide (i < 0), _, m, rfl, hN, by rw [hm]; exact zOf_self i⟩ (by decide))
  have hr1 := hr.alloc (.cells #[Value.int .u32 ((m % 4294967296 : Nat) : Int), Value.int .u32 ((m / 4294967296 : Nat) : Int)] 32)
  have hb1 := bnew hb (.cells #[Value.int .u32 ((m % 4294967296 : Nat) : Int), Value.int .u32 ((m / 4294967296 : Nat) : Int)] 32)
  have e1 : ((m : Nat) : Int) % 4294967296 = ((m % 4294967296 : Nat) : Int) := by omega
  have e2 : ((m : Nat) : Int) / 4294967296 = ((m / 4294967296 : Nat) : Int) := by omega
  have hlo : m % 4294967296 < 4294967296 := by omega
  have hhi : m / 4294967296 < 4294967296 := by omega
  generalize m % 4294967296 = lo at *
  generalize m / 4294967296 = hi at *
  have e3 : ((hi : Nat) : Int) % 4294967296 = (hi : Int) := by omega
  clear hN hsz
  by_cases hneg : i < 0
  · rw [decide_eq_true hneg] at HN
    obtain rfl : i = -(m : Int) := by omega
    have hm0 : (0 : Int) < (m : Int) := by omega
    have hm1 : (m : Int) ≤ 9223372036854775808 := by omega
    clear hm
    have hw : IntKind.u64.wrap (-IntKind.u64.wrap (-(m : Int))) = (m : Int) := by rw [IntKind.wrap_u64, IntKind.wrap_u64]; omega
    go_enter Tryd.func36, Tryd.ntmps36
    go_wp2_with fail
    rw [← hW]
    refine HN.out.mono ?_
    rintro e w1 ⟨v, rfl, hv, hb2⟩
    obtain ⟨b, xa, xn, xc, rfl, hnew⟩ := hv.opened
    have hr2 := hr1.next hb2
    obtain ⟨q1, q2, q3, q4, q5, q6⟩ := hr2.room (.bool b)
    clear HN hW
    go_wp2_with fail
    exact wret rfl rfl rfl hr2 hnew.out hb1.size (Nat.le_refl _) (bnext hb1 hb2)
  · rw [decide_eq_false hneg] at HN
    obtain rfl : i = (m : Int) := by omega
    have hm1 : (m : Int) ≤ 9223372036854775807 := by omega
    clear hm
    go_enter Tryd.func36, Tryd.ntmps36
    go_wp2_with fail
    rw [← hW]
    refine HN.out.mono ?_
    rintro e w1 ⟨v, rfl, hv, hb2⟩
    obtain ⟨b, xa, xn, xc, rfl, hnew⟩ := hv.opened
    have hr2 := hr1.next hb2
    obtain ⟨q1, q2, q3, q4, q5, q6⟩ := hr2.room (.bool b)
    clear HN hW
    go_wp2_with fail
    exact wret rfl rfl rfl hr2 hnew.out hb1.size (Nat.le_refl _) (bnext hb1 hb2)
end
end Go.Proofs.YtjildimhflondaaDoor
