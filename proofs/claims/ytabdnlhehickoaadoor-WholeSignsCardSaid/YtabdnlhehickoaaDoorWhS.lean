/-
  whole.Root, Gcd: their contracts.
-/
import Derived.Test.YtabdnlhehickoaaDoorWhJ
import Derived.Test.YtabdnlhehickoaaDoorWhR
namespace Go.Proofs.YtabdnlhehickoaaDoor
open Go.RowKit
def rtQ (a : Int) : Int := if a < 0 then 0 else (rootN a.natAbs : Int)
def rtR (a : Int) : Int := if a < 0 then 0 else ((a.natAbs - rootN a.natAbs * rootN a.natAbs : Nat) : Int)
def rtE (a : Int) : Int := if a < 0 then 2 else 0
theorem enter1rr (w : World) (s x : Value) : ∃ W, W = ((w.alloc (.cells #[s, x] 36)).alloc (.cells #[.bool false, .slice none 0 0] 36)).alloc (.cells #[.bool false, .slice none 0 0] 36) ∧ Var W w.heap.size s x ∧ Var W (w.heap.size + 1) (.bool false) (.slice none 0 0) ∧ Var W (w.heap.size + 1 + 1) (.bool false) (.slice none 0 0) ∧ Below w.heap.size w W :=
  enter2r w s x (.bool false) (.slice none 0 0)
section
variable {w : World} {u v : Value} {a b : Int} {K L : Nat}
set_option maxHeartbeats 1600000 in
theorem wroot_num (hu : Wh w u a K) (hK : K ≤ 1000) : Calls Tryd.prog 48 #[u] w (W3 w (rtQ a) (rtR a) (rtE a)) := by
  obtain ⟨s, x, m, rfl, hx, rfl⟩ := hu
  obtain ⟨W, hW, hp, hr, ht, hb⟩ := enter1rr w (.bool s) x
  replace hx := hx.below hb
  have hx0 : ∃ A n c, x = .slice A n c := by obtain ⟨A, n, c, xs, rfl, _⟩ := hx; exact ⟨_, _, _, rfl⟩
  have e0 := hp.c0
  have e1 := hp.c1
  have HB := below_any (s := s) hx (by omega)
  rw [hW] at e0 e1
  unfold rtQ rtR rtE
  rw [zOf_abs]
  by_cases hneg : zOf s m < 0
  · rw [if_pos hneg, if_pos hneg, if_pos hneg]
    rw [decide_eq_true hneg] at HB
    replace HB := Lib.hid HB
    clear hneg hx
    obtain ⟨XA, XN, XC, rfl⟩ := hx0
    go_enter Tryd.func48, Tryd.ntmps48
    go_wp2_with fail
    rw [← hW]
    refine HB.out.mono ?_
    rintro e w1 ⟨rfl, hb1⟩
    have hr2 := hr.next hb1
    have ht2 := ht.next hb1
    obtain ⟨q1, q2, q3, q4, q5, q6⟩ := hr2.room (.bool false)
    obtain ⟨p1, p2, p3, p4, p5, p6⟩ := hr2.room2 ht2 (Nat.succ_ne_self _) (.bool false) (.slice none 0 0) (.bool false)
    clear e0 e1 HB hW
    go_wp2_with fail
    exact wret3 rfl rfl rfl rfl rfl hr2 ht2 (by omega) (nil_wnew _ w.heap.size) (nil_wnew _ w.heap.size) (Nat.le_refl _) (Nat.le_refl _) (by omega) (by omega) (bnext hb hb1)
  · rw [if_neg hneg, if_neg hneg, if_neg hneg]
    rw [decide_eq_false hneg] at HB
    replace HB := Lib.hid HB
    have lr : rootN m < 4294967296 ^ K := Nat.lt_of_le_of_lt (rootN_le m) hx.lt
    have lm : rootN m * rootN m < 4294967296 ^ K := Nat.lt_of_le_of_lt (rootN_sq m) hx.lt
    clear hneg
    go_enter Tryd.func48, Tryd.ntmps48
    go_wp2_with fail
    rw [← hW]
    refine HB.out.mono ?_
    rintro e w1 ⟨rfl, hb1⟩
    replace hp := hp.next hb1
    replace hr := hr.next hb1
    replace ht := ht.next hb1
    replace hx := hx.below hb1
    replace hb := bnext hb hb1
    clear e0 e1 HB hW hb1
    have e0 := hp.c0
    have e1 := hp.c1
    go_wp2_with fail
    refine (rootOf_num hx (by omega)).mono ?_
    rintro e w2 ⟨r, rfl, hrt, hb2⟩
    replace hp := (hp.next hb2).drew
    replace hr := (hr.next hb2).drew
    replace ht := (ht.next hb2).drew
    replace hx := (hx.below hb2).drew
    have hs1 := hb.size
    replace hb := (bnext hb hb2).drew
    replace hrt := (hrt.next (Below.refl _ _).drew).from_ hs1
    have nr := hrt.num K lr
    clear e0 e1 hb2 hs1
    have e0 := hp.c0
    have e1 := hp.c1
    go_wp2_with fail
    go_region_held3 (fun w' => w'.cell? ⟨w.heap.size, 1, none⟩ = some x)
      (first | exact hp3.c1 | exact hp4.c1 | go_keep)
      (first
      | (go_at_call 18; refine (mul_num' nr nr (by omega) (by omega)).mono ?_; rintro e w3 ⟨v3, rfl, hv3, hb3⟩; have hp3 := hp.next hb3; have nv3 := hv3.num K lm)
      | (go_at_call 17; refine (sub_num (hx.below hb3) nv3 (by omega) (by omega)).mono ?_; rintro e w4 ⟨v4, rfl, hv4, hb4⟩; have hp4 := hp3.next hb4))
    replace hr := (hr.next hb3).next hb4
    replace ht := (ht.next hb3).next hb4
    replace hrt := (hrt.next hb3).next hb4
    have hs2 := (bnext hb hb3).size
    replace hb := bnext (bnext hb hb3) hb4
    replace hv4 := hv4.from_ hs2
    clear hs2 hx nr nv3 e0 e1 hp3 hp4 hp hb3 hb4 hv3 hx0
    go_wp2_with fail
    refine (signed_w false hrt).mono ?_
    rintro e w5 ⟨b, xa, xn, xc, rfl, hn1, hb5⟩
    go_wp2_with fail
    refine (signed_w false (hv4.next hb5)).mono ?_
    rintro e w6 ⟨c, ya, yn, yc, rfl, hn2, hb6⟩
    have hn1' := hn1.out.next hb6
    replace hr := (hr.next hb5).next hb6
    replace ht := (ht.next hb5).next hb6
    obtain ⟨q1, q2, q3, q4, q5, q6⟩ := hr.room (.bool b)
    obtain ⟨p1, p2, p3, p4, p5, p6⟩ := hr.room2 ht (Nat.succ_ne_self _) (.bool b) (.slice xa xn xc) (.bool c)
    go_wp2_with fail
    exact wret3 rfl rfl rfl rfl rfl hr ht (by omega) hn1' hn2.out (Nat.le_refl _) (Nat.le_refl _) (by omega) (by omega) (bnext (bnext hb hb5) hb6)

def gcdZ (a b : Int) : Int := (Nat.gcd a.natAbs b.natAbs : Int)
set_option maxHeartbeats 1600000 in
theorem wgcd_num (hu : Wh w u a K) (hv : Wh w v b L) (hK : K ≤ 1000000) (hL : L ≤ 1000000) : Calls Tryd.prog 46 #[u, v] w (WGives w (gcdZ a b)) := by
  obtain ⟨s, x, m, rfl, hx, rfl⟩ := hu
  obtain ⟨t, y, n, rfl, hy, rfl⟩ := hv
  unfold gcdZ
  rw [zOf_abs, zOf_abs]
  obtain ⟨W, hW, hp, hq, hr, hb⟩ := enter2r w (.bool s) x (.bool t) y
  replace hx := (hx.below hb).drew
  replace hy := (hy.below hb).drew
  have lx := lt_up hx.lt (show K ≤ max K L by omega)
  have ly := lt_up hy.lt (show L ≤ max K L by omega)
  have hM : max K L ≤ 1000000 := by omega
  generalize max K L = M at *
  go_enter Tryd.func46, Tryd.ntmps46
  go_wp2_with fail
  rw [← hW]
  clear hW
  replace hp := hp.drew
  replace hq := hq.drew
  replace hr := hr.drew
  replace hb := hb.drew
  have e0 := hp.c1
  have e1 := hq.c1
  go_region_held3 (fun w' => w'.cell? ⟨w.heap.size, 1, none⟩ = some x ∧ w'.cell? ⟨w.heap.size + 1, 1, none⟩ = some y)
    (first | exact ⟨hp1.c1, hq1.c1⟩ | exact ⟨hp2.c1, hq2.c1⟩ | go_keep)
    (first
    | (go_at_call 15; (fail_if_success (have hh := hb1)); refine (norm_num hx (by omega)).mono ?_; rintro e w1 ⟨v1, rfl, hv1, hb1⟩; have hp1 := hp.next hb1; have hq1 := hq.next hb1)
    | (go_at_call 15; refine (norm_num (hy.below hb1) (by omega)).mono ?_; rintro e w2 ⟨v2, rfl, hv2, hb2⟩; have hp2 := hp1.next hb2; have hq2 := hq1.next hb2))
  replace hr := (hr.next hb1).next hb2
  have hs1 := hb.size
  have hs2 := (bnext hb hb1).size
  replace hv1 := (hv1.next hb2).from_ hs1
  replace hv2 := hv2.from_ hs2
  replace hb := bnext (bnext hb hb1) hb2
  clear e0 e1 hp1 hq1 hp2 hq2 hb1 hb2 hp hq hx hy hs1 hs2
  go_wp2_with fail
  go_loopg [5, 6] n (fun g p q wr => ∃ k, Nat.gcd k g = Nat.gcd m n ∧ k < 4294967296 ^ M ∧ g < 4294967296 ^ M ∧ New wr w.heap.size p (limbs k) ∧ New wr w.heap.size q (limbs g) ∧ Var wr (w.heap.size + 2) (.bool false) (.slice none 0 0) ∧ Below w.heap.size w wr)
  case atStart => exact ⟨m, rfl, lx, ly, hv1, hv2, hr, hb⟩
  case round =>
    obtain ⟨k, hgcd, lk, lg, hk, hg, hrr, hbel⟩ := hrel
    clear hv1 hv2 hr hb lx ly
    obtain ⟨A, j, c, rfl, hmax, hnz⟩ := hg.nought
    by_cases h0 : gk = 0
    · obtain rfl : j = 0 := hnz.2 h0
      subst h0
      rw [Nat.gcd_zero_right] at hgcd
      subst hgcd
      clear hnz lk lg hg
      go_wp2_with fail
      refine (signed_w false hk).mono ?_
      rintro e w3 ⟨b, xa, xn, xc, rfl, hnew, hb3⟩
      have hr2 := hrr.next hb3
      obtain ⟨q1, q2, q3, q4, q5, q6⟩ := hr2.room (.bool b)
      go_wp2_with fail
      exact wret rfl rfl rfl hr2 hnew.out (Nat.le_refl _) (by omega) (bnext hbel hb3)
    · have hj : 0 < j := by omega
      have HR : Hid (remZ k gk = k % gk) := Lib.hid (by unfold remZ; rw [if_neg h0])
      have HG : Hid (Nat.gcd gk (k % gk) = Nat.gcd m n) := Lib.hid (by rw [← hgcd, Nat.gcd_comm k gk, Nat.gcd_rec gk k, Nat.gcd_comm])
      have HL : Hid (k % gk < gk) := Lib.hid (Nat.mod_lt _ (by omega))
      have nk := hk.num M lk
      have ng := hg.num M lg
      clear hnz h0 hgcd
      go_wp2_with fail
      refine (div_num nk ng (by omega)).mono ?_
      rintro e w3 ⟨q, r, rfl, _, hrem, hb3⟩
      rw [HR.out] at hrem
      have hs := hbel.size
      go_wp2_with fail
      go_roundg (k % gk)
      case rel => exact ⟨gk, HG.out, lg, Nat.lt_trans HL.out lg, hg.next hb3, hrem.from_ hs, hrr.next hb3, bnext hbel hb3⟩
      case measure => exact HL.out
end
end Go.Proofs.YtabdnlhehickoaaDoor
