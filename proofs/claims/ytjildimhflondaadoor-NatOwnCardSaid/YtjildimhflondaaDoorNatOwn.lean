/-
  The law NatOwn: its walk.
-/
import Derived.Test.YtjildimhflondaaDoorOwnMem
import Derived.OpenShut
namespace Go.Proofs.YtjildimhflondaaDoor
open Go.RowKit

set_option maxHeartbeats 6400000 in
theorem natOwn_small (a0 : Option Addr) (len0 cap0 : Nat) (a1 : Option Addr) (len1 cap1 : Nat) (A B : Nat) (ys0 ys1 : List Nat) (k : Nat) (nn : Int) (w : World) (n_a : Num w (.slice a0 len0 cap0) A 40) (n_b : Num w (.slice a1 len1 cap1) B 40) (k0 : len0 ≤ 40) (k1 : len1 ≤ 40) (t0 : Sl w a0 len0 cap0 ys0) (t1 : Sl w a1 len1 cap1 ys1) (hA : val ys0 = A) (hB : val ys1 = B) (hk : nn % 100 = (k : Int)) (_hk2 : k < 100) (hnn : 0 ≤ nn) (hn64 : nn ≤ 18446744073709551615) :
    Calls Tryd.prog 3 #[.slice a0 len0 cap0, .slice a1 len1 cap1, .int .u64 nn] w fun e w' => e = .returned (.bool true) ∧ Below w.heap.size w w' := by
  have l_a := n_a.lt
  have l_b := n_b.lt
  have hall : ∀ i, i < 2 → ∃ A n c, (w.alloc (.cells #[.slice a0 len0 cap0, .slice a1 len1 cap1] 22)).cell? ⟨w.heap.size, i, none⟩ = some (.slice A n c) ∧ n ≤ 40 := by
    intro i hi
    rcases (show i = 0 ∨ i = 1 by omega) with rfl | rfl
    · exact ⟨a0, len0, cap0, by simp, k0⟩
    · exact ⟨a1, len1, cap1, by simp, k1⟩
  have HA := Lib.hid hall
  clear hall
  have hb : Below w.heap.size w (w.alloc (.cells #[.slice a0 len0 cap0, .slice a1 len1 cap1] 22)) := (Below.refl _ _).alloc (Nat.le_refl _) _
  go_enter Tryd.func3, Tryd.ntmps3
  go_wp2_with fail
  refine (small_yes w.heap.size 2 _ (by decide) HA.out).mono ?_
  rintro e w0 ⟨rfl, rfl⟩
  replace n_a := n_a.below hb
  replace n_b := n_b.below hb
  clear HA
  clear n_a n_b
  replace t0 := t0.below hb
  replace t1 := t1.below hb
  obtain ⟨i0, hi, hz0, hz1, hz2⟩ := info_parts info32
  generalize hW0 : w.alloc (.cells #[.slice a0 len0 cap0, .slice a1 len1 cap1] 22) = W0 at *
  clear hW0
  have ho := own_lit0 W0 W0.heap.size (Nat.le_refl _)
  have t0' := t0.alloc (.cells #[] 32)
  have HA := Lib.hid hA
  have HB := Lib.hid hB
  clear hA hB
  go_wp2_with (first | (at_builtin; refine wpList_append_limbs rfl (.tmp 20) (.tmp 21) rfl i0 Tryd.underlying22 hi hz0 hz1 hz2 W0.heap.size _ [] rfl ho _ _ _ _ rfl t0' (by simp; omega) (by simp) ?_; intro vx w1 hownx hgx; have hbx : Below W0.heap.size W0 w1 := below_append hgx; replace t0 := t0.below hbx; replace t1 := t1.below hbx; have t1' := t1.alloc (.cells #[] 32); have ho2 := own_lit0 w1 w1.heap.size (Nat.le_refl _)) | (at_builtin; refine wpList_append_limbs rfl (.tmp 23) (.tmp 24) rfl i0 Tryd.underlying22 hi hz0 hz1 hz2 w1.heap.size _ [] rfl ho2 _ _ _ _ rfl t1' (by simp; omega) (by simp) ?_; intro vy w2 howny hgy; have hby : Below w1.heap.size w1 w2 := below_append hgy))
  replace t0 := t0.below hby
  replace t1 := t1.below hby
  rw [List.nil_append] at hownx howny
  obtain ⟨Ax, cx, rfl, sx⟩ := hownx.sl
  obtain ⟨Ay, cy, rfl, sy⟩ := howny.sl
  replace sx := sx.below hby
  replace hb := bnext (bnext hb hbx) hby
  clear ho ho2 t0' t1' hownx howny hgx hgy hbx hby hi hz0 hz1 hz2
  have n_x := Num.of_sl sx (show ys0.length ≤ 40 by have := t0.len; omega)
  have n_y := Num.of_sl sy (show ys1.length ≤ 40 by have := t1.len; omega)
  rw [HA.out] at n_x
  rw [HB.out] at n_y
  have hlx : ys0.length = len0 := t0.len.symm
  have hly : ys1.length = len1 := t1.len.symm
  rw [hlx] at sx n_x
  rw [hly] at sy n_y
  simp only [hlx, hly]
  have HF := Lib.hid (And.intro t0 (And.intro t1 (And.intro sx sy)))
  clear t0 t1 sx sy hlx hly
  have hbf : Below w2.heap.size w2 w2 := Below.refl _ _
  refine (div_numA n_x n_y (by decide)).mono ?_
  rintro e w3 ⟨q, r, wm, rfl, xq, bm, xr, br⟩
  obtain ⟨Aq, nq, cq, rfl, -⟩ := id xq
  obtain ⟨Ar, nr, cr, rfl, -⟩ := id xr
  have tq := xq.tier
  have tr := xr.tier
  have zm := bm.size
  have z3 := br.size
  replace xq := xq.next br
  replace xr := xr.from_ bm.size
  replace hbf := bnext bm br
  replace n_x := n_x.below hbf
  replace n_y := n_y.below hbf
  clear bm br
  go_wp2_with fail
  refine (norm_num n_x (by decide)).mono ?_
  rintro e w4 ⟨v4, rfl, x4, b4⟩
  obtain ⟨A4, n4, c4, rfl, -⟩ := id x4
  have t4 := x4.tier
  have z4 := b4.size
  replace xq := xq.next b4
  replace xr := xr.next b4
  replace x4 := x4.from_ (base' := w2.heap.size) hbf.size
  replace hbf := bnext hbf b4
  replace n_x := n_x.below b4
  replace n_y := n_y.below b4
  clear b4
  go_wp2_with fail
  refine (add_num n_x n_y (by decide) (by decide)).mono ?_
  rintro e w5 ⟨v5, rfl, x5, b5⟩
  obtain ⟨A5, n5, c5, rfl, -⟩ := id x5
  have t5 := x5.tier
  have z5 := b5.size
  replace xq := xq.next b5
  replace xr := xr.next b5
  replace x4 := x4.next b5
  replace x5 := x5.from_ (base' := w2.heap.size) hbf.size
  replace hbf := bnext hbf b5
  replace n_x := n_x.below b5
  replace n_y := n_y.below b5
  clear b5
  go_wp2_with fail
  refine (sub_num n_x n_y (by decide) (by decide)).mono ?_
  rintro e w6 ⟨v6, rfl, x6, b6⟩
  obtain ⟨A6, n6, c6, rfl, -⟩ := id x6
  have t6 := x6.tier
  have z6 := b6.size
  replace xq := xq.next b6
  replace xr := xr.next b6
  replace x4 := x4.next b6
  replace x5 := x5.next b6
  replace x6 := x6.from_ (base' := w2.heap.size) hbf.size
  replace hbf := bnext hbf b6
  replace n_x := n_x.below b6
  replace n_y := n_y.below b6
  clear b6
  go_wp2_with fail
  refine (mul_num' n_x n_y (by decide) (by decide)).mono ?_
  rintro e w7 ⟨v7, rfl, x7, b7⟩
  obtain ⟨A7, n7, c7, rfl, -⟩ := id x7
  have t7 := x7.tier
  have z7 := b7.size
  replace xq := xq.next b7
  replace xr := xr.next b7
  replace x4 := x4.next b7
  replace x5 := x5.next b7
  replace x6 := x6.next b7
  replace x7 := x7.from_ (base' := w2.heap.size) hbf.size
  replace hbf := bnext hbf b7
  replace n_x := n_x.below b7
  replace n_y := n_y.below b7
  clear b7
  go_wp2_with fail
  refine (shl_num n_x (by decide) (by omega)).mono ?_
  rintro e w8 ⟨v8, rfl, x8, b8⟩
  obtain ⟨A8, n8, c8, rfl, -⟩ := id x8
  have t8 := x8.tier
  have z8 := b8.size
  replace xq := xq.next b8
  replace xr := xr.next b8
  replace x4 := x4.next b8
  replace x5 := x5.next b8
  replace x6 := x6.next b8
  replace x7 := x7.next b8
  replace x8 := x8.from_ (base' := w2.heap.size) hbf.size
  replace hbf := bnext hbf b8
  replace n_x := n_x.below b8
  replace n_y := n_y.below b8
  clear b8
  go_wp2_with fail
  refine (shr0_num n_x (by decide) (by omega)).mono ?_
  rintro e w9 ⟨v9, rfl, x9, b9⟩
  obtain ⟨A9, n9, c9, rfl, -⟩ := id x9
  have t9 := x9.tier
  have z9 := b9.size
  replace xq := xq.next b9
  replace xr := xr.next b9
  replace x4 := x4.next b9
  replace x5 := x5.next b9
  replace x6 := x6.next b9
  replace x7 := x7.next b9
  replace x8 := x8.next b9
  replace x9 := x9.from_ (base' := w2.heap.size) hbf.size
  replace hbf := bnext hbf b9
  replace n_x := n_x.below b9
  replace n_y := n_y.below b9
  clear b9
  go_wp2_with fail
  obtain ⟨O, hO⟩ : ∃ O : Obj, O = .cells #[.slice A4 n4 c4, .slice A5 n5 c5, .slice A6 n6 c6, .slice A7 n7 c7, .slice Aq nq cq, .slice Ar nr cr, .slice A8 n8 c8, .slice A9 n9 c9] 22 := ⟨_, rfl⟩
  obtain ⟨V, hV⟩ : ∃ V, V = pickV (.slice A4 n4 c4) (.slice A5 n5 c5) (.slice A6 n6 c6) (.slice A7 n7 c7) (.slice Aq nq cq) (.slice Ar nr cr) (.slice A8 n8 c8) (.slice A9 n9 c9) := ⟨_, rfl⟩
  obtain ⟨M, hM⟩ : ∃ M, M = pickN A (A + B) (A - B) (A * B) (A / B) (remZ A B) (A * 2 ^ k) (A / 2 ^ k) 0 := ⟨_, rfl⟩
  have hap := own_apart (.slice A4 n4 c4) (.slice A5 n5 c5) (.slice A6 n6 c6) (.slice A7 n7 c7) (.slice Aq nq cq) (.slice Ar nr cr) (.slice A8 n8 c8) (.slice A9 n9 c9) _ _ _ _ _ _ _ _ _ (own_mono _ _ _ _ _ _ _ _ _ zm z3 z4 z5 z6 z7 z8 z9) (all8 t4 t5 t6 t7 tq tr t8 t9)
  have hlow : ∀ i, i < 8 → Tier w2.heap.size w9.heap.size (pickV (.slice A4 n4 c4) (.slice A5 n5 c5) (.slice A6 n6 c6) (.slice A7 n7 c7) (.slice Aq nq cq) (.slice Ar nr cr) (.slice A8 n8 c8) (.slice A9 n9 c9) i) := all8 (t4.mono (by omega) (by omega)) (t5.mono (by omega) (by omega)) (t6.mono (by omega) (by omega)) (t7.mono (by omega) (by omega)) (tq.mono (by omega) (by omega)) (tr.mono (by omega) (by omega)) (t8.mono (by omega) (by omega)) (t9.mono (by omega) (by omega))
  have hnw : ∀ i, i < 8 → New w9 w2.heap.size (pickV (.slice A4 n4 c4) (.slice A5 n5 c5) (.slice A6 n6 c6) (.slice A7 n7 c7) (.slice Aq nq cq) (.slice Ar nr cr) (.slice A8 n8 c8) (.slice A9 n9 c9) i) (limbs (pickN A (A + B) (A - B) (A * B) (A / B) (remZ A B) (A * 2 ^ k) (A / 2 ^ k) 0 i)) := all8 x4 x5 x6 x7 xq xr x8 x9
  have hcl : ∀ w' : World, w'.heap[w9.heap.size]? = some O → ∀ i, i < 8 → w'.cell? ⟨w9.heap.size, i, none⟩ = some (pickV (.slice A4 n4 c4) (.slice A5 n5 c5) (.slice A6 n6 c6) (.slice A7 n7 c7) (.slice Aq nq cq) (.slice Ar nr cr) (.slice A8 n8 c8) (.slice A9 n9 c9) i) := by
    intro w' hw'
    subst hO
    refine all8 ?_ ?_ ?_ ?_ ?_ ?_ ?_ ?_ <;> (rw [cell_of_row w' _ _ _ _ (0, 0) hw']; rfl)
  rw [← hV] at hap hlow hnw hcl
  rw [← hM] at hnw
  have hst : OwnAt w2 w9.heap.size O V M 0 (w9.alloc O) := ⟨fun i _ hi => (hnw i hi).next ((Below.refl _ _).alloc (Nat.le_refl _) _), heap_alloc_new w9 O, bnew hbf _⟩
  rw [hO] at hst
  rw [hO] at hcl
  have HST := Lib.hid hst
  have HC := Lib.hid hcl
  have HAP := Lib.hid (And.intro hap hlow)
  clear hap hlow hnw hcl hst x4 x5 x6 x7 xq xr x8 x9 t4 t5 t6 t7 tq tr t8 t9 zm z3 z4 z5 z6 z7 z8 z9 n_x n_y hO hV hM O hbf
  go_loopw [58] (fun t wr => ∃ j : Nat, j ≤ 8 ∧ t = .int .i64 j ∧ OwnAt w2 w9.heap.size (.cells #[.slice A4 n4 c4, .slice A5 n5 c5, .slice A6 n6 c6, .slice A7 n7 c7, .slice Aq nq cq, .slice Ar nr cr, .slice A8 n8 c8, .slice A9 n9 c9] 22) V M j wr) (fun t _ => 8 - (intOf t).toNat)
  case atStart => exact ⟨0, by omega, rfl, HST.out⟩
  case round =>
    obtain ⟨j, hj, rfl, hin⟩ := hrel
    obtain ⟨wo, rfl⟩ : ∃ wo : World, wo = wr := ⟨_, rfl⟩
    by_cases hj8 : j < 8
    · have hcell := HC.out _ hin.list j hj8
      have hnew := hin.new j (Nat.le_refl _) hj8
      have HIN := Lib.hid hin
      have hj8i : (j : Int) < 8 := by omega
      obtain ⟨Al, nl, cl, eV, sl, hcl⟩ := id hnew
      rw [eV] at hcell hnew
      have HEV := Lib.hid eV
      clear hin eV
      rcases nl with _ | m
      · have HI : Hid (OwnAt w2 w9.heap.size (.cells #[.slice A4 n4 c4, .slice A5 n5 c5, .slice A6 n6 c6, .slice A7 n7 c7, .slice Aq nq cq, .slice Ar nr cr, .slice A8 n8 c8, .slice A9 n9 c9] 22) V M (j + 1) wo) := ⟨fun i h1 h2 => HIN.out.new i (by omega) h2, HIN.out.list, HIN.out.bel⟩
        clear hnew hcl sl
        go_wp2_with fail
        refine wp_loop_rounds 1 ?_
        rw [rounds_succ]
        go_wp2_with fail
        go_roundw
        case rel => exact ⟨j + 1, by omega, by go_num, HI.out⟩
        case measure => simp [intOf]; omega
      · have hml := sl.le
        have hmx := sl.max
        unfold maxLen at hmx
        have htop := limbs_top (M j) m sl.len.symm
        have hx := sl.ok.getD m
        rcases hcl with ⟨_, hc0⟩ | ⟨g, cur, rfl, hg, hh, hz⟩
        · omega
        · obtain ⟨b', off, e, _, hc⟩ := sl.here (by omega)
          simp only [Option.some.injEq, Addr.mk.injEq] at e
          obtain ⟨rfl, rfl, _⟩ := e
          have hcm := hc m (by omega)
          rw [Nat.zero_add] at hcm
          have hrow := new_row hnew
          have hzz : (((lim (limbs (M j)) m : Nat) : Int) == 0) = false := beq_eq_false_iff_ne.2 (by omega)
          have hmi : (m : Int) + 1 ≤ 9223372036854775807 := by omega
          have HR := Lib.hid hrow
          clear hrow hc hh hz htop hnew sl
          go_wp2_with fail
          go_loopw [76] (fun t ws => ∃ i : Nat, i ≤ m + 1 ∧ t = .int .i64 i ∧ NRow ws g (m + 1) ∧ Only g wo ws) (fun t _ => m + 1 - (intOf t).toNat)
          case atStart => exact ⟨0, by omega, rfl, HR.out, Only.refl _ _⟩
          case round =>
            obtain ⟨i, hi, rfl, hrow, ho⟩ := hrel
            by_cases hil : i < m + 1
            · obtain ⟨x, hxx, hcx⟩ := hrow.cell i hil
              have hf := hrow.frozen i
              have hii : (i : Int) < (m : Int) + 1 := by omega
              have HROW := Lib.hid hrow
              clear hrow
              go_wp2_with fail
              go_roundw
              case rel => exact ⟨i + 1, by omega, by go_num, HROW.out.set_ i ((x + 1) % 4294967296) (by omega) (by omega), ho.trans (Only.setCell _ _ _ _)⟩
              case measure => simp [intOf]; omega
            · have HI : Hid (OwnAt w2 w9.heap.size (.cells #[.slice A4 n4 c4, .slice A5 n5 c5, .slice A6 n6 c6, .slice A7 n7 c7, .slice Aq nq cq, .slice Ar nr cr, .slice A8 n8 c8, .slice A9 n9 c9] 22) V M (j + 1) wr) := by
                have hgo : (V j).ownBlock = some g := by rw [HEV.out]; rfl
                have hlo := HAP.out.2 j hj8 g hgo
                refine ⟨fun i h1 h2 => (HIN.out.new i (by omega) h2).apart ho (HAP.out.1 j i hj8 h2 (by omega) g hgo), (ho.block _ (by omega)).trans HIN.out.list, HIN.out.bel.trans (ho.below hlo.1)⟩
              clear ho hrow
              obtain rfl : i = m + 1 := by omega
              go_wp2_with fail
              go_roundw
              case rel => exact ⟨j + 1, by omega, by go_num, HI.out⟩
              case measure => simp [intOf]; omega
    · obtain rfl : j = 8 := by omega
      have hbel := hin.bel
      clear hin
      replace hb := bnext hb hbel
      have t0 := HF.out.1.below hbel
      have t1 := HF.out.2.1.below hbel
      have sx := HF.out.2.2.1.below hbel
      have sy := HF.out.2.2.2.below hbel
      go_wp2_with fail
      refine (same_yes _ _ _ _ _ _ _ sx t0 (by omega)).mono ?_
      rintro e wa ⟨rfl, ba⟩
      replace hb := bnext hb ba
      replace t1 := t1.below ba
      replace sy := sy.below ba
      go_wp2_with fail
      refine (same_yes _ _ _ _ _ _ _ sy t1 (by omega)).mono ?_
      rintro e wb ⟨rfl, bb⟩
      replace hb := bnext hb bb
      go_wp2_with fail
      refine (lives_yes _).mono ?_
      rintro e wc ⟨rfl, bc⟩
      replace hb := bnext hb bc
      go_wp2_with fail
      go_ret
      exact ⟨rfl, hb⟩

set_option maxHeartbeats 800000 in
theorem natOwn_big (a0 : Option Addr) (len0 cap0 : Nat) (a1 : Option Addr) (len1 cap1 : Nat) (nn : Int) (w : World) (m0 : len0 ≤ maxLen) (m1 : len1 ≤ maxLen) (h : 40 < len0 ∨ 40 < len1)  :
    Calls Tryd.prog 3 #[.slice a0 len0 cap0, .slice a1 len1 cap1, .int .u64 nn] w fun e w' => e = .returned (.bool true) ∧ Below w.heap.size w w' := by
  have hall : ∀ i, i < 2 → ∃ A n c, (w.alloc (.cells #[.slice a0 len0 cap0, .slice a1 len1 cap1] 22)).cell? ⟨w.heap.size, i, none⟩ = some (.slice A n c) ∧ n ≤ maxLen := by
    intro i hi
    rcases (show i = 0 ∨ i = 1 by omega) with rfl | rfl
    · exact ⟨a0, len0, cap0, by simp, m0⟩
    · exact ⟨a1, len1, cap1, by simp, m1⟩
  obtain ⟨m, hm, hbig⟩ : ∃ m, m < 2 ∧ ∃ A n c, (w.alloc (.cells #[.slice a0 len0 cap0, .slice a1 len1 cap1] 22)).cell? ⟨w.heap.size, m, none⟩ = some (.slice A n c) ∧ 40 < n := by
    rcases h with h | h
    · exact ⟨0, by omega, a0, len0, cap0, by simp, h⟩
    · exact ⟨1, by omega, a1, len1, cap1, by simp, h⟩
  have HA := Lib.hid (And.intro hall hbig)
  clear hall hbig h m0 m1
  have hb : Below w.heap.size w (w.alloc (.cells #[.slice a0 len0 cap0, .slice a1 len1 cap1] 22)) := (Below.refl _ _).alloc (Nat.le_refl _) _
  go_enter Tryd.func3, Tryd.ntmps3
  go_wp2_with fail
  refine (small_no w.heap.size 2 _ (by decide) HA.out.1 m hm HA.out.2).mono ?_
  rintro e w0 ⟨rfl, rfl⟩
  go_wp2_with fail
  refine (lives_yes _).mono ?_
  rintro e w1 ⟨rfl, b1⟩
  go_wp2_with fail
  go_ret
  exact ⟨rfl, bnext hb b1⟩

theorem natOwn_walk (a0 : Option Addr) (len0 cap0 : Nat) (ys0 : List Nat) (a1 : Option Addr) (len1 cap1 : Nat) (ys1 : List Nat) (nn : Int) (w : World) (s0 : Sl w a0 len0 cap0 ys0) (s1 : Sl w a1 len1 cap1 ys1) (hn : (Lit.int .u64 nn).wf = true) :
    Calls Tryd.prog 3 #[.slice a0 len0 cap0, .slice a1 len1 cap1, .int .u64 nn] w fun e w' => e = .returned (.bool true) ∧ Below w.heap.size w w' := by
  have hbd := bounds_u64 hn
  by_cases h : 40 < len0 ∨ 40 < len1
  · exact natOwn_big a0 len0 cap0 a1 len1 cap1 nn w (Nat.le_trans s0.le s0.max) (Nat.le_trans s1.le s1.max) h
  · exact natOwn_small _ _ _ _ _ _ _ _ ys0 ys1 (nn % 100).toNat nn w (Num.of_sl s0 (by omega)) (Num.of_sl s1 (by omega)) (by omega) (by omega) s0 s1 rfl rfl (by omega) (by omega) hbd.1 hbd.2
end Go.Proofs.YtjildimhflondaaDoor
