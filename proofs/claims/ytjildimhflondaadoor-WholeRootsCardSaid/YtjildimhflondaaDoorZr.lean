/-
  The document's own whole numbers: Root.
-/
import Derived.Test.YtjildimhflondaaDoorZb
import Derived.Test.YtjildimhflondaaDoorZa
namespace Go.Proofs.YtjildimhflondaaDoor
open Go.RowKit
section
variable {w : World} {u v : Value} {a b : Int} {K L : Nat}
set_option maxHeartbeats 6400000 in
theorem rwroot_num (hu : Wh w u a K) (hK : K ≤ 200) : Calls Tryd.prog 44 #[u] w (W3 w (rtQ a) (rtR a) (rtE a)) := by
  have la := hu.lt
  obtain ⟨s, xA, xN, xC, rfl, hx0⟩ := hu.opened
  obtain ⟨W, hW, hp, hr, ht, hb⟩ := enter1rr w (.bool s) (.slice xA xN xC)
  have HN := Lib.hid (rwnorm_num (hx0.out.below hb) (by omega))
  have hgt := ht.lt
  have e0 := hp.c0
  have e1 := hp.c1
  rw [hW] at e0 e1
  clear hu hx0
  by_cases hneg : a < 0
  · have HZ := Lib.hid (show rtQ a = 0 ∧ rtR a = 0 ∧ rtE a = 2 by unfold rtQ rtR rtE; simp only [if_pos hneg]; exact ⟨trivial, trivial, trivial⟩)
    have HS := Lib.hid hneg
    clear hneg
    go_enter Tryd.func44, Tryd.ntmps44
    go_wp2_with fail
    rw [← hW]
    refine HN.out.mono ?_
    rintro e w1 ⟨v, rfl, x1, b1⟩
    obtain ⟨sg, xa, xn, xc, rfl, y1⟩ := x1.opened
    obtain rfl : sg = true := by rw [y1.out.neg]; exact decide_eq_true HS.out
    clear x1 y1 e0 e1 HN hW
    have b2 : Below w1.heap.size w1 (w1.alloc (.cells #[.bool true, .slice xa xn xc] 36)) := bnew (Below.refl _ _) _
    replace hr := hr.next (bnext b1 b2)
    replace ht := ht.next (bnext b1 b2)
    have hB := bnext hb (bnext b1 b2)
    obtain ⟨q1, q2, q3, q4, q5, q6⟩ := hr.room (.bool false)
    obtain ⟨p1, p2, p3, p4, p5, p6⟩ := hr.room2 ht (Nat.succ_ne_self _) (.bool false) (.slice none 0 0) (.bool false)
    go_wp2_with fail
    rw [HZ.out.1, HZ.out.2.1, HZ.out.2.2]
    exact wret3 rfl rfl rfl rfl rfl hr ht (by omega) (WNew.zero _ w.heap.size) (WNew.zero _ w.heap.size) (Nat.le_refl _) (Nat.le_refl _) (by omega) (by omega) hB
  · obtain ⟨m, rfl⟩ : ∃ m : Nat, a = (m : Int) := ⟨a.natAbs, by omega⟩
    have HZ := Lib.hid (show rtQ (m : Int) = (rootN m : Int) ∧ rtR (m : Int) = ((m : Int) - (rootN m : Int) * (rootN m : Int)) ∧ rtE (m : Int) = 0 by
      unfold rtQ rtR rtE
      simp only [if_neg hneg, Int.natAbs_natCast]
      have := rootN_sq m
      refine ⟨trivial, ?_, trivial⟩
      rw [← Int.natCast_mul]; omega)
    rw [Int.natAbs_natCast] at la
    clear hneg
    go_enter Tryd.func44, Tryd.ntmps44
    go_wp2_with fail
    rw [← hW]
    refine HN.out.mono ?_
    rintro e w1 ⟨v, rfl, x1, b1⟩
    obtain ⟨sg, xa, xn, xc, rfl, y1⟩ := x1.opened
    obtain rfl : sg = false := by rw [y1.out.neg]; exact decide_eq_false (by omega)
    clear x1 e0 e1 HN
    have hWs := hb.size
    have vx := Var.mk_ w1 (.bool false) (.slice xa xn xc)
    have b2 : Below w1.heap.size w1 (w1.alloc (.cells #[.bool false, .slice xa xn xc] 36)) := bnew (Below.refl _ _) _
    have x1 := Lib.hid ((y1.out.next b2).from_ hWs)
    replace hr := hr.next (bnext b1 b2)
    replace ht := ht.next (bnext b1 b2)
    have hB := bnext hb (bnext b1 b2)
    have hw1 := (bnext hb b1).size
    have hgr1 : w.heap.size + 1 + 1 < w1.heap.size := Nat.lt_of_lt_of_le hgt b1.size
    clear y1 b2 b1 hp hW hb hWs
    have e0 := vx.c0
    go_wp2_with fail
    clear e0
    generalize w1.alloc (.cells #[.bool false, .slice xa xn xc] 36) = w2 at *
    refine (rwof_num 0 _ (by decide) (by decide)).mono ?_
    rintro e w3 ⟨v, rfl, x2, b3⟩
    obtain ⟨rs, ra, rn, rc, rfl, y2⟩ := x2.opened
    obtain rfl : rs = false := y2.out.neg.trans (by decide)
    have vxl := vx.lt
    have hw2 := b3.size
    have vr := Var.mk_ w3 (.bool false) (.slice ra rn rc)
    have b4 : Below w3.heap.size w3 (w3.alloc (.cells #[.bool false, .slice ra rn rc] 36)) := bnew (Below.refl _ _) _
    have b34 := bnext b3 b4
    have x2 := Lib.hid ((y2.out.next b4).from_ hB.size)
    replace hr := hr.next b34
    replace ht := ht.next b34
    replace vx := vx.next b34
    replace x1 := Lib.hid (x1.out.next b34)
    replace hB := bnext hB b34
    clear y2 b3 b4 b34
    have e0 := vx.c1
    go_wp2_with fail
    clear e0
    generalize w3.alloc (.cells #[.bool false, .slice ra rn rc] 36) = w4 at *
    have hxn := x1.out.num_ K (by rw [Int.natAbs_natCast]; exact la)
    rw [Int.natAbs_natCast] at hxn
    refine (rbits_num hxn (by omega)).mono ?_
    rintro e w5 ⟨rfl, b5⟩
    have hbl := bl_bd la
    have hst := root_start m
    clear hxn
    replace hr := hr.next b5
    replace ht := ht.next b5
    replace vx := vx.next b5
    replace vr := vr.next b5
    replace x1 := Lib.hid (x1.out.next b5)
    replace x2 := Lib.hid (x2.out.next b5)
    replace hB := bnext hB b5
    clear b5
    generalize bl m = c at *
    have hc1 : (c : Int) ≤ 6400 := by omega
    have hst := Lib.hid hst
    have hcd : c / 2 + 1 ≤ 3201 := by omega
    clear hbl
    go_wp2_with fail
    have hgx : w1.heap.size ≠ w3.heap.size := by omega
    have hgx' : w3.heap.size ≠ w1.heap.size := fun e => hgx e.symm
    have hw0 : w.heap.size + 1 + 1 < w1.heap.size := hgr1
    have hgn1 : w.heap.size + 1 ≠ w3.heap.size := by omega
    have hgn2 : w.heap.size + 1 + 1 ≠ w3.heap.size := by omega
    have hg3 : w.heap.size ≤ w3.heap.size := by omega
    generalize w1.heap.size = gx at *
    generalize w3.heap.size = gr at *
    go_loopg [7, 8] (c / 2 + 1) (fun k i t wr => ∃ r na nn nc, i = .int .i64 ((k : Int) - 1) ∧ r * r ≤ m ∧ Hid (m < (r + 2 ^ k) * (r + 2 ^ k)) ∧ k ≤ 3201 ∧ Var wr gx (.bool false) (.slice xa xn xc) ∧ Var wr gr (.bool false) (.slice na nn nc) ∧ Hid (WNew wr w.heap.size (.agg #[.bool false, .slice na nn nc]) (r : Int)) ∧ Hid (WNew wr w.heap.size (.agg #[.bool false, .slice xa xn xc]) (m : Int)) ∧ Var wr (w.heap.size + 1) (.bool false) (.slice none 0 0) ∧ Var wr (w.heap.size + 1 + 1) (.bool false) (.slice none 0 0) ∧ Below w.heap.size w wr)
    case atStart => exact ⟨0, _, _, _, by congr 1; omega, Nat.zero_le _, hst, hcd, vx, vr, x2, x1, hr, ht, hB⟩
    case round =>
      obtain ⟨r, na, nn, nc, rfl, hrr, hmr, hk, vx', vr', x2', x1', hr', ht', hB'⟩ := hrel
      clear vx vr x2 x1 hr ht hB hst hcd hc1
      have vx := vx'
      have vr := vr'
      have x2 := x2'
      have x1 := x1'
      have hr := hr'
      have ht := ht'
      have hB := hB'
      clear vx' vr' x2' x1' hr' ht' hB'
      have lr : r < 4294967296 ^ K := Nat.lt_of_le_of_lt (Nat.le_trans (by rcases Nat.eq_zero_or_pos r with h | h; rw [h]; exact Nat.zero_le _; exact Nat.le_mul_of_pos_left _ h) hrr) la
      have LA := Lib.hid la
      by_cases h0 : gk = 0
      · subst h0
        obtain rfl : r = rootN m := root_end hrr hmr.out
        have lq := lt_up (lt_mulZ (a := (rootN m : Int)) (b := (rootN m : Int)) (K := K) (L := K) (by rw [Int.natAbs_natCast]; exact lr) (by rw [Int.natAbs_natCast]; exact lr)) (show K + K ≤ 400 by omega)
        have HX := Lib.hid (And.intro lr lq)
        clear hrr hmr hk lr lq la
        go_wp2_with fail
        replace hr := hr.drew
        replace ht := ht.drew
        replace vx := vx.drew
        replace vr := vr.drew
        replace x1 := Lib.hid (x1.out.next (Below.refl _ _).drew)
        replace x2 := Lib.hid (x2.out.next (Below.refl _ _).drew)
        replace hB := hB.drew
        have f0 := vr.c0
        have f1 := vr.c1
        have f2 := vx.c0
        have f3 := vx.c1
        go_region_held3 (fun w' => w'.cell? ⟨gr, 0, none⟩ = some (.bool false) ∧ w'.cell? ⟨gr, 1, none⟩ = some (.slice na nn nc) ∧ w'.cell? ⟨gx, 0, none⟩ = some (.bool false) ∧ w'.cell? ⟨gx, 1, none⟩ = some (.slice xa xn xc))
          (first | with_reducible exact ⟨f0, f1, f2, f3⟩ | with_reducible exact ⟨vr5.c0, vr5.c1, vx5.c0, vx5.c1⟩ | with_reducible exact ⟨vr6.c0, vr6.c1, vx6.c0, vx6.c1⟩ | with_reducible exact ⟨((vr6.far (by dsimp only; omega) _).far (by dsimp only; omega) _).c0, ((vr6.far (by dsimp only; omega) _).far (by dsimp only; omega) _).c1, ((vx6.far (by dsimp only; omega) _).far (by dsimp only; omega) _).c0, ((vx6.far (by dsimp only; omega) _).far (by dsimp only; omega) _).c1⟩ | with_reducible exact ⟨((((vr6.far (by dsimp only; omega) _).far (by dsimp only; omega) _).far (by dsimp only; omega) _).far (by dsimp only; omega) _).c0, ((((vr6.far (by dsimp only; omega) _).far (by dsimp only; omega) _).far (by dsimp only; omega) _).far (by dsimp only; omega) _).c1, ((((vx6.far (by dsimp only; omega) _).far (by dsimp only; omega) _).far (by dsimp only; omega) _).far (by dsimp only; omega) _).c0, ((((vx6.far (by dsimp only; omega) _).far (by dsimp only; omega) _).far (by dsimp only; omega) _).far (by dsimp only; omega) _).c1⟩ | go_keep)
          (first
          | (go_at_call 30; refine (rwmul_num (x2.out.wh K (by rw [Int.natAbs_natCast]; exact HX.out.1)) (x2.out.wh K (by rw [Int.natAbs_natCast]; exact HX.out.1)) (by omega) (by omega)).mono ?_; rintro e w5 ⟨o1, rfl, xm, b5⟩; have vr5 := vr.next b5; have vx5 := vx.next b5; have x15 := Lib.hid (x1.out.next b5); have x25 := Lib.hid (x2.out.next b5); have hr5 := hr.next b5; have ht5 := ht.next b5)
          | (go_at_call 28; refine (rwsub_num (x15.out.wh K (by rw [Int.natAbs_natCast]; exact LA.out)) (xm.wh 400 HX.out.2) (by omega) (by omega)).mono ?_; rintro e w6 ⟨o2, rfl, xs, b6⟩; obtain ⟨t1, pa, pn, pc, rfl, xs6⟩ := xs.opened; have vr6 := vr5.next b6; have vx6 := vx5.next b6; have x26 := Lib.hid (x25.out.next b6); have hr6 := hr5.next b6; have ht6 := ht5.next b6; obtain ⟨q1, q2, q3, q4, q5, q6⟩ := hr6.room (.bool false); obtain ⟨p1, p2, p3, p4, p5, p6⟩ := hr6.room2 ht6 (Nat.succ_ne_self _) (.bool false) (.slice na nn nc) (.bool t1)))
        go_wp2_with fail
        rw [HZ.out.1, HZ.out.2.1, HZ.out.2.2]
        exact wret3 rfl rfl rfl rfl rfl hr6 ht6 (by omega) x26.out xs6.out (Nat.le_refl _) (bnext hB b5).size (by omega) (by omega) (bnext (bnext hB b5) b6)
      · obtain ⟨j, rfl⟩ : ∃ j, gk = j + 1 := ⟨gk - 1, by omega⟩
        have hj : (((j + 1 : Nat) : Int) - 1) = (j : Int) := by omega
        rw [hj]
        have hj1 : (j : Int) ≤ 3200 := by omega
        have hjN : j ≤ 3200 := by omega
        have hk' : j ≤ 3201 := by omega
        clear h0 hj hk
        have l2 : 2 ^ j < 4294967296 ^ 101 := pow_bd j 101 (by omega)
        have lt : ((r : Int) + ((2 ^ j : Nat) : Int)).natAbs < 4294967296 ^ (K + 102) := lt_up (lt_addZ (K := K) (L := 101) (by rw [Int.natAbs_natCast]; exact lr) (by rw [Int.natAbs_natCast]; exact l2)) (by omega)
        have LT := Lib.hid (And.intro l2 (And.intro lr lt))
        have hez : ((2 ^ j : Nat) : Int) = zOf false (2 ^ j) := rfl
        obtain ⟨q, hq⟩ : ∃ q, q = 2 ^ j := ⟨_, rfl⟩
        have HQ := Lib.hid hq
        rw [← hq] at LT
        clear l2 lr lt la hq hez
        go_wp2_with fail
        refine wp_region_phases (nA := 7) (by kernel_rfl) (by kernel_rfl) (fun i => if i < 6 then 24 + i else 8)
          (fun i W v => match i with
            | 0 => v = .agg #[.bool false, .slice na nn nc]
            | 1 => Num W v 1 1
            | 2 => v = .int .i64 (j : Int)
            | 3 => New W wr.heap.size v (limbs q)
            | 4 => ∃ A n c, v = .agg #[.bool false, .slice A n c] ∧ New W wr.heap.size (.slice A n c) (limbs q)
            | 5 => WNew W wr.heap.size v ((r : Int) + (q : Int))
            | _ => ∃ g, v = .pointer (some ⟨g, 0, none⟩) ∧ wr.heap.size ≤ g ∧ Var W g (.bool false) (.slice none 0 0)) (by decide) (by kernel_rfl)
          (fun i j hi hj h => by split at h <;> split at h <;> omega) (fun i hi => by simp only [List.size_toArray, List.length_cons, List.length_nil]; split <;> omega) ?_ ?_ ?_
        · intro i hi W W' v h hb
          rcases (show i = 0 ∨ i = 1 ∨ i = 2 ∨ i = 3 ∨ i = 4 ∨ i = 5 ∨ i = 6 by omega) with rfl | rfl | rfl | rfl | rfl | rfl | rfl
          · exact h
          · exact Num.below h hb
          · exact h
          · exact New.next h hb
          · obtain ⟨A, n, c, e, hn⟩ := h; exact ⟨A, n, c, e, hn.next hb⟩
          · exact WNew.next h hb
          · obtain ⟨g, e, hg, hv⟩ := h; exact ⟨g, e, hg, hv.next hb⟩
        · intro i hi l A W I hdep
          rcases (show i = 0 ∨ i = 1 ∨ i = 2 ∨ i = 3 ∨ i = 4 ∨ i = 5 ∨ i = 6 by omega) with rfl | rfl | rfl | rfl | rfl | rfl | rfl
          · refine wpOp_plain rfl rfl ?_
            unfold Oper.wp
            rw [exec_load rfl ((I.other 6 (by intro j hj; split <;> omega)).trans rfl) (vr.below I.below vr.lt), Oper.upon_value]
            exact ⟨_, rfl, rfl, Below.refl _ _⟩
          · refine wpOp_plain rfl rfl ?_
            unfold Oper.wp
            rw [exec_one rfl, Oper.upon_value]
            exact ⟨_, rfl, ⟨_, _, _, _, rfl, (Blk.lit1 W 1).slAll (Ok.cons (by decide) Ok.nil) (by unfold maxLen; simp), by simp [val], by simp⟩, bnew (Below.refl _ _) _⟩
          · refine wpOp_plain rfl rfl ?_
            unfold Oper.wp
            rw [exec_move rfl, Oper.upon_value]
            exact ⟨_, rfl, (I.other 7 (by intro j hj; split <;> omega)).trans rfl, Below.refl _ _⟩
          · have v0 : Num W (A.tmps.getD 25 undef) 1 1 := I.val 1 (by decide) (hdep 1 (by kernel_rfl))
            have v1 : A.tmps.getD 26 undef = .int .i64 (j : Int) := I.val 2 (by decide) (hdep 2 (by kernel_rfl))
            refine wpOp_plain rfl rfl ?_
            unfold Oper.wp
            rw [exec_call2 rfl, v1]
            generalize A.tmps.getD 25 undef = v at *
            rw [show (callFunc 76 #[v, .int .i64 (j : Int)]).run Tryd.prog W = .ok (.enter 76 #[v, .int .i64 (j : Int)]) W by simp [go_sem], Oper.upon_enter]
            refine (rshl_num v0 (by decide) (by omega)).mono ?_
            rintro e w5 ⟨v, rfl, hv, hb5⟩
            rw [Nat.one_mul, ← HQ.out] at hv
            exact ⟨_, rfl, hv.from_ I.below.size, hb5⟩
          · have v0 : New W wr.heap.size (A.tmps.getD 27 undef) (limbs q) := I.val 3 (by decide) (hdep 3 (by kernel_rfl))
            obtain ⟨A', n', c', e, -, -⟩ := v0.nought
            rw [e] at v0
            refine wpOp_plain rfl rfl ?_
            unfold Oper.wp
            rw [exec_limbs rfl e, Oper.upon_value]
            exact ⟨_, rfl, ⟨_, _, _, rfl, v0⟩, Below.refl _ _⟩
          · have v0 : A.tmps.getD 24 undef = .agg #[.bool false, .slice na nn nc] := I.val 0 (by decide) (hdep 0 (by kernel_rfl))
            have v1 : ∃ A' n c, A.tmps.getD 28 undef = .agg #[.bool false, .slice A' n c] ∧ New W wr.heap.size (.slice A' n c) (limbs q) := I.val 4 (by decide) (hdep 4 (by kernel_rfl))
            obtain ⟨A', n', c', e, hn⟩ := v1
            refine wpOp_plain rfl rfl ?_
            unfold Oper.wp
            rw [exec_call2 rfl, v0, e, show (callFunc 26 #[.agg #[.bool false, .slice na nn nc], .agg #[.bool false, .slice A' n' c']]).run Tryd.prog W = .ok (.enter 26 #[.agg #[.bool false, .slice na nn nc], .agg #[.bool false, .slice A' n' c']]) W by simp [go_sem], Oper.upon_enter]
            refine (rwadd_num (b := (q : Int)) ((x2.out.next I.below).wh K (by rw [Int.natAbs_natCast]; exact LT.out.2.1)) ⟨false, _, q, rfl, hn.num 101 LT.out.1, rfl⟩ (by omega) (by omega)).mono ?_
            rintro e w5 ⟨v, rfl, hv, hb5⟩
            exact ⟨_, rfl, hv.from_ I.below.size, hb5⟩
          · refine wpOp_plain rfl rfl ?_
            unfold Oper.wp
            rw [exec_alloc rfl, Oper.upon_value]
            exact ⟨_, rfl, ⟨_, rfl, I.below.size, Var.mk_ W _ _⟩, bnew (Below.refl _ _) _⟩
        intro A w7 hdf hsz hoth hval hb7
        have v0 : A.tmps.getD 24 undef = _ := hval 0 (by decide)
        have v2 : A.tmps.getD 26 undef = _ := hval 2 (by decide)
        have v5 : WNew w7 wr.heap.size (A.tmps.getD 29 undef) ((r : Int) + (q : Int)) := hval 5 (by decide)
        obtain ⟨g8, v6, hg8, vt⟩ : ∃ g, A.tmps.getD 8 undef = .pointer (some ⟨g, 0, none⟩) ∧ wr.heap.size ≤ g ∧ Var w7 g (.bool false) (.slice none 0 0) := hval 6 (by decide)
        obtain ⟨u1, hu1⟩ : ∃ u, A.tmps.getD 25 undef = u := ⟨_, rfl⟩
        obtain ⟨u3, hu3⟩ : ∃ u, A.tmps.getD 27 undef = u := ⟨_, rfl⟩
        obtain ⟨u4, hu4⟩ : ∃ u, A.tmps.getD 28 undef = u := ⟨_, rfl⟩
        obtain ⟨u5, hu5⟩ : ∃ u, A.tmps.getD 29 undef = u := ⟨_, rfl⟩
        rw [hu5] at v5
        obtain ⟨tb, ta, tn, tc, rfl, xt7⟩ := v5.opened
        have hA := tower_pairs (a := A) [(24, .agg #[.bool false, .slice na nn nc]), (25, u1), (26, .int .i64 (j : Int)), (27, u3), (28, u4), (29, .agg #[.bool tb, .slice ta tn tc]), (8, .pointer (some ⟨g8, 0, none⟩))] ?_ ?_ hdf hsz (fun n hn => hoth n (fun j hj => by
          simp only [List.forall_mem_cons] at hn
          obtain ⟨k0, k1, k2, k3, k4, k5, k6, -⟩ := hn
          rcases (show j = 0 ∨ j = 1 ∨ j = 2 ∨ j = 3 ∨ j = 4 ∨ j = 5 ∨ j = 6 by omega) with rfl | rfl | rfl | rfl | rfl | rfl | rfl
          · exact k0
          · exact k1
          · exact k2
          · exact k3
          · exact k4
          · exact k5
          · exact k6))
        rotate_left
        · intro p hp
          simp only [List.mem_cons, List.not_mem_nil, or_false] at hp
          rcases hp with rfl | rfl | rfl | rfl | rfl | rfl | rfl <;> simp
        · intro p hp
          simp only [List.mem_cons, List.not_mem_nil, or_false] at hp
          rcases hp with rfl | rfl | rfl | rfl | rfl | rfl | rfl
          · exact v0
          · exact hu1
          · exact v2
          · exact hu3
          · exact hu4
          · exact hu5
          · exact v6
        clear v0 v2 v5 v6 hu1 hu3 hu4 hu5 hval hoth hsz hdf
        subst hA
        have hgl := vx.lt
        have hgl2 := vr.lt
        have hgl3 := ht.lt
        have m1 : gx ≠ g8 := by omega
        have m2 : gr ≠ g8 := by omega
        have m3 : w.heap.size + 1 ≠ g8 := by omega
        have m4 : w.heap.size + 1 + 1 ≠ g8 := by omega
        have m5 : w.heap.size ≤ g8 := Nat.le_trans hB.size hg8
        show wpOps _ _ _ [7] _ _
        simp only [List.foldl, Act.put, List.setIfInBounds_toArray, List.set_cons_zero, List.set_cons_succ]
        rw [wpOps_cons]
        refine wpOp_plain (o := { dst := none, op := .store 36 (.tmp 8) (.tmp 29), type := _, pos := _, after := _, guard := none }) rfl rfl ?_
        unfold Oper.wp
        rw [exec_store rfl rfl rfl vt, Oper.upon_skip]
        simp only [wpOps, Act.put]
        replace xt7 := Lib.hid ((WNew.farSet (vt.set0 (.bool tb)) (WNew.farSet vt xt7.out 0 (.bool tb)) 1 (.slice ta tn tc)).from_ hB.size)
        replace x1 := Lib.hid (WNew.farSet (vt.set0 (.bool tb)) (WNew.farSet vt (x1.out.next hb7) 0 (.bool tb)) 1 (.slice ta tn tc))
        replace x2 := Lib.hid (WNew.farSet (vt.set0 (.bool tb)) (WNew.farSet vt (x2.out.next hb7) 0 (.bool tb)) 1 (.slice ta tn tc))
        replace vx := ((vx.next hb7).far (p := ⟨g8, 0, none⟩) m1 (.bool tb)).far (p := ⟨g8, 1, none⟩) m1 (.slice ta tn tc)
        replace vr := ((vr.next hb7).far (p := ⟨g8, 0, none⟩) m2 (.bool tb)).far (p := ⟨g8, 1, none⟩) m2 (.slice ta tn tc)
        replace hr := ((hr.next hb7).far (p := ⟨g8, 0, none⟩) m3 (.bool tb)).far (p := ⟨g8, 1, none⟩) m3 (.slice ta tn tc)
        replace ht := ((ht.next hb7).far (p := ⟨g8, 0, none⟩) m4 (.bool tb)).far (p := ⟨g8, 1, none⟩) m4 (.slice ta tn tc)
        replace hB := ((bnext hB hb7).setCell (p := ⟨g8, 0, none⟩) m5 (.bool tb)).setCell (p := ⟨g8, 1, none⟩) m5 (.slice ta tn tc)
        replace vt := (vt.set0 (.bool tb)).set1 (.slice ta tn tc)
        clear hb7 hgl hgl2 hgl3 hg8
        generalize (w7.setCell ⟨g8, 0, none⟩ (.bool tb)).setCell ⟨g8, 1, none⟩ (.slice ta tn tc) = w8 at *
        have htn : 0 ≤ (r : Int) + (q : Int) := by omega
        obtain rfl : tb = false := xt7.out.neg.trans (decide_eq_false (by omega))
        clear htn
        have hmul : ((r : Int) + (q : Int)) * ((r : Int) + (q : Int)) = (((r + q) * (r + q) : Nat) : Int) := by rw [Int.natCast_mul, Int.natCast_add]
        have lm := lt_mulZ LT.out.2.2 LT.out.2.2
        have hcz := cmpZ_le (((r : Int) + (q : Int)) * ((r : Int) + (q : Int))) (m : Int)
        have HM := fun (W : World) (u v : Value) (hu : Wh W u ((r : Int) + (q : Int)) (K + 102)) (hv : Wh W v ((r : Int) + (q : Int)) (K + 102)) => rwmul_num hu hv (show K + 102 ≤ 400000 by omega) (show K + 102 ≤ 400000 by omega)
        have HCZ := fun (W : World) (u v : Value) (hu : Wh W u (((r : Int) + (q : Int)) * ((r : Int) + (q : Int))) (K + 102 + (K + 102))) (hv : Wh W v (m : Int) K) => rwcmp_num hu hv (show K + 102 + (K + 102) ≤ 400000 by omega) (show K ≤ 400000 by omega)
        generalize cmpZ (((r : Int) + (q : Int)) * ((r : Int) + (q : Int))) (m : Int) = cz at *
        have HM := Lib.hid HM
        have HCZ := Lib.hid HCZ
        have HLM := Lib.hid lm
        rw [hmul] at hcz
        have hcz1 : cz ≤ 0 ↔ (r + q) * (r + q) ≤ m := by rw [hcz]; exact Int.ofNat_le
        clear lm hmul hcz
        have vt9 := vt.drew
        have vx9 := vx.drew
        have f0 := vt9.c0
        have f1 := vt9.c1
        have f2 := vx9.c0
        have f3 := vx9.c1
        by_cases hle : (r + q) * (r + q) ≤ m
        · have hc0 : cz ≤ 0 := hcz1.2 hle
          clear hcz1
          go_wp2_with fail
          go_region_held3 (fun w' => w'.cell? ⟨g8, 0, none⟩ = some (.bool false) ∧ w'.cell? ⟨g8, 1, none⟩ = some (.slice ta tn tc) ∧ w'.cell? ⟨gx, 0, none⟩ = some (.bool false) ∧ w'.cell? ⟨gx, 1, none⟩ = some (.slice xa xn xc))
            (first | with_reducible exact ⟨f0, f1, f2, f3⟩ | with_reducible exact ⟨vt5.c0, vt5.c1, vx5.c0, vx5.c1⟩ | with_reducible exact ⟨vt6.c0, vt6.c1, vx6.c0, vx6.c1⟩ | go_keep)
            (first
            | (go_at_call 30; refine (HM.out _ _ _ ((xt7.out.next (Below.refl _ _).drew).wh (K + 102) LT.out.2.2) ((xt7.out.next (Below.refl _ _).drew).wh (K + 102) LT.out.2.2)).mono ?_; rintro e w5 ⟨o1, rfl, xm, b5⟩; have vt5 := vt9.next b5; have vx5 := vx9.next b5)
            | (go_at_call 34; refine (HCZ.out _ _ _ (xm.wh (K + 102 + (K + 102)) HLM.out) (((x1.out.next (Below.refl _ _).drew).next b5).wh K (by rw [Int.natAbs_natCast]; exact LA.out))).mono ?_; rintro e w6 ⟨rfl, b6⟩; have vt6 := vt5.next b6; have vx6 := vx5.next b6; have vr6 := (vr.drew.next b5).next b6; have hr6 := (hr.drew.next b5).next b6; have ht6 := (ht.drew.next b5).next b6; have x16 := Lib.hid (((x1.out.next (Below.refl _ _).drew).next b5).next b6); have x26 := Lib.hid (((x2.out.next (Below.refl _ _).drew).next b5).next b6); have xt6 := Lib.hid (((xt7.out.next (Below.refl _ _).drew).next b5).next b6); have hB6 := bnext (bnext hB.drew b5) b6))
          clear f0 f1 f2 f3 HM HCZ HLM vt9 vx9 vt5 vx5 xm
          have g0 := vt6.c0
          have g1 := vt6.c1
          obtain ⟨q1, q2, q3, q4, q5, q6⟩ := vr6.room (.bool false)
          go_wp2_with fail
          clear g0 g1 q1 q2 q3 q4 q5 q6
          have mx : gx ≠ gr := hgx
          have xq := Lib.hid (WNew.farSet (vr6.set0 (.bool false)) (WNew.farSet vr6 xt6.out 0 (.bool false)) 1 (.slice ta tn tc))
          replace x1 := Lib.hid (WNew.farSet (vr6.set0 (.bool false)) (WNew.farSet vr6 x16.out 0 (.bool false)) 1 (.slice ta tn tc))
          replace vx := (vx6.far (p := ⟨gr, 0, none⟩) mx (.bool false)).far (p := ⟨gr, 1, none⟩) mx (.slice ta tn tc)
          replace hr := (hr6.far (p := ⟨gr, 0, none⟩) hgn1 (.bool false)).far (p := ⟨gr, 1, none⟩) hgn1 (.slice ta tn tc)
          replace ht := (ht6.far (p := ⟨gr, 0, none⟩) hgn2 (.bool false)).far (p := ⟨gr, 1, none⟩) hgn2 (.slice ta tn tc)
          replace hB := (hB6.setCell (p := ⟨gr, 0, none⟩) hg3 (.bool false)).setCell (p := ⟨gr, 1, none⟩) hg3 (.slice ta tn tc)
          replace vr := (vr6.set0 (.bool false)).set1 (.slice ta tn tc)
          have xq' : Hid (WNew ((w6.setCell ⟨gr, 0, none⟩ (.bool false)).setCell ⟨gr, 1, none⟩ (.slice ta tn tc)) w.heap.size (.agg #[.bool false, .slice ta tn tc]) ((r + q : Nat) : Int)) := Lib.hid (by rw [Int.natCast_add]; exact xq.out)
          clear vt6 vx6 vr6 hr6 ht6 x16 x26 xt6 hB6 xq
          go_wp2_with fail
          go_roundg j
          case rel => exact ⟨r + q, ta, tn, tc, rfl, hle, Lib.hid (by rw [HQ.out]; exact root_yes hmr.out), hk', vx, vr, xq', x1, hr, ht, hB⟩
          case measure => omega
        · have hc0 : ¬ cz ≤ 0 := fun h => hle (hcz1.1 h)
          clear hcz1
          go_wp2_with fail
          go_region_held3 (fun w' => w'.cell? ⟨g8, 0, none⟩ = some (.bool false) ∧ w'.cell? ⟨g8, 1, none⟩ = some (.slice ta tn tc) ∧ w'.cell? ⟨gx, 0, none⟩ = some (.bool false) ∧ w'.cell? ⟨gx, 1, none⟩ = some (.slice xa xn xc))
            (first | with_reducible exact ⟨f0, f1, f2, f3⟩ | with_reducible exact ⟨vt5.c0, vt5.c1, vx5.c0, vx5.c1⟩ | with_reducible exact ⟨vt6.c0, vt6.c1, vx6.c0, vx6.c1⟩ | go_keep)
            (first
            | (go_at_call 30; refine (HM.out _ _ _ ((xt7.out.next (Below.refl _ _).drew).wh (K + 102) LT.out.2.2) ((xt7.out.next (Below.refl _ _).drew).wh (K + 102) LT.out.2.2)).mono ?_; rintro e w5 ⟨o1, rfl, xm, b5⟩; have vt5 := vt9.next b5; have vx5 := vx9.next b5)
            | (go_at_call 34; refine (HCZ.out _ _ _ (xm.wh (K + 102 + (K + 102)) HLM.out) (((x1.out.next (Below.refl _ _).drew).next b5).wh K (by rw [Int.natAbs_natCast]; exact LA.out))).mono ?_; rintro e w6 ⟨rfl, b6⟩; have vt6 := vt5.next b6; have vx6 := vx5.next b6; have vr6 := (vr.drew.next b5).next b6; have hr6 := (hr.drew.next b5).next b6; have ht6 := (ht.drew.next b5).next b6; have x16 := Lib.hid (((x1.out.next (Below.refl _ _).drew).next b5).next b6); have x26 := Lib.hid (((x2.out.next (Below.refl _ _).drew).next b5).next b6); have xt6 := Lib.hid (((xt7.out.next (Below.refl _ _).drew).next b5).next b6); have hB6 := bnext (bnext hB.drew b5) b6))
          clear f0 f1 f2 f3 HM HCZ HLM vt9 vx9 vt5 vx5 xm
          go_wp2_with fail
          go_roundg j
          case rel => exact ⟨r, na, nn, nc, rfl, hrr, Lib.hid (by rw [← HQ.out]; omega), hk', vx6, vr6, x26, x16, hr6, ht6, hB6⟩
          case measure => omega
end
end Go.Proofs.YtjildimhflondaaDoor
