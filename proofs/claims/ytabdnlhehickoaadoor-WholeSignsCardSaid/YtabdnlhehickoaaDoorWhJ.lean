/-
  whole.Quo and Floor: their contracts over any two numbers.
-/
import Derived.Test.YtabdnlhehickoaaDoorWhI
namespace Go.Proofs.YtabdnlhehickoaaDoor
open Go.RowKit
section
variable {w : World} {u v : Value} {a b : Int} {K L : Nat}
set_option maxHeartbeats 1600000 in
theorem wfloor_same {s : Bool} {x : Value} {t : Bool} {y : Value} {m n : Nat} (hx : Num w x m K) (hy : Num w y n L) (hK : K ≤ 1000000) (hL : L ≤ 1000000) (hn : n ≠ 0) (hor : (s != t) = false ∨ m % n = 0) : Calls Tryd.prog 44 #[.agg #[.bool s, x], .agg #[.bool t, y]] w (W3 w (zOf (!(s == t)) (m / n)) (zOf s (m % n)) 0) := by
  have HO := Lib.hid hor
  clear hor
  obtain ⟨W, hW, hp, hq, hr, ht, hb⟩ := enter22r w (.bool s) x (.bool t) y
  replace hx := hx.below hb
  replace hy := hy.below hb
  have HN := isNought_any (s := t) hy hL
  rw [decide_eq_false hn] at HN
  replace HN := Lib.hid HN
  have HR : Hid (remZ m n = m % n) := Lib.hid (by unfold remZ; rw [if_neg hn])
  have e1 := hq.c0
  have e2 := hq.c1
  go_enter Tryd.func44, Tryd.ntmps44
  go_wp2_with fail
  rw [← hW]
  clear hW
  refine HN.out.mono ?_
  rintro e w1 ⟨rfl, hb1⟩
  replace hp := hp.next hb1
  replace hq := hq.next hb1
  replace hr := hr.next hb1
  replace ht := ht.next hb1
  replace hb := bnext hb hb1
  replace hx := hx.below hb1
  replace hy := hy.below hb1
  clear e1 e2 HN hb1
  have e1 := hp.c0
  have e2 := hp.c1
  have e3 := hq.c0
  have e4 := hq.c1
  go_wp2_with fail
  refine (divisions_any hx hy hK).mono ?_
  rintro e w2 ⟨gu, gq, ga, gl, gt, gb, X, Y, rfl, hS, hX, hY, hb2⟩
  have hsz := hb.size
  replace hr := hr.next hb2
  replace ht := ht.next hb2
  replace hb := bnext hb hb2
  have hsz2 := hb.size
  replace hy := hy.below hb2
  clear e1 e2 e3 e4 hp hq hb2
  rw [HR.out] at hY
  have HD := Lib.hid (div2_same (gb := gb) hS.first4 hS.last hX hY HO.out)
  clear hS hX hY hy hsz2 hx HO
  go_wp2_with fail
  refine HD.out.mono ?_
  rintro e w3 ⟨u, v, rfl, hu, hv, hb3⟩
  obtain ⟨b, xa, xn, xc, rfl, hn1⟩ := hu.opened
  obtain ⟨c, ya, yn, yc, rfl, hn2⟩ := hv.opened
  clear HD
  have z0 : w.heap.size + 1 + 1 + 1 < w3.heap.size := Nat.lt_of_lt_of_le ht.lt hb3.size
  have A2 : Below w3.heap.size w3 ((w3.alloc (.cells #[.bool b, .slice xa xn xc] 36)).alloc (.cells #[.bool c, .slice ya yn yc] 36)) := bnew (bnew (Below.refl _ _) _) _
  have v1 : Var ((w3.alloc (.cells #[.bool b, .slice xa xn xc] 36)).alloc (.cells #[.bool c, .slice ya yn yc] 36)) w3.heap.size (.bool b) (.slice xa xn xc) := (Var.mk_ _ _ _).alloc _
  have v2 : Var ((w3.alloc (.cells #[.bool b, .slice xa xn xc] 36)).alloc (.cells #[.bool c, .slice ya yn yc] 36)) (w3.heap.size + 1) (.bool c) (.slice ya yn yc) := by
    have := Var.mk_ (w3.alloc (.cells #[.bool b, .slice xa xn xc] 36)) (.bool c) (.slice ya yn yc)
    rw [show (w3.alloc (.cells #[.bool b, .slice xa xn xc] 36)).heap.size = w3.heap.size + 1 by simp] at this
    exact this
  replace hr := (hr.next hb3).next A2
  replace ht := (ht.next hb3).next A2
  have hn1' := hn1.out.next A2
  have hn2' := hn2.out.next A2
  replace hb := bnext (bnext hb hb3) A2
  clear A2
  go_wp2_with fail
  generalize (w3.alloc (.cells #[.bool b, .slice xa xn xc] 36)).alloc (.cells #[.bool c, .slice ya yn yc] 36) = V at *
  have r0 := hr.c0
  have r1 := hr.c1
  have r2 := hr.f0
  have r3 := hr.f1
  have t0 := ht.c0
  have t1 := ht.c1
  have t2 := ht.f0
  have t3 := ht.f1
  have d0 := v1.c0
  have d1 := v1.c1
  have d2 := v2.c0
  have d3 := v2.c1
  have ne1 : w.heap.size + 1 + 1 ≠ w3.heap.size := by omega
  have ne2 : w.heap.size + 1 + 1 ≠ w3.heap.size + 1 := by omega
  have ne3 : w.heap.size + 1 + 1 + 1 ≠ w3.heap.size := by omega
  have ne4 : w.heap.size + 1 + 1 + 1 ≠ w3.heap.size + 1 := by omega
  go_region
  all_goals
    go_wp2_with fail
    exact wret3 (w2 := V.drew) rfl rfl rfl rfl rfl hr.drew ht.drew (by omega) (hn1'.next (Below.refl _ _).drew) (hn2'.next (Below.refl _ _).drew) hsz hsz (by omega) (by omega) hb.drew
set_option maxHeartbeats 1600000 in
theorem wfloor_down {s : Bool} {x : Value} {t : Bool} {y : Value} {m n : Nat} (hx : Num w x m K) (hy : Num w y n L) (hK : K ≤ 1000000) (hL : L ≤ 1000000) (hn : n ≠ 0) (hst : (s != t) = true) (hm : m % n ≠ 0) : Calls Tryd.prog 44 #[.agg #[.bool s, x], .agg #[.bool t, y]] w (W3 w (zOf true (m / n + 1)) (zOf t (n - m % n)) 0) := by
  have l1 : m / n < 4294967296 ^ K := Nat.lt_of_le_of_lt (Nat.div_le_self _ _) hx.lt
  have l2 : m % n < 4294967296 ^ K := Nat.lt_of_le_of_lt (Nat.mod_le _ _) hx.lt
  have HO := Lib.hid (And.intro hst (And.intro hm (And.intro l1 l2)))
  clear hst hm l1 l2
  obtain ⟨W, hW, hp, hq, hr, ht, hb⟩ := enter22r w (.bool s) x (.bool t) y
  replace hx := hx.below hb
  replace hy := hy.below hb
  have HN := isNought_any (s := t) hy hL
  rw [decide_eq_false hn] at HN
  replace HN := Lib.hid HN
  have HR : Hid (remZ m n = m % n) := Lib.hid (by unfold remZ; rw [if_neg hn])
  have e1 := hq.c0
  have e2 := hq.c1
  go_enter Tryd.func44, Tryd.ntmps44
  go_wp2_with fail
  rw [← hW]
  clear hW
  refine HN.out.mono ?_
  rintro e w1 ⟨rfl, hb1⟩
  replace hp := hp.next hb1
  replace hq := hq.next hb1
  replace hr := hr.next hb1
  replace ht := ht.next hb1
  replace hb := bnext hb hb1
  replace hx := hx.below hb1
  replace hy := hy.below hb1
  clear e1 e2 HN hb1
  have e1 := hp.c0
  have e2 := hp.c1
  have e3 := hq.c0
  have e4 := hq.c1
  go_wp2_with fail
  refine (divisions_any hx hy hK).mono ?_
  rintro e w2 ⟨gu, gq, ga, gl, gt, gb, X, Y, rfl, hS, hX, hY, hb2⟩
  have hsz := hb.size
  replace hr := hr.next hb2
  replace ht := ht.next hb2
  replace hb := bnext hb hb2
  have hsz2 := hb.size
  replace hy := hy.below hb2
  clear e1 e2 e3 e4 hp hq hb2
  rw [HR.out] at hY
  rw [HO.out.1] at hS
  have HD := Lib.hid (div2_down (gt := gt) hS.for5 hX hY hy HO.out.2.1 HO.out.2.2.1 HO.out.2.2.2 hK hK hL)
  clear hS hX hY hy hx HO
  go_wp2_with fail
  refine HD.out.mono ?_
  rintro e w3 ⟨u, v, rfl, hu, hv, hb3⟩
  obtain ⟨b, xa, xn, xc, rfl, hn1⟩ := hu.opened
  obtain ⟨c, ya, yn, yc, rfl, hn2⟩ := hv.opened
  clear HD
  have z0 : w.heap.size + 1 + 1 + 1 < w3.heap.size := Nat.lt_of_lt_of_le ht.lt hb3.size
  have A2 : Below w3.heap.size w3 ((w3.alloc (.cells #[.bool b, .slice xa xn xc] 36)).alloc (.cells #[.bool c, .slice ya yn yc] 36)) := bnew (bnew (Below.refl _ _) _) _
  have v1 : Var ((w3.alloc (.cells #[.bool b, .slice xa xn xc] 36)).alloc (.cells #[.bool c, .slice ya yn yc] 36)) w3.heap.size (.bool b) (.slice xa xn xc) := (Var.mk_ _ _ _).alloc _
  have v2 : Var ((w3.alloc (.cells #[.bool b, .slice xa xn xc] 36)).alloc (.cells #[.bool c, .slice ya yn yc] 36)) (w3.heap.size + 1) (.bool c) (.slice ya yn yc) := by
    have := Var.mk_ (w3.alloc (.cells #[.bool b, .slice xa xn xc] 36)) (.bool c) (.slice ya yn yc)
    rw [show (w3.alloc (.cells #[.bool b, .slice xa xn xc] 36)).heap.size = w3.heap.size + 1 by simp] at this
    exact this
  replace hr := (hr.next hb3).next A2
  replace ht := (ht.next hb3).next A2
  have hn1' := hn1.out.next A2
  have hn2' := hn2.out.next A2
  replace hb := bnext (bnext hb hb3) A2
  clear A2
  go_wp2_with fail
  generalize (w3.alloc (.cells #[.bool b, .slice xa xn xc] 36)).alloc (.cells #[.bool c, .slice ya yn yc] 36) = V at *
  have r0 := hr.c0
  have r1 := hr.c1
  have r2 := hr.f0
  have r3 := hr.f1
  have t0 := ht.c0
  have t1 := ht.c1
  have t2 := ht.f0
  have t3 := ht.f1
  have d0 := v1.c0
  have d1 := v1.c1
  have d2 := v2.c0
  have d3 := v2.c1
  have ne1 : w.heap.size + 1 + 1 ≠ w3.heap.size := by omega
  have ne2 : w.heap.size + 1 + 1 ≠ w3.heap.size + 1 := by omega
  have ne3 : w.heap.size + 1 + 1 + 1 ≠ w3.heap.size := by omega
  have ne4 : w.heap.size + 1 + 1 + 1 ≠ w3.heap.size + 1 := by omega
  go_region
  all_goals
    go_wp2_with fail
    exact wret3 (w2 := V.drew) rfl rfl rfl rfl rfl hr.drew ht.drew (by omega) (hn1'.next (Below.refl _ _).drew) (hn2'.next (Below.refl _ _).drew) hsz2 hsz2 (by omega) (by omega) hb.drew

/-- Is what is left of the other sign than b? -/
def adj (a b : Int) : Bool := decide (a.tmod b ≠ 0) && (decide (a.tmod b < 0) != decide (b < 0))
def quoQ (a b : Int) : Int := if b = 0 then 0 else a.tdiv b
def flQ (a b : Int) : Int := if b = 0 then 0 else if adj a b then a.tdiv b - 1 else a.tdiv b
def flR (a b : Int) : Int := if b = 0 then 0 else if adj a b then a.tmod b + b else a.tmod b
theorem adj_iff {s t : Bool} {m n : Nat} (hn : n ≠ 0) : adj (zOf s m) (zOf t n) = true ↔ (s != t) = true ∧ m % n ≠ 0 := by
  unfold adj
  rw [zOf_tmod, zOf_neg, zOf_neg, decide_eq_true (show 0 < n by omega), Bool.and_true]
  by_cases h : m % n = 0
  · rw [h]; cases s <;> cases t <;> simp [zOf]
  · have : 0 < m % n := by omega
    rw [decide_eq_true this, Bool.and_true, decide_eq_true (by rw [ne_eq, zOf_zero]; exact h), Bool.true_and]
    simp [h]
theorem wquo_num (hu : Wh w u a K) (hv : Wh w v b L) (hK : K ≤ 1000000) (hL : L ≤ 1000000) : Calls Tryd.prog 42 #[u, v] w (W3 w (quoQ a b) (quoR a b) (quoE b)) := by
  obtain ⟨s, x, m, rfl, hx, rfl⟩ := hu
  obtain ⟨t, y, n, rfl, hy, rfl⟩ := hv
  unfold quoQ quoR quoE
  by_cases hn : n = 0
  · subst hn
    rw [if_pos (zOf_zero.2 rfl), if_pos (zOf_zero.2 rfl), if_pos (zOf_zero.2 rfl)]
    obtain ⟨A, k, c, xs, rfl, _⟩ := hx
    exact wquo_zero ⟨_, _, _, rfl⟩ hy hL
  · rw [if_neg (fun h => hn (zOf_zero.1 h)), if_neg (fun h => hn (zOf_zero.1 h)), if_neg (fun h => hn (zOf_zero.1 h)), zOf_tdiv, zOf_tmod]
    exact wquo_pos hx hy hK hL hn
theorem wfloor_num (hu : Wh w u a K) (hv : Wh w v b L) (hK : K ≤ 1000000) (hL : L ≤ 1000000) : Calls Tryd.prog 44 #[u, v] w (W3 w (flQ a b) (flR a b) (quoE b)) := by
  obtain ⟨s, x, m, rfl, hx, rfl⟩ := hu
  obtain ⟨t, y, n, rfl, hy, rfl⟩ := hv
  unfold flQ flR quoE
  by_cases hn : n = 0
  · subst hn
    rw [if_pos (zOf_zero.2 rfl), if_pos (zOf_zero.2 rfl), if_pos (zOf_zero.2 rfl)]
    obtain ⟨A, k, c, xs, rfl, _⟩ := hx
    exact wfloor_zero ⟨_, _, _, rfl⟩ hy hL
  · rw [if_neg (fun h => hn (zOf_zero.1 h)), if_neg (fun h => hn (zOf_zero.1 h)), if_neg (fun h => hn (zOf_zero.1 h))]
    by_cases ha : adj (zOf s m) (zOf t n) = true
    · rw [if_pos ha, if_pos ha]
      obtain ⟨h1, h2⟩ := (adj_iff hn).1 ha
      have hst : s ≠ t := by intro h; subst h; simp at h1
      have e1 : (zOf s m).tdiv (zOf t n) - 1 = zOf true (m / n + 1) := by
        rw [zOf_tdiv, show (!(s == t)) = true from h1]
        simp [zOf]; omega
      have e2 : (zOf s m).tmod (zOf t n) + zOf t n = zOf t (n - m % n) := by
        rw [zOf_tmod]; exact zOf_add_less hst (Nat.mod_lt _ (by omega))
      rw [e1, e2]
      exact wfloor_down hx hy hK hL hn h1 h2
    · rw [if_neg ha, if_neg ha, zOf_tdiv, zOf_tmod]
      refine wfloor_same hx hy hK hL hn ?_
      by_cases h1 : (s != t) = true
      · by_cases h2 : m % n = 0
        · exact .inr h2
        · exact absurd ((adj_iff hn).2 ⟨h1, h2⟩) ha
      · exact .inl (by simpa using h1)
end
end Go.Proofs.YtabdnlhehickoaaDoor
