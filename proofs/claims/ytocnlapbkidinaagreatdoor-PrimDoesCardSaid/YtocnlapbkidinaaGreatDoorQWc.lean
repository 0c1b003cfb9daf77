/-
  whole.Quo, Floor, Root, Gcd, Text; the laws' lives; facts on both divisions.
-/
import Derived.Test.YtocnlapbkidinaaGreatDoorQWb
import Derived.Test.YtocnlapbkidinaaGreatDoorQWa
import Derived.Test.YtocnlapbkidinaaGreatDoorPn11
import Derived.Test.YtocnlapbkidinaaGreatDoorPn4
import Derived.Test.YtocnlapbkidinaaGreatDoorPn5
set_option linter.unusedVariables false
set_option linter.unusedSimpArgs false
set_option linter.unusedSectionVars false
set_option linter.unnecessarySimpa false
namespace Go.Proofs.YtocnlapbkidinaaGreatDoor
open Go.RowKit

/-- Two whole numbers and an error's number are told. -/
def W3 (w : World) (z1 z2 er : Int) (e : Ending) (w' : World) : Prop := ∃ u v, e = .returned (.tuple #[u, v, .int .i64 er]) ∧ WNew w' w.heap.size u z1 ∧ WNew w' w.heap.size v z2 ∧ Below w.heap.size w w'
theorem wret3 {fn : Func} {a : Act} {t1 t2 t3 : Tmp} {w w2 : World} {g1 g2 base1 base2 : Nat} {s1 x1 s2 x2 : Value} {b1 b2 : Bool} {A1 A2 : Option Addr} {n1 c1 n2 c2 : Nat} {z1 z2 er : Int}
    (h : fn.results = #[.cell t1 27, .cell t2 27, .tmp t3]) (ht : a.tmps.getD t1 undef = .pointer (some ⟨g1, 0, none⟩)) (ht2 : a.tmps.getD t2 undef = .pointer (some ⟨g2, 0, none⟩)) (ht3 : a.tmps.getD t3 undef = .int .i64 er) (hd : a.defers = [])
    (hv1 : Var w2 g1 s1 x1) (hv2 : Var w2 g2 s2 x2) (hne : g1 ≠ g2) (h1 : WNew w2 base1 (.agg #[.bool b1, .slice A1 n1 c1]) z1) (h2 : WNew w2 base2 (.agg #[.bool b2, .slice A2 n2 c2]) z2) (hb1 : w.heap.size ≤ base1) (hb2 : w.heap.size ≤ base2) (hg1 : w.heap.size ≤ g1) (hg2 : w.heap.size ≤ g2) (hb : Below w.heap.size w w2) :
    bodyPost Tryz.prog fn (W3 w z1 z2 er) .ret a ((((w2.setCell ⟨g1, 0, none⟩ (.bool b1)).setCell ⟨g1, 1, none⟩ (.slice A1 n1 c1)).setCell ⟨g2, 0, none⟩ (.bool b2)).setCell ⟨g2, 1, none⟩ (.slice A2 n2 c2)) := by
  obtain ⟨m1, m2, m3, m4, m5⟩ := wret2_mem hv1 hv2 hne h1 h2 _ rfl
  refine bodyPost_ret (results_wwt h ht ht2 m1.c0 m1.c1 m2.c0 m2.c1) hd ⟨_, _, by rw [ht3], m3.from_ hb1, m4.from_ hb2, m5 hg1 hg2 hb⟩
theorem enter22r (w : World) (s x t y : Value) : ∃ W, W = (((w.alloc (.cells #[s, x] 27)).alloc (.cells #[t, y] 27)).alloc (.cells #[.bool false, .slice none 0 0] 27)).alloc (.cells #[.bool false, .slice none 0 0] 27) ∧ Var W w.heap.size s x ∧ Var W (w.heap.size + 1) t y ∧ Var W (w.heap.size + 1 + 1) (.bool false) (.slice none 0 0) ∧ Var W (w.heap.size + 1 + 1 + 1) (.bool false) (.slice none 0 0) ∧ Below w.heap.size w W := by
  obtain ⟨W, hW, h1, h2, h3, h4⟩ := enter2r w s x t y
  have hsz : W.heap.size = w.heap.size + 1 + 1 + 1 := by rw [hW]; simp
  have h5 := Var.mk_ W (.bool false) (.slice none 0 0)
  rw [hsz] at h5
  exact ⟨_, by rw [hW], h1.alloc _, h2.alloc _, h3.alloc _, h5, bnew h4 _⟩
theorem Cells.first4 {w : World} {B : Nat} {a b c d e f g : Addr × Value} (h : Cells w B [a, b, c, d, e, f, g]) : Cells w B [a, b, c, d] := fun p hp => h p (by
  simp only [List.mem_cons, List.not_mem_nil, or_false] at hp ⊢
  rcases hp with h | h | h | h <;> simp [h])
theorem Cells.for5 {w : World} {B : Nat} {a b c d e f g : Addr × Value} (h : Cells w B [a, b, c, d, e, f, g]) : Cells w B [a, d, b, e, f] := fun p hp => h p (by
  simp only [List.mem_cons, List.not_mem_nil, or_false] at hp ⊢
  rcases hp with h | h | h | h | h <;> simp [h])
theorem Cells.last {w : World} {B : Nat} {a b c d e f g : Addr × Value} (h : Cells w B [a, b, c, d, e, f, g]) : w.cell? g.1 = some g.2 ∧ g.1.block < B := h g (by simp)
def quoR (a b : Int) : Int := if b = 0 then 0 else a.tmod b
def quoE (b : Int) : Int := if b = 0 then 3 else 0
theorem zOf_zero {t : Bool} {n : Nat} : zOf t n = 0 ↔ n = 0 := by cases t <;> simp [zOf]
theorem zOf_tdiv (s t : Bool) (m n : Nat) : (zOf s m).tdiv (zOf t n) = zOf (!(s == t)) (m / n) := by
  cases s <;> cases t <;> simp [zOf, Int.tdiv_neg, Int.neg_tdiv]
theorem zOf_tmod (s t : Bool) (m n : Nat) : (zOf s m).tmod (zOf t n) = zOf s (m % n) := by
  cases s <;> cases t <;> simp [zOf, Int.tmod_neg, Int.neg_tmod, Int.tmod_eq_emod_of_nonneg]
theorem nil_wnew (w : World) (base : Nat) : WNew w base (.agg #[.bool false, .slice none 0 0]) 0 := ⟨_, rfl, New.nil w base⟩
section
variable {w : World} {u v : Value} {a b : Int} {K L : Nat}

set_option maxHeartbeats 1600000 in
theorem wquo_zero {s : Bool} {x : Value} {t : Bool} {y : Value} (hx : ∃ A n c, x = .slice A n c) (hy : Num w y 0 L) (hL : L ≤ 1000000) : Calls Tryz.prog 47 #[.agg #[.bool s, x], .agg #[.bool t, y]] w (W3 w 0 0 3) := by
  obtain ⟨W, hW, hp, hq, hr, ht, hb⟩ := enter22r w (.bool s) x (.bool t) y
  have HN := isNought_any (s := t) (hy.below hb) (by omega)
  rw [decide_eq_true rfl] at HN
  replace HN := Lib.hid HN
  obtain ⟨XA, XN, XC, rfl⟩ := hx
  obtain ⟨YA, YN, YC, ys, rfl, hys⟩ := hy
  clear hys
  have e1 := hq.c0
  have e2 := hq.c1
  go_enter Tryz.func47, Tryz.ntmps47
  go_wp2_with fail
  rw [← hW]
  clear hW
  refine HN.out.mono ?_
  rintro e w1 ⟨rfl, hb1⟩
  have hr2 := hr.next hb1
  have ht2 := ht.next hb1
  obtain ⟨q1, q2, q3, q4, q5, q6⟩ := hr2.room (.bool false)
  obtain ⟨p1, p2, p3, p4, p5, p6⟩ := hr2.room2 ht2 (Nat.succ_ne_self _) (.bool false) (.slice none 0 0) (.bool false)
  clear e1 e2 HN
  go_wp2_with fail
  exact wret3 rfl rfl rfl rfl rfl hr2 ht2 (by omega) (nil_wnew _ w.heap.size) (nil_wnew _ w.heap.size) (Nat.le_refl _) (Nat.le_refl _) (by omega) (by omega) (bnext hb hb1)

set_option maxHeartbeats 1600000 in
theorem wfloor_zero {s : Bool} {x : Value} {t : Bool} {y : Value} (hx : ∃ A n c, x = .slice A n c) (hy : Num w y 0 L) (hL : L ≤ 1000000) : Calls Tryz.prog 49 #[.agg #[.bool s, x], .agg #[.bool t, y]] w (W3 w 0 0 3) := by
  obtain ⟨W, hW, hp, hq, hr, ht, hb⟩ := enter22r w (.bool s) x (.bool t) y
  have HN := isNought_any (s := t) (hy.below hb) (by omega)
  rw [decide_eq_true rfl] at HN
  replace HN := Lib.hid HN
  obtain ⟨XA, XN, XC, rfl⟩ := hx
  obtain ⟨YA, YN, YC, ys, rfl, hys⟩ := hy
  clear hys
  have e1 := hq.c0
  have e2 := hq.c1
  go_enter Tryz.func49, Tryz.ntmps49
  go_wp2_with fail
  rw [← hW]
  clear hW
  refine HN.out.mono ?_
  rintro e w1 ⟨rfl, hb1⟩
  have hr2 := hr.next hb1
  have ht2 := ht.next hb1
  obtain ⟨q1, q2, q3, q4, q5, q6⟩ := hr2.room (.bool false)
  obtain ⟨p1, p2, p3, p4, p5, p6⟩ := hr2.room2 ht2 (Nat.succ_ne_self _) (.bool false) (.slice none 0 0) (.bool false)
  clear e1 e2 HN
  go_wp2_with fail
  exact wret3 rfl rfl rfl rfl rfl hr2 ht2 (by omega) (nil_wnew _ w.heap.size) (nil_wnew _ w.heap.size) (Nat.le_refl _) (Nat.le_refl _) (by omega) (by omega) (bnext hb hb1)

set_option maxHeartbeats 1600000 in
theorem wquo_pos {s : Bool} {x : Value} {t : Bool} {y : Value} {m n : Nat} (hx : Num w x m K) (hy : Num w y n L) (hK : K ≤ 1000000) (hL : L ≤ 1000000) (hn : n ≠ 0) : Calls Tryz.prog 47 #[.agg #[.bool s, x], .agg #[.bool t, y]] w (W3 w (zOf (!(s == t)) (m / n)) (zOf s (m % n)) 0) := by
  obtain ⟨W, hW, hp, hq, hr, ht, hb⟩ := enter22r w (.bool s) x (.bool t) y
  replace hx := hx.below hb
  replace hy := hy.below hb
  have HN := isNought_any (s := t) hy (by omega)
  rw [decide_eq_false hn] at HN
  replace HN := Lib.hid HN
  have HR : Hid (remZ m n = m % n) := Lib.hid (by unfold remZ; rw [if_neg hn])
  have e1 := hq.c0
  have e2 := hq.c1
  go_enter Tryz.func47, Tryz.ntmps47
  go_wp2_with fail
  rw [← hW]
  clear hW
  refine HN.out.mono ?_
  rintro e w1 ⟨rfl, hb1⟩
  replace hp := hp.next hb1
  replace hq := hq.next hb1
  replace hr := hr.next hb1
  replace ht := ht.next hb1
  replace hb := bnext hb hb1
  replace hx := hx.below hb1
  replace hy := hy.below hb1
  clear e1 e2 HN hb1
  have e1 := hp.c0
  have e2 := hp.c1
  have e3 := hq.c0
  have e4 := hq.c1
  go_wp2_with fail
  refine (divisions_any hx hy hK).mono ?_
  rintro e w2 ⟨gu, gq, ga, gl, gt, gb, X, Y, rfl, hS, hX, hY, hb2⟩
  have hsz := hb.size
  replace hr := hr.next hb2
  replace ht := ht.next hb2
  replace hb := bnext hb hb2
  have hsz2 := hb.size
  replace hy := hy.below hb2
  clear e1 e2 e3 e4 hp hq hb2
  rw [HR.out] at hY
  have HD := Lib.hid (div1_any hS.first4 hX hY)
  clear hS hX hY hy hsz2 hx
  go_wp2_with fail
  refine HD.out.mono ?_
  rintro e w3 ⟨u, v, rfl, hu, hv, hb3⟩
  obtain ⟨b, xa, xn, xc, rfl, hn1⟩ := hu.opened
  obtain ⟨c, ya, yn, yc, rfl, hn2⟩ := hv.opened
  clear HD
  have z0 : w.heap.size + 1 + 1 + 1 < w3.heap.size := Nat.lt_of_lt_of_le ht.lt hb3.size
  have A2 : Below w3.heap.size w3 ((w3.alloc (.cells #[.bool b, .slice xa xn xc] 27)).alloc (.cells #[.bool c, .slice ya yn yc] 27)) := bnew (bnew (Below.refl _ _) _) _
  have v1 : Var ((w3.alloc (.cells #[.bool b, .slice xa xn xc] 27)).alloc (.cells #[.bool c, .slice ya yn yc] 27)) w3.heap.size (.bool b) (.slice xa xn xc) := (Var.mk_ _ _ _).alloc _
  have v2 : Var ((w3.alloc (.cells #[.bool b, .slice xa xn xc] 27)).alloc (.cells #[.bool c, .slice ya yn yc] 27)) (w3.heap.size + 1) (.bool c) (.slice ya yn yc) := by
    have := Var.mk_ (w3.alloc (.cells #[.bool b, .slice xa xn xc] 27)) (.bool c) (.slice ya yn yc)
    rw [show (w3.alloc (.cells #[.bool b, .slice xa xn xc] 27)).heap.size = w3.heap.size + 1 by simp] at this
    exact this
  replace hr := (hr.next hb3).next A2
  replace ht := (ht.next hb3).next A2
  have hn1' := hn1.out.next A2
  have hn2' := hn2.out.next A2
  replace hb := bnext (bnext hb hb3) A2
  clear A2
  go_wp2_with fail
  generalize (w3.alloc (.cells #[.bool b, .slice xa xn xc] 27)).alloc (.cells #[.bool c, .slice ya yn yc] 27) = V at *
  have r0 := hr.c0
  have r1 := hr.c1
  have r2 := hr.f0
  have r3 := hr.f1
  have t0 := ht.c0
  have t1 := ht.c1
  have t2 := ht.f0
  have t3 := ht.f1
  have d0 := v1.c0
  have d1 := v1.c1
  have d2 := v2.c0
  have d3 := v2.c1
  have ne1 : w.heap.size + 1 + 1 ≠ w3.heap.size := by omega
  have ne2 : w.heap.size + 1 + 1 ≠ w3.heap.size + 1 := by omega
  have ne3 : w.heap.size + 1 + 1 + 1 ≠ w3.heap.size := by omega
  have ne4 : w.heap.size + 1 + 1 + 1 ≠ w3.heap.size + 1 := by omega
  go_region
  all_goals
    go_wp2_with fail
    exact wret3 (w2 := V.drew) rfl rfl rfl rfl rfl hr.drew ht.drew (by omega) (hn1'.next (Below.refl _ _).drew) (hn2'.next (Below.refl _ _).drew) hsz hsz (by omega) (by omega) hb.drew
end

section
variable {w : World} {u v : Value} {a b : Int} {K L : Nat}
set_option maxHeartbeats 1600000 in
theorem wfloor_same {s : Bool} {x : Value} {t : Bool} {y : Value} {m n : Nat} (hx : Num w x m K) (hy : Num w y n L) (hK : K ≤ 1000000) (hL : L ≤ 1000000) (hn : n ≠ 0) (hor : (s != t) = false ∨ m % n = 0) : Calls Tryz.prog 49 #[.agg #[.bool s, x], .agg #[.bool t, y]] w (W3 w (zOf (!(s == t)) (m / n)) (zOf s (m % n)) 0) := by
  have HO := Lib.hid hor
  clear hor
  obtain ⟨W, hW, hp, hq, hr, ht, hb⟩ := enter22r w (.bool s) x (.bool t) y
  replace hx := hx.below hb
  replace hy := hy.below hb
  have HN := isNought_any (s := t) hy (by omega)
  rw [decide_eq_false hn] at HN
  replace HN := Lib.hid HN
  have HR : Hid (remZ m n = m % n) := Lib.hid (by unfold remZ; rw [if_neg hn])
  have e1 := hq.c0
  have e2 := hq.c1
  go_enter Tryz.func49, Tryz.ntmps49
  go_wp2_with fail
  rw [← hW]
  clear hW
  refine HN.out.mono ?_
  rintro e w1 ⟨rfl, hb1⟩
  replace hp := hp.next hb1
  replace hq := hq.next hb1
  replace hr := hr.next hb1
  replace ht := ht.next hb1
  replace hb := bnext hb hb1
  replace hx := hx.below hb1
  replace hy := hy.below hb1
  clear e1 e2 HN hb1
  have e1 := hp.c0
  have e2 := hp.c1
  have e3 := hq.c0
  have e4 := hq.c1
  go_wp2_with fail
  refine (divisions_any hx hy hK).mono ?_
  rintro e w2 ⟨gu, gq, ga, gl, gt, gb, X, Y, rfl, hS, hX, hY, hb2⟩
  have hsz := hb.size
  replace hr := hr.next hb2
  replace ht := ht.next hb2
  replace hb := bnext hb hb2
  have hsz2 := hb.size
  replace hy := hy.below hb2
  clear e1 e2 e3 e4 hp hq hb2
  rw [HR.out] at hY
  have HD := Lib.hid (div2_same (gb := gb) hS.first4 hS.last hX hY HO.out)
  clear hS hX hY hy hsz2 hx HO
  go_wp2_with fail
  refine HD.out.mono ?_
  rintro e w3 ⟨u, v, rfl, hu, hv, hb3⟩
  obtain ⟨b, xa, xn, xc, rfl, hn1⟩ := hu.opened
  obtain ⟨c, ya, yn, yc, rfl, hn2⟩ := hv.opened
  clear HD
  have z0 : w.heap.size + 1 + 1 + 1 < w3.heap.size := Nat.lt_of_lt_of_le ht.lt hb3.size
  have A2 : Below w3.heap.size w3 ((w3.alloc (.cells #[.bool b, .slice xa xn xc] 27)).alloc (.cells #[.bool c, .slice ya yn yc] 27)) := bnew (bnew (Below.refl _ _) _) _
  have v1 : Var ((w3.alloc (.cells #[.bool b, .slice xa xn xc] 27)).alloc (.cells #[.bool c, .slice ya yn yc] 27)) w3.heap.size (.bool b) (.slice xa xn xc) := (Var.mk_ _ _ _).alloc _
  have v2 : Var ((w3.alloc (.cells #[.bool b, .slice xa xn xc] 27)).alloc (.cells #[.bool c, .slice ya yn yc] 27)) (w3.heap.size + 1) (.bool c) (.slice ya yn yc) := by
    have := Var.mk_ (w3.alloc (.cells #[.bool b, .slice xa xn xc] 27)) (.bool c) (.slice ya yn yc)
    rw [show (w3.alloc (.cells #[.bool b, .slice xa xn xc] 27)).heap.size = w3.heap.size + 1 by simp] at this
    exact this
  replace hr := (hr.next hb3).next A2
  replace ht := (ht.next hb3).next A2
  have hn1' := hn1.out.next A2
  have hn2' := hn2.out.next A2
  replace hb := bnext (bnext hb hb3) A2
  clear A2
  go_wp2_with fail
  generalize (w3.alloc (.cells #[.bool b, .slice xa xn xc] 27)).alloc (.cells #[.bool c, .slice ya yn yc] 27) = V at *
  have r0 := hr.c0
  have r1 := hr.c1
  have r2 := hr.f0
  have r3 := hr.f1
  have t0 := ht.c0
  have t1 := ht.c1
  have t2 := ht.f0
  have t3 := ht.f1
  have d0 := v1.c0
  have d1 := v1.c1
  have d2 := v2.c0
  have d3 := v2.c1
  have ne1 : w.heap.size + 1 + 1 ≠ w3.heap.size := by omega
  have ne2 : w.heap.size + 1 + 1 ≠ w3.heap.size + 1 := by omega
  have ne3 : w.heap.size + 1 + 1 + 1 ≠ w3.heap.size := by omega
  have ne4 : w.heap.size + 1 + 1 + 1 ≠ w3.heap.size + 1 := by omega
  go_region
  all_goals
    go_wp2_with fail
    exact wret3 (w2 := V.drew) rfl rfl rfl rfl rfl hr.drew ht.drew (by omega) (hn1'.next (Below.refl _ _).drew) (hn2'.next (Below.refl _ _).drew) hsz hsz (by omega) (by omega) hb.drew
set_option maxHeartbeats 1600000 in
theorem wfloor_down {s : Bool} {x : Value} {t : Bool} {y : Value} {m n : Nat} (hx : Num w x m K) (hy : Num w y n L) (hK : K ≤ 1000000) (hL : L ≤ 1000000) (hn : n ≠ 0) (hst : (s != t) = true) (hm : m % n ≠ 0) : Calls Tryz.prog 49 #[.agg #[.bool s, x], .agg #[.bool t, y]] w (W3 w (zOf true (m / n + 1)) (zOf t (n - m % n)) 0) := by
  have l1 : m / n < 4294967296 ^ K := Nat.lt_of_le_of_lt (Nat.div_le_self _ _) hx.lt
  have l2 : m % n < 4294967296 ^ K := Nat.lt_of_le_of_lt (Nat.mod_le _ _) hx.lt
  have HO := Lib.hid (And.intro hst (And.intro hm (And.intro l1 l2)))
  clear hst hm l1 l2
  obtain ⟨W, hW, hp, hq, hr, ht, hb⟩ := enter22r w (.bool s) x (.bool t) y
  replace hx := hx.below hb
  replace hy := hy.below hb
  have HN := isNought_any (s := t) hy (by omega)
  rw [decide_eq_false hn] at HN
  replace HN := Lib.hid HN
  have HR : Hid (remZ m n = m % n) := Lib.hid (by unfold remZ; rw [if_neg hn])
  have e1 := hq.c0
  have e2 := hq.c1
  go_enter Tryz.func49, Tryz.ntmps49
  go_wp2_with fail
  rw [← hW]
  clear hW
  refine HN.out.mono ?_
  rintro e w1 ⟨rfl, hb1⟩
  replace hp := hp.next hb1
  replace hq := hq.next hb1
  replace hr := hr.next hb1
  replace ht := ht.next hb1
  replace hb := bnext hb hb1
  replace hx := hx.below hb1
  replace hy := hy.below hb1
  clear e1 e2 HN hb1
  have e1 := hp.c0
  have e2 := hp.c1
  have e3 := hq.c0
  have e4 := hq.c1
  go_wp2_with fail
  refine (divisions_any hx hy hK).mono ?_
  rintro e w2 ⟨gu, gq, ga, gl, gt, gb, X, Y, rfl, hS, hX, hY, hb2⟩
  have hsz := hb.size
  replace hr := hr.next hb2
  replace ht := ht.next hb2
  replace hb := bnext hb hb2
  have hsz2 := hb.size
  replace hy := hy.below hb2
  clear e1 e2 e3 e4 hp hq hb2
  rw [HR.out] at hY
  rw [HO.out.1] at hS
  have HD := Lib.hid (div2_down (gt := gt) hS.for5 hX hY hy HO.out.2.1 HO.out.2.2.1 HO.out.2.2.2 hK hK hL)
  clear hS hX hY hy hx HO
  go_wp2_with fail
  refine HD.out.mono ?_
  rintro e w3 ⟨u, v, rfl, hu, hv, hb3⟩
  obtain ⟨b, xa, xn, xc, rfl, hn1⟩ := hu.opened
  obtain ⟨c, ya, yn, yc, rfl, hn2⟩ := hv.opened
  clear HD
  have z0 : w.heap.size + 1 + 1 + 1 < w3.heap.size := Nat.lt_of_lt_of_le ht.lt hb3.size
  have A2 : Below w3.heap.size w3 ((w3.alloc (.cells #[.bool b, .slice xa xn xc] 27)).alloc (.cells #[.bool c, .slice ya yn yc] 27)) := bnew (bnew (Below.refl _ _) _) _
  have v1 : Var ((w3.alloc (.cells #[.bool b, .slice xa xn xc] 27)).alloc (.cells #[.bool c, .slice ya yn yc] 27)) w3.heap.size (.bool b) (.slice xa xn xc) := (Var.mk_ _ _ _).alloc _
  have v2 : Var ((w3.alloc (.cells #[.bool b, .slice xa xn xc] 27)).alloc (.cells #[.bool c, .slice ya yn yc] 27)) (w3.heap.size + 1) (.bool c) (.slice ya yn yc) := by
    have := Var.mk_ (w3.alloc (.cells #[.bool b, .slice xa xn xc] 27)) (.bool c) (.slice ya yn yc)
    rw [show (w3.alloc (.cells #[.bool b, .slice xa xn xc] 27)).heap.size = w3.heap.size + 1 by simp] at this
    exact this
  replace hr := (hr.next hb3).next A2
  replace ht := (ht.next hb3).next A2
  have hn1' := hn1.out.next A2
  have hn2' := hn2.out.next A2
  replace hb := bnext (bnext hb hb3) A2
  clear A2
  go_wp2_with fail
  generalize (w3.alloc (.cells #[.bool b, .slice xa xn xc] 27)).alloc (.cells #[.bool c, .slice ya yn yc] 27) = V at *
  have r0 := hr.c0
  have r1 := hr.c1
  have r2 := hr.f0
  have r3 := hr.f1
  have t0 := ht.c0
  have t1 := ht.c1
  have t2 := ht.f0
  have t3 := ht.f1
  have d0 := v1.c0
  have d1 := v1.c1
  have d2 := v2.c0
  have d3 := v2.c1
  have ne1 : w.heap.size + 1 + 1 ≠ w3.heap.size := by omega
  have ne2 : w.heap.size + 1 + 1 ≠ w3.heap.size + 1 := by omega
  have ne3 : w.heap.size + 1 + 1 + 1 ≠ w3.heap.size := by omega
  have ne4 : w.heap.size + 1 + 1 + 1 ≠ w3.heap.size + 1 := by omega
  go_region
  all_goals
    go_wp2_with fail
    exact wret3 (w2 := V.drew) rfl rfl rfl rfl rfl hr.drew ht.drew (by omega) (hn1'.next (Below.refl _ _).drew) (hn2'.next (Below.refl _ _).drew) hsz2 hsz2 (by omega) (by omega) hb.drew

/-- Is what is left of the other sign than b? -/
def adj (a b : Int) : Bool := decide (a.tmod b ≠ 0) && (decide (a.tmod b < 0) != decide (b < 0))
def quoQ (a b : Int) : Int := if b = 0 then 0 else a.tdiv b
def flQ (a b : Int) : Int := if b = 0 then 0 else if adj a b then a.tdiv b - 1 else a.tdiv b
def flR (a b : Int) : Int := if b = 0 then 0 else if adj a b then a.tmod b + b else a.tmod b
theorem adj_iff {s t : Bool} {m n : Nat} (hn : n ≠ 0) : adj (zOf s m) (zOf t n) = true ↔ (s != t) = true ∧ m % n ≠ 0 := by
  unfold adj
  rw [zOf_tmod, zOf_neg, zOf_neg, decide_eq_true (show 0 < n by omega), Bool.and_true]
  by_cases h : m % n = 0
  · rw [h]; cases s <;> cases t <;> simp [zOf]
  · have : 0 < m % n := by omega
    rw [decide_eq_true this, Bool.and_true, decide_eq_true (by rw [ne_eq, zOf_zero]; exact h), Bool.true_and]
    simp [h]
theorem wquo_num (hu : Wh w u a K) (hv : Wh w v b L) (hK : K ≤ 1000000) (hL : L ≤ 1000000) : Calls Tryz.prog 47 #[u, v] w (W3 w (quoQ a b) (quoR a b) (quoE b)) := by
  obtain ⟨s, x, m, rfl, hx, rfl⟩ := hu
  obtain ⟨t, y, n, rfl, hy, rfl⟩ := hv
  unfold quoQ quoR quoE
  by_cases hn : n = 0
  · subst hn
    rw [if_pos (zOf_zero.2 rfl), if_pos (zOf_zero.2 rfl), if_pos (zOf_zero.2 rfl)]
    obtain ⟨A, k, c, xs, rfl, _⟩ := hx
    exact wquo_zero ⟨_, _, _, rfl⟩ hy hL
  · rw [if_neg (fun h => hn (zOf_zero.1 h)), if_neg (fun h => hn (zOf_zero.1 h)), if_neg (fun h => hn (zOf_zero.1 h)), zOf_tdiv, zOf_tmod]
    exact wquo_pos hx hy hK hL hn
theorem wfloor_num (hu : Wh w u a K) (hv : Wh w v b L) (hK : K ≤ 1000000) (hL : L ≤ 1000000) : Calls Tryz.prog 49 #[u, v] w (W3 w (flQ a b) (flR a b) (quoE b)) := by
  obtain ⟨s, x, m, rfl, hx, rfl⟩ := hu
  obtain ⟨t, y, n, rfl, hy, rfl⟩ := hv
  unfold flQ flR quoE
  by_cases hn : n = 0
  · subst hn
    rw [if_pos (zOf_zero.2 rfl), if_pos (zOf_zero.2 rfl), if_pos (zOf_zero.2 rfl)]
    obtain ⟨A, k, c, xs, rfl, _⟩ := hx
    exact wfloor_zero ⟨_, _, _, rfl⟩ hy hL
  · rw [if_neg (fun h => hn (zOf_zero.1 h)), if_neg (fun h => hn (zOf_zero.1 h)), if_neg (fun h => hn (zOf_zero.1 h))]
    by_cases ha : adj (zOf s m) (zOf t n) = true
    · rw [if_pos ha, if_pos ha]
      obtain ⟨h1, h2⟩ := (adj_iff hn).1 ha
      have hst : s ≠ t := by intro h; subst h; simp at h1
      have e1 : (zOf s m).tdiv (zOf t n) - 1 = zOf true (m / n + 1) := by
        rw [zOf_tdiv, show (!(s == t)) = true from h1]
        simp [zOf]; omega
      have e2 : (zOf s m).tmod (zOf t n) + zOf t n = zOf t (n - m % n) := by
        rw [zOf_tmod]; exact zOf_add_less hst (Nat.mod_lt _ (by omega))
      rw [e1, e2]
      exact wfloor_down hx hy hK hL hn h1 h2
    · rw [if_neg ha, if_neg ha, zOf_tdiv, zOf_tmod]
      refine wfloor_same hx hy hK hL hn ?_
      by_cases h1 : (s != t) = true
      · by_cases h2 : m % n = 0
        · exact .inr h2
        · exact absurd ((adj_iff hn).2 ⟨h1, h2⟩) ha
      · exact .inl (by simpa using h1)
end

/-- The greatest number not above k whose square is not above m. -/
def rootUp (m : Nat) : Nat → Nat
  | 0 => 0
  | k + 1 => if (k + 1) * (k + 1) ≤ m then k + 1 else rootUp m k
theorem rootUp_sq (m k : Nat) : rootUp m k * rootUp m k ≤ m := by
  induction k with
  | zero => simp [rootUp]
  | succ k ih =>
    unfold rootUp
    split
    · assumption
    · exact ih
theorem rootUp_max (m k j : Nat) (hj : j ≤ k) (h : j * j ≤ m) : j ≤ rootUp m k := by
  induction k with
  | zero => omega
  | succ k ih =>
    unfold rootUp
    split
    · exact hj
    · rename_i hn
      rcases Nat.lt_or_ge k j with h1 | h1
      · obtain rfl : j = k + 1 := by omega
        exact absurd h hn
      · exact ih h1
def rootN (m : Nat) : Nat := rootUp m m
theorem rootN_sq (m : Nat) : rootN m * rootN m ≤ m := rootUp_sq m m
theorem rootN_max {m j : Nat} (h : j * j ≤ m) : j ≤ rootN m := by
  refine rootUp_max m m j ?_ h
  rcases Nat.eq_zero_or_pos j with h0 | h0
  · omega
  · exact Nat.le_trans (Nat.le_mul_of_pos_left j h0) h
theorem rootN_lt (m : Nat) : m < (rootN m + 1) * (rootN m + 1) := by
  rcases Nat.lt_or_ge m ((rootN m + 1) * (rootN m + 1)) with h | h
  · exact h
  · have := rootN_max h; omega
theorem rootN_unique {m r : Nat} (h1 : r * r ≤ m) (h2 : m < (r + 1) * (r + 1)) : r = rootN m := by
  have h3 := rootN_max h1
  rcases Nat.lt_or_ge r (rootN m) with h | h
  · have h4 : (r + 1) * (r + 1) ≤ rootN m * rootN m := Nat.mul_le_mul h h
    have h5 := rootN_sq m
    omega
  · omega
theorem rootN_zero : rootN 0 = 0 := rfl
theorem rootN_pos {m : Nat} (h : m ≠ 0) : 0 < rootN m := by
  have := rootN_max (m := m) (j := 1) (by omega)
  omega
theorem rootN_le (m : Nat) : rootN m ≤ m := by
  rcases Nat.eq_zero_or_pos (rootN m) with h0 | h0
  · omega
  · exact Nat.le_trans (Nat.le_mul_of_pos_left _ h0) (rootN_sq m)
/-- Newton's step does not go below the root. -/
theorem newton_ge (m g : Nat) (hg : 0 < g) : rootN m ≤ (g + m / g) / 2 := by
  generalize hr : rootN m = r
  have h1 : r * r ≤ m := by rw [← hr]; exact rootN_sq m
  rw [Nat.le_div_iff_mul_le (by decide)]
  -- 2 r ≤ g + m / g
  rcases Nat.lt_or_ge g (2 * r) with h | h
  · have h2 : (2 * r - g) * g ≤ r * r := by
      obtain ⟨d, hd⟩ : ∃ d : Nat, (g = r + d ∧ d ≤ r) ∨ (g + d = r) := by
        rcases Nat.lt_or_ge g r with h3 | h3
        · exact ⟨r - g, .inr (by omega)⟩
        · exact ⟨g - r, .inl (by omega)⟩
      rcases hd with ⟨rfl, hdr⟩ | h4
      · have e : 2 * r - (r + d) = r - d := by omega
        rw [e, Nat.mul_comm, Nat.mul_sub, Nat.add_mul, Nat.add_mul]
        have : r * d = d * r := Nat.mul_comm _ _
        omega
      · obtain rfl : r = g + d := h4.symm
        have e : 2 * (g + d) - g = g + 2 * d := by omega
        rw [e]
        have e2 : (g + d) * (g + d) = g * g + 2 * d * g + d * d := by
          rw [Nat.add_mul, Nat.mul_add, Nat.mul_add, Nat.mul_assoc 2 d g, Nat.mul_comm g d]; omega
        rw [e2, Nat.add_mul]
        omega
    have h3 : 2 * r - g ≤ m / g := by rw [Nat.le_div_iff_mul_le hg]; exact Nat.le_trans h2 h1
    generalize m / g = q at *
    omega
  · generalize m / g = q
    omega
/-- Above the root Newton's step goes down. -/
theorem newton_lt {m g : Nat} (hg : rootN m < g) : (g + m / g) / 2 < g := by
  have h1 : m < g * g := Nat.lt_of_lt_of_le (rootN_lt m) (Nat.mul_le_mul hg hg)
  have h2 : m / g < g := by rw [Nat.div_lt_iff_lt_mul (by omega)]; exact h1
  omega
/-- What a slice's value leads to, as a number. -/
def numAt (w : World) (v : Value) : Nat :=
  match v with
  | .slice (some a) n _ => val ((List.range n).map fun i => match w.cell? ⟨a.block, a.off + i, none⟩ with | some (.int _ z) => z.toNat | _ => 0)
  | _ => 0
theorem New.at_ {w : World} {base : Nat} {v : Value} {m : Nat} (h : New w base v (limbs m)) : numAt w v = m := by
  obtain ⟨A, n, c, rfl, hs, _⟩ := h
  rcases Nat.eq_zero_or_pos n with h0 | h0
  · have hl := hs.len
    rw [h0] at hl
    have : limbs m = [] := List.length_eq_zero_iff.1 hl.symm
    have hm := (limbs_nil_iff m).1 this
    subst h0
    unfold numAt
    cases A <;> simp [val, hm]
  · obtain ⟨b, off, rfl, _, hc⟩ := hs.here h0
    unfold numAt
    have : ((List.range n).map fun i => match w.cell? ⟨b, off + i, none⟩ with | some (.int _ z) => z.toNat | _ => 0) = limbs m := by
      apply List.ext_getElem
      · simp [hs.len]
      · intro i h1 h2
        have hi : i < n := by simpa using h1
        simp only [List.getElem_map, List.getElem_range, hc i hi, Int.toNat_natCast]
        rw [lim_eq, List.getElem?_eq_getElem h2]; rfl
    dsimp only
    rw [this]
    exact limbs_val m

theorem val_top (q x : Nat) : val ((List.replicate (q + 1) 0).set q x) = 4294967296 ^ q * x := by
  have h := val_set (List.replicate (q + 1) 0) q x (by simp)
  have h0 : lim (List.replicate (q + 1) 0) q = 0 := by rw [lim_eq, List.getElem?_replicate]; split <;> rfl
  rw [val_replicate, h0, Nat.mul_zero, Nat.add_zero, Nat.zero_add] at h
  exact h
theorem top_trim (q x : Nat) (hx : x ≠ 0) : trimL ((List.replicate (q + 1) 0).set q x) = (List.replicate (q + 1) 0).set q x := by
  have h : (List.replicate (q + 1) 0).set q x = List.replicate q 0 ++ [x] := by
    rw [List.replicate_succ', List.set_append_right _ _ (by simp)]
    simp
  rw [h]
  exact trimL_snoc _ _ hx
theorem pow_split (k : Nat) : 4294967296 ^ (k / 32) * 2 ^ (k % 32) = 2 ^ k := by
  rw [show (4294967296 : Nat) = 2 ^ 32 by decide, ← Nat.pow_mul, ← Nat.pow_add]
  congr 1
  omega
theorem root_bd (m : Nat) : rootN m < 2 ^ ((bl m + 1) / 2) := by
  have h1 := bl_lt m
  have h2 := rootN_sq m
  have h3 : 2 ^ bl m ≤ 2 ^ ((bl m + 1) / 2) * 2 ^ ((bl m + 1) / 2) := by
    rw [← Nat.pow_add]; exact Nat.pow_le_pow_right (by decide) (by omega)
  rcases Nat.lt_or_ge (rootN m) (2 ^ ((bl m + 1) / 2)) with h | h
  · exact h
  · have := Nat.mul_le_mul h h
    omega
def rtQ (a : Int) : Int := if a < 0 then 0 else (rootN a.natAbs : Int)
def rtR (a : Int) : Int := if a < 0 then 0 else ((a.natAbs - rootN a.natAbs * rootN a.natAbs : Nat) : Int)
def rtE (a : Int) : Int := if a < 0 then 2 else 0
theorem enter1rr (w : World) (s x : Value) : ∃ W, W = ((w.alloc (.cells #[s, x] 27)).alloc (.cells #[.bool false, .slice none 0 0] 27)).alloc (.cells #[.bool false, .slice none 0 0] 27) ∧ Var W w.heap.size s x ∧ Var W (w.heap.size + 1) (.bool false) (.slice none 0 0) ∧ Var W (w.heap.size + 1 + 1) (.bool false) (.slice none 0 0) ∧ Below w.heap.size w W :=
  enter2r w s x (.bool false) (.slice none 0 0)
section
variable {w : World} {u v : Value} {a b : Int} {K L : Nat}
def gcdZ (a b : Int) : Int := (Nat.gcd a.natAbs b.natAbs : Int)
end

def wtxt (a : Int) : List UInt8 := if a < 0 then 45 :: txt 10 a.natAbs else txt 10 a.natAbs
theorem text_num {w : World} {u : Value} {a K : Nat} (hu : Num w u a K) (hK : K ≤ 1000000) : Calls Tryz.prog 99 #[u, .int .i64 10] w fun e w' => ∃ t : ByteArray, e = .returned (.string t) ∧ t.data.toList = txt 10 a ∧ Below w.heap.size w w' := by
  obtain ⟨A1, n1, c1, xs, rfl, s1, rfl, k1⟩ := hu
  exact text_any _ _ _ _ 10 _ s1 (by omega) (by omega) (by omega)
set_option maxHeartbeats 800000 in
theorem wtext_num {w : World} {u : Value} {a : Int} {K : Nat} (hu : Wh w u a K) (hK : K ≤ 1000000) : Calls Tryz.prog 67 #[u] w fun e w' => ∃ t : ByteArray, e = .returned (.string t) ∧ t.data.toList = wtxt a ∧ Below w.heap.size w w' := by
  have hlt := hu.lt
  obtain ⟨s, x, m, rfl, hx, rfl⟩ := hu
  obtain ⟨W, hW, hp, hb⟩ := enter1 w (.bool s) x
  replace hx := hx.below hb
  unfold wtxt
  rw [zOf_abs] at hlt ⊢
  have hlen := txt_len 10 m K (by decide) hlt
  have HT := Lib.hid (text_num hx hK)
  have e0 := hp.c0
  have e1 := hp.c1
  rw [hW] at e0 e1
  by_cases hneg : zOf s m < 0
  · rw [if_pos hneg]
    have HN := Lib.hid hneg
    clear hneg
    go_enter Tryz.func67, Tryz.ntmps67
    go_wp2_with fail
    rw [← hW]
    rw [← hW] at e0 e1
    refine HT.out.mono ?_
    rintro e w1 ⟨t, rfl, ht, hb1⟩
    have HB := below_any (s := s) (hx.below hb1) (by omega)
    rw [decide_eq_true HN.out] at HB
    replace HB := Lib.hid HB
    have hts : t.size ≤ 32 * K + 1 := by
      have : t.size = t.data.toList.length := (Array.length_toList (xs := t.data)).symm
      rw [this, ht]; exact hlen
    have f0 := (hp.next hb1).c0
    have f1 := (hp.next hb1).c1
    have H2 := Lib.hid ht
    clear e0 e1 HT hW ht hlen
    go_wp2_with fail
    refine HB.out.mono ?_
    rintro e w2 ⟨rfl, hb2⟩
    go_wp2_with fail
    go_ret
    refine ⟨_, rfl, ?_, bnext (bnext hb hb1) hb2⟩
    simp [H2.out]
  · rw [if_neg hneg]
    have HN := Lib.hid hneg
    clear hneg
    go_enter Tryz.func67, Tryz.ntmps67
    go_wp2_with fail
    rw [← hW]
    rw [← hW] at e0 e1
    refine HT.out.mono ?_
    rintro e w1 ⟨t, rfl, ht, hb1⟩
    have HB := below_any (s := s) (hx.below hb1) (by omega)
    rw [decide_eq_false (show ¬ zOf s m < 0 by have := HN.out; omega)] at HB
    replace HB := Lib.hid HB
    have f0 := (hp.next hb1).c0
    have f1 := (hp.next hb1).c1
    have H2 := Lib.hid ht
    clear e0 e1 HT hW ht hlen
    go_wp2_with fail
    refine HB.out.mono ?_
    rintro e w2 ⟨rfl, hb2⟩
    go_wp2_with fail
    go_ret
    exact ⟨_, rfl, H2.out, bnext (bnext hb hb1) hb2⟩

theorem twoVars (w : World) (s x t y : Value) : ∃ W, W = (w.alloc (.cells #[s, x] 27)).alloc (.cells #[t, y] 27) ∧ Var W w.heap.size s x ∧ Var W (w.heap.size + 1) t y ∧ Below w.heap.size w W := enter2 w s x t y
theorem txm3 : wtxt (-3) = [45, 51] := by decide +kernel
theorem txm1 : wtxt (-1) = [45, 49] := by decide +kernel
theorem txm4 : wtxt (-4) = [45, 52] := by decide +kernel
theorem tx1 : wtxt 1 = [49] := by decide +kernel
theorem tx4 : wtxt 4 = [52] := by decide +kernel
theorem Wh.of_sl {w : World} {A : Option Addr} {n c : Nat} {xs : List Nat} {K : Nat} (s : Bool) (h : Sl w A n c xs) (hn : n ≤ K) : Wh w (.agg #[.bool s, .slice A n c]) (zOf s (val xs)) K := ⟨s, _, _, rfl, Num.of_sl h hn, rfl⟩
theorem ents1 (w : World) (s x : Value) : Var (w.alloc (.cells #[s, x] 27)) w.heap.size s x ∧ Below w.heap.size w (w.alloc (.cells #[s, x] 27)) := ⟨Var.mk_ _ _ _, bnew (Below.refl _ _) _⟩
theorem ents2 (w : World) (s x t y : Value) : Var ((w.alloc (.cells #[s, x] 27)).alloc (.cells #[t, y] 27)) w.heap.size s x ∧ Var ((w.alloc (.cells #[s, x] 27)).alloc (.cells #[t, y] 27)) (w.heap.size + 1) t y ∧ Below w.heap.size w ((w.alloc (.cells #[s, x] 27)).alloc (.cells #[t, y] 27)) := by
  obtain ⟨W, rfl, h1, h2, h3⟩ := enter2 w s x t y
  exact ⟨h1, h2, h3⟩
theorem mk2 (w : World) (s x t y : Value) : Var ((w.alloc (.cells #[s, x] 27)).alloc (.cells #[t, y] 27)) w.heap.size s x ∧ Var ((w.alloc (.cells #[s, x] 27)).alloc (.cells #[t, y] 27)) (w.heap.size + 1) t y := ⟨(ents2 w s x t y).1, (ents2 w s x t y).2.1⟩
theorem ents3 (w : World) (s x t y p q : Value) : Var (((w.alloc (.cells #[s, x] 27)).alloc (.cells #[t, y] 27)).alloc (.cells #[p, q] 27)) w.heap.size s x ∧ Var (((w.alloc (.cells #[s, x] 27)).alloc (.cells #[t, y] 27)).alloc (.cells #[p, q] 27)) (w.heap.size + 1) t y ∧
    Var (((w.alloc (.cells #[s, x] 27)).alloc (.cells #[t, y] 27)).alloc (.cells #[p, q] 27)) (w.heap.size + 1 + 1) p q ∧ Below w.heap.size w (((w.alloc (.cells #[s, x] 27)).alloc (.cells #[t, y] 27)).alloc (.cells #[p, q] 27)) := by
  obtain ⟨W, hW, h1, h2, h3⟩ := enter2 w s x t y
  have hsz : W.heap.size = w.heap.size + 1 + 1 := by rw [hW]; simp
  have h5 := Var.mk_ W p q
  rw [hsz] at h5
  rw [← hW]
  exact ⟨h1.alloc _, h2.alloc _, h5, bnew h3 _⟩
theorem cell_new (W : World) (c : Array Value) (t : TypeId) (i : Nat) : (W.alloc (.cells c t)).cell? ⟨W.heap.size, i, none⟩ = c[i]? := by
  have h := heap_alloc_new W (.cells c t)
  unfold World.cell?
  dsimp only
  rw [h]
  rfl
theorem cmpZ_bd (a b : Int) : -1 ≤ cmpZ a b ∧ cmpZ a b ≤ 1 := by unfold cmpZ; split <;> (try split) <;> omega
theorem cmpZ_swap (a b : Int) : cmpZ b a = -cmpZ a b := by unfold cmpZ; split <;> split <;> (try split) <;> (try split) <;> omega
theorem cmpZ_sub (a b : Int) : cmpZ (a - b) 0 = cmpZ a b := by unfold cmpZ; split <;> split <;> (try split) <;> (try split) <;> omega
theorem cmpZ_add (a b c : Int) : cmpZ (a + c) (b + c) = cmpZ a b := by unfold cmpZ; split <;> split <;> (try split) <;> (try split) <;> omega
theorem cmpZ_neg (a b : Int) : cmpZ (-b) (-a) = cmpZ a b := by unfold cmpZ; split <;> split <;> (try split) <;> (try split) <;> omega
theorem cmpZ_zero (a b : Int) : cmpZ a b = 0 ↔ a = b := by unfold cmpZ; split <;> (try split) <;> omega
theorem cmpZ_le (a b : Int) : cmpZ a b ≤ 0 ↔ a ≤ b := by unfold cmpZ; split <;> (try split) <;> omega
theorem cmpZ_lt (a b : Int) : cmpZ a b < 0 ↔ a < b := by unfold cmpZ; split <;> (try split) <;> omega
theorem cmpZ_gt (a b : Int) : 0 < cmpZ a b ↔ b < a := by unfold cmpZ; split <;> (try split) <;> omega


theorem quo_parts (s t : Bool) (m n : Nat) (hn : n ≠ 0) : quoQ (zOf s m) (zOf t n) = zOf (!(s == t)) (m / n) ∧ quoR (zOf s m) (zOf t n) = zOf s (m % n) := by
  unfold quoQ quoR
  rw [if_neg (fun h => hn (zOf_zero.1 h)), if_neg (fun h => hn (zOf_zero.1 h)), zOf_tdiv, zOf_tmod]
  exact ⟨rfl, rfl⟩
theorem fl_parts (s t : Bool) (m n : Nat) (hn : n ≠ 0) : ((s = t ∨ m % n = 0) ∧ flQ (zOf s m) (zOf t n) = zOf (!(s == t)) (m / n) ∧ flR (zOf s m) (zOf t n) = zOf s (m % n)) ∨
    (s ≠ t ∧ m % n ≠ 0 ∧ flQ (zOf s m) (zOf t n) = zOf true (m / n + 1) ∧ flR (zOf s m) (zOf t n) = zOf t (n - m % n)) := by
  unfold flQ flR
  rw [if_neg (fun h => hn (zOf_zero.1 h)), if_neg (fun h => hn (zOf_zero.1 h))]
  by_cases ha : adj (zOf s m) (zOf t n) = true
  · rw [if_pos ha, if_pos ha]
    obtain ⟨h1, h2⟩ := (adj_iff hn).1 ha
    have hst : s ≠ t := by intro h; subst h; simp at h1
    refine .inr ⟨hst, h2, ?_, ?_⟩
    · rw [zOf_tdiv, show (!(s == t)) = true from h1]
      simp [zOf]; omega
    · rw [zOf_tmod]; exact zOf_add_less hst (Nat.mod_lt _ (by omega))
  · rw [if_neg ha, if_neg ha, zOf_tdiv, zOf_tmod]
    refine .inl ⟨?_, rfl, rfl⟩
    by_cases h1 : s = t
    · exact .inl h1
    · by_cases h2 : m % n = 0
      · exact .inr h2
      · exact absurd ((adj_iff hn).2 ⟨by cases s <;> cases t <;> simp at *, h2⟩) ha
theorem nat_parts (m n : Nat) : (m : Int) = (m / n : Nat) * (n : Int) + (m % n : Nat) := by
  have := Nat.div_add_mod' m n
  exact_mod_cast this.symm
section
variable {a b : Int}
theorem quo_back (hb : b ≠ 0) : quoQ a b * b + quoR a b = a := by
  rw [zOf_self a, zOf_self b]
  have hn : b.natAbs ≠ 0 := by omega
  generalize decide (a < 0) = s
  generalize decide (b < 0) = t
  generalize a.natAbs = m
  generalize b.natAbs = n at *
  rw [(quo_parts s t m n hn).1, (quo_parts s t m n hn).2]
  have h := nat_parts m n
  generalize ((m / n : Nat)) = q at *
  generalize ((m % n : Nat)) = r at *
  cases s <;> cases t <;> simp only [zOf, beq_self_eq_true, Bool.not_true, Bool.not_false, if_true, if_false, Bool.false_eq_true, Int.neg_mul, Int.mul_neg, Int.neg_neg, (show (false == true) = false from rfl), (show (true == false) = false from rfl)] <;> omega
theorem fl_back (hb : b ≠ 0) : flQ a b * b + flR a b = a := by
  rw [zOf_self a, zOf_self b]
  have hn : b.natAbs ≠ 0 := by omega
  generalize decide (a < 0) = s
  generalize decide (b < 0) = t
  generalize a.natAbs = m
  generalize b.natAbs = n at *
  have h := nat_parts m n
  have hlt : m % n < n := Nat.mod_lt _ (by omega)
  rcases fl_parts s t m n hn with ⟨_, h1, h2⟩ | ⟨hst, _, h1, h2⟩
  · rw [h1, h2]
    generalize ((m / n : Nat)) = q at *
    generalize ((m % n : Nat)) = r at *
    cases s <;> cases t <;> simp only [zOf, beq_self_eq_true, Bool.not_true, Bool.not_false, if_true, if_false, Bool.false_eq_true, Int.neg_mul, Int.mul_neg, Int.neg_neg, (show (false == true) = false from rfl), (show (true == false) = false from rfl)] <;> omega
  · rw [h1, h2]
    generalize ((m / n : Nat)) = q at *
    generalize ((m % n : Nat)) = r at *
    have e : ((n - r : Nat) : Int) = (n : Int) - (r : Int) := by omega
    have e2 : ((q + 1 : Nat) : Int) * (n : Int) = (q : Int) * (n : Int) + (n : Int) := by rw [Int.natCast_add, Int.add_mul]; simp
    cases s <;> cases t <;> simp only [zOf, ne_eq, not_true, not_false_iff, reduceCtorEq, if_true, if_false, Bool.false_eq_true, Int.neg_mul, Int.mul_neg, Int.neg_neg, e, e2] at hst ⊢ <;> omega
theorem quo_bd (hb : b ≠ 0) : quoR a b < b.natAbs ∧ -(b.natAbs : Int) < quoR a b := by
  rw [zOf_self a, zOf_self b]
  have hn : b.natAbs ≠ 0 := by omega
  generalize decide (a < 0) = s
  generalize decide (b < 0) = t
  generalize a.natAbs = m
  generalize b.natAbs = n at *
  rw [(quo_parts s t m n hn).2, zOf_abs]
  have hlt : m % n < n := Nat.mod_lt _ (by omega)
  cases s <;> simp only [zOf, if_true, if_false, Bool.false_eq_true] <;> omega
theorem fl_bd (hb : b ≠ 0) : flR a b < b.natAbs ∧ -(b.natAbs : Int) < flR a b := by
  rw [zOf_self a, zOf_self b]
  have hn : b.natAbs ≠ 0 := by omega
  generalize decide (a < 0) = s
  generalize decide (b < 0) = t
  generalize a.natAbs = m
  generalize b.natAbs = n at *
  rw [zOf_abs]
  have hlt : m % n < n := Nat.mod_lt _ (by omega)
  rcases fl_parts s t m n hn with ⟨_, _, h2⟩ | ⟨_, h3, _, h2⟩
  · rw [h2]
    cases s <;> simp only [zOf, if_true, if_false, Bool.false_eq_true] <;> omega
  · rw [h2]
    cases t <;> simp only [zOf, if_true, if_false, Bool.false_eq_true] <;> omega
theorem quo_sign (hb : b ≠ 0) : quoR a b = 0 ∨ cmpZ (quoR a b) 0 = cmpZ a 0 := by
  rw [zOf_self a, zOf_self b]
  have hn : b.natAbs ≠ 0 := by omega
  generalize decide (a < 0) = s
  generalize decide (b < 0) = t
  generalize a.natAbs = m
  generalize b.natAbs = n at *
  rw [(quo_parts s t m n hn).2]
  by_cases h : m % n = 0
  · exact .inl (zOf_zero.2 h)
  · have hm : m ≠ 0 := by rintro rfl; exact h (Nat.zero_mod _)
    refine .inr ?_
    cases s <;> simp only [zOf, cmpZ, if_true, if_false, Bool.false_eq_true] <;> split <;> split <;> (try split) <;> (try split) <;> omega
theorem fl_sign (hb : b ≠ 0) : flR a b = 0 ∨ cmpZ (flR a b) 0 = cmpZ b 0 := by
  rw [zOf_self a, zOf_self b]
  have hn : b.natAbs ≠ 0 := by omega
  generalize decide (a < 0) = s
  generalize decide (b < 0) = t
  generalize a.natAbs = m
  generalize b.natAbs = n at *
  have hlt : m % n < n := Nat.mod_lt _ (by omega)
  rcases fl_parts s t m n hn with ⟨h1, _, h2⟩ | ⟨_, h3, _, h2⟩
  · rw [h2]
    by_cases h : m % n = 0
    · exact .inl (zOf_zero.2 h)
    · obtain rfl : s = t := h1.resolve_right h
      refine .inr ?_
      cases s <;> simp only [zOf, cmpZ, if_true, if_false, Bool.false_eq_true] <;> split <;> split <;> (try split) <;> (try split) <;> omega
  · rw [h2]
    refine .inr ?_
    cases t <;> simp only [zOf, cmpZ, if_true, if_false, Bool.false_eq_true] <;> split <;> split <;> (try split) <;> (try split) <;> omega
theorem quo_absQ (hb : b ≠ 0) : (quoQ a b).natAbs ≤ a.natAbs := by
  rw [zOf_self a, zOf_self b]
  have hn : b.natAbs ≠ 0 := by omega
  rw [(quo_parts _ _ _ _ hn).1, zOf_abs, zOf_abs]
  exact Nat.div_le_self _ _
theorem fl_absQ (hb : b ≠ 0) : (flQ a b).natAbs ≤ a.natAbs + 1 := by
  rw [zOf_self a, zOf_self b]
  have hn : b.natAbs ≠ 0 := by omega
  have := Nat.div_le_self a.natAbs b.natAbs
  rcases fl_parts (decide (a < 0)) (decide (b < 0)) a.natAbs b.natAbs hn with ⟨_, h1, _⟩ | ⟨_, _, h1, _⟩
  · rw [h1, zOf_abs, zOf_abs]; omega
  · rw [h1, zOf_abs, zOf_abs]; omega
end
end Go.Proofs.YtocnlapbkidinaaGreatDoor
