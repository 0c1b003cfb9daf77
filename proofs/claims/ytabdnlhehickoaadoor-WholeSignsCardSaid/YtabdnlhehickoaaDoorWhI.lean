/-
  whole.Quo and Floor: their contracts.
-/
import Derived.Test.YtabdnlhehickoaaDoorWhH
namespace Go.Proofs.YtabdnlhehickoaaDoor
open Go.RowKit
/-- Two whole numbers and an error's number are told. -/
def W3 (w : World) (z1 z2 er : Int) (e : Ending) (w' : World) : Prop := ∃ u v, e = .returned (.tuple #[u, v, .int .i64 er]) ∧ WNew w' w.heap.size u z1 ∧ WNew w' w.heap.size v z2 ∧ Below w.heap.size w w'
theorem wret3 {fn : Func} {a : Act} {t1 t2 t3 : Tmp} {w w2 : World} {g1 g2 base1 base2 : Nat} {s1 x1 s2 x2 : Value} {b1 b2 : Bool} {A1 A2 : Option Addr} {n1 c1 n2 c2 : Nat} {z1 z2 er : Int}
    (h : fn.results = #[.cell t1 36, .cell t2 36, .tmp t3]) (ht : a.tmps.getD t1 undef = .pointer (some ⟨g1, 0, none⟩)) (ht2 : a.tmps.getD t2 undef = .pointer (some ⟨g2, 0, none⟩)) (ht3 : a.tmps.getD t3 undef = .int .i64 er) (hd : a.defers = [])
    (hv1 : Var w2 g1 s1 x1) (hv2 : Var w2 g2 s2 x2) (hne : g1 ≠ g2) (h1 : WNew w2 base1 (.agg #[.bool b1, .slice A1 n1 c1]) z1) (h2 : WNew w2 base2 (.agg #[.bool b2, .slice A2 n2 c2]) z2) (hb1 : w.heap.size ≤ base1) (hb2 : w.heap.size ≤ base2) (hg1 : w.heap.size ≤ g1) (hg2 : w.heap.size ≤ g2) (hb : Below w.heap.size w w2) :
    bodyPost Tryd.prog fn (W3 w z1 z2 er) .ret a ((((w2.setCell ⟨g1, 0, none⟩ (.bool b1)).setCell ⟨g1, 1, none⟩ (.slice A1 n1 c1)).setCell ⟨g2, 0, none⟩ (.bool b2)).setCell ⟨g2, 1, none⟩ (.slice A2 n2 c2)) := by
  obtain ⟨m1, m2, m3, m4, m5⟩ := wret2_mem hv1 hv2 hne h1 h2 _ rfl
  refine bodyPost_ret (results_wwt h ht ht2 m1.c0 m1.c1 m2.c0 m2.c1) hd ⟨_, _, by rw [ht3], m3.from_ hb1, m4.from_ hb2, m5 hg1 hg2 hb⟩
theorem enter22r (w : World) (s x t y : Value) : ∃ W, W = (((w.alloc (.cells #[s, x] 36)).alloc (.cells #[t, y] 36)).alloc (.cells #[.bool false, .slice none 0 0] 36)).alloc (.cells #[.bool false, .slice none 0 0] 36) ∧ Var W w.heap.size s x ∧ Var W (w.heap.size + 1) t y ∧ Var W (w.heap.size + 1 + 1) (.bool false) (.slice none 0 0) ∧ Var W (w.heap.size + 1 + 1 + 1) (.bool false) (.slice none 0 0) ∧ Below w.heap.size w W := by
  obtain ⟨W, hW, h1, h2, h3, h4⟩ := enter2r w s x t y
  have hsz : W.heap.size = w.heap.size + 1 + 1 + 1 := by rw [hW]; simp
  have h5 := Var.mk_ W (.bool false) (.slice none 0 0)
  rw [hsz] at h5
  exact ⟨_, by rw [hW], h1.alloc _, h2.alloc _, h3.alloc _, h5, bnew h4 _⟩
theorem Cells.first4 {w : World} {B : Nat} {a b c d e f g : Addr × Value} (h : Cells w B [a, b, c, d, e, f, g]) : Cells w B [a, b, c, d] := fun p hp => h p (by
  simp only [List.mem_cons, List.not_mem_nil, or_false] at hp ⊢
  rcases hp with h | h | h | h <;> simp [h])
theorem Cells.for5 {w : World} {B : Nat} {a b c d e f g : Addr × Value} (h : Cells w B [a, b, c, d, e, f, g]) : Cells w B [a, d, b, e, f] := fun p hp => h p (by
  simp only [List.mem_cons, List.not_mem_nil, or_false] at hp ⊢
  rcases hp with h | h | h | h | h <;> simp [h])
theorem Cells.last {w : World} {B : Nat} {a b c d e f g : Addr × Value} (h : Cells w B [a, b, c, d, e, f, g]) : w.cell? g.1 = some g.2 ∧ g.1.block < B := h g (by simp)
def quoR (a b : Int) : Int := if b = 0 then 0 else a.tmod b
def quoE (b : Int) : Int := if b = 0 then 3 else 0
theorem zOf_zero {t : Bool} {n : Nat} : zOf t n = 0 ↔ n = 0 := by cases t <;> simp [zOf]
theorem zOf_tdiv (s t : Bool) (m n : Nat) : (zOf s m).tdiv (zOf t n) = zOf (!(s == t)) (m / n) := by
  cases s <;> cases t <;> simp [zOf, Int.tdiv_neg, Int.neg_tdiv]
theorem zOf_tmod (s t : Bool) (m n : Nat) : (zOf s m).tmod (zOf t n) = zOf s (m % n) := by
  cases s <;> cases t <;> simp [zOf, Int.tmod_neg, Int.neg_tmod, Int.tmod_eq_emod_of_nonneg]
theorem nil_wnew (w : World) (base : Nat) : WNew w base (.agg #[.bool false, .slice none 0 0]) 0 := ⟨_, rfl, New.nil w base⟩
section
variable {w : World} {u v : Value} {a b : Int} {K L : Nat}

set_option maxHeartbeats 1600000 in
theorem wquo_zero {s : Bool} {x : Value} {t : Bool} {y : Value} (hx : ∃ A n c, x = .slice A n c) (hy : Num w y 0 L) (hL : L ≤ 1000000) : Calls Tryd.prog 42 #[.agg #[.bool s, x], .agg #[.bool t, y]] w (W3 w 0 0 3) := by
  obtain ⟨W, hW, hp, hq, hr, ht, hb⟩ := enter22r w (.bool s) x (.bool t) y
  have HN := isNought_any (s := t) (hy.below hb) hL
  rw [decide_eq_true rfl] at HN
  replace HN := Lib.hid HN
  obtain ⟨XA, XN, XC, rfl⟩ := hx
  obtain ⟨YA, YN, YC, ys, rfl, hys⟩ := hy
  clear hys
  have e1 := hq.c0
  have e2 := hq.c1
  go_enter Tryd.func42, Tryd.ntmps42
  go_wp2_with fail
  rw [← hW]
  clear hW
  refine HN.out.mono ?_
  rintro e w1 ⟨rfl, hb1⟩
  have hr2 := hr.next hb1
  have ht2 := ht.next hb1
  obtain ⟨q1, q2, q3, q4, q5, q6⟩ := hr2.room (.bool false)
  obtain ⟨p1, p2, p3, p4, p5, p6⟩ := hr2.room2 ht2 (Nat.succ_ne_self _) (.bool false) (.slice none 0 0) (.bool false)
  clear e1 e2 HN
  go_wp2_with fail
  exact wret3 rfl rfl rfl rfl rfl hr2 ht2 (by omega) (nil_wnew _ w.heap.size) (nil_wnew _ w.heap.size) (Nat.le_refl _) (Nat.le_refl _) (by omega) (by omega) (bnext hb hb1)

set_option maxHeartbeats 1600000 in
theorem wfloor_zero {s : Bool} {x : Value} {t : Bool} {y : Value} (hx : ∃ A n c, x = .slice A n c) (hy : Num w y 0 L) (hL : L ≤ 1000000) : Calls Tryd.prog 44 #[.agg #[.bool s, x], .agg #[.bool t, y]] w (W3 w 0 0 3) := by
  obtain ⟨W, hW, hp, hq, hr, ht, hb⟩ := enter22r w (.bool s) x (.bool t) y
  have HN := isNought_any (s := t) (hy.below hb) hL
  rw [decide_eq_true rfl] at HN
  replace HN := Lib.hid HN
  obtain ⟨XA, XN, XC, rfl⟩ := hx
  obtain ⟨YA, YN, YC, ys, rfl, hys⟩ := hy
  clear hys
  have e1 := hq.c0
  have e2 := hq.c1
  go_enter Tryd.func44, Tryd.ntmps44
  go_wp2_with fail
  rw [← hW]
  clear hW
  refine HN.out.mono ?_
  rintro e w1 ⟨rfl, hb1⟩
  have hr2 := hr.next hb1
  have ht2 := ht.next hb1
  obtain ⟨q1, q2, q3, q4, q5, q6⟩ := hr2.room (.bool false)
  obtain ⟨p1, p2, p3, p4, p5, p6⟩ := hr2.room2 ht2 (Nat.succ_ne_self _) (.bool false) (.slice none 0 0) (.bool false)
  clear e1 e2 HN
  go_wp2_with fail
  exact wret3 rfl rfl rfl rfl rfl hr2 ht2 (by omega) (nil_wnew _ w.heap.size) (nil_wnew _ w.heap.size) (Nat.le_refl _) (Nat.le_refl _) (by omega) (by omega) (bnext hb hb1)

set_option maxHeartbeats 1600000 in
theorem wquo_pos {s : Bool} {x : Value} {t : Bool} {y : Value} {m n : Nat} (hx : Num w x m K) (hy : Num w y n L) (hK : K ≤ 1000000) (hL : L ≤ 1000000) (hn : n ≠ 0) : Calls Tryd.prog 42 #[.agg #[.bool s, x], .agg #[.bool t, y]] w (W3 w (zOf (!(s == t)) (m / n)) (zOf s (m % n)) 0) := by
  obtain ⟨W, hW, hp, hq, hr, ht, hb⟩ := enter22r w (.bool s) x (.bool t) y
  replace hx := hx.below hb
  replace hy := hy.below hb
  have HN := isNought_any (s := t) hy hL
  rw [decide_eq_false hn] at HN
  replace HN := Lib.hid HN
  have HR : Hid (remZ m n = m % n) := Lib.hid (by unfold remZ; rw [if_neg hn])
  have e1 := hq.c0
  have e2 := hq.c1
  go_enter Tryd.func42, Tryd.ntmps42
  go_wp2_with fail
  rw [← hW]
  clear hW
  refine HN.out.mono ?_
  rintro e w1 ⟨rfl, hb1⟩
  replace hp := hp.next hb1
  replace hq := hq.next hb1
  replace hr := hr.next hb1
  replace ht := ht.next hb1
  replace hb := bnext hb hb1
  replace hx := hx.below hb1
  replace hy := hy.below hb1
  clear e1 e2 HN hb1
  have e1 := hp.c0
  have e2 := hp.c1
  have e3 := hq.c0
  have e4 := hq.c1
  go_wp2_with fail
  refine (divisions_any hx hy hK).mono ?_
  rintro e w2 ⟨gu, gq, ga, gl, gt, gb, X, Y, rfl, hS, hX, hY, hb2⟩
  have hsz := hb.size
  replace hr := hr.next hb2
  replace ht := ht.next hb2
  replace hb := bnext hb hb2
  have hsz2 := hb.size
  replace hy := hy.below hb2
  clear e1 e2 e3 e4 hp hq hb2
  rw [HR.out] at hY
  have HD := Lib.hid (div1_any hS.first4 hX hY)
  clear hS hX hY hy hsz2 hx
  go_wp2_with fail
  refine HD.out.mono ?_
  rintro e w3 ⟨u, v, rfl, hu, hv, hb3⟩
  obtain ⟨b, xa, xn, xc, rfl, hn1⟩ := hu.opened
  obtain ⟨c, ya, yn, yc, rfl, hn2⟩ := hv.opened
  clear HD
  have z0 : w.heap.size + 1 + 1 + 1 < w3.heap.size := Nat.lt_of_lt_of_le ht.lt hb3.size
  have A2 : Below w3.heap.size w3 ((w3.alloc (.cells #[.bool b, .slice xa xn xc] 36)).alloc (.cells #[.bool c, .slice ya yn yc] 36)) := bnew (bnew (Below.refl _ _) _) _
  have v1 : Var ((w3.alloc (.cells #[.bool b, .slice xa xn xc] 36)).alloc (.cells #[.bool c, .slice ya yn yc] 36)) w3.heap.size (.bool b) (.slice xa xn xc) := (Var.mk_ _ _ _).alloc _
  have v2 : Var ((w3.alloc (.cells #[.bool b, .slice xa xn xc] 36)).alloc (.cells #[.bool c, .slice ya yn yc] 36)) (w3.heap.size + 1) (.bool c) (.slice ya yn yc) := by
    have := Var.mk_ (w3.alloc (.cells #[.bool b, .slice xa xn xc] 36)) (.bool c) (.slice ya yn yc)
    rw [show (w3.alloc (.cells #[.bool b, .slice xa xn xc] 36)).heap.size = w3.heap.size + 1 by simp] at this
    exact this
  replace hr := (hr.next hb3).next A2
  replace ht := (ht.next hb3).next A2
  have hn1' := hn1.out.next A2
  have hn2' := hn2.out.next A2
  replace hb := bnext (bnext hb hb3) A2
  clear A2
  go_wp2_with fail
  generalize (w3.alloc (.cells #[.bool b, .slice xa xn xc] 36)).alloc (.cells #[.bool c, .slice ya yn yc] 36) = V at *
  have r0 := hr.c0
  have r1 := hr.c1
  have r2 := hr.f0
  have r3 := hr.f1
  have t0 := ht.c0
  have t1 := ht.c1
  have t2 := ht.f0
  have t3 := ht.f1
  have d0 := v1.c0
  have d1 := v1.c1
  have d2 := v2.c0
  have d3 := v2.c1
  have ne1 : w.heap.size + 1 + 1 ≠ w3.heap.size := by omega
  have ne2 : w.heap.size + 1 + 1 ≠ w3.heap.size + 1 := by omega
  have ne3 : w.heap.size + 1 + 1 + 1 ≠ w3.heap.size := by omega
  have ne4 : w.heap.size + 1 + 1 + 1 ≠ w3.heap.size + 1 := by omega
  go_region
  all_goals
    go_wp2_with fail
    exact wret3 (w2 := V.drew) rfl rfl rfl rfl rfl hr.drew ht.drew (by omega) (hn1'.next (Below.refl _ _).drew) (hn2'.next (Below.refl _ _).drew) hsz hsz (by omega) (by omega) hb.drew
end
end Go.Proofs.YtabdnlhehickoaaDoor
