/-
  Whole numbers: what a value says; whole.Norm, Neg, Add, Sub, Mul, Cmp, Of, Small; the laws' small and same.
-/
import Derived.Test.YtocnlapbkidinaaGreatDoorPn5
import Derived.Deep.RegionHeld3
set_option linter.unusedVariables false
set_option linter.unusedSimpArgs false
set_option linter.unusedSectionVars false
set_option linter.unnecessarySimpa false
namespace Go.Proofs.YtocnlapbkidinaaGreatDoor
open Go.RowKit


/-- The whole number of a sign and a number. -/
def zOf (s : Bool) (m : Nat) : Int := if s then -(m : Int) else (m : Int)
theorem zOf_true (m : Nat) : zOf true m = -(m : Int) := rfl
theorem zOf_false (m : Nat) : zOf false m = (m : Int) := rfl
theorem zOf_abs (s : Bool) (m : Nat) : (zOf s m).natAbs = m := by cases s <;> simp [zOf]
theorem zOf_neg (s : Bool) (m : Nat) : decide (zOf s m < 0) = (s && decide (0 < m)) := by
  cases s
  · simp [zOf]
  · simp only [zOf, if_true, Bool.true_and]
    exact decide_eq_decide.2 (by omega)
/-- The value v is a whole number's: a sign s, and a slice of at most K limbs that has the number m. -/
def Wh (w : World) (v : Value) (z : Int) (K : Nat) : Prop := ∃ s x m, v = .agg #[.bool s, x] ∧ Num w x m K ∧ z = zOf s m
/-- A call's own: without limbs of 0 at its end, nought without a sign. -/
def WNew (w : World) (base : Nat) (v : Value) (z : Int) : Prop := ∃ x, v = .agg #[.bool (decide (z < 0)), x] ∧ New w base x (limbs z.natAbs)
def WGives (w : World) (z : Int) (e : Ending) (w' : World) : Prop := ∃ v, e = .returned v ∧ WNew w' w.heap.size v z ∧ Below w.heap.size w w'
theorem Wh.below {w w' : World} {v : Value} {z : Int} {K : Nat} (h : Wh w v z K) (hb : Below w.heap.size w w') : Wh w' v z K := by
  obtain ⟨s, x, m, e, hn, hz⟩ := h
  exact ⟨s, x, m, e, hn.below hb, hz⟩
theorem Wh.lt {w : World} {v : Value} {z : Int} {K : Nat} (h : Wh w v z K) : z.natAbs < 4294967296 ^ K := by
  obtain ⟨s, x, m, e, hn, rfl⟩ := h
  rw [zOf_abs]; exact hn.lt
theorem WNew.next {w w' : World} {base : Nat} {v : Value} {z : Int} (h : WNew w base v z) (hb : Below w.heap.size w w') : WNew w' base v z := by
  obtain ⟨x, e, hn⟩ := h
  exact ⟨x, e, hn.next hb⟩
theorem WNew.from_ {w : World} {base base' : Nat} {v : Value} {z : Int} (h : WNew w base v z) (hb : base' ≤ base) : WNew w base' v z := by
  obtain ⟨x, e, hn⟩ := h
  exact ⟨x, e, hn.from_ hb⟩
theorem zOf_self (z : Int) : z = zOf (decide (z < 0)) z.natAbs := by
  unfold zOf
  by_cases h : z < 0
  · rw [decide_eq_true h, if_pos rfl]; omega
  · rw [decide_eq_false h, if_neg (by decide)]; omega
theorem WNew.wh {w : World} {base : Nat} {v : Value} {z : Int} (h : WNew w base v z) (K : Nat) (hz : z.natAbs < 4294967296 ^ K) : Wh w v z K := by
  obtain ⟨x, rfl, hn⟩ := h
  exact ⟨_, x, z.natAbs, rfl, hn.num K hz, zOf_self z⟩
theorem WNew.of {w : World} {base : Nat} {x : Value} (s : Bool) (m : Nat) (h : New w base x (limbs m)) {b : Bool} (hb : b = (s && decide (0 < m))) : WNew w base (.agg #[.bool b, x]) (zOf s m) :=
  ⟨x, by rw [zOf_neg, hb], by rw [zOf_abs]; exact h⟩


theorem load_w {w : World} {b : Nat} {s x : Value} (c0 : w.cell? ⟨b, 0, none⟩ = some s) (c1 : w.cell? ⟨b, 1, none⟩ = some x) : (loadVar 27 ⟨b, 0, none⟩).run Tryz.prog w = .ok (.agg #[s, x]) w := by
  simp [go_sem, c0, c1]
theorem asAddr_ptr (w : World) (a : Addr) : (asAddr (.pointer (some a))).run Tryz.prog w = .ok a w := by simp [go_sem]
theorem results_w {fn : Func} {tmps : Array Value} {t : Tmp} {w : World} {b : Nat} {s x : Value} (h : fn.results = #[.cell t 27]) (ht : tmps.getD t undef = .pointer (some ⟨b, 0, none⟩)) (c0 : w.cell? ⟨b, 0, none⟩ = some s) (c1 : w.cell? ⟨b, 1, none⟩ = some x) :
    (results fn tmps).run Tryz.prog w = .ok (.agg #[s, x]) w := by
  rw [Array.getD_eq_getD_getElem?] at ht
  simp [results, h, ht, go_sem, c0, c1]
theorem results_wt {fn : Func} {tmps : Array Value} {t t2 : Tmp} {w : World} {b : Nat} {s x : Value} (h : fn.results = #[.cell t 27, .tmp t2]) (ht : tmps.getD t undef = .pointer (some ⟨b, 0, none⟩)) (c0 : w.cell? ⟨b, 0, none⟩ = some s) (c1 : w.cell? ⟨b, 1, none⟩ = some x) :
    (results fn tmps).run Tryz.prog w = .ok (.tuple #[.agg #[s, x], tmps.getD t2 undef]) w := by
  rw [Array.getD_eq_getD_getElem?] at ht
  simp [results, h, ht, go_sem, c0, c1]
theorem results_ww {fn : Func} {tmps : Array Value} {t t2 : Tmp} {w : World} {b b2 : Nat} {s x s2 x2 : Value} (h : fn.results = #[.cell t 27, .cell t2 27]) (ht : tmps.getD t undef = .pointer (some ⟨b, 0, none⟩)) (ht2 : tmps.getD t2 undef = .pointer (some ⟨b2, 0, none⟩)) (c0 : w.cell? ⟨b, 0, none⟩ = some s) (c1 : w.cell? ⟨b, 1, none⟩ = some x) (d0 : w.cell? ⟨b2, 0, none⟩ = some s2) (d1 : w.cell? ⟨b2, 1, none⟩ = some x2) :
    (results fn tmps).run Tryz.prog w = .ok (.tuple #[.agg #[s, x], .agg #[s2, x2]]) w := by
  rw [Array.getD_eq_getD_getElem?] at ht ht2
  simp [results, h, ht, ht2, go_sem, c0, c1, d0, d1]
theorem results_wwt {fn : Func} {tmps : Array Value} {t t2 t3 : Tmp} {w : World} {b b2 : Nat} {s x s2 x2 : Value} (h : fn.results = #[.cell t 27, .cell t2 27, .tmp t3]) (ht : tmps.getD t undef = .pointer (some ⟨b, 0, none⟩)) (ht2 : tmps.getD t2 undef = .pointer (some ⟨b2, 0, none⟩)) (c0 : w.cell? ⟨b, 0, none⟩ = some s) (c1 : w.cell? ⟨b, 1, none⟩ = some x) (d0 : w.cell? ⟨b2, 0, none⟩ = some s2) (d1 : w.cell? ⟨b2, 1, none⟩ = some x2) :
    (results fn tmps).run Tryz.prog w = .ok (.tuple #[.agg #[s, x], .agg #[s2, x2], tmps.getD t3 undef]) w := by
  rw [Array.getD_eq_getD_getElem?] at ht ht2
  simp [results, h, ht, ht2, go_sem, c0, c1, d0, d1]

theorem New.nought {w : World} {base : Nat} {x : Value} {m : Nat} (h : New w base x (limbs m)) : ∃ A n c, x = .slice A n c ∧ n ≤ 2 ^ 63 - 1 ∧ (n = 0 ↔ m = 0) := by
  obtain ⟨A, n, c, rfl, hs, _⟩ := h
  have hlen := hs.len
  have hmax := Nat.le_trans hs.le hs.max
  unfold maxLen at hmax
  refine ⟨A, n, c, rfl, hmax, ?_⟩
  rw [hlen]
  constructor
  · intro h0; exact (limbs_nil_iff m).1 (List.length_eq_zero_iff.1 h0)
  · intro h0; rw [h0]; rfl

set_option maxHeartbeats 400000 in
theorem signed_any (s : Bool) (x : Value) (m base : Nat) (w : World) (h : New w base x (limbs m)) :
    Calls Tryz.prog 82 #[.bool s, x] w fun e w' => e = .returned (.agg #[.bool (s && decide (0 < m)), x]) ∧ Below w.heap.size w w' := by
  obtain ⟨A, n, c, rfl, hmax, hnm⟩ := h.nought
  clear h
  have hb : ∀ o, Below w.heap.size w (w.alloc o) := fun o => (Below.refl _ _).alloc (Nat.le_refl _) o
  cases s
  · go_enter Tryz.func82, Tryz.ntmps82
    go_wp2_with fail
    (try simp only [Exit.inBlock, Exit.then]); refine bodyPost_ret (results_w rfl rfl (by simp; rfl) (by simp; rfl)) rfl ?_
    exact ⟨rfl, hb _⟩
  · by_cases h0 : m = 0
    · obtain rfl : n = 0 := hnm.2 h0
      subst h0
      clear hnm
      go_enter Tryz.func82, Tryz.ntmps82
      go_wp2_with fail
      (try simp only [Exit.inBlock, Exit.then]); refine bodyPost_ret (results_w rfl rfl (by simp; rfl) (by simp; rfl)) rfl ?_
      exact ⟨rfl, hb _⟩
    · have hn0 : 0 < n := by omega
      have hm0 : decide (0 < m) = true := decide_eq_true (by omega)
      rw [hm0]
      clear hnm h0
      go_enter Tryz.func82, Tryz.ntmps82
      go_wp2_with fail
      (try simp only [Exit.inBlock, Exit.then]); refine bodyPost_ret (results_w rfl rfl (by simp; rfl) (by simp; rfl)) rfl ?_
      exact ⟨rfl, hb _⟩

theorem signed_new {w : World} {x : Value} {m base : Nat} (s : Bool) (h : New w base x (limbs m)) :
    Calls Tryz.prog 82 #[.bool s, x] w fun e w' => ∃ v, e = .returned v ∧ WNew w' base v (zOf s m) ∧ Below w.heap.size w w' := by
  refine (signed_any s x m base w h).mono ?_
  rintro e w' ⟨rfl, hb⟩
  exact ⟨_, rfl, WNew.of s m (h.next hb) rfl, hb⟩

set_option maxHeartbeats 400000 in
theorem isNought_any {w : World} {x : Value} {s : Bool} {m K : Nat} (hx : Num w x m K) (hK : K ≤ 35184372087808) :
    Calls Tryz.prog 89 #[.agg #[.bool s, x]] w fun e w' => e = .returned (.bool (decide (m = 0))) ∧ Below w.heap.size w w' := by
  have hbl := bl_bd hx.lt
  have hz : m = 0 ↔ bl m = 0 := ⟨fun h => by rw [h]; rfl, fun h => by rcases Nat.eq_zero_or_pos m with h1 | h1; exact h1; exact absurd h (by have := bl_pos m (by omega); omega)⟩
  have HB := bits_num (hx.alloc (.cells #[.bool s, x] 27)) (by omega)
  obtain ⟨k, hk⟩ : ∃ k, k = bl m := ⟨_, rfl⟩
  rw [← hk] at hz hbl HB
  replace HB := Lib.hid HB
  have hd : decide (m = 0) = decide ((k : Int) = 0) := decide_eq_decide.2 (by omega)
  rw [hd]
  clear hk hd
  clear hz hx
  go_enter Tryz.func89, Tryz.ntmps89
  go_wp2_with fail
  refine HB.out.mono ?_
  rintro e w1 ⟨rfl, rfl⟩
  go_wp2_with fail
  go_ret
  exact ⟨rfl, (Below.refl _ _).alloc (Nat.le_refl _) _⟩

set_option maxHeartbeats 400000 in
theorem below_any {w : World} {x : Value} {s : Bool} {m K : Nat} (hx : Num w x m K) (hK : K ≤ 35184372087808) :
    Calls Tryz.prog 100 #[.agg #[.bool s, x]] w fun e w' => e = .returned (.bool (decide (zOf s m < 0))) ∧ Below w.heap.size w w' := by
  have hb0 : Below w.heap.size w (w.alloc (.cells #[.bool s, x] 27)) := (Below.refl _ _).alloc (Nat.le_refl _) _
  rw [zOf_neg]
  cases s
  · go_enter Tryz.func100, Tryz.ntmps100
    go_wp2_with fail
    go_ret
    exact ⟨rfl, hb0⟩
  · have h2 := Lib.hid (isNought_any (s := true) (hx.below hb0) hK)
    have hd : (true && decide (0 < m)) = !(decide (m = 0)) := by by_cases h : m = 0 <;> simp [h] <;> omega
    rw [hd]
    go_enter Tryz.func100, Tryz.ntmps100
    go_wp2_with fail
    refine h2.out.mono ?_
    rintro e w1 ⟨rfl, hb1⟩
    go_wp2_with fail
    go_ret
    exact ⟨rfl, bnext hb0 hb1⟩

/-- The block g is a variable that holds a whole number's sign and slice. -/
def Var (w : World) (g : Nat) (s x : Value) : Prop := w.heap[g]? = some (.cells #[s, x] 27 (0, 0))
section
variable {w w' : World} {g : Nat} {s x : Value}
theorem Var.lt (h : Var w g s x) : g < w.heap.size := by
  rcases Nat.lt_or_ge g w.heap.size with hg | hg
  · exact hg
  · unfold Var at h; rw [Array.getElem?_eq_none hg] at h; cases h
theorem Var.c0 (h : Var w g s x) : w.cell? ⟨g, 0, none⟩ = some s := by unfold Var at h; simp [World.cell?, h]
theorem Var.c1 (h : Var w g s x) : w.cell? ⟨g, 1, none⟩ = some x := by unfold Var at h; simp [World.cell?, h]
theorem Var.f0 (h : Var w g s x) : w.frozen? ⟨g, 0, none⟩ = false := by unfold Var at h; simp [World.frozen?, h]
theorem Var.f1 (h : Var w g s x) : w.frozen? ⟨g, 1, none⟩ = false := by unfold Var at h; simp [World.frozen?, h]
theorem Var.below {B : Nat} (h : Var w g s x) (hb : Below B w w') (hg : g < B) : Var w' g s x := (hb.block g hg).trans h
theorem Var.next (h : Var w g s x) (hb : Below w.heap.size w w') : Var w' g s x := h.below hb h.lt
theorem Var.alloc (h : Var w g s x) (o : Obj) : Var (w.alloc o) g s x := h.next ((Below.refl _ _).alloc (Nat.le_refl _) o)
theorem Var.drew (h : Var w g s x) : Var w.drew g s x := h
theorem Var.set0 (h : Var w g s x) (v : Value) : Var (w.setCell ⟨g, 0, none⟩ v) g v x := by
  unfold Var at *
  simp [World.setCell, Array.getElem?_modify, h]
theorem Var.set1 (h : Var w g s x) (v : Value) : Var (w.setCell ⟨g, 1, none⟩ v) g s v := by
  unfold Var at *
  simp [World.setCell, Array.getElem?_modify, h]
theorem Var.far (h : Var w g s x) {p : Addr} (hp : g ≠ p.block) (u : Value) : Var (w.setCell p u) g s x := (Below.heap_setCell w p u g hp).trans h
theorem Var.mk_ (w : World) (s x : Value) : Var (w.alloc (.cells #[s, x] 27)) w.heap.size s x := heap_alloc_new w _
/-- What a store into the variable asks. -/
theorem Var.room (h : Var w g s x) (b : Value) : w.frozen? ⟨g, 0, none⟩ = false ∧ w.frozen? ⟨g, 1, none⟩ = false ∧ w.cell? ⟨g, 0, none⟩ = some s ∧ w.cell? ⟨g, 1, none⟩ = some x ∧ (w.setCell ⟨g, 0, none⟩ b).frozen? ⟨g, 1, none⟩ = false ∧ (w.setCell ⟨g, 0, none⟩ b).cell? ⟨g, 1, none⟩ = some x :=
  ⟨h.f0, h.f1, h.c0, h.c1, (h.set0 b).f1, (h.set0 b).c1⟩
end
theorem Wh.drew {w : World} {v : Value} {z : Int} {K : Nat} (h : Wh w v z K) : Wh w.drew v z K := h.below ((Below.refl _ _).drew)
theorem Num.drew {w : World} {v : Value} {m K : Nat} (h : Num w v m K) : Num w.drew v m K := h.below ((Below.refl _ _).drew)
theorem enter1 (w : World) (s x : Value) : ∃ W, W = (w.alloc (.cells #[s, x] 27)) ∧ Var W w.heap.size s x ∧ Below w.heap.size w W :=
  ⟨_, rfl, Var.mk_ _ _ _, bnew (Below.refl _ _) _⟩
theorem enter1r (w : World) (s x : Value) : ∃ W, W = (w.alloc (.cells #[s, x] 27)).alloc (.cells #[.bool false, .slice none 0 0] 27) ∧ Var W w.heap.size s x ∧ Var W (w.heap.size + 1) (.bool false) (.slice none 0 0) ∧ Below w.heap.size w W := by
  refine ⟨_, rfl, (Var.mk_ _ _ _).alloc _, ?_, bnew (bnew (Below.refl _ _) _) _⟩
  have := Var.mk_ (w.alloc (.cells #[s, x] 27)) (.bool false) (.slice none 0 0)
  simpa using this
theorem enter2 (w : World) (s x t y : Value) : ∃ W, W = (w.alloc (.cells #[s, x] 27)).alloc (.cells #[t, y] 27) ∧ Var W w.heap.size s x ∧ Var W (w.heap.size + 1) t y ∧ Below w.heap.size w W := by
  refine ⟨_, rfl, (Var.mk_ _ _ _).alloc _, ?_, bnew (bnew (Below.refl _ _) _) _⟩
  have := Var.mk_ (w.alloc (.cells #[s, x] 27)) t y
  simpa using this
theorem enter2r (w : World) (s x t y : Value) : ∃ W, W = ((w.alloc (.cells #[s, x] 27)).alloc (.cells #[t, y] 27)).alloc (.cells #[.bool false, .slice none 0 0] 27) ∧ Var W w.heap.size s x ∧ Var W (w.heap.size + 1) t y ∧ Var W (w.heap.size + 2) (.bool false) (.slice none 0 0) ∧ Below w.heap.size w W := by
  obtain ⟨W, rfl, h1, h2, h3⟩ := enter2 w s x t y
  refine ⟨_, rfl, h1.alloc _, h2.alloc _, ?_, bnew h3 _⟩
  have := Var.mk_ ((w.alloc (.cells #[s, x] 27)).alloc (.cells #[t, y] 27)) (.bool false) (.slice none 0 0)
  simpa using this
theorem enter0r (w : World) : ∃ W, W = w.alloc (.cells #[.bool false, .slice none 0 0] 27) ∧ Var W w.heap.size (.bool false) (.slice none 0 0) ∧ Below w.heap.size w W :=
  ⟨_, rfl, Var.mk_ _ _ _, bnew (Below.refl _ _) _⟩
theorem WNew.opened {w : World} {base : Nat} {v : Value} {z : Int} (h : WNew w base v z) : ∃ b A n c, v = .agg #[.bool b, .slice A n c] ∧ Hid (WNew w base (.agg #[.bool b, .slice A n c]) z) := by
  obtain ⟨x, rfl, A, n, c, rfl, hs⟩ := h
  exact ⟨_, A, n, c, rfl, ⟨_, rfl, A, n, c, rfl, hs⟩⟩
theorem Wh.opened {w : World} {v : Value} {z : Int} {K : Nat} (h : Wh w v z K) : ∃ b A n c, v = .agg #[.bool b, .slice A n c] ∧ Hid (Wh w (.agg #[.bool b, .slice A n c]) z K) := by
  obtain ⟨s, x, m, rfl, ⟨A, n, c, xs, rfl, hs⟩, hz⟩ := h
  exact ⟨_, A, n, c, rfl, ⟨s, _, m, rfl, ⟨A, n, c, xs, rfl, hs⟩, hz⟩⟩
theorem New.farSet {w : World} {g base : Nat} {s x v : Value} {xs : List Nat} (hv : Var w g s x) (h : New w base v xs) (i : Nat) (u : Value) : New (w.setCell ⟨g, i, none⟩ u) base v xs := by
  obtain ⟨A, n, c, rfl, hs, hor⟩ := h
  have hbl : ∀ k, k ≠ g → (w.setCell ⟨g, i, none⟩ u).heap[k]? = w.heap[k]? := fun k hk => Below.heap_setCell w _ u k hk
  rcases hor with ⟨rfl, rfl⟩ | ⟨b, cur, rfl, hb, hc, hsz⟩
  · have h0 : n = 0 := Nat.le_zero.1 hs.le
    have hx0 := hs.len
    subst h0
    obtain rfl : xs = [] := List.length_eq_zero_iff.1 hx0.symm
    exact ⟨none, 0, 0, rfl, Sl.nil, .inl ⟨rfl, rfl⟩⟩
  · have hne : b ≠ g := by
      intro e
      subst e
      unfold Var at hv
      rw [hv] at hc
      simp at hc
    refine ⟨_, n, c, rfl, ⟨hs.len, hs.le, hs.max, hs.ok, fun hn => ?_, hs.nil_⟩, .inr ⟨b, cur, rfl, hb, (hbl b hne).trans hc, hsz⟩⟩
    obtain ⟨b', o', he, hlt, hcell⟩ := hs.here hn
    cases he
    exact ⟨b, 0, rfl, by rw [(Only.setCell g i w u).size]; exact hlt, fun j hj => by rw [World.cell?_of_block (w := w) (hbl b hne)]; exact hcell j hj⟩
/-- A call ends, its answer in the variable g. -/
theorem wret {fn : Func} {a : Act} {t : Tmp} {w w2 : World} {g base : Nat} {s0 x0 : Value} {b : Bool} {A : Option Addr} {n c : Nat} {z : Int} (h : fn.results = #[.cell t 27]) (ht : a.tmps.getD t undef = .pointer (some ⟨g, 0, none⟩)) (hd : a.defers = [])
    (hv : Var w2 g s0 x0) (hn : WNew w2 base (.agg #[.bool b, .slice A n c]) z) (hbase : w.heap.size ≤ base) (hg : w.heap.size ≤ g) (hb : Below w.heap.size w w2) :
    bodyPost Tryz.prog fn (WGives w z) .ret a ((w2.setCell ⟨g, 0, none⟩ (.bool b)).setCell ⟨g, 1, none⟩ (.slice A n c)) := by
  have h1 := (hv.set0 (.bool b)).set1 (.slice A n c)
  refine bodyPost_ret (results_w h ht h1.c0 h1.c1) hd ?_
  obtain ⟨x, e, hnew⟩ := hn
  have e' : Value.bool b = .bool (decide (z < 0)) ∧ Value.slice A n c = x := by simpa using e
  refine ⟨_, rfl, ⟨.slice A n c, by rw [e'.1], ?_⟩, ?_⟩
  · rw [← e'.2] at hnew
    exact (New.farSet (hv.set0 (.bool b)) (New.farSet hv hnew 0 (.bool b)) 1 (.slice A n c)).from_ hbase
  · exact (hb.setCell hg _).setCell hg _
theorem signed_w {w : World} {x : Value} {m base : Nat} (s : Bool) (h : New w base x (limbs m)) :
    Calls Tryz.prog 82 #[.bool s, x] w fun e w' => ∃ b A n c, e = .returned (.agg #[.bool b, .slice A n c]) ∧ Hid (WNew w' base (.agg #[.bool b, .slice A n c]) (zOf s m)) ∧ Below w.heap.size w w' := by
  refine (signed_new s h).mono ?_
  rintro e w' ⟨v, rfl, hv, hb⟩
  obtain ⟨b, A, n, c, rfl, H⟩ := hv.opened
  exact ⟨b, A, n, c, rfl, H, hb⟩

section
variable {w : World} {u v : Value} {a b : Int} {K L : Nat}

set_option maxHeartbeats 800000 in
theorem wneg_num (hu : Wh w u a K) (hK : K ≤ 1000000) : Calls Tryz.prog 86 #[u] w (WGives w (-a)) := by
  obtain ⟨s, x, m, rfl, hx, rfl⟩ := hu
  have hz : -(zOf s m) = zOf (!s) m := by cases s <;> simp [zOf]
  rw [hz]
  clear hz
  obtain ⟨W, hW, hp, hr, hb⟩ := enter1r w (.bool s) x
  replace hx := (hx.below hb).drew
  go_enter Tryz.func86, Tryz.ntmps86
  go_wp2_with fail
  rw [← hW]
  clear hW
  replace hp := hp.drew
  have hpd0 := hp.c0
  have hpd1 := hp.c1
  replace hr := hr.drew
  go_region_held3 (fun w' => w'.cell? ⟨w.heap.size, 0, none⟩ = some (.bool s) ∧ w'.cell? ⟨w.heap.size, 1, none⟩ = some (x))
    (first | exact ⟨hp1.c0, hp1.c1⟩ | exact ⟨hp2.c0, hp2.c1⟩ | go_keep)
    (first
    | (go_at_call 112; refine (norm_num hx (by omega)).mono ?_; rintro e w1 ⟨v, rfl, hv, hb1⟩; have hp1 := hp.next hb1; have hr1 := hr.next hb1)
    | (go_at_call 82; refine (signed_w (!s) hv).mono ?_; rintro e w2 ⟨b, xa, xn, xc, rfl, hnew, hb2⟩; have hp2 := hp1.next hb2; have hr2 := hr1.next hb2; obtain ⟨q1, q2, q3, q4, q5, q6⟩ := hr2.room (.bool b)))
  go_wp2_with fail
  exact wret rfl rfl rfl hr2 hnew.out hb.drew.size (by omega) (bnext (bnext hb.drew hb1) hb2)
end

/-- What Cmp tells. -/
def cmpZ (a b : Int) : Int := if a < b then -1 else if b < a then 1 else 0
theorem zOf_add_same (s : Bool) (m n : Nat) : zOf s m + zOf s n = zOf s (m + n) := by cases s <;> simp [zOf] <;> omega
theorem zOf_add_less {s t : Bool} {m n : Nat} (h : s ≠ t) (hl : m < n) : zOf s m + zOf t n = zOf t (n - m) := by cases s <;> cases t <;> simp [zOf] at * <;> omega
theorem zOf_add_more {s t : Bool} {m n : Nat} (h : s ≠ t) (hl : ¬ m < n) : zOf s m + zOf t n = zOf s (m - n) := by cases s <;> cases t <;> simp [zOf] at * <;> omega
theorem zOf_mul (s t : Bool) (m n : Nat) : zOf s m * zOf t n = zOf (s != t) (m * n) := by cases s <;> cases t <;> simp [zOf, Int.neg_mul, Int.mul_neg]
theorem abs_add (a b : Int) : (a + b).natAbs ≤ a.natAbs + b.natAbs := Int.natAbs_add_le a b
theorem lt_addZ {a b : Int} {K L : Nat} (ha : a.natAbs < 4294967296 ^ K) (hb : b.natAbs < 4294967296 ^ L) : (a + b).natAbs < 4294967296 ^ (max K L + 1) := Nat.lt_of_le_of_lt (abs_add a b) (lt_add ha hb)
theorem lt_subZ {a b : Int} {K L : Nat} (ha : a.natAbs < 4294967296 ^ K) (hb : b.natAbs < 4294967296 ^ L) : (a - b).natAbs < 4294967296 ^ (max K L + 1) := by
  rw [Int.sub_eq_add_neg]
  exact lt_addZ ha (by rw [Int.natAbs_neg]; exact hb)
theorem lt_mulZ {a b : Int} {K L : Nat} (ha : a.natAbs < 4294967296 ^ K) (hb : b.natAbs < 4294967296 ^ L) : (a * b).natAbs < 4294967296 ^ (K + L) := by
  rw [Int.natAbs_mul]; exact lt_mul ha hb
theorem lt_negZ {a : Int} {K : Nat} (ha : a.natAbs < 4294967296 ^ K) : (-a).natAbs < 4294967296 ^ K := by rw [Int.natAbs_neg]; exact ha
section
variable {w : World} {u v : Value} {a b : Int} {K L : Nat}

set_option maxHeartbeats 1600000 in
theorem wadd_num (hu : Wh w u a K) (hv : Wh w v b L) (hK : K ≤ 1000000) (hL : L ≤ 1000000) : Calls Tryz.prog 43 #[u, v] w (WGives w (a + b)) := by
  obtain ⟨s, x, m, rfl, hx, rfl⟩ := hu
  obtain ⟨t, y, n, rfl, hy, rfl⟩ := hv
  by_cases hst : s = t
  · subst hst
    rw [zOf_add_same]
    obtain ⟨W, hW, hp, hq, hr, hb⟩ := enter2r w (.bool s) x (.bool s) y
    replace hx := (hx.below hb).drew
    replace hy := (hy.below hb).drew
    have hss : (s == s) = true := by cases s <;> rfl
    go_enter Tryz.func43, Tryz.ntmps43
    go_wp2_with fail
    rw [← hW]
    clear hW
    replace hp := hp.drew
    have hpd0 := hp.c0
    have hpd1 := hp.c1
    replace hq := hq.drew
    have hqd0 := hq.c0
    have hqd1 := hq.c1
    replace hr := hr.drew
    go_region_held3 (fun w' => w'.cell? ⟨w.heap.size, 0, none⟩ = some (.bool s) ∧ w'.cell? ⟨w.heap.size, 1, none⟩ = some (x) ∧ w'.cell? ⟨w.heap.size + 1, 0, none⟩ = some (.bool s) ∧ w'.cell? ⟨w.heap.size + 1, 1, none⟩ = some (y))
      (first | exact ⟨hp1.c0, hp1.c1, hq1.c0, hq1.c1⟩ | exact ⟨hp2.c0, hp2.c1, hq2.c0, hq2.c1⟩ | exact ⟨((hp2.far (by dsimp only; omega) _).far (by dsimp only; omega) _).c0, ((hp2.far (by dsimp only; omega) _).far (by dsimp only; omega) _).c1, ((hq2.far (by dsimp only; omega) _).far (by dsimp only; omega) _).c0, ((hq2.far (by dsimp only; omega) _).far (by dsimp only; omega) _).c1⟩ | go_keep)
      (first
      | (go_at_call 83; refine (add_num hx hy (by omega) (by omega)).mono ?_; rintro e w1 ⟨v, rfl, hv, hb1⟩; have hp1 := hp.next hb1; have hq1 := hq.next hb1; have hr1 := hr.next hb1)
      | (go_at_call 82; refine (signed_w s hv).mono ?_; rintro e w2 ⟨b, xa, xn, xc, rfl, hnew, hb2⟩; have hp2 := hp1.next hb2; have hq2 := hq1.next hb2; have hr2 := hr1.next hb2; obtain ⟨q1, q2, q3, q4, q5, q6⟩ := hr2.room (.bool b)))
    go_wp2_with fail
    exact wret rfl rfl rfl hr2 hnew.out hb.drew.size (by omega) (bnext (bnext hb.drew hb1) hb2)
  · by_cases hlt : m < n
    · rw [zOf_add_less hst hlt]
      have hc : cmpN m n < 0 := by exact (cmpN_neg_iff _ _).2 hlt
      have hne : (s == t) = false := by cases s <;> cases t <;> simp at *
      obtain ⟨W, hW, hp, hq, hr, hb⟩ := enter2r w (.bool s) x (.bool t) y
      replace hx := hx.below hb
      replace hy := hy.below hb
      have HC := Lib.hid (cmp_num hx hy (by omega) (by omega))
      replace hx := hx.drew
      replace hy := hy.drew
      go_enter Tryz.func43, Tryz.ntmps43
      go_wp2_with fail
      rw [← hW]
      clear hW
      refine HC.out.mono ?_
      rintro e w0 ⟨rfl, rfl⟩
      have hp0 := hp.c0
      have hp1 := hp.c1
      have hq0 := hq.c0
      have hq1 := hq.c1
      go_wp2_with fail
      clear hp0 hp1 hq0 hq1
      replace hp := hp.drew
      have hpd0 := hp.c0
      have hpd1 := hp.c1
      replace hq := hq.drew
      have hqd0 := hq.c0
      have hqd1 := hq.c1
      replace hr := hr.drew
      go_region_held3 (fun w' => w'.cell? ⟨w.heap.size, 0, none⟩ = some (.bool s) ∧ w'.cell? ⟨w.heap.size, 1, none⟩ = some (x) ∧ w'.cell? ⟨w.heap.size + 1, 0, none⟩ = some (.bool t) ∧ w'.cell? ⟨w.heap.size + 1, 1, none⟩ = some (y))
        (first | exact ⟨hp1.c0, hp1.c1, hq1.c0, hq1.c1⟩ | exact ⟨hp2.c0, hp2.c1, hq2.c0, hq2.c1⟩ | exact ⟨((hp2.far (by dsimp only; omega) _).far (by dsimp only; omega) _).c0, ((hp2.far (by dsimp only; omega) _).far (by dsimp only; omega) _).c1, ((hq2.far (by dsimp only; omega) _).far (by dsimp only; omega) _).c0, ((hq2.far (by dsimp only; omega) _).far (by dsimp only; omega) _).c1⟩ | go_keep)
        (first
        | (go_at_call 85; refine (sub_num hy hx (by omega) (by omega)).mono ?_; rintro e w1 ⟨v, rfl, hv, hb1⟩; have hp1 := hp.next hb1; have hq1 := hq.next hb1; have hr1 := hr.next hb1)
        | (go_at_call 82; refine (signed_w t hv).mono ?_; rintro e w2 ⟨b, xa, xn, xc, rfl, hnew, hb2⟩; have hp2 := hp1.next hb2; have hq2 := hq1.next hb2; have hr2 := hr1.next hb2; obtain ⟨q1, q2, q3, q4, q5, q6⟩ := hr2.room (.bool b)))
      go_wp2_with fail
      exact wret rfl rfl rfl hr2 hnew.out hb.drew.size (by omega) (bnext (bnext hb.drew hb1) hb2)
    · rw [zOf_add_more hst hlt]
      have hc : ¬ cmpN m n < 0 := by intro h; exact hlt ((cmpN_neg_iff _ _).1 h)
      have hne : (s == t) = false := by cases s <;> cases t <;> simp at *
      obtain ⟨W, hW, hp, hq, hr, hb⟩ := enter2r w (.bool s) x (.bool t) y
      replace hx := hx.below hb
      replace hy := hy.below hb
      have HC := Lib.hid (cmp_num hx hy (by omega) (by omega))
      replace hx := hx.drew
      replace hy := hy.drew
      go_enter Tryz.func43, Tryz.ntmps43
      go_wp2_with fail
      rw [← hW]
      clear hW
      refine HC.out.mono ?_
      rintro e w0 ⟨rfl, rfl⟩
      have hp0 := hp.c0
      have hp1 := hp.c1
      have hq0 := hq.c0
      have hq1 := hq.c1
      go_wp2_with fail
      clear hp0 hp1 hq0 hq1
      replace hp := hp.drew
      have hpd0 := hp.c0
      have hpd1 := hp.c1
      replace hq := hq.drew
      have hqd0 := hq.c0
      have hqd1 := hq.c1
      replace hr := hr.drew
      go_region_held3 (fun w' => w'.cell? ⟨w.heap.size, 0, none⟩ = some (.bool s) ∧ w'.cell? ⟨w.heap.size, 1, none⟩ = some (x) ∧ w'.cell? ⟨w.heap.size + 1, 0, none⟩ = some (.bool t) ∧ w'.cell? ⟨w.heap.size + 1, 1, none⟩ = some (y))
        (first | exact ⟨hp1.c0, hp1.c1, hq1.c0, hq1.c1⟩ | exact ⟨hp2.c0, hp2.c1, hq2.c0, hq2.c1⟩ | exact ⟨((hp2.far (by dsimp only; omega) _).far (by dsimp only; omega) _).c0, ((hp2.far (by dsimp only; omega) _).far (by dsimp only; omega) _).c1, ((hq2.far (by dsimp only; omega) _).far (by dsimp only; omega) _).c0, ((hq2.far (by dsimp only; omega) _).far (by dsimp only; omega) _).c1⟩ | go_keep)
        (first
        | (go_at_call 85; refine (sub_num hx hy (by omega) (by omega)).mono ?_; rintro e w1 ⟨v, rfl, hv, hb1⟩; have hp1 := hp.next hb1; have hq1 := hq.next hb1; have hr1 := hr.next hb1)
        | (go_at_call 82; refine (signed_w s hv).mono ?_; rintro e w2 ⟨b, xa, xn, xc, rfl, hnew, hb2⟩; have hp2 := hp1.next hb2; have hq2 := hq1.next hb2; have hr2 := hr1.next hb2; obtain ⟨q1, q2, q3, q4, q5, q6⟩ := hr2.room (.bool b)))
      go_wp2_with fail
      exact wret rfl rfl rfl hr2 hnew.out hb.drew.size (by omega) (bnext (bnext hb.drew hb1) hb2)

set_option maxHeartbeats 1600000 in
theorem wmul_num (hu : Wh w u a K) (hv : Wh w v b L) (hK : K ≤ 1000000) (hL : L ≤ 1000000) : Calls Tryz.prog 45 #[u, v] w (WGives w (a * b)) := by
  obtain ⟨s, x, m, rfl, hx, rfl⟩ := hu
  obtain ⟨t, y, n, rfl, hy, rfl⟩ := hv
  rw [zOf_mul]
  obtain ⟨W, hW, hp, hq, hr, hb⟩ := enter2r w (.bool s) x (.bool t) y
  replace hx := (hx.below hb).drew
  replace hy := (hy.below hb).drew
  go_enter Tryz.func45, Tryz.ntmps45
  go_wp2_with fail
  rw [← hW]
  clear hW
  replace hp := hp.drew
  have hpd0 := hp.c0
  have hpd1 := hp.c1
  replace hq := hq.drew
  have hqd0 := hq.c0
  have hqd1 := hq.c1
  replace hr := hr.drew
  go_region_held3 (fun w' => w'.cell? ⟨w.heap.size, 0, none⟩ = some (.bool s) ∧ w'.cell? ⟨w.heap.size, 1, none⟩ = some (x) ∧ w'.cell? ⟨w.heap.size + 1, 0, none⟩ = some (.bool t) ∧ w'.cell? ⟨w.heap.size + 1, 1, none⟩ = some (y))
    (first | exact ⟨hp1.c0, hp1.c1, hq1.c0, hq1.c1⟩ | exact ⟨hp2.c0, hp2.c1, hq2.c0, hq2.c1⟩ | exact ⟨((hp2.far (by dsimp only; omega) _).far (by dsimp only; omega) _).c0, ((hp2.far (by dsimp only; omega) _).far (by dsimp only; omega) _).c1, ((hq2.far (by dsimp only; omega) _).far (by dsimp only; omega) _).c0, ((hq2.far (by dsimp only; omega) _).far (by dsimp only; omega) _).c1⟩ | go_keep)
    (first
    | (go_at_call 87; refine (mul_num' hx hy (by omega) (by omega)).mono ?_; rintro e w1 ⟨v, rfl, hv, hb1⟩; have hp1 := hp.next hb1; have hq1 := hq.next hb1; have hr1 := hr.next hb1)
    | (go_at_call 82; refine (signed_w _ hv).mono ?_; rintro e w2 ⟨b, xa, xn, xc, rfl, hnew, hb2⟩; have hp2 := hp1.next hb2; have hq2 := hq1.next hb2; have hr2 := hr1.next hb2; obtain ⟨q1, q2, q3, q4, q5, q6⟩ := hr2.room (.bool b)))
  go_wp2_with fail
  exact wret rfl rfl rfl hr2 hnew.out hb.drew.size (by omega) (bnext (bnext hb.drew hb1) hb2)
end

section
variable {w : World} {u v : Value} {a b : Int} {K L : Nat}
set_option maxHeartbeats 1600000 in
theorem wsub_num (hu : Wh w u a K) (hv : Wh w v b L) (hK : K ≤ 1000000) (hL : L ≤ 1000000) : Calls Tryz.prog 44 #[u, v] w (WGives w (a - b)) := by
  have lb := lt_negZ hv.lt
  rw [Int.sub_eq_add_neg]
  obtain ⟨s, xA, xN, xC, rfl, hx⟩ := hu.opened
  obtain ⟨t, yA, yN, yC, rfl, hy⟩ := hv.opened
  clear hu hv
  obtain ⟨W, hW, hp, hq, hr, hb⟩ := enter2r w (.bool s) (.slice xA xN xC) (.bool t) (.slice yA yN yC)
  have hx1 := Lib.hid (hx.out.below hb).drew
  have hy1 := Lib.hid (hy.out.below hb).drew
  go_enter Tryz.func44, Tryz.ntmps44
  go_wp2_with fail
  rw [← hW]
  clear hW
  replace hp := hp.drew
  have hp0 := hp.c0
  have hp1 := hp.c1
  replace hq := hq.drew
  have hq0 := hq.c0
  have hq1 := hq.c1
  replace hr := hr.drew
  go_region_held3 (fun w' => w'.cell? ⟨w.heap.size, 0, none⟩ = some (.bool s) ∧ w'.cell? ⟨w.heap.size, 1, none⟩ = some (.slice xA xN xC) ∧ w'.cell? ⟨w.heap.size + 1, 0, none⟩ = some (.bool t) ∧ w'.cell? ⟨w.heap.size + 1, 1, none⟩ = some (.slice yA yN yC))
    (first | exact ⟨hp1.c0, hp1.c1, hq1.c0, hq1.c1⟩ | exact ⟨hp2.c0, hp2.c1, hq2.c0, hq2.c1⟩ | exact ⟨((hp2.far (by dsimp only; omega) _).far (by dsimp only; omega) _).c0, ((hp2.far (by dsimp only; omega) _).far (by dsimp only; omega) _).c1, ((hq2.far (by dsimp only; omega) _).far (by dsimp only; omega) _).c0, ((hq2.far (by dsimp only; omega) _).far (by dsimp only; omega) _).c1⟩ | go_keep)
    (first
    | (go_at_call 86; refine (wneg_num hy1.out hL).mono ?_; rintro e w1 ⟨v, rfl, hv, hb1⟩; have hp1 := hp.next hb1; have hq1 := hq.next hb1; have hr1 := hr.next hb1)
    | (go_at_call 43; refine (wadd_num (hx1.out.below hb1) (hv.wh L lb) hK hL).mono ?_; rintro e w2 ⟨u, rfl, hu, hb2⟩; obtain ⟨b, xa, xn, xc, rfl, hnew⟩ := hu.opened; have hp2 := hp1.next hb2; have hq2 := hq1.next hb2; have hr2 := hr1.next hb2; obtain ⟨q1, q2, q3, q4, q5, q6⟩ := hr2.room (.bool b)))
  go_wp2_with fail
  exact wret rfl rfl rfl hr2 hnew.out (Nat.le_trans hb.drew.size hb1.size) (by omega) (bnext (bnext hb.drew hb1) hb2)

theorem cmpZ_nn (m n : Nat) : cmpZ (zOf true m) (zOf true n) = cmpN n m := by simp only [cmpZ, cmpN, zOf, if_true]; split <;> split <;> (try split) <;> omega
theorem cmpZ_pp {s t : Bool} {m n : Nat} (hs : ¬ zOf s m < 0) (ht : ¬ zOf t n < 0) : cmpZ (zOf s m) (zOf t n) = cmpN m n := by
  cases s <;> cases t <;> simp only [cmpZ, cmpN, zOf, if_true, if_false, Bool.false_eq_true] at * <;> split <;> split <;> (try split) <;> (try split) <;> omega
theorem cmpZ_np {a b : Int} (hs : a < 0) (ht : ¬ b < 0) : cmpZ a b = -1 := by unfold cmpZ; rw [if_pos (by omega)]
theorem cmpZ_pn {a b : Int} (hs : ¬ a < 0) (ht : b < 0) : cmpZ a b = 1 := by unfold cmpZ; rw [if_neg (by omega), if_pos (by omega)]
theorem neg_true {s : Bool} {m : Nat} (h : zOf s m < 0) : s = true := by cases s; simp [zOf] at h; omega; rfl
set_option maxRecDepth 20000 in
set_option maxHeartbeats 3200000 in
theorem wcmp_num (hu : Wh w u a K) (hv : Wh w v b L) (hK : K ≤ 35184372087808) (hL : L ≤ 35184372087808) : Calls Tryz.prog 93 #[u, v] w fun e w' => e = .returned (.int .i64 (cmpZ a b)) ∧ Below w.heap.size w w' := by
  obtain ⟨s, x, m, rfl, hx, rfl⟩ := hu
  obtain ⟨t, y, n, rfl, hy, rfl⟩ := hv
  obtain ⟨d1, hd1⟩ : ∃ d, d = decide (zOf s m < 0) := ⟨_, rfl⟩
  obtain ⟨d2, hd2⟩ : ∃ d, d = decide (zOf t n < 0) := ⟨_, rfl⟩
  have B1 : ∀ w', Num w' x m K → Calls Tryz.prog 100 #[.agg #[.bool s, x]] w' fun e w'' => e = .returned (.bool d1) ∧ Below w'.heap.size w' w'' := fun w' h => by rw [hd1]; exact below_any h (by omega)
  have B2 : ∀ w', Num w' y n L → Calls Tryz.prog 100 #[.agg #[.bool t, y]] w' fun e w'' => e = .returned (.bool d2) ∧ Below w'.heap.size w' w'' := fun w' h => by rw [hd2]; exact below_any h (by omega)
  have HB := Lib.hid (And.intro B1 B2)
  clear B1 B2
  obtain ⟨W, hW, hp, hq, hb⟩ := enter2 w (.bool s) x (.bool t) y
  replace hx := (hx.below hb).drew
  replace hy := (hy.below hb).drew
  replace hp := hp.drew
  replace hq := hq.drew
  cases d1 <;> cases d2
  · rw [cmpZ_pp (of_decide_eq_false hd1.symm) (of_decide_eq_false hd2.symm)]
    clear hd1 hd2
    go_enter Tryz.func93, Tryz.ntmps93
    go_wp2_with fail
    rw [← hW]
    clear hW
    have hp0 := hp.c0
    have hp1 := hp.c1
    have hq0 := hq.c0
    have hq1 := hq.c1
    go_region_held3 (fun w' => w'.cell? ⟨w.heap.size, 0, none⟩ = some (.bool s) ∧ w'.cell? ⟨w.heap.size, 1, none⟩ = some (x) ∧ w'.cell? ⟨w.heap.size + 1, 0, none⟩ = some (.bool t) ∧ w'.cell? ⟨w.heap.size + 1, 1, none⟩ = some (y))
      (first | exact ⟨hp1.c0, hp1.c1, hq1.c0, hq1.c1⟩ | exact ⟨hp2.c0, hp2.c1, hq2.c0, hq2.c1⟩ | go_keep)
      (first
      | (go_at_call 100; (fail_if_success (have hh := hy1)); refine (HB.out.1 _ hx).mono ?_; rintro e w1 ⟨rfl, hb1⟩; have hp1 := hp.next hb1; have hq1 := hq.next hb1; have hy1 := hy.below hb1)
      | (go_at_call 100; refine (HB.out.2 _ hy1).mono ?_; rintro e w2 ⟨rfl, hb2⟩; have hp2 := hp1.next hb2; have hq2 := hq1.next hb2; have hx2 := (hx.below hb1).below hb2; have hy2 := hy1.below hb2))
    have e1 := hp2.c1
    have e2 := hq2.c1
    clear HB hp0 hp1 hq0 hq1
    go_wp2_with fail
    refine (cmp_num hx2 hy2 (by omega) (by omega)).mono ?_
    rintro e w3 ⟨rfl, rfl⟩
    go_wp2_with fail
    go_ret
    exact ⟨rfl, bnext (bnext hb.drew hb1) hb2⟩
  · rw [cmpZ_pn (of_decide_eq_false hd1.symm) (of_decide_eq_true hd2.symm)]
    clear hd1 hd2
    go_enter Tryz.func93, Tryz.ntmps93
    go_wp2_with fail
    rw [← hW]
    clear hW
    have hp0 := hp.c0
    have hp1 := hp.c1
    have hq0 := hq.c0
    have hq1 := hq.c1
    go_region_held3 (fun w' => w'.cell? ⟨w.heap.size, 0, none⟩ = some (.bool s) ∧ w'.cell? ⟨w.heap.size, 1, none⟩ = some (x) ∧ w'.cell? ⟨w.heap.size + 1, 0, none⟩ = some (.bool t) ∧ w'.cell? ⟨w.heap.size + 1, 1, none⟩ = some (y))
      (first | exact ⟨hp1.c0, hp1.c1, hq1.c0, hq1.c1⟩ | exact ⟨hp2.c0, hp2.c1, hq2.c0, hq2.c1⟩ | go_keep)
      (first
      | (go_at_call 100; (fail_if_success (have hh := hy1)); refine (HB.out.1 _ hx).mono ?_; rintro e w1 ⟨rfl, hb1⟩; have hp1 := hp.next hb1; have hq1 := hq.next hb1; have hy1 := hy.below hb1)
      | (go_at_call 100; refine (HB.out.2 _ hy1).mono ?_; rintro e w2 ⟨rfl, hb2⟩; have hp2 := hp1.next hb2; have hq2 := hq1.next hb2; have hx2 := (hx.below hb1).below hb2; have hy2 := hy1.below hb2))
    have e1 := hp2.c1
    have e2 := hq2.c1
    clear HB hp0 hp1 hq0 hq1
    go_wp2_with fail
    go_ret
    exact ⟨rfl, bnext (bnext hb.drew hb1) hb2⟩
  · rw [cmpZ_np (of_decide_eq_true hd1.symm) (of_decide_eq_false hd2.symm)]
    clear hd1 hd2
    go_enter Tryz.func93, Tryz.ntmps93
    go_wp2_with fail
    rw [← hW]
    clear hW
    have hp0 := hp.c0
    have hp1 := hp.c1
    have hq0 := hq.c0
    have hq1 := hq.c1
    go_region_held3 (fun w' => w'.cell? ⟨w.heap.size, 0, none⟩ = some (.bool s) ∧ w'.cell? ⟨w.heap.size, 1, none⟩ = some (x) ∧ w'.cell? ⟨w.heap.size + 1, 0, none⟩ = some (.bool t) ∧ w'.cell? ⟨w.heap.size + 1, 1, none⟩ = some (y))
      (first | exact ⟨hp1.c0, hp1.c1, hq1.c0, hq1.c1⟩ | exact ⟨hp2.c0, hp2.c1, hq2.c0, hq2.c1⟩ | go_keep)
      (first
      | (go_at_call 100; (fail_if_success (have hh := hy1)); refine (HB.out.1 _ hx).mono ?_; rintro e w1 ⟨rfl, hb1⟩; have hp1 := hp.next hb1; have hq1 := hq.next hb1; have hy1 := hy.below hb1)
      | (go_at_call 100; refine (HB.out.2 _ hy1).mono ?_; rintro e w2 ⟨rfl, hb2⟩; have hp2 := hp1.next hb2; have hq2 := hq1.next hb2; have hx2 := (hx.below hb1).below hb2; have hy2 := hy1.below hb2))
    have e1 := hp2.c1
    have e2 := hq2.c1
    clear HB hp0 hp1 hq0 hq1
    go_wp2_with fail
    go_ret
    exact ⟨rfl, bnext (bnext hb.drew hb1) hb2⟩
  · obtain rfl := neg_true (of_decide_eq_true hd1.symm)
    obtain rfl := neg_true (of_decide_eq_true hd2.symm)
    rw [cmpZ_nn]
    clear hd1 hd2
    go_enter Tryz.func93, Tryz.ntmps93
    go_wp2_with fail
    rw [← hW]
    clear hW
    have hp0 := hp.c0
    have hp1 := hp.c1
    have hq0 := hq.c0
    have hq1 := hq.c1
    go_region_held3 (fun w' => w'.cell? ⟨w.heap.size, 0, none⟩ = some (.bool true) ∧ w'.cell? ⟨w.heap.size, 1, none⟩ = some (x) ∧ w'.cell? ⟨w.heap.size + 1, 0, none⟩ = some (.bool true) ∧ w'.cell? ⟨w.heap.size + 1, 1, none⟩ = some (y))
      (first | exact ⟨hp1.c0, hp1.c1, hq1.c0, hq1.c1⟩ | exact ⟨hp2.c0, hp2.c1, hq2.c0, hq2.c1⟩ | go_keep)
      (first
      | (go_at_call 100; (fail_if_success (have hh := hy1)); refine (HB.out.1 _ hx).mono ?_; rintro e w1 ⟨rfl, hb1⟩; have hp1 := hp.next hb1; have hq1 := hq.next hb1; have hy1 := hy.below hb1)
      | (go_at_call 100; refine (HB.out.2 _ hy1).mono ?_; rintro e w2 ⟨rfl, hb2⟩; have hp2 := hp1.next hb2; have hq2 := hq1.next hb2; have hx2 := (hx.below hb1).below hb2; have hy2 := hy1.below hb2))
    have e1 := hp2.c1
    have e2 := hq2.c1
    clear HB hp0 hp1 hq0 hq1
    go_wp2_with fail
    refine (cmp_num hy2 hx2 (by omega) (by omega)).mono ?_
    rintro e w3 ⟨rfl, rfl⟩
    go_wp2_with fail
    go_ret
    exact ⟨rfl, bnext (bnext hb.drew hb1) hb2⟩
end

set_option maxHeartbeats 400000 in
theorem one_any (w : World) : Calls Tryz.prog 117 #[] w (Gives w 1) := by
  have hB : Blk (w.alloc (.cells #[Value.int .u32 1] 78)) w.heap.size [1] := Blk.lit1 w 1
  have hn := hB.newAll (base := w.heap.size) (Ok.cons (by decide) Ok.nil) (by decide) (by unfold maxLen; simp) (Nat.le_refl _)
  rw [val_single] at hn
  go_enter Tryz.func117, Tryz.ntmps117
  go_wp2_with fail
  go_ret
  exact ⟨_, rfl, hn, bnew (Below.refl _ _) _⟩
theorem Blk.lit2 (w : World) (x y : Nat) : Blk (w.alloc (.cells #[Value.int .u32 (x : Int), Value.int .u32 (y : Int)] 78)) w.heap.size [x, y] := heap_alloc_new w _
set_option maxHeartbeats 400000 in
theorem limbsOf_any (lo hi : Nat) (w : World) (hlo : lo < 4294967296) (hhi : hi < 4294967296) : Calls Tryz.prog 118 #[.int .u64 ((lo + 4294967296 * hi : Nat) : Int)] w (Gives w (lo + 4294967296 * hi)) := by
  have hB := Blk.lit2 w lo hi
  have hs := hB.slAll (Ok.cons hlo (Ok.cons hhi Ok.nil)) (by unfold maxLen; simp)
  have hN : Num (w.alloc (.cells #[Value.int .u32 (lo : Int), Value.int .u32 (hi : Int)] 78)) (.slice (some ⟨w.heap.size, 0, none⟩) 2 2) (lo + 4294967296 * hi) 2 := ⟨_, _, _, _, rfl, hs, by simp [val], by simp⟩
  have HN := Lib.hid (norm_num hN (by omega))
  have e1 : ((lo + 4294967296 * hi : Nat) : Int) % 4294967296 = (lo : Int) := by omega
  have e2 : ((lo + 4294967296 * hi : Nat) : Int) / 4294967296 = (hi : Int) := by omega
  have e3 : ((hi : Nat) : Int) % 4294967296 = (hi : Int) := by omega
  have hbd : (lo + 4294967296 * hi) < 18446744073709551616 := by omega
  generalize hn : lo + 4294967296 * hi = n at *
  clear hN hs hB hn
  go_enter Tryz.func118, Tryz.ntmps118
  go_wp2_with fail
  refine HN.out.mono ?_
  rintro e w1 ⟨v, rfl, hnew, hb⟩
  go_wp2_with fail
  go_ret
  exact ⟨v, rfl, hnew.from_ (by simp), bnext (bnew (Below.refl _ _) _) hb⟩
theorem limbsOf_n (n : Nat) (w : World) (hn : n < 18446744073709551616) : Calls Tryz.prog 118 #[.int .u64 (n : Int)] w (Gives w n) := by
  have h := limbsOf_any (n % 4294967296) (n / 4294967296) w (by omega) (by omega)
  rw [show n % 4294967296 + 4294967296 * (n / 4294967296) = n by omega] at h
  exact h
set_option maxHeartbeats 800000 in
theorem wof_num (i : Int) (w : World) (h0 : -9223372036854775808 ≤ i) (h1 : i ≤ 9223372036854775807) : Calls Tryz.prog 98 #[.int .i64 i] w (WGives w i) := by
  obtain ⟨W, hW, hr, hb⟩ := enter0r w
  by_cases hi : i < 0
  · obtain ⟨k, rfl⟩ : ∃ k : Nat, i = -((k : Int) + 1) := ⟨(-i - 1).toNat, by omega⟩
    have hz : -((k : Int) + 1) = zOf true (k + 1) := by simp [zOf]
    have HL := limbsOf_n (k + 1) W (by omega)
    rw [show ((k + 1 : Nat) : Int) = (k : Int) + 1 from rfl] at HL
    replace HL := Lib.hid HL
    have hk : (k : Int) ≤ 9223372036854775807 := by omega
    have e1 : -((k : Int) + 1) + 1 = -(k : Int) := by omega
    have e2 : - -(k : Int) = (k : Int) := by omega
    have HZ := Lib.hid hz
    clear hz
    go_enter Tryz.func98, Tryz.ntmps98
    go_wp2_with fail
    rw [← hW]
    refine HL.out.mono ?_
    rintro e w1 ⟨v, rfl, hv, hb1⟩
    go_wp2_with fail
    refine (signed_w true hv).mono ?_
    rintro e w2 ⟨b, xa, xn, xc, rfl, hnew, hb2⟩
    have hr2 := (hr.next hb1).next hb2
    obtain ⟨q1, q2, q3, q4, q5, q6⟩ := hr2.room (.bool b)
    go_wp2_with fail
    rw [HZ.out]
    exact wret rfl rfl rfl hr2 hnew.out hb.size (Nat.le_refl _) (bnext (bnext hb hb1) hb2)
  · obtain ⟨k, rfl⟩ : ∃ k : Nat, i = (k : Int) := ⟨i.toNat, by omega⟩
    have HL := Lib.hid (limbsOf_n k W (by omega))
    clear hi
    go_enter Tryz.func98, Tryz.ntmps98
    go_wp2_with fail
    rw [← hW]
    refine HL.out.mono ?_
    rintro e w1 ⟨v, rfl, hv, hb1⟩
    go_wp2_with fail
    refine (signed_w false hv).mono ?_
    rintro e w2 ⟨b, xa, xn, xc, rfl, hnew, hb2⟩
    have hr2 := (hr.next hb1).next hb2
    obtain ⟨q1, q2, q3, q4, q5, q6⟩ := hr2.room (.bool b)
    go_wp2_with fail
    exact wret (z := zOf false k) rfl rfl rfl hr2 hnew.out hb.size (Nat.le_refl _) (bnext (bnext hb hb1) hb2)

theorem bl63 (m : Nat) : 63 < bl m ↔ 9223372036854775808 ≤ m := by
  constructor
  · intro h
    have h0 : m ≠ 0 := by rintro rfl; rw [bl_zero] at h; omega
    have h1 := bl_le m h0
    have h2 : 2 ^ 63 ≤ 2 ^ (bl m - 1) := Nat.pow_le_pow_right (by decide) (by omega)
    omega
  · intro h
    rcases Nat.lt_or_ge 63 (bl m) with h1 | h1
    · exact h1
    · have h2 := bl_lt m
      have h3 : 2 ^ bl m ≤ 2 ^ 63 := Nat.pow_le_pow_right (by decide) h1
      omega
/-- What Small tells. -/
def wsN (a : Int) : Int := if -9223372036854775808 ≤ a ∧ a ≤ 9223372036854775807 then a else 0
def wsB (a : Int) : Bool := decide (-9223372036854775808 ≤ a ∧ a ≤ 9223372036854775807)
theorem sm_of {m : Nat} (h : m ≤ 9223372036854775807) : smN m = (m : Int) ∧ smB m = true := by
  have : ¬ 63 < bl m := fun h1 => absurd ((bl63 m).1 h1) (by omega)
  unfold smN smB; rw [if_neg this, if_neg this]; exact ⟨rfl, rfl⟩
theorem sm_no {m : Nat} (h : 9223372036854775808 ≤ m) : smN m = 0 ∧ smB m = false := by
  have := (bl63 m).2 h
  unfold smN smB; rw [if_pos this, if_pos this]; exact ⟨rfl, rfl⟩
theorem ws_yes {a : Int} (h : -9223372036854775808 ≤ a ∧ a ≤ 9223372036854775807) : wsN a = a ∧ wsB a = true := by
  unfold wsN wsB; rw [if_pos h]; exact ⟨rfl, decide_eq_true h⟩
theorem ws_no {a : Int} (h : ¬ (-9223372036854775808 ≤ a ∧ a ≤ 9223372036854775807)) : wsN a = 0 ∧ wsB a = false := by
  unfold wsN wsB; rw [if_neg h]; exact ⟨rfl, decide_eq_false h⟩
section
variable {w : World} {u v : Value} {a b : Int} {K L : Nat}
set_option maxHeartbeats 400000 in
theorem refSame2_yes (hu : ∃ s A1 c1 A2 c2 n xs, u = .agg #[.bool s, .slice A1 n c1] ∧ v = .agg #[.bool s, .slice A2 n c2] ∧ Sl w A1 n c1 xs ∧ Sl w A2 n c2 xs ∧ n ≤ 35184372087808) :
    Calls Tryz.prog 32 #[u, v] w fun e w' => e = .returned (.bool true) ∧ Below w.heap.size w w' := by
  obtain ⟨s, A1, c1, A2, c2, n, xs, rfl, rfl, h1, h2, hn⟩ := hu
  obtain ⟨W, hW, hp, hq, hb⟩ := enter2 w (.bool s) (.slice A1 n c1) (.bool s) (.slice A2 n c2)
  have HS := Lib.hid (refSame_yes _ _ _ _ _ _ _ (h1.below hb) (h2.below hb) hn)
  have hp0 := hp.c0
  have hp1 := hp.c1
  have hq0 := hq.c0
  have hq1 := hq.c1
  have hss : (s == s) = true := by cases s <;> rfl
  go_enter Tryz.func32, Tryz.ntmps32
  go_wp2_with fail
  rw [← hW]
  refine HS.out.mono ?_
  rintro e w1 ⟨rfl, hb1⟩
  go_wp2_with fail
  go_ret
  exact ⟨rfl, bnext hb hb1⟩
theorem wsame_both {base base' : Nat} (hu : WNew w base u a) (hv : WNew w base' v a) (hn : (limbs a.natAbs).length ≤ 35184372087808) : ∃ s A1 c1 A2 c2 n xs, u = .agg #[.bool s, .slice A1 n c1] ∧ v = .agg #[.bool s, .slice A2 n c2] ∧ Sl w A1 n c1 xs ∧ Sl w A2 n c2 xs ∧ n ≤ 35184372087808 := by
  obtain ⟨x, rfl, A1, n1, c1, rfl, s1, _⟩ := hu
  obtain ⟨y, rfl, A2, n2, c2, rfl, s2, _⟩ := hv
  obtain rfl : n1 = n2 := s1.len.trans s2.len.symm
  exact ⟨_, A1, c1, A2, c2, n1, _, rfl, rfl, s1, s2, by have := s1.len; omega⟩
end

theorem first_diff (f g : Nat → Nat) (n : Nat) (h : ¬ ∀ i, i < n → f i = g i) : ∃ j, j < n ∧ f j ≠ g j ∧ ∀ i, i < j → f i = g i := by
  induction n with
  | zero => exact absurd (fun i hi => absurd hi (by omega)) h
  | succ n ih =>
    by_cases h1 : ∀ i, i < n → f i = g i
    · refine ⟨n, by omega, fun e => h (fun i hi => ?_), h1⟩
      rcases Nat.lt_or_ge i n with h2 | h2
      · exact h1 i h2
      · obtain rfl : i = n := by omega
        exact e
    · obtain ⟨j, hj, h2, h3⟩ := ih h1
      exact ⟨j, by omega, h2, h3⟩
theorem lim_ext {xs ys : List Nat} {n : Nat} (hx : n = xs.length) (hy : n = ys.length) (h : ∀ i, i < n → lim xs i = lim ys i) : xs = ys := by
  apply List.ext_getElem
  · omega
  · intro i h1 h2
    have := h i (by omega)
    rw [lim_eq, lim_eq, List.getElem?_eq_getElem h1, List.getElem?_eq_getElem h2] at this
    exact this
set_option maxHeartbeats 1600000 in
theorem refSame_no (A1 : Option Addr) (n1 c1 : Nat) (A2 : Option Addr) (n2 c2 : Nat) (xs ys : List Nat) (w : World) (h1 : Sl w A1 n1 c1 xs) (h2 : Sl w A2 n2 c2 ys) (hn1 : n1 ≤ 35184372087808) (hn2 : n2 ≤ 35184372087808) (hne : xs ≠ ys) :
    Calls Tryz.prog 75 #[.slice A1 n1 c1, .slice A2 n2 c2] w fun e w' => e = .returned (.bool false) ∧ Below w.heap.size w w' := by
  by_cases hlen : n1 = n2
  · subst hlen
    obtain ⟨j, hj, hd, hs⟩ := first_diff (lim xs) (lim ys) n1 (fun h => hne (lim_ext h1.len h2.len h))
    have HD := Lib.hid (And.intro hd hs)
    have hne1 : ((n1 : Int) != (n1 : Int)) = false := by simp
    clear hd hs hne
    go_enter Tryz.func75, Tryz.ntmps75
    go_wp2_with fail
    go_loopw [13] (fun i wr => ∃ k : Nat, k ≤ j ∧ i = .int .i64 k ∧ Below w.heap.size w wr) (fun i _ => n1 - (intOf i).toNat)
    case atStart => exact ⟨0, by omega, rfl, Below.refl _ _⟩
    case round =>
      obtain ⟨k, hk, rfl, hbel⟩ := hrel
      obtain ⟨b1, o1, rfl, _, hc1⟩ := (h1.below hbel).here (by omega)
      obtain ⟨b2, o2, rfl, _, hc2⟩ := (h2.below hbel).here (by omega)
      have g1 := hc1 k (by omega)
      have g2 := hc2 k (by omega)
      have i1 : (k : Int) < (n1 : Int) := by omega
      clear hc1 hc2
      by_cases hkj : k < j
      · rw [← HD.out.2 k hkj] at g2
        go_wp2_with fail
        go_region
        all_goals
          go_wp2_with fail
          go_roundw
          case rel => exact ⟨k + 1, by omega, by go_num, hbel.drew⟩
          case measure => simp [intOf]; omega
      · obtain rfl : k = j := by omega
        have hx : (((lim xs k : Nat) : Int) == ((lim ys k : Nat) : Int)) = false := beq_eq_false_iff_ne.2 (fun e => HD.out.1 (by omega))
        have hx2 : ¬ ((lim xs k : Nat) : Int) = ((lim ys k : Nat) : Int) := fun e => HD.out.1 (by omega)
        generalize ((lim xs k : Nat) : Int) = p at *
        generalize ((lim ys k : Nat) : Int) = q at *
        go_wp2_with fail
        go_region
        all_goals
          go_wp2_with fail
          go_ret
          exact ⟨rfl, hbel.drew⟩
  · have hne1 : ((n1 : Int) == (n2 : Int)) = false := beq_eq_false_iff_ne.2 (by omega)
    clear hlen hne
    go_enter Tryz.func75, Tryz.ntmps75
    go_wp2_with fail
    go_ret
    exact ⟨rfl, Below.refl _ _⟩
section
variable {w : World} {u v : Value} {a b : Int} {K L : Nat}
set_option maxHeartbeats 800000 in
theorem refSame2_no (hu : ∃ s t A1 n1 c1 A2 n2 c2 xs ys, u = .agg #[.bool s, .slice A1 n1 c1] ∧ v = .agg #[.bool t, .slice A2 n2 c2] ∧ Sl w A1 n1 c1 xs ∧ Sl w A2 n2 c2 ys ∧ n1 ≤ 35184372087808 ∧ n2 ≤ 35184372087808 ∧ (s = t → xs ≠ ys)) :
    Calls Tryz.prog 32 #[u, v] w fun e w' => e = .returned (.bool false) ∧ Below w.heap.size w w' := by
  obtain ⟨s, t, A1, n1, c1, A2, n2, c2, xs, ys, rfl, rfl, h1, h2, hn1, hn2, hne⟩ := hu
  obtain ⟨W, hW, hp, hq, hb⟩ := enter2 w (.bool s) (.slice A1 n1 c1) (.bool t) (.slice A2 n2 c2)
  have hp0 := hp.c0
  have hp1 := hp.c1
  have hq0 := hq.c0
  have hq1 := hq.c1
  rw [hW] at hp0 hp1 hq0 hq1
  by_cases hst : s = t
  · have HS := Lib.hid (refSame_no _ _ _ _ _ _ _ _ _ (h1.below hb) (h2.below hb) hn1 hn2 (hne hst))
    subst hst
    have hss : (s == s) = true := by cases s <;> rfl
    clear hne
    go_enter Tryz.func32, Tryz.ntmps32
    go_wp2_with fail
    rw [← hW]
    refine HS.out.mono ?_
    rintro e w1 ⟨rfl, hb1⟩
    go_wp2_with fail
    go_ret
    exact ⟨rfl, bnext hb hb1⟩
  · have hss : (s == t) = false := by cases s <;> cases t <;> simp at *
    clear hne hst
    go_enter Tryz.func32, Tryz.ntmps32
    go_wp2_with fail
    rw [← hW]
    go_ret
    exact ⟨rfl, hb⟩
theorem wdiff {base base' : Nat} (hu : WNew w base u a) (hv : WNew w base' v b) (ha : a.natAbs < 4294967296 ^ K) (hb : b.natAbs < 4294967296 ^ L) (hK : K ≤ 35184372087808) (hL : L ≤ 35184372087808) (hab : a ≠ b) :
    ∃ s t A1 n1 c1 A2 n2 c2 xs ys, u = .agg #[.bool s, .slice A1 n1 c1] ∧ v = .agg #[.bool t, .slice A2 n2 c2] ∧ Sl w A1 n1 c1 xs ∧ Sl w A2 n2 c2 ys ∧ n1 ≤ 35184372087808 ∧ n2 ≤ 35184372087808 ∧ (s = t → xs ≠ ys) := by
  obtain ⟨x, rfl, A1, n1, c1, rfl, s1, _⟩ := hu
  obtain ⟨y, rfl, A2, n2, c2, rfl, s2, _⟩ := hv
  have l1 := limbs_len_le ha
  have l2 := limbs_len_le hb
  refine ⟨_, _, A1, n1, c1, A2, n2, c2, _, _, rfl, rfl, s1, s2, by have := s1.len; omega, by have := s2.len; omega, fun hst e => hab ?_⟩
  have hm := limbs_inj e
  rw [zOf_self a, zOf_self b, hst, hm]
theorem refSame2_dec {base base' : Nat} (hu : WNew w base u a) (hv : WNew w base' v b) (ha : a.natAbs < 4294967296 ^ K) (hb : b.natAbs < 4294967296 ^ L) (hK : K ≤ 35184372087808) (hL : L ≤ 35184372087808) :
    Calls Tryz.prog 32 #[u, v] w fun e w' => e = .returned (.bool (decide (a = b))) ∧ Below w.heap.size w w' := by
  by_cases h : a = b
  · subst h
    rw [decide_eq_true rfl]
    exact refSame2_yes (wsame_both hu hv (Nat.le_trans (limbs_len_le ha) (by omega)))
  · rw [decide_eq_false h]
    exact refSame2_no (wdiff hu hv ha hb hK hL h)
end
end Go.Proofs.YtocnlapbkidinaaGreatDoor
