/-
  Whole numbers' variables in memory, and a call's end that hands one back.
-/
import Derived.Test.YtabdnlhehickoaaDoorWh
import Derived.Deep.RegionHeld3
namespace Go.Proofs.YtabdnlhehickoaaDoor
open Go.RowKit
/-- The block g is a variable that holds a whole number's sign and slice. -/
def Var (w : World) (g : Nat) (s x : Value) : Prop := w.heap[g]? = some (.cells #[s, x] 36 (0, 0))
section
variable {w w' : World} {g : Nat} {s x : Value}
theorem Var.lt (h : Var w g s x) : g < w.heap.size := by
  rcases Nat.lt_or_ge g w.heap.size with hg | hg
  · exact hg
  · unfold Var at h; rw [Array.getElem?_eq_none hg] at h; cases h
theorem Var.c0 (h : Var w g s x) : w.cell? ⟨g, 0, none⟩ = some s := by unfold Var at h; simp [World.cell?, h]
theorem Var.c1 (h : Var w g s x) : w.cell? ⟨g, 1, none⟩ = some x := by unfold Var at h; simp [World.cell?, h]
theorem Var.f0 (h : Var w g s x) : w.frozen? ⟨g, 0, none⟩ = false := by unfold Var at h; simp [World.frozen?, h]
theorem Var.f1 (h : Var w g s x) : w.frozen? ⟨g, 1, none⟩ = false := by unfold Var at h; simp [World.frozen?, h]
theorem Var.below {B : Nat} (h : Var w g s x) (hb : Below B w w') (hg : g < B) : Var w' g s x := (hb.block g hg).trans h
theorem Var.next (h : Var w g s x) (hb : Below w.heap.size w w') : Var w' g s x := h.below hb h.lt
theorem Var.alloc (h : Var w g s x) (o : Obj) : Var (w.alloc o) g s x := h.next ((Below.refl _ _).alloc (Nat.le_refl _) o)
theorem Var.drew (h : Var w g s x) : Var w.drew g s x := h
theorem Var.set0 (h : Var w g s x) (v : Value) : Var (w.setCell ⟨g, 0, none⟩ v) g v x := by
  unfold Var at *
  simp [World.setCell, Array.getElem?_modify, h]
theorem Var.set1 (h : Var w g s x) (v : Value) : Var (w.setCell ⟨g, 1, none⟩ v) g s v := by
  unfold Var at *
  simp [World.setCell, Array.getElem?_modify, h]
theorem Var.far (h : Var w g s x) {p : Addr} (hp : g ≠ p.block) (u : Value) : Var (w.setCell p u) g s x := (Below.heap_setCell w p u g hp).trans h
theorem Var.mk_ (w : World) (s x : Value) : Var (w.alloc (.cells #[s, x] 36)) w.heap.size s x := heap_alloc_new w _
/-- What a store into the variable asks. -/
theorem Var.room (h : Var w g s x) (b : Value) : w.frozen? ⟨g, 0, none⟩ = false ∧ w.frozen? ⟨g, 1, none⟩ = false ∧ w.cell? ⟨g, 0, none⟩ = some s ∧ w.cell? ⟨g, 1, none⟩ = some x ∧ (w.setCell ⟨g, 0, none⟩ b).frozen? ⟨g, 1, none⟩ = false ∧ (w.setCell ⟨g, 0, none⟩ b).cell? ⟨g, 1, none⟩ = some x :=
  ⟨h.f0, h.f1, h.c0, h.c1, (h.set0 b).f1, (h.set0 b).c1⟩
end
theorem Wh.drew {w : World} {v : Value} {z : Int} {K : Nat} (h : Wh w v z K) : Wh w.drew v z K := h.below ((Below.refl _ _).drew)
theorem Num.drew {w : World} {v : Value} {m K : Nat} (h : Num w v m K) : Num w.drew v m K := h.below ((Below.refl _ _).drew)
theorem enter1 (w : World) (s x : Value) : ∃ W, W = (w.alloc (.cells #[s, x] 36)) ∧ Var W w.heap.size s x ∧ Below w.heap.size w W :=
  ⟨_, rfl, Var.mk_ _ _ _, bnew (Below.refl _ _) _⟩
theorem enter1r (w : World) (s x : Value) : ∃ W, W = (w.alloc (.cells #[s, x] 36)).alloc (.cells #[.bool false, .slice none 0 0] 36) ∧ Var W w.heap.size s x ∧ Var W (w.heap.size + 1) (.bool false) (.slice none 0 0) ∧ Below w.heap.size w W := by
  refine ⟨_, rfl, (Var.mk_ _ _ _).alloc _, ?_, bnew (bnew (Below.refl _ _) _) _⟩
  have := Var.mk_ (w.alloc (.cells #[s, x] 36)) (.bool false) (.slice none 0 0)
  simpa using this
theorem enter2 (w : World) (s x t y : Value) : ∃ W, W = (w.alloc (.cells #[s, x] 36)).alloc (.cells #[t, y] 36) ∧ Var W w.heap.size s x ∧ Var W (w.heap.size + 1) t y ∧ Below w.heap.size w W := by
  refine ⟨_, rfl, (Var.mk_ _ _ _).alloc _, ?_, bnew (bnew (Below.refl _ _) _) _⟩
  have := Var.mk_ (w.alloc (.cells #[s, x] 36)) t y
  simpa using this
theorem enter2r (w : World) (s x t y : Value) : ∃ W, W = ((w.alloc (.cells #[s, x] 36)).alloc (.cells #[t, y] 36)).alloc (.cells #[.bool false, .slice none 0 0] 36) ∧ Var W w.heap.size s x ∧ Var W (w.heap.size + 1) t y ∧ Var W (w.heap.size + 2) (.bool false) (.slice none 0 0) ∧ Below w.heap.size w W := by
  obtain ⟨W, rfl, h1, h2, h3⟩ := enter2 w s x t y
  refine ⟨_, rfl, h1.alloc _, h2.alloc _, ?_, bnew h3 _⟩
  have := Var.mk_ ((w.alloc (.cells #[s, x] 36)).alloc (.cells #[t, y] 36)) (.bool false) (.slice none 0 0)
  simpa using this
theorem enter0r (w : World) : ∃ W, W = w.alloc (.cells #[.bool false, .slice none 0 0] 36) ∧ Var W w.heap.size (.bool false) (.slice none 0 0) ∧ Below w.heap.size w W :=
  ⟨_, rfl, Var.mk_ _ _ _, bnew (Below.refl _ _) _⟩
theorem WNew.opened {w : World} {base : Nat} {v : Value} {z : Int} (h : WNew w base v z) : ∃ b A n c, v = .agg #[.bool b, .slice A n c] ∧ Hid (WNew w base (.agg #[.bool b, .slice A n c]) z) := by
  obtain ⟨x, rfl, A, n, c, rfl, hs⟩ := h
  exact ⟨_, A, n, c, rfl, ⟨_, rfl, A, n, c, rfl, hs⟩⟩
theorem Wh.opened {w : World} {v : Value} {z : Int} {K : Nat} (h : Wh w v z K) : ∃ b A n c, v = .agg #[.bool b, .slice A n c] ∧ Hid (Wh w (.agg #[.bool b, .slice A n c]) z K) := by
  obtain ⟨s, x, m, rfl, ⟨A, n, c, xs, rfl, hs⟩, hz⟩ := h
  exact ⟨_, A, n, c, rfl, ⟨s, _, m, rfl, ⟨A, n, c, xs, rfl, hs⟩, hz⟩⟩
theorem New.farSet {w : World} {g base : Nat} {s x v : Value} {xs : List Nat} (hv : Var w g s x) (h : New w base v xs) (i : Nat) (u : Value) : New (w.setCell ⟨g, i, none⟩ u) base v xs := by
  obtain ⟨A, n, c, rfl, hs, hor⟩ := h
  have hbl : ∀ k, k ≠ g → (w.setCell ⟨g, i, none⟩ u).heap[k]? = w.heap[k]? := fun k hk => Below.heap_setCell w _ u k hk
  rcases hor with ⟨rfl, rfl⟩ | ⟨b, cur, rfl, hb, hc, hsz⟩
  · have h0 : n = 0 := Nat.le_zero.1 hs.le
    have hx0 := hs.len
    subst h0
    obtain rfl : xs = [] := List.length_eq_zero_iff.1 hx0.symm
    exact ⟨none, 0, 0, rfl, Sl.nil, .inl ⟨rfl, rfl⟩⟩
  · have hne : b ≠ g := by
      intro e
      subst e
      unfold Var at hv
      rw [hv] at hc
      simp at hc
    refine ⟨_, n, c, rfl, ⟨hs.len, hs.le, hs.max, hs.ok, fun hn => ?_, hs.nil_⟩, .inr ⟨b, cur, rfl, hb, (hbl b hne).trans hc, hsz⟩⟩
    obtain ⟨b', o', he, hlt, hcell⟩ := hs.here hn
    cases he
    exact ⟨b, 0, rfl, by rw [(Only.setCell g i w u).size]; exact hlt, fun j hj => by rw [World.cell?_of_block (w := w) (hbl b hne)]; exact hcell j hj⟩
/-- A call ends, its answer in the variable g. -/
theorem wret {fn : Func} {a : Act} {t : Tmp} {w w2 : World} {g base : Nat} {s0 x0 : Value} {b : Bool} {A : Option Addr} {n c : Nat} {z : Int} (h : fn.results = #[.cell t 36]) (ht : a.tmps.getD t undef = .pointer (some ⟨g, 0, none⟩)) (hd : a.defers = [])
    (hv : Var w2 g s0 x0) (hn : WNew w2 base (.agg #[.bool b, .slice A n c]) z) (hbase : w.heap.size ≤ base) (hg : w.heap.size ≤ g) (hb : Below w.heap.size w w2) :
    bodyPost Tryd.prog fn (WGives w z) .ret a ((w2.setCell ⟨g, 0, none⟩ (.bool b)).setCell ⟨g, 1, none⟩ (.slice A n c)) := by
  have h1 := (hv.set0 (.bool b)).set1 (.slice A n c)
  refine bodyPost_ret (results_w h ht h1.c0 h1.c1) hd ?_
  obtain ⟨x, e, hnew⟩ := hn
  have e' : Value.bool b = .bool (decide (z < 0)) ∧ Value.slice A n c = x := by simpa using e
  refine ⟨_, rfl, ⟨.slice A n c, by rw [e'.1], ?_⟩, ?_⟩
  · rw [← e'.2] at hnew
    exact (New.farSet (hv.set0 (.bool b)) (New.farSet hv hnew 0 (.bool b)) 1 (.slice A n c)).from_ hbase
  · exact (hb.setCell hg _).setCell hg _
theorem signed_w {w : World} {x : Value} {m base : Nat} (s : Bool) (h : New w base x (limbs m)) :
    Calls Tryd.prog 69 #[.bool s, x] w fun e w' => ∃ b A n c, e = .returned (.agg #[.bool b, .slice A n c]) ∧ Hid (WNew w' base (.agg #[.bool b, .slice A n c]) (zOf s m)) ∧ Below w.heap.size w w' := by
  refine (signed_new s h).mono ?_
  rintro e w' ⟨v, rfl, hv, hb⟩
  obtain ⟨b, A, n, c, rfl, H⟩ := hv.opened
  exact ⟨b, A, n, c, rfl, H, hb⟩
end Go.Proofs.YtabdnlhehickoaaDoor
