/-
  A region that draws its order, by one relation for all orders; 'x, y := f(a), f(b)' over whole numbers. 'x, y := f(a), f(b)' over whole numbers: the region, whatever its order.
-/
import Derived.Test.YtocnlapbkidinaaGreatDoorQMem
import Derived.Orders
import Derived.Test.YtocnlapbkidinaaGreatDoorQWc
set_option linter.unusedVariables false
set_option linter.unusedSimpArgs false
set_option linter.unusedSectionVars false
set_option linter.unnecessarySimpa false
namespace Go.Proofs.YtocnlapbkidinaaGreatDoor
section
open Go.RowKit
section inv
variable {P : Program} {ops : Array Oper} {Q : Exit → Act → World → Prop}

/-- Each operation waits for earlier ones alone. -/
def Rising (ops : Array Oper) : Bool := (List.range ops.size).all fun i => ((ops[i]?).map (fun o => o.after.all fun e => !Region.binds .any e || decide (e.on < i))).getD true

theorem Rising.lt {i : Nat} {o : Oper} {e : Edge} (h : Rising ops = true) (ho : ops[i]? = some o) (he : e ∈ o.after) (hb : Region.binds .any e = true) : e.on < i := by
  have hi : i < ops.size := by
    rcases Nat.lt_or_ge i ops.size with h1 | h1
    · exact h1
    · rw [Array.getElem?_eq_none h1] at ho; cases ho
  have h2 := List.all_eq_true.1 h i (List.mem_range.2 hi)
  rw [ho, Option.map_some, Option.getD_some, Array.all_eq_true'] at h2
  have h3 := h2 e he
  rw [hb] at h3
  simpa using h3

theorem ready_none {listed : Array Bool} (hr : Rising ops = true) (h : Region.ready .any ops listed = []) (hs : listed.size = ops.size) : ∀ i, i < ops.size → listed.getD i false = true := by
  intro i
  induction i using Nat.strongRecOn with
  | _ i ih =>
    intro hi
    apply Classical.byContradiction
    intro hn
    have ho : ops[i]? = some ops[i] := Array.getElem?_eq_getElem hi
    have hm : i ∈ Region.ready .any ops listed := mem_ready.2 ⟨by
      have h1 : i < listed.size := by omega
      rw [Array.getD_eq_getD_getElem?, Array.getElem?_eq_getElem h1, Option.getD_some] at hn ⊢
      simpa using hn, _, ho, fun e he hb => by
      have := Rising.lt hr ho he hb
      exact ih e.on this (by omega)⟩
    rw [h] at hm
    cases hm

theorem listed_set {listed : Array Bool} {i : Nat} (hi : i < listed.size) : (fun j => (listed.setIfInBounds i true).getD j false) = fun j => listed.getD j false || j == i := by
  funext j
  rw [Array.getD_eq_getD_getElem?, Array.getD_eq_getD_getElem?, Array.getElem?_setIfInBounds]
  by_cases h : i = j
  · subst h; simp [hi]
  · rw [if_neg h]
    have : (j == i) = false := by simpa using fun h1 : j = i => h h1.symm
    rw [this, Bool.or_false]

theorem count_set {listed : Array Bool} {i : Nat} (h : listed.getD i true = false) : (listed.setIfInBounds i true).toList.count false + 1 = listed.toList.count false := by
  have hi : i < listed.size := by
    rcases Nat.lt_or_ge i listed.size with h1 | h1
    · exact h1
    · rw [Array.getD_eq_getD_getElem?, Array.getElem?_eq_none h1] at h; cases h
  rw [Array.getD_eq_getD_getElem?, Array.getElem?_eq_getElem hi, Option.getD_some] at h
  rw [Array.toList_setIfInBounds, List.count_set (by simpa using hi)]
  have h2 : listed.toList[i] = false := by simpa using h
  have h3 : 0 < listed.toList.count false := List.count_pos_iff.2 (by rw [← h2]; exact List.getElem_mem _)
  rw [h2, if_pos (by rfl), if_neg (by decide)]
  omega

theorem wpAny_inv (hr : Rising ops = true) (I : (Nat → Bool) → Act → World → Prop)
    (step : ∀ l a w i oi, ops[i]? = some oi → l i = false → (∀ e ∈ oi.after, Region.binds .any e = true → l e.on = true) → I l a w → wpOp P ops Q i (I (fun j => l j || j == i)) a w)
    (done : ∀ l a w, (∀ i, i < ops.size → l i = true) → I l a w → Q .normal a w) :
    ∀ (fuel : Nat) (listed : Array Bool) (a : Act) (w : World), listed.size = ops.size → listed.toList.count false ≤ fuel → I (fun j => listed.getD j false) a w → wpAny P .any ops Q fuel listed a w := by
  intro fuel
  induction fuel with
  | zero =>
    intro listed a w hs hc hI
    have hz : ∀ i, i < ops.size → listed.getD i false = true := by
      intro i hi
      have h1 : i < listed.size := by omega
      rw [Array.getD_eq_getD_getElem?, Array.getElem?_eq_getElem h1, Option.getD_some]
      cases hb : listed[i] with
      | true => rfl
      | false =>
        have h2 : false ∈ listed.toList := by rw [← hb, ← Array.getElem_toList h1]; exact List.getElem_mem _
        have := List.count_pos_iff.2 h2
        omega
    refine ⟨?_, done _ _ _ hz hI⟩
    apply List.eq_nil_iff_forall_not_mem.2
    intro i hi
    obtain ⟨h1, o, ho, -⟩ := mem_ready.1 hi
    have hlt : i < ops.size := by
      rcases Nat.lt_or_ge i ops.size with h1 | h1
      · exact h1
      · rw [Array.getElem?_eq_none h1] at ho; cases ho
    have h2 := hz i hlt
    have h3 : i < listed.size := by omega
    rw [Array.getD_eq_getD_getElem?, Array.getElem?_eq_getElem h3, Option.getD_some] at h1 h2
    rw [h1] at h2; cases h2
  | succ fuel ih =>
    intro listed a w hs hc hI
    refine ⟨fun h0 => done _ _ _ (ready_none hr h0 hs) hI, fun i hi => ?_⟩
    obtain ⟨h1, o, ho, he⟩ := mem_ready.1 hi
    have hlt : i < listed.size := by
      rcases Nat.lt_or_ge i listed.size with h2 | h2
      · exact h2
      · rw [Array.getD_eq_getD_getElem?, Array.getElem?_eq_none h2] at h1; cases h1
    have h1' : listed.getD i false = false := by
      rw [Array.getD_eq_getD_getElem?, Array.getElem?_eq_getElem hlt, Option.getD_some] at h1 ⊢
      exact h1
    refine wpOp_mono (fun a' w' hI' => ?_) (step _ a w i o ho h1' he hI)
    refine ih _ a' w' (by simpa using hs) (by have := count_set h1; omega) ?_
    rw [listed_set hlt]
    exact hI'

theorem wp_region_inv {id : Nat} {a : Act} {w : World} (hm : P.follows .mixedOrders = true) (hr : Rising ops = true) (I : (Nat → Bool) → Act → World → Prop)
    (h0 : I (fun _ => false) a w.drew)
    (step : ∀ l a w i oi, ops[i]? = some oi → l i = false → (∀ e ∈ oi.after, Region.binds .any e = true → l e.on = true) → I l a w → wpOp P ops Q i (I (fun j => l j || j == i)) a w)
    (done : ∀ l a w, (∀ i, i < ops.size → l i = true) → I l a w → Q .normal a w) : (Code.region id ops true).wp P Q a w := by
  refine wp_region_any hm (wpAny_inv hr I step done ops.size _ a _ (by simp) ?_ ?_)
  · simp
  · have : (fun j => (Array.replicate ops.size false).getD j false) = fun _ => false := by
      funext j
      rw [Array.getD_eq_getD_getElem?, Array.getElem?_replicate]
      split <;> rfl
    rw [this]
    exact h0
theorem wpOp_plain {i : Nat} {o : Oper} {a : Act} {w : World} {K : Act → World → Prop} (ho : ops[i]? = some o) (hg : o.guard = none) (h : o.wp P a w K Q) : wpOp P ops Q i K a w := by
  unfold wpOp
  rw [ho]
  simp only [Region.wanted, hg, if_true]
  exact .inl h
end inv
end
end Go.Proofs.YtocnlapbkidinaaGreatDoor
namespace Go.Proofs.YtocnlapbkidinaaGreatDoor
section
open Go.RowKit

theorem exec_load {a : Act} {w : World} {o : Oper} {p g : Nat} {s x : Value} (ho : o.op = .load 27 (.tmp p)) (ht : a.tmps.getD p undef = .pointer (some ⟨g, 0, none⟩)) (hv : Var w g s x) :
    (execOp a.eval o).run Tryz.prog w = .ok (.value (.agg #[s, x])) w := by
  have c0 := hv.c0
  have c1 := hv.c1
  rw [Array.getD_eq_getD_getElem?] at ht
  simp [execOp, ho, Act.eval, ht, go_sem, c0, c1]
theorem exec_alloc {a : Act} {w : World} {o : Oper} (ho : o.op = .alloc 27) :
    (execOp a.eval o).run Tryz.prog w = .ok (.value (.pointer (some ⟨w.heap.size, 0, none⟩))) (w.alloc (.cells #[.bool false, .slice none 0 0] 27)) := by
  simp [execOp, ho, go_sem]
theorem exec_store {a : Act} {w : World} {o : Oper} {p q g n c : Nat} {s x : Value} {b : Bool} {A : Option Addr} (ho : o.op = .store 27 (.tmp p) (.tmp q)) (ht : a.tmps.getD p undef = .pointer (some ⟨g, 0, none⟩)) (hq : a.tmps.getD q undef = .agg #[.bool b, .slice A n c]) (hv : Var w g s x) :
    (execOp a.eval o).run Tryz.prog w = .ok .skip ((w.setCell ⟨g, 0, none⟩ (.bool b)).setCell ⟨g, 1, none⟩ (.slice A n c)) := by
  obtain ⟨q1, q2, q3, q4, q5, q6⟩ := hv.room (.bool b)
  rw [Array.getD_eq_getD_getElem?] at ht hq
  simp [execOp, ho, Act.eval, ht, hq, go_sem, q1, q3, q5, q6]
theorem exec_call {P : Program} {a : Act} {w : World} {o : Oper} {f p : Nat} {T : TypeId} (ho : o.op = .call { callee := .value (.func f), args := #[.tmp p], argTypes := #[T] }) :
    (execOp a.eval o).run P w = (callFunc f #[a.tmps.getD p undef]).run P w := by
  simp [execOp, ho, Act.eval, go_sem]

variable {ops : Array Oper} {Q : Exit → Act → World → Prop}
theorem put_get {a : Act} {d n : Nat} {v : Value} (hd : d < a.tmps.size) : (a.put (some d) v).tmps.getD n undef = if n = d then v else a.tmps.getD n undef := by
  unfold Act.put
  simp only [Array.getD_eq_getD_getElem?, Array.getElem?_setIfInBounds]
  by_cases h : d = n
  · subst h; simp [hd]
  · rw [if_neg h, if_neg (fun e => h e.symm)]

/-- The state of such a region: what has come up has its value. -/
structure TwoI (w0 : World) (a0 : Act) (d0 d1 d2 d3 d4 d5 : Nat) (va vb : Value) (za zb : Int) (l : Nat → Bool) (a : Act) (w : World) : Prop where
  defers : a.defers = a0.defers
  size : a.tmps.size = a0.tmps.size
  other : ∀ n, n ≠ d0 → n ≠ d1 → n ≠ d2 → n ≠ d3 → n ≠ d4 → n ≠ d5 → a.tmps.getD n undef = a0.tmps.getD n undef
  below : Below w0.heap.size w0 w
  l0 : l 0 = true → a.tmps.getD d0 undef = va
  l2 : l 2 = true → a.tmps.getD d2 undef = vb
  l1 : l 1 = true → WNew w w0.heap.size (a.tmps.getD d1 undef) za
  l3 : l 3 = true → WNew w w0.heap.size (a.tmps.getD d3 undef) zb
  l4 : l 4 = true → ∃ g s x, a.tmps.getD d4 undef = .pointer (some ⟨g, 0, none⟩) ∧ w0.heap.size ≤ g ∧ Var w g s x ∧ (l 6 = true → a.tmps.getD d1 undef = .agg #[s, x])
  l5 : l 5 = true → ∃ g s x, a.tmps.getD d5 undef = .pointer (some ⟨g, 0, none⟩) ∧ w0.heap.size ≤ g ∧ Var w g s x ∧ (l 7 = true → a.tmps.getD d3 undef = .agg #[s, x])
  l45 : l 4 = true → l 5 = true → a.tmps.getD d4 undef ≠ a.tmps.getD d5 undef
  l6 : l 6 = true → l 1 = true ∧ l 4 = true
  l7 : l 7 = true → l 3 = true ∧ l 5 = true

theorem edge_on {o : Oper} {k : Nat} {l : Nat → Bool} (h : (o.after.any fun e => Region.binds .any e && (e.on == k)) = true) (he : ∀ e ∈ o.after, Region.binds .any e = true → l e.on = true) : l k = true := by
  rw [Array.any_eq_true'] at h
  obtain ⟨e, hm, hk⟩ := h
  rw [Bool.and_eq_true] at hk
  have := he e hm hk.1
  rw [beq_iff_eq.1 hk.2] at this
  exact this

structure TwoOps (ops : Array Oper) (f p q d0 d1 d2 d3 d4 d5 : Nat) (o0 o1 o2 o3 o4 o5 o6 o7 : Oper) : Prop where
  ops : ops = #[o0, o1, o2, o3, o4, o5, o6, o7]
  e0 : o0.dst = some d0 ∧ o0.op = .load 27 (.tmp p) ∧ o0.guard = none
  e1 : o1.dst = some d1 ∧ o1.op = .call { callee := .value (.func f), args := #[.tmp d0], argTypes := #[27] } ∧ o1.guard = none
  e2 : o2.dst = some d2 ∧ o2.op = .load 27 (.tmp q) ∧ o2.guard = none
  e3 : o3.dst = some d3 ∧ o3.op = .call { callee := .value (.func f), args := #[.tmp d2], argTypes := #[27] } ∧ o3.guard = none
  e4 : o4.dst = some d4 ∧ o4.op = .alloc 27 ∧ o4.guard = none
  e5 : o5.dst = some d5 ∧ o5.op = .alloc 27 ∧ o5.guard = none
  e6 : o6.dst = none ∧ o6.op = .store 27 (.tmp d4) (.tmp d1) ∧ o6.guard = none
  e7 : o7.dst = none ∧ o7.op = .store 27 (.tmp d5) (.tmp d3) ∧ o7.guard = none
  a1 : (o1.after.any fun e => Region.binds .any e && (e.on == 0)) = true
  a3 : (o3.after.any fun e => Region.binds .any e && (e.on == 2)) = true
  a61 : (o6.after.any fun e => Region.binds .any e && (e.on == 1)) = true
  a64 : (o6.after.any fun e => Region.binds .any e && (e.on == 4)) = true
  a73 : (o7.after.any fun e => Region.binds .any e && (e.on == 3)) = true
  a75 : (o7.after.any fun e => Region.binds .any e && (e.on == 5)) = true

theorem region_two_step {f p q d0 d1 d2 d3 d4 d5 gp gq : Nat} {sa xa sb xb : Value} {a0 : Act} {w0 : World} {za zb : Int} {o0 o1 o2 o3 o4 o5 o6 o7 : Oper}
    (H : TwoOps ops f p q d0 d1 d2 d3 d4 d5 o0 o1 o2 o3 o4 o5 o6 o7)
    (hd : d0 ≠ d1 ∧ d0 ≠ d2 ∧ d0 ≠ d3 ∧ d0 ≠ d4 ∧ d0 ≠ d5 ∧ d1 ≠ d2 ∧ d1 ≠ d3 ∧ d1 ≠ d4 ∧ d1 ≠ d5 ∧ d2 ≠ d3 ∧ d2 ≠ d4 ∧ d2 ≠ d5 ∧ d3 ≠ d4 ∧ d3 ≠ d5 ∧ d4 ≠ d5 ∧ p ≠ d0 ∧ p ≠ d1 ∧ p ≠ d2 ∧ p ≠ d3 ∧ p ≠ d4 ∧ p ≠ d5 ∧ q ≠ d0 ∧ q ≠ d1 ∧ q ≠ d2 ∧ q ≠ d3 ∧ q ≠ d4 ∧ q ≠ d5) (hs : d0 < a0.tmps.size ∧ d1 < a0.tmps.size ∧ d2 < a0.tmps.size ∧ d3 < a0.tmps.size ∧ d4 < a0.tmps.size ∧ d5 < a0.tmps.size)
    (hp : a0.tmps.getD p undef = .pointer (some ⟨gp, 0, none⟩)) (hq : a0.tmps.getD q undef = .pointer (some ⟨gq, 0, none⟩)) (vp : Var w0 gp sa xa) (vq : Var w0 gq sb xb)
    (cf : ∀ v w, (callFunc f #[v]).run Tryz.prog w = .ok (.enter f #[v]) w)
    (ca : ∀ w, Below w0.heap.size w0 w → Calls Tryz.prog f #[.agg #[sa, xa]] w (WGives w za)) (cb : ∀ w, Below w0.heap.size w0 w → Calls Tryz.prog f #[.agg #[sb, xb]] w (WGives w zb))
    (l : Nat → Bool) (a : Act) (w : World) (i : Nat) (oi : Oper) (ho : ops[i]? = some oi) (hl : l i = false) (he : ∀ e ∈ oi.after, Region.binds .any e = true → l e.on = true)
    (I : TwoI w0 a0 d0 d1 d2 d3 d4 d5 (.agg #[sa, xa]) (.agg #[sb, xb]) za zb l a w) :
    wpOp Tryz.prog ops Q i (TwoI w0 a0 d0 d1 d2 d3 d4 d5 (.agg #[sa, xa]) (.agg #[sb, xb]) za zb (fun j => l j || j == i)) a w := by
  obtain ⟨h01, h02, h03, h04, h05, h12, h13, h14, h15, h23, h24, h25, h34, h35, h45, hp0, hp1, hp2, hp3, hp4, hp5, hq0, hq1, hq2, hq3, hq4, hq5⟩ := hd
  obtain ⟨s0, s1, s2, s3, s4, s5⟩ := hs
  rw [← I.size] at s0 s1 s2 s3 s4 s5
  have hi : i < 8 := by
    rcases Nat.lt_or_ge i 8 with h | h
    · exact h
    · rw [H.ops, Array.getElem?_eq_none (by simpa using h)] at ho; cases ho
  have hpp := (I.other p hp0 hp1 hp2 hp3 hp4 hp5).trans hp
  have hqq := (I.other q hq0 hq1 hq2 hq3 hq4 hq5).trans hq
  have hlt : ∀ k j, (l k || k == j) = true → k = j ∨ l k = true := by
    intro k j h
    rw [Bool.or_eq_true, beq_iff_eq] at h
    exact h.symm
  rcases (show i = 0 ∨ i = 1 ∨ i = 2 ∨ i = 3 ∨ i = 4 ∨ i = 5 ∨ i = 6 ∨ i = 7 by omega) with rfl | rfl | rfl | rfl | rfl | rfl | rfl | rfl
  · obtain rfl : o0 = oi := by rw [H.ops] at ho; simpa using ho
    refine wpOp_plain ho H.e0.2.2 ?_
    unfold Oper.wp
    rw [exec_load H.e0.2.1 hpp (vp.below I.below vp.lt), Oper.upon_value, H.e0.1]
    constructor
    · exact I.defers
    · simp [Act.put, I.size]
    · intro n n0 n1 n2 n3 n4 n5; rw [put_get s0, if_neg n0]; exact I.other n n0 n1 n2 n3 n4 n5
    · exact I.below
    · intro _; rw [put_get s0, if_pos rfl]
    · intro h; rw [put_get s0, if_neg h02.symm]; exact I.l2 (by simpa using h)
    · intro h; rw [put_get s0, if_neg h01.symm]; exact I.l1 (by simpa using h)
    · intro h; rw [put_get s0, if_neg h03.symm]; exact I.l3 (by simpa using h)
    · intro h; rw [put_get s0, if_neg h04.symm, put_get s0, if_neg h01.symm]; simpa using I.l4 (by simpa using h)
    · intro h; rw [put_get s0, if_neg h05.symm, put_get s0, if_neg h03.symm]; simpa using I.l5 (by simpa using h)
    · intro h h'; rw [put_get s0, if_neg h04.symm, put_get s0, if_neg h05.symm]; exact I.l45 (by simpa using h) (by simpa using h')
    · intro h; simpa using I.l6 (by simpa using h)
    · intro h; simpa using I.l7 (by simpa using h)
  · obtain rfl : o1 = oi := by rw [H.ops] at ho; simpa using ho
    have hv := I.l0 (edge_on H.a1 he)
    refine wpOp_plain ho H.e1.2.2 ?_
    unfold Oper.wp
    rw [exec_call H.e1.2.1, hv, cf, Oper.upon_enter]
    refine (ca w I.below).mono ?_
    rintro e w1 ⟨v, rfl, hn, hb⟩
    have hbz := I.below.size
    show TwoI _ _ _ _ _ _ _ _ _ _ _ _ _ (a.put o1.dst v) w1
    rw [H.e1.1]
    constructor
    · exact I.defers
    · simp [Act.put, I.size]
    · intro n n0 n1 n2 n3 n4 n5; rw [put_get s1, if_neg n1]; exact I.other n n0 n1 n2 n3 n4 n5
    · exact bnext I.below hb
    · intro h; rw [put_get s1, if_neg h01]; exact I.l0 (by simpa using h)
    · intro h; rw [put_get s1, if_neg h12.symm]; exact I.l2 (by simpa using h)
    · intro _; rw [put_get s1, if_pos rfl]; exact hn.from_ hbz
    · intro h; rw [put_get s1, if_neg h13.symm]; exact (I.l3 (by simpa using h)).next hb
    · intro h
      obtain ⟨g, s, x, ht, hg, hv1, hst⟩ := I.l4 (by simpa using h)
      refine ⟨g, s, x, ?_, hg, hv1.next hb, ?_⟩
      · rw [put_get s1, if_neg h14.symm]; exact ht
      · intro h6
        have h6 : l 6 = true := by simpa using h6
        have := (I.l6 h6).1
        rw [hl] at this; cases this
    · intro h
      obtain ⟨g, s, x, ht, hg, hv1, hst⟩ := I.l5 (by simpa using h)
      refine ⟨g, s, x, ?_, hg, hv1.next hb, ?_⟩
      · rw [put_get s1, if_neg h15.symm]; exact ht
      · intro h6; rw [put_get s1, if_neg h13.symm]; exact hst (by simpa using h6)
    · intro h h'; rw [put_get s1, if_neg h14.symm, put_get s1, if_neg h15.symm]; exact I.l45 (by simpa using h) (by simpa using h')
    · intro h; have := I.l6 (by simpa using h); simp [this]
    · intro h; have := I.l7 (by simpa using h); simp [this]
  · obtain rfl : o2 = oi := by rw [H.ops] at ho; simpa using ho
    refine wpOp_plain ho H.e2.2.2 ?_
    unfold Oper.wp
    rw [exec_load H.e2.2.1 hqq (vq.below I.below vq.lt), Oper.upon_value, H.e2.1]
    constructor
    · exact I.defers
    · simp [Act.put, I.size]
    · intro n n0 n1 n2 n3 n4 n5; rw [put_get s2, if_neg n2]; exact I.other n n0 n1 n2 n3 n4 n5
    · exact I.below
    · intro h; rw [put_get s2, if_neg h02]; exact I.l0 (by simpa using h)
    · intro _; rw [put_get s2, if_pos rfl]
    · intro h; rw [put_get s2, if_neg h12]; exact I.l1 (by simpa using h)
    · intro h; rw [put_get s2, if_neg h23.symm]; exact I.l3 (by simpa using h)
    · intro h; rw [put_get s2, if_neg h24.symm, put_get s2, if_neg h12]; simpa using I.l4 (by simpa using h)
    · intro h; rw [put_get s2, if_neg h25.symm, put_get s2, if_neg h23.symm]; simpa using I.l5 (by simpa using h)
    · intro h h'; rw [put_get s2, if_neg h24.symm, put_get s2, if_neg h25.symm]; exact I.l45 (by simpa using h) (by simpa using h')
    · intro h; simpa using I.l6 (by simpa using h)
    · intro h; simpa using I.l7 (by simpa using h)
  · obtain rfl : o3 = oi := by rw [H.ops] at ho; simpa using ho
    have hv := I.l2 (edge_on H.a3 he)
    refine wpOp_plain ho H.e3.2.2 ?_
    unfold Oper.wp
    rw [exec_call H.e3.2.1, hv, cf, Oper.upon_enter]
    refine (cb w I.below).mono ?_
    rintro e w1 ⟨v, rfl, hn, hb⟩
    have hbz := I.below.size
    show TwoI _ _ _ _ _ _ _ _ _ _ _ _ _ (a.put o3.dst v) w1
    rw [H.e3.1]
    constructor
    · exact I.defers
    · simp [Act.put, I.size]
    · intro n n0 n1 n2 n3 n4 n5; rw [put_get s3, if_neg n3]; exact I.other n n0 n1 n2 n3 n4 n5
    · exact bnext I.below hb
    · intro h; rw [put_get s3, if_neg h03]; exact I.l0 (by simpa using h)
    · intro h; rw [put_get s3, if_neg h23]; exact I.l2 (by simpa using h)
    · intro h; rw [put_get s3, if_neg h13]; exact (I.l1 (by simpa using h)).next hb
    · intro _; rw [put_get s3, if_pos rfl]; exact hn.from_ hbz
    · intro h
      obtain ⟨g, s, x, ht, hg, hv1, hst⟩ := I.l4 (by simpa using h)
      refine ⟨g, s, x, ?_, hg, hv1.next hb, ?_⟩
      · rw [put_get s3, if_neg h34.symm]; exact ht
      · intro h6; rw [put_get s3, if_neg h13]; exact hst (by simpa using h6)
    · intro h
      obtain ⟨g, s, x, ht, hg, hv1, hst⟩ := I.l5 (by simpa using h)
      refine ⟨g, s, x, ?_, hg, hv1.next hb, ?_⟩
      · rw [put_get s3, if_neg h35.symm]; exact ht
      · intro h6
        have h6 : l 7 = true := by simpa using h6
        have := (I.l7 h6).1
        rw [hl] at this; cases this
    · intro h h'; rw [put_get s3, if_neg h34.symm, put_get s3, if_neg h35.symm]; exact I.l45 (by simpa using h) (by simpa using h')
    · intro h; have := I.l6 (by simpa using h); simp [this]
    · intro h; have := I.l7 (by simpa using h); simp [this]
  · obtain rfl : o4 = oi := by rw [H.ops] at ho; simpa using ho
    refine wpOp_plain ho H.e4.2.2 ?_
    unfold Oper.wp
    rw [exec_alloc H.e4.2.1, Oper.upon_value, H.e4.1]
    have hb : Below w.heap.size w (w.alloc (.cells #[.bool false, .slice none 0 0] 27)) := bnew (Below.refl _ _) _
    have hbz := I.below.size
    constructor
    · exact I.defers
    · simp [Act.put, I.size]
    · intro n n0 n1 n2 n3 n4 n5; rw [put_get s4, if_neg n4]; exact I.other n n0 n1 n2 n3 n4 n5
    · exact bnext I.below hb
    · intro h; rw [put_get s4, if_neg h04]; exact I.l0 (by simpa using h)
    · intro h; rw [put_get s4, if_neg h24]; exact I.l2 (by simpa using h)
    · intro h; rw [put_get s4, if_neg h14]; exact (I.l1 (by simpa using h)).next hb
    · intro h; rw [put_get s4, if_neg h34]; exact (I.l3 (by simpa using h)).next hb
    · intro _
      refine ⟨w.heap.size, _, _, ?_, hbz, Var.mk_ w _ _, ?_⟩
      · rw [put_get s4, if_pos rfl]
      · intro h6
        have h6 : l 6 = true := by simpa using h6
        have := (I.l6 h6).2
        rw [hl] at this; cases this
    · intro h
      obtain ⟨g, s, x, ht, hg, hv1, hst⟩ := I.l5 (by simpa using h)
      refine ⟨g, s, x, ?_, hg, hv1.next hb, ?_⟩
      · rw [put_get s4, if_neg h45.symm]; exact ht
      · intro h6; rw [put_get s4, if_neg h34]; exact hst (by simpa using h6)
    · intro h h'
      obtain ⟨g, s, x, ht, hg, hv1, hst⟩ := I.l5 (by simpa using h')
      rw [put_get s4, if_pos rfl, put_get s4, if_neg h45.symm, ht]
      intro heq
      injection heq with heq; injection heq with heq; injection heq with heq
      have := hv1.lt
      omega
    · intro h; have := I.l6 (by simpa using h); simp [this]
    · intro h; have := I.l7 (by simpa using h); simp [this]
  · obtain rfl : o5 = oi := by rw [H.ops] at ho; simpa using ho
    refine wpOp_plain ho H.e5.2.2 ?_
    unfold Oper.wp
    rw [exec_alloc H.e5.2.1, Oper.upon_value, H.e5.1]
    have hb : Below w.heap.size w (w.alloc (.cells #[.bool false, .slice none 0 0] 27)) := bnew (Below.refl _ _) _
    have hbz := I.below.size
    constructor
    · exact I.defers
    · simp [Act.put, I.size]
    · intro n n0 n1 n2 n3 n4 n5; rw [put_get s5, if_neg n5]; exact I.other n n0 n1 n2 n3 n4 n5
    · exact bnext I.below hb
    · intro h; rw [put_get s5, if_neg h05]; exact I.l0 (by simpa using h)
    · intro h; rw [put_get s5, if_neg h25]; exact I.l2 (by simpa using h)
    · intro h; rw [put_get s5, if_neg h15]; exact (I.l1 (by simpa using h)).next hb
    · intro h; rw [put_get s5, if_neg h35]; exact (I.l3 (by simpa using h)).next hb
    · intro h
      obtain ⟨g, s, x, ht, hg, hv1, hst⟩ := I.l4 (by simpa using h)
      refine ⟨g, s, x, ?_, hg, hv1.next hb, ?_⟩
      · rw [put_get s5, if_neg h45]; exact ht
      · intro h6; rw [put_get s5, if_neg h15]; exact hst (by simpa using h6)
    · intro _
      refine ⟨w.heap.size, _, _, ?_, hbz, Var.mk_ w _ _, ?_⟩
      · rw [put_get s5, if_pos rfl]
      · intro h6
        have h6 : l 7 = true := by simpa using h6
        have := (I.l7 h6).2
        rw [hl] at this; cases this
    · intro h h'
      obtain ⟨g, s, x, ht, hg, hv1, hst⟩ := I.l4 (by simpa using h)
      rw [put_get s5, if_neg h45, put_get s5, if_pos rfl, ht]
      intro heq
      injection heq with heq; injection heq with heq; injection heq with heq
      have := hv1.lt
      omega
    · intro h; have := I.l6 (by simpa using h); simp [this]
    · intro h; have := I.l7 (by simpa using h); simp [this]
  · obtain rfl : o6 = oi := by rw [H.ops] at ho; simpa using ho
    have k1 := edge_on H.a61 he
    have k4 := edge_on H.a64 he
    have hn := I.l1 k1
    obtain ⟨g, s, x, ht, hg, hv, -⟩ := I.l4 k4
    obtain ⟨b, A, n, c, hval, hnew⟩ := hn.opened
    refine wpOp_plain ho H.e6.2.2 ?_
    unfold Oper.wp
    rw [exec_store H.e6.2.1 ht hval hv, Oper.upon_skip, H.e6.1]
    have hv' := (hv.set0 (.bool b)).set1 (.slice A n c)
    have far : ∀ v z, WNew w w0.heap.size v z → WNew ((w.setCell ⟨g, 0, none⟩ (.bool b)).setCell ⟨g, 1, none⟩ (.slice A n c)) w0.heap.size v z := fun v z h => WNew.farSet (hv.set0 (.bool b)) (WNew.farSet hv h 0 (.bool b)) 1 (.slice A n c)
    constructor
    · exact I.defers
    · exact I.size
    · exact I.other
    · exact (I.below.setCell (p := ⟨g, 0, none⟩) hg (.bool b)).setCell (p := ⟨g, 1, none⟩) hg (.slice A n c)
    · intro h; exact I.l0 (by simpa using h)
    · intro h; exact I.l2 (by simpa using h)
    · intro h; exact far _ _ (I.l1 (by simpa using h))
    · intro h; exact far _ _ (I.l3 (by simpa using h))
    · intro _; exact ⟨g, _, _, ht, hg, hv', fun _ => hval⟩
    · intro h
      have h5 : l 5 = true := by simpa using h
      obtain ⟨g2, s2, x2, ht2, hg2, hv2, hst2⟩ := I.l5 h5
      have hne : g2 ≠ g := by
        intro e
        subst e
        exact I.l45 k4 h5 (ht.trans ht2.symm)
      exact ⟨g2, s2, x2, ht2, hg2, (hv2.far (p := ⟨g, 0, none⟩) hne _).far (p := ⟨g, 1, none⟩) hne _, fun h6 => hst2 (by simpa using h6)⟩
    · intro h h'; exact I.l45 (by simpa using h) (by simpa using h')
    · intro _; simp [k1, k4]
    · intro h; have := I.l7 (by simpa using h); simp [this]
  · obtain rfl : o7 = oi := by rw [H.ops] at ho; simpa using ho
    have k1 := edge_on H.a73 he
    have k4 := edge_on H.a75 he
    have hn := I.l3 k1
    obtain ⟨g, s, x, ht, hg, hv, -⟩ := I.l5 k4
    obtain ⟨b, A, n, c, hval, hnew⟩ := hn.opened
    refine wpOp_plain ho H.e7.2.2 ?_
    unfold Oper.wp
    rw [exec_store H.e7.2.1 ht hval hv, Oper.upon_skip, H.e7.1]
    have hv' := (hv.set0 (.bool b)).set1 (.slice A n c)
    have far : ∀ v z, WNew w w0.heap.size v z → WNew ((w.setCell ⟨g, 0, none⟩ (.bool b)).setCell ⟨g, 1, none⟩ (.slice A n c)) w0.heap.size v z := fun v z h => WNew.farSet (hv.set0 (.bool b)) (WNew.farSet hv h 0 (.bool b)) 1 (.slice A n c)
    constructor
    · exact I.defers
    · exact I.size
    · exact I.other
    · exact (I.below.setCell (p := ⟨g, 0, none⟩) hg (.bool b)).setCell (p := ⟨g, 1, none⟩) hg (.slice A n c)
    · intro h; exact I.l0 (by simpa using h)
    · intro h; exact I.l2 (by simpa using h)
    · intro h; exact far _ _ (I.l1 (by simpa using h))
    · intro h; exact far _ _ (I.l3 (by simpa using h))
    · intro h
      have h5 : l 4 = true := by simpa using h
      obtain ⟨g2, s2, x2, ht2, hg2, hv2, hst2⟩ := I.l4 h5
      have hne : g2 ≠ g := by
        intro e
        subst e
        exact I.l45 h5 k4 (ht2.trans ht.symm)
      exact ⟨g2, s2, x2, ht2, hg2, (hv2.far (p := ⟨g, 0, none⟩) hne _).far (p := ⟨g, 1, none⟩) hne _, fun h6 => hst2 (by simpa using h6)⟩
    · intro _; exact ⟨g, _, _, ht, hg, hv', fun _ => hval⟩
    · intro h h'; exact I.l45 (by simpa using h) (by simpa using h')
    · intro h; have := I.l6 (by simpa using h); simp [this]
    · intro _; simp [k1, k4]

theorem tower_eq {d0 d1 d2 d3 d4 d5 : Nat} {a a0 : Act} {v0 v1 v2 v3 v4 v5 : Value} (hs : d0 < a0.tmps.size ∧ d1 < a0.tmps.size ∧ d2 < a0.tmps.size ∧ d3 < a0.tmps.size ∧ d4 < a0.tmps.size ∧ d5 < a0.tmps.size)
    (hdf : a.defers = a0.defers) (hsize : a.tmps.size = a0.tmps.size) (hoth : ∀ n, n ≠ d0 → n ≠ d1 → n ≠ d2 → n ≠ d3 → n ≠ d4 → n ≠ d5 → a.tmps.getD n undef = a0.tmps.getD n undef)
    (w0 : a.tmps.getD d0 undef = v0) (w1 : a.tmps.getD d1 undef = v1) (w2 : a.tmps.getD d2 undef = v2) (w3 : a.tmps.getD d3 undef = v3) (w4 : a.tmps.getD d4 undef = v4) (w5 : a.tmps.getD d5 undef = v5) :
    a = ((((((a0.put (some d0) v0).put (some d1) v1).put (some d2) v2).put (some d3) v3).put (some d4) v4).put (some d5) v5) := by
  obtain ⟨at_, ad⟩ := a
  dsimp only at hdf hsize hoth w0 w1 w2 w3 w4 w5
  subst hdf
  simp only [Act.put]
  rw [Act.mk.injEq]
  refine ⟨?_, rfl⟩
  apply Array.ext
  · simpa using hsize
  · intro i h1 h2
    obtain ⟨k0, k1, k2, k3, k4, k5⟩ := hs
    rw [← Option.some_inj, ← Array.getElem?_eq_getElem h1, ← Array.getElem?_eq_getElem h2]
    have hi0 : i < a0.tmps.size := by omega
    have get : ∀ k v, k < a0.tmps.size → at_.getD k undef = v → at_[k]? = some v := by
      intro k v hk hv
      have hk' : k < at_.size := by omega
      rw [Array.getD_eq_getD_getElem?, Array.getElem?_eq_getElem hk', Option.getD_some] at hv
      rw [Array.getElem?_eq_getElem hk', hv]
    simp only [Array.getElem?_setIfInBounds, Array.size_setIfInBounds]
    by_cases c5 : d5 = i
    · subst c5; rw [if_pos rfl, if_pos k5]; exact get _ _ k5 w5
    rw [if_neg c5]
    by_cases c4 : d4 = i
    · subst c4; rw [if_pos rfl, if_pos k4]; exact get _ _ k4 w4
    rw [if_neg c4]
    by_cases c3 : d3 = i
    · subst c3; rw [if_pos rfl, if_pos k3]; exact get _ _ k3 w3
    rw [if_neg c3]
    by_cases c2 : d2 = i
    · subst c2; rw [if_pos rfl, if_pos k2]; exact get _ _ k2 w2
    rw [if_neg c2]
    by_cases c1 : d1 = i
    · subst c1; rw [if_pos rfl, if_pos k1]; exact get _ _ k1 w1
    rw [if_neg c1]
    by_cases c0 : d0 = i
    · subst c0; rw [if_pos rfl, if_pos k0]; exact get _ _ k0 w0
    rw [if_neg c0]
    have := hoth i (Ne.symm c0) (Ne.symm c1) (Ne.symm c2) (Ne.symm c3) (Ne.symm c4) (Ne.symm c5)
    rw [get _ _ hi0 this, Array.getD_eq_getD_getElem?, Array.getElem?_eq_getElem hi0, Option.getD_some]

theorem region_two {id f p q d0 d1 d2 d3 d4 d5 gp gq : Nat} {sa xa sb xb : Value} {a0 : Act} {w0 : World} {za zb : Int} {o0 o1 o2 o3 o4 o5 o6 o7 : Oper}
    (H : TwoOps ops f p q d0 d1 d2 d3 d4 d5 o0 o1 o2 o3 o4 o5 o6 o7) (hr : Rising ops = true) (hm : Tryz.prog.follows .mixedOrders = true)
    (hd : d0 ≠ d1 ∧ d0 ≠ d2 ∧ d0 ≠ d3 ∧ d0 ≠ d4 ∧ d0 ≠ d5 ∧ d1 ≠ d2 ∧ d1 ≠ d3 ∧ d1 ≠ d4 ∧ d1 ≠ d5 ∧ d2 ≠ d3 ∧ d2 ≠ d4 ∧ d2 ≠ d5 ∧ d3 ≠ d4 ∧ d3 ≠ d5 ∧ d4 ≠ d5 ∧ p ≠ d0 ∧ p ≠ d1 ∧ p ≠ d2 ∧ p ≠ d3 ∧ p ≠ d4 ∧ p ≠ d5 ∧ q ≠ d0 ∧ q ≠ d1 ∧ q ≠ d2 ∧ q ≠ d3 ∧ q ≠ d4 ∧ q ≠ d5) (hs : d0 < a0.tmps.size ∧ d1 < a0.tmps.size ∧ d2 < a0.tmps.size ∧ d3 < a0.tmps.size ∧ d4 < a0.tmps.size ∧ d5 < a0.tmps.size)
    (hp : a0.tmps.getD p undef = .pointer (some ⟨gp, 0, none⟩)) (hq : a0.tmps.getD q undef = .pointer (some ⟨gq, 0, none⟩)) (vp : Var w0 gp sa xa) (vq : Var w0 gq sb xb)
    (cf : ∀ v w, (callFunc f #[v]).run Tryz.prog w = .ok (.enter f #[v]) w)
    (ca : ∀ w, Below w0.heap.size w0 w → Calls Tryz.prog f #[.agg #[sa, xa]] w (WGives w za)) (cb : ∀ w, Below w0.heap.size w0 w → Calls Tryz.prog f #[.agg #[sb, xb]] w (WGives w zb))
    (done : ∀ g h b A n c b' A' n' c' w, Var w g (.bool b) (.slice A n c) → Var w h (.bool b') (.slice A' n' c') → g ≠ h → w0.heap.size ≤ g → w0.heap.size ≤ h → Hid (WNew w w0.heap.size (.agg #[.bool b, .slice A n c]) za) → Hid (WNew w w0.heap.size (.agg #[.bool b', .slice A' n' c']) zb) → Below w0.heap.size w0 w →
      Q .normal ((((((a0.put (some d0) (.agg #[sa, xa])).put (some d1) (.agg #[.bool b, .slice A n c])).put (some d2) (.agg #[sb, xb])).put (some d3) (.agg #[.bool b', .slice A' n' c'])).put (some d4) (.pointer (some ⟨g, 0, none⟩))).put (some d5) (.pointer (some ⟨h, 0, none⟩))) w) :
    (Code.region id ops true).wp Tryz.prog Q a0 w0 := by
  refine wp_region_inv hm hr (TwoI w0 a0 d0 d1 d2 d3 d4 d5 (.agg #[sa, xa]) (.agg #[sb, xb]) za zb) ?_ (fun l a w i oi ho hl he I => region_two_step H hd hs hp hq vp vq cf ca cb l a w i oi ho hl he I) ?_
  · constructor <;> first | rfl | exact (Below.refl _ _).drew | (intros; rfl) | (intro h; cases h)
  · clear hd
    intro l a w hl I
    have hsz : ops.size = 8 := by rw [H.ops]; rfl
    obtain ⟨g, s, x, ht, hg, hv, hst⟩ := I.l4 (hl 4 (by omega))
    obtain ⟨h, t, y, ht', hh, hv', hst'⟩ := I.l5 (hl 5 (by omega))
    have e1 := hst (hl 6 (by omega))
    have e3 := hst' (hl 7 (by omega))
    have n1 := I.l1 (hl 1 (by omega))
    have n3 := I.l3 (hl 3 (by omega))
    have hgh : g ≠ h := by
      intro e
      subst e
      exact I.l45 (hl 4 (by omega)) (hl 5 (by omega)) (ht.trans ht'.symm)
    obtain ⟨b, A, n, c, hval, hnew⟩ := n1.opened
    obtain ⟨b', A', n', c', hval', hnew'⟩ := n3.opened
    have e1' := e1.symm.trans hval
    have e3' := e3.symm.trans hval'
    injection e1' with e1'
    injection e3' with e3'
    simp only [Array.mk.injEq, List.cons.injEq, and_true] at e1' e3'
    obtain ⟨rfl, rfl⟩ := e1'
    obtain ⟨rfl, rfl⟩ := e3'
    have := done g h b A n c b' A' n' c' w hv hv' hgh hg hh hnew hnew' I.below
    have ha := tower_eq hs I.defers I.size I.other (I.l0 (hl 0 (by omega))) hval (I.l2 (hl 2 (by omega))) hval' ht ht'
    rw [ha]
    exact this
end
end Go.Proofs.YtocnlapbkidinaaGreatDoor
