/-
  Paths in expressions: what is put somewhere is there; put back, all is as it was. The document's count of expressions that are few; its ints of the very same numbers; the zero expression; paths with an answer of whatever they lead to. Regions in two parts (of Inv, Two, Ph, Pt). Regions in two parts, with a relation between two of the first part's values. datum.Split of any tree. Regions in two parts, where what is known of a value may speak of the others. Operations of a region, one by one. pavaneref01.Norm, pavaneref02.Norm. pavaneref02.Same of the same.
-/
import Derived.Test.YthdhdmmlmbkalaaGreatDoorJp11
import Derived.Test.YthdhdmmlmbkalaaGreatDoorJp8
import Derived.Test.YthdhdmmlmbkalaaGreatDoorJp0
import Derived.Orders
import Derived.Test.YthdhdmmlmbkalaaGreatDoorJp7
import Derived.Test.YthdhdmmlmbkalaaGreatDoorPNw
import Derived.Test.YthdhdmmlmbkalaaGreatDoorChecked
import Derived.Outline
import Derived.Laws.BitsAllLaws
import Derived.Deep.LoopGhost
import Derived.BigRegion
import Derived.Laws.IdiomStrings
import Derived.Lib.BufferRead
import Derived.Deep.QuietTactic
import Derived.BigQuiet
import Derived.Shelf.Small.Bits
import Derived.WalkMore
import Derived.Deep.RegionHeld3
import Derived.WideShapes
set_option linter.unusedVariables false
set_option linter.unusedSimpArgs false
set_option linter.unusedSectionVars false
set_option linter.unnecessarySimpa false
namespace Go.Proofs.YthdhdmmlmbkalaaGreatDoor
section
open Go.RowKit

def atES : ES → List Int → Option ES
  | s, [] => some s
  | s, i :: p => if h : 0 ≤ i ∧ i.toNat < s.kids.length then atES (s.kids[i.toNat]'h.2) p else none
theorem kids_shape (t : ET) : (shapeE t).kids = shapesE t.kids := by rw [shapeE_eq]; rfl
theorem atES_shape : ∀ (p : List Int) (t : ET), atES (shapeE t) p = (atE t p).map shapeE
  | [], t => rfl
  | i :: p, t => by
    have hk := kids_shape t
    have hl : (shapeE t).kids.length = t.kids.length := by rw [hk, shapesE_length]
    rw [atES, atE]
    by_cases h : 0 ≤ i ∧ i.toNat < t.kids.length
    · have h' : 0 ≤ i ∧ i.toNat < (shapeE t).kids.length := by rw [hl]; exact h
      rw [dif_pos h, dif_pos h', ← atES_shape p]
      congr 1
      have e1 := shapesE_at t.kids i.toNat h.2
      rw [← hk, List.getElem?_eq_getElem h'.2] at e1
      exact Option.some.inj e1
    · have h' : ¬ (0 ≤ i ∧ i.toNat < (shapeE t).kids.length) := by rw [hl]; exact h
      rw [dif_neg h, dif_neg h']
      rfl
theorem sizesES_set {l : List ES} {q : Nat} (h : q < l.length) (y : ES) : sizesES (l.set q y) ≤ sizesES l + sizeES y ∧ sizeES l[q] ≤ sizesES l ∧ sizesES (l.set q y) + sizeES l[q] = sizesES l + sizeES y := by
  induction l generalizing q with
  | nil => simp at h
  | cons t l ih =>
    cases q with
    | zero => simp only [List.set_cons_zero, sizesES, List.getElem_cons_zero]; omega
    | succ q =>
      have := ih (q := q) (by simpa using h)
      simp only [List.set_cons_succ, sizesES, List.getElem_cons_succ]
      omega
theorem depthsES_set {l : List ES} {q : Nat} (h : q < l.length) (y : ES) : depthsES (l.set q y) ≤ max (depthsES l) (depthES y) ∧ depthES l[q] ≤ depthsES l := by
  induction l generalizing q with
  | nil => simp at h
  | cons t l ih =>
    cases q with
    | zero => simp only [List.set_cons_zero, depthsES, List.getElem_cons_zero]; omega
    | succ q =>
      have := ih (q := q) (by simpa using h)
      simp only [List.set_cons_succ, depthsES, List.getElem_cons_succ]
      omega
theorem depthES_eq (s : ES) : depthES s = 1 + depthsES s.kids := by cases s; simp [depthES, ES.kids]
theorem put_few : ∀ (p : List Int) (s x c : ES), putES s p x = some c → sizeES c ≤ sizeES s + sizeES x ∧ depthES c ≤ depthES s + depthES x
  | [], s, x, c, h => by simp only [putES, Option.some.injEq] at h; rw [h]; omega
  | i :: p, s, x, c, h => by
    rw [putES] at h
    by_cases hi : 0 ≤ i ∧ i.toNat < s.kids.length
    · rw [dif_pos hi] at h
      obtain ⟨y, hy, rfl⟩ := Option.map_eq_some_iff.1 h
      have h1 := put_few p _ x y hy
      have h2 := sizesES_set hi.2 y
      have h3 := depthsES_set hi.2 y
      rw [sizeES_eq s, depthES_eq s]
      simp only [sizeES, depthES]
      omega
    · rw [dif_neg hi] at h; cases h
theorem sizesES_mem {l : List ES} {k : Nat} (h : k < l.length) : sizeES l[k] ≤ sizesES l ∧ depthES l[k] ≤ depthsES l := ⟨(sizesES_set h l[k]).2.1, (depthsES_set h l[k]).2⟩
theorem at_few : ∀ (p : List Int) (s b : ES), atES s p = some b → sizeES b ≤ sizeES s ∧ depthES b ≤ depthES s
  | [], s, b, h => by simp only [atES, Option.some.injEq] at h; rw [h]; omega
  | i :: p, s, b, h => by
    rw [atES] at h
    by_cases hi : 0 ≤ i ∧ i.toNat < s.kids.length
    · rw [dif_pos hi] at h
      have h1 := at_few p _ b h
      have h2 := sizesES_mem hi.2
      rw [sizeES_eq s, depthES_eq s]
      omega
    · rw [dif_neg hi] at h; cases h
end
end Go.Proofs.YthdhdmmlmbkalaaGreatDoor
namespace Go.Proofs.YthdhdmmlmbkalaaGreatDoor
section
open Go.RowKit

mutual
theorem budE_ge : ∀ (e : ET) (left deep : Int), (e.size : Int) ≤ left → (e.depth : Int) ≤ deep → budE e left deep = left - e.size
  | .mk k d v va vc vs rs p ka kc kids, left, deep, h1, h2 => by
    simp only [ET.size, ET.depth] at h1 h2 ⊢
    rw [budE_eq, if_neg (by omega)]
    have h3 := budER_ge kids (left - 1) (deep - 1) (by omega) (by omega)
    simp only [ET.kids]
    omega
theorem budER_ge : ∀ (l : List ET) (left deep : Int), (sizesE l : Int) ≤ left → (depthsE l : Int) ≤ deep → budER l left deep = left - sizesE l
  | [], left, deep, h1, h2 => by rw [budER_nil]; simp [sizesE]
  | e :: l, left, deep, h1, h2 => by
    simp only [sizesE, depthsE] at h1 h2 ⊢
    have h3 := budE_ge e left deep (by omega) (by omega)
    rw [budER_cons, h3, if_neg (by omega), budER_ge l _ deep (by omega) (by omega)]
    omega
end
set_option maxRecDepth 100000 in
theorem fewE_any (M : Nat) (t : ET) (w : World) (hM : M ≤ w.heap.size) (hH : HeldE w M t) (h1 : t.size ≤ 100000) (h2 : t.depth ≤ 10000) :
    Calls Tryz.prog 23 #[.agg #[.int .i64 t.k, .int .i64 t.d.k, .bool t.d.g, .slice t.d.la t.d.ln t.d.lc, .bool t.d.bb, .string t.d.s, .slice t.d.ia t.d.items.length t.d.ic, .slice t.d.ta t.d.tail.length t.d.tc, .int .i64 t.v, .slice t.va t.vs.length t.vc, .bool t.rs, .int .i64 t.p, .slice t.ka t.kids.length t.kc]] w fun e w' => e = .returned (.bool true) ∧ Below w.heap.size w w' := by
  have hb0 : Below w.heap.size w (w.alloc (Obj.cells #[.int .i64 t.k, .int .i64 t.d.k, .bool t.d.g, .slice t.d.la t.d.ln t.d.lc, .bool t.d.bb, .string t.d.s, .slice t.d.ia t.d.items.length t.d.ic, .slice t.d.ta t.d.tail.length t.d.tc, .int .i64 t.v, .slice t.va t.vs.length t.vc, .bool t.rs, .int .i64 t.p, .slice t.ka t.kids.length t.kc] 31)) := (Below.refl _ w).alloc (Nat.le_refl _) _
  have HC := Lib.hid (budgetE_ok M t.size t (Nat.le_refl _) 100000 10000 (w.alloc (Obj.cells #[.int .i64 t.k, .int .i64 t.d.k, .bool t.d.g, .slice t.d.la t.d.ln t.d.lc, .bool t.d.bb, .string t.d.s, .slice t.d.ia t.d.items.length t.d.ic, .slice t.d.ta t.d.tail.length t.d.tc, .int .i64 t.v, .slice t.va t.vs.length t.vc, .bool t.rs, .int .i64 t.p, .slice t.ka t.kids.length t.kc] 31)) (Nat.le_trans hM hb0.size) (hH.below hM hb0) (by decide) (by decide) (by decide) (by decide))
  have HB := Lib.hid hb0
  rw [budE_ge t 100000 10000 (by omega) (by omega)] at HC
  clear hb0 hH
  obtain ⟨r, hr⟩ : ∃ r : Int, (100000 : Int) - t.size = r := ⟨_, rfl⟩
  rw [hr] at HC
  have hr0 : 0 ≤ r := by omega
  have hq : decide (0 ≤ r) = true := decide_eq_true hr0
  clear hr h1 h2
  go_enter Tryz.func23, Tryz.ntmps23
  go_wp2_with fail
  refine HC.out.mono ?_
  rintro e w6 ⟨rfl, b6⟩
  have hb6 := bnext HB.out b6
  go_wp2_with fail
  go_ret
  exact ⟨rfl, hb6⟩
/-- The zero datum, the zero expression. -/
def zD8 : LT := .mk 0 false none 0 0 [] false ⟨#[]⟩ none 0 [] none 0 []
def zE : ET := .mk 0 zD8 0 none 0 [] false 0 none 0 []
theorem zD8_held (w : World) (M : Nat) : Held w M zD8 :=
  ⟨⟨Sl.nil, fun hp => absurd hp (by simp [zD8, LT.ln]), show 0 ≤ maxLen from Nat.zero_le _⟩, ⟨Nat.le_refl _, by simp [maxLen, zD8, LT.ic], fun hp => absurd hp (by simp [zD8, LT.items]), fun _ => rfl⟩, ⟨Nat.le_refl _, by simp [maxLen, zD8, LT.tc], fun hp => absurd hp (by simp [zD8, LT.tail]), fun _ => rfl⟩, by simp [zD8, LT.items], by simp [zD8, LT.tail]⟩
theorem zE_held (w : World) (M : Nat) : HeldE w M zE :=
  ⟨⟨zD8_held w M, ⟨⟨Nat.le_refl _, by simp [maxLen, zE, ET.vc], fun hp => absurd hp (by simp [zE, ET.vs]), fun _ => rfl⟩, fun i h => absurd h (by simp [zE, ET.vs])⟩⟩, ⟨Nat.le_refl _, by simp [maxLen, zE, ET.kc], fun hp => absurd hp (by simp [zE, ET.kids]), fun _ => rfl⟩, by simp [zE, ET.kids, liesER_nil]⟩
theorem zE_size : zE.size = 1 ∧ zE.depth = 1 := ⟨by rw [ET.size_eq]; simp [zE, ET.kids, sizesE], by rw [ET.depth_eq]; simp [zE, ET.kids, depthsE]⟩
theorem zE_tame : TameE zE := by
  refine (tameE_eq _).2 ⟨⟨(tame_eq _).2 ⟨by simp [zE, ET.d, zD8, LT.ys, LT.ln], by simp [zE, ET.d, zD8, LT.items, TameR], by simp [zE, ET.d, zD8, LT.tail, TameR]⟩, ?_, ?_⟩, by simp [zE, ET.vs], by simp [zE, ET.kids, TameER]⟩
  · rw [LT.size_eq]; simp [zE, ET.d, zD8, LT.items, LT.tail, sizes]
  · rw [LT.depth_eq]; simp [zE, ET.d, zD8, LT.items, LT.tail, depths]
/-- What a path leads to, and what is made with x there; the zero expression, if it leads nowhere. -/
def atZ (s : ES) (p : List Int) : ES := (atES s p).getD (shapeE zE)
def putZ8 (s : ES) (p : List Int) (x : ES) : ES := (putES s p x).getD (shapeE zE)
theorem atZ_few (s : ES) (p : List Int) : sizeES (atZ s p) ≤ sizeES s + 1 ∧ depthES (atZ s p) ≤ depthES s + 1 := by
  unfold atZ
  cases h : atES s p with
  | none => simp only [Option.getD_none, sizeES_shape, depthES_shape, zE_size]; omega
  | some b => have := at_few p s b h; simp only [Option.getD_some]; omega
theorem putZ_few (s : ES) (p : List Int) (x : ES) : sizeES (putZ8 s p x) ≤ sizeES s + sizeES x + 1 ∧ depthES (putZ8 s p x) ≤ depthES s + depthES x + 1 := by
  unfold putZ8
  cases h : putES s p x with
  | none => simp only [Option.getD_none, sizeES_shape, depthES_shape, zE_size]; omega
  | some b => have := put_few p s x b h; simp only [Option.getD_some]; omega
/-- An expression of that shape, and a truth: what a call answers with. -/
def TwoE (s : ES) (b : Bool) (w : World) (e : Ending) (w' : World) : Prop := ∃ u : ET, e = .returned (.tuple #[.agg #[.int .i64 u.k, .int .i64 u.d.k, .bool u.d.g, .slice u.d.la u.d.ln u.d.lc, .bool u.d.bb, .string u.d.s, .slice u.d.ia u.d.items.length u.d.ic, .slice u.d.ta u.d.tail.length u.d.tc, .int .i64 u.v, .slice u.va u.vs.length u.vc, .bool u.rs, .int .i64 u.p, .slice u.ka u.kids.length u.kc], .bool b]) ∧ shapeE u = s ∧ TameE u ∧ HeldE w' w'.heap.size u ∧ Below w.heap.size w w'
end
end Go.Proofs.YthdhdmmlmbkalaaGreatDoor
namespace Go.Proofs.YthdhdmmlmbkalaaGreatDoor
section
open Go.RowKit

section inv
variable {P : Program} {ops : Array Oper} {Q : Exit → Act → World → Prop}
/-- Each operation waits for earlier ones alone. -/
def Rising (ops : Array Oper) : Bool := (List.range ops.size).all fun i => ((ops[i]?).map (fun o => o.after.all fun e => !Region.binds .any e || decide (e.on < i))).getD true
theorem Rising.lt {i : Nat} {o : Oper} {e : Edge} (h : Rising ops = true) (ho : ops[i]? = some o) (he : e ∈ o.after) (hb : Region.binds .any e = true) : e.on < i := by
  have hi : i < ops.size := by
    rcases Nat.lt_or_ge i ops.size with h1 | h1
    · exact h1
    · rw [Array.getElem?_eq_none h1] at ho; cases ho
  have h2 := List.all_eq_true.1 h i (List.mem_range.2 hi)
  rw [ho, Option.map_some, Option.getD_some, Array.all_eq_true'] at h2
  have h3 := h2 e he
  rw [hb] at h3
  simpa using h3
theorem ready_none {listed : Array Bool} (hr : Rising ops = true) (h : Region.ready .any ops listed = []) (hs : listed.size = ops.size) : ∀ i, i < ops.size → listed.getD i false = true := by
  intro i
  induction i using Nat.strongRecOn with
  | _ i ih =>
    intro hi
    apply Classical.byContradiction
    intro hn
    have ho : ops[i]? = some ops[i] := Array.getElem?_eq_getElem hi
    have hm : i ∈ Region.ready .any ops listed := mem_ready.2 ⟨by
      have h1 : i < listed.size := by omega
      rw [Array.getD_eq_getD_getElem?, Array.getElem?_eq_getElem h1, Option.getD_some] at hn ⊢
      simpa using hn, _, ho, fun e he hb => by
      have := Rising.lt hr ho he hb
      exact ih e.on this (by omega)⟩
    rw [h] at hm
    cases hm
theorem listed_set {listed : Array Bool} {i : Nat} (hi : i < listed.size) : (fun j => (listed.setIfInBounds i true).getD j false) = fun j => listed.getD j false || j == i := by
  funext j
  rw [Array.getD_eq_getD_getElem?, Array.getD_eq_getD_getElem?, Array.getElem?_setIfInBounds]
  by_cases h : i = j
  · subst h; simp [hi]
  · rw [if_neg h]
    have : (j == i) = false := by simpa using fun h1 : j = i => h h1.symm
    rw [this, Bool.or_false]
theorem count_set {listed : Array Bool} {i : Nat} (h : listed.getD i true = false) : (listed.setIfInBounds i true).toList.count false + 1 = listed.toList.count false := by
  have hi : i < listed.size := by
    rcases Nat.lt_or_ge i listed.size with h1 | h1
    · exact h1
    · rw [Array.getD_eq_getD_getElem?, Array.getElem?_eq_none h1] at h; cases h
  rw [Array.getD_eq_getD_getElem?, Array.getElem?_eq_getElem hi, Option.getD_some] at h
  rw [Array.toList_setIfInBounds, List.count_set (by simpa using hi)]
  have h2 : listed.toList[i] = false := by simpa using h
  have h3 : 0 < listed.toList.count false := List.count_pos_iff.2 (by rw [← h2]; exact List.getElem_mem _)
  rw [h2, if_pos (by rfl), if_neg (by decide)]
  omega
theorem wpAny_inv (hr : Rising ops = true) (I : (Nat → Bool) → Act → World → Prop)
    (step : ∀ l a w i oi, ops[i]? = some oi → l i = false → (∀ e ∈ oi.after, Region.binds .any e = true → l e.on = true) → I l a w → wpOp P ops Q i (I (fun j => l j || j == i)) a w)
    (done : ∀ l a w, (∀ i, i < ops.size → l i = true) → I l a w → Q .normal a w) :
    ∀ (fuel : Nat) (listed : Array Bool) (a : Act) (w : World), listed.size = ops.size → listed.toList.count false ≤ fuel → I (fun j => listed.getD j false) a w → wpAny P .any ops Q fuel listed a w := by
  intro fuel
  induction fuel with
  | zero =>
    intro listed a w hs hc hI
    have hz : ∀ i, i < ops.size → listed.getD i false = true := by
      intro i hi
      have h1 : i < listed.size := by omega
      rw [Array.getD_eq_getD_getElem?, Array.getElem?_eq_getElem h1, Option.getD_some]
      cases hb : listed[i] with
      | true => rfl
      | false =>
        have h2 : false ∈ listed.toList := by rw [← hb, ← Array.getElem_toList h1]; exact List.getElem_mem _
        have := List.count_pos_iff.2 h2
        omega
    refine ⟨?_, done _ _ _ hz hI⟩
    apply List.eq_nil_iff_forall_not_mem.2
    intro i hi
    obtain ⟨h1, o, ho, -⟩ := mem_ready.1 hi
    have hlt : i < ops.size := by
      rcases Nat.lt_or_ge i ops.size with h1 | h1
      · exact h1
      · rw [Array.getElem?_eq_none h1] at ho; cases ho
    have h2 := hz i hlt
    have h3 : i < listed.size := by omega
    rw [Array.getD_eq_getD_getElem?, Array.getElem?_eq_getElem h3, Option.getD_some] at h1 h2
    rw [h1] at h2; cases h2
  | succ fuel ih =>
    intro listed a w hs hc hI
    refine ⟨fun h0 => done _ _ _ (ready_none hr h0 hs) hI, fun i hi => ?_⟩
    obtain ⟨h1, o, ho, he⟩ := mem_ready.1 hi
    have hlt : i < listed.size := by
      rcases Nat.lt_or_ge i listed.size with h2 | h2
      · exact h2
      · rw [Array.getD_eq_getD_getElem?, Array.getElem?_eq_none h2] at h1; cases h1
    have h1' : listed.getD i false = false := by
      rw [Array.getD_eq_getD_getElem?, Array.getElem?_eq_getElem hlt, Option.getD_some] at h1 ⊢
      exact h1
    refine wpOp_mono (fun a' w' hI' => ?_) (step _ a w i o ho h1' he hI)
    refine ih _ a' w' (by simpa using hs) (by have := count_set h1; omega) ?_
    rw [listed_set hlt]
    exact hI'
theorem wp_region_inv {id : Nat} {a : Act} {w : World} (hm : P.follows .mixedOrders = true) (hr : Rising ops = true) (I : (Nat → Bool) → Act → World → Prop)
    (h0 : I (fun _ => false) a w.drew)
    (step : ∀ l a w i oi, ops[i]? = some oi → l i = false → (∀ e ∈ oi.after, Region.binds .any e = true → l e.on = true) → I l a w → wpOp P ops Q i (I (fun j => l j || j == i)) a w)
    (done : ∀ l a w, (∀ i, i < ops.size → l i = true) → I l a w → Q .normal a w) : (Code.region id ops true).wp P Q a w := by
  refine wp_region_any hm (wpAny_inv hr I step done ops.size _ a _ (by simp) ?_ ?_)
  · simp
  · have : (fun j => (Array.replicate ops.size false).getD j false) = fun _ => false := by
      funext j
      rw [Array.getD_eq_getD_getElem?, Array.getElem?_replicate]
      split <;> rfl
    rw [this]
    exact h0
theorem wpOp_plain {i : Nat} {o : Oper} {a : Act} {w : World} {K : Act → World → Prop} (ho : ops[i]? = some o) (hg : o.guard = none) (h : o.wp P a w K Q) : wpOp P ops Q i K a w := by
  unfold wpOp
  rw [ho]
  simp only [Region.wanted, hg, if_true]
  exact .inl h
end inv
theorem exec_call {P : Program} {a : Act} {w : World} {o : Oper} {f p : Nat} {T : TypeId} (ho : o.op = .call { callee := .value (.func f), args := #[.tmp p], argTypes := #[T] }) :
    (execOp a.eval o).run P w = (callFunc f #[a.tmps.getD p undef]).run P w := by
  simp [execOp, ho, Act.eval, go_sem]
variable {ops : Array Oper} {Q : Exit → Act → World → Prop}
theorem put_get {a : Act} {d n : Nat} {v : Value} (hd : d < a.tmps.size) : (a.put (some d) v).tmps.getD n undef = if n = d then v else a.tmps.getD n undef := by
  unfold Act.put
  simp only [Array.getD_eq_getD_getElem?, Array.getElem?_setIfInBounds]
  by_cases h : d = n
  · subst h; simp [hd]
  · rw [if_neg h, if_neg (fun e => h e.symm)]
section inv
variable {P : Program} {ops : Array Oper} {Q : Exit → Act → World → Prop}
/-- Operation i waits for operation j. -/
def Waits (ops : Array Oper) (i j : Nat) : Bool := ((ops[i]?).map (fun o => o.after.any fun e => Region.binds .any e && (e.on == j))).getD false
theorem Waits.listed {i j : Nat} {o : Oper} {l : Nat → Bool} (h : Waits ops i j = true) (ho : ops[i]? = some o) (he : ∀ e ∈ o.after, Region.binds .any e = true → l e.on = true) : l j = true := by
  unfold Waits at h
  rw [ho, Option.map_some, Option.getD_some, Array.any_eq_true'] at h
  obtain ⟨e, hm, hk⟩ := h
  rw [Bool.and_eq_true] at hk
  have h2 := he e hm hk.1
  rw [beq_iff_eq.1 hk.2] at h2
  exact h2
/-- Operation i waits for operation j, or for one that does. -/
def WaitsT (ops : Array Oper) : Nat → Nat → Nat → Bool
  | 0, i, j => Waits ops i j
  | n + 1, i, j => Waits ops i j || (List.range i).any fun k => Waits ops i k && WaitsT ops n k j
/-- What has come up had all that it waits for. -/
def Whole (ops : Array Oper) (l : Nat → Bool) : Prop := ∀ i o, ops[i]? = some o → l i = true → ∀ e ∈ o.after, Region.binds .any e = true → l e.on = true
theorem Waits.some {i j : Nat} (h : Waits ops i j = true) : ∃ o, ops[i]? = some o := by
  unfold Waits at h
  cases ho : ops[i]? with
  | none => rw [ho] at h; cases h
  | some o => exact ⟨o, rfl⟩
theorem WaitsT.listed {l : Nat → Bool} (hw : Whole ops l) : ∀ (n i j : Nat) (o : Oper), WaitsT ops n i j = true → ops[i]? = some o → (∀ e ∈ o.after, Region.binds .any e = true → l e.on = true) → l j = true := by
  intro n
  induction n with
  | zero => intro i j o h ho he; exact Waits.listed h ho he
  | succ n ih =>
    intro i j o h ho he
    unfold WaitsT at h
    rcases Bool.or_eq_true_iff.1 h with h1 | h1
    · exact Waits.listed h1 ho he
    · obtain ⟨k, -, hk⟩ := List.any_eq_true.1 h1
      rw [Bool.and_eq_true] at hk
      have hlk := Waits.listed hk.1 ho he
      have hso : ∃ ok, ops[k]? = some ok := by
        cases n with
        | zero => exact Waits.some hk.2
        | succ m =>
          have h2 := hk.2
          unfold WaitsT at h2
          rcases Bool.or_eq_true_iff.1 h2 with h3 | h3
          · exact Waits.some h3
          · obtain ⟨k', -, hk'⟩ := List.any_eq_true.1 h3
            rw [Bool.and_eq_true] at hk'
            exact Waits.some hk'.1
      obtain ⟨ok, hok⟩ := hso
      exact ih k j ok hk.2 hok (hw k ok hok hlk)
/-- Operation i waits for all before it. -/
def WaitsAll (ops : Array Oper) (i : Nat) : Bool := (List.range i).all fun j => WaitsT ops 6 i j
theorem WaitsAll.listed {i : Nat} {o : Oper} {l : Nat → Bool} (hw : Whole ops l) (h : WaitsAll ops i = true) (ho : ops[i]? = some o) (he : ∀ e ∈ o.after, Region.binds .any e = true → l e.on = true) : ∀ j, j < i → l j = true := by
  intro j hj
  exact WaitsT.listed hw 6 i j o (List.all_eq_true.1 h j (List.mem_range.2 hj)) ho he
/-- The state of a region's first part: what has come up has its value. -/
structure PhaseI (nA : Nat) (dst : Nat → Nat) (A : Nat → World → Value → Prop) (a0 : Act) (w0 : World) (l : Nat → Bool) (a : Act) (w : World) : Prop where
  defers : a.defers = a0.defers
  size : a.tmps.size = a0.tmps.size
  other : ∀ n, (∀ j, j < nA → n ≠ dst j) → a.tmps.getD n undef = a0.tmps.getD n undef
  below : Below w0.heap.size w0 w
  val : ∀ i, i < nA → l i = true → A i w (a.tmps.getD (dst i) undef)
/-- A region of two parts: the first's operations make values, and change nothing that was there; each of the second part waits for all before it. -/
theorem wp_region_phases {id nA : Nat} {a0 : Act} {w0 : World} (hm : P.follows .mixedOrders = true) (hr : Rising ops = true) (dst : Nat → Nat) (A : Nat → World → Value → Prop)
    (hnA : nA ≤ ops.size) (hw : ((List.range (ops.size - nA)).all fun k => WaitsAll ops (nA + k)) = true)
    (hinj : ∀ i j, i < nA → j < nA → dst i = dst j → i = j)
    (hds : ∀ i, i < nA → dst i < a0.tmps.size)
    (stable : ∀ i, i < nA → ∀ w w' v, A i w v → Below w.heap.size w w' → A i w' v)
    (step : ∀ i, i < nA → ∀ l a w, PhaseI nA dst A a0 w0 l a w → (∀ j, Waits ops i j = true → l j = true) → wpOp P ops Q i (fun a' w' => ∃ v, a' = a.put (some (dst i)) v ∧ A i w' v ∧ Below w.heap.size w w') a w)
    (fin : ∀ a w, a.defers = a0.defers → a.tmps.size = a0.tmps.size → (∀ n, (∀ j, j < nA → n ≠ dst j) → a.tmps.getD n undef = a0.tmps.getD n undef) → (∀ i, i < nA → A i w (a.tmps.getD (dst i) undef)) → Below w0.heap.size w0 w → wpOps P ops Q (List.range' nA (ops.size - nA)) a w) :
    (Code.region id ops true).wp P Q a0 w0 := by
  refine wp_region_inv hm hr (fun l a w => Whole ops l ∧ (((∀ j, nA ≤ j → l j = false) ∧ PhaseI nA dst A a0 w0 l a w) ∨ (∃ k, nA < k ∧ k ≤ ops.size ∧ (∀ j, j < k → l j = true) ∧ (∀ j, k ≤ j → l j = false) ∧ wpOps P ops Q (List.range' k (ops.size - k)) a w))) ?_ ?_ ?_
  · exact ⟨(fun i o ho h => by cases h), .inl ⟨fun _ _ => rfl, rfl, rfl, fun _ _ => rfl, (Below.refl _ _).drew, fun _ _ h => by cases h⟩⟩
  · intro l a w i oi ho hl he hI
    obtain ⟨hwl, hI⟩ := hI
    have hwl' : Whole ops (fun j => l j || j == i) := by
      intro j o hj hlj e hee hbe
      show (l e.on || e.on == i) = true
      have hlj : (l j || j == i) = true := hlj
      rcases Bool.or_eq_true_iff.1 hlj with h1 | h1
      · rw [hwl j o hj h1 e hee hbe, Bool.true_or]
      · rw [beq_iff_eq.1 h1, ho] at hj
        injection hj with hj
        subst hj
        rw [he e hee hbe, Bool.true_or]
    have hi : i < ops.size := by
      rcases Nat.lt_or_ge i ops.size with h1 | h1
      · exact h1
      · rw [Array.getElem?_eq_none h1] at ho; cases ho
    have hwi : nA ≤ i → WaitsAll ops i = true := fun h => by
      have := List.all_eq_true.1 hw (i - nA) (List.mem_range.2 (by omega))
      rwa [show nA + (i - nA) = i by omega] at this
    have next : ∀ k, k < ops.size → List.range' k (ops.size - k) = k :: List.range' (k + 1) (ops.size - (k + 1)) := fun k hk => by
      rw [show ops.size - k = (ops.size - (k + 1)) + 1 by omega, List.range'_succ]
    rcases hI with ⟨hB, I⟩ | ⟨k, hk1, hk2, hk3, hk4, hk5⟩
    · by_cases hiA : i < nA
      · refine wpOp_mono ?_ (step i hiA l a w I (fun j hj => Waits.listed hj ho he))
        rintro a' w' ⟨v, rfl, hv, hb⟩
        refine ⟨hwl', .inl ⟨fun j hj => ?_, I.defers, by simp [Act.put, I.size], fun n hn => ?_, I.below.trans (hb.mono I.below.size), fun j hj hlj => ?_⟩⟩
        · show (l j || j == i) = false
          rw [hB j hj, Bool.false_or]; simpa using fun e : j = i => by omega
        · have : n ≠ dst i := hn i hiA
          rw [← I.other n hn]
          unfold Act.put
          simp only [Array.getD_eq_getD_getElem?, Array.getElem?_setIfInBounds]
          rw [if_neg (fun e => this e.symm)]
        · unfold Act.put
          simp only [Array.getD_eq_getD_getElem?, Array.getElem?_setIfInBounds]
          by_cases e : j = i
          · subst e
            rw [if_pos rfl, if_pos (by rw [I.size]; exact hds j hj)]
            exact hv
          · rw [if_neg (fun e' => e (hinj j i hj hiA e'.symm))]
            have hlj' : l j = true := by
              have : (j == i) = false := by simpa using e
              simpa [this] using hlj
            have := stable j hj w w' _ (I.val j hj hlj') hb
            rwa [Array.getD_eq_getD_getElem?] at this
      · have hall := WaitsAll.listed hwl (hwi (by omega)) ho he
        have hin : i = nA := by
          rcases Nat.lt_or_ge nA i with h1 | h1
          · have := hall nA h1; rw [hB nA (Nat.le_refl _)] at this; cases this
          · omega
        subst hin
        have hf := fin a w I.defers I.size I.other (fun j hj => I.val j hj (hall j hj)) I.below
        rw [next i hi, wpOps_cons] at hf
        refine wpOp_mono ?_ hf
        intro a' w' h'
        refine ⟨hwl', .inr ⟨i + 1, by omega, by omega, fun j hj => ?_, fun j hj => ?_, h'⟩⟩
        · by_cases e : j = i
          · simp [e]
          · show (l j || j == i) = true
            rw [hall j (by omega), Bool.true_or]
        · show (l j || j == i) = false
          rw [hB j (by omega), Bool.false_or]; simpa using fun e : j = i => by omega
    · have hik : i = k := by
        have h1 : k ≤ i := by
          rcases Nat.lt_or_ge i k with h2 | h2
          · rw [hk3 i h2] at hl; cases hl
          · exact h2
        have hall := WaitsAll.listed hwl (hwi (by omega)) ho he
        rcases Nat.lt_or_ge k i with h2 | h2
        · have := hall k h2; rw [hk4 k (Nat.le_refl _)] at this; cases this
        · omega
      subst hik
      rw [next i hi, wpOps_cons] at hk5
      refine wpOp_mono ?_ hk5
      intro a' w' h'
      refine ⟨hwl', .inr ⟨i + 1, by omega, by omega, fun j hj => ?_, fun j hj => ?_, h'⟩⟩
      · by_cases e : j = i
        · simp [e]
        · show (l j || j == i) = true
          rw [hk3 j (by omega), Bool.true_or]
      · show (l j || j == i) = false
        rw [hk4 j (by omega), Bool.false_or]; simpa using fun e : j = i => by omega
  · intro l a w hl hI
    replace hI := hI.2
    rcases hI with ⟨hB, I⟩ | ⟨k, hk1, hk2, hk3, hk4, hk5⟩
    · have hz : nA = ops.size := by
        rcases Nat.lt_or_ge nA ops.size with h1 | h1
        · have := hl nA h1; rw [hB nA (Nat.le_refl _)] at this; cases this
        · omega
      have hf := fin a w I.defers I.size I.other (fun j hj => I.val j hj (hl j (by omega))) I.below
      rw [hz, Nat.sub_self] at hf
      exact hf
    · have hz : k = ops.size := by
        rcases Nat.lt_or_ge k ops.size with h1 | h1
        · have := hl k h1; rw [hk4 k (Nat.le_refl _)] at this; cases this
        · omega
      rw [hz, Nat.sub_self] at hk5
      exact hk5
end inv
theorem exec_call2 {P : Program} {a : Act} {w : World} {o : Oper} {f p q : Nat} {T T' : TypeId} (ho : o.op = .call { callee := .value (.func f), args := #[.tmp p, .tmp q], argTypes := #[T, T'] }) :
    (execOp a.eval o).run P w = (callFunc f #[a.tmps.getD p undef, a.tmps.getD q undef]).run P w := by
  simp [execOp, ho, Act.eval, go_sem]
theorem act_ext {a b : Act} (hd : a.defers = b.defers) (hs : a.tmps.size = b.tmps.size) (h : ∀ n, a.tmps.getD n undef = b.tmps.getD n undef) : a = b := by
  obtain ⟨x, d⟩ := a
  obtain ⟨y, d'⟩ := b
  dsimp only at hd hs h
  subst hd
  rw [Act.mk.injEq]
  refine ⟨Array.ext hs fun i h1 h2 => ?_, rfl⟩
  have := h i
  rw [Array.getD_eq_getD_getElem?, Array.getD_eq_getD_getElem?, Array.getElem?_eq_getElem h1, Array.getElem?_eq_getElem h2] at this
  exact this
theorem fold_pairs {a : Act} (ps : List (Nat × Value)) (b : Act) (hds : ∀ p ∈ ps, p.1 < b.tmps.size) (hval : ∀ p ∈ ps, a.tmps.getD p.1 undef = p.2) :
    (ps.foldl (fun b p => b.put (some p.1) p.2) b).defers = b.defers ∧ (ps.foldl (fun b p => b.put (some p.1) p.2) b).tmps.size = b.tmps.size ∧
    ∀ n, (ps.foldl (fun b p => b.put (some p.1) p.2) b).tmps.getD n undef = if n ∈ ps.map (·.1) then a.tmps.getD n undef else b.tmps.getD n undef := by
  induction ps generalizing b with
  | nil => exact ⟨rfl, rfl, fun n => by simp⟩
  | cons p ps ih =>
    have hi := hds p (by simp)
    have hs : (b.put (some p.1) p.2).tmps.size = b.tmps.size := by simp [Act.put]
    obtain ⟨h1, h2, h3⟩ := ih (b.put (some p.1) p.2) (fun q hq => by rw [hs]; exact hds q (by simp [hq])) (fun q hq => hval q (by simp [hq]))
    refine ⟨h1, h2.trans hs, fun n => ?_⟩
    rw [List.foldl_cons, h3 n, put_get hi, List.map_cons]
    by_cases hn : n ∈ ps.map (·.1)
    · rw [if_pos hn, if_pos (List.mem_cons_of_mem _ hn)]
    · rw [if_neg hn]
      by_cases e : n = p.1
      · rw [if_pos e, if_pos (by rw [e]; exact List.mem_cons_self), e]; exact (hval p (by simp)).symm
      · rw [if_neg e, if_neg (by rw [List.mem_cons]; exact fun h => h.elim e hn)]
/-- The frame behind a region's first part, written out. -/
theorem tower_pairs {a a0 : Act} (ps : List (Nat × Value)) (hds : ∀ p ∈ ps, p.1 < a0.tmps.size) (hval : ∀ p ∈ ps, a.tmps.getD p.1 undef = p.2) (hdf : a.defers = a0.defers) (hsize : a.tmps.size = a0.tmps.size)
    (hoth : ∀ n, (∀ p ∈ ps, n ≠ p.1) → a.tmps.getD n undef = a0.tmps.getD n undef) : a = ps.foldl (fun b p => b.put (some p.1) p.2) a0 := by
  obtain ⟨h1, h2, h3⟩ := fold_pairs ps a0 hds hval
  refine act_ext (hdf.trans h1.symm) (hsize.trans h2.symm) fun n => ?_
  rw [h3 n]
  by_cases hn : n ∈ ps.map (·.1)
  · rw [if_pos hn]
  · rw [if_neg hn]
    refine hoth n fun p hp e => hn ?_
    rw [e]
    exact List.mem_map.2 ⟨p, hp, rfl⟩
theorem exec_move {P : Program} {a : Act} {w : World} {o : Oper} {p : Nat} (ho : o.op = .move (.tmp p)) : (execOp a.eval o).run P w = .ok (.value (a.tmps.getD p undef)) w := by
  simp [execOp, ho, Act.eval, go_sem]
end
end Go.Proofs.YthdhdmmlmbkalaaGreatDoor
namespace Go.Proofs.YthdhdmmlmbkalaaGreatDoor
section
open Go.RowKit
section inv
variable {P : Program} {ops : Array Oper} {Q : Exit → Act → World → Prop}

/-- The state of a region's first part: what has come up has its value. -/
structure PhaseR (p q : Nat) (R : World → Value → Value → Prop) (nA : Nat) (dst : Nat → Nat) (A : Nat → World → Value → Prop) (a0 : Act) (w0 : World) (l : Nat → Bool) (a : Act) (w : World) : Prop where
  defers : a.defers = a0.defers
  size : a.tmps.size = a0.tmps.size
  other : ∀ n, (∀ j, j < nA → n ≠ dst j) → a.tmps.getD n undef = a0.tmps.getD n undef
  below : Below w0.heap.size w0 w
  val : ∀ i, i < nA → l i = true → A i w (a.tmps.getD (dst i) undef)
  rel : l p = true → l q = true → R w (a.tmps.getD (dst p) undef) (a.tmps.getD (dst q) undef)
end inv
end
end Go.Proofs.YthdhdmmlmbkalaaGreatDoor
namespace Go.Proofs.YthdhdmmlmbkalaaGreatDoor
section
open Go.RowKit

/-- Seven cells of a datum. -/
def Seven (w : World) (b o : Nat) (u : LT) : Prop := ∀ j v, u.cells[j]? = some v → w.cell? ⟨b, o + j, none⟩ = some v
theorem exec_loadD {a : Act} {w : World} {o : Oper} {p b off : Nat} {u : LT} (ho : o.op = .load 27 (.tmp p)) (ht : a.tmps.getD p undef = .pointer (some ⟨b, off, none⟩)) (hc : Seven w b off u) :
    (execOp a.eval o).run Tryz.prog w = .ok (.value (.agg #[.int .i64 u.k, .bool u.g, .slice u.la u.ln u.lc, .bool u.bb, .string u.s, .slice u.ia u.items.length u.ic, .slice u.ta u.tail.length u.tc])) w := by
  have c0 : w.cell? ⟨b, off, none⟩ = some (.int .i64 u.k) := hc 0 _ rfl
  have c1 : w.cell? ⟨b, off + 1, none⟩ = some (.bool u.g) := hc 1 _ rfl
  have c2 : w.cell? ⟨b, off + 2, none⟩ = some (.slice u.la u.ln u.lc) := hc 2 _ rfl
  have c3 : w.cell? ⟨b, off + 3, none⟩ = some (.bool u.bb) := hc 3 _ rfl
  have c4 : w.cell? ⟨b, off + 4, none⟩ = some (.string u.s) := hc 4 _ rfl
  have c5 : w.cell? ⟨b, off + 5, none⟩ = some (.slice u.ia u.items.length u.ic) := hc 5 _ rfl
  have c6 : w.cell? ⟨b, off + 6, none⟩ = some (.slice u.ta u.tail.length u.tc) := hc 6 _ rfl
  rw [Array.getD_eq_getD_getElem?] at ht
  simp [execOp, ho, Act.eval, ht, go_sem, c0, c1, c2, c3, c4, c5, c6]
theorem exec_loadS {a : Act} {w : World} {o : Oper} {p b off n c : Nat} {A : Option Addr} (ho : o.op = .load 25 (.tmp p)) (ht : a.tmps.getD p undef = .pointer (some ⟨b, off, none⟩)) (hc : w.cell? ⟨b, off, none⟩ = some (.slice A n c)) :
    (execOp a.eval o).run Tryz.prog w = .ok (.value (.slice A n c)) w := by
  rw [Array.getD_eq_getD_getElem?] at ht
  simp [execOp, ho, Act.eval, ht, go_sem, hc]
theorem exec_fld {a : Act} {w : World} {o : Oper} {p b : Nat} (ho : o.op = .fieldAddr 27 (.tmp p) 4) (ht : a.tmps.getD p undef = .pointer (some ⟨b, 0, none⟩)) :
    (execOp a.eval o).run Tryz.prog w = .ok (.value (.pointer (some ⟨b, 5, none⟩))) w := by
  rw [Array.getD_eq_getD_getElem?] at ht
  simp [execOp, ho, Act.eval, ht, go_sem]
theorem exec_fld5 {a : Act} {w : World} {o : Oper} {p b : Nat} (ho : o.op = .fieldAddr 27 (.tmp p) 5) (ht : a.tmps.getD p undef = .pointer (some ⟨b, 0, none⟩)) :
    (execOp a.eval o).run Tryz.prog w = .ok (.value (.pointer (some ⟨b, 6, none⟩))) w := by
  rw [Array.getD_eq_getD_getElem?] at ht
  simp [execOp, ho, Act.eval, ht, go_sem]
section
variable {P : Program} {ops : Array Oper} {Q : Exit → Act → World → Prop} {i : Nat} {o : Oper} {a : Act} {w w' : World} {K : Act → World → Prop}
end
theorem Seven.of {w : World} {b : Nat} {u : LT} (h : w.heap[b]? = some (Obj.cells #[.int .i64 u.k, .bool u.g, .slice u.la u.ln u.lc, .bool u.bb, .string u.s, .slice u.ia u.items.length u.ic, .slice u.ta u.tail.length u.tc] 27)) : Seven w b 0 u := fun j v hj => by rw [Lib.cell_of_heap h, Nat.zero_add, List.getElem?_toArray]; exact hj

end
end Go.Proofs.YthdhdmmlmbkalaaGreatDoor
namespace Go.Proofs.YthdhdmmlmbkalaaGreatDoor
section
open Go.RowKit
section inv
variable {P : Program} {ops : Array Oper} {Q : Exit → Act → World → Prop}

/-- The state of a region's first part: what has come up has its value. -/
structure PhaseA (nA : Nat) (dst : Nat → Nat) (A : Nat → Act → World → Value → Prop) (a0 : Act) (w0 : World) (l : Nat → Bool) (a : Act) (w : World) : Prop where
  defers : a.defers = a0.defers
  size : a.tmps.size = a0.tmps.size
  other : ∀ n, (∀ j, j < nA → n ≠ dst j) → a.tmps.getD n undef = a0.tmps.getD n undef
  below : Below w0.heap.size w0 w
  val : ∀ i, i < nA → l i = true → A i a w (a.tmps.getD (dst i) undef)
  rest : ∀ i, i < nA → l i = false → a.tmps.getD (dst i) undef = a0.tmps.getD (dst i) undef
theorem wanted_yes {j d : Nat} {b : Bool} {o oj : Oper} {a : Act} (hg : o.guard = some (j, b)) (hj : ops[j]? = some oj) (hd : oj.dst = some d) (hs : d < a.tmps.size) (hv : a.tmps.getD d undef = .bool b) : Region.wanted o (yielded ops a.tmps) = true := by
  rw [Array.getD_eq_getD_getElem?, Array.getElem?_eq_getElem hs, Option.getD_some] at hv
  simp [Region.wanted, hg, yielded, hj, hd, Array.getElem?_eq_getElem hs, hv]
theorem wpOp_want {i : Nat} {o : Oper} {a : Act} {w : World} {K : Act → World → Prop} (ho : ops[i]? = some o) (hw : Region.wanted o (yielded ops a.tmps) = true) (h : o.wp P a w K Q) : wpOp P ops Q i K a w := by
  unfold wpOp
  rw [ho]
  simp only [hw, if_true]
  exact .inl h
end inv
end
end Go.Proofs.YthdhdmmlmbkalaaGreatDoor
namespace Go.Proofs.YthdhdmmlmbkalaaGreatDoor
section
open Go.RowKit

section
variable {P : Program} {ops : Array Oper} {Q : Exit → Act → World → Prop} {i : Nat} {o : Oper} {a : Act} {w w' : World} {K : Act → World → Prop}
theorem wpOp_valW {v : Value} (ho : ops[i]? = some o) (hw : Region.wanted o (yielded ops a.tmps) = true) (hr : (execOp a.eval o).run P w = .ok (.value v) w') (h : K (a.put o.dst v) w') : wpOp P ops Q i K a w := by
  refine wpOp_want ho hw ?_
  unfold Oper.wp
  rw [hr, Oper.upon_value]
  exact h
theorem wpOp_callW {f : Nat} {args : Array Value} {R : Ending → World → Prop} (ho : ops[i]? = some o) (hw : Region.wanted o (yielded ops a.tmps) = true) (hr : (execOp a.eval o).run P w = (callFunc f args).run P w) (he : (callFunc f args).run P w = .ok (.enter f args) w) (hc : Calls P f args w R) (h : ∀ e w', R e w' → ∃ v, e = .returned v ∧ K (a.put o.dst v) w') : wpOp P ops Q i K a w := by
  refine wpOp_want ho hw ?_
  unfold Oper.wp
  rw [hr, he, Oper.upon_enter]
  refine hc.mono ?_
  intro e w' hR
  obtain ⟨v, rfl, hK⟩ := h e w' hR
  exact hK
end
theorem exec_not {P : Program} {a : Act} {w : World} {o : Oper} {p : Nat} {T : TypeId} {b : Bool} (ho : o.op = .unOp .not T (.tmp p)) (hp : a.tmps.getD p undef = .bool b) : (execOp a.eval o).run P w = .ok (.value (.bool (!b))) w := by
  rw [Array.getD_eq_getD_getElem?] at hp
  simp [execOp, ho, Act.eval, hp, go_sem]
theorem exec_moveV {P : Program} {a : Act} {w : World} {o : Oper} {p : Nat} {v : Value} (ho : o.op = .move (.tmp p)) (hp : a.tmps.getD p undef = v) : (execOp a.eval o).run P w = .ok (.value v) w := by
  rw [exec_move ho, hp]
/-- ..|| y, where what stands ahead is false. -/
theorem exec_pickF {P : Program} {a : Act} {w : World} {o : Oper} {p q : Nat} {c v : Value} (ho : o.op = .pick (.tmp p) (.const c) (.tmp q)) (hp : a.tmps.getD p undef = .bool false) (hq : a.tmps.getD q undef = v) : (execOp a.eval o).run P w = .ok (.value v) w := by
  rw [Array.getD_eq_getD_getElem?] at hp hq
  simp [execOp, ho, Act.eval, hp, hq, go_sem]
theorem exec_assignV {P : Program} {a : Act} {w : World} {o : Oper} {p : Nat} {v : Value} (ho : o.op = .assign (.tmp p)) (hp : a.tmps.getD p undef = v) : (execOp a.eval o).run P w = .ok (.value v) w := by
  rw [Array.getD_eq_getD_getElem?] at hp
  simp [execOp, ho, Act.eval, hp, go_sem]
end
end Go.Proofs.YthdhdmmlmbkalaaGreatDoor
namespace Go.Proofs.YthdhdmmlmbkalaaGreatDoor
section
open Go.RowKit

section
variable {b : Nat}
end
section
variable {w : World} {u v : Value} {a b K L : Nat}
end
theorem own_lit0 (w : World) (base : Nat) (hb : base ≤ w.heap.size) : Own (w.alloc (.cells #[] 149)) base (.slice (some ⟨w.heap.size, 0, none⟩) 0 0) [] :=
  ⟨Ok.nil, World.ownsRow_lit (base := base) (size := 1) w #[] 0 hb (by unfold maxLen; omega) rfl⟩
set_option maxHeartbeats 800000 in
theorem rnorm_any (A : Option Addr) (n cap : Nat) (xs : List Nat) (w : World) (h : Sl w A n cap xs) (hn : n ≤ 35184372087808) :
    Calls Tryz.prog 83 #[.slice A n cap] w (Gives w (val xs)) := by
  have hm := h.max
  have hl := h.le
  unfold maxLen at hm
  obtain ⟨i0, hi, hz0, hz1, hz2⟩ := info_parts info32
  have H := Lib.hid h
  clear h
  have ho := own_lit0 w w.heap.size (Nat.le_refl _)
  go_enter Tryz.func83, Tryz.ntmps83
  go_wp2_with fail
  go_loop [3] (fun t => ∃ k : Nat, k ≤ n ∧ t = .int .i64 k ∧ Hid (trimL (xs.take k) = trimL xs)) (fun t => (intOf t).toNat)
  case atStart => exact ⟨n, Nat.le_refl _, rfl, by rw [H.out.len, List.take_length]; exact rfl⟩
  case round =>
    obtain ⟨k, hk, rfl, hr⟩ := hrel
    have htk := (H.out.take k hk).alloc (.cells #[] 149)
    have fin : ∀ (v : Value) (w' : World), Own w' w.heap.size v ([] ++ xs.take k) → (w.alloc (.cells #[] 149)).grownBy w' (some w.heap.size) → trimL (xs.take k) = xs.take k → New w' w.heap.size v (limbs (val xs)) ∧ Below w.heap.size w w' := by
      intro v w' h1 h2 h3
      refine ⟨?_, ((Below.refl _ _).alloc (Nat.le_refl _) _).grown h2 (by simp) (fun j hj => by injection hj with hj; omega)⟩
      have e : limbs (val xs) = xs.take k := by rw [← trimL_limbs H.out.ok, ← hr.out, h3]
      rw [e]
      simpa using h1.new
    have FIN := Lib.hid fin
    clear fin
    rcases k with _ | k
    · go_wp2_with (at_builtin; refine wpList_append_limbs rfl (.tmp 18) (.tmp 21) rfl i0 Tryz.underlying22 hi hz0 hz1 hz2 w.heap.size _ [] rfl ho _ _ _ _ rfl htk (by simp) (by simp) ?_; intro v' w1 hown1 hg1)
      go_ret
      obtain ⟨f1, f2⟩ := FIN.out v' w1 hown1 hg1 rfl
      exact ⟨v', rfl, f1, f2⟩
    · obtain ⟨b, off, rfl, hb, hc⟩ := H.out.here (by omega)
      have hck := hc k (by omega)
      have hx := H.out.ok.getD k
      by_cases h0 : lim xs k = 0
      · rw [h0] at hck
        clear hc htk FIN
        go_wp2_with fail
        go_round
        case rel => exact ⟨k, by omega, by go_num, by rw [← hr.out, trimL_take_zero xs k (by have := H.out.len; omega) h0]; exact rfl⟩
        case measure => simp [intOf]
      · have hs := Lib.hid (trimL_take_stop xs k (by have := H.out.len; omega) h0)
        have hz : (((lim xs k : Nat) : Int) == 0) = false := beq_eq_false_iff_ne.2 (by omega)
        clear hc h0
        go_wp2_with (at_builtin; refine wpList_append_limbs rfl (.tmp 18) (.tmp 21) rfl i0 Tryz.underlying22 hi hz0 hz1 hz2 w.heap.size _ [] rfl ho _ _ _ _ rfl htk (by simp; omega) (by simp) ?_; intro v' w1 hown1 hg1)
        go_ret
        obtain ⟨f1, f2⟩ := FIN.out v' w1 hown1 hg1 hs.out
        exact ⟨v', rfl, f1, f2⟩
theorem rnorm_num {w : World} {u : Value} {a K : Nat} (hu : Num w u a K) (hK : K ≤ 35184372087808) : Calls Tryz.prog 83 #[u] w (Gives w a) := by
  obtain ⟨A1, n1, c1, xs, rfl, s1, rfl, k1⟩ := hu
  exact rnorm_any _ _ _ _ _ s1 (by omega)
section
variable {w w' : World} {g : Nat} {s x : Value}
end
section
variable {w : World} {u v : Value} {a b : Int} {K L : Nat}
end
section
variable {w : World} {u v : Value} {a b : Int} {K L : Nat}
end
section
variable {w : World} {u v : Value} {a b : Int} {K L : Nat}
end
section
variable {w : World} {u v : Value} {a b : Int} {K L : Nat}
end
/-- What holds at the head of Text's round: the digits so far, the lowest first; what is left. -/
def RTxt (b n r : Nat) (O : List Nat) (t : ByteArray) : Prop := n = valb b O + b ^ O.length * r ∧ Okb b O ∧ (r = 0 → O = []) ∧ t.data.toList = O.reverse.map chr
theorem RTxt.len {b n r K : Nat} {O : List Nat} {t : ByteArray} (h : RTxt b n r O t) (hb : 2 ≤ b) (hn : n < 4294967296 ^ K) : t.size ≤ 32 * K := by
  have hl : t.size = O.length := by
    have := congrArg List.length h.2.2.2
    simpa using this
  rw [hl]
  rcases Nat.eq_zero_or_pos r with h0 | h0
  · rw [h.2.2.1 h0]; simp
  · have h1 : b ^ O.length ≤ b ^ O.length * r := Nat.le_mul_of_pos_right _ h0
    have h2 : 2 ^ O.length ≤ b ^ O.length := Nat.pow_le_pow_left hb _
    have h3 := h.1
    have h4 : 2 ^ O.length < 2 ^ (32 * K) := by
      rw [Nat.pow_mul]
      have : (2 : Nat) ^ 32 = 4294967296 := by decide
      rw [this]
      omega
    have := (Nat.pow_lt_pow_iff_right (by decide : 1 < 2)).1 h4
    omega
/-- An answer's block lies from lo on, below hi. -/
def Tier (lo hi : Nat) (v : Value) : Prop := ∀ g, v.ownBlock = some g → lo ≤ g ∧ g < hi
theorem Tier.mono {lo hi lo' hi' : Nat} {v : Value} (h : Tier lo hi v) (h1 : lo' ≤ lo) (h2 : hi ≤ hi') : Tier lo' hi' v := fun g hg => by have := h g hg; omega
section
variable {w : World} {u v : Value} {a b : Int} {K L : Nat}
set_option maxHeartbeats 800000 in
theorem rwnorm_num (hu : Wh w u a K) (hK : K ≤ 35184372087808) : Calls Tryz.prog 68 #[u] w (WGives w a) := by
  obtain ⟨s, x, m, rfl, hx, rfl⟩ := hu
  obtain ⟨W, hW, hp, hr, hb⟩ := enter1r w (.bool s) x
  have HN := Lib.hid (rnorm_num (hx.below hb) (by omega))
  have e0 := hp.c0
  have e1 := hp.c1
  rw [hW] at e0 e1
  clear hx
  cases s
  · go_enter Tryz.func68, Tryz.ntmps68
    go_wp2_with fail
    rw [← hW]
    refine HN.out.mono ?_
    rintro e w1 ⟨v, rfl, hv, hb1⟩
    obtain ⟨A, n, c, rfl, hmax, hnm⟩ := hv.nought
    have f0 := (hp.next hb1).c0
    have f1 := (hp.next hb1).c1
    have hr2 := hr.next hb1
    obtain ⟨q1, q2, q3, q4, q5, q6⟩ := hr2.room (.bool false)
    clear e0 e1 hW HN
    go_wp2_with fail
    exact wret rfl rfl rfl hr2 (WNew.of false m hv rfl) hb.size (by omega) (bnext hb hb1)
  · by_cases h0 : m = 0
    · go_enter Tryz.func68, Tryz.ntmps68
      go_wp2_with fail
      rw [← hW]
      refine HN.out.mono ?_
      rintro e w1 ⟨v, rfl, hv, hb1⟩
      obtain ⟨A, n, c, rfl, hmax, hnm⟩ := hv.nought
      obtain rfl : n = 0 := hnm.2 h0
      have f0 := (hp.next hb1).c0
      have f1 := (hp.next hb1).c1
      have hr2 := hr.next hb1
      obtain ⟨q1, q2, q3, q4, q5, q6⟩ := hr2.room (.bool false)
      clear e0 e1 hW HN hnm
      go_wp2_with fail
      exact wret rfl rfl rfl hr2 (WNew.of true m hv (by rw [h0]; rfl)) hb.size (by omega) (bnext hb hb1)
    · go_enter Tryz.func68, Tryz.ntmps68
      go_wp2_with fail
      rw [← hW]
      refine HN.out.mono ?_
      rintro e w1 ⟨v, rfl, hv, hb1⟩
      obtain ⟨A, n, c, rfl, hmax, hnm⟩ := hv.nought
      have hn0 : 0 < n := by omega
      have f0 := (hp.next hb1).c0
      have f1 := (hp.next hb1).c1
      have hr2 := hr.next hb1
      obtain ⟨q1, q2, q3, q4, q5, q6⟩ := hr2.room (.bool true)
      have HM : Hid (0 < m) := Lib.hid (by omega)
      clear e0 e1 hW HN hnm h0
      go_wp2_with fail
      exact wret rfl rfl rfl hr2 (WNew.of true m hv (by rw [decide_eq_true HM.out]; rfl)) hb.size (by omega) (bnext hb hb1)
end
section inv
variable {P : Program} {ops : Array Oper} {Q : Exit → Act → World → Prop}
end inv
variable {ops : Array Oper} {Q : Exit → Act → World → Prop}
section
variable {w : World} {u v : Value} {a b : Int} {K L : Nat}
end
section
variable {w : World} {u v : Value} {a b : Int} {K L : Nat}
end
theorem WNew.nought {w : World} {base : Nat} {b : Bool} {A : Option Addr} {n c : Nat} {z : Int} (h : WNew w base (.agg #[.bool b, .slice A n c]) z) : n ≤ 2 ^ 63 - 1 ∧ (n = 0 ↔ z = 0) := by
  obtain ⟨x, e, hn⟩ := h
  have e' : b = decide (z < 0) ∧ Value.slice A n c = x := by simpa using e
  obtain ⟨A', n', c', e2, hm, h0⟩ := hn.nought
  rw [← e'.2] at e2
  injection e2 with _ e3 _
  subst e3
  exact ⟨hm, h0.trans Int.natAbs_eq_zero⟩
section
variable {w : World} {u v : Value} {a b : Int} {K L : Nat}
end
section
variable {w : World} {u v : Value} {a b : Int} {K L : Nat}
end
end
end Go.Proofs.YthdhdmmlmbkalaaGreatDoor
namespace Go.Proofs.YthdhdmmlmbkalaaGreatDoor
section
open Go.RowKit

set_option maxHeartbeats 800000 in
theorem refSame_yes (A1 : Option Addr) (n c1 : Nat) (A2 : Option Addr) (c2 : Nat) (xs : List Nat) (w : World) (h1 : Sl w A1 n c1 xs) (h2 : Sl w A2 n c2 xs) (hn : n ≤ 35184372087808) :
    Calls Tryz.prog 82 #[.slice A1 n c1, .slice A2 n c2] w fun e w' => e = .returned (.bool true) ∧ Below w.heap.size w w' := by
  have hne : ((n : Int) != (n : Int)) = false := by simp
  go_enter Tryz.func82, Tryz.ntmps82
  go_wp2_with fail
  go_loopw [13] (fun i wr => ∃ k : Nat, k ≤ n ∧ i = .int .i64 k ∧ Below w.heap.size w wr) (fun i _ => n - (intOf i).toNat)
  case atStart => exact ⟨0, by omega, rfl, Below.refl _ _⟩
  case round =>
    obtain ⟨k, hk, rfl, hbel⟩ := hrel
    by_cases hkn : k < n
    · obtain ⟨b1, o1, rfl, _, hc1⟩ := (h1.below hbel).here (by omega)
      obtain ⟨b2, o2, rfl, _, hc2⟩ := (h2.below hbel).here (by omega)
      have g1 := hc1 k hkn
      have g2 := hc2 k hkn
      have i1 : (k : Int) < (n : Int) := by omega
      clear hc1 hc2
      go_wp2_with fail
      go_region
      all_goals
        go_wp2_with fail
        go_roundw
        case rel => exact ⟨k + 1, by omega, by go_num, hbel.drew⟩
        case measure => simp [intOf]; omega
    · go_wp2_with fail
      go_ret
      exact ⟨rfl, hbel⟩
section
variable {w w' : World} {g : Nat} {s x : Value}
end
theorem enter2s (w : World) (s x t y : Value) : ∃ W, W = (w.alloc (.cells #[s, x] 24)).alloc (.cells #[t, y] 24) ∧ Var W w.heap.size s x ∧ Var W (w.heap.size + 1) t y ∧ Below w.heap.size w W := by
  refine ⟨_, rfl, (Var.mk_ _ _ _).alloc _, ?_, bnew (bnew (Below.refl _ _) _) _⟩
  have := Var.mk_ (w.alloc (.cells #[s, x] 24)) t y
  simpa using this
section
variable {w : World} {u v : Value} {a b : Int} {K L : Nat}
end
section
variable {w : World} {u v : Value} {a b : Int} {K L : Nat}
end
section
variable {w : World} {u v : Value} {a b : Int} {K L : Nat}
end
section
variable {w : World} {u v : Value} {a b : Int} {K L : Nat}
set_option maxHeartbeats 400000 in
theorem refSame2_yes (hu : ∃ s A1 c1 A2 c2 n xs, u = .agg #[.bool s, .slice A1 n c1] ∧ v = .agg #[.bool s, .slice A2 n c2] ∧ Sl w A1 n c1 xs ∧ Sl w A2 n c2 xs ∧ n ≤ 35184372087808) :
    Calls Tryz.prog 67 #[u, v] w fun e w' => e = .returned (.bool true) ∧ Below w.heap.size w w' := by
  obtain ⟨s, A1, c1, A2, c2, n, xs, rfl, rfl, h1, h2, hn⟩ := hu
  obtain ⟨W, hW, hp, hq, hb⟩ := enter2s w (.bool s) (.slice A1 n c1) (.bool s) (.slice A2 n c2)
  have HS := Lib.hid (refSame_yes _ _ _ _ _ _ _ (h1.below hb) (h2.below hb) hn)
  have hp0 := hp.c0
  have hp1 := hp.c1
  have hq0 := hq.c0
  have hq1 := hq.c1
  have hss : (s == s) = true := by cases s <;> rfl
  go_enter Tryz.func67, Tryz.ntmps67
  go_wp2_with fail
  rw [← hW]
  refine HS.out.mono ?_
  rintro e w1 ⟨rfl, hb1⟩
  go_wp2_with fail
  go_ret
  exact ⟨rfl, bnext hb hb1⟩
end
section
variable {w : World} {u v : Value} {a b : Int} {K L : Nat}
end
end
end Go.Proofs.YthdhdmmlmbkalaaGreatDoor
