/-
  The slice for Same of pavaneref03
-/
import Derived.Test.YtlohdglhebplfaaGreatDoorNum
import Derived.Test.YtlohdglhebplfaaGreatDoorMem
import Derived.Test.YtlohdglhebplfaaGreatDoorNw
import Derived.Test.YtlohdglhebplfaaGreatDoorRg
import Derived.Test.YtlohdglhebplfaaGreatDoorRpz
import Derived.Test.YtlohdglhebplfaaGreatDoorTr
import Derived.Test.YtlohdglhebplfaaGreatDoorHeld
import Derived.Test.YtlohdglhebplfaaGreatDoorOd
import Derived.Test.YtlohdglhebplfaaGreatDoorBud
import Derived.Test.YtlohdglhebplfaaGreatDoorSmF
import Derived.Test.YtlohdglhebplfaaGreatDoorTold
import Derived.Test.YtlohdglhebplfaaGreatDoorRnd
import Derived.Test.YtlohdglhebplfaaGreatDoorMeas
import Derived.Test.YtlohdglhebplfaaGreatDoorNrm
import Derived.Test.YtlohdglhebplfaaGreatDoorLeaf
import Derived.Test.YtlohdglhebplfaaGreatDoorNl
import Derived.Test.YtlohdglhebplfaaGreatDoorAll
import Derived.Test.YtlohdglhebplfaaGreatDoorDt
import Derived.Test.YtlohdglhebplfaaGreatDoorPln
import Derived.Test.YtlohdglhebplfaaGreatDoorBld
import Derived.Test.YtlohdglhebplfaaGreatDoorEsc
import Derived.Test.YtlohdglhebplfaaGreatDoorBetw
import Derived.Test.YtlohdglhebplfaaGreatDoorPlain
import Derived.Test.YtlohdglhebplfaaGreatDoorShf
import Derived.Test.YtlohdglhebplfaaGreatDoorRda
import Derived.Test.YtlohdglhebplfaaGreatDoorRds
import Derived.Test.YtlohdglhebplfaaGreatDoorRdx1
import Derived.Test.YtlohdglhebplfaaGreatDoorRde
import Derived.Test.YtlohdglhebplfaaGreatDoorRdf
import Derived.Test.YtlohdglhebplfaaGreatDoorRdg
import Derived.Test.YtlohdglhebplfaaGreatDoorRdh
import Derived.Test.YtlohdglhebplfaaGreatDoorRdi
import Derived.Test.YtlohdglhebplfaaGreatDoorNgl
import Derived.Test.YtlohdglhebplfaaGreatDoorNg
import Derived.Test.YtlohdglhebplfaaGreatDoorRdx7
import Derived.Test.YtlohdglhebplfaaGreatDoorRdx2
import Derived.Test.YtlohdglhebplfaaGreatDoorDng
import Derived.Test.YtlohdglhebplfaaGreatDoorRdx3
import Derived.Test.YtlohdglhebplfaaGreatDoorRdx4
import Derived.Test.YtlohdglhebplfaaGreatDoorRdq
import Derived.Test.YtlohdglhebplfaaGreatDoorRdr
import Derived.Test.YtlohdglhebplfaaGreatDoorRdt
import Derived.Test.YtlohdglhebplfaaGreatDoorRdu
import Derived.Test.YtlohdglhebplfaaGreatDoorRdv
import Derived.Deep.RegionLaw
import Derived.Test.YtlohdglhebplfaaGreatDoorChecked
import Derived.Outline
import Derived.Deep.RegionHeld3
import Derived.TacticsInMore
import Derived.LoopIn
import Derived.Orders
import Derived.Laws.BitsAllLaws
import Derived.Deep.LoopGhost
import Derived.BigRegion
import Derived.Laws.IdiomStrings
import Derived.Lib.BufferRead
import Derived.Deep.QuietTactic
import Derived.BigQuiet
import Derived.Shelf.Small.Bits
import Derived.WalkMore
import Derived.WideShapes
namespace Go.Proofs.YtlohdglhebplfaaGreatDoor
open Go.RowKit

section
variable {w w' : World} {g : Nat} {s x : Value}
end
section
variable {w : World} {u v : Value} {a b : Int} {K L : Nat}
end
section
variable {w : World} {u v : Value} {a b : Int} {K L : Nat}
end
section
variable {w : World} {u v : Value} {a b : Int} {K L : Nat}
end
section
variable {w : World} {u v : Value} {a b : Int} {K L : Nat}
end
section
variable {w : World} {u v : Value} {a b : Int} {K L : Nat}
end
/-- A number's datum: nothing in it. -/
def NumT (u : LT) : Prop := u.k = 1 ∧ u.items = [] ∧ u.tail = [] ∧ u.ln ≤ 1000
theorem NumT.size {u : LT} (h : NumT u) : u.size = 1 := by rw [u.size_eq, h.2.1, h.2.2.1]; rfl
/-- It lies there still. -/
theorem Held.on {w w' : World} {t : LT} (h : Held w w.heap.size t) (hb : Below w.heap.size w w') : Held w' w'.heap.size t := (h.below (Nat.le_refl _) hb).upP hb.size
section
variable {w : World} {u v : Value} {a b K L : Nat}
end
section
variable {w w' : World} {g : Nat} {s x : Value}
end
theorem enter2 (w : World) (s x t y : Value) : ∃ W, W = (w.alloc (.cells #[s, x] 29)).alloc (.cells #[t, y] 29) ∧ Var W w.heap.size s x ∧ Var W (w.heap.size + 1) t y ∧ Below w.heap.size w W := by
  refine ⟨_, rfl, (Var.mk_ _ _ _).alloc _, ?_, bnew (bnew (Below.refl _ _) _) _⟩
  have := Var.mk_ (w.alloc (.cells #[s, x] 29)) t y
  simpa using this
section
variable {w : World} {u v : Value} {a b : Int} {K L : Nat}
end
section
variable {w : World} {u v : Value} {a b : Int} {K L : Nat}
end
section
variable {w : World} {u v : Value} {a b : Int} {K L : Nat}
end
section
variable {w : World} {u v : Value} {a b : Int} {K L : Nat}
end
section
variable {w : World} {u v : Value} {a b : Int} {K L : Nat}
end
theorem size_in : ∀ (l : List LT) (k : Nat) (h : k < l.length), l[k].size ≤ sizes l
  | t :: l, 0, h => by simp only [List.getElem_cons_zero, sizes]; omega
  | t :: l, k + 1, h => by
    have := size_in l k (by simpa using h)
    simp only [List.getElem_cons_succ, sizes]
    omega
attribute [local go_sem] Oper.semAt_some
section inv
variable {P : Program} {ops : Array Oper} {Q : Exit → Act → World → Prop}
/-- Each operation waits for earlier ones alone. -/
def Rising (ops : Array Oper) : Bool := (List.range ops.size).all fun i => ((ops[i]?).map (fun o => o.after.all fun e => !Region.binds .any e || decide (e.on < i))).getD true
theorem Rising.lt {i : Nat} {o : Oper} {e : Edge} (h : Rising ops = true) (ho : ops[i]? = some o) (he : e ∈ o.after) (hb : Region.binds .any e = true) : e.on < i := by
  have hi : i < ops.size := by
    rcases Nat.lt_or_ge i ops.size with h1 | h1
    · exact h1
    · rw [Array.getElem?_eq_none h1] at ho; cases ho
  have h2 := List.all_eq_true.1 h i (List.mem_range.2 hi)
  rw [ho, Option.map_some, Option.getD_some, Array.all_eq_true'] at h2
  have h3 := h2 e he
  rw [hb] at h3
  simpa using h3
theorem ready_none {listed : Array Bool} (hr : Rising ops = true) (h : Region.ready .any ops listed = []) (hs : listed.size = ops.size) : ∀ i, i < ops.size → listed.getD i false = true := by
  intro i
  induction i using Nat.strongRecOn with
  | _ i ih =>
    intro hi
    apply Classical.byContradiction
    intro hn
    have ho : ops[i]? = some ops[i] := Array.getElem?_eq_getElem hi
    have hm : i ∈ Region.ready .any ops listed := mem_ready.2 ⟨by
      have h1 : i < listed.size := by omega
      rw [Array.getD_eq_getD_getElem?, Array.getElem?_eq_getElem h1, Option.getD_some] at hn ⊢
      simpa using hn, _, ho, fun e he hb => by
      have := Rising.lt hr ho he hb
      exact ih e.on this (by omega)⟩
    rw [h] at hm
    cases hm
theorem listed_set {listed : Array Bool} {i : Nat} (hi : i < listed.size) : (fun j => (listed.setIfInBounds i true).getD j false) = fun j => listed.getD j false || j == i := by
  funext j
  rw [Array.getD_eq_getD_getElem?, Array.getD_eq_getD_getElem?, Array.getElem?_setIfInBounds]
  by_cases h : i = j
  · subst h; simp [hi]
  · rw [if_neg h]
    have : (j == i) = false := by simpa using fun h1 : j = i => h h1.symm
    rw [this, Bool.or_false]
theorem count_set {listed : Array Bool} {i : Nat} (h : listed.getD i true = false) : (listed.setIfInBounds i true).toList.count false + 1 = listed.toList.count false := by
  have hi : i < listed.size := by
    rcases Nat.lt_or_ge i listed.size with h1 | h1
    · exact h1
    · rw [Array.getD_eq_getD_getElem?, Array.getElem?_eq_none h1] at h; cases h
  rw [Array.getD_eq_getD_getElem?, Array.getElem?_eq_getElem hi, Option.getD_some] at h
  rw [Array.toList_setIfInBounds, List.count_set (by simpa using hi)]
  have h2 : listed.toList[i] = false := by simpa using h
  have h3 : 0 < listed.toList.count false := List.count_pos_iff.2 (by rw [← h2]; exact List.getElem_mem _)
  rw [h2, if_pos (by rfl), if_neg (by decide)]
  omega
theorem wpAny_inv (hr : Rising ops = true) (I : (Nat → Bool) → Act → World → Prop)
    (step : ∀ l a w i oi, ops[i]? = some oi → l i = false → (∀ e ∈ oi.after, Region.binds .any e = true → l e.on = true) → I l a w → wpOp P ops Q i (I (fun j => l j || j == i)) a w)
    (done : ∀ l a w, (∀ i, i < ops.size → l i = true) → I l a w → Q .normal a w) :
    ∀ (fuel : Nat) (listed : Array Bool) (a : Act) (w : World), listed.size = ops.size → listed.toList.count false ≤ fuel → I (fun j => listed.getD j false) a w → wpAny P .any ops Q fuel listed a w := by
  intro fuel
  induction fuel with
  | zero =>
    intro listed a w hs hc hI
    have hz : ∀ i, i < ops.size → listed.getD i false = true := by
      intro i hi
      have h1 : i < listed.size := by omega
      rw [Array.getD_eq_getD_getElem?, Array.getElem?_eq_getElem h1, Option.getD_some]
      cases hb : listed[i] with
      | true => rfl
      | false =>
        have h2 : false ∈ listed.toList := by rw [← hb, ← Array.getElem_toList h1]; exact List.getElem_mem _
        have := List.count_pos_iff.2 h2
        omega
    refine ⟨?_, done _ _ _ hz hI⟩
    apply List.eq_nil_iff_forall_not_mem.2
    intro i hi
    obtain ⟨h1, o, ho, -⟩ := mem_ready.1 hi
    have hlt : i < ops.size := by
      rcases Nat.lt_or_ge i ops.size with h1 | h1
      · exact h1
      · rw [Array.getElem?_eq_none h1] at ho; cases ho
    have h2 := hz i hlt
    have h3 : i < listed.size := by omega
    rw [Array.getD_eq_getD_getElem?, Array.getElem?_eq_getElem h3, Option.getD_some] at h1 h2
    rw [h1] at h2; cases h2
  | succ fuel ih =>
    intro listed a w hs hc hI
    refine ⟨fun h0 => done _ _ _ (ready_none hr h0 hs) hI, fun i hi => ?_⟩
    obtain ⟨h1, o, ho, he⟩ := mem_ready.1 hi
    have hlt : i < listed.size := by
      rcases Nat.lt_or_ge i listed.size with h2 | h2
      · exact h2
      · rw [Array.getD_eq_getD_getElem?, Array.getElem?_eq_none h2] at h1; cases h1
    have h1' : listed.getD i false = false := by
      rw [Array.getD_eq_getD_getElem?, Array.getElem?_eq_getElem hlt, Option.getD_some] at h1 ⊢
      exact h1
    refine wpOp_mono (fun a' w' hI' => ?_) (step _ a w i o ho h1' he hI)
    refine ih _ a' w' (by simpa using hs) (by have := count_set h1; omega) ?_
    rw [listed_set hlt]
    exact hI'
theorem wp_region_inv {id : Nat} {a : Act} {w : World} (hm : P.follows .mixedOrders = true) (hr : Rising ops = true) (I : (Nat → Bool) → Act → World → Prop)
    (h0 : I (fun _ => false) a w.drew)
    (step : ∀ l a w i oi, ops[i]? = some oi → l i = false → (∀ e ∈ oi.after, Region.binds .any e = true → l e.on = true) → I l a w → wpOp P ops Q i (I (fun j => l j || j == i)) a w)
    (done : ∀ l a w, (∀ i, i < ops.size → l i = true) → I l a w → Q .normal a w) : (Code.region id ops true).wp P Q a w := by
  refine wp_region_any hm (wpAny_inv hr I step done ops.size _ a _ (by simp) ?_ ?_)
  · simp
  · have : (fun j => (Array.replicate ops.size false).getD j false) = fun _ => false := by
      funext j
      rw [Array.getD_eq_getD_getElem?, Array.getElem?_replicate]
      split <;> rfl
    rw [this]
    exact h0
end inv
theorem exec_call {P : Program} {a : Act} {w : World} {o : Oper} {f p : Nat} {T : TypeId} (ho : o.op = .call { callee := .value (.func f), args := #[.tmp p], argTypes := #[T] }) :
    (execOp a.eval o).run P w = (callFunc f #[a.tmps.getD p undef]).run P w := by
  simp [execOp, ho, Act.eval, go_sem]
variable {ops : Array Oper} {Q : Exit → Act → World → Prop}
theorem put_get {a : Act} {d n : Nat} {v : Value} (hd : d < a.tmps.size) : (a.put (some d) v).tmps.getD n undef = if n = d then v else a.tmps.getD n undef := by
  unfold Act.put
  simp only [Array.getD_eq_getD_getElem?, Array.getElem?_setIfInBounds]
  by_cases h : d = n
  · subst h; simp [hd]
  · rw [if_neg h, if_neg (fun e => h e.symm)]
section inv
variable {P : Program} {ops : Array Oper} {Q : Exit → Act → World → Prop}
/-- Operation i waits for operation j. -/
def Waits (ops : Array Oper) (i j : Nat) : Bool := ((ops[i]?).map (fun o => o.after.any fun e => Region.binds .any e && (e.on == j))).getD false
theorem Waits.listed {i j : Nat} {o : Oper} {l : Nat → Bool} (h : Waits ops i j = true) (ho : ops[i]? = some o) (he : ∀ e ∈ o.after, Region.binds .any e = true → l e.on = true) : l j = true := by
  unfold Waits at h
  rw [ho, Option.map_some, Option.getD_some, Array.any_eq_true'] at h
  obtain ⟨e, hm, hk⟩ := h
  rw [Bool.and_eq_true] at hk
  have h2 := he e hm hk.1
  rw [beq_iff_eq.1 hk.2] at h2
  exact h2
/-- Operation i waits for operation j, or for one that does. -/
def WaitsT (ops : Array Oper) : Nat → Nat → Nat → Bool
  | 0, i, j => Waits ops i j
  | n + 1, i, j => Waits ops i j || (List.range i).any fun k => Waits ops i k && WaitsT ops n k j
/-- What has come up had all that it waits for. -/
def Whole (ops : Array Oper) (l : Nat → Bool) : Prop := ∀ i o, ops[i]? = some o → l i = true → ∀ e ∈ o.after, Region.binds .any e = true → l e.on = true
theorem Waits.some {i j : Nat} (h : Waits ops i j = true) : ∃ o, ops[i]? = some o := by
  unfold Waits at h
  cases ho : ops[i]? with
  | none => rw [ho] at h; cases h
  | some o => exact ⟨o, rfl⟩
theorem WaitsT.listed {l : Nat → Bool} (hw : Whole ops l) : ∀ (n i j : Nat) (o : Oper), WaitsT ops n i j = true → ops[i]? = some o → (∀ e ∈ o.after, Region.binds .any e = true → l e.on = true) → l j = true := by
  intro n
  induction n with
  | zero => intro i j o h ho he; exact Waits.listed h ho he
  | succ n ih =>
    intro i j o h ho he
    unfold WaitsT at h
    rcases Bool.or_eq_true_iff.1 h with h1 | h1
    · exact Waits.listed h1 ho he
    · obtain ⟨k, -, hk⟩ := List.any_eq_true.1 h1
      rw [Bool.and_eq_true] at hk
      have hlk := Waits.listed hk.1 ho he
      have hso : ∃ ok, ops[k]? = some ok := by
        cases n with
        | zero => exact Waits.some hk.2
        | succ m =>
          have h2 := hk.2
          unfold WaitsT at h2
          rcases Bool.or_eq_true_iff.1 h2 with h3 | h3
          · exact Waits.some h3
          · obtain ⟨k', -, hk'⟩ := List.any_eq_true.1 h3
            rw [Bool.and_eq_true] at hk'
            exact Waits.some hk'.1
      obtain ⟨ok, hok⟩ := hso
      exact ih k j ok hk.2 hok (hw k ok hok hlk)
/-- Operation i waits for all before it. -/
def WaitsAll (ops : Array Oper) (i : Nat) : Bool := (List.range i).all fun j => WaitsT ops 6 i j
theorem WaitsAll.listed {i : Nat} {o : Oper} {l : Nat → Bool} (hw : Whole ops l) (h : WaitsAll ops i = true) (ho : ops[i]? = some o) (he : ∀ e ∈ o.after, Region.binds .any e = true → l e.on = true) : ∀ j, j < i → l j = true := by
  intro j hj
  exact WaitsT.listed hw 6 i j o (List.all_eq_true.1 h j (List.mem_range.2 hj)) ho he
/-- The state of a region's first part: what has come up has its value. -/
structure PhaseI (nA : Nat) (dst : Nat → Nat) (A : Nat → World → Value → Prop) (a0 : Act) (w0 : World) (l : Nat → Bool) (a : Act) (w : World) : Prop where
  defers : a.defers = a0.defers
  size : a.tmps.size = a0.tmps.size
  other : ∀ n, (∀ j, j < nA → n ≠ dst j) → a.tmps.getD n undef = a0.tmps.getD n undef
  below : Below w0.heap.size w0 w
  val : ∀ i, i < nA → l i = true → A i w (a.tmps.getD (dst i) undef)
/-- A region of two parts: the first's operations make values, and change nothing that was there; each of the second part waits for all before it. -/
theorem wp_region_phases {id nA : Nat} {a0 : Act} {w0 : World} (hm : P.follows .mixedOrders = true) (hr : Rising ops = true) (dst : Nat → Nat) (A : Nat → World → Value → Prop)
    (hnA : nA ≤ ops.size) (hw : ((List.range (ops.size - nA)).all fun k => WaitsAll ops (nA + k)) = true)
    (hinj : ∀ i j, i < nA → j < nA → dst i = dst j → i = j)
    (hds : ∀ i, i < nA → dst i < a0.tmps.size)
    (stable : ∀ i, i < nA → ∀ w w' v, A i w v → Below w.heap.size w w' → A i w' v)
    (step : ∀ i, i < nA → ∀ l a w, PhaseI nA dst A a0 w0 l a w → (∀ j, Waits ops i j = true → l j = true) → wpOp P ops Q i (fun a' w' => ∃ v, a' = a.put (some (dst i)) v ∧ A i w' v ∧ Below w.heap.size w w') a w)
    (fin : ∀ a w, a.defers = a0.defers → a.tmps.size = a0.tmps.size → (∀ n, (∀ j, j < nA → n ≠ dst j) → a.tmps.getD n undef = a0.tmps.getD n undef) → (∀ i, i < nA → A i w (a.tmps.getD (dst i) undef)) → Below w0.heap.size w0 w → wpOps P ops Q (List.range' nA (ops.size - nA)) a w) :
    (Code.region id ops true).wp P Q a0 w0 := by
  refine wp_region_inv hm hr (fun l a w => Whole ops l ∧ (((∀ j, nA ≤ j → l j = false) ∧ PhaseI nA dst A a0 w0 l a w) ∨ (∃ k, nA < k ∧ k ≤ ops.size ∧ (∀ j, j < k → l j = true) ∧ (∀ j, k ≤ j → l j = false) ∧ wpOps P ops Q (List.range' k (ops.size - k)) a w))) ?_ ?_ ?_
  · exact ⟨(fun i o ho h => by cases h), .inl ⟨fun _ _ => rfl, rfl, rfl, fun _ _ => rfl, (Below.refl _ _).drew, fun _ _ h => by cases h⟩⟩
  · intro l a w i oi ho hl he hI
    obtain ⟨hwl, hI⟩ := hI
    have hwl' : Whole ops (fun j => l j || j == i) := by
      intro j o hj hlj e hee hbe
      show (l e.on || e.on == i) = true
      have hlj : (l j || j == i) = true := hlj
      rcases Bool.or_eq_true_iff.1 hlj with h1 | h1
      · rw [hwl j o hj h1 e hee hbe, Bool.true_or]
      · rw [beq_iff_eq.1 h1, ho] at hj
        injection hj with hj
        subst hj
        rw [he e hee hbe, Bool.true_or]
    have hi : i < ops.size := by
      rcases Nat.lt_or_ge i ops.size with h1 | h1
      · exact h1
      · rw [Array.getElem?_eq_none h1] at ho; cases ho
    have hwi : nA ≤ i → WaitsAll ops i = true := fun h => by
      have := List.all_eq_true.1 hw (i - nA) (List.mem_range.2 (by omega))
      rwa [show nA + (i - nA) = i by omega] at this
    have next : ∀ k, k < ops.size → List.range' k (ops.size - k) = k :: List.range' (k + 1) (ops.size - (k + 1)) := fun k hk => by
      rw [show ops.size - k = (ops.size - (k + 1)) + 1 by omega, List.range'_succ]
    rcases hI with ⟨hB, I⟩ | ⟨k, hk1, hk2, hk3, hk4, hk5⟩
    · by_cases hiA : i < nA
      · refine wpOp_mono ?_ (step i hiA l a w I (fun j hj => Waits.listed hj ho he))
        rintro a' w' ⟨v, rfl, hv, hb⟩
        refine ⟨hwl', .inl ⟨fun j hj => ?_, I.defers, by simp [Act.put, I.size], fun n hn => ?_, I.below.trans (hb.mono I.below.size), fun j hj hlj => ?_⟩⟩
        · show (l j || j == i) = false
          rw [hB j hj, Bool.false_or]; simpa using fun e : j = i => by omega
        · have : n ≠ dst i := hn i hiA
          rw [← I.other n hn]
          unfold Act.put
          simp only [Array.getD_eq_getD_getElem?, Array.getElem?_setIfInBounds]
          rw [if_neg (fun e => this e.symm)]
        · unfold Act.put
          simp only [Array.getD_eq_getD_getElem?, Array.getElem?_setIfInBounds]
          by_cases e : j = i
          · subst e
            rw [if_pos rfl, if_pos (by rw [I.size]; exact hds j hj)]
            exact hv
          · rw [if_neg (fun e' => e (hinj j i hj hiA e'.symm))]
            have hlj' : l j = true := by
              have : (j == i) = false := by simpa using e
              simpa [this] using hlj
            have := stable j hj w w' _ (I.val j hj hlj') hb
            rwa [Array.getD_eq_getD_getElem?] at this
      · have hall := WaitsAll.listed hwl (hwi (by omega)) ho he
        have hin : i = nA := by
          rcases Nat.lt_or_ge nA i with h1 | h1
          · have := hall nA h1; rw [hB nA (Nat.le_refl _)] at this; cases this
          · omega
        subst hin
        have hf := fin a w I.defers I.size I.other (fun j hj => I.val j hj (hall j hj)) I.below
        rw [next i hi, wpOps_cons] at hf
        refine wpOp_mono ?_ hf
        intro a' w' h'
        refine ⟨hwl', .inr ⟨i + 1, by omega, by omega, fun j hj => ?_, fun j hj => ?_, h'⟩⟩
        · by_cases e : j = i
          · simp [e]
          · show (l j || j == i) = true
            rw [hall j (by omega), Bool.true_or]
        · show (l j || j == i) = false
          rw [hB j (by omega), Bool.false_or]; simpa using fun e : j = i => by omega
    · have hik : i = k := by
        have h1 : k ≤ i := by
          rcases Nat.lt_or_ge i k with h2 | h2
          · rw [hk3 i h2] at hl; cases hl
          · exact h2
        have hall := WaitsAll.listed hwl (hwi (by omega)) ho he
        rcases Nat.lt_or_ge k i with h2 | h2
        · have := hall k h2; rw [hk4 k (Nat.le_refl _)] at this; cases this
        · omega
      subst hik
      rw [next i hi, wpOps_cons] at hk5
      refine wpOp_mono ?_ hk5
      intro a' w' h'
      refine ⟨hwl', .inr ⟨i + 1, by omega, by omega, fun j hj => ?_, fun j hj => ?_, h'⟩⟩
      · by_cases e : j = i
        · simp [e]
        · show (l j || j == i) = true
          rw [hk3 j (by omega), Bool.true_or]
      · show (l j || j == i) = false
        rw [hk4 j (by omega), Bool.false_or]; simpa using fun e : j = i => by omega
  · intro l a w hl hI
    replace hI := hI.2
    rcases hI with ⟨hB, I⟩ | ⟨k, hk1, hk2, hk3, hk4, hk5⟩
    · have hz : nA = ops.size := by
        rcases Nat.lt_or_ge nA ops.size with h1 | h1
        · have := hl nA h1; rw [hB nA (Nat.le_refl _)] at this; cases this
        · omega
      have hf := fin a w I.defers I.size I.other (fun j hj => I.val j hj (hl j (by omega))) I.below
      rw [hz, Nat.sub_self] at hf
      exact hf
    · have hz : k = ops.size := by
        rcases Nat.lt_or_ge k ops.size with h1 | h1
        · have := hl k h1; rw [hk4 k (Nat.le_refl _)] at this; cases this
        · omega
      rw [hz, Nat.sub_self] at hk5
      exact hk5
end inv
theorem exec_call2 {P : Program} {a : Act} {w : World} {o : Oper} {f p q : Nat} {T T' : TypeId} (ho : o.op = .call { callee := .value (.func f), args := #[.tmp p, .tmp q], argTypes := #[T, T'] }) :
    (execOp a.eval o).run P w = (callFunc f #[a.tmps.getD p undef, a.tmps.getD q undef]).run P w := by
  simp [execOp, ho, Act.eval, go_sem]
theorem act_ext {a b : Act} (hd : a.defers = b.defers) (hs : a.tmps.size = b.tmps.size) (h : ∀ n, a.tmps.getD n undef = b.tmps.getD n undef) : a = b := by
  obtain ⟨x, d⟩ := a
  obtain ⟨y, d'⟩ := b
  dsimp only at hd hs h
  subst hd
  rw [Act.mk.injEq]
  refine ⟨Array.ext hs fun i h1 h2 => ?_, rfl⟩
  have := h i
  rw [Array.getD_eq_getD_getElem?, Array.getD_eq_getD_getElem?, Array.getElem?_eq_getElem h1, Array.getElem?_eq_getElem h2] at this
  exact this
theorem fold_pairs {a : Act} (ps : List (Nat × Value)) (b : Act) (hds : ∀ p ∈ ps, p.1 < b.tmps.size) (hval : ∀ p ∈ ps, a.tmps.getD p.1 undef = p.2) :
    (ps.foldl (fun b p => b.put (some p.1) p.2) b).defers = b.defers ∧ (ps.foldl (fun b p => b.put (some p.1) p.2) b).tmps.size = b.tmps.size ∧
    ∀ n, (ps.foldl (fun b p => b.put (some p.1) p.2) b).tmps.getD n undef = if n ∈ ps.map (·.1) then a.tmps.getD n undef else b.tmps.getD n undef := by
  induction ps generalizing b with
  | nil => exact ⟨rfl, rfl, fun n => by simp⟩
  | cons p ps ih =>
    have hi := hds p (by simp)
    have hs : (b.put (some p.1) p.2).tmps.size = b.tmps.size := by simp [Act.put]
    obtain ⟨h1, h2, h3⟩ := ih (b.put (some p.1) p.2) (fun q hq => by rw [hs]; exact hds q (by simp [hq])) (fun q hq => hval q (by simp [hq]))
    refine ⟨h1, h2.trans hs, fun n => ?_⟩
    rw [List.foldl_cons, h3 n, put_get hi, List.map_cons]
    by_cases hn : n ∈ ps.map (·.1)
    · rw [if_pos hn, if_pos (List.mem_cons_of_mem _ hn)]
    · rw [if_neg hn]
      by_cases e : n = p.1
      · rw [if_pos e, if_pos (by rw [e]; exact List.mem_cons_self), e]; exact (hval p (by simp)).symm
      · rw [if_neg e, if_neg (by rw [List.mem_cons]; exact fun h => h.elim e hn)]
/-- The frame behind a region's first part, written out. -/
theorem tower_pairs {a a0 : Act} (ps : List (Nat × Value)) (hds : ∀ p ∈ ps, p.1 < a0.tmps.size) (hval : ∀ p ∈ ps, a.tmps.getD p.1 undef = p.2) (hdf : a.defers = a0.defers) (hsize : a.tmps.size = a0.tmps.size)
    (hoth : ∀ n, (∀ p ∈ ps, n ≠ p.1) → a.tmps.getD n undef = a0.tmps.getD n undef) : a = ps.foldl (fun b p => b.put (some p.1) p.2) a0 := by
  obtain ⟨h1, h2, h3⟩ := fold_pairs ps a0 hds hval
  refine act_ext (hdf.trans h1.symm) (hsize.trans h2.symm) fun n => ?_
  rw [h3 n]
  by_cases hn : n ∈ ps.map (·.1)
  · rw [if_pos hn]
  · rw [if_neg hn]
    refine hoth n fun p hp e => hn ?_
    rw [e]
    exact List.mem_map.2 ⟨p, hp, rfl⟩
theorem exec_move {P : Program} {a : Act} {w : World} {o : Oper} {p : Nat} (ho : o.op = .move (.tmp p)) : (execOp a.eval o).run P w = .ok (.value (a.tmps.getD p undef)) w := by
  simp [execOp, ho, Act.eval, go_sem]
section inv
variable {P : Program} {ops : Array Oper} {Q : Exit → Act → World → Prop}
end inv
/-- Seven cells of a datum. -/
def Seven (w : World) (b o : Nat) (u : LT) : Prop := ∀ j v, u.cells[j]? = some v → w.cell? ⟨b, o + j, none⟩ = some v
theorem exec_loadD {a : Act} {w : World} {o : Oper} {p b off : Nat} {u : LT} (ho : o.op = .load 31 (.tmp p)) (ht : a.tmps.getD p undef = .pointer (some ⟨b, off, none⟩)) (hc : Seven w b off u) :
    (execOp a.eval o).run Tryz.prog w = .ok (.value (.agg #[.int .i64 u.k, .bool u.g, .slice u.la u.ln u.lc, .bool u.bb, .string u.s, .slice u.ia u.items.length u.ic, .slice u.ta u.tail.length u.tc])) w := by
  have c0 : w.cell? ⟨b, off, none⟩ = some (.int .i64 u.k) := hc 0 _ rfl
  have c1 : w.cell? ⟨b, off + 1, none⟩ = some (.bool u.g) := hc 1 _ rfl
  have c2 : w.cell? ⟨b, off + 2, none⟩ = some (.slice u.la u.ln u.lc) := hc 2 _ rfl
  have c3 : w.cell? ⟨b, off + 3, none⟩ = some (.bool u.bb) := hc 3 _ rfl
  have c4 : w.cell? ⟨b, off + 4, none⟩ = some (.string u.s) := hc 4 _ rfl
  have c5 : w.cell? ⟨b, off + 5, none⟩ = some (.slice u.ia u.items.length u.ic) := hc 5 _ rfl
  have c6 : w.cell? ⟨b, off + 6, none⟩ = some (.slice u.ta u.tail.length u.tc) := hc 6 _ rfl
  rw [Array.getD_eq_getD_getElem?] at ht
  simp [execOp, ho, Act.eval, ht, go_sem, c0, c1, c2, c3, c4, c5, c6]
theorem exec_loadS {a : Act} {w : World} {o : Oper} {p b off n c : Nat} {A : Option Addr} (ho : o.op = .load 23 (.tmp p)) (ht : a.tmps.getD p undef = .pointer (some ⟨b, off, none⟩)) (hc : w.cell? ⟨b, off, none⟩ = some (.slice A n c)) :
    (execOp a.eval o).run Tryz.prog w = .ok (.value (.slice A n c)) w := by
  rw [Array.getD_eq_getD_getElem?] at ht
  simp [execOp, ho, Act.eval, ht, go_sem, hc]
theorem exec_fld {a : Act} {w : World} {o : Oper} {p b : Nat} (ho : o.op = .fieldAddr 31 (.tmp p) 4) (ht : a.tmps.getD p undef = .pointer (some ⟨b, 0, none⟩)) :
    (execOp a.eval o).run Tryz.prog w = .ok (.value (.pointer (some ⟨b, 5, none⟩))) w := by
  rw [Array.getD_eq_getD_getElem?] at ht
  simp [execOp, ho, Act.eval, ht, go_sem]
theorem exec_fld5 {a : Act} {w : World} {o : Oper} {p b : Nat} (ho : o.op = .fieldAddr 31 (.tmp p) 5) (ht : a.tmps.getD p undef = .pointer (some ⟨b, 0, none⟩)) :
    (execOp a.eval o).run Tryz.prog w = .ok (.value (.pointer (some ⟨b, 6, none⟩))) w := by
  rw [Array.getD_eq_getD_getElem?] at ht
  simp [execOp, ho, Act.eval, ht, go_sem]
section
variable {P : Program} {ops : Array Oper} {Q : Exit → Act → World → Prop} {i : Nat} {o : Oper} {a : Act} {w w' : World} {K : Act → World → Prop}
end
theorem Seven.of {w : World} {b : Nat} {u : LT} (h : w.heap[b]? = some (Obj.cells #[.int .i64 u.k, .bool u.g, .slice u.la u.ln u.lc, .bool u.bb, .string u.s, .slice u.ia u.items.length u.ic, .slice u.ta u.tail.length u.tc] 31)) : Seven w b 0 u := fun j v hj => by rw [Lib.cell_of_heap h, Nat.zero_add, List.getElem?_toArray]; exact hj
section inv
variable {P : Program} {ops : Array Oper} {Q : Exit → Act → World → Prop}
theorem wanted_yes {j d : Nat} {b : Bool} {o oj : Oper} {a : Act} (hg : o.guard = some (j, b)) (hj : ops[j]? = some oj) (hd : oj.dst = some d) (hs : d < a.tmps.size) (hv : a.tmps.getD d undef = .bool b) : Region.wanted o (yielded ops a.tmps) = true := by
  rw [Array.getD_eq_getD_getElem?, Array.getElem?_eq_getElem hs, Option.getD_some] at hv
  simp [Region.wanted, hg, yielded, hj, hd, Array.getElem?_eq_getElem hs, hv]
theorem wpOp_want {i : Nat} {o : Oper} {a : Act} {w : World} {K : Act → World → Prop} (ho : ops[i]? = some o) (hw : Region.wanted o (yielded ops a.tmps) = true) (h : o.wp P a w K Q) : wpOp P ops Q i K a w := by
  unfold wpOp
  rw [ho]
  simp only [hw, if_true]
  exact .inl h
end inv
section
variable {P : Program} {ops : Array Oper} {Q : Exit → Act → World → Prop} {i : Nat} {o : Oper} {a : Act} {w w' : World} {K : Act → World → Prop}
theorem wpOp_valW {v : Value} (ho : ops[i]? = some o) (hw : Region.wanted o (yielded ops a.tmps) = true) (hr : (execOp a.eval o).run P w = .ok (.value v) w') (h : K (a.put o.dst v) w') : wpOp P ops Q i K a w := by
  refine wpOp_want ho hw ?_
  unfold Oper.wp
  rw [hr, Oper.upon_value]
  exact h
theorem wpOp_callW {f : Nat} {args : Array Value} {R : Ending → World → Prop} (ho : ops[i]? = some o) (hw : Region.wanted o (yielded ops a.tmps) = true) (hr : (execOp a.eval o).run P w = (callFunc f args).run P w) (he : (callFunc f args).run P w = .ok (.enter f args) w) (hc : Calls P f args w R) (h : ∀ e w', R e w' → ∃ v, e = .returned v ∧ K (a.put o.dst v) w') : wpOp P ops Q i K a w := by
  refine wpOp_want ho hw ?_
  unfold Oper.wp
  rw [hr, he, Oper.upon_enter]
  refine hc.mono ?_
  intro e w' hR
  obtain ⟨v, rfl, hK⟩ := h e w' hR
  exact hK
end
theorem exec_not {P : Program} {a : Act} {w : World} {o : Oper} {p : Nat} {T : TypeId} {b : Bool} (ho : o.op = .unOp .not T (.tmp p)) (hp : a.tmps.getD p undef = .bool b) : (execOp a.eval o).run P w = .ok (.value (.bool (!b))) w := by
  rw [Array.getD_eq_getD_getElem?] at hp
  simp [execOp, ho, Act.eval, hp, go_sem]
theorem exec_moveV {P : Program} {a : Act} {w : World} {o : Oper} {p : Nat} {v : Value} (ho : o.op = .move (.tmp p)) (hp : a.tmps.getD p undef = v) : (execOp a.eval o).run P w = .ok (.value v) w := by
  rw [exec_move ho, hp]
/-- ..|| y, where what stands ahead is false. -/
theorem exec_pickF {P : Program} {a : Act} {w : World} {o : Oper} {p q : Nat} {c v : Value} (ho : o.op = .pick (.tmp p) (.const c) (.tmp q)) (hp : a.tmps.getD p undef = .bool false) (hq : a.tmps.getD q undef = v) : (execOp a.eval o).run P w = .ok (.value v) w := by
  rw [Array.getD_eq_getD_getElem?] at hp hq
  simp [execOp, ho, Act.eval, hp, hq, go_sem]
/-- A cell may have another number of its sort. -/
def SoftV (v v' : Value) : Prop := v' = v ∨ (∃ a b, v = .int .i64 a ∧ v' = .int .i64 b) ∨ (∃ a b, v = .int .u32 a ∧ v' = .int .u32 b)
theorem SoftV.trans {a b c : Value} (h : SoftV a b) (k : SoftV b c) : SoftV a c := by
  rcases h with rfl | ⟨x, y, rfl, rfl⟩ | ⟨x, y, rfl, rfl⟩
  · exact k
  · rcases k with rfl | ⟨x', y', e, rfl⟩ | ⟨x', y', e, rfl⟩
    · exact .inr (.inl ⟨_, _, rfl, rfl⟩)
    · exact .inr (.inl ⟨_, _, rfl, rfl⟩)
    · cases e
  · rcases k with rfl | ⟨x', y', e, rfl⟩ | ⟨x', y', e, rfl⟩
    · exact .inr (.inr ⟨_, _, rfl, rfl⟩)
    · cases e
    · exact .inr (.inr ⟨_, _, rfl, rfl⟩)
/-- All cells are as they were, but for numbers. -/
def Soft (w w' : World) : Prop := w.heap.size ≤ w'.heap.size ∧ ∀ b o v, w.cell? ⟨b, o, none⟩ = some v → ∃ v', w'.cell? ⟨b, o, none⟩ = some v' ∧ SoftV v v' ∧ w'.frozen? ⟨b, o, none⟩ = w.frozen? ⟨b, o, none⟩
theorem Soft.refl (w : World) : Soft w w := ⟨Nat.le_refl _, fun _ _ v h => ⟨v, h, .inl rfl, rfl⟩⟩
theorem Soft.trans {a b c : World} (h : Soft a b) (k : Soft b c) : Soft a c := ⟨Nat.le_trans h.1 k.1, fun p q v hp => by
  obtain ⟨v1, e1, s1, f1⟩ := h.2 p q v hp
  obtain ⟨v2, e2, s2, f2⟩ := k.2 p q v1 e1
  exact ⟨v2, e2, s1.trans s2, f2.trans f1⟩⟩
theorem Soft.below {w w' : World} (h : Below w.heap.size w w') : Soft w w' := ⟨h.size, fun b o v hp => by
  have hb : b < w.heap.size := World.block_lt_of_cell? w _ hp
  exact ⟨v, (h.cell (p := ⟨b, o, none⟩) hb).trans hp, .inl rfl, h.frozen (p := ⟨b, o, none⟩) hb⟩⟩
theorem Soft.drew {w w' : World} (h : Soft w w') : Soft w w'.drew := h
theorem Soft.i64 {w w' : World} (h : Soft w w') {b o : Nat} {k : Int} (hc : w.cell? ⟨b, o, none⟩ = some (.int .i64 k)) : ∃ k', w'.cell? ⟨b, o, none⟩ = some (.int .i64 k') := by
  obtain ⟨v', e, s, _⟩ := h.2 b o _ hc
  rcases s with rfl | ⟨x, y, e1, rfl⟩ | ⟨x, y, e1, _⟩
  · exact ⟨k, e⟩
  · exact ⟨y, e⟩
  · cases e1
theorem Soft.u32 {w w' : World} (h : Soft w w') {b o : Nat} {k : Int} (hc : w.cell? ⟨b, o, none⟩ = some (.int .u32 k)) : ∃ k', w'.cell? ⟨b, o, none⟩ = some (.int .u32 k') := by
  obtain ⟨v', e, s, _⟩ := h.2 b o _ hc
  rcases s with rfl | ⟨x, y, e1, rfl⟩ | ⟨x, y, e1, rfl⟩
  · exact ⟨k, e⟩
  · cases e1
  · exact ⟨y, e⟩
section
variable {b : Nat}
end
section
variable {w : World} {u v : Value} {a b K L : Nat}
end
theorem own_lit0 (w : World) (base : Nat) (hb : base ≤ w.heap.size) : Own (w.alloc (.cells #[] 162)) base (.slice (some ⟨w.heap.size, 0, none⟩) 0 0) [] :=
  ⟨Ok.nil, World.ownsRow_lit (base := base) (size := 1) w #[] 0 hb (by unfold maxLen; omega) rfl⟩
set_option maxHeartbeats 800000 in
theorem rnorm_any (A : Option Addr) (n cap : Nat) (xs : List Nat) (w : World) (h : Sl w A n cap xs) (hn : n ≤ 1000000000) :
    Calls Tryz.prog 146 #[.slice A n cap] w (Gives w (val xs)) := by
  have hm := h.max
  have hl := h.le
  unfold maxLen at hm
  obtain ⟨i0, hi, hz0, hz1, hz2⟩ := info_parts info32
  have H := Lib.hid h
  clear h
  have ho := own_lit0 w w.heap.size (Nat.le_refl _)
  go_enter Tryz.func146, Tryz.ntmps146
  go_wp2_with fail
  go_loop [3] (fun t => ∃ k : Nat, k ≤ n ∧ t = .int .i64 k ∧ Hid (trimL (xs.take k) = trimL xs)) (fun t => (intOf t).toNat)
  case atStart => exact ⟨n, Nat.le_refl _, rfl, by rw [H.out.len, List.take_length]; exact rfl⟩
  case round =>
    obtain ⟨k, hk, rfl, hr⟩ := hrel
    have htk := (H.out.take k hk).alloc (.cells #[] 162)
    have fin : ∀ (v : Value) (w' : World), Own w' w.heap.size v ([] ++ xs.take k) → (w.alloc (.cells #[] 162)).grownBy w' (some w.heap.size) → trimL (xs.take k) = xs.take k → New w' w.heap.size v (limbs (val xs)) ∧ Below w.heap.size w w' := by
      intro v w' h1 h2 h3
      refine ⟨?_, ((Below.refl _ _).alloc (Nat.le_refl _) _).grown h2 (by simp) (fun j hj => by injection hj with hj; omega)⟩
      have e : limbs (val xs) = xs.take k := by rw [← trimL_limbs H.out.ok, ← hr.out, h3]
      rw [e]
      simpa using h1.new
    have FIN := Lib.hid fin
    clear fin
    rcases k with _ | k
    · go_wp2_with (at_builtin; refine wpList_append_limbs rfl (.tmp 18) (.tmp 21) rfl i0 Tryz.underlying27 hi hz0 hz1 hz2 w.heap.size _ [] rfl ho _ _ _ _ rfl htk (by simp) (by simp) ?_; intro v' w1 hown1 hg1)
      go_ret
      obtain ⟨f1, f2⟩ := FIN.out v' w1 hown1 hg1 rfl
      exact ⟨v', rfl, f1, f2⟩
    · obtain ⟨b, off, rfl, hb, hc⟩ := H.out.here (by omega)
      have hck := hc k (by omega)
      have hx := H.out.ok.getD k
      by_cases h0 : lim xs k = 0
      · rw [h0] at hck
        clear hc htk FIN
        go_wp2_with fail
        go_round
        case rel => exact ⟨k, by omega, by go_num, by rw [← hr.out, trimL_take_zero xs k (by have := H.out.len; omega) h0]; exact rfl⟩
        case measure => simp [intOf]
      · have hs := Lib.hid (trimL_take_stop xs k (by have := H.out.len; omega) h0)
        have hz : (((lim xs k : Nat) : Int) == 0) = false := beq_eq_false_iff_ne.2 (by omega)
        clear hc h0
        go_wp2_with (at_builtin; refine wpList_append_limbs rfl (.tmp 18) (.tmp 21) rfl i0 Tryz.underlying27 hi hz0 hz1 hz2 w.heap.size _ [] rfl ho _ _ _ _ rfl htk (by simp; omega) (by simp) ?_; intro v' w1 hown1 hg1)
        go_ret
        obtain ⟨f1, f2⟩ := FIN.out v' w1 hown1 hg1 hs.out
        exact ⟨v', rfl, f1, f2⟩
theorem rnorm_num {w : World} {u : Value} {a K : Nat} (hu : Num w u a K) (hK : K ≤ 1000000000) : Calls Tryz.prog 146 #[u] w (Gives w a) := by
  obtain ⟨A1, n1, c1, xs, rfl, s1, rfl, k1⟩ := hu
  exact rnorm_any _ _ _ _ _ s1 (by omega)
section
variable {w w' : World} {g : Nat} {s x : Value}
end
section
variable {w : World} {u v : Value} {a b : Int} {K L : Nat}
end
section
variable {w : World} {u v : Value} {a b : Int} {K L : Nat}
end
section
variable {w : World} {u v : Value} {a b : Int} {K L : Nat}
end
section
variable {w : World} {u v : Value} {a b : Int} {K L : Nat}
end
/-- What holds at the head of Text's round: the digits so far, the lowest first; what is left. -/
def RTxt (b n r : Nat) (O : List Nat) (t : ByteArray) : Prop := n = valb b O + b ^ O.length * r ∧ Okb b O ∧ (r = 0 → O = []) ∧ t.data.toList = O.reverse.map chr
theorem RTxt.len {b n r K : Nat} {O : List Nat} {t : ByteArray} (h : RTxt b n r O t) (hb : 2 ≤ b) (hn : n < 4294967296 ^ K) : t.size ≤ 32 * K := by
  have hl : t.size = O.length := by
    have := congrArg List.length h.2.2.2
    simpa using this
  rw [hl]
  rcases Nat.eq_zero_or_pos r with h0 | h0
  · rw [h.2.2.1 h0]; simp
  · have h1 : b ^ O.length ≤ b ^ O.length * r := Nat.le_mul_of_pos_right _ h0
    have h2 : 2 ^ O.length ≤ b ^ O.length := Nat.pow_le_pow_left hb _
    have h3 := h.1
    have h4 : 2 ^ O.length < 2 ^ (32 * K) := by
      rw [Nat.pow_mul]
      have : (2 : Nat) ^ 32 = 4294967296 := by decide
      rw [this]
      omega
    have := (Nat.pow_lt_pow_iff_right (by decide : 1 < 2)).1 h4
    omega
section
variable {w : World} {u v : Value} {a b : Int} {K L : Nat}
set_option maxHeartbeats 800000 in
theorem rwnorm_num (hu : Wh w u a K) (hK : K ≤ 1000000) : Calls Tryz.prog 90 #[u] w (WGives w a) := by
  obtain ⟨s, x, m, rfl, hx, rfl⟩ := hu
  obtain ⟨W, hW, hp, hr, hb⟩ := enter1r w (.bool s) x
  have HN := Lib.hid (rnorm_num (hx.below hb) (by omega))
  have e0 := hp.c0
  have e1 := hp.c1
  rw [hW] at e0 e1
  clear hx
  cases s
  · go_enter Tryz.func90, Tryz.ntmps90
    go_wp2_with fail
    rw [← hW]
    refine HN.out.mono ?_
    rintro e w1 ⟨v, rfl, hv, hb1⟩
    obtain ⟨A, n, c, rfl, hmax, hnm⟩ := hv.nought
    have f0 := (hp.next hb1).c0
    have f1 := (hp.next hb1).c1
    have hr2 := hr.next hb1
    obtain ⟨q1, q2, q3, q4, q5, q6⟩ := hr2.room (.bool false)
    clear e0 e1 hW HN
    go_wp2_with fail
    exact wret rfl rfl rfl hr2 (WNew.of false m hv rfl) hb.size (by omega) (bnext hb hb1)
  · by_cases h0 : m = 0
    · go_enter Tryz.func90, Tryz.ntmps90
      go_wp2_with fail
      rw [← hW]
      refine HN.out.mono ?_
      rintro e w1 ⟨v, rfl, hv, hb1⟩
      obtain ⟨A, n, c, rfl, hmax, hnm⟩ := hv.nought
      obtain rfl : n = 0 := hnm.2 h0
      have f0 := (hp.next hb1).c0
      have f1 := (hp.next hb1).c1
      have hr2 := hr.next hb1
      obtain ⟨q1, q2, q3, q4, q5, q6⟩ := hr2.room (.bool false)
      clear e0 e1 hW HN hnm
      go_wp2_with fail
      exact wret rfl rfl rfl hr2 (WNew.of true m hv (by rw [h0]; rfl)) hb.size (by omega) (bnext hb hb1)
    · go_enter Tryz.func90, Tryz.ntmps90
      go_wp2_with fail
      rw [← hW]
      refine HN.out.mono ?_
      rintro e w1 ⟨v, rfl, hv, hb1⟩
      obtain ⟨A, n, c, rfl, hmax, hnm⟩ := hv.nought
      have hn0 : 0 < n := by omega
      have f0 := (hp.next hb1).c0
      have f1 := (hp.next hb1).c1
      have hr2 := hr.next hb1
      obtain ⟨q1, q2, q3, q4, q5, q6⟩ := hr2.room (.bool true)
      have HM : Hid (0 < m) := Lib.hid (by omega)
      clear e0 e1 hW HN hnm h0
      go_wp2_with fail
      exact wret rfl rfl rfl hr2 (WNew.of true m hv (by rw [decide_eq_true HM.out]; rfl)) hb.size (by omega) (bnext hb hb1)
end
section inv
variable {P : Program} {ops : Array Oper} {Q : Exit → Act → World → Prop}
end inv
variable {ops : Array Oper} {Q : Exit → Act → World → Prop}
section
variable {w : World} {u v : Value} {a b : Int} {K L : Nat}
end
section
variable {w : World} {u v : Value} {a b : Int} {K L : Nat}
end
theorem WNew.nought {w : World} {base : Nat} {b : Bool} {A : Option Addr} {n c : Nat} {z : Int} (h : WNew w base (.agg #[.bool b, .slice A n c]) z) : n ≤ 2 ^ 63 - 1 ∧ (n = 0 ↔ z = 0) := by
  obtain ⟨x, e, hn⟩ := h
  have e' : b = decide (z < 0) ∧ Value.slice A n c = x := by simpa using e
  obtain ⟨A', n', c', e2, hm, h0⟩ := hn.nought
  rw [← e'.2] at e2
  injection e2 with _ e3 _
  subst e3
  exact ⟨hm, h0.trans Int.natAbs_eq_zero⟩
section
variable {w : World} {u v : Value} {a b : Int} {K L : Nat}
end
section
variable {w : World} {u v : Value} {a b : Int} {K L : Nat}
end
set_option maxHeartbeats 800000 in
theorem refSame_yes (A1 : Option Addr) (n c1 : Nat) (A2 : Option Addr) (c2 : Nat) (xs : List Nat) (w : World) (h1 : Sl w A1 n c1 xs) (h2 : Sl w A2 n c2 xs) (hn : n ≤ 1000000000) :
    Calls Tryz.prog 145 #[.slice A1 n c1, .slice A2 n c2] w fun e w' => e = .returned (.bool true) ∧ Below w.heap.size w w' := by
  have hne : ((n : Int) != (n : Int)) = false := by simp
  go_enter Tryz.func145, Tryz.ntmps145
  go_wp2_with fail
  go_loopw [13] (fun i wr => ∃ k : Nat, k ≤ n ∧ i = .int .i64 k ∧ Below w.heap.size w wr) (fun i _ => n - (intOf i).toNat)
  case atStart => exact ⟨0, by omega, rfl, Below.refl _ _⟩
  case round =>
    obtain ⟨k, hk, rfl, hbel⟩ := hrel
    by_cases hkn : k < n
    · obtain ⟨b1, o1, rfl, _, hc1⟩ := (h1.below hbel).here (by omega)
      obtain ⟨b2, o2, rfl, _, hc2⟩ := (h2.below hbel).here (by omega)
      have g1 := hc1 k hkn
      have g2 := hc2 k hkn
      have i1 : (k : Int) < (n : Int) := by omega
      clear hc1 hc2
      go_wp2_with fail
      go_region
      all_goals
        go_wp2_with fail
        go_roundw
        case rel => exact ⟨k + 1, by omega, by go_num, hbel.drew⟩
        case measure => simp [intOf]; omega
    · go_wp2_with fail
      go_ret
      exact ⟨rfl, hbel⟩
section
variable {w w' : World} {g : Nat} {s x : Value}
end
section
variable {w : World} {u v : Value} {a b : Int} {K L : Nat}
end
section
variable {w : World} {u v : Value} {a b : Int} {K L : Nat}
end
section
variable {w : World} {u v : Value} {a b : Int} {K L : Nat}
end
section
variable {w : World} {u v : Value} {a b : Int} {K L : Nat}
set_option maxHeartbeats 400000 in
theorem refSame2_yes (hu : ∃ s A1 c1 A2 c2 n xs, u = .agg #[.bool s, .slice A1 n c1] ∧ v = .agg #[.bool s, .slice A2 n c2] ∧ Sl w A1 n c1 xs ∧ Sl w A2 n c2 xs ∧ n ≤ 1000000000) :
    Calls Tryz.prog 89 #[u, v] w fun e w' => e = .returned (.bool true) ∧ Below w.heap.size w w' := by
  obtain ⟨s, A1, c1, A2, c2, n, xs, rfl, rfl, h1, h2, hn⟩ := hu
  obtain ⟨W, hW, hp, hq, hb⟩ := enter2 w (.bool s) (.slice A1 n c1) (.bool s) (.slice A2 n c2)
  have HS := Lib.hid (refSame_yes _ _ _ _ _ _ _ (h1.below hb) (h2.below hb) hn)
  have hp0 := hp.c0
  have hp1 := hp.c1
  have hq0 := hq.c0
  have hq1 := hq.c1
  have hss : (s == s) = true := by cases s <;> rfl
  go_enter Tryz.func89, Tryz.ntmps89
  go_wp2_with fail
  rw [← hW]
  refine HS.out.mono ?_
  rintro e w1 ⟨rfl, hb1⟩
  go_wp2_with fail
  go_ret
  exact ⟨rfl, bnext hb hb1⟩
end
section
variable {w : World} {u v : Value} {a b : Int} {K L : Nat}
end
mutual
/-- No noughts at the numbers' ends. -/
def trimD : DT → DT
  | .mk k g ys bb s items tail => .mk k g (limbs (val ys)) bb s (trimsD items) (trimsD tail)
def trimsD : List DT → List DT
  | [] => []
  | t :: l => trimD t :: trimsD l
end
theorem trimsD_length (l : List DT) : (trimsD l).length = l.length := by
  induction l with
  | nil => simp [trimsD]
  | cons t l ih => simp [trimsD, ih]
theorem trims_nth : ∀ {l m : List LT}, shapes l = trimsD (shapes m) → ∀ (k : Nat) (hk : k < l.length) (hm : k < m.length), shape l[k] = trimD (shape m[k])
  | [], _, _, k, hk, _ => absurd hk (by simp)
  | _ :: _, [], _, k, _, hm => absurd hm (by simp)
  | x :: l, y :: m, h, 0, _, _ => by
    simp only [shapes_cons, trimsD] at h
    injection h
  | x :: l, y :: m, h, k + 1, hk, hm => by
    simp only [shapes_cons, trimsD] at h
    injection h with _ h
    exact trims_nth h k (by simpa using hk) (by simpa using hm)
section
variable {a : Act} {w : World} {o : Oper} {p b off : Nat}
theorem exec_f0 (ho : o.op = .fieldAddr 31 (.tmp p) 0) (ht : a.tmps.getD p undef = .pointer (some ⟨b, 0, none⟩)) : (execOp a.eval o).run Tryz.prog w = .ok (.value (.pointer (some ⟨b, 0, none⟩))) w := by
  rw [Array.getD_eq_getD_getElem?] at ht
  simp [execOp, ho, Act.eval, ht, go_sem]
theorem exec_f1 (ho : o.op = .fieldAddr 31 (.tmp p) 1) (ht : a.tmps.getD p undef = .pointer (some ⟨b, 0, none⟩)) : (execOp a.eval o).run Tryz.prog w = .ok (.value (.pointer (some ⟨b, 1, none⟩))) w := by
  rw [Array.getD_eq_getD_getElem?] at ht
  simp [execOp, ho, Act.eval, ht, go_sem]
theorem exec_f2 (ho : o.op = .fieldAddr 31 (.tmp p) 2) (ht : a.tmps.getD p undef = .pointer (some ⟨b, 0, none⟩)) : (execOp a.eval o).run Tryz.prog w = .ok (.value (.pointer (some ⟨b, 3, none⟩))) w := by
  rw [Array.getD_eq_getD_getElem?] at ht
  simp [execOp, ho, Act.eval, ht, go_sem]
theorem exec_f3 (ho : o.op = .fieldAddr 31 (.tmp p) 3) (ht : a.tmps.getD p undef = .pointer (some ⟨b, 0, none⟩)) : (execOp a.eval o).run Tryz.prog w = .ok (.value (.pointer (some ⟨b, 4, none⟩))) w := by
  rw [Array.getD_eq_getD_getElem?] at ht
  simp [execOp, ho, Act.eval, ht, go_sem]
theorem exec_f4 (ho : o.op = .fieldAddr 31 (.tmp p) 4) (ht : a.tmps.getD p undef = .pointer (some ⟨b, 0, none⟩)) : (execOp a.eval o).run Tryz.prog w = .ok (.value (.pointer (some ⟨b, 5, none⟩))) w := exec_fld ho ht
theorem exec_f5 (ho : o.op = .fieldAddr 31 (.tmp p) 5) (ht : a.tmps.getD p undef = .pointer (some ⟨b, 0, none⟩)) : (execOp a.eval o).run Tryz.prog w = .ok (.value (.pointer (some ⟨b, 6, none⟩))) w := exec_fld5 ho ht
theorem exec_ldI {x : Int} (ho : o.op = .load 3 (.tmp p)) (ht : a.tmps.getD p undef = .pointer (some ⟨b, off, none⟩)) (hc : w.cell? ⟨b, off, none⟩ = some (.int .i64 x)) : (execOp a.eval o).run Tryz.prog w = .ok (.value (.int .i64 x)) w := by
  rw [Array.getD_eq_getD_getElem?] at ht
  simp [execOp, ho, Act.eval, ht, go_sem, hc]
theorem exec_ldB {x : Bool} (ho : o.op = .load 4 (.tmp p)) (ht : a.tmps.getD p undef = .pointer (some ⟨b, off, none⟩)) (hc : w.cell? ⟨b, off, none⟩ = some (.bool x)) : (execOp a.eval o).run Tryz.prog w = .ok (.value (.bool x)) w := by
  rw [Array.getD_eq_getD_getElem?] at ht
  simp [execOp, ho, Act.eval, ht, go_sem, hc]
theorem exec_ldT {x : ByteArray} (ho : o.op = .load 9 (.tmp p)) (ht : a.tmps.getD p undef = .pointer (some ⟨b, off, none⟩)) (hc : w.cell? ⟨b, off, none⟩ = some (.string x)) : (execOp a.eval o).run Tryz.prog w = .ok (.value (.string x)) w := by
  rw [Array.getD_eq_getD_getElem?] at ht
  simp [execOp, ho, Act.eval, ht, go_sem, hc]
theorem exec_ldS {n c : Nat} {A : Option Addr} (ho : o.op = .load 23 (.tmp p)) (ht : a.tmps.getD p undef = .pointer (some ⟨b, off, none⟩)) (hc : w.cell? ⟨b, off, none⟩ = some (.slice A n c)) : (execOp a.eval o).run Tryz.prog w = .ok (.value (.slice A n c)) w := exec_loadS ho ht hc
theorem exec_ldN {g : Bool} {n c : Nat} {A : Option Addr} (ho : o.op = .load 29 (.tmp p)) (ht : a.tmps.getD p undef = .pointer (some ⟨b, 1, none⟩)) (hc : w.cell? ⟨b, 1, none⟩ = some (.bool g)) (hd : w.cell? ⟨b, 2, none⟩ = some (.slice A n c)) : (execOp a.eval o).run Tryz.prog w = .ok (.value (.agg #[.bool g, .slice A n c])) w := by
  rw [Array.getD_eq_getD_getElem?] at ht
  simp [execOp, ho, Act.eval, ht, go_sem, hc, hd]
theorem exec_lenS {n c : Nat} {A : Option Addr} (ho : o.op = .call { callee := .builtin .len, args := #[.tmp p], argTypes := #[23] }) (ht : a.tmps.getD p undef = .slice A n c) : (execOp a.eval o).run Tryz.prog w = .ok (.value (.int .i64 n)) w := by
  rw [Array.getD_eq_getD_getElem?] at ht
  simp [execOp, ho, Act.eval, ht, go_sem]
theorem exec_neqI {q : Nat} {x : Int} (ho : o.op = .binOp .neq 3 (.tmp p) (.tmp q) 3) (hp : a.tmps.getD p undef = .int .i64 x) (hq : a.tmps.getD q undef = .int .i64 x) : (execOp a.eval o).run Tryz.prog w = .ok (.value (.bool false)) w := by
  rw [Array.getD_eq_getD_getElem?] at hp hq
  simp [execOp, ho, Act.eval, hp, hq, go_sem]
theorem exec_neqB {q : Nat} {x : Bool} (ho : o.op = .binOp .neq 4 (.tmp p) (.tmp q) 4) (hp : a.tmps.getD p undef = .bool x) (hq : a.tmps.getD q undef = .bool x) : (execOp a.eval o).run Tryz.prog w = .ok (.value (.bool false)) w := by
  rw [Array.getD_eq_getD_getElem?] at hp hq
  simp [execOp, ho, Act.eval, hp, hq, go_sem]
theorem exec_neqT {q : Nat} {x : ByteArray} (ho : o.op = .binOp .neq 9 (.tmp p) (.tmp q) 9) (hp : a.tmps.getD p undef = .string x) (hq : a.tmps.getD q undef = .string x) : (execOp a.eval o).run Tryz.prog w = .ok (.value (.bool false)) w := by
  rw [Array.getD_eq_getD_getElem?] at hp hq
  simp [execOp, ho, Act.eval, hp, hq, go_sem]
theorem exec_ixq {q i n c : Nat} (ho : o.op = .indexAddr 23 (.tmp p) (.tmp q)) (ht : a.tmps.getD p undef = .slice (some ⟨b, off, none⟩) n c) (hq : a.tmps.getD q undef = .int .i64 (i : Nat)) (hn : i < n) : (execOp a.eval o).run Tryz.prog w = .ok (.value (.pointer (some ⟨b, off + i * 7, none⟩))) w := by
  rw [Array.getD_eq_getD_getElem?] at ht hq
  simp [execOp, ho, Act.eval, ht, hq, go_sem, hn]
end
theorem cell_at {w0 W : World} {b : Nat} {cs : Array Value} {T : TypeId} {fr : Nat × Nat} (h : w0.heap[b]? = some (.cells cs T fr)) (hb : Below w0.heap.size w0 W) (j : Nat) {v : Value} (hj : cs[j]? = some v) : W.cell? ⟨b, j, none⟩ = some v := by
  rw [Lib.cell_of_heap ((hb.block b (Array.getElem?_eq_some_iff.1 h).1).trans h)]
  exact hj
theorem seven_below {w w' : World} {b o : Nat} {x : LT} (h : ∀ j v, x.cells[j]? = some v → w.cell? ⟨b, o + j, none⟩ = some v) (hlt : b < w.heap.size) (hb : Below w.heap.size w w') : Seven w' b o x := fun j v hj => (hb.cell (p := ⟨b, o + j, none⟩) hlt).trans (h j v hj)
theorem seven_keep {w w' : World} {b o : Nat} {x : LT} (h : Seven w b o x) (hb : Below w.heap.size w w') : Seven w' b o x := fun j v hj => by
  have h0 := h j v hj
  have hlt : b < w.heap.size := World.block_lt_of_cell? w _ h0
  exact (hb.cell (p := ⟨b, o + j, none⟩) hlt).trans h0
theorem same_news {W : World} {B : Nat} {x y : Value} {z : Int} (hx : New W B x (limbs z.natAbs)) (hy : New W B y (limbs z.natAbs)) (hz : (limbs z.natAbs).length ≤ 1000) : Calls Tryz.prog 89 #[.agg #[.bool (decide (z < 0)), x], .agg #[.bool (decide (z < 0)), y]] W fun e W' => e = .returned (.bool true) ∧ Below W.heap.size W W' := by
  obtain ⟨A, c, rfl, h1⟩ := hx.sl
  obtain ⟨A', c', rfl, h2⟩ := hy.sl
  exact refSame2_yes ⟨_, A, c, A', c', _, _, rfl, rfl, h1, h2, by omega⟩
def SameTo (M N : Nat) : Prop := ∀ u t : LT, u.size ≤ N → shape u = trimD (shape t) → Tame u → Tame t → ∀ w : World, M ≤ w.heap.size → Held w M u → Held w M t → Calls Tryz.prog 47 #[.agg #[.int .i64 u.k, .bool u.g, .slice u.la u.ln u.lc, .bool u.bb, .string u.s, .slice u.ia u.items.length u.ic, .slice u.ta u.tail.length u.tc], .agg #[.int .i64 t.k, .bool t.g, .slice t.la t.ln t.lc, .bool t.bb, .string t.s, .slice t.ia t.items.length t.ic, .slice t.ta t.tail.length t.tc]] w fun e w' => e = .returned (.bool true) ∧ Below w.heap.size w w'
set_option maxRecDepth 100000 in
set_option maxHeartbeats 12800000 in
theorem rs_walk (M N : Nat) (hN : N ≤ 1000000) (ih : SameTo M N) (k z : Int) (g bb : Bool) (s : ByteArray) (la la' ia ia' ta ta' : Option Addr) (ln ln' lc lc' n m ic ic' tc tc' : Nat) (items items' tail tail' : List LT) (w : World) (hM : M ≤ w.heap.size)
    (hn : items.length = n) (hn' : items'.length = n) (hm : tail.length = m) (hm' : tail'.length = m) (h1 : sizes items ≤ N) (h2 : sizes tail ≤ N) (hz1000 : (limbs z.natAbs).length ≤ 1000)
    (hS : shapes items = trimsD (shapes items') ∧ shapes tail = trimsD (shapes tail')) (hT : (TameR items ∧ TameR tail) ∧ (TameR items' ∧ TameR tail'))
    (hN1 : (∀ W, Below w.heap.size w W → Calls Tryz.prog 90 #[.agg #[.bool g, .slice la ln lc]] W (WGives W z)) ∧ (∀ W, Below w.heap.size w W → Calls Tryz.prog 90 #[.agg #[.bool g, .slice la' ln' lc']] W (WGives W z)))
    (hH : (Spot M ia n ic ∧ Spot M ta m tc ∧ LiesR w M items (blk ia) (ofs ia) ∧ LiesR w M tail (blk ta) (ofs ta)) ∧ (Spot M ia' n ic' ∧ Spot M ta' m tc' ∧ LiesR w M items' (blk ia') (ofs ia') ∧ LiesR w M tail' (blk ta') (ofs ta'))) :
    Calls Tryz.prog 47 #[.agg #[.int .i64 k, .bool g, .slice la ln lc, .bool bb, .string s, .slice ia n ic, .slice ta m tc], .agg #[.int .i64 k, .bool g, .slice la' ln' lc', .bool bb, .string s, .slice ia' n ic', .slice ta' m tc']] w fun e w' => e = .returned (.bool true) ∧ Below w.heap.size w w' := by
  have g1 := sizes_ge items
  have g2 := sizes_ge tail
  obtain ⟨w2, hw2, a0, a1, hz, hbel⟩ := two2 w (.cells #[.int .i64 k, .bool g, .slice la ln lc, .bool bb, .string s, .slice ia n ic, .slice ta m tc] 31) (.cells #[.int .i64 k, .bool g, .slice la' ln' lc', .bool bb, .string s, .slice ia' n ic', .slice ta' m tc'] 31)
  have HA := Lib.hid (And.intro a0 (And.intro a1 (And.intro hz hbel)))
  have HW := Lib.hid hw2
  have HN := Lib.hid hN1
  have HH := Lib.hid hH
  have HS := Lib.hid hS
  have HT := Lib.hid hT
  have IH := Lib.hid ih
  have hbw : ∀ W, Below w2.heap.size w2 W → Below w.heap.size w W := fun W hb => hbel.trans (hb.mono hbel.size)
  clear a0 a1 hz hbel hw2 hN1 hH hS hT ih
  go_enter Tryz.func47, Tryz.ntmps47
  go_wp2_with fail
  rw [← HW.out]
  refine wp_region_phases (nA := 47) (by kernel_rfl) (by kernel_rfl) (fun i => 7 + i)
    (fun i W v => match i with
      | 0 => v = .pointer (some ⟨w.heap.size, 0, none⟩)
      | 1 => v = .int .i64 k
      | 2 => v = .pointer (some ⟨w.heap.size + 1, 0, none⟩)
      | 3 => v = .int .i64 k
      | 4 => v = .bool false
      | 5 => v = .bool false
      | 6 => v = .pointer (some ⟨w.heap.size, 1, none⟩)
      | 7 => v = .agg #[.bool g, .slice la ln lc]
      | 8 => ∃ x, v = .agg #[.bool (decide (z < 0)), x] ∧ New W w2.heap.size x (limbs z.natAbs)
      | 9 => v = .pointer (some ⟨w.heap.size + 1, 1, none⟩)
      | 10 => v = .agg #[.bool g, .slice la' ln' lc']
      | 11 => ∃ x, v = .agg #[.bool (decide (z < 0)), x] ∧ New W w2.heap.size x (limbs z.natAbs)
      | 12 => v = .bool true
      | 13 => v = .bool false
      | 14 => v = .bool false
      | 15 => v = .bool false
      | 16 => v = .pointer (some ⟨w.heap.size, 3, none⟩)
      | 17 => v = .bool bb
      | 18 => v = .pointer (some ⟨w.heap.size + 1, 3, none⟩)
      | 19 => v = .bool bb
      | 20 => v = .bool false
      | 21 => v = .bool false
      | 22 => v = .bool false
      | 23 => v = .pointer (some ⟨w.heap.size, 4, none⟩)
      | 24 => v = .string s
      | 25 => v = .pointer (some ⟨w.heap.size + 1, 4, none⟩)
      | 26 => v = .string s
      | 27 => v = .bool false
      | 28 => v = .bool false
      | 29 => v = .bool false
      | 30 => v = .pointer (some ⟨w.heap.size, 5, none⟩)
      | 31 => v = .slice ia n ic
      | 32 => v = .int .i64 n
      | 33 => v = .pointer (some ⟨w.heap.size + 1, 5, none⟩)
      | 34 => v = .slice ia' n ic'
      | 35 => v = .int .i64 n
      | 36 => v = .bool false
      | 37 => v = .bool false
      | 38 => v = .bool false
      | 39 => v = .pointer (some ⟨w.heap.size, 6, none⟩)
      | 40 => v = .slice ta m tc
      | 41 => v = .int .i64 m
      | 42 => v = .pointer (some ⟨w.heap.size + 1, 6, none⟩)
      | 43 => v = .slice ta' m tc'
      | 44 => v = .int .i64 m
      | 45 => v = .bool false
      | _ => v = .bool false) (by decide) (by kernel_rfl)
    (fun i j hi hj h => by omega) (fun i hi => by simp only [List.size_toArray, List.length_cons, List.length_nil]; omega) ?_ ?_ ?_
  · intro i hi W W' v h hb
    rcases (show i = 0 ∨ i = 1 ∨ i = 2 ∨ i = 3 ∨ i = 4 ∨ i = 5 ∨ i = 6 ∨ i = 7 ∨ i = 8 ∨ i = 9 ∨ i = 10 ∨ i = 11 ∨ i = 12 ∨ i = 13 ∨ i = 14 ∨ i = 15 ∨ i = 16 ∨ i = 17 ∨ i = 18 ∨ i = 19 ∨ i = 20 ∨ i = 21 ∨ i = 22 ∨ i = 23 ∨ i = 24 ∨ i = 25 ∨ i = 26 ∨ i = 27 ∨ i = 28 ∨ i = 29 ∨ i = 30 ∨ i = 31 ∨ i = 32 ∨ i = 33 ∨ i = 34 ∨ i = 35 ∨ i = 36 ∨ i = 37 ∨ i = 38 ∨ i = 39 ∨ i = 40 ∨ i = 41 ∨ i = 42 ∨ i = 43 ∨ i = 44 ∨ i = 45 ∨ i = 46 by omega) with rfl | rfl | rfl | rfl | rfl | rfl | rfl | rfl | rfl | rfl | rfl | rfl | rfl | rfl | rfl | rfl | rfl | rfl | rfl | rfl | rfl | rfl | rfl | rfl | rfl | rfl | rfl | rfl | rfl | rfl | rfl | rfl | rfl | rfl | rfl | rfl | rfl | rfl | rfl | rfl | rfl | rfl | rfl | rfl | rfl | rfl | rfl
    · exact h
    · exact h
    · exact h
    · exact h
    · exact h
    · exact h
    · exact h
    · exact h
    · obtain ⟨x, e, h1⟩ := h; exact ⟨x, e, h1.next hb⟩
    · exact h
    · exact h
    · obtain ⟨x, e, h1⟩ := h; exact ⟨x, e, h1.next hb⟩
    · exact h
    · exact h
    · exact h
    · exact h
    · exact h
    · exact h
    · exact h
    · exact h
    · exact h
    · exact h
    · exact h
    · exact h
    · exact h
    · exact h
    · exact h
    · exact h
    · exact h
    · exact h
    · exact h
    · exact h
    · exact h
    · exact h
    · exact h
    · exact h
    · exact h
    · exact h
    · exact h
    · exact h
    · exact h
    · exact h
    · exact h
    · exact h
    · exact h
    · exact h
    · exact h
  · intro i hi l A W I hdep
    rcases (show i = 0 ∨ i = 1 ∨ i = 2 ∨ i = 3 ∨ i = 4 ∨ i = 5 ∨ i = 6 ∨ i = 7 ∨ i = 8 ∨ i = 9 ∨ i = 10 ∨ i = 11 ∨ i = 12 ∨ i = 13 ∨ i = 14 ∨ i = 15 ∨ i = 16 ∨ i = 17 ∨ i = 18 ∨ i = 19 ∨ i = 20 ∨ i = 21 ∨ i = 22 ∨ i = 23 ∨ i = 24 ∨ i = 25 ∨ i = 26 ∨ i = 27 ∨ i = 28 ∨ i = 29 ∨ i = 30 ∨ i = 31 ∨ i = 32 ∨ i = 33 ∨ i = 34 ∨ i = 35 ∨ i = 36 ∨ i = 37 ∨ i = 38 ∨ i = 39 ∨ i = 40 ∨ i = 41 ∨ i = 42 ∨ i = 43 ∨ i = 44 ∨ i = 45 ∨ i = 46 by omega) with rfl | rfl | rfl | rfl | rfl | rfl | rfl | rfl | rfl | rfl | rfl | rfl | rfl | rfl | rfl | rfl | rfl | rfl | rfl | rfl | rfl | rfl | rfl | rfl | rfl | rfl | rfl | rfl | rfl | rfl | rfl | rfl | rfl | rfl | rfl | rfl | rfl | rfl | rfl | rfl | rfl | rfl | rfl | rfl | rfl | rfl | rfl
    · exact wpOp_valW rfl (rfl) (exec_f0 rfl ((I.other 2 (by intro j hj; omega)).trans rfl)) ⟨_, rfl, rfl, Below.refl _ _⟩
    · have v0 : A.tmps.getD 7 undef = _ := I.val 0 (by decide) (hdep 0 (by kernel_rfl))
      exact wpOp_valW rfl (rfl) (exec_ldI rfl v0 (cell_at HA.out.1 I.below 0 rfl)) ⟨_, rfl, rfl, Below.refl _ _⟩
    · exact wpOp_valW rfl (rfl) (exec_f0 rfl ((I.other 3 (by intro j hj; omega)).trans rfl)) ⟨_, rfl, rfl, Below.refl _ _⟩
    · have v2 : A.tmps.getD 9 undef = _ := I.val 2 (by decide) (hdep 2 (by kernel_rfl))
      exact wpOp_valW rfl (rfl) (exec_ldI rfl v2 (cell_at HA.out.2.1 I.below 0 rfl)) ⟨_, rfl, rfl, Below.refl _ _⟩
    · have v1 : A.tmps.getD 8 undef = _ := I.val 1 (by decide) (hdep 1 (by kernel_rfl))
      have v3 : A.tmps.getD 10 undef = _ := I.val 3 (by decide) (hdep 3 (by kernel_rfl))
      exact wpOp_valW rfl (rfl) (exec_neqI rfl v1 v3) ⟨_, rfl, rfl, Below.refl _ _⟩
    · have v4 : A.tmps.getD 11 undef = _ := I.val 4 (by decide) (hdep 4 (by kernel_rfl))
      exact wpOp_valW rfl (rfl) (exec_moveV rfl v4) ⟨_, rfl, rfl, Below.refl _ _⟩
    · have g5 : A.tmps.getD 12 undef = _ := I.val 5 (by decide) (hdep 5 (by kernel_rfl))
      exact wpOp_valW rfl (wanted_yes rfl rfl rfl (by rw [I.size]; simp) g5) (exec_f1 rfl ((I.other 2 (by intro j hj; omega)).trans rfl)) ⟨_, rfl, rfl, Below.refl _ _⟩
    · have g5 : A.tmps.getD 12 undef = _ := I.val 5 (by decide) (hdep 5 (by kernel_rfl))
      have v6 : A.tmps.getD 13 undef = _ := I.val 6 (by decide) (hdep 6 (by kernel_rfl))
      exact wpOp_valW rfl (wanted_yes rfl rfl rfl (by rw [I.size]; simp) g5) (exec_ldN rfl v6 (cell_at HA.out.1 I.below 1 rfl) (cell_at HA.out.1 I.below 2 rfl)) ⟨_, rfl, rfl, Below.refl _ _⟩
    · have g5 : A.tmps.getD 12 undef = _ := I.val 5 (by decide) (hdep 5 (by kernel_rfl))
      have v7 : A.tmps.getD 14 undef = _ := I.val 7 (by decide) (hdep 7 (by kernel_rfl))
      refine wpOp_callW rfl (wanted_yes rfl rfl rfl (by rw [I.size]; simp) g5) ((exec_call rfl).trans (by rw [v7])) (by simp [go_sem]) (HN.out.1 W (hbw W I.below)) ?_
      rintro e W' ⟨x, rfl, ⟨y, rfl, h1⟩, h2⟩
      exact ⟨_, rfl, _, rfl, ⟨y, rfl, h1.from_ I.below.size⟩, h2⟩
    · have g5 : A.tmps.getD 12 undef = _ := I.val 5 (by decide) (hdep 5 (by kernel_rfl))
      exact wpOp_valW rfl (wanted_yes rfl rfl rfl (by rw [I.size]; simp) g5) (exec_f1 rfl ((I.other 3 (by intro j hj; omega)).trans rfl)) ⟨_, rfl, rfl, Below.refl _ _⟩
    · have g5 : A.tmps.getD 12 undef = _ := I.val 5 (by decide) (hdep 5 (by kernel_rfl))
      have v9 : A.tmps.getD 16 undef = _ := I.val 9 (by decide) (hdep 9 (by kernel_rfl))
      exact wpOp_valW rfl (wanted_yes rfl rfl rfl (by rw [I.size]; simp) g5) (exec_ldN rfl v9 (cell_at HA.out.2.1 I.below 1 rfl) (cell_at HA.out.2.1 I.below 2 rfl)) ⟨_, rfl, rfl, Below.refl _ _⟩
    · have g5 : A.tmps.getD 12 undef = _ := I.val 5 (by decide) (hdep 5 (by kernel_rfl))
      have v10 : A.tmps.getD 17 undef = _ := I.val 10 (by decide) (hdep 10 (by kernel_rfl))
      refine wpOp_callW rfl (wanted_yes rfl rfl rfl (by rw [I.size]; simp) g5) ((exec_call rfl).trans (by rw [v10])) (by simp [go_sem]) (HN.out.2 W (hbw W I.below)) ?_
      rintro e W' ⟨x, rfl, ⟨y, rfl, h1⟩, h2⟩
      exact ⟨_, rfl, _, rfl, ⟨y, rfl, h1.from_ I.below.size⟩, h2⟩
    · have g5 : A.tmps.getD 12 undef = _ := I.val 5 (by decide) (hdep 5 (by kernel_rfl))
      obtain ⟨x, v8, hx⟩ : ∃ x, A.tmps.getD 15 undef = .agg #[.bool (decide (z < 0)), x] ∧ New W w2.heap.size x (limbs z.natAbs) := I.val 8 (by decide) (hdep 8 (by kernel_rfl))
      obtain ⟨y, v11, hy⟩ : ∃ x, A.tmps.getD 18 undef = .agg #[.bool (decide (z < 0)), x] ∧ New W w2.heap.size x (limbs z.natAbs) := I.val 11 (by decide) (hdep 11 (by kernel_rfl))
      refine wpOp_callW rfl (wanted_yes rfl rfl rfl (by rw [I.size]; simp) g5) ((exec_call2 rfl).trans (by rw [v8, v11])) (by simp [go_sem]) (same_news hx hy hz1000) ?_
      rintro e W' ⟨rfl, b⟩
      exact ⟨_, rfl, _, rfl, rfl, b⟩
    · have g5 : A.tmps.getD 12 undef = _ := I.val 5 (by decide) (hdep 5 (by kernel_rfl))
      have v12 : A.tmps.getD 19 undef = _ := I.val 12 (by decide) (hdep 12 (by kernel_rfl))
      exact wpOp_valW rfl (wanted_yes rfl rfl rfl (by rw [I.size]; simp) g5) (exec_not rfl v12) ⟨_, rfl, rfl, Below.refl _ _⟩
    · have v5 : A.tmps.getD 12 undef = _ := I.val 5 (by decide) (hdep 5 (by kernel_rfl))
      have v13 : A.tmps.getD 20 undef = _ := I.val 13 (by decide) (hdep 13 (by kernel_rfl))
      exact wpOp_valW rfl (rfl) (exec_pickF rfl v5 v13) ⟨_, rfl, rfl, Below.refl _ _⟩
    · have v14 : A.tmps.getD 21 undef = _ := I.val 14 (by decide) (hdep 14 (by kernel_rfl))
      exact wpOp_valW rfl (rfl) (exec_moveV rfl v14) ⟨_, rfl, rfl, Below.refl _ _⟩
    · have g15 : A.tmps.getD 22 undef = _ := I.val 15 (by decide) (hdep 15 (by kernel_rfl))
      exact wpOp_valW rfl (wanted_yes rfl rfl rfl (by rw [I.size]; simp) g15) (exec_f2 rfl ((I.other 2 (by intro j hj; omega)).trans rfl)) ⟨_, rfl, rfl, Below.refl _ _⟩
    · have g15 : A.tmps.getD 22 undef = _ := I.val 15 (by decide) (hdep 15 (by kernel_rfl))
      have v16 : A.tmps.getD 23 undef = _ := I.val 16 (by decide) (hdep 16 (by kernel_rfl))
      exact wpOp_valW rfl (wanted_yes rfl rfl rfl (by rw [I.size]; simp) g15) (exec_ldB rfl v16 (cell_at HA.out.1 I.below 3 rfl)) ⟨_, rfl, rfl, Below.refl _ _⟩
    · have g15 : A.tmps.getD 22 undef = _ := I.val 15 (by decide) (hdep 15 (by kernel_rfl))
      exact wpOp_valW rfl (wanted_yes rfl rfl rfl (by rw [I.size]; simp) g15) (exec_f2 rfl ((I.other 3 (by intro j hj; omega)).trans rfl)) ⟨_, rfl, rfl, Below.refl _ _⟩
    · have g15 : A.tmps.getD 22 undef = _ := I.val 15 (by decide) (hdep 15 (by kernel_rfl))
      have v18 : A.tmps.getD 25 undef = _ := I.val 18 (by decide) (hdep 18 (by kernel_rfl))
      exact wpOp_valW rfl (wanted_yes rfl rfl rfl (by rw [I.size]; simp) g15) (exec_ldB rfl v18 (cell_at HA.out.2.1 I.below 3 rfl)) ⟨_, rfl, rfl, Below.refl _ _⟩
    · have g15 : A.tmps.getD 22 undef = _ := I.val 15 (by decide) (hdep 15 (by kernel_rfl))
      have v17 : A.tmps.getD 24 undef = _ := I.val 17 (by decide) (hdep 17 (by kernel_rfl))
      have v19 : A.tmps.getD 26 undef = _ := I.val 19 (by decide) (hdep 19 (by kernel_rfl))
      exact wpOp_valW rfl (wanted_yes rfl rfl rfl (by rw [I.size]; simp) g15) (exec_neqB rfl v17 v19) ⟨_, rfl, rfl, Below.refl _ _⟩
    · have v15 : A.tmps.getD 22 undef = _ := I.val 15 (by decide) (hdep 15 (by kernel_rfl))
      have v20 : A.tmps.getD 27 undef = _ := I.val 20 (by decide) (hdep 20 (by kernel_rfl))
      exact wpOp_valW rfl (rfl) (exec_pickF rfl v15 v20) ⟨_, rfl, rfl, Below.refl _ _⟩
    · have v21 : A.tmps.getD 28 undef = _ := I.val 21 (by decide) (hdep 21 (by kernel_rfl))
      exact wpOp_valW rfl (rfl) (exec_moveV rfl v21) ⟨_, rfl, rfl, Below.refl _ _⟩
    · have g22 : A.tmps.getD 29 undef = _ := I.val 22 (by decide) (hdep 22 (by kernel_rfl))
      exact wpOp_valW rfl (wanted_yes rfl rfl rfl (by rw [I.size]; simp) g22) (exec_f3 rfl ((I.other 2 (by intro j hj; omega)).trans rfl)) ⟨_, rfl, rfl, Below.refl _ _⟩
    · have g22 : A.tmps.getD 29 undef = _ := I.val 22 (by decide) (hdep 22 (by kernel_rfl))
      have v23 : A.tmps.getD 30 undef = _ := I.val 23 (by decide) (hdep 23 (by kernel_rfl))
      exact wpOp_valW rfl (wanted_yes rfl rfl rfl (by rw [I.size]; simp) g22) (exec_ldT rfl v23 (cell_at HA.out.1 I.below 4 rfl)) ⟨_, rfl, rfl, Below.refl _ _⟩
    · have g22 : A.tmps.getD 29 undef = _ := I.val 22 (by decide) (hdep 22 (by kernel_rfl))
      exact wpOp_valW rfl (wanted_yes rfl rfl rfl (by rw [I.size]; simp) g22) (exec_f3 rfl ((I.other 3 (by intro j hj; omega)).trans rfl)) ⟨_, rfl, rfl, Below.refl _ _⟩
    · have g22 : A.tmps.getD 29 undef = _ := I.val 22 (by decide) (hdep 22 (by kernel_rfl))
      have v25 : A.tmps.getD 32 undef = _ := I.val 25 (by decide) (hdep 25 (by kernel_rfl))
      exact wpOp_valW rfl (wanted_yes rfl rfl rfl (by rw [I.size]; simp) g22) (exec_ldT rfl v25 (cell_at HA.out.2.1 I.below 4 rfl)) ⟨_, rfl, rfl, Below.refl _ _⟩
    · have g22 : A.tmps.getD 29 undef = _ := I.val 22 (by decide) (hdep 22 (by kernel_rfl))
      have v24 : A.tmps.getD 31 undef = _ := I.val 24 (by decide) (hdep 24 (by kernel_rfl))
      have v26 : A.tmps.getD 33 undef = _ := I.val 26 (by decide) (hdep 26 (by kernel_rfl))
      exact wpOp_valW rfl (wanted_yes rfl rfl rfl (by rw [I.size]; simp) g22) (exec_neqT rfl v24 v26) ⟨_, rfl, rfl, Below.refl _ _⟩
    · have v22 : A.tmps.getD 29 undef = _ := I.val 22 (by decide) (hdep 22 (by kernel_rfl))
      have v27 : A.tmps.getD 34 undef = _ := I.val 27 (by decide) (hdep 27 (by kernel_rfl))
      exact wpOp_valW rfl (rfl) (exec_pickF rfl v22 v27) ⟨_, rfl, rfl, Below.refl _ _⟩
    · have v28 : A.tmps.getD 35 undef = _ := I.val 28 (by decide) (hdep 28 (by kernel_rfl))
      exact wpOp_valW rfl (rfl) (exec_moveV rfl v28) ⟨_, rfl, rfl, Below.refl _ _⟩
    · have g29 : A.tmps.getD 36 undef = _ := I.val 29 (by decide) (hdep 29 (by kernel_rfl))
      exact wpOp_valW rfl (wanted_yes rfl rfl rfl (by rw [I.size]; simp) g29) (exec_f4 rfl ((I.other 2 (by intro j hj; omega)).trans rfl)) ⟨_, rfl, rfl, Below.refl _ _⟩
    · have g29 : A.tmps.getD 36 undef = _ := I.val 29 (by decide) (hdep 29 (by kernel_rfl))
      have v30 : A.tmps.getD 37 undef = _ := I.val 30 (by decide) (hdep 30 (by kernel_rfl))
      exact wpOp_valW rfl (wanted_yes rfl rfl rfl (by rw [I.size]; simp) g29) (exec_ldS rfl v30 (cell_at HA.out.1 I.below 5 rfl)) ⟨_, rfl, rfl, Below.refl _ _⟩
    · have g29 : A.tmps.getD 36 undef = _ := I.val 29 (by decide) (hdep 29 (by kernel_rfl))
      have v31 : A.tmps.getD 38 undef = _ := I.val 31 (by decide) (hdep 31 (by kernel_rfl))
      exact wpOp_valW rfl (wanted_yes rfl rfl rfl (by rw [I.size]; simp) g29) (exec_lenS rfl v31) ⟨_, rfl, rfl, Below.refl _ _⟩
    · have g29 : A.tmps.getD 36 undef = _ := I.val 29 (by decide) (hdep 29 (by kernel_rfl))
      exact wpOp_valW rfl (wanted_yes rfl rfl rfl (by rw [I.size]; simp) g29) (exec_f4 rfl ((I.other 3 (by intro j hj; omega)).trans rfl)) ⟨_, rfl, rfl, Below.refl _ _⟩
    · have g29 : A.tmps.getD 36 undef = _ := I.val 29 (by decide) (hdep 29 (by kernel_rfl))
      have v33 : A.tmps.getD 40 undef = _ := I.val 33 (by decide) (hdep 33 (by kernel_rfl))
      exact wpOp_valW rfl (wanted_yes rfl rfl rfl (by rw [I.size]; simp) g29) (exec_ldS rfl v33 (cell_at HA.out.2.1 I.below 5 rfl)) ⟨_, rfl, rfl, Below.refl _ _⟩
    · have g29 : A.tmps.getD 36 undef = _ := I.val 29 (by decide) (hdep 29 (by kernel_rfl))
      have v34 : A.tmps.getD 41 undef = _ := I.val 34 (by decide) (hdep 34 (by kernel_rfl))
      exact wpOp_valW rfl (wanted_yes rfl rfl rfl (by rw [I.size]; simp) g29) (exec_lenS rfl v34) ⟨_, rfl, rfl, Below.refl _ _⟩
    · have g29 : A.tmps.getD 36 undef = _ := I.val 29 (by decide) (hdep 29 (by kernel_rfl))
      have v32 : A.tmps.getD 39 undef = _ := I.val 32 (by decide) (hdep 32 (by kernel_rfl))
      have v35 : A.tmps.getD 42 undef = _ := I.val 35 (by decide) (hdep 35 (by kernel_rfl))
      exact wpOp_valW rfl (wanted_yes rfl rfl rfl (by rw [I.size]; simp) g29) (exec_neqI rfl v32 v35) ⟨_, rfl, rfl, Below.refl _ _⟩
    · have v29 : A.tmps.getD 36 undef = _ := I.val 29 (by decide) (hdep 29 (by kernel_rfl))
      have v36 : A.tmps.getD 43 undef = _ := I.val 36 (by decide) (hdep 36 (by kernel_rfl))
      exact wpOp_valW rfl (rfl) (exec_pickF rfl v29 v36) ⟨_, rfl, rfl, Below.refl _ _⟩
    · have v37 : A.tmps.getD 44 undef = _ := I.val 37 (by decide) (hdep 37 (by kernel_rfl))
      exact wpOp_valW rfl (rfl) (exec_moveV rfl v37) ⟨_, rfl, rfl, Below.refl _ _⟩
    · have g38 : A.tmps.getD 45 undef = _ := I.val 38 (by decide) (hdep 38 (by kernel_rfl))
      exact wpOp_valW rfl (wanted_yes rfl rfl rfl (by rw [I.size]; simp) g38) (exec_f5 rfl ((I.other 2 (by intro j hj; omega)).trans rfl)) ⟨_, rfl, rfl, Below.refl _ _⟩
    · have g38 : A.tmps.getD 45 undef = _ := I.val 38 (by decide) (hdep 38 (by kernel_rfl))
      have v39 : A.tmps.getD 46 undef = _ := I.val 39 (by decide) (hdep 39 (by kernel_rfl))
      exact wpOp_valW rfl (wanted_yes rfl rfl rfl (by rw [I.size]; simp) g38) (exec_ldS rfl v39 (cell_at HA.out.1 I.below 6 rfl)) ⟨_, rfl, rfl, Below.refl _ _⟩
    · have g38 : A.tmps.getD 45 undef = _ := I.val 38 (by decide) (hdep 38 (by kernel_rfl))
      have v40 : A.tmps.getD 47 undef = _ := I.val 40 (by decide) (hdep 40 (by kernel_rfl))
      exact wpOp_valW rfl (wanted_yes rfl rfl rfl (by rw [I.size]; simp) g38) (exec_lenS rfl v40) ⟨_, rfl, rfl, Below.refl _ _⟩
    · have g38 : A.tmps.getD 45 undef = _ := I.val 38 (by decide) (hdep 38 (by kernel_rfl))
      exact wpOp_valW rfl (wanted_yes rfl rfl rfl (by rw [I.size]; simp) g38) (exec_f5 rfl ((I.other 3 (by intro j hj; omega)).trans rfl)) ⟨_, rfl, rfl, Below.refl _ _⟩
    · have g38 : A.tmps.getD 45 undef = _ := I.val 38 (by decide) (hdep 38 (by kernel_rfl))
      have v42 : A.tmps.getD 49 undef = _ := I.val 42 (by decide) (hdep 42 (by kernel_rfl))
      exact wpOp_valW rfl (wanted_yes rfl rfl rfl (by rw [I.size]; simp) g38) (exec_ldS rfl v42 (cell_at HA.out.2.1 I.below 6 rfl)) ⟨_, rfl, rfl, Below.refl _ _⟩
    · have g38 : A.tmps.getD 45 undef = _ := I.val 38 (by decide) (hdep 38 (by kernel_rfl))
      have v43 : A.tmps.getD 50 undef = _ := I.val 43 (by decide) (hdep 43 (by kernel_rfl))
      exact wpOp_valW rfl (wanted_yes rfl rfl rfl (by rw [I.size]; simp) g38) (exec_lenS rfl v43) ⟨_, rfl, rfl, Below.refl _ _⟩
    · have g38 : A.tmps.getD 45 undef = _ := I.val 38 (by decide) (hdep 38 (by kernel_rfl))
      have v41 : A.tmps.getD 48 undef = _ := I.val 41 (by decide) (hdep 41 (by kernel_rfl))
      have v44 : A.tmps.getD 51 undef = _ := I.val 44 (by decide) (hdep 44 (by kernel_rfl))
      exact wpOp_valW rfl (wanted_yes rfl rfl rfl (by rw [I.size]; simp) g38) (exec_neqI rfl v41 v44) ⟨_, rfl, rfl, Below.refl _ _⟩
    · have v38 : A.tmps.getD 45 undef = _ := I.val 38 (by decide) (hdep 38 (by kernel_rfl))
      have v45 : A.tmps.getD 52 undef = _ := I.val 45 (by decide) (hdep 45 (by kernel_rfl))
      exact wpOp_valW rfl (rfl) (exec_pickF rfl v38 v45) ⟨_, rfl, rfl, Below.refl _ _⟩
  intro A w9 hdf hsz hoth hval hb9
  have v0 : A.tmps.getD 7 undef = _ := hval 0 (by decide)
  have v1 : A.tmps.getD 8 undef = _ := hval 1 (by decide)
  have v2 : A.tmps.getD 9 undef = _ := hval 2 (by decide)
  have v3 : A.tmps.getD 10 undef = _ := hval 3 (by decide)
  have v4 : A.tmps.getD 11 undef = _ := hval 4 (by decide)
  have v5 : A.tmps.getD 12 undef = _ := hval 5 (by decide)
  have v6 : A.tmps.getD 13 undef = _ := hval 6 (by decide)
  have v7 : A.tmps.getD 14 undef = _ := hval 7 (by decide)
  obtain ⟨u8, v8⟩ : ∃ u, A.tmps.getD 15 undef = u := ⟨_, rfl⟩
  have v9 : A.tmps.getD 16 undef = _ := hval 9 (by decide)
  have v10 : A.tmps.getD 17 undef = _ := hval 10 (by decide)
  obtain ⟨u11, v11⟩ : ∃ u, A.tmps.getD 18 undef = u := ⟨_, rfl⟩
  have v12 : A.tmps.getD 19 undef = _ := hval 12 (by decide)
  have v13 : A.tmps.getD 20 undef = _ := hval 13 (by decide)
  have v14 : A.tmps.getD 21 undef = _ := hval 14 (by decide)
  have v15 : A.tmps.getD 22 undef = _ := hval 15 (by decide)
  have v16 : A.tmps.getD 23 undef = _ := hval 16 (by decide)
  have v17 : A.tmps.getD 24 undef = _ := hval 17 (by decide)
  have v18 : A.tmps.getD 25 undef = _ := hval 18 (by decide)
  have v19 : A.tmps.getD 26 undef = _ := hval 19 (by decide)
  have v20 : A.tmps.getD 27 undef = _ := hval 20 (by decide)
  have v21 : A.tmps.getD 28 undef = _ := hval 21 (by decide)
  have v22 : A.tmps.getD 29 undef = _ := hval 22 (by decide)
  have v23 : A.tmps.getD 30 undef = _ := hval 23 (by decide)
  have v24 : A.tmps.getD 31 undef = _ := hval 24 (by decide)
  have v25 : A.tmps.getD 32 undef = _ := hval 25 (by decide)
  have v26 : A.tmps.getD 33 undef = _ := hval 26 (by decide)
  have v27 : A.tmps.getD 34 undef = _ := hval 27 (by decide)
  have v28 : A.tmps.getD 35 undef = _ := hval 28 (by decide)
  have v29 : A.tmps.getD 36 undef = _ := hval 29 (by decide)
  have v30 : A.tmps.getD 37 undef = _ := hval 30 (by decide)
  have v31 : A.tmps.getD 38 undef = _ := hval 31 (by decide)
  have v32 : A.tmps.getD 39 undef = _ := hval 32 (by decide)
  have v33 : A.tmps.getD 40 undef = _ := hval 33 (by decide)
  have v34 : A.tmps.getD 41 undef = _ := hval 34 (by decide)
  have v35 : A.tmps.getD 42 undef = _ := hval 35 (by decide)
  have v36 : A.tmps.getD 43 undef = _ := hval 36 (by decide)
  have v37 : A.tmps.getD 44 undef = _ := hval 37 (by decide)
  have v38 : A.tmps.getD 45 undef = _ := hval 38 (by decide)
  have v39 : A.tmps.getD 46 undef = _ := hval 39 (by decide)
  have v40 : A.tmps.getD 47 undef = _ := hval 40 (by decide)
  have v41 : A.tmps.getD 48 undef = _ := hval 41 (by decide)
  have v42 : A.tmps.getD 49 undef = _ := hval 42 (by decide)
  have v43 : A.tmps.getD 50 undef = _ := hval 43 (by decide)
  have v44 : A.tmps.getD 51 undef = _ := hval 44 (by decide)
  have v45 : A.tmps.getD 52 undef = _ := hval 45 (by decide)
  have v46 : A.tmps.getD 53 undef = _ := hval 46 (by decide)
  have hA := tower_pairs (a := A) [(7, .pointer (some ⟨w.heap.size, 0, none⟩)), (8, .int .i64 k), (9, .pointer (some ⟨w.heap.size + 1, 0, none⟩)), (10, .int .i64 k), (11, .bool false), (12, .bool false), (13, .pointer (some ⟨w.heap.size, 1, none⟩)), (14, .agg #[.bool g, .slice la ln lc]), (15, u8), (16, .pointer (some ⟨w.heap.size + 1, 1, none⟩)), (17, .agg #[.bool g, .slice la' ln' lc']), (18, u11), (19, .bool true), (20, .bool false), (21, .bool false), (22, .bool false), (23, .pointer (some ⟨w.heap.size, 3, none⟩)), (24, .bool bb), (25, .pointer (some ⟨w.heap.size + 1, 3, none⟩)), (26, .bool bb), (27, .bool false), (28, .bool false), (29, .bool false), (30, .pointer (some ⟨w.heap.size, 4, none⟩)), (31, .string s), (32, .pointer (some ⟨w.heap.size + 1, 4, none⟩)), (33, .string s), (34, .bool false), (35, .bool false), (36, .bool false), (37, .pointer (some ⟨w.heap.size, 5, none⟩)), (38, .slice ia n ic), (39, .int .i64 n), (40, .pointer (some ⟨w.heap.size + 1, 5, none⟩)), (41, .slice ia' n ic'), (42, .int .i64 n), (43, .bool false), (44, .bool false), (45, .bool false), (46, .pointer (some ⟨w.heap.size, 6, none⟩)), (47, .slice ta m tc), (48, .int .i64 m), (49, .pointer (some ⟨w.heap.size + 1, 6, none⟩)), (50, .slice ta' m tc'), (51, .int .i64 m), (52, .bool false), (53, .bool false)] ?_ ?_ hdf hsz (fun m hm => hoth m (fun j hj => by
    simp only [List.forall_mem_cons] at hm
    obtain ⟨k0, k1, k2, k3, k4, k5, k6, k7, k8, k9, k10, k11, k12, k13, k14, k15, k16, k17, k18, k19, k20, k21, k22, k23, k24, k25, k26, k27, k28, k29, k30, k31, k32, k33, k34, k35, k36, k37, k38, k39, k40, k41, k42, k43, k44, k45, k46, -⟩ := hm
    rcases (show j = 0 ∨ j = 1 ∨ j = 2 ∨ j = 3 ∨ j = 4 ∨ j = 5 ∨ j = 6 ∨ j = 7 ∨ j = 8 ∨ j = 9 ∨ j = 10 ∨ j = 11 ∨ j = 12 ∨ j = 13 ∨ j = 14 ∨ j = 15 ∨ j = 16 ∨ j = 17 ∨ j = 18 ∨ j = 19 ∨ j = 20 ∨ j = 21 ∨ j = 22 ∨ j = 23 ∨ j = 24 ∨ j = 25 ∨ j = 26 ∨ j = 27 ∨ j = 28 ∨ j = 29 ∨ j = 30 ∨ j = 31 ∨ j = 32 ∨ j = 33 ∨ j = 34 ∨ j = 35 ∨ j = 36 ∨ j = 37 ∨ j = 38 ∨ j = 39 ∨ j = 40 ∨ j = 41 ∨ j = 42 ∨ j = 43 ∨ j = 44 ∨ j = 45 ∨ j = 46 by omega) with rfl | rfl | rfl | rfl | rfl | rfl | rfl | rfl | rfl | rfl | rfl | rfl | rfl | rfl | rfl | rfl | rfl | rfl | rfl | rfl | rfl | rfl | rfl | rfl | rfl | rfl | rfl | rfl | rfl | rfl | rfl | rfl | rfl | rfl | rfl | rfl | rfl | rfl | rfl | rfl | rfl | rfl | rfl | rfl | rfl | rfl | rfl
    · exact k0
    · exact k1
    · exact k2
    · exact k3
    · exact k4
    · exact k5
    · exact k6
    · exact k7
    · exact k8
    · exact k9
    · exact k10
    · exact k11
    · exact k12
    · exact k13
    · exact k14
    · exact k15
    · exact k16
    · exact k17
    · exact k18
    · exact k19
    · exact k20
    · exact k21
    · exact k22
    · exact k23
    · exact k24
    · exact k25
    · exact k26
    · exact k27
    · exact k28
    · exact k29
    · exact k30
    · exact k31
    · exact k32
    · exact k33
    · exact k34
    · exact k35
    · exact k36
    · exact k37
    · exact k38
    · exact k39
    · exact k40
    · exact k41
    · exact k42
    · exact k43
    · exact k44
    · exact k45
    · exact k46))
  rotate_left
  · intro p hp
    simp only [List.mem_cons, List.not_mem_nil, or_false] at hp
    rcases hp with rfl | rfl | rfl | rfl | rfl | rfl | rfl | rfl | rfl | rfl | rfl | rfl | rfl | rfl | rfl | rfl | rfl | rfl | rfl | rfl | rfl | rfl | rfl | rfl | rfl | rfl | rfl | rfl | rfl | rfl | rfl | rfl | rfl | rfl | rfl | rfl | rfl | rfl | rfl | rfl | rfl | rfl | rfl | rfl | rfl | rfl | rfl <;> simp
  · intro p hp
    simp only [List.mem_cons, List.not_mem_nil, or_false] at hp
    rcases hp with rfl | rfl | rfl | rfl | rfl | rfl | rfl | rfl | rfl | rfl | rfl | rfl | rfl | rfl | rfl | rfl | rfl | rfl | rfl | rfl | rfl | rfl | rfl | rfl | rfl | rfl | rfl | rfl | rfl | rfl | rfl | rfl | rfl | rfl | rfl | rfl | rfl | rfl | rfl | rfl | rfl | rfl | rfl | rfl | rfl | rfl | rfl
    · exact v0
    · exact v1
    · exact v2
    · exact v3
    · exact v4
    · exact v5
    · exact v6
    · exact v7
    · exact v8
    · exact v9
    · exact v10
    · exact v11
    · exact v12
    · exact v13
    · exact v14
    · exact v15
    · exact v16
    · exact v17
    · exact v18
    · exact v19
    · exact v20
    · exact v21
    · exact v22
    · exact v23
    · exact v24
    · exact v25
    · exact v26
    · exact v27
    · exact v28
    · exact v29
    · exact v30
    · exact v31
    · exact v32
    · exact v33
    · exact v34
    · exact v35
    · exact v36
    · exact v37
    · exact v38
    · exact v39
    · exact v40
    · exact v41
    · exact v42
    · exact v43
    · exact v44
    · exact v45
    · exact v46
  clear v0 v1 v2 v3 v4 v5 v6 v7 v8 v9 v10 v11 v12 v13 v14 v15 v16 v17 v18 v19 v20 v21 v22 v23 v24 v25 v26 v27 v28 v29 v30 v31 v32 v33 v34 v35 v36 v37 v38 v39 v40 v41 v42 v43 v44 v45 v46 hval hoth hsz hdf
  subst hA
  simp only [List.foldl, Act.put, List.setIfInBounds_toArray, List.set_cons_zero, List.set_cons_succ]
  show wpOps _ _ _ [] _ _
  simp only [wpOps]
  have q5 := cell_at HA.out.1 hb9 5 rfl
  have HB9 := Lib.hid hb9
  clear hb9
  go_wp2_with fail
  clear q5
  go_loopw [57] (fun i wr => ∃ q : Nat, q ≤ n ∧ i = .int .i64 q ∧ Below w2.heap.size w2 wr) (fun i _ => n - (intOf i).toNat)
  case atStart => exact ⟨0, Nat.zero_le _, rfl, HB9.out⟩
  case round =>
    obtain ⟨q, hq, rfl, hb2⟩ := hrel
    by_cases hlt : q < n
    · obtain ⟨ab, ao, hae, hR1⟩ : ∃ ab ao, ia = some ⟨ab, ao, none⟩ ∧ LiesR w M items ab ao := ⟨_, _, (HH.out.1.1.2.2.1 (by omega)).1, HH.out.1.2.2.1⟩
      subst hae
      obtain ⟨cb, co, hce, hR2⟩ : ∃ ab ao, ia' = some ⟨ab, ao, none⟩ ∧ LiesR w M items' ab ao := ⟨_, _, (HH.out.2.1.2.2.1 (by omega)).1, HH.out.2.2.2.1⟩
      subst hce
      have hq2 : q < items'.length := by omega
      have hq1 : q < items.length := by omega
      obtain ⟨_, hcx, hhx⟩ := lies_held.1 ((liesR_iff _ _ _).1 hR1 q hq1)
      obtain ⟨_, hcy, hhy⟩ := lies_held.1 ((liesR_iff _ _ _).1 hR2 q hq2)
      have hsz := size_in items q hq1
      have hsh := trims_nth HS.out.1 q hq1 hq2
      have htx := tameR_at items q hq1 HT.out.1.1
      have hty := tameR_at items' q hq2 HT.out.2.1
      obtain ⟨x, hx⟩ : ∃ x, items[q] = x := ⟨_, rfl⟩
      obtain ⟨y, hy⟩ : ∃ y, items'[q] = y := ⟨_, rfl⟩
      rw [hx] at hcx hhx hsz hsh htx
      rw [hy] at hcy hhy hsh hty
      rw [Nat.mul_comm 7 q] at hcx hcy
      have hbw2 : Below w.heap.size w wr := HA.out.2.2.2.trans (hb2.mono HA.out.2.2.2.size)
      have HX := Lib.hid (And.intro (seven_below (w' := wr) hcx (by have := (lies_held.1 ((liesR_iff _ _ _).1 hR1 q hq1)).1; omega) hbw2) (And.intro (seven_below (w' := wr) hcy (by have := (lies_held.1 ((liesR_iff _ _ _).1 hR2 q hq2)).1; omega) hbw2) (fun W (hb : Below wr.heap.size wr W) => IH.out x y (by omega) hsh htx hty W (by have := hbw2.size; have := hb.size; omega) ((hhx.below hM hbw2).below (by have := hbw2.size; omega) hb) ((hhy.below hM hbw2).below (by have := hbw2.size; omega) hb))))
      clear hcx hhx hcy hhy hsz hsh htx hty hx hy hR1 hR2 hq1 hq2
      go_wp2_with fail
      refine wp_region_phases (nA := 12) (by kernel_rfl) (by kernel_rfl) (fun i => 60 + i)
        (fun i W v => match i with
          | 0 => v = .pointer (some ⟨w.heap.size, 5, none⟩)
          | 1 => v = .slice (some ⟨ab, ao, none⟩) n ic
          | 2 => v = .int .i64 (q : Nat)
          | 3 => v = .pointer (some ⟨ab, ao + q * 7, none⟩)
          | 4 => v = .agg #[.int .i64 x.k, .bool x.g, .slice x.la x.ln x.lc, .bool x.bb, .string x.s, .slice x.ia x.items.length x.ic, .slice x.ta x.tail.length x.tc]
          | 5 => v = .pointer (some ⟨w.heap.size + 1, 5, none⟩)
          | 6 => v = .slice (some ⟨cb, co, none⟩) n ic'
          | 7 => v = .int .i64 (q : Nat)
          | 8 => v = .pointer (some ⟨cb, co + q * 7, none⟩)
          | 9 => v = .agg #[.int .i64 y.k, .bool y.g, .slice y.la y.ln y.lc, .bool y.bb, .string y.s, .slice y.ia y.items.length y.ic, .slice y.ta y.tail.length y.tc]
          | 10 => v = .bool true
          | _ => v = .bool false) (by decide) (by kernel_rfl)
        (fun i j hi hj h => by omega) (fun i hi => by simp only [List.size_toArray, List.length_cons, List.length_nil]; omega) ?_ ?_ ?_
      · intro i hi W W' v h hb
        rcases (show i = 0 ∨ i = 1 ∨ i = 2 ∨ i = 3 ∨ i = 4 ∨ i = 5 ∨ i = 6 ∨ i = 7 ∨ i = 8 ∨ i = 9 ∨ i = 10 ∨ i = 11 by omega) with rfl | rfl | rfl | rfl | rfl | rfl | rfl | rfl | rfl | rfl | rfl | rfl
        · exact h
        · exact h
        · exact h
        · exact h
        · exact h
        · exact h
        · exact h
        · exact h
        · exact h
        · exact h
        · exact h
        · exact h
      · intro i hi l A W I hdep
        rcases (show i = 0 ∨ i = 1 ∨ i = 2 ∨ i = 3 ∨ i = 4 ∨ i = 5 ∨ i = 6 ∨ i = 7 ∨ i = 8 ∨ i = 9 ∨ i = 10 ∨ i = 11 by omega) with rfl | rfl | rfl | rfl | rfl | rfl | rfl | rfl | rfl | rfl | rfl | rfl
        · exact wpOp_valW rfl (rfl) (exec_f4 rfl ((I.other 2 (by intro j hj; omega)).trans rfl)) ⟨_, rfl, rfl, Below.refl _ _⟩
        · have v0 : A.tmps.getD 60 undef = _ := I.val 0 (by decide) (hdep 0 (by kernel_rfl))
          exact wpOp_valW rfl (rfl) (exec_ldS rfl v0 (cell_at HA.out.1 (hb2.trans (I.below.mono hb2.size)) 5 rfl)) ⟨_, rfl, rfl, Below.refl _ _⟩
        · exact wpOp_valW rfl (rfl) (exec_moveV rfl ((I.other 5 (by intro j hj; omega)).trans rfl)) ⟨_, rfl, rfl, Below.refl _ _⟩
        · have v1 : A.tmps.getD 61 undef = _ := I.val 1 (by decide) (hdep 1 (by kernel_rfl))
          have v2 : A.tmps.getD 62 undef = _ := I.val 2 (by decide) (hdep 2 (by kernel_rfl))
          exact wpOp_valW rfl (rfl) (exec_ixq rfl v1 v2 hlt) ⟨_, rfl, rfl, Below.refl _ _⟩
        · have v3 : A.tmps.getD 63 undef = _ := I.val 3 (by decide) (hdep 3 (by kernel_rfl))
          exact wpOp_valW rfl (rfl) (exec_loadD rfl v3 (seven_keep HX.out.1 I.below)) ⟨_, rfl, rfl, Below.refl _ _⟩
        · exact wpOp_valW rfl (rfl) (exec_f4 rfl ((I.other 3 (by intro j hj; omega)).trans rfl)) ⟨_, rfl, rfl, Below.refl _ _⟩
        · have v5 : A.tmps.getD 65 undef = _ := I.val 5 (by decide) (hdep 5 (by kernel_rfl))
          exact wpOp_valW rfl (rfl) (exec_ldS rfl v5 (cell_at HA.out.2.1 (hb2.trans (I.below.mono hb2.size)) 5 rfl)) ⟨_, rfl, rfl, Below.refl _ _⟩
        · exact wpOp_valW rfl (rfl) (exec_moveV rfl ((I.other 5 (by intro j hj; omega)).trans rfl)) ⟨_, rfl, rfl, Below.refl _ _⟩
        · have v6 : A.tmps.getD 66 undef = _ := I.val 6 (by decide) (hdep 6 (by kernel_rfl))
          have v7 : A.tmps.getD 67 undef = _ := I.val 7 (by decide) (hdep 7 (by kernel_rfl))
          exact wpOp_valW rfl (rfl) (exec_ixq rfl v6 v7 hlt) ⟨_, rfl, rfl, Below.refl _ _⟩
        · have v8 : A.tmps.getD 68 undef = _ := I.val 8 (by decide) (hdep 8 (by kernel_rfl))
          exact wpOp_valW rfl (rfl) (exec_loadD rfl v8 (seven_keep HX.out.2.1 I.below)) ⟨_, rfl, rfl, Below.refl _ _⟩
        · have v4 : A.tmps.getD 64 undef = _ := I.val 4 (by decide) (hdep 4 (by kernel_rfl))
          have v9 : A.tmps.getD 69 undef = _ := I.val 9 (by decide) (hdep 9 (by kernel_rfl))
          refine wpOp_callW rfl (rfl) ((exec_call2 rfl).trans (by rw [v4, v9])) (by simp [go_sem]) (HX.out.2.2 W I.below) ?_
          rintro e W' ⟨rfl, b⟩
          exact ⟨_, rfl, _, rfl, rfl, b⟩
        · have v10 : A.tmps.getD 70 undef = _ := I.val 10 (by decide) (hdep 10 (by kernel_rfl))
          exact wpOp_valW rfl (rfl) (exec_not rfl v10) ⟨_, rfl, rfl, Below.refl _ _⟩
      intro A w9 hdf hsz hoth hval hb9
      have v0 : A.tmps.getD 60 undef = _ := hval 0 (by decide)
      have v1 : A.tmps.getD 61 undef = _ := hval 1 (by decide)
      have v2 : A.tmps.getD 62 undef = _ := hval 2 (by decide)
      have v3 : A.tmps.getD 63 undef = _ := hval 3 (by decide)
      have v4 : A.tmps.getD 64 undef = _ := hval 4 (by decide)
      have v5 : A.tmps.getD 65 undef = _ := hval 5 (by decide)
      have v6 : A.tmps.getD 66 undef = _ := hval 6 (by decide)
      have v7 : A.tmps.getD 67 undef = _ := hval 7 (by decide)
      have v8 : A.tmps.getD 68 undef = _ := hval 8 (by decide)
      have v9 : A.tmps.getD 69 undef = _ := hval 9 (by decide)
      have v10 : A.tmps.getD 70 undef = _ := hval 10 (by decide)
      have v11 : A.tmps.getD 71 undef = _ := hval 11 (by decide)
      have hA := tower_pairs (a := A) [(60, .pointer (some ⟨w.heap.size, 5, none⟩)), (61, .slice (some ⟨ab, ao, none⟩) n ic), (62, .int .i64 (q : Nat)), (63, .pointer (some ⟨ab, ao + q * 7, none⟩)), (64, .agg #[.int .i64 x.k, .bool x.g, .slice x.la x.ln x.lc, .bool x.bb, .string x.s, .slice x.ia x.items.length x.ic, .slice x.ta x.tail.length x.tc]), (65, .pointer (some ⟨w.heap.size + 1, 5, none⟩)), (66, .slice (some ⟨cb, co, none⟩) n ic'), (67, .int .i64 (q : Nat)), (68, .pointer (some ⟨cb, co + q * 7, none⟩)), (69, .agg #[.int .i64 y.k, .bool y.g, .slice y.la y.ln y.lc, .bool y.bb, .string y.s, .slice y.ia y.items.length y.ic, .slice y.ta y.tail.length y.tc]), (70, .bool true), (71, .bool false)] ?_ ?_ hdf hsz (fun m hm => hoth m (fun j hj => by
        simp only [List.forall_mem_cons] at hm
        obtain ⟨k0, k1, k2, k3, k4, k5, k6, k7, k8, k9, k10, k11, -⟩ := hm
        rcases (show j = 0 ∨ j = 1 ∨ j = 2 ∨ j = 3 ∨ j = 4 ∨ j = 5 ∨ j = 6 ∨ j = 7 ∨ j = 8 ∨ j = 9 ∨ j = 10 ∨ j = 11 by omega) with rfl | rfl | rfl | rfl | rfl | rfl | rfl | rfl | rfl | rfl | rfl | rfl
        · exact k0
        · exact k1
        · exact k2
        · exact k3
        · exact k4
        · exact k5
        · exact k6
        · exact k7
        · exact k8
        · exact k9
        · exact k10
        · exact k11))
      rotate_left
      · intro p hp
        simp only [List.mem_cons, List.not_mem_nil, or_false] at hp
        rcases hp with rfl | rfl | rfl | rfl | rfl | rfl | rfl | rfl | rfl | rfl | rfl | rfl <;> simp
      · intro p hp
        simp only [List.mem_cons, List.not_mem_nil, or_false] at hp
        rcases hp with rfl | rfl | rfl | rfl | rfl | rfl | rfl | rfl | rfl | rfl | rfl | rfl
        · exact v0
        · exact v1
        · exact v2
        · exact v3
        · exact v4
        · exact v5
        · exact v6
        · exact v7
        · exact v8
        · exact v9
        · exact v10
        · exact v11
      clear v0 v1 v2 v3 v4 v5 v6 v7 v8 v9 v10 v11 hval hoth hsz hdf
      subst hA
      simp only [List.foldl, Act.put, List.setIfInBounds_toArray, List.set_cons_zero, List.set_cons_succ]
      show wpOps _ _ _ [] _ _
      simp only [wpOps]
      have hb9' := hb2.trans (hb9.mono hb2.size)
      clear hb9 hb2 hbw2
      go_wp2_with fail
      go_roundw
      case rel => exact ⟨q + 1, by omega, by go_num, hb9'⟩
      case measure => simp [intOf]; omega
    · have q6 := cell_at HA.out.1 hb2 6 rfl
      have HB2 := Lib.hid hb2
      clear hb2
      go_wp2_with fail
      clear q6 hlt
      go_loopw [76] (fun i wr => ∃ q : Nat, q ≤ m ∧ i = .int .i64 q ∧ Below w2.heap.size w2 wr) (fun i _ => m - (intOf i).toNat)
      case atStart => exact ⟨0, Nat.zero_le _, rfl, HB2.out⟩
      case round =>
        obtain ⟨q, hq, rfl, hb2⟩ := hrel
        by_cases hlt : q < m
        · obtain ⟨ab, ao, hae, hR1⟩ : ∃ ab ao, ta = some ⟨ab, ao, none⟩ ∧ LiesR w M tail ab ao := ⟨_, _, (HH.out.1.2.1.2.2.1 (by omega)).1, HH.out.1.2.2.2⟩
          subst hae
          obtain ⟨cb, co, hce, hR2⟩ : ∃ ab ao, ta' = some ⟨ab, ao, none⟩ ∧ LiesR w M tail' ab ao := ⟨_, _, (HH.out.2.2.1.2.2.1 (by omega)).1, HH.out.2.2.2.2⟩
          subst hce
          have hq2 : q < tail'.length := by omega
          have hq1 : q < tail.length := by omega
          obtain ⟨_, hcx, hhx⟩ := lies_held.1 ((liesR_iff _ _ _).1 hR1 q hq1)
          obtain ⟨_, hcy, hhy⟩ := lies_held.1 ((liesR_iff _ _ _).1 hR2 q hq2)
          have hsz := size_in tail q hq1
          have hsh := trims_nth HS.out.2 q hq1 hq2
          have htx := tameR_at tail q hq1 HT.out.1.2
          have hty := tameR_at tail' q hq2 HT.out.2.2
          obtain ⟨x, hx⟩ : ∃ x, tail[q] = x := ⟨_, rfl⟩
          obtain ⟨y, hy⟩ : ∃ y, tail'[q] = y := ⟨_, rfl⟩
          rw [hx] at hcx hhx hsz hsh htx
          rw [hy] at hcy hhy hsh hty
          rw [Nat.mul_comm 7 q] at hcx hcy
          have hbw2 : Below w.heap.size w wr := HA.out.2.2.2.trans (hb2.mono HA.out.2.2.2.size)
          have HX := Lib.hid (And.intro (seven_below (w' := wr) hcx (by have := (lies_held.1 ((liesR_iff _ _ _).1 hR1 q hq1)).1; omega) hbw2) (And.intro (seven_below (w' := wr) hcy (by have := (lies_held.1 ((liesR_iff _ _ _).1 hR2 q hq2)).1; omega) hbw2) (fun W (hb : Below wr.heap.size wr W) => IH.out x y (by omega) hsh htx hty W (by have := hbw2.size; have := hb.size; omega) ((hhx.below hM hbw2).below (by have := hbw2.size; omega) hb) ((hhy.below hM hbw2).below (by have := hbw2.size; omega) hb))))
          clear hcx hhx hcy hhy hsz hsh htx hty hx hy hR1 hR2 hq1 hq2
          go_wp2_with fail
          refine wp_region_phases (nA := 12) (by kernel_rfl) (by kernel_rfl) (fun i => 79 + i)
            (fun i W v => match i with
              | 0 => v = .pointer (some ⟨w.heap.size, 6, none⟩)
              | 1 => v = .slice (some ⟨ab, ao, none⟩) m tc
              | 2 => v = .int .i64 (q : Nat)
              | 3 => v = .pointer (some ⟨ab, ao + q * 7, none⟩)
              | 4 => v = .agg #[.int .i64 x.k, .bool x.g, .slice x.la x.ln x.lc, .bool x.bb, .string x.s, .slice x.ia x.items.length x.ic, .slice x.ta x.tail.length x.tc]
              | 5 => v = .pointer (some ⟨w.heap.size + 1, 6, none⟩)
              | 6 => v = .slice (some ⟨cb, co, none⟩) m tc'
              | 7 => v = .int .i64 (q : Nat)
              | 8 => v = .pointer (some ⟨cb, co + q * 7, none⟩)
              | 9 => v = .agg #[.int .i64 y.k, .bool y.g, .slice y.la y.ln y.lc, .bool y.bb, .string y.s, .slice y.ia y.items.length y.ic, .slice y.ta y.tail.length y.tc]
              | 10 => v = .bool true
              | _ => v = .bool false) (by decide) (by kernel_rfl)
            (fun i j hi hj h => by omega) (fun i hi => by simp only [List.size_toArray, List.length_cons, List.length_nil]; omega) ?_ ?_ ?_
          · intro i hi W W' v h hb
            rcases (show i = 0 ∨ i = 1 ∨ i = 2 ∨ i = 3 ∨ i = 4 ∨ i = 5 ∨ i = 6 ∨ i = 7 ∨ i = 8 ∨ i = 9 ∨ i = 10 ∨ i = 11 by omega) with rfl | rfl | rfl | rfl | rfl | rfl | rfl | rfl | rfl | rfl | rfl | rfl
            · exact h
            · exact h
            · exact h
            · exact h
            · exact h
            · exact h
            · exact h
            · exact h
            · exact h
            · exact h
            · exact h
            · exact h
          · intro i hi l A W I hdep
            rcases (show i = 0 ∨ i = 1 ∨ i = 2 ∨ i = 3 ∨ i = 4 ∨ i = 5 ∨ i = 6 ∨ i = 7 ∨ i = 8 ∨ i = 9 ∨ i = 10 ∨ i = 11 by omega) with rfl | rfl | rfl | rfl | rfl | rfl | rfl | rfl | rfl | rfl | rfl | rfl
            · exact wpOp_valW rfl (rfl) (exec_f5 rfl ((I.other 2 (by intro j hj; omega)).trans rfl)) ⟨_, rfl, rfl, Below.refl _ _⟩
            · have v0 : A.tmps.getD 79 undef = _ := I.val 0 (by decide) (hdep 0 (by kernel_rfl))
              exact wpOp_valW rfl (rfl) (exec_ldS rfl v0 (cell_at HA.out.1 (hb2.trans (I.below.mono hb2.size)) 6 rfl)) ⟨_, rfl, rfl, Below.refl _ _⟩
            · exact wpOp_valW rfl (rfl) (exec_moveV rfl ((I.other 6 (by intro j hj; omega)).trans rfl)) ⟨_, rfl, rfl, Below.refl _ _⟩
            · have v1 : A.tmps.getD 80 undef = _ := I.val 1 (by decide) (hdep 1 (by kernel_rfl))
              have v2 : A.tmps.getD 81 undef = _ := I.val 2 (by decide) (hdep 2 (by kernel_rfl))
              exact wpOp_valW rfl (rfl) (exec_ixq rfl v1 v2 hlt) ⟨_, rfl, rfl, Below.refl _ _⟩
            · have v3 : A.tmps.getD 82 undef = _ := I.val 3 (by decide) (hdep 3 (by kernel_rfl))
              exact wpOp_valW rfl (rfl) (exec_loadD rfl v3 (seven_keep HX.out.1 I.below)) ⟨_, rfl, rfl, Below.refl _ _⟩
            · exact wpOp_valW rfl (rfl) (exec_f5 rfl ((I.other 3 (by intro j hj; omega)).trans rfl)) ⟨_, rfl, rfl, Below.refl _ _⟩
            · have v5 : A.tmps.getD 84 undef = _ := I.val 5 (by decide) (hdep 5 (by kernel_rfl))
              exact wpOp_valW rfl (rfl) (exec_ldS rfl v5 (cell_at HA.out.2.1 (hb2.trans (I.below.mono hb2.size)) 6 rfl)) ⟨_, rfl, rfl, Below.refl _ _⟩
            · exact wpOp_valW rfl (rfl) (exec_moveV rfl ((I.other 6 (by intro j hj; omega)).trans rfl)) ⟨_, rfl, rfl, Below.refl _ _⟩
            · have v6 : A.tmps.getD 85 undef = _ := I.val 6 (by decide) (hdep 6 (by kernel_rfl))
              have v7 : A.tmps.getD 86 undef = _ := I.val 7 (by decide) (hdep 7 (by kernel_rfl))
              exact wpOp_valW rfl (rfl) (exec_ixq rfl v6 v7 hlt) ⟨_, rfl, rfl, Below.refl _ _⟩
            · have v8 : A.tmps.getD 87 undef = _ := I.val 8 (by decide) (hdep 8 (by kernel_rfl))
              exact wpOp_valW rfl (rfl) (exec_loadD rfl v8 (seven_keep HX.out.2.1 I.below)) ⟨_, rfl, rfl, Below.refl _ _⟩
            · have v4 : A.tmps.getD 83 undef = _ := I.val 4 (by decide) (hdep 4 (by kernel_rfl))
              have v9 : A.tmps.getD 88 undef = _ := I.val 9 (by decide) (hdep 9 (by kernel_rfl))
              refine wpOp_callW rfl (rfl) ((exec_call2 rfl).trans (by rw [v4, v9])) (by simp [go_sem]) (HX.out.2.2 W I.below) ?_
              rintro e W' ⟨rfl, b⟩
              exact ⟨_, rfl, _, rfl, rfl, b⟩
            · have v10 : A.tmps.getD 89 undef = _ := I.val 10 (by decide) (hdep 10 (by kernel_rfl))
              exact wpOp_valW rfl (rfl) (exec_not rfl v10) ⟨_, rfl, rfl, Below.refl _ _⟩
          intro A w9 hdf hsz hoth hval hb9
          have v0 : A.tmps.getD 79 undef = _ := hval 0 (by decide)
          have v1 : A.tmps.getD 80 undef = _ := hval 1 (by decide)
          have v2 : A.tmps.getD 81 undef = _ := hval 2 (by decide)
          have v3 : A.tmps.getD 82 undef = _ := hval 3 (by decide)
          have v4 : A.tmps.getD 83 undef = _ := hval 4 (by decide)
          have v5 : A.tmps.getD 84 undef = _ := hval 5 (by decide)
          have v6 : A.tmps.getD 85 undef = _ := hval 6 (by decide)
          have v7 : A.tmps.getD 86 undef = _ := hval 7 (by decide)
          have v8 : A.tmps.getD 87 undef = _ := hval 8 (by decide)
          have v9 : A.tmps.getD 88 undef = _ := hval 9 (by decide)
          have v10 : A.tmps.getD 89 undef = _ := hval 10 (by decide)
          have v11 : A.tmps.getD 90 undef = _ := hval 11 (by decide)
          have hA := tower_pairs (a := A) [(79, .pointer (some ⟨w.heap.size, 6, none⟩)), (80, .slice (some ⟨ab, ao, none⟩) m tc), (81, .int .i64 (q : Nat)), (82, .pointer (some ⟨ab, ao + q * 7, none⟩)), (83, .agg #[.int .i64 x.k, .bool x.g, .slice x.la x.ln x.lc, .bool x.bb, .string x.s, .slice x.ia x.items.length x.ic, .slice x.ta x.tail.length x.tc]), (84, .pointer (some ⟨w.heap.size + 1, 6, none⟩)), (85, .slice (some ⟨cb, co, none⟩) m tc'), (86, .int .i64 (q : Nat)), (87, .pointer (some ⟨cb, co + q * 7, none⟩)), (88, .agg #[.int .i64 y.k, .bool y.g, .slice y.la y.ln y.lc, .bool y.bb, .string y.s, .slice y.ia y.items.length y.ic, .slice y.ta y.tail.length y.tc]), (89, .bool true), (90, .bool false)] ?_ ?_ hdf hsz (fun m hm => hoth m (fun j hj => by
            simp only [List.forall_mem_cons] at hm
            obtain ⟨k0, k1, k2, k3, k4, k5, k6, k7, k8, k9, k10, k11, -⟩ := hm
            rcases (show j = 0 ∨ j = 1 ∨ j = 2 ∨ j = 3 ∨ j = 4 ∨ j = 5 ∨ j = 6 ∨ j = 7 ∨ j = 8 ∨ j = 9 ∨ j = 10 ∨ j = 11 by omega) with rfl | rfl | rfl | rfl | rfl | rfl | rfl | rfl | rfl | rfl | rfl | rfl
            · exact k0
            · exact k1
            · exact k2
            · exact k3
            · exact k4
            · exact k5
            · exact k6
            · exact k7
            · exact k8
            · exact k9
            · exact k10
            · exact k11))
          rotate_left
          · intro p hp
            simp only [List.mem_cons, List.not_mem_nil, or_false] at hp
            rcases hp with rfl | rfl | rfl | rfl | rfl | rfl | rfl | rfl | rfl | rfl | rfl | rfl <;> simp
          · intro p hp
            simp only [List.mem_cons, List.not_mem_nil, or_false] at hp
            rcases hp with rfl | rfl | rfl | rfl | rfl | rfl | rfl | rfl | rfl | rfl | rfl | rfl
            · exact v0
            · exact v1
            · exact v2
            · exact v3
            · exact v4
            · exact v5
            · exact v6
            · exact v7
            · exact v8
            · exact v9
            · exact v10
            · exact v11
          clear v0 v1 v2 v3 v4 v5 v6 v7 v8 v9 v10 v11 hval hoth hsz hdf
          subst hA
          simp only [List.foldl, Act.put, List.setIfInBounds_toArray, List.set_cons_zero, List.set_cons_succ]
          show wpOps _ _ _ [] _ _
          simp only [wpOps]
          have hb9' := hb2.trans (hb9.mono hb2.size)
          clear hb9 hb2 hbw2
          go_wp2_with fail
          go_roundw
          case rel => exact ⟨q + 1, by omega, by go_num, hb9'⟩
          case measure => simp [intOf]; omega
        · go_wp2_with fail
          go_ret
          exact ⟨rfl, hbw _ hb2⟩
theorem rs_any (M : Nat) : ∀ N : Nat, N ≤ 1000000 → SameTo M N
  | 0, _, u, _, hu, _, _, _, _, _, _, _ => by rw [u.size_eq] at hu; omega
  | N + 1, hN, u, t, hu, hs, hTu, hTt, w, hM, hU, hTt' => by
    have hsu := u.size_eq
    have hs' := hs
    rw [shape_eq, shape_eq] at hs'
    simp only [trimD] at hs'
    injection hs' with q1 q2 q3 q4 q5 q6 q7
    have l1 : t.items.length = u.items.length := by rw [← shapes_length t.items, ← trimsD_length, ← q6, shapes_length]
    have l2 : t.tail.length = u.tail.length := by rw [← shapes_length t.tail, ← trimsD_length, ← q7, shapes_length]
    obtain ⟨ta1, ta2, ta3⟩ := (tame_eq u).1 hTu
    obtain ⟨tb1, tb2, tb3⟩ := (tame_eq t).1 hTt
    have hv : val u.ys = val t.ys := by rw [q3, limbs_val]
    have hz : (limbs (zOf u.g (val u.ys)).natAbs).length ≤ 1000 := by
      rw [zOf_abs]
      have := limbs_len_val hU.1.1.ok
      have e := hU.1.1.len
      omega
    have hU2 := hU.2
    have hT2 := hTt'.2
    rw [l1, l2] at hT2
    rw [← q1, ← q2, ← q4, ← q5, l1, l2]
    refine rs_walk M N (by omega) (rs_any M N (by omega)) u.k (zOf u.g (val u.ys)) u.g u.bb u.s u.la t.la u.ia t.ia u.ta t.ta u.ln t.ln u.lc t.lc _ _ u.ic t.ic u.tc t.tc u.items t.items u.tail t.tail w hM rfl l1 rfl l2 (by omega) (by omega) hz ⟨q6, q7⟩ ⟨⟨ta2, ta3⟩, tb2, tb3⟩ ⟨fun W hb => ?_, fun W hb => ?_⟩ ⟨hU2, hT2⟩
    · exact rwnorm_num (K := 1000) ⟨u.g, _, val u.ys, rfl, ⟨u.la, u.ln, u.lc, u.ys, rfl, hU.1.1.below hb, rfl, ta1⟩, rfl⟩ (by decide)
    · exact rwnorm_num (K := 1000) ⟨u.g, _, val u.ys, rfl, ⟨t.la, t.ln, t.lc, t.ys, rfl, hTt'.1.1.below hb, hv.symm, tb1⟩, rfl⟩ (by decide)
end Go.Proofs.YtlohdglhebplfaaGreatDoor
