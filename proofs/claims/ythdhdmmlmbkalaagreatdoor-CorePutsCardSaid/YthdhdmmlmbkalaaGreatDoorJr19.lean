/-
  Regions in two parts (of Inv, Two, Ph, Pt). Laws of single operations on expressions. core.boxes.open of a set variable.
-/
import Derived.Test.YthdhdmmlmbkalaaGreatDoorJr0
import Derived.Orders
import Derived.Test.YthdhdmmlmbkalaaGreatDoorJr18
set_option linter.unusedVariables false
set_option linter.unusedSimpArgs false
set_option linter.unusedSectionVars false
set_option linter.unnecessarySimpa false
namespace Go.Proofs.YthdhdmmlmbkalaaGreatDoor
section
open Go.RowKit

section inv
variable {P : Program} {ops : Array Oper} {Q : Exit → Act → World → Prop}
/-- Each operation waits for earlier ones alone. -/
def Rising (ops : Array Oper) : Bool := (List.range ops.size).all fun i => ((ops[i]?).map (fun o => o.after.all fun e => !Region.binds .any e || decide (e.on < i))).getD true
theorem Rising.lt {i : Nat} {o : Oper} {e : Edge} (h : Rising ops = true) (ho : ops[i]? = some o) (he : e ∈ o.after) (hb : Region.binds .any e = true) : e.on < i := by
  have hi : i < ops.size := by
    rcases Nat.lt_or_ge i ops.size with h1 | h1
    · exact h1
    · rw [Array.getElem?_eq_none h1] at ho; cases ho
  have h2 := List.all_eq_true.1 h i (List.mem_range.2 hi)
  rw [ho, Option.map_some, Option.getD_some, Array.all_eq_true'] at h2
  have h3 := h2 e he
  rw [hb] at h3
  simpa using h3
theorem ready_none {listed : Array Bool} (hr : Rising ops = true) (h : Region.ready .any ops listed = []) (hs : listed.size = ops.size) : ∀ i, i < ops.size → listed.getD i false = true := by
  intro i
  induction i using Nat.strongRecOn with
  | _ i ih =>
    intro hi
    apply Classical.byContradiction
    intro hn
    have ho : ops[i]? = some ops[i] := Array.getElem?_eq_getElem hi
    have hm : i ∈ Region.ready .any ops listed := mem_ready.2 ⟨by
      have h1 : i < listed.size := by omega
      rw [Array.getD_eq_getD_getElem?, Array.getElem?_eq_getElem h1, Option.getD_some] at hn ⊢
      simpa using hn, _, ho, fun e he hb => by
      have := Rising.lt hr ho he hb
      exact ih e.on this (by omega)⟩
    rw [h] at hm
    cases hm
theorem listed_set {listed : Array Bool} {i : Nat} (hi : i < listed.size) : (fun j => (listed.setIfInBounds i true).getD j false) = fun j => listed.getD j false || j == i := by
  funext j
  rw [Array.getD_eq_getD_getElem?, Array.getD_eq_getD_getElem?, Array.getElem?_setIfInBounds]
  by_cases h : i = j
  · subst h; simp [hi]
  · rw [if_neg h]
    have : (j == i) = false := by simpa using fun h1 : j = i => h h1.symm
    rw [this, Bool.or_false]
theorem count_set {listed : Array Bool} {i : Nat} (h : listed.getD i true = false) : (listed.setIfInBounds i true).toList.count false + 1 = listed.toList.count false := by
  have hi : i < listed.size := by
    rcases Nat.lt_or_ge i listed.size with h1 | h1
    · exact h1
    · rw [Array.getD_eq_getD_getElem?, Array.getElem?_eq_none h1] at h; cases h
  rw [Array.getD_eq_getD_getElem?, Array.getElem?_eq_getElem hi, Option.getD_some] at h
  rw [Array.toList_setIfInBounds, List.count_set (by simpa using hi)]
  have h2 : listed.toList[i] = false := by simpa using h
  have h3 : 0 < listed.toList.count false := List.count_pos_iff.2 (by rw [← h2]; exact List.getElem_mem _)
  rw [h2, if_pos (by rfl), if_neg (by decide)]
  omega
theorem wpAny_inv (hr : Rising ops = true) (I : (Nat → Bool) → Act → World → Prop)
    (step : ∀ l a w i oi, ops[i]? = some oi → l i = false → (∀ e ∈ oi.after, Region.binds .any e = true → l e.on = true) → I l a w → wpOp P ops Q i (I (fun j => l j || j == i)) a w)
    (done : ∀ l a w, (∀ i, i < ops.size → l i = true) → I l a w → Q .normal a w) :
    ∀ (fuel : Nat) (listed : Array Bool) (a : Act) (w : World), listed.size = ops.size → listed.toList.count false ≤ fuel → I (fun j => listed.getD j false) a w → wpAny P .any ops Q fuel listed a w := by
  intro fuel
  induction fuel with
  | zero =>
    intro listed a w hs hc hI
    have hz : ∀ i, i < ops.size → listed.getD i false = true := by
      intro i hi
      have h1 : i < listed.size := by omega
      rw [Array.getD_eq_getD_getElem?, Array.getElem?_eq_getElem h1, Option.getD_some]
      cases hb : listed[i] with
      | true => rfl
      | false =>
        have h2 : false ∈ listed.toList := by rw [← hb, ← Array.getElem_toList h1]; exact List.getElem_mem _
        have := List.count_pos_iff.2 h2
        omega
    refine ⟨?_, done _ _ _ hz hI⟩
    apply List.eq_nil_iff_forall_not_mem.2
    intro i hi
    obtain ⟨h1, o, ho, -⟩ := mem_ready.1 hi
    have hlt : i < ops.size := by
      rcases Nat.lt_or_ge i ops.size with h1 | h1
      · exact h1
      · rw [Array.getElem?_eq_none h1] at ho; cases ho
    have h2 := hz i hlt
    have h3 : i < listed.size := by omega
    rw [Array.getD_eq_getD_getElem?, Array.getElem?_eq_getElem h3, Option.getD_some] at h1 h2
    rw [h1] at h2; cases h2
  | succ fuel ih =>
    intro listed a w hs hc hI
    refine ⟨fun h0 => done _ _ _ (ready_none hr h0 hs) hI, fun i hi => ?_⟩
    obtain ⟨h1, o, ho, he⟩ := mem_ready.1 hi
    have hlt : i < listed.size := by
      rcases Nat.lt_or_ge i listed.size with h2 | h2
      · exact h2
      · rw [Array.getD_eq_getD_getElem?, Array.getElem?_eq_none h2] at h1; cases h1
    have h1' : listed.getD i false = false := by
      rw [Array.getD_eq_getD_getElem?, Array.getElem?_eq_getElem hlt, Option.getD_some] at h1 ⊢
      exact h1
    refine wpOp_mono (fun a' w' hI' => ?_) (step _ a w i o ho h1' he hI)
    refine ih _ a' w' (by simpa using hs) (by have := count_set h1; omega) ?_
    rw [listed_set hlt]
    exact hI'
theorem wp_region_inv {id : Nat} {a : Act} {w : World} (hm : P.follows .mixedOrders = true) (hr : Rising ops = true) (I : (Nat → Bool) → Act → World → Prop)
    (h0 : I (fun _ => false) a w.drew)
    (step : ∀ l a w i oi, ops[i]? = some oi → l i = false → (∀ e ∈ oi.after, Region.binds .any e = true → l e.on = true) → I l a w → wpOp P ops Q i (I (fun j => l j || j == i)) a w)
    (done : ∀ l a w, (∀ i, i < ops.size → l i = true) → I l a w → Q .normal a w) : (Code.region id ops true).wp P Q a w := by
  refine wp_region_any hm (wpAny_inv hr I step done ops.size _ a _ (by simp) ?_ ?_)
  · simp
  · have : (fun j => (Array.replicate ops.size false).getD j false) = fun _ => false := by
      funext j
      rw [Array.getD_eq_getD_getElem?, Array.getElem?_replicate]
      split <;> rfl
    rw [this]
    exact h0
theorem wpOp_plain {i : Nat} {o : Oper} {a : Act} {w : World} {K : Act → World → Prop} (ho : ops[i]? = some o) (hg : o.guard = none) (h : o.wp P a w K Q) : wpOp P ops Q i K a w := by
  unfold wpOp
  rw [ho]
  simp only [Region.wanted, hg, if_true]
  exact .inl h
end inv
theorem exec_call {P : Program} {a : Act} {w : World} {o : Oper} {f p : Nat} {T : TypeId} (ho : o.op = .call { callee := .value (.func f), args := #[.tmp p], argTypes := #[T] }) :
    (execOp a.eval o).run P w = (callFunc f #[a.tmps.getD p undef]).run P w := by
  simp [execOp, ho, Act.eval, go_sem]
variable {ops : Array Oper} {Q : Exit → Act → World → Prop}
theorem put_get {a : Act} {d n : Nat} {v : Value} (hd : d < a.tmps.size) : (a.put (some d) v).tmps.getD n undef = if n = d then v else a.tmps.getD n undef := by
  unfold Act.put
  simp only [Array.getD_eq_getD_getElem?, Array.getElem?_setIfInBounds]
  by_cases h : d = n
  · subst h; simp [hd]
  · rw [if_neg h, if_neg (fun e => h e.symm)]
section inv
variable {P : Program} {ops : Array Oper} {Q : Exit → Act → World → Prop}
/-- Operation i waits for operation j. -/
def Waits (ops : Array Oper) (i j : Nat) : Bool := ((ops[i]?).map (fun o => o.after.any fun e => Region.binds .any e && (e.on == j))).getD false
theorem Waits.listed {i j : Nat} {o : Oper} {l : Nat → Bool} (h : Waits ops i j = true) (ho : ops[i]? = some o) (he : ∀ e ∈ o.after, Region.binds .any e = true → l e.on = true) : l j = true := by
  unfold Waits at h
  rw [ho, Option.map_some, Option.getD_some, Array.any_eq_true'] at h
  obtain ⟨e, hm, hk⟩ := h
  rw [Bool.and_eq_true] at hk
  have h2 := he e hm hk.1
  rw [beq_iff_eq.1 hk.2] at h2
  exact h2
/-- Operation i waits for operation j, or for one that does. -/
def WaitsT (ops : Array Oper) : Nat → Nat → Nat → Bool
  | 0, i, j => Waits ops i j
  | n + 1, i, j => Waits ops i j || (List.range i).any fun k => Waits ops i k && WaitsT ops n k j
/-- What has come up had all that it waits for. -/
def Whole (ops : Array Oper) (l : Nat → Bool) : Prop := ∀ i o, ops[i]? = some o → l i = true → ∀ e ∈ o.after, Region.binds .any e = true → l e.on = true
theorem Waits.some {i j : Nat} (h : Waits ops i j = true) : ∃ o, ops[i]? = some o := by
  unfold Waits at h
  cases ho : ops[i]? with
  | none => rw [ho] at h; cases h
  | some o => exact ⟨o, rfl⟩
theorem WaitsT.listed {l : Nat → Bool} (hw : Whole ops l) : ∀ (n i j : Nat) (o : Oper), WaitsT ops n i j = true → ops[i]? = some o → (∀ e ∈ o.after, Region.binds .any e = true → l e.on = true) → l j = true := by
  intro n
  induction n with
  | zero => intro i j o h ho he; exact Waits.listed h ho he
  | succ n ih =>
    intro i j o h ho he
    unfold WaitsT at h
    rcases Bool.or_eq_true_iff.1 h with h1 | h1
    · exact Waits.listed h1 ho he
    · obtain ⟨k, -, hk⟩ := List.any_eq_true.1 h1
      rw [Bool.and_eq_true] at hk
      have hlk := Waits.listed hk.1 ho he
      have hso : ∃ ok, ops[k]? = some ok := by
        cases n with
        | zero => exact Waits.some hk.2
        | succ m =>
          have h2 := hk.2
          unfold WaitsT at h2
          rcases Bool.or_eq_true_iff.1 h2 with h3 | h3
          · exact Waits.some h3
          · obtain ⟨k', -, hk'⟩ := List.any_eq_true.1 h3
            rw [Bool.and_eq_true] at hk'
            exact Waits.some hk'.1
      obtain ⟨ok, hok⟩ := hso
      exact ih k j ok hk.2 hok (hw k ok hok hlk)
/-- Operation i waits for all before it. -/
def WaitsAll (ops : Array Oper) (i : Nat) : Bool := (List.range i).all fun j => WaitsT ops 6 i j
theorem WaitsAll.listed {i : Nat} {o : Oper} {l : Nat → Bool} (hw : Whole ops l) (h : WaitsAll ops i = true) (ho : ops[i]? = some o) (he : ∀ e ∈ o.after, Region.binds .any e = true → l e.on = true) : ∀ j, j < i → l j = true := by
  intro j hj
  exact WaitsT.listed hw 6 i j o (List.all_eq_true.1 h j (List.mem_range.2 hj)) ho he
/-- The state of a region's first part: what has come up has its value. -/
structure PhaseI (nA : Nat) (dst : Nat → Nat) (A : Nat → World → Value → Prop) (a0 : Act) (w0 : World) (l : Nat → Bool) (a : Act) (w : World) : Prop where
  defers : a.defers = a0.defers
  size : a.tmps.size = a0.tmps.size
  other : ∀ n, (∀ j, j < nA → n ≠ dst j) → a.tmps.getD n undef = a0.tmps.getD n undef
  below : Below w0.heap.size w0 w
  val : ∀ i, i < nA → l i = true → A i w (a.tmps.getD (dst i) undef)
/-- A region of two parts: the first's operations make values, and change nothing that was there; each of the second part waits for all before it. -/
theorem wp_region_phases {id nA : Nat} {a0 : Act} {w0 : World} (hm : P.follows .mixedOrders = true) (hr : Rising ops = true) (dst : Nat → Nat) (A : Nat → World → Value → Prop)
    (hnA : nA ≤ ops.size) (hw : ((List.range (ops.size - nA)).all fun k => WaitsAll ops (nA + k)) = true)
    (hinj : ∀ i j, i < nA → j < nA → dst i = dst j → i = j)
    (hds : ∀ i, i < nA → dst i < a0.tmps.size)
    (stable : ∀ i, i < nA → ∀ w w' v, A i w v → Below w.heap.size w w' → A i w' v)
    (step : ∀ i, i < nA → ∀ l a w, PhaseI nA dst A a0 w0 l a w → (∀ j, Waits ops i j = true → l j = true) → wpOp P ops Q i (fun a' w' => ∃ v, a' = a.put (some (dst i)) v ∧ A i w' v ∧ Below w.heap.size w w') a w)
    (fin : ∀ a w, a.defers = a0.defers → a.tmps.size = a0.tmps.size → (∀ n, (∀ j, j < nA → n ≠ dst j) → a.tmps.getD n undef = a0.tmps.getD n undef) → (∀ i, i < nA → A i w (a.tmps.getD (dst i) undef)) → Below w0.heap.size w0 w → wpOps P ops Q (List.range' nA (ops.size - nA)) a w) :
    (Code.region id ops true).wp P Q a0 w0 := by
  refine wp_region_inv hm hr (fun l a w => Whole ops l ∧ (((∀ j, nA ≤ j → l j = false) ∧ PhaseI nA dst A a0 w0 l a w) ∨ (∃ k, nA < k ∧ k ≤ ops.size ∧ (∀ j, j < k → l j = true) ∧ (∀ j, k ≤ j → l j = false) ∧ wpOps P ops Q (List.range' k (ops.size - k)) a w))) ?_ ?_ ?_
  · exact ⟨(fun i o ho h => by cases h), .inl ⟨fun _ _ => rfl, rfl, rfl, fun _ _ => rfl, (Below.refl _ _).drew, fun _ _ h => by cases h⟩⟩
  · intro l a w i oi ho hl he hI
    obtain ⟨hwl, hI⟩ := hI
    have hwl' : Whole ops (fun j => l j || j == i) := by
      intro j o hj hlj e hee hbe
      show (l e.on || e.on == i) = true
      have hlj : (l j || j == i) = true := hlj
      rcases Bool.or_eq_true_iff.1 hlj with h1 | h1
      · rw [hwl j o hj h1 e hee hbe, Bool.true_or]
      · rw [beq_iff_eq.1 h1, ho] at hj
        injection hj with hj
        subst hj
        rw [he e hee hbe, Bool.true_or]
    have hi : i < ops.size := by
      rcases Nat.lt_or_ge i ops.size with h1 | h1
      · exact h1
      · rw [Array.getElem?_eq_none h1] at ho; cases ho
    have hwi : nA ≤ i → WaitsAll ops i = true := fun h => by
      have := List.all_eq_true.1 hw (i - nA) (List.mem_range.2 (by omega))
      rwa [show nA + (i - nA) = i by omega] at this
    have next : ∀ k, k < ops.size → List.range' k (ops.size - k) = k :: List.range' (k + 1) (ops.size - (k + 1)) := fun k hk => by
      rw [show ops.size - k = (ops.size - (k + 1)) + 1 by omega, List.range'_succ]
    rcases hI with ⟨hB, I⟩ | ⟨k, hk1, hk2, hk3, hk4, hk5⟩
    · by_cases hiA : i < nA
      · refine wpOp_mono ?_ (step i hiA l a w I (fun j hj => Waits.listed hj ho he))
        rintro a' w' ⟨v, rfl, hv, hb⟩
        refine ⟨hwl', .inl ⟨fun j hj => ?_, I.defers, by simp [Act.put, I.size], fun n hn => ?_, I.below.trans (hb.mono I.below.size), fun j hj hlj => ?_⟩⟩
        · show (l j || j == i) = false
          rw [hB j hj, Bool.false_or]; simpa using fun e : j = i => by omega
        · have : n ≠ dst i := hn i hiA
          rw [← I.other n hn]
          unfold Act.put
          simp only [Array.getD_eq_getD_getElem?, Array.getElem?_setIfInBounds]
          rw [if_neg (fun e => this e.symm)]
        · unfold Act.put
          simp only [Array.getD_eq_getD_getElem?, Array.getElem?_setIfInBounds]
          by_cases e : j = i
          · subst e
            rw [if_pos rfl, if_pos (by rw [I.size]; exact hds j hj)]
            exact hv
          · rw [if_neg (fun e' => e (hinj j i hj hiA e'.symm))]
            have hlj' : l j = true := by
              have : (j == i) = false := by simpa using e
              simpa [this] using hlj
            have := stable j hj w w' _ (I.val j hj hlj') hb
            rwa [Array.getD_eq_getD_getElem?] at this
      · have hall := WaitsAll.listed hwl (hwi (by omega)) ho he
        have hin : i = nA := by
          rcases Nat.lt_or_ge nA i with h1 | h1
          · have := hall nA h1; rw [hB nA (Nat.le_refl _)] at this; cases this
          · omega
        subst hin
        have hf := fin a w I.defers I.size I.other (fun j hj => I.val j hj (hall j hj)) I.below
        rw [next i hi, wpOps_cons] at hf
        refine wpOp_mono ?_ hf
        intro a' w' h'
        refine ⟨hwl', .inr ⟨i + 1, by omega, by omega, fun j hj => ?_, fun j hj => ?_, h'⟩⟩
        · by_cases e : j = i
          · simp [e]
          · show (l j || j == i) = true
            rw [hall j (by omega), Bool.true_or]
        · show (l j || j == i) = false
          rw [hB j (by omega), Bool.false_or]; simpa using fun e : j = i => by omega
    · have hik : i = k := by
        have h1 : k ≤ i := by
          rcases Nat.lt_or_ge i k with h2 | h2
          · rw [hk3 i h2] at hl; cases hl
          · exact h2
        have hall := WaitsAll.listed hwl (hwi (by omega)) ho he
        rcases Nat.lt_or_ge k i with h2 | h2
        · have := hall k h2; rw [hk4 k (Nat.le_refl _)] at this; cases this
        · omega
      subst hik
      rw [next i hi, wpOps_cons] at hk5
      refine wpOp_mono ?_ hk5
      intro a' w' h'
      refine ⟨hwl', .inr ⟨i + 1, by omega, by omega, fun j hj => ?_, fun j hj => ?_, h'⟩⟩
      · by_cases e : j = i
        · simp [e]
        · show (l j || j == i) = true
          rw [hk3 j (by omega), Bool.true_or]
      · show (l j || j == i) = false
        rw [hk4 j (by omega), Bool.false_or]; simpa using fun e : j = i => by omega
  · intro l a w hl hI
    replace hI := hI.2
    rcases hI with ⟨hB, I⟩ | ⟨k, hk1, hk2, hk3, hk4, hk5⟩
    · have hz : nA = ops.size := by
        rcases Nat.lt_or_ge nA ops.size with h1 | h1
        · have := hl nA h1; rw [hB nA (Nat.le_refl _)] at this; cases this
        · omega
      have hf := fin a w I.defers I.size I.other (fun j hj => I.val j hj (hl j (by omega))) I.below
      rw [hz, Nat.sub_self] at hf
      exact hf
    · have hz : k = ops.size := by
        rcases Nat.lt_or_ge k ops.size with h1 | h1
        · have := hl k h1; rw [hk4 k (Nat.le_refl _)] at this; cases this
        · omega
      rw [hz, Nat.sub_self] at hk5
      exact hk5
end inv
theorem act_ext {a b : Act} (hd : a.defers = b.defers) (hs : a.tmps.size = b.tmps.size) (h : ∀ n, a.tmps.getD n undef = b.tmps.getD n undef) : a = b := by
  obtain ⟨x, d⟩ := a
  obtain ⟨y, d'⟩ := b
  dsimp only at hd hs h
  subst hd
  rw [Act.mk.injEq]
  refine ⟨Array.ext hs fun i h1 h2 => ?_, rfl⟩
  have := h i
  rw [Array.getD_eq_getD_getElem?, Array.getD_eq_getD_getElem?, Array.getElem?_eq_getElem h1, Array.getElem?_eq_getElem h2] at this
  exact this
theorem fold_pairs {a : Act} (ps : List (Nat × Value)) (b : Act) (hds : ∀ p ∈ ps, p.1 < b.tmps.size) (hval : ∀ p ∈ ps, a.tmps.getD p.1 undef = p.2) :
    (ps.foldl (fun b p => b.put (some p.1) p.2) b).defers = b.defers ∧ (ps.foldl (fun b p => b.put (some p.1) p.2) b).tmps.size = b.tmps.size ∧
    ∀ n, (ps.foldl (fun b p => b.put (some p.1) p.2) b).tmps.getD n undef = if n ∈ ps.map (·.1) then a.tmps.getD n undef else b.tmps.getD n undef := by
  induction ps generalizing b with
  | nil => exact ⟨rfl, rfl, fun n => by simp⟩
  | cons p ps ih =>
    have hi := hds p (by simp)
    have hs : (b.put (some p.1) p.2).tmps.size = b.tmps.size := by simp [Act.put]
    obtain ⟨h1, h2, h3⟩ := ih (b.put (some p.1) p.2) (fun q hq => by rw [hs]; exact hds q (by simp [hq])) (fun q hq => hval q (by simp [hq]))
    refine ⟨h1, h2.trans hs, fun n => ?_⟩
    rw [List.foldl_cons, h3 n, put_get hi, List.map_cons]
    by_cases hn : n ∈ ps.map (·.1)
    · rw [if_pos hn, if_pos (List.mem_cons_of_mem _ hn)]
    · rw [if_neg hn]
      by_cases e : n = p.1
      · rw [if_pos e, if_pos (by rw [e]; exact List.mem_cons_self), e]; exact (hval p (by simp)).symm
      · rw [if_neg e, if_neg (by rw [List.mem_cons]; exact fun h => h.elim e hn)]
/-- The frame behind a region's first part, written out. -/
theorem tower_pairs {a a0 : Act} (ps : List (Nat × Value)) (hds : ∀ p ∈ ps, p.1 < a0.tmps.size) (hval : ∀ p ∈ ps, a.tmps.getD p.1 undef = p.2) (hdf : a.defers = a0.defers) (hsize : a.tmps.size = a0.tmps.size)
    (hoth : ∀ n, (∀ p ∈ ps, n ≠ p.1) → a.tmps.getD n undef = a0.tmps.getD n undef) : a = ps.foldl (fun b p => b.put (some p.1) p.2) a0 := by
  obtain ⟨h1, h2, h3⟩ := fold_pairs ps a0 hds hval
  refine act_ext (hdf.trans h1.symm) (hsize.trans h2.symm) fun n => ?_
  rw [h3 n]
  by_cases hn : n ∈ ps.map (·.1)
  · rw [if_pos hn]
  · rw [if_neg hn]
    refine hoth n fun p hp e => hn ?_
    rw [e]
    exact List.mem_map.2 ⟨p, hp, rfl⟩
theorem exec_move {P : Program} {a : Act} {w : World} {o : Oper} {p : Nat} (ho : o.op = .move (.tmp p)) : (execOp a.eval o).run P w = .ok (.value (a.tmps.getD p undef)) w := by
  simp [execOp, ho, Act.eval, go_sem]
end
end Go.Proofs.YthdhdmmlmbkalaaGreatDoor
namespace Go.Proofs.YthdhdmmlmbkalaaGreatDoor
section
open Go.RowKit Go.Maps

section
variable {P : Program} {ops : Array Oper} {Q : Exit → Act → World → Prop} {i : Nat} {o : Oper} {a : Act} {w w' : World} {K : Act → World → Prop}
theorem wpOp_v8 {v : Value} (ho : ops[i]? = some o) (hg : o.guard = none) (hr : (execOp a.eval o).run P w = .ok (.value v) w') (h : K (a.put o.dst v) w') : wpOp P ops Q i K a w := by
  refine wpOp_plain ho hg ?_
  unfold Oper.wp
  rw [hr, Oper.upon_value]
  exact h
theorem wpOp_c8 {f : Nat} {args : Array Value} {R : Ending → World → Prop} (ho : ops[i]? = some o) (hg : o.guard = none) (hr : (execOp a.eval o).run P w = (callFunc f args).run P w) (he : (callFunc f args).run P w = .ok (.enter f args) w) (hc : Calls P f args w R) (h : ∀ e w', R e w' → ∃ v, e = .returned v ∧ K (a.put o.dst v) w') : wpOp P ops Q i K a w := by
  refine wpOp_plain ho hg ?_
  unfold Oper.wp
  rw [hr, he, Oper.upon_enter]
  refine hc.mono ?_
  intro e w' hR
  obtain ⟨v, rfl, hK⟩ := h e w' hR
  exact hK
end
theorem exec_mv8 {P : Program} {a : Act} {w : World} {o : Oper} {p : Nat} {v : Value} (ho : o.op = .move (.tmp p)) (hp : a.tmps.getD p undef = v) : (execOp a.eval o).run P w = .ok (.value v) w := by
  rw [exec_move ho, hp]
theorem exec_nil8 {a : Act} {w : World} {o : Oper} {p : Nat} {x : Addr} (ho : o.op = .nilCheck (.tmp p)) (ht : a.tmps.getD p undef = .pointer (some x)) : (execOp a.eval o).run Tryz.prog w = .ok (.value (.pointer (some x))) w := by
  rw [Array.getD_eq_getD_getElem?] at ht
  simp [execOp, ho, Act.eval, ht, go_sem]
theorem exec_kids8 {a : Act} {w : World} {o : Oper} {p b off : Nat} (ho : o.op = .fieldAddr 31 (.tmp p) 6) (ht : a.tmps.getD p undef = .pointer (some ⟨b, off, none⟩)) : (execOp a.eval o).run Tryz.prog w = .ok (.value (.pointer (some ⟨b, off + 12, none⟩))) w := by
  rw [Array.getD_eq_getD_getElem?] at ht
  simp [execOp, ho, Act.eval, ht, go_sem]
theorem exec_vars8 {a : Act} {w : World} {o : Oper} {p b off : Nat} (ho : o.op = .fieldAddr 31 (.tmp p) 3) (ht : a.tmps.getD p undef = .pointer (some ⟨b, off, none⟩)) : (execOp a.eval o).run Tryz.prog w = .ok (.value (.pointer (some ⟨b, off + 9, none⟩))) w := by
  rw [Array.getD_eq_getD_getElem?] at ht
  simp [execOp, ho, Act.eval, ht, go_sem]
theorem exec_lds8 {a : Act} {w : World} {o : Oper} {p b off n c : Nat} {A : Option Addr} (ho : o.op = .load 29 (.tmp p)) (ht : a.tmps.getD p undef = .pointer (some ⟨b, off, none⟩)) (hc : w.cell? ⟨b, off, none⟩ = some (.slice A n c)) : (execOp a.eval o).run Tryz.prog w = .ok (.value (.slice A n c)) w := by
  rw [Array.getD_eq_getD_getElem?] at ht
  simp [execOp, ho, Act.eval, ht, go_sem, hc]
theorem exec_ldi8 {a : Act} {w : World} {o : Oper} {p b off n c : Nat} {A : Option Addr} (ho : o.op = .load 28 (.tmp p)) (ht : a.tmps.getD p undef = .pointer (some ⟨b, off, none⟩)) (hc : w.cell? ⟨b, off, none⟩ = some (.slice A n c)) : (execOp a.eval o).run Tryz.prog w = .ok (.value (.slice A n c)) w := by
  rw [Array.getD_eq_getD_getElem?] at ht
  simp [execOp, ho, Act.eval, ht, go_sem, hc]
theorem exec_ix8 {a : Act} {w : World} {o : Oper} {p b off n c : Nat} (ho : o.op = .indexAddr 29 (.tmp p) (.const (.int .i64 0))) (ht : a.tmps.getD p undef = .slice (some ⟨b, off, none⟩) n c) (hn : 0 < n) : (execOp a.eval o).run Tryz.prog w = .ok (.value (.pointer (some ⟨b, off, none⟩))) w := by
  rw [Array.getD_eq_getD_getElem?] at ht
  simp [execOp, ho, Act.eval, ht, go_sem, hn]
theorem exec_lde8 {a : Act} {w : World} {o : Oper} {p b off : Nat} {v0 v1 v2 v3 v4 v5 v6 v7 v8 v9 v10 v11 v12 : Value} (ho : o.op = .load 31 (.tmp p)) (ht : a.tmps.getD p undef = .pointer (some ⟨b, off, none⟩)) (hc : ∀ j v, ([v0, v1, v2, v3, v4, v5, v6, v7, v8, v9, v10, v11, v12] : List Value)[j]? = some v → w.cell? ⟨b, off + j, none⟩ = some v) :
    (execOp a.eval o).run Tryz.prog w = .ok (.value (.agg #[v0, v1, v2, v3, v4, v5, v6, v7, v8, v9, v10, v11, v12])) w := by
  have c0 : w.cell? ⟨b, off, none⟩ = some v0 := hc 0 _ rfl
  have c1 : w.cell? ⟨b, off + 1, none⟩ = some v1 := hc 1 _ rfl
  have c2 : w.cell? ⟨b, off + 2, none⟩ = some v2 := hc 2 _ rfl
  have c3 : w.cell? ⟨b, off + 3, none⟩ = some v3 := hc 3 _ rfl
  have c4 : w.cell? ⟨b, off + 4, none⟩ = some v4 := hc 4 _ rfl
  have c5 : w.cell? ⟨b, off + 5, none⟩ = some v5 := hc 5 _ rfl
  have c6 : w.cell? ⟨b, off + 6, none⟩ = some v6 := hc 6 _ rfl
  have c7 : w.cell? ⟨b, off + 7, none⟩ = some v7 := hc 7 _ rfl
  have c8 : w.cell? ⟨b, off + 8, none⟩ = some v8 := hc 8 _ rfl
  have c9 : w.cell? ⟨b, off + 9, none⟩ = some v9 := hc 9 _ rfl
  have c10 : w.cell? ⟨b, off + 10, none⟩ = some v10 := hc 10 _ rfl
  have c11 : w.cell? ⟨b, off + 11, none⟩ = some v11 := hc 11 _ rfl
  have c12 : w.cell? ⟨b, off + 12, none⟩ = some v12 := hc 12 _ rfl
  rw [Array.getD_eq_getD_getElem?] at ht
  simp [execOp, ho, Act.eval, ht, go_sem, c0, c1, c2, c3, c4, c5, c6, c7, c8, c9, c10, c11, c12]
theorem exec_two8 {a : Act} {w : World} {o : Oper} {p q : Nat} {v0 v1 v2 v3 v4 v5 v6 v7 v8 v9 v10 v11 v12 x0 x1 x2 x3 x4 x5 x6 x7 x8 x9 x10 x11 x12 : Value} (ho : o.op = .buildSlice 29 2 #[(0, .tmp p), (1, .tmp q)]) (hp : a.tmps.getD p undef = .agg #[v0, v1, v2, v3, v4, v5, v6, v7, v8, v9, v10, v11, v12]) (hq : a.tmps.getD q undef = .agg #[x0, x1, x2, x3, x4, x5, x6, x7, x8, x9, x10, x11, x12]) 
    (h1 : ∀ v ∈ [v0, v1, v2, v3, v4, v5, v6, v7, v8, v9, v10, v11, v12], v.cells = #[v]) (h2 : ∀ v ∈ [x0, x1, x2, x3, x4, x5, x6, x7, x8, x9, x10, x11, x12], v.cells = #[v]) :
    (execOp a.eval o).run Tryz.prog w = .ok (.value (.slice (some ⟨w.heap.size, 0, none⟩) 2 2)) (w.alloc (.cells #[v0, v1, v2, v3, v4, v5, v6, v7, v8, v9, v10, v11, v12, x0, x1, x2, x3, x4, x5, x6, x7, x8, x9, x10, x11, x12] 31)) := by
  rw [Array.getD_eq_getD_getElem?] at hp hq
  simp only [List.forall_mem_cons, List.not_mem_nil, false_imp_iff, implies_true, and_true] at h1 h2
  obtain ⟨a0, a1, a2, a3, a4, a5, a6, a7, a8, a9, a10, a11, a12⟩ := h1
  obtain ⟨b0, b1, b2, b3, b4, b5, b6, b7, b8, b9, b10, b11, b12⟩ := h2
  simp [execOp, ho, Act.eval, hp, hq, go_sem, a0, a1, a2, a3, a4, a5, a6, a7, a8, a9, a10, a11, a12, b0, b1, b2, b3, b4, b5, b6, b7, b8, b9, b10, b11, b12]
theorem wpOps_cons8 {P : Program} {ops : Array Oper} {Q : Exit → Act → World → Prop} {i : Nat} {l : List Nat} {a : Act} {w : World} (h : wpOp P ops Q i (fun a w => wpOps P ops Q l a w) a w) : wpOps P ops Q (i :: l) a w := by
  rw [wpOps_cons]; exact h
theorem setAll_snoc8 (b : Nat) : ∀ (l : List Value) (off : Nat) (w : World) (v : Value), (setAll w b off l).setCell ⟨b, off + l.length, none⟩ v = setAll w b off (l ++ [v])
  | [], off, w, v => rfl
  | x :: l, off, w, v => by
    rw [List.cons_append, setAll, setAll, ← setAll_snoc8 b l (off + 1) _ v, List.length_cons, show off + (l.length + 1) = off + 1 + l.length by omega]
theorem store_next8 (w : World) (b off : Nat) (l : List Value) (v : Value) (m : Mode) (hc : ∃ x, w.cell? ⟨b, off + l.length, none⟩ = some x) (hf : w.frozen? ⟨b, off + l.length, none⟩ = false) (ho : v.oneCell' = true) :
    (store ⟨b, off + l.length, none⟩ v m).run Tryz.prog (setAll w b off l) = .ok () (setAll w b off (l ++ [v])) := by
  obtain ⟨x, hx⟩ := hc
  rw [run_store _ _ _ _ _ ho, setAll_other b l off w b (off + l.length) (fun h => by omega), hx]
  simp only [setAll_frz, hf, Bool.false_eq_true, if_false]
  rw [setAll_snoc8]
set_option maxRecDepth 100000 in
theorem exec_st8 {a : Act} {w : World} {o : Oper} {p q b off : Nat} {v0 v1 v2 v3 v4 v5 v6 v7 v8 v9 v10 v11 v12 : Value} (ho : o.op = .store 31 (.tmp p) (.tmp q)) (ht : a.tmps.getD p undef = .pointer (some ⟨b, off, none⟩)) (hq : a.tmps.getD q undef = .agg #[v0, v1, v2, v3, v4, v5, v6, v7, v8, v9, v10, v11, v12]) (h1 : ∀ v ∈ [v0, v1, v2, v3, v4, v5, v6, v7, v8, v9, v10, v11, v12], v.cells = #[v]) (h2 : ∀ v ∈ [v0, v1, v2, v3, v4, v5, v6, v7, v8, v9, v10, v11, v12], v.oneCell' = true)
    (hc : ∀ j, j < 13 → ∃ x, w.cell? ⟨b, off + j, none⟩ = some x) (hf : ∀ j, w.frozen? ⟨b, off + j, none⟩ = false) :
    (execOp a.eval o).run Tryz.prog w = .ok .skip (setAll w b off [v0, v1, v2, v3, v4, v5, v6, v7, v8, v9, v10, v11, v12]) := by
  rw [Array.getD_eq_getD_getElem?] at ht hq
  simp only [List.forall_mem_cons, List.not_mem_nil, false_imp_iff, implies_true, and_true] at h1 h2
  obtain ⟨a0, a1, a2, a3, a4, a5, a6, a7, a8, a9, a10, a11, a12⟩ := h1
  obtain ⟨o0, o1, o2, o3, o4, o5, o6, o7, o8, o9, o10, o11, o12⟩ := h2
  have t0 : ∀ m, (store ⟨b, off, none⟩ v0 m).run Tryz.prog w = .ok () (setAll w b off [v0]) := fun m => store_next8 w b off [] v0 m (hc 0 (by decide)) (hf 0) o0
  have t1 : ∀ m, (store ⟨b, off + 1, none⟩ v1 m).run Tryz.prog (setAll w b off [v0]) = .ok () (setAll w b off [v0, v1]) := fun m => store_next8 w b off [v0] v1 m (hc 1 (by decide)) (hf 1) o1
  have t2 : ∀ m, (store ⟨b, off + 2, none⟩ v2 m).run Tryz.prog (setAll w b off [v0, v1]) = .ok () (setAll w b off [v0, v1, v2]) := fun m => store_next8 w b off [v0, v1] v2 m (hc 2 (by decide)) (hf 2) o2
  have t3 : ∀ m, (store ⟨b, off + 3, none⟩ v3 m).run Tryz.prog (setAll w b off [v0, v1, v2]) = .ok () (setAll w b off [v0, v1, v2, v3]) := fun m => store_next8 w b off [v0, v1, v2] v3 m (hc 3 (by decide)) (hf 3) o3
  have t4 : ∀ m, (store ⟨b, off + 4, none⟩ v4 m).run Tryz.prog (setAll w b off [v0, v1, v2, v3]) = .ok () (setAll w b off [v0, v1, v2, v3, v4]) := fun m => store_next8 w b off [v0, v1, v2, v3] v4 m (hc 4 (by decide)) (hf 4) o4
  have t5 : ∀ m, (store ⟨b, off + 5, none⟩ v5 m).run Tryz.prog (setAll w b off [v0, v1, v2, v3, v4]) = .ok () (setAll w b off [v0, v1, v2, v3, v4, v5]) := fun m => store_next8 w b off [v0, v1, v2, v3, v4] v5 m (hc 5 (by decide)) (hf 5) o5
  have t6 : ∀ m, (store ⟨b, off + 6, none⟩ v6 m).run Tryz.prog (setAll w b off [v0, v1, v2, v3, v4, v5]) = .ok () (setAll w b off [v0, v1, v2, v3, v4, v5, v6]) := fun m => store_next8 w b off [v0, v1, v2, v3, v4, v5] v6 m (hc 6 (by decide)) (hf 6) o6
  have t7 : ∀ m, (store ⟨b, off + 7, none⟩ v7 m).run Tryz.prog (setAll w b off [v0, v1, v2, v3, v4, v5, v6]) = .ok () (setAll w b off [v0, v1, v2, v3, v4, v5, v6, v7]) := fun m => store_next8 w b off [v0, v1, v2, v3, v4, v5, v6] v7 m (hc 7 (by decide)) (hf 7) o7
  have t8 : ∀ m, (store ⟨b, off + 8, none⟩ v8 m).run Tryz.prog (setAll w b off [v0, v1, v2, v3, v4, v5, v6, v7]) = .ok () (setAll w b off [v0, v1, v2, v3, v4, v5, v6, v7, v8]) := fun m => store_next8 w b off [v0, v1, v2, v3, v4, v5, v6, v7] v8 m (hc 8 (by decide)) (hf 8) o8
  have t9 : ∀ m, (store ⟨b, off + 9, none⟩ v9 m).run Tryz.prog (setAll w b off [v0, v1, v2, v3, v4, v5, v6, v7, v8]) = .ok () (setAll w b off [v0, v1, v2, v3, v4, v5, v6, v7, v8, v9]) := fun m => store_next8 w b off [v0, v1, v2, v3, v4, v5, v6, v7, v8] v9 m (hc 9 (by decide)) (hf 9) o9
  have t10 : ∀ m, (store ⟨b, off + 10, none⟩ v10 m).run Tryz.prog (setAll w b off [v0, v1, v2, v3, v4, v5, v6, v7, v8, v9]) = .ok () (setAll w b off [v0, v1, v2, v3, v4, v5, v6, v7, v8, v9, v10]) := fun m => store_next8 w b off [v0, v1, v2, v3, v4, v5, v6, v7, v8, v9] v10 m (hc 10 (by decide)) (hf 10) o10
  have t11 : ∀ m, (store ⟨b, off + 11, none⟩ v11 m).run Tryz.prog (setAll w b off [v0, v1, v2, v3, v4, v5, v6, v7, v8, v9, v10]) = .ok () (setAll w b off [v0, v1, v2, v3, v4, v5, v6, v7, v8, v9, v10, v11]) := fun m => store_next8 w b off [v0, v1, v2, v3, v4, v5, v6, v7, v8, v9, v10] v11 m (hc 11 (by decide)) (hf 11) o11
  have t12 : ∀ m, (store ⟨b, off + 12, none⟩ v12 m).run Tryz.prog (setAll w b off [v0, v1, v2, v3, v4, v5, v6, v7, v8, v9, v10, v11]) = .ok () (setAll w b off [v0, v1, v2, v3, v4, v5, v6, v7, v8, v9, v10, v11, v12]) := fun m => store_next8 w b off [v0, v1, v2, v3, v4, v5, v6, v7, v8, v9, v10, v11] v12 m (hc 12 (by decide)) (hf 12) o12
  clear hc hf o0 o1 o2 o3 o4 o5 o6 o7 o8 o9 o10 o11 o12
  simp [execOp, ho, Act.eval, ht, hq, go_sem, a0, a1, a2, a3, a4, a5, a6, a7, a8, a9, a10, a11, a12, t0, t1, t2, t3, t4, t5, t6, t7, t8, t9, t10, t11, t12]
theorem wpOp_st8 {ops : Array Oper} {Q : Exit → Act → World → Prop} {i : Nat} {o : Oper} {a : Act} {w : World} {K : Act → World → Prop} {p q b off : Nat} {v0 v1 v2 v3 v4 v5 v6 v7 v8 v9 v10 v11 v12 : Value} (ho : ops[i]? = some o) (hg : o.guard = none) (hd : o.dst = none) (hop : o.op = .store 31 (.tmp p) (.tmp q)) (ht : a.tmps.getD p undef = .pointer (some ⟨b, off, none⟩)) (hq : a.tmps.getD q undef = .agg #[v0, v1, v2, v3, v4, v5, v6, v7, v8, v9, v10, v11, v12]) (h1 : ∀ v ∈ [v0, v1, v2, v3, v4, v5, v6, v7, v8, v9, v10, v11, v12], v.cells = #[v]) (h2 : ∀ v ∈ [v0, v1, v2, v3, v4, v5, v6, v7, v8, v9, v10, v11, v12], v.oneCell' = true)
    (hc : ∀ j, j < 13 → ∃ x, w.cell? ⟨b, off + j, none⟩ = some x) (hf : ∀ j, w.frozen? ⟨b, off + j, none⟩ = false) (h : K a (setAll w b off [v0, v1, v2, v3, v4, v5, v6, v7, v8, v9, v10, v11, v12])) : wpOp Tryz.prog ops Q i K a w := by
  refine wpOp_plain ho hg ?_
  unfold Oper.wp
  rw [exec_st8 hop ht hq h1 h2 hc hf, Oper.upon_skip, hd]
  exact h
end
end Go.Proofs.YthdhdmmlmbkalaaGreatDoor
namespace Go.Proofs.YthdhdmmlmbkalaaGreatDoor
section
open Go.RowKit Go.Maps

/-- Two places may have been stored into; all else stands. -/
structure Turned2 (w w' : World) (b o kb ko : Nat) : Prop where
  size : w.heap.size ≤ w'.heap.size
  other : ∀ c off, c < w.heap.size → ¬ (c = b ∧ o ≤ off ∧ off < o + 13) → ¬ (c = kb ∧ ko ≤ off ∧ off < ko + 13) → w'.cell? ⟨c, off, none⟩ = w.cell? ⟨c, off, none⟩
  frz : ∀ c off, c < w.heap.size → w'.frozen? ⟨c, off, none⟩ = w.frozen? ⟨c, off, none⟩
  block : ∀ k, k < w.heap.size → k ≠ b → k ≠ kb → w'.heap[k]? = w.heap[k]?
  below : ∀ B, B ≤ b → B ≤ kb → B ≤ w.heap.size → Below B w w'
theorem one13 {v0 v1 v2 v3 v4 v5 v6 v7 v8 v9 v10 v11 v12 : Value} (h0 : v0.cells = #[v0]) (h1 : v1.cells = #[v1]) (h2 : v2.cells = #[v2]) (h3 : v3.cells = #[v3]) (h4 : v4.cells = #[v4]) (h5 : v5.cells = #[v5]) (h6 : v6.cells = #[v6]) (h7 : v7.cells = #[v7]) (h8 : v8.cells = #[v8]) (h9 : v9.cells = #[v9]) (h10 : v10.cells = #[v10]) (h11 : v11.cells = #[v11]) (h12 : v12.cells = #[v12]) :
    ∀ v ∈ [v0, v1, v2, v3, v4, v5, v6, v7, v8, v9, v10, v11, v12], v.cells = #[v] := by
  simp only [List.forall_mem_cons, List.not_mem_nil, false_imp_iff, implies_true, and_true]
  exact ⟨h0, h1, h2, h3, h4, h5, h6, h7, h8, h9, h10, h11, h12⟩
theorem onec13 {v0 v1 v2 v3 v4 v5 v6 v7 v8 v9 v10 v11 v12 : Value} (h0 : v0.oneCell' = true) (h1 : v1.oneCell' = true) (h2 : v2.oneCell' = true) (h3 : v3.oneCell' = true) (h4 : v4.oneCell' = true) (h5 : v5.oneCell' = true) (h6 : v6.oneCell' = true) (h7 : v7.oneCell' = true) (h8 : v8.oneCell' = true) (h9 : v9.oneCell' = true) (h10 : v10.oneCell' = true) (h11 : v11.oneCell' = true) (h12 : v12.oneCell' = true) :
    ∀ v ∈ [v0, v1, v2, v3, v4, v5, v6, v7, v8, v9, v10, v11, v12], v.oneCell' = true := by
  simp only [List.forall_mem_cons, List.not_mem_nil, false_imp_iff, implies_true, and_true]
  exact ⟨h0, h1, h2, h3, h4, h5, h6, h7, h8, h9, h10, h11, h12⟩
set_option maxRecDepth 100000 in
set_option maxHeartbeats 12800000 in
theorem open_set (mb b o kb ko : Nat) (y : Int) (S X : ET) (w : World) (hB : BoxMap w mb S.v y) (hv : InR S.v) (hSk : S.k = 3) (hkids : S.kids = [X]) (hka : S.ka = some ⟨kb, ko, none⟩) (hXk : X.k = 2) (hXv : X.v = S.v) (hXkids : X.kids = [])
    (hS : ∀ j v, S.cells[j]? = some v → w.cell? ⟨b, o + j, none⟩ = some v) (hfS : ∀ j, w.frozen? ⟨b, o + j, none⟩ = false) (hX : ∀ j v, X.cells[j]? = some v → w.cell? ⟨kb, ko + j, none⟩ = some v) (hfX : ∀ j, w.frozen? ⟨kb, ko + j, none⟩ = false) (hb : b ≠ mb) (hkb : kb ≠ mb) (hdis : kb = b → o + 13 ≤ ko) :
    Calls Tryz.prog 35 #[.map (some mb), .pointer (some ⟨b, o, none⟩)] w fun e w' => e = .returned (.tuple #[]) ∧ ∃ g1 g2, w.heap.size ≤ g1 ∧ w.heap.size ≤ g2 ∧ g1 < w'.heap.size ∧ g2 < w'.heap.size ∧ w'.heap[g1]? = some (.cells #[.int .i64 2, .int .i64 0, .bool false, .slice none 0 0, .bool false, .string ⟨#[]⟩, .slice none 0 0, .slice none 0 0, .int .i64 y, .slice none 0 0, .bool false, .int .i64 0, .slice none 0 0] 31 (0, 0)) ∧
      w'.heap[g2]? = some (.cells #[.int .i64 2, .int .i64 0, .bool false, .slice none 0 0, .bool false, .string ⟨#[]⟩, .slice none 0 0, .slice none 0 0, .int .i64 y, .slice none 0 0, .bool false, .int .i64 0, .slice none 0 0, .int .i64 7, .int .i64 0, .bool false, .slice none 0 0, .bool false, .string ⟨#[]⟩, .slice none 0 0, .slice none 0 0, .int .i64 0, .slice none 0 0, .bool false, .int .i64 36, .slice (some ⟨g1, 0, none⟩) 1 1] 31 (0, 0)) ∧ (∀ j v, ([.int .i64 7, .int .i64 0, .bool false, .slice none 0 0, .bool false, .string ⟨#[]⟩, .slice none 0 0, .slice none 0 0, .int .i64 0, .slice none 0 0, .bool false, .int .i64 37, .slice (some ⟨g2, 0, none⟩) 2 2] : List Value)[j]? = some v → w'.cell? ⟨b, o + j, none⟩ = some v) ∧ Turned2 w w' b o kb ko := by
  have hbl : b < w.heap.size := World.block_lt_of_cell? w _ (hS 0 _ rfl)
  have hkbl : kb < w.heap.size := World.block_lt_of_cell? w _ (hX 0 _ rfl)
  have c12 : w.cell? ⟨b, o + 12, none⟩ = some (.slice (some ⟨kb, ko, none⟩) 1 S.kc) := by have h := hS 12 _ rfl; rw [hkids, hka] at h; exact h
  have hOV := open_var mb kb ko y X w (by rw [hXv]; exact hB) hXk (by rw [hXv]; exact hv) hXkids hX hfX hkb
  have hkey : keyOf Tryz.prog 3 (.int .i64 S.v) = some (.int .i64 S.v) := keyOf_int_mk Tryz.underlying3 (WalkArith.wf_i64 hv)
  have HH := Lib.hid (And.intro hOV (And.intro hB (And.intro hS (And.intro hfS (And.intro hkids (And.intro hka hSk))))))
  clear hOV hB hS hfS hX hfX hkids hka hSk
  go_enter Tryz.func35, Tryz.ntmps35
  go_wp2_with fail
  refine wp_loop_rounds 2 ?_
  rw [rounds_succ]
  go_wp2_with fail
  refine HH.out.1.mono ?_
  rintro e w1 ⟨rfl, g1, hg1a, hg1b, hg1c, hst⟩
  have hsz := hst.size
  have hSc : ∀ j v, S.cells[j]? = some v → w1.cell? ⟨b, o + j, none⟩ = some v := fun j v hj => by
    have hj13 : j < 13 := (List.getElem?_eq_some_iff.1 hj).1
    rw [hst.other b (o + j) hbl (fun h => by have := hdis h.1.symm; omega)]
    exact HH.out.2.2.1 j v hj
  have c0 : w1.cell? ⟨b, o, none⟩ = some (.int .i64 3) := by have h := hSc 0 _ rfl; rw [HH.out.2.2.2.2.2.2] at h; exact h
  have c8 : w1.cell? ⟨b, o + 8, none⟩ = some (.int .i64 S.v) := hSc 8 _ rfl
  have d12 : w1.cell? ⟨b, o + 12, none⟩ = some (.slice (some ⟨kb, ko, none⟩) 1 S.kc) := by rw [hst.other b (o + 12) hbl (fun h => by have := hdis h.1.symm; omega)]; exact c12
  obtain ⟨n, D, hBx, hat, hhas, -⟩ := HH.out.2.1.of_block (hst.block mb HH.out.2.1.lt (Ne.symm hkb))
  have hbl1 : b < w1.heap.size := by omega
  have hkbl1 : kb < w1.heap.size := by omega
  have H1 := Lib.hid (And.intro hst (And.intro hSc hg1c))
  clear hst hSc c12 hg1c
  go_wp2_with fail
  rw [rounds_succ]
  go_wp2_with (at_lookup; refine wpList_lookup_own_ok_int _ rfl _ _ 69 rfl 3 3 .i64 keyI Tryz.underlying69 Tryz.underlying3 (zeroI _) mb _ _ rfl hBx _ _ rfl hkey ?_; intro c hatc hwc)
  obtain rfl : y = c := by rw [hat] at hatc; injection hatc with h; injection h
  clear hBx hat hatc hwc hkey
  go_wp2_with fail
  refine wp_region_phases (nA := 12) (by kernel_rfl) (by kernel_rfl) (fun i => 77 + i)
    (fun i W v => match i with
      | 0 => v = .pointer (some ⟨b, o, none⟩)
      | 1 => v = .int .i64 y
      | 2 => v = .agg #[.int .i64 2, .int .i64 0, .bool false, .slice none 0 0, .bool false, .string ⟨#[]⟩, .slice none 0 0, .slice none 0 0, .int .i64 y, .slice none 0 0, .bool false, .int .i64 0, .slice none 0 0]
      | 3 => v = .pointer (some ⟨b, o, none⟩)
      | 4 => v = .pointer (some ⟨b, o, none⟩)
      | 5 => v = .pointer (some ⟨b, o + 12, none⟩)
      | 6 => v = .slice (some ⟨kb, ko, none⟩) 1 S.kc
      | 7 => v = .pointer (some ⟨kb, ko, none⟩)
      | 8 => v = .agg #[.int .i64 7, .int .i64 0, .bool false, .slice none 0 0, .bool false, .string ⟨#[]⟩, .slice none 0 0, .slice none 0 0, .int .i64 0, .slice none 0 0, .bool false, .int .i64 36, .slice (some ⟨g1, 0, none⟩) 1 1]
      | 9 => ∃ g, w1.heap.size ≤ g ∧ g < W.heap.size ∧ v = .slice (some ⟨g, 0, none⟩) 2 2 ∧ W.heap[g]? = some (.cells #[.int .i64 2, .int .i64 0, .bool false, .slice none 0 0, .bool false, .string ⟨#[]⟩, .slice none 0 0, .slice none 0 0, .int .i64 y, .slice none 0 0, .bool false, .int .i64 0, .slice none 0 0, .int .i64 7, .int .i64 0, .bool false, .slice none 0 0, .bool false, .string ⟨#[]⟩, .slice none 0 0, .slice none 0 0, .int .i64 0, .slice none 0 0, .bool false, .int .i64 36, .slice (some ⟨g1, 0, none⟩) 1 1] 31 (0, 0))
      | 10 => ∃ g, w1.heap.size ≤ g ∧ g < W.heap.size ∧ v = .agg #[.int .i64 7, .int .i64 0, .bool false, .slice none 0 0, .bool false, .string ⟨#[]⟩, .slice none 0 0, .slice none 0 0, .int .i64 0, .slice none 0 0, .bool false, .int .i64 37, .slice (some ⟨g, 0, none⟩) 2 2] ∧ W.heap[g]? = some (.cells #[.int .i64 2, .int .i64 0, .bool false, .slice none 0 0, .bool false, .string ⟨#[]⟩, .slice none 0 0, .slice none 0 0, .int .i64 y, .slice none 0 0, .bool false, .int .i64 0, .slice none 0 0, .int .i64 7, .int .i64 0, .bool false, .slice none 0 0, .bool false, .string ⟨#[]⟩, .slice none 0 0, .slice none 0 0, .int .i64 0, .slice none 0 0, .bool false, .int .i64 36, .slice (some ⟨g1, 0, none⟩) 1 1] 31 (0, 0))
      | _ => v = .pointer (some ⟨b, o, none⟩)) (by decide) (by kernel_rfl)
    (fun i j hi hj h => by omega) (fun i hi => by simp only [List.size_toArray, List.length_cons, List.length_nil]; omega) ?_ ?_ ?_
  · intro i hi W W' v h hb
    rcases (show i = 0 ∨ i = 1 ∨ i = 2 ∨ i = 3 ∨ i = 4 ∨ i = 5 ∨ i = 6 ∨ i = 7 ∨ i = 8 ∨ i = 9 ∨ i = 10 ∨ i = 11 by omega) with rfl | rfl | rfl | rfl | rfl | rfl | rfl | rfl | rfl | rfl | rfl | rfl
    · exact h
    · exact h
    · exact h
    · exact h
    · exact h
    · exact h
    · exact h
    · exact h
    · exact h
    · obtain ⟨g, h1, h2, h3, h4⟩ := h; exact ⟨g, h1, Nat.lt_of_lt_of_le h2 hb.size, h3, (hb.block g h2).trans h4⟩
    · obtain ⟨g, h1, h2, h3, h4⟩ := h; exact ⟨g, h1, Nat.lt_of_lt_of_le h2 hb.size, h3, (hb.block g h2).trans h4⟩
    · exact h
  · intro i hi l A W I hdep
    rcases (show i = 0 ∨ i = 1 ∨ i = 2 ∨ i = 3 ∨ i = 4 ∨ i = 5 ∨ i = 6 ∨ i = 7 ∨ i = 8 ∨ i = 9 ∨ i = 10 ∨ i = 11 by omega) with rfl | rfl | rfl | rfl | rfl | rfl | rfl | rfl | rfl | rfl | rfl | rfl
    · exact wpOp_v8 rfl rfl (exec_mv8 rfl ((I.other 1 (by intro j hj; omega)).trans rfl)) ⟨_, rfl, rfl, Below.refl _ _⟩
    · exact wpOp_v8 rfl rfl (exec_mv8 rfl ((I.other 5 (by intro j hj; omega)).trans rfl)) ⟨_, rfl, rfl, Below.refl _ _⟩
    · have v1 : A.tmps.getD 78 undef = _ := I.val 1 (by decide) (hdep 1 (by kernel_rfl))
      refine wpOp_c8 rfl rfl ((exec_call rfl).trans (by rw [v1])) (by simp [go_sem]) (variableE_any y W) ?_
      rintro e W' ⟨rfl, b⟩
      exact ⟨_, rfl, _, rfl, rfl, b⟩
    · exact wpOp_v8 rfl rfl (exec_mv8 rfl ((I.other 1 (by intro j hj; omega)).trans rfl)) ⟨_, rfl, rfl, Below.refl _ _⟩
    · have v3 : A.tmps.getD 80 undef = _ := I.val 3 (by decide) (hdep 3 (by kernel_rfl))
      exact wpOp_v8 rfl rfl (exec_nil8 rfl v3) ⟨_, rfl, rfl, Below.refl _ _⟩
    · have v4 : A.tmps.getD 81 undef = _ := I.val 4 (by decide) (hdep 4 (by kernel_rfl))
      exact wpOp_v8 rfl rfl (exec_kids8 rfl v4) ⟨_, rfl, rfl, Below.refl _ _⟩
    · have v5 : A.tmps.getD 82 undef = _ := I.val 5 (by decide) (hdep 5 (by kernel_rfl))
      exact wpOp_v8 rfl rfl (exec_lds8 rfl v5 ((I.below.cell (p := ⟨b, o + 12, none⟩) hbl1).trans d12)) ⟨_, rfl, rfl, Below.refl _ _⟩
    · have v6 : A.tmps.getD 83 undef = _ := I.val 6 (by decide) (hdep 6 (by kernel_rfl))
      exact wpOp_v8 rfl rfl (exec_ix8 rfl v6 (by decide)) ⟨_, rfl, rfl, Below.refl _ _⟩
    · have v7 : A.tmps.getD 84 undef = _ := I.val 7 (by decide) (hdep 7 (by kernel_rfl))
      exact wpOp_v8 rfl rfl (exec_lde8 rfl v7 (fun j v hj => (I.below.cell (p := ⟨kb, ko + j, none⟩) hkbl1).trans (H1.out.1.here j v hj))) ⟨_, rfl, rfl, Below.refl _ _⟩
    · have v2 : A.tmps.getD 79 undef = _ := I.val 2 (by decide) (hdep 2 (by kernel_rfl))
      have v8 : A.tmps.getD 85 undef = _ := I.val 8 (by decide) (hdep 8 (by kernel_rfl))
      exact wpOp_v8 rfl rfl (exec_two8 rfl v2 v8 (one13 rfl rfl rfl rfl rfl rfl rfl rfl rfl rfl rfl rfl rfl) (one13 rfl rfl rfl rfl rfl rfl rfl rfl rfl rfl rfl rfl rfl)) ⟨_, rfl, ⟨W.heap.size, I.below.size, by rw [World.size_alloc]; omega, rfl, World.alloc_heap_new _ _⟩, (Below.refl _ W).alloc (Nat.le_refl _) _⟩
    · have v9 := I.val 9 (by decide) (hdep 9 (by kernel_rfl))
      obtain ⟨g, h1, h2, h3, h4⟩ := v9
      refine wpOp_c8 rfl rfl (f := 63) (args := #[.int .i64 37, .slice (some ⟨g, 0, none⟩) 2 2]) (by rw [← h3]; simp [execOp, Act.eval, go_sem]) (by simp [go_sem]) (primE_any 37 (some ⟨g, 0, none⟩) 2 2 W) ?_
      rintro e W' ⟨rfl, b⟩
      exact ⟨_, rfl, _, rfl, ⟨g, h1, Nat.lt_of_lt_of_le h2 b.size, rfl, (b.block g h2).trans h4⟩, b⟩
    · have v0 : A.tmps.getD 77 undef = _ := I.val 0 (by decide) (hdep 0 (by kernel_rfl))
      exact wpOp_v8 rfl rfl (exec_nil8 rfl v0) ⟨_, rfl, rfl, Below.refl _ _⟩
  intro A w9 hdf hsz hoth hval hb9
  have v0 : A.tmps.getD 77 undef = _ := hval 0 (by decide)
  have v1 : A.tmps.getD 78 undef = _ := hval 1 (by decide)
  have v2 : A.tmps.getD 79 undef = _ := hval 2 (by decide)
  have v3 : A.tmps.getD 80 undef = _ := hval 3 (by decide)
  have v4 : A.tmps.getD 81 undef = _ := hval 4 (by decide)
  have v5 : A.tmps.getD 82 undef = _ := hval 5 (by decide)
  have v6 : A.tmps.getD 83 undef = _ := hval 6 (by decide)
  have v7 : A.tmps.getD 84 undef = _ := hval 7 (by decide)
  have v8 : A.tmps.getD 85 undef = _ := hval 8 (by decide)
  obtain ⟨g2, hg2a, hg2b, v9, hg2c⟩ := hval 9 (by decide)
  obtain ⟨g3, hg3a, hg3b, v10, hg3c⟩ := hval 10 (by decide)
  have v11 : A.tmps.getD 88 undef = _ := hval 11 (by decide)
  have hA := tower_pairs (a := A) [(77, .pointer (some ⟨b, o, none⟩)), (78, .int .i64 y), (79, .agg #[.int .i64 2, .int .i64 0, .bool false, .slice none 0 0, .bool false, .string ⟨#[]⟩, .slice none 0 0, .slice none 0 0, .int .i64 y, .slice none 0 0, .bool false, .int .i64 0, .slice none 0 0]), (80, .pointer (some ⟨b, o, none⟩)), (81, .pointer (some ⟨b, o, none⟩)), (82, .pointer (some ⟨b, o + 12, none⟩)), (83, .slice (some ⟨kb, ko, none⟩) 1 S.kc), (84, .pointer (some ⟨kb, ko, none⟩)), (85, .agg #[.int .i64 7, .int .i64 0, .bool false, .slice none 0 0, .bool false, .string ⟨#[]⟩, .slice none 0 0, .slice none 0 0, .int .i64 0, .slice none 0 0, .bool false, .int .i64 36, .slice (some ⟨g1, 0, none⟩) 1 1]), (86, .slice (some ⟨g2, 0, none⟩) 2 2), (87, .agg #[.int .i64 7, .int .i64 0, .bool false, .slice none 0 0, .bool false, .string ⟨#[]⟩, .slice none 0 0, .slice none 0 0, .int .i64 0, .slice none 0 0, .bool false, .int .i64 37, .slice (some ⟨g3, 0, none⟩) 2 2]), (88, .pointer (some ⟨b, o, none⟩))] ?_ ?_ hdf hsz (fun m hm => hoth m (fun j hj => by
    simp only [List.forall_mem_cons] at hm
    obtain ⟨k0, k1, k2, k3, k4, k5, k6, k7, k8, k9, k10, k11, -⟩ := hm
    rcases (show j = 0 ∨ j = 1 ∨ j = 2 ∨ j = 3 ∨ j = 4 ∨ j = 5 ∨ j = 6 ∨ j = 7 ∨ j = 8 ∨ j = 9 ∨ j = 10 ∨ j = 11 by omega) with rfl | rfl | rfl | rfl | rfl | rfl | rfl | rfl | rfl | rfl | rfl | rfl
    · exact k0
    · exact k1
    · exact k2
    · exact k3
    · exact k4
    · exact k5
    · exact k6
    · exact k7
    · exact k8
    · exact k9
    · exact k10
    · exact k11))
  rotate_left
  · intro p hp
    simp only [List.mem_cons, List.not_mem_nil, or_false] at hp
    rcases hp with rfl | rfl | rfl | rfl | rfl | rfl | rfl | rfl | rfl | rfl | rfl | rfl <;> simp
  · intro p hp
    simp only [List.mem_cons, List.not_mem_nil, or_false] at hp
    rcases hp with rfl | rfl | rfl | rfl | rfl | rfl | rfl | rfl | rfl | rfl | rfl | rfl
    · exact v0
    · exact v1
    · exact v2
    · exact v3
    · exact v4
    · exact v5
    · exact v6
    · exact v7
    · exact v8
    · exact v9
    · exact v10
    · exact v11
  clear v0 v1 v2 v3 v4 v5 v6 v7 v8 v9 v10 v11 hval hoth hsz hdf
  subst hA
  simp only [List.foldl, Act.put, List.setIfInBounds_toArray, List.set_cons_zero, List.set_cons_succ]
  show wpOps _ _ _ [12] _ _
  refine wpOps_cons8 ?_
  refine wpOp_st8 rfl rfl rfl rfl rfl rfl (one13 rfl rfl rfl rfl rfl rfl rfl rfl rfl rfl rfl rfl rfl) (onec13 rfl rfl rfl rfl rfl rfl rfl rfl rfl rfl rfl rfl rfl) (fun j hj => ⟨_, (hb9.cell (p := ⟨b, o + j, none⟩) hbl1).trans (H1.out.2.1 j (S.cells[j]'hj) (List.getElem?_eq_getElem hj))⟩) (fun j => (hb9.frozen (p := ⟨b, o + j, none⟩) hbl1).trans ((H1.out.1.frz b (o + j) hbl).trans (HH.out.2.2.2.1 j))) ?_
  simp only [wpOps]
  obtain ⟨w10, hw10⟩ : ∃ w10, setAll w9 b o [.int .i64 7, .int .i64 0, .bool false, .slice none 0 0, .bool false, .string ⟨#[]⟩, .slice none 0 0, .slice none 0 0, .int .i64 0, .slice none 0 0, .bool false, .int .i64 37, .slice (some ⟨g3, 0, none⟩) 2 2] = w10 := ⟨_, rfl⟩
  rw [hw10]
  have hz10 : w10.heap.size = w9.heap.size := by rw [← hw10, setAll_size]
  have hk10 : ∀ k, k ≠ b → w10.heap[k]? = w9.heap[k]? := fun k hk => by rw [← hw10]; exact setAll_block b _ _ _ k hk
  have hz9 := hb9.size
  have hT2 : Turned2 w w10 b o kb ko := by
    refine ⟨by omega, fun c off hc h1 h2 => ?_, fun c off hc => ?_, fun k hk h1 h2 => ?_, fun B h1 h2 h3 => ?_⟩
    · rw [← hw10, setAll_other b ([.int .i64 7, .int .i64 0, .bool false, .slice none 0 0, .bool false, .string ⟨#[]⟩, .slice none 0 0, .slice none 0 0, .int .i64 0, .slice none 0 0, .bool false, .int .i64 37, .slice (some ⟨g3, 0, none⟩) 2 2]) o w9 c off h1]
      exact (hb9.cell (p := ⟨c, off, none⟩) (by show c < w1.heap.size; omega)).trans (H1.out.1.other c off hc h2)
    · rw [← hw10, setAll_frz b ([.int .i64 7, .int .i64 0, .bool false, .slice none 0 0, .bool false, .string ⟨#[]⟩, .slice none 0 0, .slice none 0 0, .int .i64 0, .slice none 0 0, .bool false, .int .i64 37, .slice (some ⟨g3, 0, none⟩) 2 2]) o w9 c off]
      exact (hb9.frozen (p := ⟨c, off, none⟩) (by show c < w1.heap.size; omega)).trans (H1.out.1.frz c off hc)
    · exact (hk10 k h1).trans ((hb9.block k (by omega)).trans (H1.out.1.block k hk h2))
    · have hbel := H1.out.1.below B h2 h3
      rw [← hw10]
      exact (hbel.trans (hb9.mono (by have := hbel.size; omega))).trans (setAll_below b ([.int .i64 7, .int .i64 0, .bool false, .slice none 0 0, .bool false, .string ⟨#[]⟩, .slice none 0 0, .slice none 0 0, .int .i64 0, .slice none 0 0, .bool false, .int .i64 37, .slice (some ⟨g3, 0, none⟩) 2 2]) o w9 B h1)
  have hSex : ∀ i, i < 13 → ∃ x, w9.cell? ⟨b, o + i, none⟩ = some x := fun i hi => ⟨_, (hb9.cell (p := ⟨b, o + i, none⟩) hbl1).trans (H1.out.2.1 i (S.cells[i]'hi) (List.getElem?_eq_getElem (l := S.cells) hi))⟩
  have hh : ∀ j v, ([.int .i64 7, .int .i64 0, .bool false, .slice none 0 0, .bool false, .string ⟨#[]⟩, .slice none 0 0, .slice none 0 0, .int .i64 0, .slice none 0 0, .bool false, .int .i64 37, .slice (some ⟨g3, 0, none⟩) 2 2] : List Value)[j]? = some v → w10.cell? ⟨b, o + j, none⟩ = some v := fun j v hj => by
    rw [← hw10]
    exact setAll_here b ([.int .i64 7, .int .i64 0, .bool false, .slice none 0 0, .bool false, .string ⟨#[]⟩, .slice none 0 0, .slice none 0 0, .int .i64 0, .slice none 0 0, .bool false, .int .i64 37, .slice (some ⟨g3, 0, none⟩) 2 2]) o w9 (fun i hi => hSex i hi) j v hj
  have HE := Lib.hid (And.intro hT2 (And.intro hh (And.intro ((hk10 g1 (by omega)).trans ((hb9.block g1 hg1b).trans H1.out.2.2)) ((hk10 g3 (by omega)).trans hg3c))))
  have hg3l : g3 < w10.heap.size := by omega
  have hg1l : g1 < w10.heap.size := by omega
  clear hT2 hh hk10 hg3c hg2c hb9 hw10 H1 hSex
  simp only [Exit.inBlock]
  refine bodyPost_end (results_none rfl _ _ _) rfl ?_
  exact ⟨rfl, g1, g3, hg1a, by omega, hg1l, hg3l, HE.out.2.2.1, HE.out.2.2.2, HE.out.2.1, HE.out.1⟩
end
end Go.Proofs.YthdhdmmlmbkalaaGreatDoor
