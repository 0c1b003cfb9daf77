/-
  Regions in two parts (of Inv, Two, Ph, Pt).
-/
import Derived.Test.YtgboiopkihemaaaMem
import Derived.Test.YtgboiopkihemaaaMem
import Derived.Orders
namespace Go.Proofs.Ytgboiopkihemaaa
open Go.RowKit

section inv
variable {P : Program} {ops : Array Oper} {Q : Exit → Act → World → Prop}
/-- Each operation waits for earlier ones alone. -/
def Rising (ops : Array Oper) : Bool := (List.range ops.size).all fun i => ((ops[i]?).map (fun o => o.after.all fun e => !Region.binds .any e || decide (e.on < i))).getD true
theorem Rising.lt {i : Nat} {o : Oper} {e : Edge} (h : Rising ops = true) (ho : ops[i]? = some o) (he : e ∈ o.after) (hb : Region.binds .any e = true) : e.on < i := by
  have hi : i < ops.size := by
    rcases Nat.lt_or_ge i ops.size with h1 | h1
    · exact h1
    · rw [Array.getElem?_eq_none h1] at ho; cases ho
  have h2 := List.all_eq_true.1 h i (List.mem_range.2 hi)
  rw [ho, Option.map_some, Option.getD_some, Array.all_eq_true'] at h2
  have h3 := h2 e he
  rw [hb] at h3
  simpa using h3
theorem ready_none {listed : Array Bool} (hr : Rising ops = true) (h : Region.ready .any ops listed = []) (hs : listed.size = ops.size) : ∀ i, i < ops.size → listed.getD i false = true := by
  intro i
  induction i using Nat.strongRecOn with
  | _ i ih =>
    intro hi
    apply Classical.byContradiction
    intro hn
    have ho : ops[i]? = some ops[i] := Array.getElem?_eq_getElem hi
    have hm : i ∈ Region.ready .any ops listed := mem_ready.2 ⟨by
      have h1 : i < listed.size := by omega
      rw [Array.getD_eq_getD_getElem?, Array.getElem?_eq_getElem h1, Option.getD_some] at hn ⊢
      simpa using hn, _, ho, fun e he hb => by
      have := Rising.lt hr ho he hb
      exact ih e.on this (by omega)⟩
    rw [h] at hm
    cases hm
theorem listed_set {listed : Array Bool} {i : Nat} (hi : i < listed.size) : (fun j => (listed.setIfInBounds i true).getD j false) = fun j => listed.getD j false || j == i := by
  funext j
  rw [Array.getD_eq_getD_getElem?, Array.getD_eq_getD_getElem?, Array.getElem?_setIfInBounds]
  by_cases h : i = j
  · subst h; simp [hi]
  · rw [if_neg h]
    have : (j == i) = false := by simpa using fun h1 : j = i => h h1.symm
    rw [this, Bool.or_false]
theorem count_set {listed : Array Bool} {i : Nat} (h : listed.getD i true = false) : (listed.setIfInBounds i true).toList.count false + 1 = listed.toList.count false := by
  have hi : i < listed.size := by
    rcases Nat.lt_or_ge i listed.size with h1 | h1
    · exact h1
    · rw [Array.getD_eq_getD_getElem?, Array.getElem?_eq_none h1] at h; cases h
  rw [Array.getD_eq_getD_getElem?, Array.getElem?_eq_getElem hi, Option.getD_some] at h
  rw [Array.toList_setIfInBounds, List.count_set (by simpa using hi)]
  have h2 : listed.toList[i] = false := by simpa using h
  have h3 : 0 < listed.toList.count false := List.count_pos_iff.2 (by rw [← h2]; exact List.getElem_mem _)
  rw [h2, if_pos (by rfl), if_neg (by decide)]
  omega
theorem wpAny_inv (hr : Rising ops = true) (I : (Nat → Bool) → Act → World → Prop)
    (step : ∀ l a w i oi, ops[i]? = some oi → l i = false → (∀ e ∈ oi.after, Region.binds .any e = true → l e.on = true) → I l a w → wpOp P ops Q i (I (fun j => l j || j == i)) a w)
    (done : ∀ l a w, (∀ i, i < ops.size → l i = true) → I l a w → Q .normal a w) :
    ∀ (fuel : Nat) (listed : Array Bool) (a : Act) (w : World), listed.size = ops.size → listed.toList.count false ≤ fuel → I (fun j => listed.getD j false) a w → wpAny P .any ops Q fuel listed a w := by
  intro fuel
  induction fuel with
  | zero =>
    intro listed a w hs hc hI
    have hz : ∀ i, i < ops.size → listed.getD i false = true := by
      intro i hi
      have h1 : i < listed.size := by omega
      rw [Array.getD_eq_getD_getElem?, Array.getElem?_eq_getElem h1, Option.getD_some]
      cases hb : listed[i] with
      | true => rfl
      | false =>
        have h2 : false ∈ listed.toList := by rw [← hb, ← Array.getElem_toList h1]; exact List.getElem_mem _
        have := List.count_pos_iff.2 h2
        omega
    refine ⟨?_, done _ _ _ hz hI⟩
    apply List.eq_nil_iff_forall_not_mem.2
    intro i hi
    obtain ⟨h1, o, ho, -⟩ := mem_ready.1 hi
    have hlt : i < ops.size := by
      rcases Nat.lt_or_ge i ops.size with h1 | h1
      · exact h1
      · rw [Array.getElem?_eq_none h1] at ho; cases ho
    have h2 := hz i hlt
    have h3 : i < listed.size := by omega
    rw [Array.getD_eq_getD_getElem?, Array.getElem?_eq_getElem h3, Option.getD_some] at h1 h2
    rw [h1] at h2; cases h2
  | succ fuel ih =>
    intro listed a w hs hc hI
    refine ⟨fun h0 => done _ _ _ (ready_none hr h0 hs) hI, fun i hi => ?_⟩
    obtain ⟨h1, o, ho, he⟩ := mem_ready.1 hi
    have hlt : i < listed.size := by
      rcases Nat.lt_or_ge i listed.size with h2 | h2
      · exact h2
      · rw [Array.getD_eq_getD_getElem?, Array.getElem?_eq_none h2] at h1; cases h1
    have h1' : listed.getD i false = false := by
      rw [Array.getD_eq_getD_getElem?, Array.getElem?_eq_getElem hlt, Option.getD_some] at h1 ⊢
      exact h1
    refine wpOp_mono (fun a' w' hI' => ?_) (step _ a w i o ho h1' he hI)
    refine ih _ a' w' (by simpa using hs) (by have := count_set h1; omega) ?_
    rw [listed_set hlt]
    exact hI'
theorem wp_region_inv {id : Nat} {a : Act} {w : World} (hm : P.follows .mixedOrders = true) (hr : Rising ops = true) (I : (Nat → Bool) → Act → World → Prop)
    (h0 : I (fun _ => false) a w.drew)
    (step : ∀ l a w i oi, ops[i]? = some oi → l i = false → (∀ e ∈ oi.after, Region.binds .any e = true → l e.on = true) → I l a w → wpOp P ops Q i (I (fun j => l j || j == i)) a w)
    (done : ∀ l a w, (∀ i, i < ops.size → l i = true) → I l a w → Q .normal a w) : (Code.region id ops true).wp P Q a w := by
  refine wp_region_any hm (wpAny_inv hr I step done ops.size _ a _ (by simp) ?_ ?_)
  · simp
  · have : (fun j => (Array.replicate ops.size false).getD j false) = fun _ => false := by
      funext j
      rw [Array.getD_eq_getD_getElem?, Array.getElem?_replicate]
      split <;> rfl
    rw [this]
    exact h0
theorem wpOp_plain {i : Nat} {o : Oper} {a : Act} {w : World} {K : Act → World → Prop} (ho : ops[i]? = some o) (hg : o.guard = none) (h : o.wp P a w K Q) : wpOp P ops Q i K a w := by
  unfold wpOp
  rw [ho]
  simp only [Region.wanted, hg, if_true]
  exact .inl h
end inv
theorem exec_call {P : Program} {a : Act} {w : World} {o : Oper} {f p : Nat} {T : TypeId} (ho : o.op = .call { callee := .value (.func f), args := #[.tmp p], argTypes := #[T] }) :
    (execOp a.eval o).run P w = (callFunc f #[a.tmps.getD p undef]).run P w := by
  simp [execOp, ho, Act.eval, go_sem]
variable {ops : Array Oper} {Q : Exit → Act → World → Prop}
theorem put_get {a : Act} {d n : Nat} {v : Value} (hd : d < a.tmps.size) : (a.put (some d) v).tmps.getD n undef = if n = d then v else a.tmps.getD n undef := by
  unfold Act.put
  simp only [Array.getD_eq_getD_getElem?, Array.getElem?_setIfInBounds]
  by_cases h : d = n
  · subst h; simp [hd]
  · rw [if_neg h, if_neg (fun e => h e.symm)]
section inv
variable {P : Program} {ops : Array Oper} {Q : Exit → Act → World → Prop}
/-- Operation i waits for operation j. -/
def Waits (ops : Array Oper) (i j : Nat) : Bool := ((ops[i]?).map (fun o => o.after.any fun e => Region.binds .any e && (e.on == j))).getD false
theorem Waits.listed {i j : Nat} {o : Oper} {l : Nat → Bool} (h : Waits ops i j = true) (ho : ops[i]? = some o) (he : ∀ e ∈ o.after, Region.binds .any e = true → l e.on = true) : l j = true := by
  unfold Waits at h
  rw [ho, Option.map_some, Option.getD_some, Array.any_eq_true'] at h
  obtain ⟨e, hm, hk⟩ := h
  rw [Bool.and_eq_true] at hk
  have h2 := he e hm hk.1
  rw [beq_iff_eq.1 hk.2] at h2
  exact h2
/-- Operation i waits for operation j, or for one that does. -/
def WaitsT (ops : Array Oper) : Nat → Nat → Nat → Bool
  | 0, i, j => Waits ops i j
  | n + 1, i, j => Waits ops i j || (List.range i).any fun k => Waits ops i k && WaitsT ops n k j
/-- What has come up had all that it waits for. -/
def Whole (ops : Array Oper) (l : Nat → Bool) : Prop := ∀ i o, ops[i]? = some o → l i = true → ∀ e ∈ o.after, Region.binds .any e = true → l e.on = true
theorem Waits.some {i j : Nat} (h : Waits ops i j = true) : ∃ o, ops[i]? = some o := by
  unfold Waits at h
  cases ho : ops[i]? with
  | none => rw [ho] at h; cases h
  | some o => exact ⟨o, rfl⟩
theorem WaitsT.listed {l : Nat → Bool} (hw : Whole ops l) : ∀ (n i j : Nat) (o : Oper), WaitsT ops n i j = true → ops[i]? = some o → (∀ e ∈ o.after, Region.binds .any e = true → l e.on = true) → l j = true := by
  intro n
  induction n with
  | zero => intro i j o h ho he; exact Waits.listed h ho he
  | succ n ih =>
    intro i j o h ho he
    unfold WaitsT at h
    rcases Bool.or_eq_true_iff.1 h with h1 | h1
    · exact Waits.listed h1 ho he
    · obtain ⟨k, -, hk⟩ := List.any_eq_true.1 h1
      rw [Bool.and_eq_true] at hk
      have hlk := Waits.listed hk.1 ho he
      have hso : ∃ ok, ops[k]? = some ok := by
        cases n with
        | zero => exact Waits.some hk.2
        | succ m =>
          have h2 := hk.2
          unfold WaitsT at h2
          rcases Bool.or_eq_true_iff.1 h2 with h3 | h3
          · exact Waits.some h3
          · obtain ⟨k', -, hk'⟩ := List.any_eq_true.1 h3
            rw [Bool.and_eq_true] at hk'
            exact Waits.some hk'.1
      obtain ⟨ok, hok⟩ := hso
      exact ih k j ok hk.2 hok (hw k ok hok hlk)
/-- Operation i waits for all before it. -/
def WaitsAll (ops : Array Oper) (i : Nat) : Bool := (List.range i).all fun j => WaitsT ops 6 i j
theorem WaitsAll.listed {i : Nat} {o : Oper} {l : Nat → Bool} (hw : Whole ops l) (h : WaitsAll ops i = true) (ho : ops[i]? = some o) (he : ∀ e ∈ o.after, Region.binds .any e = true → l e.on = true) : ∀ j, j < i → l j = true := by
  intro j hj
  exact WaitsT.listed hw 6 i j o (List.all_eq_true.1 h j (List.mem_range.2 hj)) ho he
/-- The state of a region's first part: what has come up has its value. -/
structure PhaseI (nA : Nat) (dst : Nat → Nat) (A : Nat → World → Value → Prop) (a0 : Act) (w0 : World) (l : Nat → Bool) (a : Act) (w : World) : Prop where
  defers : a.defers = a0.defers
  size : a.tmps.size = a0.tmps.size
  other : ∀ n, (∀ j, j < nA → n ≠ dst j) → a.tmps.getD n undef = a0.tmps.getD n undef
  below : Below w0.heap.size w0 w
  val : ∀ i, i < nA → l i = true → A i w (a.tmps.getD (dst i) undef)
/-- A region of two parts: the first's operations make values, and change nothing that was there; each of the second part waits for all before it. -/
theorem wp_region_phases {id nA : Nat} {a0 : Act} {w0 : World} (hm : P.follows .mixedOrders = true) (hr : Rising ops = true) (dst : Nat → Nat) (A : Nat → World → Value → Prop)
    (hnA : nA ≤ ops.size) (hw : ((List.range (ops.size - nA)).all fun k => WaitsAll ops (nA + k)) = true)
    (hinj : ∀ i j, i < nA → j < nA → dst i = dst j → i = j)
    (hds : ∀ i, i < nA → dst i < a0.tmps.size)
    (stable : ∀ i, i < nA → ∀ w w' v, A i w v → Below w.heap.size w w' → A i w' v)
    (step : ∀ i, i < nA → ∀ l a w, PhaseI nA dst A a0 w0 l a w → (∀ j, Waits ops i j = true → l j = true) → wpOp P ops Q i (fun a' w' => ∃ v, a' = a.put (some (dst i)) v ∧ A i w' v ∧ Below w.heap.size w w') a w)
    (fin : ∀ a w, a.defers = a0.defers → a.tmps.size = a0.tmps.size → (∀ n, (∀ j, j < nA → n ≠ dst j) → a.tmps.getD n undef = a0.tmps.getD n undef) → (∀ i, i < nA → A i w (a.tmps.getD (dst i) undef)) → Below w0.heap.size w0 w → wpOps P ops Q (List.range' nA (ops.size - nA)) a w) :
    (Code.region id ops true).wp P Q a0 w0 := by
  refine wp_region_inv hm hr (fun l a w => Whole ops l ∧ (((∀ j, nA ≤ j → l j = false) ∧ PhaseI nA dst A a0 w0 l a w) ∨ (∃ k, nA < k ∧ k ≤ ops.size ∧ (∀ j, j < k → l j = true) ∧ (∀ j, k ≤ j → l j = false) ∧ wpOps P ops Q (List.range' k (ops.size - k)) a w))) ?_ ?_ ?_
  · exact ⟨(fun i o ho h => by cases h), .inl ⟨fun _ _ => rfl, rfl, rfl, fun _ _ => rfl, (Below.refl _ _).drew, fun _ _ h => by cases h⟩⟩
  · intro l a w i oi ho hl he hI
    obtain ⟨hwl, hI⟩ := hI
    have hwl' : Whole ops (fun j => l j || j == i) := by
      intro j o hj hlj e hee hbe
      show (l e.on || e.on == i) = true
      have hlj : (l j || j == i) = true := hlj
      rcases Bool.or_eq_true_iff.1 hlj with h1 | h1
      · rw [hwl j o hj h1 e hee hbe, Bool.true_or]
      · rw [beq_iff_eq.1 h1, ho] at hj
        injection hj with hj
        subst hj
        rw [he e hee hbe, Bool.true_or]
    have hi : i < ops.size := by
      rcases Nat.lt_or_ge i ops.size with h1 | h1
      · exact h1
      · rw [Array.getElem?_eq_none h1] at ho; cases ho
    have hwi : nA ≤ i → WaitsAll ops i = true := fun h => by
      have := List.all_eq_true.1 hw (i - nA) (List.mem_range.2 (by omega))
      rwa [show nA + (i - nA) = i by omega] at this
    have next : ∀ k, k < ops.size → List.range' k (ops.size - k) = k :: List.range' (k + 1) (ops.size - (k + 1)) := fun k hk => by
      rw [show ops.size - k = (ops.size - (k + 1)) + 1 by omega, List.range'_succ]
    rcases hI with ⟨hB, I⟩ | ⟨k, hk1, hk2, hk3, hk4, hk5⟩
    · by_cases hiA : i < nA
      · refine wpOp_mono ?_ (step i hiA l a w I (fun j hj => Waits.listed hj ho he))
        rintro a' w' ⟨v, rfl, hv, hb⟩
        refine ⟨hwl', .inl ⟨fun j hj => ?_, I.defers, by simp [Act.put, I.size], fun n hn => ?_, I.below.trans (hb.mono I.below.size), fun j hj hlj => ?_⟩⟩
        · show (l j || j == i) = false
          rw [hB j hj, Bool.false_or]; simpa using fun e : j = i => by omega
        · have : n ≠ dst i := hn i hiA
          rw [← I.other n hn]
          unfold Act.put
          simp only [Array.getD_eq_getD_getElem?, Array.getElem?_setIfInBounds]
          rw [if_neg (fun e => this e.symm)]
        · unfold Act.put
          simp only [Array.getD_eq_getD_getElem?, Array.getElem?_setIfInBounds]
          by_cases e : j = i
          · subst e
            rw [if_pos rfl, if_pos (by rw [I.size]; exact hds j hj)]
            exact hv
          · rw [if_neg (fun e' => e (hinj j i hj hiA e'.symm))]
            have hlj' : l j = true := by
              have : (j == i) = false := by simpa using e
              simpa [this] using hlj
            have := stable j hj w w' _ (I.val j hj hlj') hb
            rwa [Array.getD_eq_getD_getElem?] at this
      · have hall := WaitsAll.listed hwl (hwi (by omega)) ho he
        have hin : i = nA := by
          rcases Nat.lt_or_ge nA i with h1 | h1
          · have := hall nA h1; rw [hB nA (Nat.le_refl _)] at this; cases this
          · omega
        subst hin
        have hf := fin a w I.defers I.size I.other (fun j hj => I.val j hj (hall j hj)) I.below
        rw [next i hi, wpOps_cons] at hf
        refine wpOp_mono ?_ hf
        intro a' w' h'
        refine ⟨hwl', .inr ⟨i + 1, by omega, by omega, fun j hj => ?_, fun j hj => ?_, h'⟩⟩
        · by_cases e : j = i
          · simp [e]
          · show (l j || j == i) = true
            rw [hall j (by omega), Bool.true_or]
        · show (l j || j == i) = false
          rw [hB j (by omega), Bool.false_or]; simpa using fun e : j = i => by omega
    · have hik : i = k := by
        have h1 : k ≤ i := by
          rcases Nat.lt_or_ge i k with h2 | h2
          · rw [hk3 i h2] at hl; cases hl
          · exact h2
        have hall := WaitsAll.listed hwl (hwi (by omega)) ho he
        rcases Nat.lt_or_ge k i with h2 | h2
        · have := hall k h2; rw [hk4 k (Nat.le_refl _)] at this; cases this
        · omega
      subst hik
      rw [next i hi, wpOps_cons] at hk5
      refine wpOp_mono ?_ hk5
      intro a' w' h'
      refine ⟨hwl', .inr ⟨i + 1, by omega, by omega, fun j hj => ?_, fun j hj => ?_, h'⟩⟩
      · by_cases e : j = i
        · simp [e]
        · show (l j || j == i) = true
          rw [hk3 j (by omega), Bool.true_or]
      · show (l j || j == i) = false
        rw [hk4 j (by omega), Bool.false_or]; simpa using fun e : j = i => by omega
  · intro l a w hl hI
    replace hI := hI.2
    rcases hI with ⟨hB, I⟩ | ⟨k, hk1, hk2, hk3, hk4, hk5⟩
    · have hz : nA = ops.size := by
        rcases Nat.lt_or_ge nA ops.size with h1 | h1
        · have := hl nA h1; rw [hB nA (Nat.le_refl _)] at this; cases this
        · omega
      have hf := fin a w I.defers I.size I.other (fun j hj => I.val j hj (hl j (by omega))) I.below
      rw [hz, Nat.sub_self] at hf
      exact hf
    · have hz : k = ops.size := by
        rcases Nat.lt_or_ge k ops.size with h1 | h1
        · have := hl k h1; rw [hk4 k (Nat.le_refl _)] at this; cases this
        · omega
      rw [hz, Nat.sub_self] at hk5
      exact hk5
end inv
theorem exec_call_const {P : Program} {a : Act} {w : World} {o : Oper} {f : Nat} {T : TypeId} {c : Value} (ho : o.op = .call { callee := .value (.func f), args := #[.const c], argTypes := #[T] }) :
    (execOp a.eval o).run P w = (callFunc f #[c]).run P w := by
  simp [execOp, ho, Act.eval, go_sem]
theorem exec_call2 {P : Program} {a : Act} {w : World} {o : Oper} {f p q : Nat} {T T' : TypeId} (ho : o.op = .call { callee := .value (.func f), args := #[.tmp p, .tmp q], argTypes := #[T, T'] }) :
    (execOp a.eval o).run P w = (callFunc f #[a.tmps.getD p undef, a.tmps.getD q undef]).run P w := by
  simp [execOp, ho, Act.eval, go_sem]
theorem act_ext {a b : Act} (hd : a.defers = b.defers) (hs : a.tmps.size = b.tmps.size) (h : ∀ n, a.tmps.getD n undef = b.tmps.getD n undef) : a = b := by
  obtain ⟨x, d⟩ := a
  obtain ⟨y, d'⟩ := b
  dsimp only at hd hs h
  subst hd
  rw [Act.mk.injEq]
  refine ⟨Array.ext hs fun i h1 h2 => ?_, rfl⟩
  have := h i
  rw [Array.getD_eq_getD_getElem?, Array.getD_eq_getD_getElem?, Array.getElem?_eq_getElem h1, Array.getElem?_eq_getElem h2] at this
  exact this
theorem fold_pairs {a : Act} (ps : List (Nat × Value)) (b : Act) (hds : ∀ p ∈ ps, p.1 < b.tmps.size) (hval : ∀ p ∈ ps, a.tmps.getD p.1 undef = p.2) :
    (ps.foldl (fun b p => b.put (some p.1) p.2) b).defers = b.defers ∧ (ps.foldl (fun b p => b.put (some p.1) p.2) b).tmps.size = b.tmps.size ∧
    ∀ n, (ps.foldl (fun b p => b.put (some p.1) p.2) b).tmps.getD n undef = if n ∈ ps.map (·.1) then a.tmps.getD n undef else b.tmps.getD n undef := by
  induction ps generalizing b with
  | nil => exact ⟨rfl, rfl, fun n => by simp⟩
  | cons p ps ih =>
    have hi := hds p (by simp)
    have hs : (b.put (some p.1) p.2).tmps.size = b.tmps.size := by simp [Act.put]
    obtain ⟨h1, h2, h3⟩ := ih (b.put (some p.1) p.2) (fun q hq => by rw [hs]; exact hds q (by simp [hq])) (fun q hq => hval q (by simp [hq]))
    refine ⟨h1, h2.trans hs, fun n => ?_⟩
    rw [List.foldl_cons, h3 n, put_get hi, List.map_cons]
    by_cases hn : n ∈ ps.map (·.1)
    · rw [if_pos hn, if_pos (List.mem_cons_of_mem _ hn)]
    · rw [if_neg hn]
      by_cases e : n = p.1
      · rw [if_pos e, if_pos (by rw [e]; exact List.mem_cons_self), e]; exact (hval p (by simp)).symm
      · rw [if_neg e, if_neg (by rw [List.mem_cons]; exact fun h => h.elim e hn)]
/-- The frame behind a region's first part, written out. -/
theorem tower_pairs {a a0 : Act} (ps : List (Nat × Value)) (hds : ∀ p ∈ ps, p.1 < a0.tmps.size) (hval : ∀ p ∈ ps, a.tmps.getD p.1 undef = p.2) (hdf : a.defers = a0.defers) (hsize : a.tmps.size = a0.tmps.size)
    (hoth : ∀ n, (∀ p ∈ ps, n ≠ p.1) → a.tmps.getD n undef = a0.tmps.getD n undef) : a = ps.foldl (fun b p => b.put (some p.1) p.2) a0 := by
  obtain ⟨h1, h2, h3⟩ := fold_pairs ps a0 hds hval
  refine act_ext (hdf.trans h1.symm) (hsize.trans h2.symm) fun n => ?_
  rw [h3 n]
  by_cases hn : n ∈ ps.map (·.1)
  · rw [if_pos hn]
  · rw [if_neg hn]
    refine hoth n fun p hp e => hn ?_
    rw [e]
    exact List.mem_map.2 ⟨p, hp, rfl⟩
theorem exec_move {P : Program} {a : Act} {w : World} {o : Oper} {p : Nat} (ho : o.op = .move (.tmp p)) : (execOp a.eval o).run P w = .ok (.value (a.tmps.getD p undef)) w := by
  simp [execOp, ho, Act.eval, go_sem]
end Go.Proofs.Ytgboiopkihemaaa
