/-
  Regions in two parts, where what is known of a value may speak of the others.
-/
import Derived.Test.YtgboiopkihemaaaPhs
namespace Go.Proofs.Ytgboiopkihemaaa
open Go.RowKit
section inv
variable {P : Program} {ops : Array Oper} {Q : Exit → Act → World → Prop}

/-- The state of a region's first part: what has come up has its value. -/
structure PhaseA (nA : Nat) (dst : Nat → Nat) (A : Nat → Act → World → Value → Prop) (a0 : Act) (w0 : World) (l : Nat → Bool) (a : Act) (w : World) : Prop where
  defers : a.defers = a0.defers
  size : a.tmps.size = a0.tmps.size
  other : ∀ n, (∀ j, j < nA → n ≠ dst j) → a.tmps.getD n undef = a0.tmps.getD n undef
  below : Below w0.heap.size w0 w
  val : ∀ i, i < nA → l i = true → A i a w (a.tmps.getD (dst i) undef)
  rest : ∀ i, i < nA → l i = false → a.tmps.getD (dst i) undef = a0.tmps.getD (dst i) undef
/-- A region of two parts: the first's operations make values, and change nothing that was there; each of the second part waits for all before it. -/
theorem wp_region_phasesA {id nA : Nat} {a0 : Act} {w0 : World} (hm : P.follows .mixedOrders = true) (hr : Rising ops = true) (dst : Nat → Nat) (A : Nat → Act → World → Value → Prop)
    (hnA : nA ≤ ops.size) (hw : ((List.range (ops.size - nA)).all fun k => WaitsAll ops (nA + k)) = true)
    (hinj : ∀ i j, i < nA → j < nA → dst i = dst j → i = j)
    (hds : ∀ i, i < nA → dst i < a0.tmps.size)
    (step : ∀ i, i < nA → ∀ l a w, PhaseA nA dst A a0 w0 l a w → (∀ j, Waits ops i j = true → l j = true) → wpOp P ops Q i (fun a' w' => ∃ v, a' = a.put (some (dst i)) v ∧ A i a' w' v ∧ Below w.heap.size w w' ∧ ∀ j, j < nA → j ≠ i → l j = true → A j a' w' (a.tmps.getD (dst j) undef)) a w)
    (fin : ∀ a w, a.defers = a0.defers → a.tmps.size = a0.tmps.size → (∀ n, (∀ j, j < nA → n ≠ dst j) → a.tmps.getD n undef = a0.tmps.getD n undef) → (∀ i, i < nA → A i a w (a.tmps.getD (dst i) undef)) → Below w0.heap.size w0 w → wpOps P ops Q (List.range' nA (ops.size - nA)) a w) :
    (Code.region id ops true).wp P Q a0 w0 := by
  refine wp_region_inv hm hr (fun l a w => Whole ops l ∧ (((∀ j, nA ≤ j → l j = false) ∧ PhaseA nA dst A a0 w0 l a w) ∨ (∃ k, nA < k ∧ k ≤ ops.size ∧ (∀ j, j < k → l j = true) ∧ (∀ j, k ≤ j → l j = false) ∧ wpOps P ops Q (List.range' k (ops.size - k)) a w))) ?_ ?_ ?_
  · exact ⟨(fun i o ho h => by cases h), .inl ⟨fun _ _ => rfl, rfl, rfl, fun _ _ => rfl, (Below.refl _ _).drew, fun _ _ h => (by cases h), fun _ _ _ => rfl⟩⟩
  · intro l a w i oi ho hl he hI
    obtain ⟨hwl, hI⟩ := hI
    have hwl' : Whole ops (fun j => l j || j == i) := by
      intro j o hj hlj e hee hbe
      show (l e.on || e.on == i) = true
      have hlj : (l j || j == i) = true := hlj
      rcases Bool.or_eq_true_iff.1 hlj with h1 | h1
      · rw [hwl j o hj h1 e hee hbe, Bool.true_or]
      · rw [beq_iff_eq.1 h1, ho] at hj
        injection hj with hj
        subst hj
        rw [he e hee hbe, Bool.true_or]
    have hi : i < ops.size := by
      rcases Nat.lt_or_ge i ops.size with h1 | h1
      · exact h1
      · rw [Array.getElem?_eq_none h1] at ho; cases ho
    have hwi : nA ≤ i → WaitsAll ops i = true := fun h => by
      have := List.all_eq_true.1 hw (i - nA) (List.mem_range.2 (by omega))
      rwa [show nA + (i - nA) = i by omega] at this
    have next : ∀ k, k < ops.size → List.range' k (ops.size - k) = k :: List.range' (k + 1) (ops.size - (k + 1)) := fun k hk => by
      rw [show ops.size - k = (ops.size - (k + 1)) + 1 by omega, List.range'_succ]
    rcases hI with ⟨hB, I⟩ | ⟨k, hk1, hk2, hk3, hk4, hk5⟩
    · by_cases hiA : i < nA
      · refine wpOp_mono ?_ (step i hiA l a w I (fun j hj => Waits.listed hj ho he))
        rintro a' w' ⟨v, rfl, hv, hb, ho2⟩
        refine ⟨hwl', .inl ⟨fun j hj => ?_, I.defers, by simp [Act.put, I.size], fun n hn => ?_, I.below.trans (hb.mono I.below.size), fun j hj hlj => ?_, fun j hj hlj => ?_⟩⟩
        · show (l j || j == i) = false
          rw [hB j hj, Bool.false_or]; simpa using fun e : j = i => by omega
        · have : n ≠ dst i := hn i hiA
          rw [← I.other n hn]
          unfold Act.put
          simp only [Array.getD_eq_getD_getElem?, Array.getElem?_setIfInBounds]
          rw [if_neg (fun e => this e.symm)]
        · rw [put_get (by rw [I.size]; exact hds i hiA)]
          by_cases e : j = i
          · subst e
            rw [if_pos rfl]
            exact hv
          · rw [if_neg (fun e' => e (hinj j i hj hiA e'))]
            have hlj' : l j = true := by
              have : (j == i) = false := by simpa using e
              simpa [this] using hlj
            exact ho2 j hj e hlj'
        · have hlj : (l j || j == i) = false := hlj
          rw [Bool.or_eq_false_iff] at hlj
          have e : j ≠ i := by simpa using hlj.2
          rw [put_get (by rw [I.size]; exact hds i hiA), if_neg (fun e' => e (hinj j i hj hiA e'))]
          exact I.rest j hj hlj.1
      · have hall := WaitsAll.listed hwl (hwi (by omega)) ho he
        have hin : i = nA := by
          rcases Nat.lt_or_ge nA i with h1 | h1
          · have := hall nA h1; rw [hB nA (Nat.le_refl _)] at this; cases this
          · omega
        subst hin
        have hf := fin a w I.defers I.size I.other (fun j hj => I.val j hj (hall j hj)) I.below
        rw [next i hi, wpOps_cons] at hf
        refine wpOp_mono ?_ hf
        intro a' w' h'
        refine ⟨hwl', .inr ⟨i + 1, by omega, by omega, fun j hj => ?_, fun j hj => ?_, h'⟩⟩
        · by_cases e : j = i
          · simp [e]
          · show (l j || j == i) = true
            rw [hall j (by omega), Bool.true_or]
        · show (l j || j == i) = false
          rw [hB j (by omega), Bool.false_or]; simpa using fun e : j = i => by omega
    · have hik : i = k := by
        have h1 : k ≤ i := by
          rcases Nat.lt_or_ge i k with h2 | h2
          · rw [hk3 i h2] at hl; cases hl
          · exact h2
        have hall := WaitsAll.listed hwl (hwi (by omega)) ho he
        rcases Nat.lt_or_ge k i with h2 | h2
        · have := hall k h2; rw [hk4 k (Nat.le_refl _)] at this; cases this
        · omega
      subst hik
      rw [next i hi, wpOps_cons] at hk5
      refine wpOp_mono ?_ hk5
      intro a' w' h'
      refine ⟨hwl', .inr ⟨i + 1, by omega, by omega, fun j hj => ?_, fun j hj => ?_, h'⟩⟩
      · by_cases e : j = i
        · simp [e]
        · show (l j || j == i) = true
          rw [hk3 j (by omega), Bool.true_or]
      · show (l j || j == i) = false
        rw [hk4 j (by omega), Bool.false_or]; simpa using fun e : j = i => by omega
  · intro l a w hl hI
    replace hI := hI.2
    rcases hI with ⟨hB, I⟩ | ⟨k, hk1, hk2, hk3, hk4, hk5⟩
    · have hz : nA = ops.size := by
        rcases Nat.lt_or_ge nA ops.size with h1 | h1
        · have := hl nA h1; rw [hB nA (Nat.le_refl _)] at this; cases this
        · omega
      have hf := fin a w I.defers I.size I.other (fun j hj => I.val j hj (hl j (by omega))) I.below
      rw [hz, Nat.sub_self] at hf
      exact hf
    · have hz : k = ops.size := by
        rcases Nat.lt_or_ge k ops.size with h1 | h1
        · have := hl k h1; rw [hk4 k (Nat.le_refl _)] at this; cases this
        · omega
      rw [hz, Nat.sub_self] at hk5
      exact hk5
theorem wanted_yes {j d : Nat} {b : Bool} {o oj : Oper} {a : Act} (hg : o.guard = some (j, b)) (hj : ops[j]? = some oj) (hd : oj.dst = some d) (hs : d < a.tmps.size) (hv : a.tmps.getD d undef = .bool b) : Region.wanted o (yielded ops a.tmps) = true := by
  rw [Array.getD_eq_getD_getElem?, Array.getElem?_eq_getElem hs, Option.getD_some] at hv
  simp [Region.wanted, hg, yielded, hj, hd, Array.getElem?_eq_getElem hs, hv]
theorem wanted_no {j d : Nat} {b : Bool} {o oj : Oper} {a : Act} (hg : o.guard = some (j, b)) (hj : ops[j]? = some oj) (hd : oj.dst = some d) (hs : d < a.tmps.size) (hv : a.tmps.getD d undef = .bool (!b)) : Region.wanted o (yielded ops a.tmps) = false := by
  rw [Array.getD_eq_getD_getElem?, Array.getElem?_eq_getElem hs, Option.getD_some] at hv
  cases b <;> simp [Region.wanted, hg, yielded, hj, hd, Array.getElem?_eq_getElem hs, hv]
theorem wpOp_want {i : Nat} {o : Oper} {a : Act} {w : World} {K : Act → World → Prop} (ho : ops[i]? = some o) (hw : Region.wanted o (yielded ops a.tmps) = true) (h : o.wp P a w K Q) : wpOp P ops Q i K a w := by
  unfold wpOp
  rw [ho]
  simp only [hw, if_true]
  exact .inl h
theorem wpOp_skip {i : Nat} {o : Oper} {a : Act} {w : World} {K : Act → World → Prop} (ho : ops[i]? = some o) (hw : Region.wanted o (yielded ops a.tmps) = false) (h : K (a.put o.dst undef) w) : wpOp P ops Q i K a w := by
  unfold wpOp
  rw [ho]
  simp only [hw]
  exact h
end inv
end Go.Proofs.Ytgboiopkihemaaa
