/-
  A region of two parts whose second part is two stores, where one operation of the first may yet come up between them; with a relation between two of the first part's values.
-/
import Derived.Test.YtekdfdobnpegdaaGreatDoorQPrs
set_option linter.unusedVariables false
set_option linter.unusedSimpArgs false
set_option linter.unusedSectionVars false
set_option linter.unnecessarySimpa false
namespace Go.Proofs.YtekdfdobnpegdaaGreatDoor
open Go.RowKit
section inv
variable {P : Program} {ops : Array Oper} {Q : Exit → Act → World → Prop}

/-- The state of a region's first part: what has come up has its value. -/
structure PhaseR (p q : Nat) (R : World → Value → Value → Prop) (nA : Nat) (dst : Nat → Nat) (A : Nat → World → Value → Prop) (a0 : Act) (w0 : World) (l : Nat → Bool) (a : Act) (w : World) : Prop where
  defers : a.defers = a0.defers
  size : a.tmps.size = a0.tmps.size
  other : ∀ n, (∀ j, j < nA → n ≠ dst j) → a.tmps.getD n undef = a0.tmps.getD n undef
  below : Below w0.heap.size w0 w
  val : ∀ i, i < nA → l i = true → A i w (a.tmps.getD (dst i) undef)
  rel : l p = true → l q = true → R w (a.tmps.getD (dst p) undef) (a.tmps.getD (dst q) undef)
theorem wp_region_late {id nA : Nat} (late : Nat) (hlate : late < nA) (B : Act → Bool → Act → World → Prop) (p q : Nat) (hp : p < nA) (hq : q < nA) (hpq : p ≠ q) (R : World → Value → Value → Prop) (stableR : ∀ w w' v v', R w v v' → Below w.heap.size w w' → R w' v v') {a0 : Act} {w0 : World} (hm : P.follows .mixedOrders = true) (hr : Rising ops = true) (dst : Nat → Nat) (A : Nat → World → Value → Prop)
    (hnA : ops.size = nA + 2) (hwA : ((List.range nA).all fun j => j == late || WaitsT ops 6 nA j) = true) (hwB : WaitsAll ops (nA + 1) = true)
    (hinj : ∀ i j, i < nA → j < nA → dst i = dst j → i = j)
    (hds : ∀ i, i < nA → dst i < a0.tmps.size)
    (stable : ∀ i, i < nA → ∀ w w' v, A i w v → Below w.heap.size w w' → A i w' v)
    (step : ∀ i, i < nA → ∀ l a w, PhaseR p q R nA dst A a0 w0 l a w → (∀ j, Waits ops i j = true → l j = true) → wpOp P ops Q i (fun a' w' => ∃ v, a' = a.put (some (dst i)) v ∧ A i w' v ∧ Below w.heap.size w w' ∧ (i = p → l q = true → R w' v (a.tmps.getD (dst q) undef)) ∧ (i = q → l p = true → R w' (a.tmps.getD (dst p) undef) v)) a w)
    (step0 : ∀ l a w, PhaseR p q R nA dst A a0 w0 l a w → (∀ j, j < nA → j ≠ late → l j = true) → wpOp P ops Q nA (B a0 (l late)) a w)
    (stepL : ∀ a w, B a0 false a w → wpOp P ops Q late (B a0 true) a w)
    (fin : ∀ a w, B a0 true a w → wpOp P ops Q (nA + 1) (fun a' w' => Q .normal a' w') a w) :
    (Code.region id ops true).wp P Q a0 w0 := by
  refine wp_region_inv hm hr (fun l a w => Whole ops l ∧ (((∀ j, nA ≤ j → l j = false) ∧ PhaseR p q R nA dst A a0 w0 l a w) ∨ (l nA = true ∧ l (nA + 1) = false ∧ (∀ j, j < nA → j ≠ late → l j = true) ∧ B a0 (l late) a w) ∨ (l (nA + 1) = true ∧ (∀ j, j < ops.size → l j = true) ∧ Q .normal a w))) ?_ ?_ ?_
  · exact ⟨(fun i o ho h => by cases h), .inl ⟨fun _ _ => rfl, rfl, rfl, fun _ _ => rfl, (Below.refl _ _).drew, fun _ _ h => (by cases h), fun h => (by cases h)⟩⟩
  · intro l a w i oi ho hl he hI
    obtain ⟨hwl, hI⟩ := hI
    have hwl' : Whole ops (fun j => l j || j == i) := by
      intro j o hj hlj e hee hbe
      show (l e.on || e.on == i) = true
      have hlj : (l j || j == i) = true := hlj
      rcases Bool.or_eq_true_iff.1 hlj with h1 | h1
      · rw [hwl j o hj h1 e hee hbe, Bool.true_or]
      · rw [beq_iff_eq.1 h1, ho] at hj
        injection hj with hj
        subst hj
        rw [he e hee hbe, Bool.true_or]
    have hi : i < ops.size := by
      rcases Nat.lt_or_ge i ops.size with h1 | h1
      · exact h1
      · rw [Array.getElem?_eq_none h1] at ho; cases ho
    have mono1 : ∀ j, l j = true → (fun j => l j || j == i) j = true := fun j h => by show (l j || j == i) = true; rw [h, Bool.true_or]
    have keep1 : ∀ j, j ≠ i → (fun j => l j || j == i) j = l j := fun j h => by show (l j || j == i) = l j; rw [show (j == i) = false by simpa using h, Bool.or_false]
    have self1 : (fun j => l j || j == i) i = true := by show (l i || i == i) = true; simp
    have lastB : i = nA + 1 → ∀ j, j < nA + 1 → l j = true := fun e => by subst e; exact WaitsAll.listed hwl hwB ho he
    rcases hI with ⟨hB, I⟩ | ⟨hb1, hb2, hb3, hb4⟩ | ⟨hc1, hc2, _⟩
    · by_cases hiA : i < nA
      · refine wpOp_mono ?_ (step i hiA l a w I (fun j hj => Waits.listed hj ho he))
        rintro a' w' ⟨v, rfl, hv, hb, hr1, hr2⟩
        refine ⟨hwl', .inl ⟨fun j hj => ?_, I.defers, by simp [Act.put, I.size], fun n hn => ?_, I.below.trans (hb.mono I.below.size), fun j hj hlj => ?_, fun hlp hlq => ?_⟩⟩
        · show (l j || j == i) = false
          rw [hB j hj, Bool.false_or]; simpa using fun e : j = i => by omega
        · have : n ≠ dst i := hn i hiA
          rw [← I.other n hn]
          unfold Act.put
          simp only [Array.getD_eq_getD_getElem?, Array.getElem?_setIfInBounds]
          rw [if_neg (fun e => this e.symm)]
        · unfold Act.put
          simp only [Array.getD_eq_getD_getElem?, Array.getElem?_setIfInBounds]
          by_cases e : j = i
          · subst e
            rw [if_pos rfl, if_pos (by rw [I.size]; exact hds j hj)]
            exact hv
          · rw [if_neg (fun e' => e (hinj j i hj hiA e'.symm))]
            have hlj' : l j = true := by
              have : (j == i) = false := by simpa using e
              simpa [this] using hlj
            have := stable j hj w w' _ (I.val j hj hlj') hb
            rwa [Array.getD_eq_getD_getElem?] at this
        · have hlp : (l p || p == i) = true := hlp
          have hlq : (l q || q == i) = true := hlq
          have hg : ∀ j, j < nA → (a.put (some (dst i)) v).tmps.getD (dst j) undef = if j = i then v else a.tmps.getD (dst j) undef := fun j hj => by
            rw [put_get (by rw [I.size]; exact hds i hiA)]
            by_cases e : j = i
            · subst e; rw [if_pos rfl, if_pos rfl]
            · rw [if_neg e, if_neg (fun e' => e (hinj j i hj hiA e'))]
          rw [hg p hp, hg q hq]
          by_cases e1 : p = i
          · have e2 : q ≠ i := fun e => hpq (e1.trans e.symm)
            rw [if_pos e1, if_neg e2]
            exact hr1 e1.symm (by rwa [show (q == i) = false by simpa using e2, Bool.or_false] at hlq)
          · have hlp' : l p = true := by rwa [show (p == i) = false by simpa using e1, Bool.or_false] at hlp
            rw [if_neg e1]
            by_cases e2 : q = i
            · rw [if_pos e2]
              exact hr2 e2.symm hlp'
            · rw [if_neg e2]
              have hlq' : l q = true := by rwa [show (q == i) = false by simpa using e2, Bool.or_false] at hlq
              exact stableR _ _ _ _ (I.rel hlp' hlq') hb
      · have hin : i = nA := by
          rcases Nat.lt_or_ge nA i with h1 | h1
          · have := lastB (by omega) nA (by omega); rw [hB nA (Nat.le_refl _)] at this; cases this
          · omega
        subst hin
        have hall : ∀ j, j < i → j ≠ late → l j = true := fun j hj hjl => by
          have h2 := List.all_eq_true.1 hwA j (List.mem_range.2 hj)
          rcases Bool.or_eq_true_iff.1 h2 with h3 | h3
          · exact absurd (beq_iff_eq.1 h3) hjl
          · exact WaitsT.listed hwl 6 i j oi h3 ho he
        refine wpOp_mono ?_ (step0 l a w I hall)
        intro a' w' h'
        refine ⟨hwl', .inr (.inl ⟨self1, ?_, fun j hj hjl => mono1 j (hall j hj hjl), ?_⟩)⟩
        · rw [keep1 (i + 1) (by omega)]; exact hB (i + 1) (by omega)
        · rw [keep1 late (by omega)]; exact h'
    · have hi2 : i = late ∨ i = nA + 1 := by
        rcases Nat.lt_or_ge i nA with h1 | h1
        · by_cases h2 : i = late
          · exact .inl h2
          · rw [hb3 i h1 h2] at hl; cases hl
        · rcases Nat.lt_or_ge nA i with h3 | h3
          · exact .inr (by omega)
          · obtain rfl : i = nA := by omega
            rw [hb1] at hl; cases hl
      rcases hi2 with rfl | rfl
      · rw [hl] at hb4
        refine wpOp_mono ?_ (stepL a w hb4)
        intro a' w' h'
        refine ⟨hwl', .inr (.inl ⟨mono1 _ hb1, ?_, fun j hj hjl => mono1 j (hb3 j hj hjl), ?_⟩)⟩
        · rw [keep1 _ (by omega)]; exact hb2
        · rw [self1]; exact h'
      · have hall := lastB rfl
        rw [hall late (by omega)] at hb4
        refine wpOp_mono ?_ (fin a w hb4)
        intro a' w' h'
        refine ⟨hwl', .inr (.inr ⟨self1, fun j hj => ?_, h'⟩)⟩
        by_cases e : j = nA + 1
        · subst e; exact self1
        · exact mono1 j (hall j (by omega))
    · rw [hc2 i hi] at hl; cases hl
  · intro l a w hl hI
    rcases hI.2 with ⟨hB, _⟩ | ⟨_, hb2, _⟩ | ⟨_, _, h⟩
    · have := hl nA (by omega); rw [hB nA (Nat.le_refl _)] at this; cases this
    · have := hl (nA + 1) (by omega); rw [hb2] at this; cases this
    · exact h
end inv
end Go.Proofs.YtekdfdobnpegdaaGreatDoor
