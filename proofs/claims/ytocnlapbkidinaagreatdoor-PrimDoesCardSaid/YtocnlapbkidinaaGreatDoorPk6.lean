/-
  A region of two parts whose second part is two stores, where one operation of the first may yet come up between them; with a relation between two of the first part's values. Operations of a drawn region: an alloc, a load, a build, a store, a call. A drawn region in two parts, with a relation between two of the first part's values; operations on whole numbers' variables.
-/
import Derived.Test.YtocnlapbkidinaaGreatDoorQPrs
import Derived.Test.YtocnlapbkidinaaGreatDoorPl1
import Derived.Test.YtocnlapbkidinaaGreatDoorPn7
set_option linter.unusedVariables false
set_option linter.unusedSimpArgs false
set_option linter.unusedSectionVars false
set_option linter.unnecessarySimpa false
namespace Go.Proofs.YtocnlapbkidinaaGreatDoor
section
open Go.RowKit
section inv
variable {P : Program} {ops : Array Oper} {Q : Exit → Act → World → Prop}

/-- The state of a region's first part: what has come up has its value. -/
structure PhaseR (p q : Nat) (R : World → Value → Value → Prop) (nA : Nat) (dst : Nat → Nat) (A : Nat → World → Value → Prop) (a0 : Act) (w0 : World) (l : Nat → Bool) (a : Act) (w : World) : Prop where
  defers : a.defers = a0.defers
  size : a.tmps.size = a0.tmps.size
  other : ∀ n, (∀ j, j < nA → n ≠ dst j) → a.tmps.getD n undef = a0.tmps.getD n undef
  below : Below w0.heap.size w0 w
  val : ∀ i, i < nA → l i = true → A i w (a.tmps.getD (dst i) undef)
  rel : l p = true → l q = true → R w (a.tmps.getD (dst p) undef) (a.tmps.getD (dst q) undef)
theorem wp_region_late {id nA : Nat} (late : Nat) (hlate : late < nA) (B : Act → Bool → Act → World → Prop) (p q : Nat) (hp : p < nA) (hq : q < nA) (hpq : p ≠ q) (R : World → Value → Value → Prop) (stableR : ∀ w w' v v', R w v v' → Below w.heap.size w w' → R w' v v') {a0 : Act} {w0 : World} (hm : P.follows .mixedOrders = true) (hr : Rising ops = true) (dst : Nat → Nat) (A : Nat → World → Value → Prop)
    (hnA : ops.size = nA + 2) (hwA : ((List.range nA).all fun j => j == late || WaitsT ops 6 nA j) = true) (hwB : WaitsAll ops (nA + 1) = true)
    (hinj : ∀ i j, i < nA → j < nA → dst i = dst j → i = j)
    (hds : ∀ i, i < nA → dst i < a0.tmps.size)
    (stable : ∀ i, i < nA → ∀ w w' v, A i w v → Below w.heap.size w w' → A i w' v)
    (step : ∀ i, i < nA → ∀ l a w, PhaseR p q R nA dst A a0 w0 l a w → (∀ j, Waits ops i j = true → l j = true) → wpOp P ops Q i (fun a' w' => ∃ v, a' = a.put (some (dst i)) v ∧ A i w' v ∧ Below w.heap.size w w' ∧ (i = p → l q = true → R w' v (a.tmps.getD (dst q) undef)) ∧ (i = q → l p = true → R w' (a.tmps.getD (dst p) undef) v)) a w)
    (step0 : ∀ l a w, PhaseR p q R nA dst A a0 w0 l a w → (∀ j, j < nA → j ≠ late → l j = true) → wpOp P ops Q nA (B a0 (l late)) a w)
    (stepL : ∀ a w, B a0 false a w → wpOp P ops Q late (B a0 true) a w)
    (fin : ∀ a w, B a0 true a w → wpOp P ops Q (nA + 1) (fun a' w' => Q .normal a' w') a w) :
    (Code.region id ops true).wp P Q a0 w0 := by
  refine wp_region_inv hm hr (fun l a w => Whole ops l ∧ (((∀ j, nA ≤ j → l j = false) ∧ PhaseR p q R nA dst A a0 w0 l a w) ∨ (l nA = true ∧ l (nA + 1) = false ∧ (∀ j, j < nA → j ≠ late → l j = true) ∧ B a0 (l late) a w) ∨ (l (nA + 1) = true ∧ (∀ j, j < ops.size → l j = true) ∧ Q .normal a w))) ?_ ?_ ?_
  · exact ⟨(fun i o ho h => by cases h), .inl ⟨fun _ _ => rfl, rfl, rfl, fun _ _ => rfl, (Below.refl _ _).drew, fun _ _ h => (by cases h), fun h => (by cases h)⟩⟩
  · intro l a w i oi ho hl he hI
    obtain ⟨hwl, hI⟩ := hI
    have hwl' : Whole ops (fun j => l j || j == i) := by
      intro j o hj hlj e hee hbe
      show (l e.on || e.on == i) = true
      have hlj : (l j || j == i) = true := hlj
      rcases Bool.or_eq_true_iff.1 hlj with h1 | h1
      · rw [hwl j o hj h1 e hee hbe, Bool.true_or]
      · rw [beq_iff_eq.1 h1, ho] at hj
        injection hj with hj
        subst hj
        rw [he e hee hbe, Bool.true_or]
    have hi : i < ops.size := by
      rcases Nat.lt_or_ge i ops.size with h1 | h1
      · exact h1
      · rw [Array.getElem?_eq_none h1] at ho; cases ho
    have mono1 : ∀ j, l j = true → (fun j => l j || j == i) j = true := fun j h => by show (l j || j == i) = true; rw [h, Bool.true_or]
    have keep1 : ∀ j, j ≠ i → (fun j => l j || j == i) j = l j := fun j h => by show (l j || j == i) = l j; rw [show (j == i) = false by simpa using h, Bool.or_false]
    have self1 : (fun j => l j || j == i) i = true := by show (l i || i == i) = true; simp
    have lastB : i = nA + 1 → ∀ j, j < nA + 1 → l j = true := fun e => by subst e; exact WaitsAll.listed hwl hwB ho he
    rcases hI with ⟨hB, I⟩ | ⟨hb1, hb2, hb3, hb4⟩ | ⟨hc1, hc2, _⟩
    · by_cases hiA : i < nA
      · refine wpOp_mono ?_ (step i hiA l a w I (fun j hj => Waits.listed hj ho he))
        rintro a' w' ⟨v, rfl, hv, hb, hr1, hr2⟩
        refine ⟨hwl', .inl ⟨fun j hj => ?_, I.defers, by simp [Act.put, I.size], fun n hn => ?_, I.below.trans (hb.mono I.below.size), fun j hj hlj => ?_, fun hlp hlq => ?_⟩⟩
        · show (l j || j == i) = false
          rw [hB j hj, Bool.false_or]; simpa using fun e : j = i => by omega
        · have : n ≠ dst i := hn i hiA
          rw [← I.other n hn]
          unfold Act.put
          simp only [Array.getD_eq_getD_getElem?, Array.getElem?_setIfInBounds]
          rw [if_neg (fun e => this e.symm)]
        · unfold Act.put
          simp only [Array.getD_eq_getD_getElem?, Array.getElem?_setIfInBounds]
          by_cases e : j = i
          · subst e
            rw [if_pos rfl, if_pos (by rw [I.size]; exact hds j hj)]
            exact hv
          · rw [if_neg (fun e' => e (hinj j i hj hiA e'.symm))]
            have hlj' : l j = true := by
              have : (j == i) = false := by simpa using e
              simpa [this] using hlj
            have := stable j hj w w' _ (I.val j hj hlj') hb
            rwa [Array.getD_eq_getD_getElem?] at this
        · have hlp : (l p || p == i) = true := hlp
          have hlq : (l q || q == i) = true := hlq
          have hg : ∀ j, j < nA → (a.put (some (dst i)) v).tmps.getD (dst j) undef = if j = i then v else a.tmps.getD (dst j) undef := fun j hj => by
            rw [put_get (by rw [I.size]; exact hds i hiA)]
            by_cases e : j = i
            · subst e; rw [if_pos rfl, if_pos rfl]
            · rw [if_neg e, if_neg (fun e' => e (hinj j i hj hiA e'))]
          rw [hg p hp, hg q hq]
          by_cases e1 : p = i
          · have e2 : q ≠ i := fun e => hpq (e1.trans e.symm)
            rw [if_pos e1, if_neg e2]
            exact hr1 e1.symm (by rwa [show (q == i) = false by simpa using e2, Bool.or_false] at hlq)
          · have hlp' : l p = true := by rwa [show (p == i) = false by simpa using e1, Bool.or_false] at hlp
            rw [if_neg e1]
            by_cases e2 : q = i
            · rw [if_pos e2]
              exact hr2 e2.symm hlp'
            · rw [if_neg e2]
              have hlq' : l q = true := by rwa [show (q == i) = false by simpa using e2, Bool.or_false] at hlq
              exact stableR _ _ _ _ (I.rel hlp' hlq') hb
      · have hin : i = nA := by
          rcases Nat.lt_or_ge nA i with h1 | h1
          · have := lastB (by omega) nA (by omega); rw [hB nA (Nat.le_refl _)] at this; cases this
          · omega
        subst hin
        have hall : ∀ j, j < i → j ≠ late → l j = true := fun j hj hjl => by
          have h2 := List.all_eq_true.1 hwA j (List.mem_range.2 hj)
          rcases Bool.or_eq_true_iff.1 h2 with h3 | h3
          · exact absurd (beq_iff_eq.1 h3) hjl
          · exact WaitsT.listed hwl 6 i j oi h3 ho he
        refine wpOp_mono ?_ (step0 l a w I hall)
        intro a' w' h'
        refine ⟨hwl', .inr (.inl ⟨self1, ?_, fun j hj hjl => mono1 j (hall j hj hjl), ?_⟩)⟩
        · rw [keep1 (i + 1) (by omega)]; exact hB (i + 1) (by omega)
        · rw [keep1 late (by omega)]; exact h'
    · have hi2 : i = late ∨ i = nA + 1 := by
        rcases Nat.lt_or_ge i nA with h1 | h1
        · by_cases h2 : i = late
          · exact .inl h2
          · rw [hb3 i h1 h2] at hl; cases hl
        · rcases Nat.lt_or_ge nA i with h3 | h3
          · exact .inr (by omega)
          · obtain rfl : i = nA := by omega
            rw [hb1] at hl; cases hl
      rcases hi2 with rfl | rfl
      · rw [hl] at hb4
        refine wpOp_mono ?_ (stepL a w hb4)
        intro a' w' h'
        refine ⟨hwl', .inr (.inl ⟨mono1 _ hb1, ?_, fun j hj hjl => mono1 j (hb3 j hj hjl), ?_⟩)⟩
        · rw [keep1 _ (by omega)]; exact hb2
        · rw [self1]; exact h'
      · have hall := lastB rfl
        rw [hall late (by omega)] at hb4
        refine wpOp_mono ?_ (fin a w hb4)
        intro a' w' h'
        refine ⟨hwl', .inr (.inr ⟨self1, fun j hj => ?_, h'⟩)⟩
        by_cases e : j = nA + 1
        · subst e; exact self1
        · exact mono1 j (hall j (by omega))
    · rw [hc2 i hi] at hl; cases hl
  · intro l a w hl hI
    rcases hI.2 with ⟨hB, _⟩ | ⟨_, hb2, _⟩ | ⟨_, _, h⟩
    · have := hl nA (by omega); rw [hB nA (Nat.le_refl _)] at this; cases this
    · have := hl (nA + 1) (by omega); rw [hb2] at this; cases this
    · exact h
end inv
end
end Go.Proofs.YtocnlapbkidinaaGreatDoor
namespace Go.Proofs.YtocnlapbkidinaaGreatDoor
section
open Go.RowKit
theorem set7_below {w a : World} {B L : Nat} {v0 v1 v2 v3 v4 v5 v6 : Value} (h : Below L a w) (hB : L ≤ B) :
    Below L a (((((((w.setCell ⟨B, 0, none⟩ v0).setCell ⟨B, 1, none⟩ v1).setCell ⟨B, 2, none⟩ v2).setCell ⟨B, 3, none⟩ v3).setCell ⟨B, 4, none⟩ v4).setCell ⟨B, 5, none⟩ v5).setCell ⟨B, 6, none⟩ v6) :=
  ((((((h.setCell (p := ⟨B, 0, none⟩) hB v0).setCell (p := ⟨B, 1, none⟩) hB v1).setCell (p := ⟨B, 2, none⟩) hB v2).setCell (p := ⟨B, 3, none⟩) hB v3).setCell (p := ⟨B, 4, none⟩) hB v4).setCell (p := ⟨B, 5, none⟩) hB v5).setCell (p := ⟨B, 6, none⟩) hB v6
theorem exec_allocD {a : Act} {w : World} {o : Oper} (ho : o.op = .alloc 29) :
    (execOp a.eval o).run Tryz.prog w = .ok (.value (.pointer (some ⟨w.heap.size, 0, none⟩))) (w.alloc (Obj.cells #[.int .i64 0, .bool false, .slice none 0 0, .bool false, .string ⟨#[]⟩, .slice none 0 0, .slice none 0 0] 29)) := by
  simp [execOp, ho, go_sem]
theorem exec_storeD {a : Act} {w : World} {o : Oper} {p q b : Nat} {u x : LT} (ho : o.op = .store 29 (.tmp p) (.tmp q)) (ht : a.tmps.getD p undef = .pointer (some ⟨b, 0, none⟩)) (hq : a.tmps.getD q undef = .agg #[.int .i64 u.k, .bool u.g, .slice u.la u.ln u.lc, .bool u.bb, .string u.s, .slice u.ia u.items.length u.ic, .slice u.ta u.tail.length u.tc]) (hb : w.heap[b]? = some (Obj.cells #[.int .i64 x.k, .bool x.g, .slice x.la x.ln x.lc, .bool x.bb, .string x.s, .slice x.ia x.items.length x.ic, .slice x.ta x.tail.length x.tc] 29)) :
    ∃ w', (execOp a.eval o).run Tryz.prog w = .ok .skip w' ∧ w'.heap[b]? = some (Obj.cells #[.int .i64 u.k, .bool u.g, .slice u.la u.ln u.lc, .bool u.bb, .string u.s, .slice u.ia u.items.length u.ic, .slice u.ta u.tail.length u.tc] 29) ∧ (∀ k, k ≠ b → w'.heap[k]? = w.heap[k]?) ∧ w'.heap.size = w.heap.size ∧ ∀ B, B ≤ b → Below B w w' := by
  have hds := fun j => Lib.cell_of_heap hb j
  have c0 := hds 0; have c1 := hds 1; have c2 := hds 2; have c3 := hds 3; have c4 := hds 4; have c5 := hds 5; have c6 := hds 6
  have hfs := fun j => Lib.frozen_of_heap hb j
  have f0 := hfs 0; have f1 := hfs 1; have f2 := hfs 2; have f3 := hfs 3; have f4 := hfs 4; have f5 := hfs 5; have f6 := hfs 6
  simp only [List.getElem?_toArray, List.getElem?_cons_zero, List.getElem?_cons_succ] at c0 c1 c2 c3 c4 c5 c6
  rw [Array.getD_eq_getD_getElem?] at ht hq
  refine ⟨_, by simp [execOp, ho, Act.eval, ht, hq, go_sem, c0, c1, c2, c3, c4, c5, c6, f0, f1, f2, f3, f4, f5, f6]; rfl, ?_, ?_, ?_, ?_⟩
  · simp [World.setCell, Array.getElem?_modify, hb]
  · intro k hk
    simp [World.setCell, Array.getElem?_modify, Ne.symm hk]
  · simp [World.setCell]
  · intro B hB
    exact set7_below (Below.refl _ _) hB
theorem exec_loadI {a : Act} {w : World} {o : Oper} {p b n c : Nat} {A : Option Addr} {s : Bool} (ho : o.op = .load 27 (.tmp p)) (ht : a.tmps.getD p undef = .pointer (some ⟨b, 0, none⟩)) (h0 : w.cell? ⟨b, 0, none⟩ = some (.bool s)) (h1 : w.cell? ⟨b, 1, none⟩ = some (.slice A n c)) :
    (execOp a.eval o).run Tryz.prog w = .ok (.value (.agg #[.bool s, .slice A n c])) w := by
  rw [Array.getD_eq_getD_getElem?] at ht
  simp [execOp, ho, Act.eval, ht, go_sem, h0, h1]
theorem exec_buildN {a : Act} {w : World} {o : Oper} {p n c : Nat} {A : Option Addr} {s : Bool} (ho : o.op = .build 29 #[(0, .const (.int .i64 1)), (1, .tmp p)]) (hp : a.tmps.getD p undef = .agg #[.bool s, .slice A n c]) :
    (execOp a.eval o).run Tryz.prog w = .ok (.value (.agg #[.int .i64 1, .bool s, .slice A n c, .bool false, .string ⟨#[]⟩, .slice none 0 0, .slice none 0 0])) w := by
  rw [Array.getD_eq_getD_getElem?] at hp
  simp [execOp, ho, Act.eval, hp, go_sem]
theorem Sl.off {w w' : World} {A : Option Addr} {n c D : Nat} {xs : List Nat} (h : Sl w A n c xs) (hz : w.heap[D]? = some (Obj.cells #[.int .i64 0, .bool false, .slice none 0 0, .bool false, .string ⟨#[]⟩, .slice none 0 0, .slice none 0 0] 29)) (ho : ∀ k, k ≠ D → w'.heap[k]? = w.heap[k]?) (hs : w'.heap.size = w.heap.size) : Sl w' A n c xs := by
  refine ⟨h.len, h.le, h.max, h.ok, fun hp => ?_, h.nil_⟩
  obtain ⟨b, off, rfl, hb, hc⟩ := h.here hp
  have hne : b ≠ D := fun e => z_no32 (D := b) (by rw [e]; exact hz) _ _ (hc 0 hp)
  exact ⟨b, off, rfl, by rw [hs]; exact hb, fun i hi => (World.cell?_of_block (ho b hne)).trans (hc i hi)⟩
section
variable {P : Program} {ops : Array Oper} {Q : Exit → Act → World → Prop} {i : Nat} {o : Oper} {a : Act} {w w' : World} {K : Act → World → Prop}
theorem wpOp_val {v : Value} (ho : ops[i]? = some o) (hg : o.guard = none) (hr : (execOp a.eval o).run P w = .ok (.value v) w') (h : K (a.put o.dst v) w') : wpOp P ops Q i K a w := by
  refine wpOp_plain ho hg ?_
  unfold Oper.wp
  rw [hr, Oper.upon_value]
  exact h
theorem wpOp_storeD {p q b : Nat} {u x : LT} (ho : ops[i]? = some o) (hg : o.guard = none) (hd : o.dst = none) (hop : o.op = .store 29 (.tmp p) (.tmp q)) (ht : a.tmps.getD p undef = .pointer (some ⟨b, 0, none⟩)) (hq : a.tmps.getD q undef = .agg #[.int .i64 u.k, .bool u.g, .slice u.la u.ln u.lc, .bool u.bb, .string u.s, .slice u.ia u.items.length u.ic, .slice u.ta u.tail.length u.tc]) (hb : w.heap[b]? = some (Obj.cells #[.int .i64 x.k, .bool x.g, .slice x.la x.ln x.lc, .bool x.bb, .string x.s, .slice x.ia x.items.length x.ic, .slice x.ta x.tail.length x.tc] 29))
    (h : ∀ w', w'.heap[b]? = some (Obj.cells #[.int .i64 u.k, .bool u.g, .slice u.la u.ln u.lc, .bool u.bb, .string u.s, .slice u.ia u.items.length u.ic, .slice u.ta u.tail.length u.tc] 29) → (∀ k, k ≠ b → w'.heap[k]? = w.heap[k]?) → w'.heap.size = w.heap.size → (∀ B, B ≤ b → Below B w w') → K a w') : wpOp Tryz.prog ops Q i K a w := by
  refine wpOp_plain ho hg ?_
  unfold Oper.wp
  obtain ⟨w', he, h1, h2, h3, h4⟩ := exec_storeD hop ht hq hb
  rw [he, Oper.upon_skip, hd]
  exact h w' h1 h2 h3 h4
theorem wpOp_call {f : Nat} {args : Array Value} {R : Ending → World → Prop} (ho : ops[i]? = some o) (hg : o.guard = none) (hr : (execOp a.eval o).run P w = (callFunc f args).run P w) (he : (callFunc f args).run P w = .ok (.enter f args) w) (hc : Calls P f args w R) (h : ∀ e w', R e w' → ∃ v, e = .returned v ∧ K (a.put o.dst v) w') : wpOp P ops Q i K a w := by
  refine wpOp_plain ho hg ?_
  unfold Oper.wp
  rw [hr, he, Oper.upon_enter]
  refine hc.mono ?_
  intro e w' hR
  obtain ⟨v, rfl, hK⟩ := h e w' hR
  exact hK
end
end
end Go.Proofs.YtocnlapbkidinaaGreatDoor
namespace Go.Proofs.YtocnlapbkidinaaGreatDoor
section
open Go.RowKit
section inv
variable {P : Program} {ops : Array Oper} {Q : Exit → Act → World → Prop}
/-- A region of two parts: the first's operations make values, and change nothing that was there; each of the second part waits for all before it. -/
theorem wp_region_phasesR {id nA : Nat} (p q : Nat) (hp : p < nA) (hq : q < nA) (hpq : p ≠ q) (R : World → Value → Value → Prop) (stableR : ∀ w w' v v', R w v v' → Below w.heap.size w w' → R w' v v') {a0 : Act} {w0 : World} (hm : P.follows .mixedOrders = true) (hr : Rising ops = true) (dst : Nat → Nat) (A : Nat → World → Value → Prop)
    (hnA : nA ≤ ops.size) (hw : ((List.range (ops.size - nA)).all fun k => WaitsAll ops (nA + k)) = true)
    (hinj : ∀ i j, i < nA → j < nA → dst i = dst j → i = j)
    (hds : ∀ i, i < nA → dst i < a0.tmps.size)
    (stable : ∀ i, i < nA → ∀ w w' v, A i w v → Below w.heap.size w w' → A i w' v)
    (step : ∀ i, i < nA → ∀ l a w, PhaseR p q R nA dst A a0 w0 l a w → (∀ j, Waits ops i j = true → l j = true) → wpOp P ops Q i (fun a' w' => ∃ v, a' = a.put (some (dst i)) v ∧ A i w' v ∧ Below w.heap.size w w' ∧ (i = p → l q = true → R w' v (a.tmps.getD (dst q) undef)) ∧ (i = q → l p = true → R w' (a.tmps.getD (dst p) undef) v)) a w)
    (fin : ∀ a w, R w (a.tmps.getD (dst p) undef) (a.tmps.getD (dst q) undef) → a.defers = a0.defers → a.tmps.size = a0.tmps.size → (∀ n, (∀ j, j < nA → n ≠ dst j) → a.tmps.getD n undef = a0.tmps.getD n undef) → (∀ i, i < nA → A i w (a.tmps.getD (dst i) undef)) → Below w0.heap.size w0 w → wpOps P ops Q (List.range' nA (ops.size - nA)) a w) :
    (Code.region id ops true).wp P Q a0 w0 := by
  refine wp_region_inv hm hr (fun l a w => Whole ops l ∧ (((∀ j, nA ≤ j → l j = false) ∧ PhaseR p q R nA dst A a0 w0 l a w) ∨ (∃ k, nA < k ∧ k ≤ ops.size ∧ (∀ j, j < k → l j = true) ∧ (∀ j, k ≤ j → l j = false) ∧ wpOps P ops Q (List.range' k (ops.size - k)) a w))) ?_ ?_ ?_
  · exact ⟨(fun i o ho h => by cases h), .inl ⟨fun _ _ => rfl, rfl, rfl, fun _ _ => rfl, (Below.refl _ _).drew, fun _ _ h => (by cases h), fun h => (by cases h)⟩⟩
  · intro l a w i oi ho hl he hI
    obtain ⟨hwl, hI⟩ := hI
    have hwl' : Whole ops (fun j => l j || j == i) := by
      intro j o hj hlj e hee hbe
      show (l e.on || e.on == i) = true
      have hlj : (l j || j == i) = true := hlj
      rcases Bool.or_eq_true_iff.1 hlj with h1 | h1
      · rw [hwl j o hj h1 e hee hbe, Bool.true_or]
      · rw [beq_iff_eq.1 h1, ho] at hj
        injection hj with hj
        subst hj
        rw [he e hee hbe, Bool.true_or]
    have hi : i < ops.size := by
      rcases Nat.lt_or_ge i ops.size with h1 | h1
      · exact h1
      · rw [Array.getElem?_eq_none h1] at ho; cases ho
    have hwi : nA ≤ i → WaitsAll ops i = true := fun h => by
      have := List.all_eq_true.1 hw (i - nA) (List.mem_range.2 (by omega))
      rwa [show nA + (i - nA) = i by omega] at this
    have next : ∀ k, k < ops.size → List.range' k (ops.size - k) = k :: List.range' (k + 1) (ops.size - (k + 1)) := fun k hk => by
      rw [show ops.size - k = (ops.size - (k + 1)) + 1 by omega, List.range'_succ]
    rcases hI with ⟨hB, I⟩ | ⟨k, hk1, hk2, hk3, hk4, hk5⟩
    · by_cases hiA : i < nA
      · refine wpOp_mono ?_ (step i hiA l a w I (fun j hj => Waits.listed hj ho he))
        rintro a' w' ⟨v, rfl, hv, hb, hr1, hr2⟩
        refine ⟨hwl', .inl ⟨fun j hj => ?_, I.defers, by simp [Act.put, I.size], fun n hn => ?_, I.below.trans (hb.mono I.below.size), fun j hj hlj => ?_, fun hlp hlq => ?_⟩⟩
        · show (l j || j == i) = false
          rw [hB j hj, Bool.false_or]; simpa using fun e : j = i => by omega
        · have : n ≠ dst i := hn i hiA
          rw [← I.other n hn]
          unfold Act.put
          simp only [Array.getD_eq_getD_getElem?, Array.getElem?_setIfInBounds]
          rw [if_neg (fun e => this e.symm)]
        · unfold Act.put
          simp only [Array.getD_eq_getD_getElem?, Array.getElem?_setIfInBounds]
          by_cases e : j = i
          · subst e
            rw [if_pos rfl, if_pos (by rw [I.size]; exact hds j hj)]
            exact hv
          · rw [if_neg (fun e' => e (hinj j i hj hiA e'.symm))]
            have hlj' : l j = true := by
              have : (j == i) = false := by simpa using e
              simpa [this] using hlj
            have := stable j hj w w' _ (I.val j hj hlj') hb
            rwa [Array.getD_eq_getD_getElem?] at this
        · have hlp : (l p || p == i) = true := hlp
          have hlq : (l q || q == i) = true := hlq
          have hg : ∀ j, j < nA → (a.put (some (dst i)) v).tmps.getD (dst j) undef = if j = i then v else a.tmps.getD (dst j) undef := fun j hj => by
            rw [put_get (by rw [I.size]; exact hds i hiA)]
            by_cases e : j = i
            · subst e; rw [if_pos rfl, if_pos rfl]
            · rw [if_neg e, if_neg (fun e' => e (hinj j i hj hiA e'))]
          rw [hg p hp, hg q hq]
          by_cases e1 : p = i
          · have e2 : q ≠ i := fun e => hpq (e1.trans e.symm)
            rw [if_pos e1, if_neg e2]
            exact hr1 e1.symm (by rwa [show (q == i) = false by simpa using e2, Bool.or_false] at hlq)
          · have hlp' : l p = true := by rwa [show (p == i) = false by simpa using e1, Bool.or_false] at hlp
            rw [if_neg e1]
            by_cases e2 : q = i
            · rw [if_pos e2]
              exact hr2 e2.symm hlp'
            · rw [if_neg e2]
              have hlq' : l q = true := by rwa [show (q == i) = false by simpa using e2, Bool.or_false] at hlq
              exact stableR _ _ _ _ (I.rel hlp' hlq') hb
      · have hall := WaitsAll.listed hwl (hwi (by omega)) ho he
        have hin : i = nA := by
          rcases Nat.lt_or_ge nA i with h1 | h1
          · have := hall nA h1; rw [hB nA (Nat.le_refl _)] at this; cases this
          · omega
        subst hin
        have hf := fin a w (I.rel (hall p hp) (hall q hq)) I.defers I.size I.other (fun j hj => I.val j hj (hall j hj)) I.below
        rw [next i hi, wpOps_cons] at hf
        refine wpOp_mono ?_ hf
        intro a' w' h'
        refine ⟨hwl', .inr ⟨i + 1, by omega, by omega, fun j hj => ?_, fun j hj => ?_, h'⟩⟩
        · by_cases e : j = i
          · simp [e]
          · show (l j || j == i) = true
            rw [hall j (by omega), Bool.true_or]
        · show (l j || j == i) = false
          rw [hB j (by omega), Bool.false_or]; simpa using fun e : j = i => by omega
    · have hik : i = k := by
        have h1 : k ≤ i := by
          rcases Nat.lt_or_ge i k with h2 | h2
          · rw [hk3 i h2] at hl; cases hl
          · exact h2
        have hall := WaitsAll.listed hwl (hwi (by omega)) ho he
        rcases Nat.lt_or_ge k i with h2 | h2
        · have := hall k h2; rw [hk4 k (Nat.le_refl _)] at this; cases this
        · omega
      subst hik
      rw [next i hi, wpOps_cons] at hk5
      refine wpOp_mono ?_ hk5
      intro a' w' h'
      refine ⟨hwl', .inr ⟨i + 1, by omega, by omega, fun j hj => ?_, fun j hj => ?_, h'⟩⟩
      · by_cases e : j = i
        · simp [e]
        · show (l j || j == i) = true
          rw [hk3 j (by omega), Bool.true_or]
      · show (l j || j == i) = false
        rw [hk4 j (by omega), Bool.false_or]; simpa using fun e : j = i => by omega
  · intro l a w hl hI
    replace hI := hI.2
    rcases hI with ⟨hB, I⟩ | ⟨k, hk1, hk2, hk3, hk4, hk5⟩
    · have hz : nA = ops.size := by
        rcases Nat.lt_or_ge nA ops.size with h1 | h1
        · have := hl nA h1; rw [hB nA (Nat.le_refl _)] at this; cases this
        · omega
      have hf := fin a w (I.rel (hl p (by omega)) (hl q (by omega))) I.defers I.size I.other (fun j hj => I.val j hj (hl j (by omega))) I.below
      rw [hz, Nat.sub_self] at hf
      exact hf
    · have hz : k = ops.size := by
        rcases Nat.lt_or_ge k ops.size with h1 | h1
        · have := hl k h1; rw [hk4 k (Nat.le_refl _)] at this; cases this
        · omega
      rw [hz, Nat.sub_self] at hk5
      exact hk5
end inv
theorem exec_fldI {a : Act} {w : World} {o : Oper} {p b : Nat} (ho : o.op = .fieldAddr 29 (.tmp p) 1) (ht : a.tmps.getD p undef = .pointer (some ⟨b, 0, none⟩)) :
    (execOp a.eval o).run Tryz.prog w = .ok (.value (.pointer (some ⟨b, 1, none⟩))) w := by
  rw [Array.getD_eq_getD_getElem?] at ht
  simp [execOp, ho, Act.eval, ht, go_sem]
theorem exec_loadI1 {a : Act} {w : World} {o : Oper} {p b n c : Nat} {A : Option Addr} {s : Bool} (ho : o.op = .load 27 (.tmp p)) (ht : a.tmps.getD p undef = .pointer (some ⟨b, 1, none⟩)) (h0 : w.cell? ⟨b, 1, none⟩ = some (.bool s)) (h1 : w.cell? ⟨b, 2, none⟩ = some (.slice A n c)) :
    (execOp a.eval o).run Tryz.prog w = .ok (.value (.agg #[.bool s, .slice A n c])) w := by
  rw [Array.getD_eq_getD_getElem?] at ht
  simp [execOp, ho, Act.eval, ht, go_sem, h0, h1]
theorem wpOp_storeI {ops : Array Oper} {Q : Exit → Act → World → Prop} {i : Nat} {o : Oper} {a : Act} {w : World} {K : Act → World → Prop} {p q g n c : Nat} {s x : Value} {b : Bool} {A : Option Addr} (ho : ops[i]? = some o) (hg : o.guard = none) (hd : o.dst = none) (hop : o.op = .store 27 (.tmp p) (.tmp q)) (ht : a.tmps.getD p undef = .pointer (some ⟨g, 0, none⟩)) (hq : a.tmps.getD q undef = .agg #[.bool b, .slice A n c]) (hv : Var w g s x)
    (h : ∀ w', Var w' g (.bool b) (.slice A n c) → (∀ k, k ≠ g → w'.heap[k]? = w.heap[k]?) → w'.heap.size = w.heap.size → (∀ B, B ≤ g → Below B w w') → K a w') : wpOp Tryz.prog ops Q i K a w := by
  refine wpOp_plain ho hg ?_
  unfold Oper.wp
  rw [exec_store hop ht hq hv, Oper.upon_skip, hd]
  refine h _ ((hv.set0 _).set1 _) (fun k hk => ?_) (by simp [World.setCell]) (fun B hB => ?_)
  · simp [World.setCell, Array.getElem?_modify, Ne.symm hk]
  · exact ((Below.refl _ _).setCell (p := ⟨g, 0, none⟩) hB _).setCell (p := ⟨g, 1, none⟩) hB _
/-- What lies elsewhere than in a variable's block. -/
theorem Sl.offV {w w' : World} {A : Option Addr} {n c g : Nat} {s x : Value} {xs : List Nat} (h : Sl w A n c xs) (hv : Var w g s x) (hs : ∀ z, s ≠ .int .u32 z) (hx : ∀ z, x ≠ .int .u32 z) (ho : ∀ k, k ≠ g → w'.heap[k]? = w.heap[k]?) (hz : w'.heap.size = w.heap.size) : Sl w' A n c xs := by
  refine ⟨h.len, h.le, h.max, h.ok, fun hp => ?_, h.nil_⟩
  obtain ⟨b, off, rfl, hb, hc⟩ := h.here hp
  have hne : b ≠ g := fun e => by
    subst e
    have h0 := hc 0 hp
    unfold Var at hv
    rw [Lib.cell_of_heap hv] at h0
    rcases off with _ | _ | off
    · simp at h0; exact hs _ h0
    · simp at h0; exact hx _ h0
    · simp at h0
  exact ⟨b, off, rfl, by rw [hz]; exact hb, fun i hi => (World.cell?_of_block (ho b hne)).trans (hc i hi)⟩
end
end Go.Proofs.YtocnlapbkidinaaGreatDoor
