/-
  Regions in phases, trees that lie there (a slice).
-/
import Derived.Test.YtocnlapbkidinaaGreatDoorPt2
import Derived.Test.YtocnlapbkidinaaGreatDoorQTold
import Derived.Test.YtocnlapbkidinaaGreatDoorQRg
import Derived.Test.YtocnlapbkidinaaGreatDoorPt1
import Derived.Test.YtocnlapbkidinaaGreatDoorQHeld
import Derived.Test.YtocnlapbkidinaaGreatDoorQTr
import Derived.Test.YtocnlapbkidinaaGreatDoorPn7
import Derived.Test.YtocnlapbkidinaaGreatDoorQWa
import Derived.Test.YtocnlapbkidinaaGreatDoorPn5
import Derived.Test.YtocnlapbkidinaaGreatDoorPn3
import Derived.Test.YtocnlapbkidinaaGreatDoorPn2
import Derived.Test.YtocnlapbkidinaaGreatDoorPn1
import Derived.Test.YtocnlapbkidinaaGreatDoorQMem
import Derived.Test.YtocnlapbkidinaaGreatDoorQNum
import Derived.Orders
import Derived.OwnWalk
import Derived.Deep.RegionHeld3
import Derived.Deep.RegionLaw
import Derived.Deep.AppendLies
import Derived.LoopN
import Derived.Laws.EntriesVeiled
import Derived.Test.YtocnlapbkidinaaGreatDoorChecked
import Derived.Outline
set_option linter.unusedVariables false
set_option linter.unusedSimpArgs false
set_option linter.unusedSectionVars false
set_option linter.unnecessarySimpa false


namespace Go.Proofs.YtocnlapbkidinaaGreatDoor
open Go.RowKit

section inv
variable {P : Program} {ops : Array Oper} {Q : Exit → Act → World → Prop}
end inv
variable {ops : Array Oper} {Q : Exit → Act → World → Prop}
section inv
variable {P : Program} {ops : Array Oper} {Q : Exit → Act → World → Prop}
/-- Operation i waits for operation j. -/
def Waits (ops : Array Oper) (i j : Nat) : Bool := ((ops[i]?).map (fun o => o.after.any fun e => Region.binds .any e && (e.on == j))).getD false
theorem Waits.listed {i j : Nat} {o : Oper} {l : Nat → Bool} (h : Waits ops i j = true) (ho : ops[i]? = some o) (he : ∀ e ∈ o.after, Region.binds .any e = true → l e.on = true) : l j = true := by
  unfold Waits at h
  rw [ho, Option.map_some, Option.getD_some, Array.any_eq_true'] at h
  obtain ⟨e, hm, hk⟩ := h
  rw [Bool.and_eq_true] at hk
  have h2 := he e hm hk.1
  rw [beq_iff_eq.1 hk.2] at h2
  exact h2
/-- Operation i waits for operation j, or for one that does. -/
def WaitsT (ops : Array Oper) : Nat → Nat → Nat → Bool
  | 0, i, j => Waits ops i j
  | n + 1, i, j => Waits ops i j || (List.range i).any fun k => Waits ops i k && WaitsT ops n k j
/-- What has come up had all that it waits for. -/
def Whole (ops : Array Oper) (l : Nat → Bool) : Prop := ∀ i o, ops[i]? = some o → l i = true → ∀ e ∈ o.after, Region.binds .any e = true → l e.on = true
theorem Waits.some {i j : Nat} (h : Waits ops i j = true) : ∃ o, ops[i]? = some o := by
  unfold Waits at h
  cases ho : ops[i]? with
  | none => rw [ho] at h; cases h
  | some o => exact ⟨o, rfl⟩
theorem WaitsT.listed {l : Nat → Bool} (hw : Whole ops l) : ∀ (n i j : Nat) (o : Oper), WaitsT ops n i j = true → ops[i]? = some o → (∀ e ∈ o.after, Region.binds .any e = true → l e.on = true) → l j = true := by
  intro n
  induction n with
  | zero => intro i j o h ho he; exact Waits.listed h ho he
  | succ n ih =>
    intro i j o h ho he
    unfold WaitsT at h
    rcases Bool.or_eq_true_iff.1 h with h1 | h1
    · exact Waits.listed h1 ho he
    · obtain ⟨k, -, hk⟩ := List.any_eq_true.1 h1
      rw [Bool.and_eq_true] at hk
      have hlk := Waits.listed hk.1 ho he
      have hso : ∃ ok, ops[k]? = some ok := by
        cases n with
        | zero => exact Waits.some hk.2
        | succ m =>
          have h2 := hk.2
          unfold WaitsT at h2
          rcases Bool.or_eq_true_iff.1 h2 with h3 | h3
          · exact Waits.some h3
          · obtain ⟨k', -, hk'⟩ := List.any_eq_true.1 h3
            rw [Bool.and_eq_true] at hk'
            exact Waits.some hk'.1
      obtain ⟨ok, hok⟩ := hso
      exact ih k j ok hk.2 hok (hw k ok hok hlk)
/-- Operation i waits for all before it. -/
def WaitsAll (ops : Array Oper) (i : Nat) : Bool := (List.range i).all fun j => WaitsT ops 6 i j
theorem WaitsAll.listed {i : Nat} {o : Oper} {l : Nat → Bool} (hw : Whole ops l) (h : WaitsAll ops i = true) (ho : ops[i]? = some o) (he : ∀ e ∈ o.after, Region.binds .any e = true → l e.on = true) : ∀ j, j < i → l j = true := by
  intro j hj
  exact WaitsT.listed hw 6 i j o (List.all_eq_true.1 h j (List.mem_range.2 hj)) ho he
/-- The state of a region's first part: what has come up has its value. -/
structure PhaseI (nA : Nat) (dst : Nat → Nat) (A : Nat → World → Value → Prop) (a0 : Act) (w0 : World) (l : Nat → Bool) (a : Act) (w : World) : Prop where
  defers : a.defers = a0.defers
  size : a.tmps.size = a0.tmps.size
  other : ∀ n, (∀ j, j < nA → n ≠ dst j) → a.tmps.getD n undef = a0.tmps.getD n undef
  below : Below w0.heap.size w0 w
  val : ∀ i, i < nA → l i = true → A i w (a.tmps.getD (dst i) undef)
/-- A region of two parts: the first's operations make values, and change nothing that was there; each of the second part waits for all before it. -/
theorem wp_region_phases {id nA : Nat} {a0 : Act} {w0 : World} (hm : P.follows .mixedOrders = true) (hr : Rising ops = true) (dst : Nat → Nat) (A : Nat → World → Value → Prop)
    (hnA : nA ≤ ops.size) (hw : ((List.range (ops.size - nA)).all fun k => WaitsAll ops (nA + k)) = true)
    (hinj : ∀ i j, i < nA → j < nA → dst i = dst j → i = j)
    (hds : ∀ i, i < nA → dst i < a0.tmps.size)
    (stable : ∀ i, i < nA → ∀ w w' v, A i w v → Below w.heap.size w w' → A i w' v)
    (step : ∀ i, i < nA → ∀ l a w, PhaseI nA dst A a0 w0 l a w → (∀ j, Waits ops i j = true → l j = true) → wpOp P ops Q i (fun a' w' => ∃ v, a' = a.put (some (dst i)) v ∧ A i w' v ∧ Below w.heap.size w w') a w)
    (fin : ∀ a w, a.defers = a0.defers → a.tmps.size = a0.tmps.size → (∀ n, (∀ j, j < nA → n ≠ dst j) → a.tmps.getD n undef = a0.tmps.getD n undef) → (∀ i, i < nA → A i w (a.tmps.getD (dst i) undef)) → Below w0.heap.size w0 w → wpOps P ops Q (List.range' nA (ops.size - nA)) a w) :
    (Code.region id ops true).wp P Q a0 w0 := by
  refine wp_region_inv hm hr (fun l a w => Whole ops l ∧ (((∀ j, nA ≤ j → l j = false) ∧ PhaseI nA dst A a0 w0 l a w) ∨ (∃ k, nA < k ∧ k ≤ ops.size ∧ (∀ j, j < k → l j = true) ∧ (∀ j, k ≤ j → l j = false) ∧ wpOps P ops Q (List.range' k (ops.size - k)) a w))) ?_ ?_ ?_
  · exact ⟨(fun i o ho h => by cases h), .inl ⟨fun _ _ => rfl, rfl, rfl, fun _ _ => rfl, (Below.refl _ _).drew, fun _ _ h => by cases h⟩⟩
  · intro l a w i oi ho hl he hI
    obtain ⟨hwl, hI⟩ := hI
    have hwl' : Whole ops (fun j => l j || j == i) := by
      intro j o hj hlj e hee hbe
      show (l e.on || e.on == i) = true
      have hlj : (l j || j == i) = true := hlj
      rcases Bool.or_eq_true_iff.1 hlj with h1 | h1
      · rw [hwl j o hj h1 e hee hbe, Bool.true_or]
      · rw [beq_iff_eq.1 h1, ho] at hj
        injection hj with hj
        subst hj
        rw [he e hee hbe, Bool.true_or]
    have hi : i < ops.size := by
      rcases Nat.lt_or_ge i ops.size with h1 | h1
      · exact h1
      · rw [Array.getElem?_eq_none h1] at ho; cases ho
    have hwi : nA ≤ i → WaitsAll ops i = true := fun h => by
      have := List.all_eq_true.1 hw (i - nA) (List.mem_range.2 (by omega))
      rwa [show nA + (i - nA) = i by omega] at this
    have next : ∀ k, k < ops.size → List.range' k (ops.size - k) = k :: List.range' (k + 1) (ops.size - (k + 1)) := fun k hk => by
      rw [show ops.size - k = (ops.size - (k + 1)) + 1 by omega, List.range'_succ]
    rcases hI with ⟨hB, I⟩ | ⟨k, hk1, hk2, hk3, hk4, hk5⟩
    · by_cases hiA : i < nA
      · refine wpOp_mono ?_ (step i hiA l a w I (fun j hj => Waits.listed hj ho he))
        rintro a' w' ⟨v, rfl, hv, hb⟩
        refine ⟨hwl', .inl ⟨fun j hj => ?_, I.defers, by simp [Act.put, I.size], fun n hn => ?_, I.below.trans (hb.mono I.below.size), fun j hj hlj => ?_⟩⟩
        · show (l j || j == i) = false
          rw [hB j hj, Bool.false_or]; simpa using fun e : j = i => by omega
        · have : n ≠ dst i := hn i hiA
          rw [← I.other n hn]
          unfold Act.put
          simp only [Array.getD_eq_getD_getElem?, Array.getElem?_setIfInBounds]
          rw [if_neg (fun e => this e.symm)]
        · unfold Act.put
          simp only [Array.getD_eq_getD_getElem?, Array.getElem?_setIfInBounds]
          by_cases e : j = i
          · subst e
            rw [if_pos rfl, if_pos (by rw [I.size]; exact hds j hj)]
            exact hv
          · rw [if_neg (fun e' => e (hinj j i hj hiA e'.symm))]
            have hlj' : l j = true := by
              have : (j == i) = false := by simpa using e
              simpa [this] using hlj
            have := stable j hj w w' _ (I.val j hj hlj') hb
            rwa [Array.getD_eq_getD_getElem?] at this
      · have hall := WaitsAll.listed hwl (hwi (by omega)) ho he
        have hin : i = nA := by
          rcases Nat.lt_or_ge nA i with h1 | h1
          · have := hall nA h1; rw [hB nA (Nat.le_refl _)] at this; cases this
          · omega
        subst hin
        have hf := fin a w I.defers I.size I.other (fun j hj => I.val j hj (hall j hj)) I.below
        rw [next i hi, wpOps_cons] at hf
        refine wpOp_mono ?_ hf
        intro a' w' h'
        refine ⟨hwl', .inr ⟨i + 1, by omega, by omega, fun j hj => ?_, fun j hj => ?_, h'⟩⟩
        · by_cases e : j = i
          · simp [e]
          · show (l j || j == i) = true
            rw [hall j (by omega), Bool.true_or]
        · show (l j || j == i) = false
          rw [hB j (by omega), Bool.false_or]; simpa using fun e : j = i => by omega
    · have hik : i = k := by
        have h1 : k ≤ i := by
          rcases Nat.lt_or_ge i k with h2 | h2
          · rw [hk3 i h2] at hl; cases hl
          · exact h2
        have hall := WaitsAll.listed hwl (hwi (by omega)) ho he
        rcases Nat.lt_or_ge k i with h2 | h2
        · have := hall k h2; rw [hk4 k (Nat.le_refl _)] at this; cases this
        · omega
      subst hik
      rw [next i hi, wpOps_cons] at hk5
      refine wpOp_mono ?_ hk5
      intro a' w' h'
      refine ⟨hwl', .inr ⟨i + 1, by omega, by omega, fun j hj => ?_, fun j hj => ?_, h'⟩⟩
      · by_cases e : j = i
        · simp [e]
        · show (l j || j == i) = true
          rw [hk3 j (by omega), Bool.true_or]
      · show (l j || j == i) = false
        rw [hk4 j (by omega), Bool.false_or]; simpa using fun e : j = i => by omega
  · intro l a w hl hI
    replace hI := hI.2
    rcases hI with ⟨hB, I⟩ | ⟨k, hk1, hk2, hk3, hk4, hk5⟩
    · have hz : nA = ops.size := by
        rcases Nat.lt_or_ge nA ops.size with h1 | h1
        · have := hl nA h1; rw [hB nA (Nat.le_refl _)] at this; cases this
        · omega
      have hf := fin a w I.defers I.size I.other (fun j hj => I.val j hj (hl j (by omega))) I.below
      rw [hz, Nat.sub_self] at hf
      exact hf
    · have hz : k = ops.size := by
        rcases Nat.lt_or_ge k ops.size with h1 | h1
        · have := hl k h1; rw [hk4 k (Nat.le_refl _)] at this; cases this
        · omega
      rw [hz, Nat.sub_self] at hk5
      exact hk5
end inv
theorem exec_call2 {P : Program} {a : Act} {w : World} {o : Oper} {f p q : Nat} {T T' : TypeId} (ho : o.op = .call { callee := .value (.func f), args := #[.tmp p, .tmp q], argTypes := #[T, T'] }) :
    (execOp a.eval o).run P w = (callFunc f #[a.tmps.getD p undef, a.tmps.getD q undef]).run P w := by
  simp [execOp, ho, Act.eval, go_sem]
theorem act_ext {a b : Act} (hd : a.defers = b.defers) (hs : a.tmps.size = b.tmps.size) (h : ∀ n, a.tmps.getD n undef = b.tmps.getD n undef) : a = b := by
  obtain ⟨x, d⟩ := a
  obtain ⟨y, d'⟩ := b
  dsimp only at hd hs h
  subst hd
  rw [Act.mk.injEq]
  refine ⟨Array.ext hs fun i h1 h2 => ?_, rfl⟩
  have := h i
  rw [Array.getD_eq_getD_getElem?, Array.getD_eq_getD_getElem?, Array.getElem?_eq_getElem h1, Array.getElem?_eq_getElem h2] at this
  exact this
theorem fold_pairs {a : Act} (ps : List (Nat × Value)) (b : Act) (hds : ∀ p ∈ ps, p.1 < b.tmps.size) (hval : ∀ p ∈ ps, a.tmps.getD p.1 undef = p.2) :
    (ps.foldl (fun b p => b.put (some p.1) p.2) b).defers = b.defers ∧ (ps.foldl (fun b p => b.put (some p.1) p.2) b).tmps.size = b.tmps.size ∧
    ∀ n, (ps.foldl (fun b p => b.put (some p.1) p.2) b).tmps.getD n undef = if n ∈ ps.map (·.1) then a.tmps.getD n undef else b.tmps.getD n undef := by
  induction ps generalizing b with
  | nil => exact ⟨rfl, rfl, fun n => by simp⟩
  | cons p ps ih =>
    have hi := hds p (by simp)
    have hs : (b.put (some p.1) p.2).tmps.size = b.tmps.size := by simp [Act.put]
    obtain ⟨h1, h2, h3⟩ := ih (b.put (some p.1) p.2) (fun q hq => by rw [hs]; exact hds q (by simp [hq])) (fun q hq => hval q (by simp [hq]))
    refine ⟨h1, h2.trans hs, fun n => ?_⟩
    rw [List.foldl_cons, h3 n, put_get hi, List.map_cons]
    by_cases hn : n ∈ ps.map (·.1)
    · rw [if_pos hn, if_pos (List.mem_cons_of_mem _ hn)]
    · rw [if_neg hn]
      by_cases e : n = p.1
      · rw [if_pos e, if_pos (by rw [e]; exact List.mem_cons_self), e]; exact (hval p (by simp)).symm
      · rw [if_neg e, if_neg (by rw [List.mem_cons]; exact fun h => h.elim e hn)]
/-- The frame behind a region's first part, written out. -/
theorem tower_pairs {a a0 : Act} (ps : List (Nat × Value)) (hds : ∀ p ∈ ps, p.1 < a0.tmps.size) (hval : ∀ p ∈ ps, a.tmps.getD p.1 undef = p.2) (hdf : a.defers = a0.defers) (hsize : a.tmps.size = a0.tmps.size)
    (hoth : ∀ n, (∀ p ∈ ps, n ≠ p.1) → a.tmps.getD n undef = a0.tmps.getD n undef) : a = ps.foldl (fun b p => b.put (some p.1) p.2) a0 := by
  obtain ⟨h1, h2, h3⟩ := fold_pairs ps a0 hds hval
  refine act_ext (hdf.trans h1.symm) (hsize.trans h2.symm) fun n => ?_
  rw [h3 n]
  by_cases hn : n ∈ ps.map (·.1)
  · rw [if_pos hn]
  · rw [if_neg hn]
    refine hoth n fun p hp e => hn ?_
    rw [e]
    exact List.mem_map.2 ⟨p, hp, rfl⟩
theorem exec_move {P : Program} {a : Act} {w : World} {o : Oper} {p : Nat} (ho : o.op = .move (.tmp p)) : (execOp a.eval o).run P w = .ok (.value (a.tmps.getD p undef)) w := by
  simp [execOp, ho, Act.eval, go_sem]
section inv
variable {P : Program} {ops : Array Oper} {Q : Exit → Act → World → Prop}
end inv
theorem Spot.mono {M M' : Nat} {a : Option Addr} {n c : Nat} (h : Spot M a n c) (hM : M ≤ M') : Spot M' a n c := ⟨h.1, h.2.1, fun hn => ⟨(h.2.2.1 hn).1, by have := (h.2.2.1 hn).2; omega⟩, h.2.2.2⟩
mutual
theorem Lies.mono {w : World} {M M' : Nat} (hM : M ≤ M') : ∀ (t : LT) (b o : Nat), Lies w M t b o → Lies w M' t b o
  | .mk k g la ln lc ys bb s ia ic items ta tc tail, b, o, h => by
    simp only [Lies] at h ⊢
    obtain ⟨h1, h2, h3, h4, h5, h6, h7⟩ := h
    exact ⟨by omega, h2, ⟨h3.1, fun h => by have := h3.2.1 h; omega, h3.2.2⟩, h4.mono hM, h5.mono hM, LiesR.mono hM items _ _ h6, LiesR.mono hM tail _ _ h7⟩
theorem LiesR.mono {w : World} {M M' : Nat} (hM : M ≤ M') : ∀ (l : List LT) (b o : Nat), LiesR w M l b o → LiesR w M' l b o
  | [], _, _, _ => by simp [LiesR]
  | t :: l, b, o, h => by
    simp only [LiesR] at h ⊢
    exact ⟨Lies.mono hM t b o h.1, LiesR.mono hM l b (o + 7) h.2⟩
end

/-- A datum that is handed on by value: what it leads to lies below M. -/
def DatV (w : World) (M : Nat) (t : LT) : Prop := (Sl w t.la t.ln t.lc t.ys ∧ (0 < t.ln → blk t.la < M) ∧ t.s.size ≤ maxLen) ∧ Spot M t.ia t.items.length t.ic ∧ Spot M t.ta t.tail.length t.tc ∧ LiesR w M t.items (blk t.ia) (ofs t.ia) ∧ LiesR w M t.tail (blk t.ta) (ofs t.ta)
theorem DatV.keep {w w' : World} {M : Nat} {t : LT} (h : DatV w M t) (hs : w.heap.size ≤ w'.heap.size) (hk : ∀ k, k < M → w'.heap[k]? = w.heap[k]?) : DatV w' M t :=
  ⟨⟨h.1.1.keepM hs h.1.2.1 hk, h.1.2⟩, h.2.1, h.2.2.1, LiesR.keep hs hk _ _ _ h.2.2.2.1, LiesR.keep hs hk _ _ _ h.2.2.2.2⟩
theorem DatV.below {w w' : World} {M : Nat} {t : LT} (h : DatV w M t) (hM : M ≤ w.heap.size) (hb : Below w.heap.size w w') : DatV w' M t := h.keep hb.size (fun k hk => hb.block k (by omega))
/-- What boxing does. -/
theorem DatV.boxed {w : World} {M : Nat} {t : LT} (h : DatV w M t) (hM : M ≤ w.heap.size) : Lies (w.alloc (.cells t.cells.toArray 29)) (w.heap.size + 1) t w.heap.size 0 := by
  have hb : Below w.heap.size w (w.alloc (.cells t.cells.toArray 29)) := (Below.refl _ _).alloc (Nat.le_refl _) _
  have hk : ∀ k, k < M → (w.alloc (.cells t.cells.toArray 29)).heap[k]? = w.heap[k]? := fun k hk => hb.block k (by omega)
  obtain ⟨h1, h2, h3, h4, h5⟩ := h.keep hb.size hk
  refine lies_eq.2 ⟨by omega, fun j v hj => ?_, ⟨h1.1, fun h => by have := h1.2.1 h; omega, h1.2.2⟩, h2.mono (by omega), h3.mono (by omega), LiesR.mono (by omega) _ _ _ h4, LiesR.mono (by omega) _ _ _ h5⟩
  rw [Nat.zero_add, Lib.cell_of_heap (World.alloc_heap_new w _)]
  simpa using hj
theorem looked_any (w : World) : Calls Tryz.prog 108 #[] w fun e w' => e = .returned (.agg #[.int .i64 100000, .int .i64 10000]) ∧ Below w.heap.size w w' := by
  go_enter Tryz.func108, Tryz.ntmps108
  go_wp2_with fail
  (try simp only [Exit.inBlock, Exit.then])
  refine bodyPost_ret (v := .agg #[.int .i64 100000, .int .i64 10000]) (by simp [results, Tryz.results108, go_sem]) rfl ⟨rfl, ?_⟩
  repeat (first | exact Below.refl _ _ | refine Below.setCell (hp := by simp) ?_ _ | refine Below.alloc ?_ (by simp) _)
set_option maxRecDepth 100000 in
set_option maxHeartbeats 1600000 in
theorem isLooked_any (t : LT) (M : Nat) (w : World) (h : DatV w M t) (hM : M ≤ w.heap.size) (h1 : t.size ≤ 100000) (h2 : t.depth ≤ 10000) :
    Calls Tryz.prog 77 #[.agg t.cells.toArray] w fun e w' => e = .returned (.bool true) ∧ Below w.heap.size w w' := by
  have hl := h.boxed hM
  have hb0 : Below w.heap.size w (w.alloc (.cells t.cells.toArray 29)) := (Below.refl _ _).alloc (Nat.le_refl _) _
  unfold LT.cells at hl hb0 ⊢
  have HL := Lib.hid hl
  clear h hl
  go_enter Tryz.func77, Tryz.ntmps77
  go_wp2_with fail
  refine (looked_any _).mono ?_
  rintro e w1 ⟨rfl, b1⟩
  have z1 : w.heap.size + 1 ≤ w1.heap.size := by have := b1.size; simp at this; omega
  have HL1 := Lib.hid (HL.out.keep b1.size (fun k hk => b1.block k (by simp; omega)) _ _ _)
  have hb1 := hb0.trans (b1.mono (by simp))
  clear b1 hb0
  go_wp2_with fail
  refine (measure_any (w.heap.size + 1) w.heap.size 0 100000 10000 t _ z1 HL1.out h1 h2 (by omega)).mono ?_
  rintro e w2 ⟨rfl, b2⟩
  have hb2 := hb1.trans (b2.mono (by omega))
  clear hb1 b2
  go_wp2_with fail
  go_ret
  exact ⟨rfl, hb2.alloc hb2.size _⟩
/-- A symbol or a string, as a value and as cells. -/
def leafC (k : Int) (s : ByteArray) : List Value := [.int .i64 k, .bool false, .slice none 0 0, .bool false, .string s, .slice none 0 0, .slice none 0 0]
/-- The list of symbols and strings lies there. -/
def LeafRow (w : World) (ib io : Nat) (its : List (Int × ByteArray)) : Prop := ∀ i x, its[i]? = some x → (x.1 = 3 ∨ x.1 = 4) ∧ ∀ j v, (leafC x.1 x.2)[j]? = some v → w.cell? ⟨ib, io + i * 7 + j, none⟩ = some v
theorem LeafRow.below {w w' : World} {B ib io : Nat} {its : List (Int × ByteArray)} (h : LeafRow w ib io its) (hb : Below B w w') (hi : ib < B) : LeafRow w' ib io its :=
  fun i x hx => ⟨(h i x hx).1, fun j v hj => (hb.cell (p := ⟨ib, io + i * 7 + j, none⟩) hi).trans ((h i x hx).2 j v hj)⟩
inductive DT where
  | mk (k : Int) (g : Bool) (ys : List Nat) (bb : Bool) (s : ByteArray) (items tail : List DT) : DT
def DT.k : DT → Int | .mk k _ _ _ _ _ _ => k
mutual
def shape : LT → DT
  | .mk k g _ _ _ ys bb s _ _ items _ _ tail => .mk k g ys bb s (shapes items) (shapes tail)
def shapes : List LT → List DT
  | [] => []
  | t :: l => shape t :: shapes l
end
theorem shape_eq (t : LT) : shape t = .mk t.k t.g t.ys t.bb t.s (shapes t.items) (shapes t.tail) := by cases t; simp [shape, LT.k, LT.g, LT.ys, LT.bb, LT.s, LT.items, LT.tail]
def SpotP (P : Nat → Prop) (a : Option Addr) (n c : Nat) : Prop := n ≤ c ∧ c ≤ maxLen ∧ (0 < n → a = some ⟨blk a, ofs a, none⟩ ∧ P (blk a)) ∧ (a = none → c = 0)
mutual
/-- The datum lies there, in blocks of that sort. -/
def LiesP (w : World) (P : Nat → Prop) : LT → Nat → Nat → Prop
  | .mk k g la ln lc ys bb s ia ic items ta tc tail, b, o =>
    P b ∧ (∀ j v, (LT.cells (.mk k g la ln lc ys bb s ia ic items ta tc tail))[j]? = some v → w.cell? ⟨b, o + j, none⟩ = some v) ∧
      (Sl w la ln lc ys ∧ (0 < ln → P (blk la)) ∧ s.size ≤ maxLen) ∧ SpotP P ia items.length ic ∧ SpotP P ta tail.length tc ∧ LiesPR w P items (blk ia) (ofs ia) ∧ LiesPR w P tail (blk ta) (ofs ta)
def LiesPR (w : World) (P : Nat → Prop) : List LT → Nat → Nat → Prop
  | [], _, _ => True
  | t :: l, b, o => LiesP w P t b o ∧ LiesPR w P l b (o + 7)
end
/-- What a datum's value holds lies in blocks of that sort. -/
def HeldP (w : World) (P : Nat → Prop) (t : LT) : Prop := (Sl w t.la t.ln t.lc t.ys ∧ (0 < t.ln → P (blk t.la)) ∧ t.s.size ≤ maxLen) ∧ SpotP P t.ia t.items.length t.ic ∧ SpotP P t.ta t.tail.length t.tc ∧
  LiesPR w P t.items (blk t.ia) (ofs t.ia) ∧ LiesPR w P t.tail (blk t.ta) (ofs t.ta)
theorem SpotP.mono {P Q : Nat → Prop} {a : Option Addr} {n c : Nat} (h : SpotP P a n c) (hPQ : ∀ k, P k → Q k) : SpotP Q a n c := ⟨h.1, h.2.1, fun hn => ⟨(h.2.2.1 hn).1, hPQ _ (h.2.2.1 hn).2⟩, h.2.2.2⟩
theorem Sl.keepP {w w' : World} {A : Option Addr} {n cap : Nat} {xs : List Nat} (h : Sl w A n cap xs) (hs : w.heap.size ≤ w'.heap.size) (hk : 0 < n → w'.heap[blk A]? = w.heap[blk A]?) : Sl w' A n cap xs := by
  refine ⟨h.len, h.le, h.max, h.ok, fun hp => ?_, h.nil_⟩
  obtain ⟨b, off, rfl, hb, hc⟩ := h.here hp
  exact ⟨b, off, rfl, by omega, fun i hi => (World.cell?_of_block (w := w) (a := ⟨b, off + i, none⟩) (hk hp)).trans (hc i hi)⟩
mutual
theorem LiesP.keep {w w' : World} {P Q : Nat → Prop} (hs : w.heap.size ≤ w'.heap.size) (hk : ∀ k, P k → Q k ∧ w'.heap[k]? = w.heap[k]?) : ∀ (t : LT) (b o : Nat), LiesP w P t b o → LiesP w' Q t b o
  | .mk k g la ln lc ys bb s ia ic items ta tc tail, b, o, h => by
    simp only [LiesP] at h ⊢
    obtain ⟨h1, h2, h3, h4, h5, h6, h7⟩ := h
    exact ⟨(hk b h1).1, fun j v hj => (World.cell?_of_block (hk b h1).2).trans (h2 j v hj), ⟨h3.1.keepP hs (fun hp => (hk _ (h3.2.1 hp)).2), fun hp => (hk _ (h3.2.1 hp)).1, h3.2.2⟩, h4.mono (fun k h => (hk k h).1), h5.mono (fun k h => (hk k h).1), LiesPR.keep hs hk items _ _ h6, LiesPR.keep hs hk tail _ _ h7⟩
theorem LiesPR.keep {w w' : World} {P Q : Nat → Prop} (hs : w.heap.size ≤ w'.heap.size) (hk : ∀ k, P k → Q k ∧ w'.heap[k]? = w.heap[k]?) : ∀ (l : List LT) (b o : Nat), LiesPR w P l b o → LiesPR w' Q l b o
  | [], _, _, _ => by simp [LiesPR]
  | t :: l, b, o, h => by
    simp only [LiesPR] at h ⊢
    exact ⟨LiesP.keep hs hk t b o h.1, LiesPR.keep hs hk l b (o + 7) h.2⟩
end
theorem HeldP.keep {w w' : World} {P Q : Nat → Prop} {t : LT} (h : HeldP w P t) (hs : w.heap.size ≤ w'.heap.size) (hk : ∀ k, P k → Q k ∧ w'.heap[k]? = w.heap[k]?) : HeldP w' Q t :=
  ⟨⟨h.1.1.keepP hs (fun hp => (hk _ (h.1.2.1 hp)).2), fun hp => (hk _ (h.1.2.1 hp)).1, h.1.2.2⟩, h.2.1.mono (fun k h => (hk k h).1), h.2.2.1.mono (fun k h => (hk k h).1), LiesPR.keep hs hk _ _ _ h.2.2.2.1, LiesPR.keep hs hk _ _ _ h.2.2.2.2⟩
theorem SpotP.spot {P : Nat → Prop} {M : Nat} {a : Option Addr} {n c : Nat} (h : SpotP P a n c) (hP : ∀ k, P k → k < M) : Spot M a n c := ⟨h.1, h.2.1, fun hn => ⟨(h.2.2.1 hn).1, hP _ (h.2.2.1 hn).2⟩, h.2.2.2⟩
mutual
theorem LiesP.lies {w : World} {P : Nat → Prop} {M : Nat} (hP : ∀ k, P k → k < M) : ∀ (t : LT) (b o : Nat), LiesP w P t b o → Lies w M t b o
  | .mk k g la ln lc ys bb s ia ic items ta tc tail, b, o, h => by
    simp only [LiesP] at h
    simp only [Lies]
    obtain ⟨h1, h2, h3, h4, h5, h6, h7⟩ := h
    exact ⟨hP b h1, h2, ⟨h3.1, fun hp => hP _ (h3.2.1 hp), h3.2.2⟩, h4.spot hP, h5.spot hP, LiesPR.lies hP items _ _ h6, LiesPR.lies hP tail _ _ h7⟩
theorem LiesPR.lies {w : World} {P : Nat → Prop} {M : Nat} (hP : ∀ k, P k → k < M) : ∀ (l : List LT) (b o : Nat), LiesPR w P l b o → LiesR w M l b o
  | [], _, _, _ => by simp [LiesR]
  | t :: l, b, o, h => by
    simp only [LiesPR] at h
    simp only [LiesR]
    exact ⟨LiesP.lies hP t b o h.1, LiesPR.lies hP l b (o + 7) h.2⟩
end
theorem HeldP.held {w : World} {P : Nat → Prop} {M : Nat} {t : LT} (h : HeldP w P t) (hP : ∀ k, P k → k < M) : Held w M t :=
  ⟨⟨h.1.1, fun hp => hP _ (h.1.2.1 hp), h.1.2.2⟩, h.2.1.spot hP, h.2.2.1.spot hP, LiesPR.lies hP _ _ _ h.2.2.2.1, LiesPR.lies hP _ _ _ h.2.2.2.2⟩
/-- All of them are held in blocks of that sort. -/
def AllP (w : World) (P : Nat → Prop) (l : List LT) : Prop := ∀ t ∈ l, HeldP w P t
theorem AllP.keep {w w' : World} {P Q : Nat → Prop} {l : List LT} (h : AllP w P l) (hs : w.heap.size ≤ w'.heap.size) (hk : ∀ k, P k → Q k ∧ w'.heap[k]? = w.heap[k]?) : AllP w' Q l := fun t ht => (h t ht).keep hs hk
/-- A block at B or above, that is no row of bytes, and may be written. -/
def Fresh (w : World) (B k : Nat) : Prop := B ≤ k ∧ ∃ c T, w.heap[k]? = some (.cells c T (0, 0)) ∧ T ≠ 5 ∧ T ≠ 134
theorem Fresh.of {w : World} {B k : Nat} {c : Array Value} {T : TypeId} (hB : B ≤ k) (h : w.heap[k]? = some (.cells c T (0, 0))) (hT : T ≠ 5 ∧ T ≠ 134) : Fresh w B k := ⟨hB, _, _, h, hT⟩
theorem Fresh.lt {w : World} {B k : Nat} (h : Fresh w B k) : k < w.heap.size := by
  obtain ⟨_, c, T, ho, _⟩ := h
  exact (Array.getElem?_eq_some_iff.1 ho).1
theorem Fresh.low {w : World} {B B' k : Nat} (h : Fresh w B k) (hB : B' ≤ B) : Fresh w B' k := ⟨Nat.le_trans hB h.1, h.2⟩
theorem Fresh.same {w w' : World} {B k : Nat} (h : Fresh w B k) (e : w'.heap[k]? = w.heap[k]?) : Fresh w' B k := ⟨h.1, by rw [e]; exact h.2⟩
theorem HeldP.below {w w' : World} {B B' : Nat} {t : LT} (h : HeldP w (Fresh w B) t) (hb : Below w.heap.size w w') (hB : B' ≤ B) : HeldP w' (Fresh w' B') t :=
  h.keep hb.size fun k hk => ⟨(hk.same (hb.block k hk.lt)).low hB, hb.block k hk.lt⟩
/-- Only blocks from L to U are other ones. -/
def Low (L U : Nat) (w w' : World) : Prop := w.heap.size ≤ w'.heap.size ∧ ∀ k, (k < L ∨ U ≤ k) → w'.heap[k]? = w.heap[k]?
theorem Low.refl (L U : Nat) (w : World) : Low L U w w := ⟨Nat.le_refl _, fun _ _ => rfl⟩
theorem Low.setCell {L U : Nat} {w w' : World} {p : Addr} (h : Low L U w w') (h1 : L ≤ p.block) (h2 : p.block < U) (v : Value) : Low L U w (w'.setCell p v) :=
  ⟨Nat.le_trans h.1 (KeepsWalks.setCell w' p v).size, fun k hk => (Below.heap_setCell _ _ _ _ (by omega)).trans (h.2 k hk)⟩
theorem HeldP.low {L U B : Nat} {w w' : World} {t : LT} (h : HeldP w (Fresh w U) t) (hl : Low L U w w') (hB : B ≤ U) : HeldP w' (Fresh w' B) t :=
  h.keep hl.1 fun k hk => ⟨(hk.same (hl.2 k (.inr hk.1))).low hB, hl.2 k (.inr hk.1)⟩
def plainT (k : Int) (g : Bool) (la : Option Addr) (ln lc : Nat) (ys : List Nat) (bb : Bool) (s : ByteArray) : LT := .mk k g la ln lc ys bb s none 0 [] none 0 []
theorem plainT_held {w : World} {P : Nat → Prop} {k : Int} {g bb : Bool} {la : Option Addr} {ln lc : Nat} {ys : List Nat} {s : ByteArray} (h : Sl w la ln lc ys ∧ (0 < ln → P (blk la)) ∧ s.size ≤ maxLen) : HeldP w P (plainT k g la ln lc ys bb s) :=
  ⟨h, ⟨by simp [plainT, LT.items, LT.ic], by simp [plainT, LT.ic], fun h => absurd h (by simp [plainT, LT.items]), fun _ => rfl⟩, ⟨by simp [plainT, LT.tail, LT.tc], by simp [plainT, LT.tc], fun h => absurd h (by simp [plainT, LT.tail]), fun _ => rfl⟩, by simp [plainT, LT.items, LiesPR], by simp [plainT, LT.tail, LiesPR]⟩
theorem plainT_shape (k : Int) (g : Bool) (la : Option Addr) (ln lc : Nat) (ys : List Nat) (bb : Bool) (s : ByteArray) : shape (plainT k g la ln lc ys bb s) = .mk k g ys bb s [] [] := by simp [plainT, shape, shapes]
mutual
/-- No number in it has more than 35184372087808 limbs. -/
def Tame : LT → Prop
  | .mk _ _ _ ln _ _ _ _ _ _ items _ _ tail => ln ≤ 35184372087808 ∧ TameR items ∧ TameR tail
def TameR : List LT → Prop
  | [] => True
  | t :: l => Tame t ∧ TameR l
end
theorem tame_eq (t : LT) : Tame t ↔ t.ln ≤ 35184372087808 ∧ TameR t.items ∧ TameR t.tail := by cases t; simp [Tame, LT.ln, LT.items, LT.tail]
theorem tameR_at : ∀ (l : List LT) (k : Nat) (h : k < l.length), TameR l → Tame l[k]
  | t :: l, 0, _, h => by simp only [TameR] at h; exact h.1
  | t :: l, k + 1, hk, h => by simp only [TameR] at h; exact tameR_at l k (by simpa using hk) h.2
/-- A list of data that lie in the room g from place p on. -/
def childV (g p m : Nat) : Value := if m = 0 then .slice none 0 0 else .slice (some ⟨g, p * 7, none⟩) m m
def DT.items : DT → List DT | .mk _ _ _ _ _ items _ => items
def DT.tail : DT → List DT | .mk _ _ _ _ _ _ tail => tail
def DT.g : DT → Bool | .mk _ g _ _ _ _ _ => g
def DT.ys : DT → List Nat | .mk _ _ ys _ _ _ _ => ys
def DT.bb : DT → Bool | .mk _ _ _ bb _ _ _ => bb
def DT.s : DT → ByteArray | .mk _ _ _ _ s _ _ => s
/-- Place p of the room holds these shapes. -/
def AtS (S : List DT) (lo p : Nat) (l : List DT) : Prop := l ≠ [] → lo ≤ p ∧ ∀ i (h : i < l.length), S[p + i]? = some l[i]
/-- The datum at b, o is a copy: its limbs are its own, its lists lie in the room g. -/
def Parted (w : World) (P : Nat → Prop) (g : Nat) (S : List DT) (lo : Nat) (d : DT) (b o : Nat) : Prop :=
  ∃ la lc p q, (∀ j v, ([.int .i64 d.k, .bool d.g, .slice la d.ys.length lc, .bool d.bb, .string d.s, childV g p d.items.length, childV g q d.tail.length] : List Value)[j]? = some v → w.cell? ⟨b, o + j, none⟩ = some v) ∧
    (Sl w la d.ys.length lc d.ys ∧ (0 < d.ys.length → P (blk la)) ∧ d.s.size ≤ maxLen) ∧ AtS S lo p d.items ∧ AtS S lo q d.tail ∧ d.items.length ≤ maxLen ∧ d.tail.length ≤ maxLen
/-- The variable in block R is the room in block g, n of cap places used. -/
def RoomAt (w : World) (R g n cap : Nat) : Prop := w.cell? ⟨R, 0, none⟩ = some (.slice (some ⟨g, 0, none⟩) n cap) ∧ w.frozen? ⟨R, 0, none⟩ = false ∧ ∃ cur, w.heap[g]? = some (.cells cur 29 (0, 0)) ∧ cur.size = cap * 7
theorem RoomAt.below {w w' : World} {R g n cap : Nat} (h : RoomAt w R g n cap) (hb : Below w.heap.size w w') : RoomAt w' R g n cap := by
  obtain ⟨h1, h2, cur, h3, h4⟩ := h
  have hR := World.block_lt_of_cell? w _ h1
  have hg := (Array.getElem?_eq_some_iff.1 h3).1
  exact ⟨(hb.cell hR).trans h1, (hb.frozen hR).trans h2, cur, (hb.block g hg).trans h3, h4⟩
/-- What take leaves. -/
structure Eff (w w' : World) (R g n m cap : Nat) (news : List Value) : Prop where
  size : w'.heap.size = w.heap.size
  other : ∀ k, k ≠ R → k ≠ g → w'.heap[k]? = w.heap[k]?
  room : RoomAt w' R g (n + m) cap
  low : ∀ off, off < n * 7 → w'.cell? ⟨g, off, none⟩ = w.cell? ⟨g, off, none⟩
  new : ∀ j v, news[j]? = some v → w'.cell? ⟨g, n * 7 + j, none⟩ = some v
  below : ∀ B, B ≤ R → B ≤ g → Below B w w'
  frozen : ∀ off, w'.frozen? ⟨g, off, none⟩ = false
theorem Held.below {w w' : World} {M : Nat} {t : LT} (h : Held w M t) (hM : M ≤ w.heap.size) (hb : Below w.heap.size w w') : Held w' M t := h.keep hb.size fun q hq => hb.block q (by omega)
theorem Eff.cell {w w' : World} {R g n m cap : Nat} {news : List Value} (h : Eff w w' R g n m cap news) (b off : Nat) (hR : b ≠ R) (hg : b = g → off < n * 7) : w'.cell? ⟨b, off, none⟩ = w.cell? ⟨b, off, none⟩ := by
  by_cases hb : b = g
  · subst hb; exact h.low off (hg rfl)
  · exact World.cell?_of_block (w := w) (a := ⟨b, off, none⟩) (h.other b hR hb)
theorem AtS.mono {S X : List DT} {lo p : Nat} {l : List DT} (h : AtS S lo p l) : AtS (S ++ X) lo p l := fun hne => by
  obtain ⟨h1, h2⟩ := h hne
  refine ⟨h1, fun i hi => ?_⟩
  have h3 := h2 i hi
  rw [List.getElem?_append_left (List.getElem?_eq_some_iff.1 h3).1]
  exact h3
theorem Parted.next {w w' : World} {P Q : Nat → Prop} {g : Nat} {S X : List DT} {lo : Nat} {d : DT} {b o : Nat} (h : Parted w P g S lo d b o) (hc : ∀ j, j < 7 → w'.cell? ⟨b, o + j, none⟩ = w.cell? ⟨b, o + j, none⟩) (hs : w.heap.size ≤ w'.heap.size) (hk : ∀ k, P k → Q k ∧ w'.heap[k]? = w.heap[k]?) :
    Parted w' Q g (S ++ X) lo d b o := by
  obtain ⟨la, lc, p, q, h1, h2, h3, h4, h5, h6⟩ := h
  refine ⟨la, lc, p, q, fun j v hj => ?_, ⟨h2.1.keepP hs fun hp => (hk _ (h2.2.1 hp)).2, fun hp => (hk _ (h2.2.1 hp)).1, h2.2.2⟩, h3.mono, h4.mono, h5, h6⟩
  rw [hc j (by have := (List.getElem?_eq_some_iff.1 hj).1; simpa using this)]
  exact h1 j v hj
theorem Parted.mono {w : World} {P Q : Nat → Prop} {g : Nat} {S : List DT} {lo : Nat} {d : DT} {b o : Nat} (h : Parted w P g S lo d b o) (hk : ∀ k, P k → Q k) : Parted w Q g S lo d b o := by
  have := h.next (X := []) (w' := w) (Q := Q) (fun _ _ => rfl) (Nat.le_refl _) fun k hp => ⟨hk k hp, rfl⟩
  rwa [List.append_nil] at this
section
variable {w w' : World} {g : Nat} {s x : Value}
end
section
variable {w : World} {u v : Value} {a b : Int} {K L : Nat}
end
section
variable {w : World} {u v : Value} {a b : Int} {K L : Nat}
end
section
variable {w : World} {u v : Value} {a b : Int} {K L : Nat}
end
section
variable {w : World} {u v : Value} {a b : Int} {K L : Nat}
end
section
variable {w : World} {u v : Value} {a b : Int} {K L : Nat}
end
/-- Seven cells of a datum. -/
def Seven (w : World) (b o : Nat) (u : LT) : Prop := ∀ j v, u.cells[j]? = some v → w.cell? ⟨b, o + j, none⟩ = some v
theorem exec_loadD {a : Act} {w : World} {o : Oper} {p b off : Nat} {u : LT} (ho : o.op = .load 29 (.tmp p)) (ht : a.tmps.getD p undef = .pointer (some ⟨b, off, none⟩)) (hc : Seven w b off u) :
    (execOp a.eval o).run Tryz.prog w = .ok (.value (.agg #[.int .i64 u.k, .bool u.g, .slice u.la u.ln u.lc, .bool u.bb, .string u.s, .slice u.ia u.items.length u.ic, .slice u.ta u.tail.length u.tc])) w := by
  have c0 : w.cell? ⟨b, off, none⟩ = some (.int .i64 u.k) := hc 0 _ rfl
  have c1 : w.cell? ⟨b, off + 1, none⟩ = some (.bool u.g) := hc 1 _ rfl
  have c2 : w.cell? ⟨b, off + 2, none⟩ = some (.slice u.la u.ln u.lc) := hc 2 _ rfl
  have c3 : w.cell? ⟨b, off + 3, none⟩ = some (.bool u.bb) := hc 3 _ rfl
  have c4 : w.cell? ⟨b, off + 4, none⟩ = some (.string u.s) := hc 4 _ rfl
  have c5 : w.cell? ⟨b, off + 5, none⟩ = some (.slice u.ia u.items.length u.ic) := hc 5 _ rfl
  have c6 : w.cell? ⟨b, off + 6, none⟩ = some (.slice u.ta u.tail.length u.tc) := hc 6 _ rfl
  rw [Array.getD_eq_getD_getElem?] at ht
  simp [execOp, ho, Act.eval, ht, go_sem, c0, c1, c2, c3, c4, c5, c6]
theorem exec_loadS {a : Act} {w : World} {o : Oper} {p b off n c : Nat} {A : Option Addr} (ho : o.op = .load 22 (.tmp p)) (ht : a.tmps.getD p undef = .pointer (some ⟨b, off, none⟩)) (hc : w.cell? ⟨b, off, none⟩ = some (.slice A n c)) :
    (execOp a.eval o).run Tryz.prog w = .ok (.value (.slice A n c)) w := by
  rw [Array.getD_eq_getD_getElem?] at ht
  simp [execOp, ho, Act.eval, ht, go_sem, hc]
theorem exec_fld {a : Act} {w : World} {o : Oper} {p b : Nat} (ho : o.op = .fieldAddr 29 (.tmp p) 4) (ht : a.tmps.getD p undef = .pointer (some ⟨b, 0, none⟩)) :
    (execOp a.eval o).run Tryz.prog w = .ok (.value (.pointer (some ⟨b, 5, none⟩))) w := by
  rw [Array.getD_eq_getD_getElem?] at ht
  simp [execOp, ho, Act.eval, ht, go_sem]
theorem exec_fld5 {a : Act} {w : World} {o : Oper} {p b : Nat} (ho : o.op = .fieldAddr 29 (.tmp p) 5) (ht : a.tmps.getD p undef = .pointer (some ⟨b, 0, none⟩)) :
    (execOp a.eval o).run Tryz.prog w = .ok (.value (.pointer (some ⟨b, 6, none⟩))) w := by
  rw [Array.getD_eq_getD_getElem?] at ht
  simp [execOp, ho, Act.eval, ht, go_sem]
section
variable {P : Program} {ops : Array Oper} {Q : Exit → Act → World → Prop} {i : Nat} {o : Oper} {a : Act} {w w' : World} {K : Act → World → Prop}
end
theorem Seven.of {w : World} {b : Nat} {u : LT} (h : w.heap[b]? = some (Obj.cells #[.int .i64 u.k, .bool u.g, .slice u.la u.ln u.lc, .bool u.bb, .string u.s, .slice u.ia u.items.length u.ic, .slice u.ta u.tail.length u.tc] 29)) : Seven w b 0 u := fun j v hj => by rw [Lib.cell_of_heap h, Nat.zero_add, List.getElem?_toArray]; exact hj
section inv
variable {P : Program} {ops : Array Oper} {Q : Exit → Act → World → Prop}
theorem wanted_yes {j d : Nat} {b : Bool} {o oj : Oper} {a : Act} (hg : o.guard = some (j, b)) (hj : ops[j]? = some oj) (hd : oj.dst = some d) (hs : d < a.tmps.size) (hv : a.tmps.getD d undef = .bool b) : Region.wanted o (yielded ops a.tmps) = true := by
  rw [Array.getD_eq_getD_getElem?, Array.getElem?_eq_getElem hs, Option.getD_some] at hv
  simp [Region.wanted, hg, yielded, hj, hd, Array.getElem?_eq_getElem hs, hv]
theorem wanted_no {j d : Nat} {b : Bool} {o oj : Oper} {a : Act} (hg : o.guard = some (j, b)) (hj : ops[j]? = some oj) (hd : oj.dst = some d) (hs : d < a.tmps.size) (hv : a.tmps.getD d undef = .bool (!b)) : Region.wanted o (yielded ops a.tmps) = false := by
  rw [Array.getD_eq_getD_getElem?, Array.getElem?_eq_getElem hs, Option.getD_some] at hv
  cases b <;> simp [Region.wanted, hg, yielded, hj, hd, Array.getElem?_eq_getElem hs, hv]
theorem wpOp_want {i : Nat} {o : Oper} {a : Act} {w : World} {K : Act → World → Prop} (ho : ops[i]? = some o) (hw : Region.wanted o (yielded ops a.tmps) = true) (h : o.wp P a w K Q) : wpOp P ops Q i K a w := by
  unfold wpOp
  rw [ho]
  simp only [hw, if_true]
  exact .inl h
theorem wpOp_skip {i : Nat} {o : Oper} {a : Act} {w : World} {K : Act → World → Prop} (ho : ops[i]? = some o) (hw : Region.wanted o (yielded ops a.tmps) = false) (h : K (a.put o.dst undef) w) : wpOp P ops Q i K a w := by
  unfold wpOp
  rw [ho]
  simp only [hw]
  exact h
end inv
section
variable {P : Program} {ops : Array Oper} {Q : Exit → Act → World → Prop} {i : Nat} {o : Oper} {a : Act} {w w' : World} {K : Act → World → Prop}
theorem wpOp_valW {v : Value} (ho : ops[i]? = some o) (hw : Region.wanted o (yielded ops a.tmps) = true) (hr : (execOp a.eval o).run P w = .ok (.value v) w') (h : K (a.put o.dst v) w') : wpOp P ops Q i K a w := by
  refine wpOp_want ho hw ?_
  unfold Oper.wp
  rw [hr, Oper.upon_value]
  exact h
theorem wpOp_callW {f : Nat} {args : Array Value} {R : Ending → World → Prop} (ho : ops[i]? = some o) (hw : Region.wanted o (yielded ops a.tmps) = true) (hr : (execOp a.eval o).run P w = (callFunc f args).run P w) (he : (callFunc f args).run P w = .ok (.enter f args) w) (hc : Calls P f args w R) (h : ∀ e w', R e w' → ∃ v, e = .returned v ∧ K (a.put o.dst v) w') : wpOp P ops Q i K a w := by
  refine wpOp_want ho hw ?_
  unfold Oper.wp
  rw [hr, he, Oper.upon_enter]
  refine hc.mono ?_
  intro e w' hR
  obtain ⟨v, rfl, hK⟩ := h e w' hR
  exact hK
end
theorem exec_not {P : Program} {a : Act} {w : World} {o : Oper} {p : Nat} {T : TypeId} {b : Bool} (ho : o.op = .unOp .not T (.tmp p)) (hp : a.tmps.getD p undef = .bool b) : (execOp a.eval o).run P w = .ok (.value (.bool (!b))) w := by
  rw [Array.getD_eq_getD_getElem?] at hp
  simp [execOp, ho, Act.eval, hp, go_sem]
theorem exec_moveV {P : Program} {a : Act} {w : World} {o : Oper} {p : Nat} {v : Value} (ho : o.op = .move (.tmp p)) (hp : a.tmps.getD p undef = v) : (execOp a.eval o).run P w = .ok (.value v) w := by
  rw [exec_move ho, hp]
/-- ..|| y, where what stands ahead is false. -/
theorem exec_pickF {P : Program} {a : Act} {w : World} {o : Oper} {p q : Nat} {c v : Value} (ho : o.op = .pick (.tmp p) (.const c) (.tmp q)) (hp : a.tmps.getD p undef = .bool false) (hq : a.tmps.getD q undef = v) : (execOp a.eval o).run P w = .ok (.value v) w := by
  rw [Array.getD_eq_getD_getElem?] at hp hq
  simp [execOp, ho, Act.eval, hp, hq, go_sem]
section
variable {w : World} {u v : Value} {a b K L : Nat}
end
section
variable {w w' : World} {g : Nat} {s x : Value}
end
section
variable {w : World} {u v : Value} {a b : Int} {K L : Nat}
end
section
variable {w : World} {u v : Value} {a b : Int} {K L : Nat}
end
section
variable {w : World} {u v : Value} {a b : Int} {K L : Nat}
end
section
variable {w : World} {u v : Value} {a b : Int} {K L : Nat}
end
section
variable {w : World} {u v : Value} {a b : Int} {K L : Nat}
end
theorem size_in : ∀ (l : List LT) (k : Nat) (h : k < l.length), l[k].size ≤ sizes l
  | t :: l, 0, h => by simp only [List.getElem_cons_zero, sizes]; omega
  | t :: l, k + 1, h => by
    have := size_in l k (by simpa using h)
    simp only [List.getElem_cons_succ, sizes]
    omega
theorem two2 (w : World) (A B : Obj) : ∃ w2, w2 = (w.alloc A).alloc B ∧ w2.heap[w.heap.size]? = some A ∧ w2.heap[w.heap.size + 1]? = some B ∧ w2.heap.size = w.heap.size + 2 ∧ Below w.heap.size w w2 := by
  have s1 : (w.alloc A).heap.size = w.heap.size + 1 := World.size_alloc ..
  refine ⟨_, rfl, (Below.heap_alloc _ _ _ (by omega)).trans (World.alloc_heap_new w A), ?_, by rw [World.size_alloc, s1], ((Below.refl w.heap.size w).alloc (Nat.le_refl _) _).alloc (by omega) _⟩
  have := World.alloc_heap_new (w.alloc A) B
  rwa [s1] at this
theorem cmpZ_self (z : Int) : cmpZ z z = 0 := by unfold cmpZ; rw [if_neg (by omega), if_neg (by omega)]
section
variable {a : Act} {w : World} {o : Oper} {p b off : Nat}
theorem exec_f0 (ho : o.op = .fieldAddr 29 (.tmp p) 0) (ht : a.tmps.getD p undef = .pointer (some ⟨b, 0, none⟩)) : (execOp a.eval o).run Tryz.prog w = .ok (.value (.pointer (some ⟨b, 0, none⟩))) w := by
  rw [Array.getD_eq_getD_getElem?] at ht
  simp [execOp, ho, Act.eval, ht, go_sem]
theorem exec_f1 (ho : o.op = .fieldAddr 29 (.tmp p) 1) (ht : a.tmps.getD p undef = .pointer (some ⟨b, 0, none⟩)) : (execOp a.eval o).run Tryz.prog w = .ok (.value (.pointer (some ⟨b, 1, none⟩))) w := by
  rw [Array.getD_eq_getD_getElem?] at ht
  simp [execOp, ho, Act.eval, ht, go_sem]
theorem exec_f2 (ho : o.op = .fieldAddr 29 (.tmp p) 2) (ht : a.tmps.getD p undef = .pointer (some ⟨b, 0, none⟩)) : (execOp a.eval o).run Tryz.prog w = .ok (.value (.pointer (some ⟨b, 3, none⟩))) w := by
  rw [Array.getD_eq_getD_getElem?] at ht
  simp [execOp, ho, Act.eval, ht, go_sem]
theorem exec_f3 (ho : o.op = .fieldAddr 29 (.tmp p) 3) (ht : a.tmps.getD p undef = .pointer (some ⟨b, 0, none⟩)) : (execOp a.eval o).run Tryz.prog w = .ok (.value (.pointer (some ⟨b, 4, none⟩))) w := by
  rw [Array.getD_eq_getD_getElem?] at ht
  simp [execOp, ho, Act.eval, ht, go_sem]
theorem exec_f4 (ho : o.op = .fieldAddr 29 (.tmp p) 4) (ht : a.tmps.getD p undef = .pointer (some ⟨b, 0, none⟩)) : (execOp a.eval o).run Tryz.prog w = .ok (.value (.pointer (some ⟨b, 5, none⟩))) w := exec_fld ho ht
theorem exec_f5 (ho : o.op = .fieldAddr 29 (.tmp p) 5) (ht : a.tmps.getD p undef = .pointer (some ⟨b, 0, none⟩)) : (execOp a.eval o).run Tryz.prog w = .ok (.value (.pointer (some ⟨b, 6, none⟩))) w := exec_fld5 ho ht
theorem exec_ldI {x : Int} (ho : o.op = .load 3 (.tmp p)) (ht : a.tmps.getD p undef = .pointer (some ⟨b, off, none⟩)) (hc : w.cell? ⟨b, off, none⟩ = some (.int .i64 x)) : (execOp a.eval o).run Tryz.prog w = .ok (.value (.int .i64 x)) w := by
  rw [Array.getD_eq_getD_getElem?] at ht
  simp [execOp, ho, Act.eval, ht, go_sem, hc]
theorem exec_ldB {x : Bool} (ho : o.op = .load 4 (.tmp p)) (ht : a.tmps.getD p undef = .pointer (some ⟨b, off, none⟩)) (hc : w.cell? ⟨b, off, none⟩ = some (.bool x)) : (execOp a.eval o).run Tryz.prog w = .ok (.value (.bool x)) w := by
  rw [Array.getD_eq_getD_getElem?] at ht
  simp [execOp, ho, Act.eval, ht, go_sem, hc]
theorem exec_ldT {x : ByteArray} (ho : o.op = .load 9 (.tmp p)) (ht : a.tmps.getD p undef = .pointer (some ⟨b, off, none⟩)) (hc : w.cell? ⟨b, off, none⟩ = some (.string x)) : (execOp a.eval o).run Tryz.prog w = .ok (.value (.string x)) w := by
  rw [Array.getD_eq_getD_getElem?] at ht
  simp [execOp, ho, Act.eval, ht, go_sem, hc]
theorem exec_ldS {n c : Nat} {A : Option Addr} (ho : o.op = .load 22 (.tmp p)) (ht : a.tmps.getD p undef = .pointer (some ⟨b, off, none⟩)) (hc : w.cell? ⟨b, off, none⟩ = some (.slice A n c)) : (execOp a.eval o).run Tryz.prog w = .ok (.value (.slice A n c)) w := exec_loadS ho ht hc
theorem exec_ldN {g : Bool} {n c : Nat} {A : Option Addr} (ho : o.op = .load 27 (.tmp p)) (ht : a.tmps.getD p undef = .pointer (some ⟨b, 1, none⟩)) (hc : w.cell? ⟨b, 1, none⟩ = some (.bool g)) (hd : w.cell? ⟨b, 2, none⟩ = some (.slice A n c)) : (execOp a.eval o).run Tryz.prog w = .ok (.value (.agg #[.bool g, .slice A n c])) w := by
  rw [Array.getD_eq_getD_getElem?] at ht
  simp [execOp, ho, Act.eval, ht, go_sem, hc, hd]
theorem exec_lenS {n c : Nat} {A : Option Addr} (ho : o.op = .call { callee := .builtin .len, args := #[.tmp p], argTypes := #[22] }) (ht : a.tmps.getD p undef = .slice A n c) : (execOp a.eval o).run Tryz.prog w = .ok (.value (.int .i64 n)) w := by
  rw [Array.getD_eq_getD_getElem?] at ht
  simp [execOp, ho, Act.eval, ht, go_sem]
theorem exec_neqI {q : Nat} {x : Int} (ho : o.op = .binOp .neq 3 (.tmp p) (.tmp q) 3) (hp : a.tmps.getD p undef = .int .i64 x) (hq : a.tmps.getD q undef = .int .i64 x) : (execOp a.eval o).run Tryz.prog w = .ok (.value (.bool false)) w := by
  rw [Array.getD_eq_getD_getElem?] at hp hq
  simp [execOp, ho, Act.eval, hp, hq, go_sem]
theorem exec_neqB {q : Nat} {x : Bool} (ho : o.op = .binOp .neq 4 (.tmp p) (.tmp q) 4) (hp : a.tmps.getD p undef = .bool x) (hq : a.tmps.getD q undef = .bool x) : (execOp a.eval o).run Tryz.prog w = .ok (.value (.bool false)) w := by
  rw [Array.getD_eq_getD_getElem?] at hp hq
  simp [execOp, ho, Act.eval, hp, hq, go_sem]
theorem exec_neqT {q : Nat} {x : ByteArray} (ho : o.op = .binOp .neq 9 (.tmp p) (.tmp q) 9) (hp : a.tmps.getD p undef = .string x) (hq : a.tmps.getD q undef = .string x) : (execOp a.eval o).run Tryz.prog w = .ok (.value (.bool false)) w := by
  rw [Array.getD_eq_getD_getElem?] at hp hq
  simp [execOp, ho, Act.eval, hp, hq, go_sem]
theorem exec_ixq {q i n c : Nat} (ho : o.op = .indexAddr 22 (.tmp p) (.tmp q)) (ht : a.tmps.getD p undef = .slice (some ⟨b, off, none⟩) n c) (hq : a.tmps.getD q undef = .int .i64 (i : Nat)) (hn : i < n) : (execOp a.eval o).run Tryz.prog w = .ok (.value (.pointer (some ⟨b, off + i * 7, none⟩))) w := by
  rw [Array.getD_eq_getD_getElem?] at ht hq
  simp [execOp, ho, Act.eval, ht, hq, go_sem, hn]
end
theorem cell_at {w0 W : World} {b : Nat} {cs : Array Value} {T : TypeId} {fr : Nat × Nat} (h : w0.heap[b]? = some (.cells cs T fr)) (hb : Below w0.heap.size w0 W) (j : Nat) {v : Value} (hj : cs[j]? = some v) : W.cell? ⟨b, j, none⟩ = some v := by
  rw [Lib.cell_of_heap ((hb.block b (Array.getElem?_eq_some_iff.1 h).1).trans h)]
  exact hj
theorem seven_below {w w' : World} {b o : Nat} {x : LT} (h : ∀ j v, x.cells[j]? = some v → w.cell? ⟨b, o + j, none⟩ = some v) (hlt : b < w.heap.size) (hb : Below w.heap.size w w') : Seven w' b o x := fun j v hj => (hb.cell (p := ⟨b, o + j, none⟩) hlt).trans (h j v hj)
theorem seven_keep {w w' : World} {b o : Nat} {x : LT} (h : Seven w b o x) (hb : Below w.heap.size w w') : Seven w' b o x := fun j v hj => by
  have h0 := h j v hj
  have hlt : b < w.heap.size := World.block_lt_of_cell? w _ h0
  exact (hb.cell (p := ⟨b, o + j, none⟩) hlt).trans h0
end Go.Proofs.YtocnlapbkidinaaGreatDoor
