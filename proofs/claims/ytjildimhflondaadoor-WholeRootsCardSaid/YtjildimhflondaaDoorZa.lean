/-
  Regions in two parts.
-/
import Derived.Test.YtjildimhflondaaDoorTwo
import Derived.Test.YtjildimhflondaaDoorRefBits
namespace Go.Proofs.YtjildimhflondaaDoor
open Go.RowKit
section inv
variable {P : Program} {ops : Array Oper} {Q : Exit → Act → World → Prop}

/-- Operation i waits for operation j. -/
def Waits (ops : Array Oper) (i j : Nat) : Bool := ((ops[i]?).map (fun o => o.after.any fun e => Region.binds .any e && (e.on == j))).getD false
theorem Waits.listed {i j : Nat} {o : Oper} {l : Nat → Bool} (h : Waits ops i j = true) (ho : ops[i]? = some o) (he : ∀ e ∈ o.after, Region.binds .any e = true → l e.on = true) : l j = true := by
  unfold Waits at h
  rw [ho, Option.map_some, Option.getD_some, Array.any_eq_true'] at h
  obtain ⟨e, hm, hk⟩ := h
  rw [Bool.and_eq_true] at hk
  have h2 := he e hm hk.1
  rw [beq_iff_eq.1 hk.2] at h2
  exact h2

/-- Operation i waits for operation j, or for one that does. -/
def WaitsT (ops : Array Oper) : Nat → Nat → Nat → Bool
  | 0, i, j => Waits ops i j
  | n + 1, i, j => Waits ops i j || (List.range i).any fun k => Waits ops i k && WaitsT ops n k j
/-- What has come up had all that it waits for. -/
def Whole (ops : Array Oper) (l : Nat → Bool) : Prop := ∀ i o, ops[i]? = some o → l i = true → ∀ e ∈ o.after, Region.binds .any e = true → l e.on = true
theorem Waits.some {i j : Nat} (h : Waits ops i j = true) : ∃ o, ops[i]? = some o := by
  unfold Waits at h
  cases ho : ops[i]? with
  | none => rw [ho] at h; cases h
  | some o => exact ⟨o, rfl⟩
theorem WaitsT.listed {l : Nat → Bool} (hw : Whole ops l) : ∀ (n i j : Nat) (o : Oper), WaitsT ops n i j = true → ops[i]? = some o → (∀ e ∈ o.after, Region.binds .any e = true → l e.on = true) → l j = true := by
  intro n
  induction n with
  | zero => intro i j o h ho he; exact Waits.listed h ho he
  | succ n ih =>
    intro i j o h ho he
    unfold WaitsT at h
    rcases Bool.or_eq_true_iff.1 h with h1 | h1
    · exact Waits.listed h1 ho he
    · obtain ⟨k, -, hk⟩ := List.any_eq_true.1 h1
      rw [Bool.and_eq_true] at hk
      have hlk := Waits.listed hk.1 ho he
      have hso : ∃ ok, ops[k]? = some ok := by
        cases n with
        | zero => exact Waits.some hk.2
        | succ m =>
          have h2 := hk.2
          unfold WaitsT at h2
          rcases Bool.or_eq_true_iff.1 h2 with h3 | h3
          · exact Waits.some h3
          · obtain ⟨k', -, hk'⟩ := List.any_eq_true.1 h3
            rw [Bool.and_eq_true] at hk'
            exact Waits.some hk'.1
      obtain ⟨ok, hok⟩ := hso
      exact ih k j ok hk.2 hok (hw k ok hok hlk)
/-- Operation i waits for all before it. -/
def WaitsAll (ops : Array Oper) (i : Nat) : Bool := (List.range i).all fun j => WaitsT ops 2 i j
theorem WaitsAll.listed {i : Nat} {o : Oper} {l : Nat → Bool} (hw : Whole ops l) (h : WaitsAll ops i = true) (ho : ops[i]? = some o) (he : ∀ e ∈ o.after, Region.binds .any e = true → l e.on = true) : ∀ j, j < i → l j = true := by
  intro j hj
  exact WaitsT.listed hw 2 i j o (List.all_eq_true.1 h j (List.mem_range.2 hj)) ho he

/-- The state of a region's first part: what has come up has its value. -/
structure PhaseI (nA : Nat) (dst : Nat → Nat) (A : Nat → World → Value → Prop) (a0 : Act) (w0 : World) (l : Nat → Bool) (a : Act) (w : World) : Prop where
  defers : a.defers = a0.defers
  size : a.tmps.size = a0.tmps.size
  other : ∀ n, (∀ j, j < nA → n ≠ dst j) → a.tmps.getD n undef = a0.tmps.getD n undef
  below : Below w0.heap.size w0 w
  val : ∀ i, i < nA → l i = true → A i w (a.tmps.getD (dst i) undef)

/-- A region of two parts: the first's operations make values, and change nothing that was there; each of the second part waits for all before it. -/
theorem wp_region_phases {id nA : Nat} {a0 : Act} {w0 : World} (hm : P.follows .mixedOrders = true) (hr : Rising ops = true) (dst : Nat → Nat) (A : Nat → World → Value → Prop)
    (hnA : nA ≤ ops.size) (hw : ((List.range (ops.size - nA)).all fun k => WaitsAll ops (nA + k)) = true)
    (hinj : ∀ i j, i < nA → j < nA → dst i = dst j → i = j)
    (hds : ∀ i, i < nA → dst i < a0.tmps.size)
    (stable : ∀ i, i < nA → ∀ w w' v, A i w v → Below w.heap.size w w' → A i w' v)
    (step : ∀ i, i < nA → ∀ l a w, PhaseI nA dst A a0 w0 l a w → (∀ j, Waits ops i j = true → l j = true) → wpOp P ops Q i (fun a' w' => ∃ v, a' = a.put (some (dst i)) v ∧ A i w' v ∧ Below w.heap.size w w') a w)
    (fin : ∀ a w, a.defers = a0.defers → a.tmps.size = a0.tmps.size → (∀ n, (∀ j, j < nA → n ≠ dst j) → a.tmps.getD n undef = a0.tmps.getD n undef) → (∀ i, i < nA → A i w (a.tmps.getD (dst i) undef)) → Below w0.heap.size w0 w → wpOps P ops Q (List.range' nA (ops.size - nA)) a w) :
    (Code.region id ops true).wp P Q a0 w0 := by
  refine wp_region_inv hm hr (fun l a w => Whole ops l ∧ (((∀ j, nA ≤ j → l j = false) ∧ PhaseI nA dst A a0 w0 l a w) ∨ (∃ k, nA < k ∧ k ≤ ops.size ∧ (∀ j, j < k → l j = true) ∧ (∀ j, k ≤ j → l j = false) ∧ wpOps P ops Q (List.range' k (ops.size - k)) a w))) ?_ ?_ ?_
  · exact ⟨(fun i o ho h => by cases h), .inl ⟨fun _ _ => rfl, rfl, rfl, fun _ _ => rfl, (Below.refl _ _).drew, fun _ _ h => by cases h⟩⟩
  · intro l a w i oi ho hl he hI
    obtain ⟨hwl, hI⟩ := hI
    have hwl' : Whole ops (fun j => l j || j == i) := by
      intro j o hj hlj e hee hbe
      show (l e.on || e.on == i) = true
      have hlj : (l j || j == i) = true := hlj
      rcases Bool.or_eq_true_iff.1 hlj with h1 | h1
      · rw [hwl j o hj h1 e hee hbe, Bool.true_or]
      · rw [beq_iff_eq.1 h1, ho] at hj
        injection hj with hj
        subst hj
        rw [he e hee hbe, Bool.true_or]
    have hi : i < ops.size := by
      rcases Nat.lt_or_ge i ops.size with h1 | h1
      · exact h1
      · rw [Array.getElem?_eq_none h1] at ho; cases ho
    have hwi : nA ≤ i → WaitsAll ops i = true := fun h => by
      have := List.all_eq_true.1 hw (i - nA) (List.mem_range.2 (by omega))
      rwa [show nA + (i - nA) = i by omega] at this
    have next : ∀ k, k < ops.size → List.range' k (ops.size - k) = k :: List.range' (k + 1) (ops.size - (k + 1)) := fun k hk => by
      rw [show ops.size - k = (ops.size - (k + 1)) + 1 by omega, List.range'_succ]
    rcases hI with ⟨hB, I⟩ | ⟨k, hk1, hk2, hk3, hk4, hk5⟩
    · by_cases hiA : i < nA
      · refine wpOp_mono ?_ (step i hiA l a w I (fun j hj => Waits.listed hj ho he))
        rintro a' w' ⟨v, rfl, hv, hb⟩
        refine ⟨hwl', .inl ⟨fun j hj => ?_, I.defers, by simp [Act.put, I.size], fun n hn => ?_, I.below.trans (hb.mono I.below.size), fun j hj hlj => ?_⟩⟩
        · show (l j || j == i) = false
          rw [hB j hj, Bool.false_or]; simpa using fun e : j = i => by omega
        · have : n ≠ dst i := hn i hiA
          rw [← I.other n hn]
          unfold Act.put
          simp only [Array.getD_eq_getD_getElem?, Array.getElem?_setIfInBounds]
          rw [if_neg (fun e => this e.symm)]
        · unfold Act.put
          simp only [Array.getD_eq_getD_getElem?, Array.getElem?_setIfInBounds]
          by_cases e : j = i
          · subst e
            rw [if_pos rfl, if_pos (by rw [I.size]; exact hds j hj)]
            exact hv
          · rw [if_neg (fun e' => e (hinj j i hj hiA e'.symm))]
            have hlj' : l j = true := by
              have : (j == i) = false := by simpa using e
              simpa [this] using hlj
            have := stable j hj w w' _ (I.val j hj hlj') hb
            rwa [Array.getD_eq_getD_getElem?] at this
      · have hall := WaitsAll.listed hwl (hwi (by omega)) ho he
        have hin : i = nA := by
          rcases Nat.lt_or_ge nA i with h1 | h1
          · have := hall nA h1; rw [hB nA (Nat.le_refl _)] at this; cases this
          · omega
        subst hin
        have hf := fin a w I.defers I.size I.other (fun j hj => I.val j hj (hall j hj)) I.below
        rw [next i hi, wpOps_cons] at hf
        refine wpOp_mono ?_ hf
        intro a' w' h'
        refine ⟨hwl', .inr ⟨i + 1, by omega, by omega, fun j hj => ?_, fun j hj => ?_, h'⟩⟩
        · by_cases e : j = i
          · simp [e]
          · show (l j || j == i) = true
            rw [hall j (by omega), Bool.true_or]
        · show (l j || j == i) = false
          rw [hB j (by omega), Bool.false_or]; simpa using fun e : j = i => by omega
    · have hik : i = k := by
        have h1 : k ≤ i := by
          rcases Nat.lt_or_ge i k with h2 | h2
          · rw [hk3 i h2] at hl; cases hl
          · exact h2
        have hall := WaitsAll.listed hwl (hwi (by omega)) ho he
        rcases Nat.lt_or_ge k i with h2 | h2
        · have := hall k h2; rw [hk4 k (Nat.le_refl _)] at this; cases this
        · omega
      subst hik
      rw [next i hi, wpOps_cons] at hk5
      refine wpOp_mono ?_ hk5
      intro a' w' h'
      refine ⟨hwl', .inr ⟨i + 1, by omega, by omega, fun j hj => ?_, fun j hj => ?_, h'⟩⟩
      · by_cases e : j = i
        · simp [e]
        · show (l j || j == i) = true
          rw [hk3 j (by omega), Bool.true_or]
      · show (l j || j == i) = false
        rw [hk4 j (by omega), Bool.false_or]; simpa using fun e : j = i => by omega
  · intro l a w hl hI
    replace hI := hI.2
    rcases hI with ⟨hB, I⟩ | ⟨k, hk1, hk2, hk3, hk4, hk5⟩
    · have hz : nA = ops.size := by
        rcases Nat.lt_or_ge nA ops.size with h1 | h1
        · have := hl nA h1; rw [hB nA (Nat.le_refl _)] at this; cases this
        · omega
      have hf := fin a w I.defers I.size I.other (fun j hj => I.val j hj (hl j (by omega))) I.below
      rw [hz, Nat.sub_self] at hf
      exact hf
    · have hz : k = ops.size := by
        rcases Nat.lt_or_ge k ops.size with h1 | h1
        · have := hl k h1; rw [hk4 k (Nat.le_refl _)] at this; cases this
        · omega
      rw [hz, Nat.sub_self] at hk5
      exact hk5
end inv
theorem exec_call_const {P : Program} {a : Act} {w : World} {o : Oper} {f : Nat} {T : TypeId} {c : Value} (ho : o.op = .call { callee := .value (.func f), args := #[.const c], argTypes := #[T] }) :
    (execOp a.eval o).run P w = (callFunc f #[c]).run P w := by
  simp [execOp, ho, Act.eval, go_sem]
theorem exec_call2 {P : Program} {a : Act} {w : World} {o : Oper} {f p q : Nat} {T T' : TypeId} (ho : o.op = .call { callee := .value (.func f), args := #[.tmp p, .tmp q], argTypes := #[T, T'] }) :
    (execOp a.eval o).run P w = (callFunc f #[a.tmps.getD p undef, a.tmps.getD q undef]).run P w := by
  simp [execOp, ho, Act.eval, go_sem]
end Go.Proofs.YtjildimhflondaaDoor
namespace Go.Proofs.YtjildimhflondaaDoor
open Go.RowKit
theorem fold_put (dst : Nat → Nat) (V : Nat → Value) (L : List Nat) (b : Act) (hL : ∀ i ∈ L, dst i < b.tmps.size) :
    (L.foldl (fun b i => b.put (some (dst i)) (V (dst i))) b).defers = b.defers ∧ (L.foldl (fun b i => b.put (some (dst i)) (V (dst i))) b).tmps.size = b.tmps.size ∧
    ∀ n, (L.foldl (fun b i => b.put (some (dst i)) (V (dst i))) b).tmps.getD n undef = if n ∈ L.map dst then V n else b.tmps.getD n undef := by
  induction L generalizing b with
  | nil => exact ⟨rfl, rfl, fun n => by simp⟩
  | cons i L ih =>
    have hi := hL i (by simp)
    have hs : (b.put (some (dst i)) (V (dst i))).tmps.size = b.tmps.size := by simp [Act.put]
    obtain ⟨h1, h2, h3⟩ := ih (b.put (some (dst i)) (V (dst i))) (fun j hj => by rw [hs]; exact hL j (by simp [hj]))
    refine ⟨h1, h2.trans hs, fun n => ?_⟩
    rw [List.foldl_cons, h3 n, put_get hi, List.map_cons]
    by_cases hn : n ∈ L.map dst
    · rw [if_pos hn, if_pos (List.mem_cons_of_mem _ hn)]
    · rw [if_neg hn]
      by_cases e : n = dst i
      · rw [if_pos e, if_pos (by rw [e]; exact List.mem_cons_self), e]
      · rw [if_neg e, if_neg (by rw [List.mem_cons]; exact fun h => h.elim e hn)]
theorem act_ext {a b : Act} (hd : a.defers = b.defers) (hs : a.tmps.size = b.tmps.size) (h : ∀ n, a.tmps.getD n undef = b.tmps.getD n undef) : a = b := by
  obtain ⟨x, d⟩ := a
  obtain ⟨y, d'⟩ := b
  dsimp only at hd hs h
  subst hd
  rw [Act.mk.injEq]
  refine ⟨Array.ext hs fun i h1 h2 => ?_, rfl⟩
  have := h i
  rw [Array.getD_eq_getD_getElem?, Array.getD_eq_getD_getElem?, Array.getElem?_eq_getElem h1, Array.getElem?_eq_getElem h2] at this
  exact this
/-- The frame behind a region's first part. -/
theorem tower_all {nA : Nat} (dst : Nat → Nat) {a a0 : Act} (hds : ∀ i, i < nA → dst i < a0.tmps.size) (hdf : a.defers = a0.defers) (hsize : a.tmps.size = a0.tmps.size)
    (hoth : ∀ n, (∀ j, j < nA → n ≠ dst j) → a.tmps.getD n undef = a0.tmps.getD n undef) :
    a = (List.range nA).foldl (fun b i => b.put (some (dst i)) (a.tmps.getD (dst i) undef)) a0 := by
  obtain ⟨h1, h2, h3⟩ := fold_put dst (fun n => a.tmps.getD n undef) (List.range nA) a0 (fun i hi => hds i (List.mem_range.1 hi))
  refine act_ext (hdf.trans h1.symm) (hsize.trans h2.symm) fun n => ?_
  rw [h3 n]
  by_cases hn : n ∈ (List.range nA).map dst
  · rw [if_pos hn]
  · rw [if_neg hn]
    refine hoth n fun j hj e => hn ?_
    rw [e]
    exact List.mem_map.2 ⟨j, List.mem_range.2 hj, rfl⟩
theorem fold_pairs {a : Act} (ps : List (Nat × Value)) (b : Act) (hds : ∀ p ∈ ps, p.1 < b.tmps.size) (hval : ∀ p ∈ ps, a.tmps.getD p.1 undef = p.2) :
    (ps.foldl (fun b p => b.put (some p.1) p.2) b).defers = b.defers ∧ (ps.foldl (fun b p => b.put (some p.1) p.2) b).tmps.size = b.tmps.size ∧
    ∀ n, (ps.foldl (fun b p => b.put (some p.1) p.2) b).tmps.getD n undef = if n ∈ ps.map (·.1) then a.tmps.getD n undef else b.tmps.getD n undef := by
  induction ps generalizing b with
  | nil => exact ⟨rfl, rfl, fun n => by simp⟩
  | cons p ps ih =>
    have hi := hds p (by simp)
    have hs : (b.put (some p.1) p.2).tmps.size = b.tmps.size := by simp [Act.put]
    obtain ⟨h1, h2, h3⟩ := ih (b.put (some p.1) p.2) (fun q hq => by rw [hs]; exact hds q (by simp [hq])) (fun q hq => hval q (by simp [hq]))
    refine ⟨h1, h2.trans hs, fun n => ?_⟩
    rw [List.foldl_cons, h3 n, put_get hi, List.map_cons]
    by_cases hn : n ∈ ps.map (·.1)
    · rw [if_pos hn, if_pos (List.mem_cons_of_mem _ hn)]
    · rw [if_neg hn]
      by_cases e : n = p.1
      · rw [if_pos e, if_pos (by rw [e]; exact List.mem_cons_self), e]; exact (hval p (by simp)).symm
      · rw [if_neg e, if_neg (by rw [List.mem_cons]; exact fun h => h.elim e hn)]
/-- The frame behind a region's first part, written out. -/
theorem tower_pairs {a a0 : Act} (ps : List (Nat × Value)) (hds : ∀ p ∈ ps, p.1 < a0.tmps.size) (hval : ∀ p ∈ ps, a.tmps.getD p.1 undef = p.2) (hdf : a.defers = a0.defers) (hsize : a.tmps.size = a0.tmps.size)
    (hoth : ∀ n, (∀ p ∈ ps, n ≠ p.1) → a.tmps.getD n undef = a0.tmps.getD n undef) : a = ps.foldl (fun b p => b.put (some p.1) p.2) a0 := by
  obtain ⟨h1, h2, h3⟩ := fold_pairs ps a0 hds hval
  refine act_ext (hdf.trans h1.symm) (hsize.trans h2.symm) fun n => ?_
  rw [h3 n]
  by_cases hn : n ∈ ps.map (·.1)
  · rw [if_pos hn]
  · rw [if_neg hn]
    refine hoth n fun p hp e => hn ?_
    rw [e]
    exact List.mem_map.2 ⟨p, hp, rfl⟩
theorem exec_move {P : Program} {a : Act} {w : World} {o : Oper} {p : Nat} (ho : o.op = .move (.tmp p)) : (execOp a.eval o).run P w = .ok (.value (a.tmps.getD p undef)) w := by
  simp [execOp, ho, Act.eval, go_sem]
theorem exec_one {a : Act} {w : World} {o : Oper} (ho : o.op = .buildSlice 22 1 #[(0, .const (.int .u32 1))]) :
    (execOp a.eval o).run Tryd.prog w = .ok (.value (.slice (some ⟨w.heap.size, 0, none⟩) 1 1)) (w.alloc (.cells #[Value.int .u32 ((1 : Nat) : Int)] 32)) := by
  simp [execOp, ho, Act.eval, go_sem]
theorem exec_limbs {a : Act} {w : World} {o : Oper} {p n c : Nat} {A : Option Addr} (ho : o.op = .build 36 #[(1, .tmp p)]) (ht : a.tmps.getD p undef = .slice A n c) :
    (execOp a.eval o).run Tryd.prog w = .ok (.value (.agg #[.bool false, .slice A n c])) w := by
  rw [Array.getD_eq_getD_getElem?] at ht
  simp [execOp, ho, Act.eval, ht, go_sem]
theorem pow_bd (j n : Nat) (h : j < 32 * n) : 2 ^ j < 4294967296 ^ n := by
  rw [show (4294967296 : Nat) = 2 ^ 32 by decide, ← Nat.pow_mul]
  exact Nat.pow_lt_pow_right (by decide) h
/-- The root, a bit at a time. -/
theorem root_yes {m r j : Nat} (h : m < (r + 2 ^ (j + 1)) * (r + 2 ^ (j + 1))) : m < ((r + 2 ^ j) + 2 ^ j) * ((r + 2 ^ j) + 2 ^ j) := by
  have : (r + 2 ^ j) + 2 ^ j = r + 2 ^ (j + 1) := by rw [Nat.pow_succ]; omega
  rw [this]; exact h
theorem root_end {m r : Nat} (h1 : r * r ≤ m) (h2 : m < (r + 2 ^ 0) * (r + 2 ^ 0)) : r = rootN m := rootN_unique h1 h2
theorem root_start (m : Nat) : m < (0 + 2 ^ (bl m / 2 + 1)) * (0 + 2 ^ (bl m / 2 + 1)) := by
  have h1 := bl_lt m
  rw [Nat.zero_add, ← Nat.pow_add]
  exact Nat.lt_of_lt_of_le h1 (Nat.pow_le_pow_right (by decide) (by omega))
end Go.Proofs.YtjildimhflondaaDoor
