/-
  datum.Walk: an iterator that keeps a copy; its rounds may write the caller's rows of data.
-/
import Derived.Test.YtgboiopkihemaaaMeas
import Derived.Test.YtgboiopkihemaaaCpy
import Derived.RangeFuncNested
import Derived.RangeFuncBound
import Derived.RangeFuncCalls
import Derived.RangeFuncLeaves
import Derived.TacticsInMore
import Derived.LoopIn
import Derived.Shelf.RegionOpen
import Derived.Laws.EntriesVeiled
namespace Go.Proofs.Ytgboiopkihemaaa
open Go.RowKit

section
theorem But.u {B : Nat} {X : Nat → Prop} {w w' : World} (h : But X w w') : ButU B X w w' := ⟨h.1, fun k hk hx => .inl (h.2 k hk hx)⟩
theorem Fine.loop {base l : Nat} {A : World} {r : Loop} (o : Obj) (hb : base ≤ l) (h : A.heap[l]? = some (.loop r)) : Fine base A (A.putObj l o) :=
  Fine.at_ ⟨rfl, rfl, rfl, by simp, fun k hk => World.putObj_heap_other (by omega)⟩ h (.inr fun c T fr e => by cases e) fun i _ hne => World.putObj_heap_other hne
/-- WHAT AN ITERATOR PROMISES: called with yield it tells enc 0, .., enc (N - 1), as long as yield says so; the caller's J abides whatever happens to blocks from the loop's begin on; a round may write X alone. -/
def RunsF (F : Fence) (n : Nat) (P : Program) (g : Nat) (lb : Array Value) (encs : Nat → Array Value) (N : Nat) (X : Nat → Prop) (Bs : Nat) (w : World) : Prop :=
  ∀ (l : Nat) (J Jx : Nat → World → Prop) (W : World), Below w.heap.size w W → (∀ r, X r → r < W.heap.size) → (∀ k A B, Fine W.heap.size A B → J k A → J k B) → (∀ k A B, Fine W.heap.size A B → Jx k A → Jx k B) →
    (∀ k W1, k < N → J k W1 → YieldAt F (n - 1) P l (encs k) W1 fun e W' =>
      (e = .returned (.bool true) ∧ J (k + 1) W' ∧ ButU Bs X W1 W') ∨ (e = .returned (.bool false) ∧ Jx k W')) →
    J 0 W →
    CallsIn F n P g (#[.func (.yield l) #[] #[]] ++ lb) W fun e W' => (∃ v, e = .returned v) ∧ (J N W' ∨ ∃ k, k < N ∧ Jx k W')

/-- How the body of a round may be left. -/
def runPostF (X : Nat → Prop) (Bs : Nat) (I : Nat → World → Prop) (Ix : Code → Nat → World → Prop) (k : Nat) (W : World) : Exit → Act → World → Prop
  | .normal, _, W' => ButU Bs X W W' ∧ I (k + 1) W'
  | .ret, _, W' => ButU Bs X W W' ∧ Ix .ret k W'
  | .exit id, _, W' => ButU Bs X W W' ∧ Ix (.exit id) k W'
  | .goto t, _, W' => ButU Bs X W W' ∧ Ix (.goto t) k W'
  | .panic _, _, _ => False
  | .outgrown, _, _ => False

variable {F : Fence} {n : Nat} {P : Program}

/-- What the caller owes. -/
theorem wpIn_runsF {g : Operand} {ps : Array Tmp} {assign body : Code} {Q : Exit → Act → World → Prop} {a : Act} {w : World}
    (hro : F.round = none) (h1 : 1 ≤ n) {gf : Nat} {lb : Array Value} (hg : a.eval g = .func (.func gf) #[] lb) (hFg : F.fn gf) (eg : ∀ args w, (callFunc gf args).run P w = .ok (.enter gf args) w)
    {encs : Nat → Array Value} {N Bs : Nat} {X : Nat → Prop} {w0 : World} (hseq : RunsF F (n - 1) P gf lb encs N (fun r => X r ∨ r = w.heap.size + 1) Bs w0)
    (hX : ∀ r, X r → r < w.heap.size) (hb0 : Below w0.heap.size w0 w) (hps : ∀ k, (encs k).size = ps.size)
    (I : Nat → World → Prop) (Ix : Code → Nat → World → Prop) (hI : ∀ k A B, Fine w.heap.size A B → I k A → I k B) (hIx : ∀ c k A B, Fine w.heap.size A B → Ix c k A → Ix c k B) (h0 : I 0 w) (a₁ : Nat → Act)
    (hassign : ∀ (l k : Nat) (W : World) (K : Act → World → Prop), k < N → K (a₁ k) W →
      assign.wpIn (F.inRound l) (n - 1 - 1) P (Exit.then K (fun _ _ _ => False)) { tmps := (ps.zip (encs k)).foldl (fun t (p, v) => t.setIfInBounds p v) a.tmps, defers := [] } W)
    (hbody : ∀ (l k : Nat) (W : World), k < N → I k W → body.wpIn (F.inRound l) (n - 1 - 1) P (runPostF X Bs I Ix k W) (a₁ k) W)
    (hdone : ∀ (D : Nat) (W : World), w.heap.size ≤ D → I N W → W.heap[D]? = some (.deferred (some [])) → Q .normal { a with defers := { target := .collected D, args := #[] } :: a.defers } W)
    (hstop : ∀ (D : Nat) (c : Code) (k : Nat) (W : World), w.heap.size ≤ D → k < N → Ix c k W → W.heap[D]? = some (.deferred (some [])) → c.wpIn F n P Q { a with defers := { target := .collected D, args := #[] } :: a.defers } W) :
    (Code.rangeFunc g ps assign body).wpIn F n P Q a w := by
  refine wpIn_rangeFunc ?_
  intro fn hfn
  rw [hro]
  obtain ⟨rec, hrec⟩ : ∃ rec : LoopState → Option Code → Loop, rec = fun st pe => { state := st, pending := pe, fn, tmps := a.tmps, params := ps, assign, body, defers := w.heap.size } := ⟨_, rfl⟩
  obtain ⟨W1, hW1⟩ : ∃ W1, (w.alloc (.deferred (some []))).alloc (.loop (rec .ready none)) = W1 := ⟨_, rfl⟩
  have hsz : W1.heap.size = w.heap.size + 2 := by rw [← hW1]; simp
  have hL1 : W1.heap[w.heap.size + 1]? = some (.loop (rec .ready none)) := by
    rw [← hW1]; have := World.alloc_heap_new (w.alloc (.deferred (some []))) (.loop (rec .ready none)); rwa [World.size_alloc] at this
  have hK1 : W1.heap[w.heap.size]? = some (.deferred (some [])) := by
    rw [← hW1]; exact (Below.heap_alloc _ _ _ (by simp)).trans (World.alloc_heap_new w _)
  have hbw : Below w.heap.size w W1 := by rw [← hW1]; exact ((Below.refl _ w).alloc (Nat.le_refl _) _).alloc (by simp) _
  have hput : ∀ (W : World) (o : Obj), Below w.heap.size W (W.putObj (w.heap.size + 1) o) := fun W o =>
    ⟨rfl, rfl, rfl, by simp, fun k hk => World.putObj_heap_other (by omega)⟩
  refine ⟨w.heap.size + 1, [{ target := .collected w.heap.size, args := #[] }], W1, { target := .fn (.func gf) lb, args := #[.func (.yield (w.heap.size + 1)) #[] #[]] }, W1, gf,
    #[.func (.yield (w.heap.size + 1)) #[] #[]] ++ lb, W1, ?_, ?_, ?_, ?_, fun _ => h1, ?_⟩
  · rw [← hW1, hrec]; exact run_enterLoop_outer _ _ _ _ _
  · simp only [resolve, hg]
    simp [go_sem]
  · intro f' hf'; simp [Target.leads] at hf'; subst hf'; exact hFg
  · simp [invoke, go_sem, eg]
  · refine (hseq (w.heap.size + 1)
      (fun k W => I k W ∧ W.heap[w.heap.size + 1]? = some (.loop (rec .ready none)) ∧ W.heap[w.heap.size]? = some (.deferred (some [])))
      (fun k W => ∃ c, Ix c k W ∧ W.heap[w.heap.size + 1]? = some (.loop (rec .done (some c))) ∧ W.heap[w.heap.size]? = some (.deferred (some [])))
      W1 (hb0.trans (hbw.mono hb0.size)) (fun r hr => by rcases hr with hr | rfl <;> first | (have := hX _ hr; omega) | omega)
      (fun k A B hAB ⟨hi, hl, hk⟩ => ⟨hI k A B (hAB.mono (by omega)) hi, (hAB.block _ (by omega)).trans hl, (hAB.block _ (by omega)).trans hk⟩)
      (fun k A B hAB ⟨c, hi, hl, hk⟩ => ⟨c, hIx c k A B (hAB.mono (by omega)) hi, (hAB.block _ (by omega)).trans hl, (hAB.block _ (by omega)).trans hk⟩)
      ?_ ⟨hI 0 _ _ (Fine.new hbw (Nat.le_refl _)) h0, hL1, hK1⟩).mono ?_
    · rintro k W hkN ⟨hi, hl, hk⟩
      have hlt : w.heap.size + 1 < W.heap.size := (Array.getElem?_eq_some_iff.1 hl).1
      have hy := run_yield (P := P) (args := encs k) hl (by rw [hrec]; exact hps k)
      rw [hrec] at hy
      refine ⟨fn, _, assign, body, hy, roundIn_of_wpIn hfn (hassign _ k W _ hkN ⟨_, run_beginRound hl (by rw [hrec]), ?_⟩)⟩
      generalize hbusy : Obj.loop { rec .ready none with state := .busy } = ob
      have hl2 : (W.putObj (w.heap.size + 1) ob).heap[w.heap.size + 1]? = some ob := World.putObj_heap_same hlt
      have hk2 : (W.putObj (w.heap.size + 1) ob).heap[w.heap.size]? = some (.deferred (some [])) := (World.putObj_heap_other (by omega)).trans hk
      have hsz2 : (W.putObj (w.heap.size + 1) ob).heap.size = W.heap.size := by simp
      refine wpIn_mono (hbody _ k _ hkN (hI k _ _ (Fine.loop ob (by omega) hl) hi)) ?_
      have fin : ∀ (jump : Option Code) (W3 : World), ButU Bs X (W.putObj (w.heap.size + 1) ob) W3 →
          (Instr.endRound (w.heap.size + 1) jump).run P W3 = .ok (.bool jump.isNone) (W3.putObj (w.heap.size + 1) (.loop (rec (if jump.isNone then .ready else .done) jump))) ∧
          (W3.putObj (w.heap.size + 1) (.loop (rec (if jump.isNone then .ready else .done) jump))).heap[w.heap.size + 1]? = some (.loop (rec (if jump.isNone then .ready else .done) jump)) ∧
          (W3.putObj (w.heap.size + 1) (.loop (rec (if jump.isNone then .ready else .done) jump))).heap[w.heap.size]? = some (.deferred (some [])) ∧
          ButU Bs (fun r => X r ∨ r = w.heap.size + 1) W (W3.putObj (w.heap.size + 1) (.loop (rec (if jump.isNone then .ready else .done) jump))) ∧ Fine w.heap.size W3 (W3.putObj (w.heap.size + 1) (.loop (rec (if jump.isNone then .ready else .done) jump))) := fun jump W3 hk3 => by
        have hl3 : W3.heap[w.heap.size + 1]? = some ob := hk3.cells hl2 (fun h => by have := hX _ h; omega) (fun c fr e => by rw [← hbusy] at e; cases e)
        have hd3 : W3.heap[w.heap.size]? = some (.deferred (some [])) := hk3.cells hk2 (fun h => by have := hX _ h; omega) (fun c fr e => by cases e)
        rw [← hbusy] at hl3
        have := run_endRound (P := P) jump hl3
        rw [hrec] at this ⊢
        refine ⟨this, World.putObj_heap_same (Array.getElem?_eq_some_iff.1 hl3).1, (World.putObj_heap_other (by omega)).trans hd3, ?_, Fine.loop _ (by omega) hl3⟩
        exact ((But.putObj _ W _ _ (.inr rfl)).u.trans (hk3.mono fun _ => .inl)).trans (But.putObj _ _ _ _ (.inr rfl)).u
      rintro e a3 W3 hp
      cases e with
      | normal =>
        obtain ⟨hk3, hi3⟩ := hp
        obtain ⟨hr, hl4, hk4, hb4, hf4⟩ := fin none W3 hk3
        exact ⟨_, _, hr, .inl ⟨rfl, ⟨hI _ _ _ hf4 hi3, hl4, hk4⟩, hb4⟩⟩
      | ret =>
        obtain ⟨hk3, hi3⟩ := hp
        obtain ⟨hr, hl4, hk4, hb4, hf4⟩ := fin (some .ret) W3 hk3
        exact ⟨_, _, hr, .inr ⟨rfl, .ret, hIx _ _ _ _ hf4 hi3, hl4, hk4⟩⟩
      | exit id =>
        obtain ⟨hk3, hi3⟩ := hp
        obtain ⟨hr, hl4, hk4, hb4, hf4⟩ := fin (some (.exit id)) W3 hk3
        exact ⟨_, _, hr, .inr ⟨rfl, .exit id, hIx _ _ _ _ hf4 hi3, hl4, hk4⟩⟩
      | goto t =>
        obtain ⟨hk3, hi3⟩ := hp
        obtain ⟨hr, hl4, hk4, hb4, hf4⟩ := fin (some (.goto t)) W3 hk3
        exact ⟨_, _, hr, .inr ⟨rfl, .goto t, hIx _ _ _ _ hf4 hi3, hl4, hk4⟩⟩
      | panic ch => exact hp.elim
      | outgrown => exact hp.elim
    · rintro e W2 ⟨⟨v, rfl⟩, (⟨hi, hl, hk⟩ | ⟨k, hkN, c, hi, hl, hk⟩)⟩
      · exact ⟨none, _, by have := run_endLoop (P := P) hl (by rw [hrec]; simp); rw [hrec] at this; exact this, hdone _ _ (Nat.le_refl _) (hI _ _ _ (Fine.loop _ (by omega) hl) hi) ((World.putObj_heap_other (by omega)).trans hk)⟩
      · exact ⟨some c, _, by have := run_endLoop (P := P) hl (by rw [hrec]; simp); rw [hrec] at this; exact this, hstop _ c k _ (Nat.le_refl _) hkN (hIx _ _ _ _ (Fine.loop _ (by omega) hl) hi) ((World.putObj_heap_other (by omega)).trans hk)⟩
/-- WHAT AN ITERATOR PROMISES that tells what it makes up: told are values that Enc knows, of the world ahead of their being made and of that at the call of yield. -/
def RunsRF (F : Fence) (n : Nat) (P : Program) (g : Nat) (lb : Array Value) (Enc : Nat → World → World → Array Value → Prop) (N : Nat) (X : Nat → Prop) (Bs : Nat) (w : World) : Prop :=
  ∀ (l : Nat) (J Jx : Nat → World → Prop) (W : World), Below w.heap.size w W → (∀ r, X r → r < W.heap.size) → (∀ k A B, Fine W.heap.size A B → J k A → J k B) → (∀ k A B, Fine W.heap.size A B → Jx k A → Jx k B) →
    (∀ k W0 W1 vs, k < N → J k W0 → W.heap.size ≤ W0.heap.size → Below W0.heap.size W0 W1 → Enc k W0 W1 vs → YieldAt F (n - 1) P l vs W1 fun e W' =>
      (e = .returned (.bool true) ∧ J (k + 1) W' ∧ ButU Bs X W1 W') ∨ (e = .returned (.bool false) ∧ Jx k W' ∧ ButU Bs X W1 W')) →
    J 0 W →
    CallsIn F n P g (#[.func (.yield l) #[] #[]] ++ lb) W fun e W' => (∃ v, e = .returned v) ∧ (J N W' ∨ ∃ k, k < N ∧ Jx k W')


/-- What the caller owes. -/
theorem wpIn_runsRF {g : Operand} {ps : Array Tmp} {assign body : Code} {Q : Exit → Act → World → Prop} {a : Act} {w : World}
    (hro : F.round = none) (h1 : 1 ≤ n) {gf : Nat} {lb : Array Value} (hg : a.eval g = .func (.func gf) #[] lb) (hFg : F.fn gf) (eg : ∀ args w, (callFunc gf args).run P w = .ok (.enter gf args) w)
    {Enc : Nat → World → World → Array Value → Prop} {N Bs : Nat} {X : Nat → Prop} {w0 : World} (hseq : RunsRF F (n - 1) P gf lb Enc N (fun r => X r ∨ r = w.heap.size + 1) Bs w0)
    (hX : ∀ r, X r → r < w.heap.size) (hb0 : Below w0.heap.size w0 w) (hps : ∀ k A B vs, Enc k A B vs → vs.size = ps.size)
    (I : Nat → World → Prop) (Ix : Code → Nat → World → Prop) (hI : ∀ k A B, Fine w.heap.size A B → I k A → I k B) (hIx : ∀ c k A B, Fine w.heap.size A B → Ix c k A → Ix c k B) (h0 : I 0 w) (a₁ : World → Array Value → Act) (ob : Array Value → Obj)
    (hassign : ∀ (l k : Nat) (W0 W : World) (vs : Array Value) (K : Act → World → Prop), k < N → Enc k W0 W vs → K (a₁ W vs) (W.alloc (ob vs)) →
      assign.wpIn (F.inRound l) (n - 1 - 1) P (Exit.then K (fun _ _ _ => False)) { tmps := (ps.zip vs).foldl (fun t (p, v) => t.setIfInBounds p v) a.tmps, defers := [] } W)
    (hbody : ∀ (l k : Nat) (W0 W Wb : World) (vs : Array Value), k < N → I k W0 → w.heap.size + 2 ≤ W0.heap.size → Below W0.heap.size W0 W → Enc k W0 W vs → l = w.heap.size + 1 → (∃ r, W0.heap[l]? = some (.loop r)) → (∀ i, i < W0.heap.size → i ≠ l → Wb.heap[i]? = W0.heap[i]?) → (∀ i, W0.heap.size ≤ i → i < W.heap.size → Wb.heap[i]? = W.heap[i]?) →
      Wb.heap[W.heap.size]? = some (ob vs) → Wb.heap.size = W.heap.size + 1 → Below (w.heap.size + 1) W0 Wb → Fine w.heap.size W0 Wb → body.wpIn (F.inRound l) (n - 1 - 1) P (runPostF X Bs I Ix k Wb) (a₁ W vs) Wb)
    (hdone : ∀ (D : Nat) (W : World), w.heap.size ≤ D → I N W → W.heap[D]? = some (.deferred (some [])) → Q .normal { a with defers := { target := .collected D, args := #[] } :: a.defers } W)
    (hstop : ∀ (D : Nat) (c : Code) (k : Nat) (W : World), w.heap.size ≤ D → k < N → Ix c k W → W.heap[D]? = some (.deferred (some [])) → c.wpIn F n P Q { a with defers := { target := .collected D, args := #[] } :: a.defers } W) :
    (Code.rangeFunc g ps assign body).wpIn F n P Q a w := by
  refine wpIn_rangeFunc ?_
  intro fn hfn
  rw [hro]
  obtain ⟨rec, hrec⟩ : ∃ rec : LoopState → Option Code → Loop, rec = fun st pe => { state := st, pending := pe, fn, tmps := a.tmps, params := ps, assign, body, defers := w.heap.size } := ⟨_, rfl⟩
  obtain ⟨W1, hW1⟩ : ∃ W1, (w.alloc (.deferred (some []))).alloc (.loop (rec .ready none)) = W1 := ⟨_, rfl⟩
  have hsz : W1.heap.size = w.heap.size + 2 := by rw [← hW1]; simp
  have hL1 : W1.heap[w.heap.size + 1]? = some (.loop (rec .ready none)) := by
    rw [← hW1]; have := World.alloc_heap_new (w.alloc (.deferred (some []))) (.loop (rec .ready none)); rwa [World.size_alloc] at this
  have hK1 : W1.heap[w.heap.size]? = some (.deferred (some [])) := by
    rw [← hW1]; exact (Below.heap_alloc _ _ _ (by simp)).trans (World.alloc_heap_new w _)
  have hbw : Below w.heap.size w W1 := by rw [← hW1]; exact ((Below.refl _ w).alloc (Nat.le_refl _) _).alloc (by simp) _
  have hput : ∀ (W : World) (o : Obj), Below w.heap.size W (W.putObj (w.heap.size + 1) o) := fun W o =>
    ⟨rfl, rfl, rfl, by simp, fun k hk => World.putObj_heap_other (by omega)⟩
  refine ⟨w.heap.size + 1, [{ target := .collected w.heap.size, args := #[] }], W1, { target := .fn (.func gf) lb, args := #[.func (.yield (w.heap.size + 1)) #[] #[]] }, W1, gf,
    #[.func (.yield (w.heap.size + 1)) #[] #[]] ++ lb, W1, ?_, ?_, ?_, ?_, fun _ => h1, ?_⟩
  · rw [← hW1, hrec]; exact run_enterLoop_outer _ _ _ _ _
  · simp only [resolve, hg]
    simp [go_sem]
  · intro f' hf'; simp [Target.leads] at hf'; subst hf'; exact hFg
  · simp [invoke, go_sem, eg]
  · refine (hseq (w.heap.size + 1)
      (fun k W => I k W ∧ W.heap[w.heap.size + 1]? = some (.loop (rec .ready none)) ∧ W.heap[w.heap.size]? = some (.deferred (some [])))
      (fun k W => ∃ c, Ix c k W ∧ W.heap[w.heap.size + 1]? = some (.loop (rec .done (some c))) ∧ W.heap[w.heap.size]? = some (.deferred (some [])))
      W1 (hb0.trans (hbw.mono hb0.size)) (fun r hr => by rcases hr with hr | rfl <;> first | (have := hX _ hr; omega) | omega)
      (fun k A B hAB ⟨hi, hl, hk⟩ => ⟨hI k A B (hAB.mono (by omega)) hi, (hAB.block _ (by omega)).trans hl, (hAB.block _ (by omega)).trans hk⟩)
      (fun k A B hAB ⟨c, hi, hl, hk⟩ => ⟨c, hIx c k A B (hAB.mono (by omega)) hi, (hAB.block _ (by omega)).trans hl, (hAB.block _ (by omega)).trans hk⟩)
      ?_ ⟨hI 0 _ _ (Fine.new hbw (Nat.le_refl _)) h0, hL1, hK1⟩).mono ?_
    · rintro k W0 W vs hkN ⟨hi, hl, hk⟩ hW0 h01 hE
      have hlt0 : w.heap.size + 1 < W0.heap.size := (Array.getElem?_eq_some_iff.1 hl).1
      have s01 := h01.size
      have hlW := (h01.block _ hlt0).trans hl
      have hkW := (h01.block _ (by omega)).trans hk
      have hy := run_yield (P := P) (args := vs) hlW (by rw [hrec]; exact hps k _ _ vs hE)
      rw [hrec] at hy
      have sA : (W.alloc (ob vs)).heap.size = W.heap.size + 1 := World.size_alloc ..
      have bA : ∀ i, i < W.heap.size → (W.alloc (ob vs)).heap[i]? = W.heap[i]? := fun i hi => Below.heap_alloc _ _ _ hi
      have hlA := (bA _ (by omega)).trans hlW
      have hkA := (bA _ (by omega)).trans hkW
      have hoA : (W.alloc (ob vs)).heap[W.heap.size]? = some (ob vs) := World.alloc_heap_new _ _
      have bWA : Below W0.heap.size W0 (W.alloc (ob vs)) := h01.alloc (by omega) _
      refine ⟨fn, _, assign, body, hy, roundIn_of_wpIn hfn (hassign _ k W0 W vs _ hkN hE ⟨_, run_beginRound hlA (by rw [hrec]), ?_⟩)⟩
      generalize hbusy : Obj.loop { rec .ready none with state := .busy } = ob'
      have hlt : w.heap.size + 1 < (W.alloc (ob vs)).heap.size := by omega
      have hl2 : ((W.alloc (ob vs)).putObj (w.heap.size + 1) ob').heap[w.heap.size + 1]? = some ob' := World.putObj_heap_same hlt
      have hk2 : ((W.alloc (ob vs)).putObj (w.heap.size + 1) ob').heap[w.heap.size]? = some (.deferred (some [])) := (World.putObj_heap_other (by omega)).trans hkA
      have hsz2 : ((W.alloc (ob vs)).putObj (w.heap.size + 1) ob').heap.size = (W.alloc (ob vs)).heap.size := by simp
      refine wpIn_mono (hbody _ k W0 W ((W.alloc (ob vs)).putObj (w.heap.size + 1) ob') vs hkN hi (by omega) h01 hE rfl ⟨_, hl⟩ (fun i h1 h2 => (World.putObj_heap_other h2).trans (bWA.block i h1)) (fun i h1 h2 => (World.putObj_heap_other (by omega)).trans (bA i h2)) ((World.putObj_heap_other (by omega)).trans hoA) (by omega)
        (((bWA.mono (by omega)).trans ⟨rfl, rfl, rfl, by omega, fun i hi => World.putObj_heap_other (by omega)⟩)) ((Fine.new bWA (by omega)).trans (Fine.loop _ (by omega) hlA))) ?_
      have fin : ∀ (jump : Option Code) (W3 : World), ButU Bs X ((W.alloc (ob vs)).putObj (w.heap.size + 1) ob') W3 →
          (Instr.endRound (w.heap.size + 1) jump).run P W3 = .ok (.bool jump.isNone) (W3.putObj (w.heap.size + 1) (.loop (rec (if jump.isNone then .ready else .done) jump))) ∧
          (W3.putObj (w.heap.size + 1) (.loop (rec (if jump.isNone then .ready else .done) jump))).heap[w.heap.size + 1]? = some (.loop (rec (if jump.isNone then .ready else .done) jump)) ∧
          (W3.putObj (w.heap.size + 1) (.loop (rec (if jump.isNone then .ready else .done) jump))).heap[w.heap.size]? = some (.deferred (some [])) ∧
          ButU Bs (fun r => X r ∨ r = w.heap.size + 1) W (W3.putObj (w.heap.size + 1) (.loop (rec (if jump.isNone then .ready else .done) jump))) ∧ Fine w.heap.size W3 (W3.putObj (w.heap.size + 1) (.loop (rec (if jump.isNone then .ready else .done) jump))) := fun jump W3 hk3 => by
        have hl3 : W3.heap[w.heap.size + 1]? = some ob' := hk3.cells hl2 (fun h => by have := hX _ h; omega) (fun c fr e => by rw [← hbusy] at e; cases e)
        have hd3 : W3.heap[w.heap.size]? = some (.deferred (some [])) := hk3.cells hk2 (fun h => by have := hX _ h; omega) (fun c fr e => by cases e)
        rw [← hbusy] at hl3
        have := run_endRound (P := P) jump hl3
        rw [hrec] at this ⊢
        refine ⟨this, World.putObj_heap_same (Array.getElem?_eq_some_iff.1 hl3).1, (World.putObj_heap_other (by omega)).trans hd3, ?_, Fine.loop _ (by omega) hl3⟩
        exact ((((But.refl _ W).alloc (ob vs)).trans (But.putObj _ _ _ _ (.inr rfl))).u.trans (hk3.mono fun _ => .inl)).trans (But.putObj _ _ _ _ (.inr rfl)).u
      rintro e a3 W3 hp
      cases e with
      | normal =>
        obtain ⟨hk3, hi3⟩ := hp
        obtain ⟨hr, hl4, hk4, hb4, hf4⟩ := fin none W3 hk3
        exact ⟨_, _, hr, .inl ⟨rfl, ⟨hI _ _ _ hf4 hi3, hl4, hk4⟩, hb4⟩⟩
      | ret =>
        obtain ⟨hk3, hi3⟩ := hp
        obtain ⟨hr, hl4, hk4, hb4, hf4⟩ := fin (some .ret) W3 hk3
        exact ⟨_, _, hr, .inr ⟨rfl, ⟨.ret, hIx _ _ _ _ hf4 hi3, hl4, hk4⟩, hb4⟩⟩
      | exit id =>
        obtain ⟨hk3, hi3⟩ := hp
        obtain ⟨hr, hl4, hk4, hb4, hf4⟩ := fin (some (.exit id)) W3 hk3
        exact ⟨_, _, hr, .inr ⟨rfl, ⟨.exit id, hIx _ _ _ _ hf4 hi3, hl4, hk4⟩, hb4⟩⟩
      | goto t =>
        obtain ⟨hk3, hi3⟩ := hp
        obtain ⟨hr, hl4, hk4, hb4, hf4⟩ := fin (some (.goto t)) W3 hk3
        exact ⟨_, _, hr, .inr ⟨rfl, ⟨.goto t, hIx _ _ _ _ hf4 hi3, hl4, hk4⟩, hb4⟩⟩
      | panic ch => exact hp.elim
      | outgrown => exact hp.elim
    · rintro e W2 ⟨⟨v, rfl⟩, (⟨hi, hl, hk⟩ | ⟨k, hkN, c, hi, hl, hk⟩)⟩
      · exact ⟨none, _, by have := run_endLoop (P := P) hl (by rw [hrec]; simp); rw [hrec] at this; exact this, hdone _ _ (Nat.le_refl _) (hI _ _ _ (Fine.loop _ (by omega) hl) hi) ((World.putObj_heap_other (by omega)).trans hk)⟩
      · exact ⟨some c, _, by have := run_endLoop (P := P) hl (by rw [hrec]; simp); rw [hrec] at this; exact this, hstop _ c k _ (Nat.le_refl _) hkN (hIx _ _ _ _ (Fine.loop _ (by omega) hl) hi) ((World.putObj_heap_other (by omega)).trans hk)⟩
end

section
theorem told_runsF (n bd M b o Bs : Nat) (root : LT) (X : Nat → Prop) (w : World) (hX : ∀ r, X r → M ≤ r ∧ r ≠ bd) (hbd : w.heap[bd]? = some (.cells #[.pointer (some ⟨b, o, none⟩)] 77 (0, 0))) (hM : M ≤ w.heap.size) (hBs : M ≤ Bs) (hL : Lies w M root b o) (hN : root.size < 1000000000) :
    RunsF Fence.wide n Try.prog 70 #[.pointer (some ⟨bd, 0, none⟩)] (toldAt (seqT root 1 b o)) (seqT root 1 b o).length X Bs w := by
  intro l J Jx W hW hXW hJ hJx hY h0
  have hbw : bd < w.heap.size := (Array.getElem?_eq_some_iff.1 hbd).1
  have hbW := (hW.block _ hbw).trans hbd
  exact told1_in n l bd M (root.size + 1) b o Bs root X J Jx W hBs (.inr ⟨_, _, hbW⟩) (fun r hr => ⟨(hX r hr).1, (hX r hr).2, hXW r hr⟩) hJ _ rfl hY (by rw [Lib.cell_of_heap hbW]; rfl) (Nat.le_trans hM hW.size)
    (hL.keep hW.size (fun i hi => hW.block i (by omega)) _ _ _) (Nat.le_refl _) (by omega) h0
end

section
attribute [local go_sem] Oper.semAt_some

theorem room_none {F : Fence} (hd : F.depth = none) (k : Nat) : F.room k := fun d h => by rw [hd] at h; cases h
theorem roundIn_any {F : Fence} (hd : F.depth = none) {m m' : Nat} {P : Program} {l : Nat} {f : FuncId} {tmps : Array Value} {assign body : Code} {w : World} {R : Ending → World → Prop}
    (h : RoundIn F m P l f tmps assign body w R) : RoundIn F m' P l f tmps assign body w R := ⟨h.1, fun c cs _ => h.2 c cs (room_none hd _)⟩
theorem roundIn_in {F : Fence} {l' m : Nat} {P : Program} {l : Nat} {f : FuncId} {tmps : Array Value} {assign body : Code} {w : World} {R R' : Ending → World → Prop}
    (h : RoundIn F m P l f tmps assign body w R) (hr : ∀ e w, R e w → R' e w) : RoundIn (F.inRound l') m P l f tmps assign body w R' := RoundIn.mono (F := F) h hr
theorem yield_or {A B : Prop} {e : Ending} (h : (e = .returned (.bool true) ∧ A) ∨ (e = .returned (.bool false) ∧ B)) : ∃ r : Bool, e = .returned (.bool r) ∧ (r = true → A) ∧ (r = false → B) := by
  rcases h with ⟨rfl, h⟩ | ⟨rfl, h⟩
  · exact ⟨true, rfl, fun _ => h, fun e => (by cases e)⟩
  · exact ⟨false, rfl, fun e => (by cases e), fun _ => h⟩
/-- What is told: a copy of the k-th, new. -/
def WEnc (full : List Node) (k : Nat) (A B : World) (vs : Array Value) : Prop := ∃ u : LT, vs = #[.agg #[.int .i64 u.k, .bool u.g, .slice u.la u.ln u.lc, .bool u.bb, .string u.s, .slice u.ia u.items.length u.ic, .slice u.ta u.tail.length u.tc]] ∧ HeldP B (Fresh B A.heap.size) u ∧ shape u = shape (nd full k).t
def WkI (l Bx M P : Nat) (root : LT) (J : Nat → World → Prop) (k : Nat) (W : World) : Prop := J k W ∧ W.cell? ⟨Bx, 0, none⟩ = some (.func (.yield l) #[] #[]) ∧ Lies W M root P 0 ∧ Bx + 2 ≤ W.heap.size

mutual
theorem seqT_all : ∀ (t : LT) (v b o : Nat), Tame t → ∀ x ∈ seqT t v b o, Tame x.t ∧ x.t.depth ≤ t.depth
  | .mk k g la ln lc ys bb s ia ic items ta tc tail, v, b, o, hT, x, hx => by
    have hT' := hT
    simp only [Tame] at hT'
    simp only [seqT, List.mem_cons, List.mem_append] at hx
    rcases hx with rfl | hx | hx
    · exact ⟨hT, Nat.le_refl _⟩
    · have h := seqR_all items (v + 1) (blk ia) (ofs ia) hT'.2.1 x hx
      simp only [LT.depth]
      exact ⟨h.1, by omega⟩
    · have h := seqR_all tail (v + 1) (blk ta) (ofs ta) hT'.2.2 x hx
      simp only [LT.depth]
      exact ⟨h.1, by omega⟩
theorem seqR_all : ∀ (l : List LT) (v b o : Nat), TameR l → ∀ x ∈ seqR l v b o, Tame x.t ∧ x.t.depth ≤ depths l
  | [], _, _, _, _, x, hx => by simp [seqR] at hx
  | t :: l, v, b, o, hT, x, hx => by
    simp only [TameR] at hT
    simp only [seqR, List.mem_append] at hx
    simp only [depths]
    rcases hx with hx | hx
    · have h := seqT_all t v b o hT.1 x hx
      exact ⟨h.1, by omega⟩
    · have h := seqR_all l v b (o + 7) hT.2 x hx
      exact ⟨h.1, by omega⟩
end
end

section
attribute [local go_sem] Oper.semAt_some

theorem Fine.deferred {base l : Nat} {A : World} {o1 : Obj} (o : Obj) (hb : base ≤ l) (h : A.heap[l]? = some o1) (hn : ∀ c T fr, o1 ≠ .cells c T fr) : Fine base A (A.putObj l o) :=
  Fine.at_ ⟨rfl, rfl, rfl, by simp, fun k hk => World.putObj_heap_other (by omega)⟩ h (.inr hn) fun i _ hne => World.putObj_heap_other hne
def WkF (l Bx M P : Nat) (root : LT) (J : Nat → World → Prop) (k : Nat) (W : World) : Prop := J k W ∧ W.heap[Bx]? = some (.cells #[.func (.yield l) #[] #[]] 28 (0, 0)) ∧ Lies W M root P 0 ∧ Bx + 2 ≤ W.heap.size
set_option maxRecDepth 100000 in
set_option maxHeartbeats 12800000 in
theorem walk2_runsF (P M Bs : Nat) (root : LT) (X : Nat → Prop) (w : World) (hX : ∀ r, X r → M ≤ r) (hM : M ≤ w.heap.size) (hBs : M ≤ Bs) (hL : Lies w M root P 0) (hT : Tame root) (hs : root.size ≤ 100000) (hd : root.depth ≤ 10000) :
    RunsRF Fence.wide 4 Try.prog 77 #[.pointer (some ⟨P, 0, none⟩)] (WEnc (seqT root 1 P 0)) (seqT root 1 P 0).length X Bs w := by
  intro l J Jx W hW hXW hJ hJx hY h0
  obtain ⟨full, hfull⟩ : ∃ full, full = seqT root 1 P 0 := ⟨_, rfl⟩
  rw [← hfull] at hY ⊢
  have hLW : Lies W M root P 0 := hL.keep hW.size (fun i hi => hW.block i (by omega)) _ _ _
  have hl0 : ∀ W', Lies W' M root P 0 → ∀ x ∈ full, Lies W' M x.t x.b x.o ∧ 1 ≤ x.lev ∧ x.lev + x.t.size ≤ 1 + root.size := fun W' h => hfull ▸ seqT_lies root 1 P 0 h
  have htame : ∀ x ∈ full, Tame x.t ∧ x.t.depth ≤ 10000 := fun x hx => by
    rw [hfull] at hx
    have := seqT_all root 1 P 0 hT x hx
    exact ⟨this.1, by omega⟩
  have hMW : M ≤ W.heap.size := Nat.le_trans hM hW.size
  obtain ⟨W2, hW2, q0, q1, qz, qb⟩ := two2 W (.cells #[.func (.yield l) #[] #[]] 28) (.cells #[.pointer (some ⟨P, 0, none⟩)] 77)
  have hL2 : Lies W2 M root P 0 := hLW.keep qb.size (fun i hi => qb.block i (by omega)) _ _ _
  have hruns := told_runsF 3 (W.heap.size + 1) M P 0 Bs root (fun r => X r ∨ r = W2.heap.size + 1) W2 (fun r hr => by rcases hr with hr | rfl; exact ⟨hX r hr, by have := hXW r hr; omega⟩; omega) q1 (by omega) hBs hL2 (by omega)
  rw [← hfull] at hruns
  have hI0 : WkF l W.heap.size M P root J 0 W2 := ⟨hJ 0 W W2 (Fine.new qb (Nat.le_refl _)) h0, q0, hL2, by omega⟩
  have HF := Lib.hid (And.intro hl0 (And.intro htame (And.intro hY hruns)))
  have HI0 := Lib.hid hI0
  have HW2 := Lib.hid hW2
  have HJ := Lib.hid (And.intro hJ hJx)
  clear hL hLW hl0 htame q0 q1 qb hL2 hruns hY hI0 hW2 hfull hT hJ hJx h0
  refine callsIn_of_wp_marks Try.func77 rfl trivial ?_ rfl
  simp only [Try.ntmps77, List.size_toArray, List.length_cons, List.length_nil, Nat.reduceAdd, Nat.reduceSub, Array.replicate_succ, Array.replicate_zero, List.push_toArray, List.append_toArray, List.nil_append, List.cons_append]
  gi_wp2_with (refine ⟨trivial, ?_⟩; gi_at_call 45; refine (callsIn_wide.2 (told_any _ _)).mono ?_; rintro e w' ⟨rfl, rfl⟩)
  rw [← HW2.out]
  refine wpIn_runsF (Bs := Bs) (X := X) (w0 := W2) rfl (by decide) (gf := 70) (lb := #[.pointer (some ⟨W.heap.size + 1, 0, none⟩)]) rfl trivial (enters_of Try.func70 (by kernel_rfl) rfl)
    HF.out.2.2.2 (fun r hr => by have := hXW r hr; omega) (Below.refl _ _) (fun k => rfl) (fun k W' => WkF l W.heap.size M P root J k W') (fun c k W' => c = .ret ∧ Jx k W')
    (fun k A B hAB h => ⟨HJ.out.1 k A B (hAB.mono (by omega)) h.1, (hAB.block _ (by omega)).trans h.2.1, h.2.2.1.keep hAB.size (fun i hi => hAB.block i (by omega)) _ _ _, Nat.le_trans h.2.2.2 hAB.size⟩) (fun c k A B hAB h => ⟨h.1, HJ.out.2 k A B (hAB.mono (by omega)) h.2⟩) HI0.out
    (fun k => { tmps := #[.func (.yield l) #[] #[], .pointer (some ⟨P, 0, none⟩), .pointer (some ⟨W.heap.size, 0, none⟩), undef, .pointer (some ⟨(nd full k).b, (nd full k).o, none⟩), .func (.func 70) #[] #[.pointer (some ⟨W.heap.size + 1, 0, none⟩)],
      .int .i64 ((nd full k).lev : Nat), .pointer (some ⟨(nd full k).b, (nd full k).o, none⟩), undef, undef, undef, undef, undef, undef, undef], defers := [] })
    ?assign ?body ?done ?stop
  case assign =>
    intro l' k W' K _ hK
    simp only [toldAt]
    gi_wp2
    exact hK
  case body =>
    rintro l' k W' hkN hI
    obtain ⟨hJk, hbox, hLk, hsz⟩ := hI
    have hboxc0 : W'.cell? ⟨W.heap.size, 0, none⟩ = some (.func (.yield l) #[] #[]) := by rw [Lib.cell_of_heap hbox]; rfl
    obtain ⟨⟨lv, xb, xo, x⟩, hat⟩ : ∃ x, full[k]? = some x := ⟨full[k], List.getElem?_eq_getElem hkN⟩
    have hmem := List.mem_of_getElem? hat
    have hnode := HF.out.1 W' hLk _ hmem
    have htx := HF.out.2.1 _ hmem
    obtain ⟨hxb, hcell, hheld⟩ := lies_held.1 hnode.1
    have c0 : W'.cell? ⟨xb, xo, none⟩ = some (.int .i64 x.k) := hcell 0 _ rfl
    have c1 : W'.cell? ⟨xb, xo + 1, none⟩ = some (.bool x.g) := hcell 1 _ rfl
    have c2 : W'.cell? ⟨xb, xo + 2, none⟩ = some (.slice x.la x.ln x.lc) := hcell 2 _ rfl
    have c3 : W'.cell? ⟨xb, xo + 3, none⟩ = some (.bool x.bb) := hcell 3 _ rfl
    have c4 : W'.cell? ⟨xb, xo + 4, none⟩ = some (.string x.s) := hcell 4 _ rfl
    have c5 : W'.cell? ⟨xb, xo + 5, none⟩ = some (.slice x.ia x.items.length x.ic) := hcell 5 _ rfl
    have c6 : W'.cell? ⟨xb, xo + 6, none⟩ = some (.slice x.ta x.tail.length x.tc) := hcell 6 _ rfl
    have hsx : x.size ≤ 100000 := by have h1 : lv + x.size ≤ 1 + root.size := hnode.2.2; have h2 : 1 ≤ lv := hnode.2.1; omega
    have hcp := fun W'' (hb : Below W'.heap.size W' W'') => copy_any M x hsx htx.2 htx.1 W'' (by have := hb.size; omega) (Held.keep (w := W') hheld hb.size fun q hq => hb.block q (by omega))
    have hnd := nd_eq hat
    have HC := Lib.hid hcp
    have HI := Lib.hid (And.intro hJk (And.intro hbox (And.intro hLk (And.intro hsz hnd))))
    simp only [hnd]
    have hmix : Try.prog.follows .mixedOrders = true := by kernel_rfl
    clear hcell hheld hnode htx hcp hJk hLk hmem
    gi_wp2
    gi_region_with_o
      (first
        | (refine ⟨trivial, ?_⟩; gi_at_call 19; refine (CallsIn.inRound l' (callsIn_wide.2 (HC.out _ (by first | exact (Below.refl _ _).drew | exact Below.refl _ _)))).mono ?_; rintro e w1 ⟨u, rfl, hu, hus, b1⟩; have hbox1 := (b1.block W.heap.size (by show W.heap.size < W'.heap.size; omega)).trans HI.out.2.1; have hboxc : w1.cell? ⟨W.heap.size, 0, none⟩ = some (.func (.yield l) #[] #[]) := (by rw [Lib.cell_of_heap hbox1]; rfl); obtain ⟨fn, tm, asg, bod, hy, hR⟩ := HF.out.2.2.1 k W'.drew w1 #[.agg #[.int .i64 u.k, .bool u.g, .slice u.la u.ln u.lc, .bool u.bb, .string u.s, .slice u.ia u.items.length u.ic, .slice u.ta u.tail.length u.tc]] hkN (HJ.out.1 k W' W'.drew (Fine.new (Below.refl _ _).drew (by omega)) HI.out.1) (by show W.heap.size ≤ W'.heap.size; omega) b1 ⟨u, rfl, hu, by rw [hnd]; exact hus⟩; have hy' : (Instr.yield l #[.agg #[.int .i64 u.k, .bool u.g, .slice u.la u.ln u.lc, .bool u.bb, .string u.s, .slice u.ia u.items.length u.ic, .slice u.ta u.tail.length u.tc]]).run Try.prog w1 = _ := hy; clear hy)
        | (refine roundIn_in (roundIn_any (m' := 1) rfl hR) ?_; intro e w5 hp5; obtain ⟨r, rfl, hr1, hr2⟩ := yield_or hp5; clear hp5))
    all_goals
      have hB0 : But X W' w1 := (But.refl X W').below ((Below.refl W'.heap.size W').drew.trans b1) (Nat.le_refl _)
      have s1 := b1.size
      have hs1 : W'.heap.size ≤ w1.heap.size := s1
      have hbut : ButU Bs X w1 w5 := by cases r with | true => exact (hr1 rfl).2 | false => exact (hr2 rfl).2
      have hbox5 := hbut.cells hbox1 (fun h => by have := hXW _ h; omega) (fun c fr e => by injection e with _ e2; exact absurd e2 (by decide))
      have hL5 : Lies w5 M root P 0 := (HI.out.2.2.1.keep (w' := w1) hs1 (fun q hq => b1.block q (by show q < W'.heap.size; omega)) _ _ _).keep hbut.1 (fun q hq => hbut.low (by omega) (by omega) (fun h => by have := hX _ h; omega)) _ _ _
      have HZ := Lib.hid (And.intro (hB0.u.trans hbut) (And.intro hbox5 (And.intro hL5 (And.intro hr1 hr2))))
      have hs5 := hbut.1
      clear hB0 hbut hbox5 hL5 hr1 hr2 b1 hbox1 hboxc hboxc0 hy' hR hu c0 c1 c2 c3 c4 c5 c6
      cases r with
      | true =>
        gi_wp2
        exact ⟨HZ.out.1, (HZ.out.2.2.2.1 (by trivial)).1, HZ.out.2.1, HZ.out.2.2.1, by omega⟩
      | false =>
        gi_wp2
        exact ⟨HZ.out.1, rfl, (HZ.out.2.2.2.2 (by trivial)).1⟩
  case done =>
    rintro D W' hD hI hK
    have HKD := Lib.hid hK
    have HI := Lib.hid hI
    clear hK hI
    gi_wp2
    refine ⟨by simp, .inl ⟨_, _, rfl, run_takeDeferred HKD.out, ?_⟩⟩
    exact ⟨.tuple #[], by simp [results, Try.results77, go_sem], ⟨_, rfl⟩, .inl (HJ.out.1 _ W' (W'.putObj D (.deferred none)) (Fine.deferred _ (by omega) HKD.out (fun c T fr e => by cases e)) HI.out.1)⟩
  case stop =>
    rintro D c k W' hD hk ⟨rfl, hx⟩ hK
    have HKD := Lib.hid hK
    have HI := Lib.hid hx
    clear hK hx
    gi_wp2
    refine ⟨by simp, .inl ⟨_, _, rfl, run_takeDeferred HKD.out, ?_⟩⟩
    exact ⟨.tuple #[], by simp [results, Try.results77, go_sem], ⟨_, rfl⟩, .inr ⟨k, hk, HJ.out.2 _ W' (W'.putObj D (.deferred none)) (Fine.deferred _ (by omega) HKD.out (fun c T fr e => by cases e)) HI.out⟩⟩
end

section
set_option maxRecDepth 100000 in
set_option maxHeartbeats 6400000 in
theorem walk_any (M : Nat) (t : LT) (h1 : t.size ≤ 100000) (h2 : t.depth ≤ 10000) (hT : Tame t) (w : World) (hM : M ≤ w.heap.size) (hH : Held w M t) :
    Calls Try.prog 52 #[.agg #[.int .i64 t.k, .bool t.g, .slice t.la t.ln t.lc, .bool t.bb, .string t.s, .slice t.ia t.items.length t.ic, .slice t.ta t.tail.length t.tc]] w fun e w' => ∃ (P : Nat) (u : LT), e = .returned (.func (.func 77) #[] #[.pointer (some ⟨P, 0, none⟩)]) ∧ w'.heap[P]? = some (Obj.cells #[.int .i64 u.k, .bool u.g, .slice u.la u.ln u.lc, .bool u.bb, .string u.s, .slice u.ia u.items.length u.ic, .slice u.ta u.tail.length u.tc] 27) ∧ Held w' w'.heap.size u ∧ shape u = shape t ∧ Below w.heap.size w w' := by
  have hHW := fun W (hb : Below w.heap.size w W) => hH.below hM hb
  obtain ⟨w2, hw2⟩ : ∃ w2, w.alloc (Obj.cells #[.int .i64 t.k, .bool t.g, .slice t.la t.ln t.lc, .bool t.bb, .string t.s, .slice t.ia t.items.length t.ic, .slice t.ta t.tail.length t.tc] 27) = w2 := ⟨_, rfl⟩
  have hR2 : w2.heap[w.heap.size]? = some (Obj.cells #[.int .i64 t.k, .bool t.g, .slice t.la t.ln t.lc, .bool t.bb, .string t.s, .slice t.ia t.items.length t.ic, .slice t.ta t.tail.length t.tc] 27) := by rw [← hw2]; exact World.alloc_heap_new _ _
  have hb2 : Below w.heap.size w w2 := by rw [← hw2]; exact (Below.refl _ _).alloc (Nat.le_refl _) _
  have hz2 : w2.heap.size = w.heap.size + 1 := by rw [← hw2, World.size_alloc]
  have HH := Lib.hid (And.intro hHW hT)
  have H2 := Lib.hid (And.intro hR2 (And.intro hb2 hz2))
  clear hHW hT hH hR2 hb2 hz2
  have hmf : ∀ (fn : Fn) (first cap : Array Value) (w : World), (Instr.makeFunc fn first cap).run Try.prog w = .ok (.func fn first cap) w := fun _ _ _ _ => rfl
  go_enter Try.func52, Try.ntmps52
  go_wp2_with fail
  clear hw2
  refine (looked_any w2).mono ?_
  rintro e w3 ⟨rfl, b3⟩
  have hb3 := H2.out.2.1.trans (b3.mono H2.out.2.1.size)
  have hz3 : w.heap.size + 1 ≤ w3.heap.size := by have := b3.size; rwa [H2.out.2.2] at this
  have x3 := (b3.block w.heap.size (by rw [H2.out.2.2]; omega)).trans H2.out.1
  have hL3 : Lies w3 (w.heap.size + 1) t w.heap.size 0 := lies_held.2 ⟨by omega, Seven.of x3, (HH.out.1 w3 hb3).upP (by omega)⟩
  have H3 := Lib.hid (And.intro x3 (And.intro hb3 hL3))
  clear b3 hb3 x3 hL3
  go_wp2_with fail
  refine (measure_any (w.heap.size + 1) w.heap.size 0 100000 10000 t w3 hz3 H3.out.2.2 h1 h2 (by omega)).mono ?_
  rintro e w4 ⟨rfl, b4⟩
  have hz4 : w.heap.size + 1 ≤ w4.heap.size := Nat.le_trans hz3 b4.size
  have x4 := (b4.block w.heap.size (by omega)).trans H3.out.1
  have hb4 := H3.out.2.1.trans (b4.mono (by omega))
  obtain ⟨W4, hW4⟩ : ∃ W4, w4.alloc (.cells #[.int .i64 (t.size : Nat), .int .i64 (t.depth : Nat)] 72) = W4 := ⟨_, rfl⟩
  have c4 : Below w4.heap.size w4 W4 := by rw [← hW4]; exact (Below.refl _ _).alloc (Nat.le_refl _) _
  have y4 := (c4.block w.heap.size (by omega)).trans x4
  have z4 : W4.heap[w4.heap.size]? = some (.cells #[.int .i64 (t.size : Nat), .int .i64 (t.depth : Nat)] 72) := by rw [← hW4]; exact World.alloc_heap_new _ _
  have hbW4 := hb4.trans (c4.mono hb4.size)
  have e0 := Lib.cell_of_heap z4 0
  have hds := fun j => Lib.cell_of_heap y4 j
  have r0 := hds 0; have r1 := hds 1; have r2 := hds 2; have r3 := hds 3; have r4 := hds 4; have r5 := hds 5; have r6 := hds 6
  simp only [List.getElem?_toArray, List.getElem?_cons_zero, List.getElem?_cons_succ] at r0 r1 r2 r3 r4 r5 r6 e0
  have htw := twin_any M t (by omega) HH.out.2 W4 (Nat.le_trans hM hbW4.size) (HH.out.1 W4 hbW4)
  have H4 := Lib.hid (And.intro hbW4 htw)
  clear b4 x4 hb4 c4 y4 z4 hbW4 htw hds
  go_wp2_with fail
  clear hW4 r0 r1 r2 r3 r4 r5 r6 e0
  refine H4.out.2.mono ?_
  rintro e w5 ⟨u, rfl, hu, hus, b5⟩
  have hbw5 : Below w.heap.size w w5 := H4.out.1.trans (b5.mono H4.out.1.size)
  have c5 : Below w5.heap.size w5 (w5.alloc (Obj.cells #[.int .i64 u.k, .bool u.g, .slice u.la u.ln u.lc, .bool u.bb, .string u.s, .slice u.ia u.items.length u.ic, .slice u.ta u.tail.length u.tc] 27)) := (Below.refl _ _).alloc (Nat.le_refl _) _
  have HF := Lib.hid (And.intro (World.alloc_heap_new w5 (Obj.cells #[.int .i64 u.k, .bool u.g, .slice u.la u.ln u.lc, .bool u.bb, .string u.s, .slice u.ia u.items.length u.ic, .slice u.ta u.tail.length u.tc] 27)) (And.intro (((hu.held fun k hk => hk.lt).below (Nat.le_refl _) c5).upP c5.size) (And.intro hus (hbw5.trans (c5.mono hbw5.size)))))
  clear hu hus b5 hbw5 c5
  go_wp2_with fail
  go_ret
  exact ⟨w5.heap.size, u, rfl, HF.out⟩
end
end Go.Proofs.Ytgboiopkihemaaa
