/-
  A range over a function whose iterator keeps a state of its own in memory: what the iterator promises its caller, and what the caller owes. datum.told: its iterator tells a datum and all that is in it, in the order of the tree. A region that draws its order, within a round of a range over a function.
-/
import Derived.RangeFuncNested
import Derived.RangeFuncBound
import Derived.RangeFuncCalls
import Derived.RangeFuncLeaves
import Derived.Test.YthdhdmmlmbkalaaGreatDoorJr1
import Derived.WalkKit
import Derived.OwnWalkIn
import Derived.TacticsInMore
import Derived.LoopNIn
import Derived.LoopIn
import Derived.Laws.OwnMore
import Derived.Deep.LoopGhost
import Derived.Shelf.RegionOpen
import Derived.TacticsIn
import Derived.OrdersIn
import Derived.StillTailTactics
set_option linter.unusedVariables false
set_option linter.unusedSimpArgs false
set_option linter.unusedSectionVars false
set_option linter.unnecessarySimpa false
namespace Go.Proofs.YthdhdmmlmbkalaaGreatDoor
section
open Go.RowKit

/-- All blocks of w but those of X lie in w' as they lay. -/
def But (X : Nat → Prop) (w w' : World) : Prop := w.heap.size ≤ w'.heap.size ∧ ∀ k, k < w.heap.size → ¬ X k → w'.heap[k]? = w.heap[k]?
theorem But.refl (X : Nat → Prop) (w : World) : But X w w := ⟨Nat.le_refl _, fun _ _ _ => rfl⟩
theorem But.trans {X : Nat → Prop} {a b c : World} (h : But X a b) (k : But X b c) : But X a c :=
  ⟨Nat.le_trans h.1 k.1, fun i hi hx => (k.2 i (Nat.lt_of_lt_of_le hi h.1) hx).trans (h.2 i hi hx)⟩
theorem But.mono {X Y : Nat → Prop} {a b : World} (h : But X a b) (hxy : ∀ k, X k → Y k) : But Y a b := ⟨h.1, fun k hk hy => h.2 k hk fun hx => hy (hxy k hx)⟩
theorem But.putObj (X : Nat → Prop) (w : World) (l : Nat) (o : Obj) (hl : X l) : But X w (w.putObj l o) :=
  ⟨by simp, fun k _ hk => World.putObj_heap_other (fun e => hk (e ▸ hl))⟩
theorem But.setCell (X : Nat → Prop) (w : World) (a : Addr) (v : Value) (hl : X a.block) : But X w (w.setCell a v) :=
  ⟨(KeepsWalks.setCell w a v).size, fun k _ hk => Below.heap_setCell w a v k (fun e => hk (e ▸ hl))⟩
theorem But.drew {X : Nat → Prop} {a b : World} (h : But X a b) : But X a b.drew := h
theorem But.alloc {X : Nat → Prop} {a b : World} (h : But X a b) (o : Obj) : But X a (b.alloc o) :=
  h.trans ⟨by simp, fun k hk _ => Below.heap_alloc b o k hk⟩
theorem But.below {X : Nat → Prop} {B : Nat} {a b c : World} (h : But X a b) (k : Below B b c) (hB : a.heap.size ≤ B) : But X a c :=
  ⟨Nat.le_trans h.1 k.size, fun i hi hx => (k.block i (by omega)).trans (h.2 i hi hx)⟩

/-- WHAT AN ITERATOR PROMISES: called with yield it tells enc 0, .., enc (N - 1), as long as yield says so; the caller's J abides whatever happens to blocks from the loop's begin on; a round may write X alone. -/
def Runs (F : Fence) (n : Nat) (P : Program) (g : Nat) (lb : Array Value) (encs : Nat → Array Value) (N : Nat) (X : Nat → Prop) (w : World) : Prop :=
  ∀ (l : Nat) (J Jx : Nat → World → Prop) (W : World), Below w.heap.size w W → (∀ r, X r → r < W.heap.size) → (∀ k A B, Below W.heap.size A B → J k A → J k B) → (∀ k A B, Below W.heap.size A B → Jx k A → Jx k B) →
    (∀ k W1, k < N → J k W1 → YieldAt F (n - 1) P l (encs k) W1 fun e W' =>
      (e = .returned (.bool true) ∧ J (k + 1) W' ∧ But X W1 W') ∨ (e = .returned (.bool false) ∧ Jx k W')) →
    J 0 W →
    CallsIn F n P g (#[.func (.yield l) #[] #[]] ++ lb) W fun e W' => (∃ v, e = .returned v) ∧ (J N W' ∨ ∃ k, k < N ∧ Jx k W')

/-- How the body of a round may be left. -/
def runPost (X : Nat → Prop) (I : Nat → World → Prop) (Ix : Code → Nat → World → Prop) (k : Nat) (W : World) : Exit → Act → World → Prop
  | .normal, _, W' => But X W W' ∧ I (k + 1) W'
  | .ret, _, W' => But X W W' ∧ Ix .ret k W'
  | .exit id, _, W' => But X W W' ∧ Ix (.exit id) k W'
  | .goto t, _, W' => But X W W' ∧ Ix (.goto t) k W'
  | .panic _, _, _ => False
  | .outgrown, _, _ => False

variable {F : Fence} {n : Nat} {P : Program}

/-- What the caller owes. -/
theorem wpIn_runs {g : Operand} {ps : Array Tmp} {assign body : Code} {Q : Exit → Act → World → Prop} {a : Act} {w : World}
    (hro : F.round = none) (h1 : 1 ≤ n) {gf : Nat} {lb : Array Value} (hg : a.eval g = .func (.func gf) #[] lb) (hFg : F.fn gf) (eg : ∀ args w, (callFunc gf args).run P w = .ok (.enter gf args) w)
    {encs : Nat → Array Value} {N : Nat} {X : Nat → Prop} {w0 : World} (hseq : Runs F (n - 1) P gf lb encs N (fun r => X r ∨ r = w.heap.size + 1) w0)
    (hX : ∀ r, X r → r < w.heap.size) (hb0 : Below w0.heap.size w0 w) (hps : ∀ k, (encs k).size = ps.size)
    (I : Nat → World → Prop) (Ix : Code → Nat → World → Prop) (hI : ∀ k A B, Below w.heap.size A B → I k A → I k B) (hIx : ∀ c k A B, Below w.heap.size A B → Ix c k A → Ix c k B) (h0 : I 0 w) (a₁ : Nat → Act)
    (hassign : ∀ (l k : Nat) (W : World) (K : Act → World → Prop), k < N → K (a₁ k) W →
      assign.wpIn (F.inRound l) (n - 1 - 1) P (Exit.then K (fun _ _ _ => False)) { tmps := (ps.zip (encs k)).foldl (fun t (p, v) => t.setIfInBounds p v) a.tmps, defers := [] } W)
    (hbody : ∀ (l k : Nat) (W : World), k < N → I k W → body.wpIn (F.inRound l) (n - 1 - 1) P (runPost X I Ix k W) (a₁ k) W)
    (hdone : ∀ (D : Nat) (W : World), w.heap.size ≤ D → I N W → W.heap[D]? = some (.deferred (some [])) → Q .normal { a with defers := { target := .collected D, args := #[] } :: a.defers } W)
    (hstop : ∀ (D : Nat) (c : Code) (k : Nat) (W : World), w.heap.size ≤ D → k < N → Ix c k W → W.heap[D]? = some (.deferred (some [])) → c.wpIn F n P Q { a with defers := { target := .collected D, args := #[] } :: a.defers } W) :
    (Code.rangeFunc g ps assign body).wpIn F n P Q a w := by
  refine wpIn_rangeFunc ?_
  intro fn hfn
  rw [hro]
  obtain ⟨rec, hrec⟩ : ∃ rec : LoopState → Option Code → Loop, rec = fun st pe => { state := st, pending := pe, fn, tmps := a.tmps, params := ps, assign, body, defers := w.heap.size } := ⟨_, rfl⟩
  obtain ⟨W1, hW1⟩ : ∃ W1, (w.alloc (.deferred (some []))).alloc (.loop (rec .ready none)) = W1 := ⟨_, rfl⟩
  have hsz : W1.heap.size = w.heap.size + 2 := by rw [← hW1]; simp
  have hL1 : W1.heap[w.heap.size + 1]? = some (.loop (rec .ready none)) := by
    rw [← hW1]; have := World.alloc_heap_new (w.alloc (.deferred (some []))) (.loop (rec .ready none)); rwa [World.size_alloc] at this
  have hK1 : W1.heap[w.heap.size]? = some (.deferred (some [])) := by
    rw [← hW1]; exact (Below.heap_alloc _ _ _ (by simp)).trans (World.alloc_heap_new w _)
  have hbw : Below w.heap.size w W1 := by rw [← hW1]; exact ((Below.refl _ w).alloc (Nat.le_refl _) _).alloc (by simp) _
  have hput : ∀ (W : World) (o : Obj), Below w.heap.size W (W.putObj (w.heap.size + 1) o) := fun W o =>
    ⟨rfl, rfl, rfl, by simp, fun k hk => World.putObj_heap_other (by omega)⟩
  refine ⟨w.heap.size + 1, [{ target := .collected w.heap.size, args := #[] }], W1, { target := .fn (.func gf) lb, args := #[.func (.yield (w.heap.size + 1)) #[] #[]] }, W1, gf,
    #[.func (.yield (w.heap.size + 1)) #[] #[]] ++ lb, W1, ?_, ?_, ?_, ?_, fun _ => h1, ?_⟩
  · rw [← hW1, hrec]; exact run_enterLoop_outer _ _ _ _ _
  · simp only [resolve, hg]
    simp [go_sem]
  · intro f' hf'; simp [Target.leads] at hf'; subst hf'; exact hFg
  · simp [invoke, go_sem, eg]
  · refine (hseq (w.heap.size + 1)
      (fun k W => I k W ∧ W.heap[w.heap.size + 1]? = some (.loop (rec .ready none)) ∧ W.heap[w.heap.size]? = some (.deferred (some [])))
      (fun k W => ∃ c, Ix c k W ∧ W.heap[w.heap.size + 1]? = some (.loop (rec .done (some c))) ∧ W.heap[w.heap.size]? = some (.deferred (some [])))
      W1 (hb0.trans (hbw.mono hb0.size)) (fun r hr => by rcases hr with hr | rfl <;> first | (have := hX _ hr; omega) | omega)
      (fun k A B hAB ⟨hi, hl, hk⟩ => ⟨hI k A B (hAB.mono (by omega)) hi, (hAB.block _ (by omega)).trans hl, (hAB.block _ (by omega)).trans hk⟩)
      (fun k A B hAB ⟨c, hi, hl, hk⟩ => ⟨c, hIx c k A B (hAB.mono (by omega)) hi, (hAB.block _ (by omega)).trans hl, (hAB.block _ (by omega)).trans hk⟩)
      ?_ ⟨hI 0 _ _ hbw h0, hL1, hK1⟩).mono ?_
    · rintro k W hkN ⟨hi, hl, hk⟩
      have hlt : w.heap.size + 1 < W.heap.size := (Array.getElem?_eq_some_iff.1 hl).1
      have hy := run_yield (P := P) (args := encs k) hl (by rw [hrec]; exact hps k)
      rw [hrec] at hy
      refine ⟨fn, _, assign, body, hy, roundIn_of_wpIn hfn (hassign _ k W _ hkN ⟨_, run_beginRound hl (by rw [hrec]), ?_⟩)⟩
      generalize hbusy : Obj.loop { rec .ready none with state := .busy } = ob
      have hl2 : (W.putObj (w.heap.size + 1) ob).heap[w.heap.size + 1]? = some ob := World.putObj_heap_same hlt
      have hk2 : (W.putObj (w.heap.size + 1) ob).heap[w.heap.size]? = some (.deferred (some [])) := (World.putObj_heap_other (by omega)).trans hk
      have hsz2 : (W.putObj (w.heap.size + 1) ob).heap.size = W.heap.size := by simp
      refine wpIn_mono (hbody _ k _ hkN (hI k _ _ (hput W ob) hi)) ?_
      have fin : ∀ (jump : Option Code) (W3 : World), But X (W.putObj (w.heap.size + 1) ob) W3 →
          (Instr.endRound (w.heap.size + 1) jump).run P W3 = .ok (.bool jump.isNone) (W3.putObj (w.heap.size + 1) (.loop (rec (if jump.isNone then .ready else .done) jump))) ∧
          (W3.putObj (w.heap.size + 1) (.loop (rec (if jump.isNone then .ready else .done) jump))).heap[w.heap.size + 1]? = some (.loop (rec (if jump.isNone then .ready else .done) jump)) ∧
          (W3.putObj (w.heap.size + 1) (.loop (rec (if jump.isNone then .ready else .done) jump))).heap[w.heap.size]? = some (.deferred (some [])) ∧
          But (fun r => X r ∨ r = w.heap.size + 1) W (W3.putObj (w.heap.size + 1) (.loop (rec (if jump.isNone then .ready else .done) jump))) := fun jump W3 hk3 => by
        have hl3 : W3.heap[w.heap.size + 1]? = some ob := (hk3.2 _ (by omega) (fun h => by have := hX _ h; omega)).trans hl2
        have hd3 : W3.heap[w.heap.size]? = some (.deferred (some [])) := (hk3.2 _ (by omega) (fun h => by have := hX _ h; omega)).trans hk2
        rw [← hbusy] at hl3
        have := run_endRound (P := P) jump hl3
        rw [hrec] at this ⊢
        refine ⟨this, World.putObj_heap_same (Array.getElem?_eq_some_iff.1 hl3).1, (World.putObj_heap_other (by omega)).trans hd3, ?_⟩
        exact ((But.putObj _ W _ _ (.inr rfl)).trans (hk3.mono fun _ => .inl)).trans (But.putObj _ _ _ _ (.inr rfl))
      rintro e a3 W3 hp
      cases e with
      | normal =>
        obtain ⟨hk3, hi3⟩ := hp
        obtain ⟨hr, hl4, hk4, hb4⟩ := fin none W3 hk3
        exact ⟨_, _, hr, .inl ⟨rfl, ⟨hI _ _ _ (hput _ _) hi3, hl4, hk4⟩, hb4⟩⟩
      | ret =>
        obtain ⟨hk3, hi3⟩ := hp
        obtain ⟨hr, hl4, hk4, hb4⟩ := fin (some .ret) W3 hk3
        exact ⟨_, _, hr, .inr ⟨rfl, .ret, hIx _ _ _ _ (hput _ _) hi3, hl4, hk4⟩⟩
      | exit id =>
        obtain ⟨hk3, hi3⟩ := hp
        obtain ⟨hr, hl4, hk4, hb4⟩ := fin (some (.exit id)) W3 hk3
        exact ⟨_, _, hr, .inr ⟨rfl, .exit id, hIx _ _ _ _ (hput _ _) hi3, hl4, hk4⟩⟩
      | goto t =>
        obtain ⟨hk3, hi3⟩ := hp
        obtain ⟨hr, hl4, hk4, hb4⟩ := fin (some (.goto t)) W3 hk3
        exact ⟨_, _, hr, .inr ⟨rfl, .goto t, hIx _ _ _ _ (hput _ _) hi3, hl4, hk4⟩⟩
      | panic ch => exact hp.elim
      | outgrown => exact hp.elim
    · rintro e W2 ⟨⟨v, rfl⟩, (⟨hi, hl, hk⟩ | ⟨k, hkN, c, hi, hl, hk⟩)⟩
      · exact ⟨none, _, by have := run_endLoop (P := P) hl (by rw [hrec]; simp); rw [hrec] at this; exact this, hdone _ _ (Nat.le_refl _) (hI _ _ _ (hput _ _) hi) ((World.putObj_heap_other (by omega)).trans hk)⟩
      · exact ⟨some c, _, by have := run_endLoop (P := P) hl (by rw [hrec]; simp); rw [hrec] at this; exact this, hstop _ c k _ (Nat.le_refl _) hkN (hIx _ _ _ _ (hput _ _) hi) ((World.putObj_heap_other (by omega)).trans hk)⟩
end
end Go.Proofs.YthdhdmmlmbkalaaGreatDoor
namespace Go.Proofs.YthdhdmmlmbkalaaGreatDoor
section
open Go.RowKit
attribute [local go_sem] Oper.semAt_some

/-- The k-th that is told. -/
def nd (full : List Node) (k : Nat) : Node := (full[k]?).getD ⟨0, 0, 0, .mk 0 false none 0 0 [] false ⟨#[]⟩ none 0 [] none 0 []⟩
def toldAt (full : List Node) (k : Nat) : Array Value := #[.int .i64 ((nd full k).lev : Nat), .pointer (some ⟨(nd full k).b, (nd full k).o, none⟩)]
theorem nd_eq {full : List Node} {k : Nat} {x : Node} (h : full[k]? = some x) : nd full k = x := by simp only [nd, h, Option.getD_some]
theorem toldAt_eq {full : List Node} {k : Nat} {x : Node} (h : full[k]? = some x) : toldAt full k = #[.int .i64 (x.lev : Nat), .pointer (some ⟨x.b, x.o, none⟩)] := by simp only [toldAt, nd_eq h]

/-- The stack's top is taken: the rest of it. -/
def popped (e : Ent) (r : List LT) (st : List Ent) : List Ent := if r.length = 0 then st else ⟨e.b, e.o + 7, e.c - 1, r, e.lev⟩ :: st
theorem flat_popped {e : Ent} {t : LT} {r : List LT} (he : e.l = t :: r) (st : List Ent) : flat (e :: st) = ⟨e.lev, e.b, e.o, t⟩ :: flat (pushed t (e.lev + 1) (popped e r st)) := by
  rw [← flat_pushed]
  by_cases h : r.length = 0
  · rw [popped, if_pos h]
    simp only [flat, he, List.length_eq_zero_iff.1 h, seqR_cons, seqR_nil, List.append_nil]
  · rw [popped, if_neg h]
    simp only [flat, he, seqR_cons, List.append_assoc]
theorem good_popped {w : World} {M N : Nat} {e : Ent} {t : LT} {r : List LT} {st : List Ent} (he : e.l = t :: r) (hst : ∀ x ∈ e :: st, x.good w M N) : ∀ x ∈ popped e r st, x.good w M N := by
  have h := hst e (List.mem_cons_self ..)
  have hs : ∀ x ∈ st, x.good w M N := fun x hx => hst x (List.mem_cons_of_mem _ hx)
  by_cases h0 : r.length = 0
  · rw [popped, if_pos h0]; exact hs
  · rw [popped, if_neg h0]
    intro x hx
    rcases List.mem_cons.1 hx with rfl | hx
    · obtain ⟨_, h2, h3, h4, h5, h6⟩ := h
      rw [he] at h2 h4 h6
      simp only [List.length_cons] at h2
      simp only [sizes] at h6
      refine ⟨by show 0 < r.length; omega, by show r.length ≤ e.c - 1; omega, by show e.c - 1 ≤ maxLen; omega, (liesR_cons ▸ h4 : _ ∧ _).2, h5, by show e.lev + sizes r ≤ N; omega⟩
    · exact hs x hx

/-- What the loop's head knows, with m data still to be told. -/
def ToldRel (M N base : Nat) (full : List Node) (J : Nat → World → Prop) (v : Value) (w : World) (m : Nat) : Prop :=
  ∃ (k : Nat) (st : List Ent), m + k = full.length ∧ full.drop k = flat st ∧ (∀ e ∈ st, e.good w M N) ∧ w.ownsRow base 128 2 v st.length (stCells st) ∧ base ≤ w.heap.size ∧ J k w

/-- The row's last element is cut off. -/
theorem ownRow_less {w : World} {base g n cap : Nat} {xs ys : List Value} (h : w.ownsRow base 128 2 (.slice (some ⟨g, 0, none⟩) (n + 1) cap) (n + 1) (xs ++ ys)) (hx : xs.length = n * 2) :
    w.ownsRow base 128 2 (.slice (some ⟨g, 0, none⟩) n cap) n xs := by
  obtain ⟨hl, hr⟩ := h
  refine ⟨hx, ?_⟩
  rcases hr with ⟨hv, _⟩ | ⟨g', cap', cur, hv, hb, hg, hn, hm, hs, ht⟩
  · cases hv
  · cases hv
    refine .inr ⟨g, cap, cur, rfl, hb, hg, by omega, hm, hs, ?_⟩
    have : cur.toList.take (n * 2) = (cur.toList.take ((n + 1) * 2)).take (n * 2) := by rw [List.take_take, Nat.min_eq_left (by omega)]
    rw [this, ht, ← hx, List.take_left]
theorem held_at (z : Int) (v : Value) (st : List Ent) (t : LT) (b o lev M base : Nat) (w : World) (hz : z = (lev : Nat)) (hown : w.ownsRow base 128 2 v st.length (stCells st)) (ht : Lies w M t b o) (hM : M ≤ base) (hb : base ≤ w.heap.size)
    (hlen : st.length ≤ 1000000000) :
    Calls Tryz.prog 89 #[v, .pointer (some ⟨b, o, none⟩), .int .i64 z] w (HeldPost base (pushed t lev st) w) := by
  subst hz; exact held_any v st t b o lev M base w hown ht hM hb hlen
theorem popped_own {w : World} {base g cap eb eo ec ev p : Nat} {t : LT} {r : List LT} {st : List Ent} (hp : st.length = p) (hr : 0 < r.length)
    (h : w.ownsRow base 128 2 (.slice (some ⟨g, 0, none⟩) (p + 1) cap) (p + 1) (stCells (⟨eb, eo, ec, t :: r, ev⟩ :: st))) :
    (w.setCell ⟨g, p * 2, none⟩ (.slice (some ⟨eb, eo + 7, none⟩) r.length (ec - 1))).drew.ownsRow base 128 2 (.slice (some ⟨g, 0, none⟩) (p + 1) cap) (popped ⟨eb, eo, ec, t :: r, ev⟩ r st).length (stCells (popped ⟨eb, eo, ec, t :: r, ev⟩ r st)) := by
  have h1 := (h.stored (p * 2) (.slice (some ⟨eb, eo + 7, none⟩) r.length (ec - 1))).1.drew
  rw [popped, if_neg (by omega), List.length_cons, hp]
  have h2 := stCells_length st
  rw [hp] at h2
  have e : (stCells (⟨eb, eo, ec, t :: r, ev⟩ :: st)).set (p * 2) (.slice (some ⟨eb, eo + 7, none⟩) r.length (ec - 1)) = stCells (⟨eb, eo + 7, ec - 1, r, ev⟩ :: st) := by
    simp only [stCells, Ent.cells]
    rw [List.set_append, if_neg (by omega), h2, Nat.sub_self]
    rfl
  rw [e] at h1
  exact h1
theorem popped_own0 {w : World} {base g cap eb eo ec ev p : Nat} {t : LT} {r : List LT} {st : List Ent} (V : Value) (hp : st.length = p) (hr : r.length = 0)
    (h : w.ownsRow base 128 2 (.slice (some ⟨g, 0, none⟩) (p + 1) cap) (p + 1) (stCells (⟨eb, eo, ec, t :: r, ev⟩ :: st))) :
    (w.setCell ⟨g, p * 2, none⟩ V).drew.ownsRow base 128 2 (.slice (some ⟨g, 0, none⟩) p cap) (popped ⟨eb, eo, ec, t :: r, ev⟩ r st).length (stCells (popped ⟨eb, eo, ec, t :: r, ev⟩ r st)) := by
  have h1 := (h.stored (p * 2) V).1.drew
  rw [popped, if_pos hr, hp]
  have h2 := stCells_length st
  rw [hp] at h2
  have e : (stCells (⟨eb, eo, ec, t :: r, ev⟩ :: st)).set (p * 2) V = stCells st ++ [V, .int .i64 (ev : Nat)] := by
    simp only [stCells, Ent.cells]
    rw [List.set_append, if_neg (by omega), h2, Nat.sub_self]
    rfl
  rw [e] at h1
  exact ownRow_less h1 h2

/-- One round: what it needs ahead of the call of yield, and what it leaves. -/
structure Round (M N base : Nat) (full : List Node) (J : Nat → World → Prop) (k m0 eb eo ev : Nat) (t : LT) (st : List Ent) (w w' : World) : Prop where
  at_ : full[k]? = some ⟨ev, eb, eo, t⟩
  lt : k < full.length
  m : m0 + k = full.length
  drop : full.drop (k + 1) = flat (pushed t (ev + 1) st)
  j : J k w'
  here : Lies w' M t eb eo
  good : ∀ e ∈ st, e.good w' M N
  lev : ev + t.size ≤ N
  below : Below base w w'
  len : st.length ≤ 1000000000

theorem round_of {M N base : Nat} {full : List Node} {J : Nat → World → Prop} {k m0 eb eo ec ev g off : Nat} {t : LT} {r : List LT} {st : List Ent} {w : World} (V : Value) (hJ : ∀ k A B, Fine base A B → J k A → J k B)
    (hMb : M ≤ base) (hN : full.length + 1 ≤ N) (hN9 : N ≤ 1000000000) (hg : base ≤ g) (hrow : ∃ c, w.heap[g]? = some (.cells c 128 (0, 0)))
    (hdrop : full.drop k = flat (⟨eb, eo, ec, t :: r, ev⟩ :: st)) (hgood : ∀ e ∈ (⟨eb, eo, ec, t :: r, ev⟩ :: st : List Ent), e.good w M N) (hmk : m0 + k = full.length) (hj : J k w) :
    Round M N base full J k m0 eb eo ev t (popped ⟨eb, eo, ec, t :: r, ev⟩ r st) w (w.setCell ⟨g, off, none⟩ V).drew := by
  have hb : Below base w (w.setCell ⟨g, off, none⟩ V).drew := ((Below.refl base w).setCell (p := ⟨g, off, none⟩) hg V).drew
  have hfl := hdrop
  rw [flat_popped rfl st] at hfl
  have hlt : k < full.length := by
    rcases Nat.lt_or_ge k full.length with h | h
    · exact h
    · rw [List.drop_eq_nil_of_le h] at hfl; simp at hfl
  have hat : full[k]? = some ⟨ev, eb, eo, t⟩ := by
    have h1 : (full.drop k)[0]? = full[k]? := by rw [List.getElem?_drop]; simp
    rw [← h1, hfl]; rfl
  have he := hgood _ (List.mem_cons_self ..)
  obtain ⟨_, _, _, h4, _, h6⟩ := he
  simp only [sizes] at h6
  have hgp := good_popped (e := ⟨eb, eo, ec, t :: r, ev⟩) rfl hgood
  have hd1 : full.drop (k + 1) = flat (pushed t (ev + 1) (popped ⟨eb, eo, ec, t :: r, ev⟩ r st)) := by
    have h1 : full.drop (k + 1) = (full.drop k).drop 1 := by rw [List.drop_drop]
    rw [h1, hfl]; rfl
  refine ⟨hat, hlt, hmk, hd1, hJ k _ _ (by obtain ⟨c, hc⟩ := hrow; exact Fine.at_ hb hc (.inl ⟨c, _, rfl⟩) fun i hi hne => Below.heap_setCell _ _ _ _ hne) hj, (liesR_cons ▸ h4 : Lies w M t eb eo ∧ _).1.keep hb.size (fun i hi => hb.block i (by omega)) _ _ _, fun e he => (hgp e he).keep hb.size (fun i hi => hb.block i (by omega)), by omega, hb, ?_⟩
  have h1 := flat_length_ge hgp
  have h2 : (flat (popped ⟨eb, eo, ec, t :: r, ev⟩ r st)).length ≤ (full.drop k).length := by
    rw [hdrop]
    by_cases h0 : r.length = 0
    · rw [popped, if_pos h0]; simp only [flat, List.length_append]; omega
    · rw [popped, if_neg h0]; simp only [flat, List.length_append, seqR_cons]; omega
  rw [List.length_drop] at h2
  omega
theorem Round.next {M N base Bs : Nat} {full : List Node} {J : Nat → World → Prop} {k m0 eb eo ev : Nat} {t : LT} {st : List Ent} {w w' w5 w6 : World} {X : Nat → Prop} {v : Value} (h : Round M N base full J k m0 eb eo ev t st w w') (hJ : ∀ k A B, Fine base A B → J k A → J k B)
    (hMb : M ≤ base) (hBs : M ≤ Bs) (hX : ∀ r, X r → M ≤ r) (hb : base ≤ w6.heap.size) (h5 : ButU Bs X w' w5) (hw' : M ≤ w'.heap.size) (hj : J (k + 1) w5) (h6 : Fine base w5 w6) (own : w6.ownsRow base 128 2 v (pushed t (ev + 1) st).length (stCells (pushed t (ev + 1) st))) :
    ToldRel M N base full J v w6 (m0 - 1) := by
  have hk : ∀ i, i < M → w6.heap[i]? = w'.heap[i]? := fun i hi => (h6.block i (by omega)).trans (h5.low (by omega) (by omega) (fun hx => by have := hX _ hx; omega))
  have hs : w'.heap.size ≤ w6.heap.size := Nat.le_trans h5.1 h6.size
  exact ⟨k + 1, pushed t (ev + 1) st, by have := h.m; have := h.lt; omega, h.drop, good_pushed (h.here.keep hs hk _ _ _) h.lev (fun e he => (h.good e he).keep hs hk), own, hb, hJ _ _ _ h6 hj⟩

theorem told_less {M N base : Nat} {full : List Node} {J : Nat → World → Prop} {v v' : Value} {w w' : World} {m0 : Nat} (h : leastOf (fun m => ToldRel M N base full J v w m) = m0) (hm : 0 < m0) (hr : ToldRel M N base full J v' w' (m0 - 1)) :
    leastOf (fun m => ToldRel M N base full J v' w' m) < leastOf (fun m => ToldRel M N base full J v w m) := by
  have := (leastOf_spec (p := fun m => ToldRel M N base full J v' w' m) ⟨_, hr⟩).2 _ hr
  omega

set_option maxRecDepth 100000 in
set_option maxHeartbeats 3200000 in
theorem told1_in (n l bd M N b o Bs : Nat) (root : LT) (X : Nat → Prop) (J Jx : Nat → World → Prop) (W : World) (hBs : M ≤ Bs) (hbt : bd < Bs ∨ ∃ c fr, W.heap[bd]? = some (.cells c 107 fr)) (hX : ∀ r, X r → M ≤ r ∧ r ≠ bd ∧ r < W.heap.size)
    (hJ : ∀ k A B, Fine W.heap.size A B → J k A → J k B) (full : List Node) (hfull : full = seqT root 1 b o)
    (hY : ∀ k W1, k < full.length → J k W1 → YieldAt Fence.wide (n - 1) Tryz.prog l (toldAt full k) W1 fun e W' =>
      (e = .returned (.bool true) ∧ J (k + 1) W' ∧ ButU Bs X W1 W') ∨ (e = .returned (.bool false) ∧ Jx k W'))
    (hbd : W.cell? ⟨bd, 0, none⟩ = some (.pointer (some ⟨b, o, none⟩))) (hMW : M ≤ W.heap.size) (hL : Lies W M root b o) (hN : root.size + 1 ≤ N) (hN9 : N ≤ 1000000000) (h0 : J 0 W) :
    CallsIn Fence.wide n Tryz.prog 88 #[.func (.yield l) #[] #[], .pointer (some ⟨bd, 0, none⟩)] W fun e W' => (∃ v, e = .returned v) ∧ (J full.length W' ∨ ∃ k, k < full.length ∧ Jx k W') := by
  have hbW : bd < W.heap.size := World.block_lt_of_cell? W _ hbd
  have hlen : full.length = root.size := by rw [hfull, seqT_length]
  have hsz := root.size_eq
  have hat0 : full[0]? = some ⟨1, b, o, root⟩ := by rw [hfull, seqT_eq]; rfl
  have hdrop1 : full.drop 1 = flat (pushed root 2 []) := by
    have := flat_pushed root 1 b o []
    simp only [flat, List.append_nil] at this
    rw [hfull, this]; rfl
  obtain ⟨fn, tmps, assign, body, hy, hR⟩ := hY 0 W (by omega) h0
  rw [toldAt_eq hat0] at hy
  have hy' : (Instr.yield l #[Value.int .i64 1, .pointer (some ⟨b, o, none⟩)]).run Tryz.prog W = _ := hy
  clear hy
  have HL := Lib.hid (And.intro hlen (And.intro hfull hat0))
  have HD := Lib.hid hdrop1
  clear hlen hfull hdrop1 hat0
  refine callsIn_of_wp Tryz.func88 rfl trivial ?_ rfl
  simp only [Tryz.ntmps88, List.size_toArray, List.length_cons, List.length_nil, Nat.reduceAdd, Nat.reduceSub, Array.replicate_succ, Array.replicate_zero, List.push_toArray, List.append_toArray, List.nil_append, List.cons_append]
  gi_wp2
  refine ⟨fun h => absurd h (by decide), hR.mono ?_⟩
  rintro e W3 (⟨rfl, hJ3, hk3⟩ | ⟨rfl, hJx3⟩)
  · have hbd3 : W3.cell? ⟨bd, 0, none⟩ = some (.pointer (some ⟨b, o, none⟩)) := (World.cell?_of_block (hk3.still hbW (fun h => (hX _ h).2.1 rfl) hbt)).trans hbd
    have hL3 : Lies W3 M root b o := Lies.keep hk3.1 (fun k hk => hk3.low (by omega) (by omega) (fun h => by have := (hX _ h).1; omega)) _ _ _ hL
    have H3 := Lib.hid hL3
    have hs3 := hk3.1
    gi_wp2_with (refine ⟨trivial, fun h => absurd h (by decide), ?_⟩; gi_at_call 89; refine (callsIn_wide.2 (held_any (.slice none 0 0) [] root b o 2 M W.heap.size W3 (World.ownsRow_nil _ _ _ _) H3.out hMW hs3 (by simp))).mono ?_; rintro e W4 ⟨v4, rfl, own4, b4⟩)
    have hJ4 : J 1 W4 := hJ 1 W3 W4 b4 hJ3
    have hg4 : ∀ e ∈ pushed root 2 [], e.good W4 M N := good_pushed (v := 1) (hL3.keep (Nat.le_trans (Nat.le_refl _) b4.size) (fun k hk => b4.block k (by omega)) _ _ _) (by omega) (by simp)
    gi_loopw [3] (fun v w => ∃ m, ToldRel M N W.heap.size full J v w m) (fun v w => leastOf (fun m => ToldRel M N W.heap.size full J v w m))
    case atStart => exact ⟨full.length - 1, 1, pushed root 2 [], by rw [HL.out.1]; omega, HD.out, hg4, own4, by have := b4.size; omega, hJ4⟩
    case round =>
      obtain ⟨k, st, hmk, hdrop, hgood, hown, hbase, hJk⟩ := (leastOf_spec hrel).1
      generalize hm0 : leastOf (fun m => ToldRel M N W.heap.size full J u3 wr m) = m0 at hmk
      have HM := Lib.hid hm0
      clear hm0 hrel
      cases st with
      | nil =>
        have hkN : k = full.length := by
          have := congrArg List.length hdrop
          simp only [List.length_drop, flat, List.length_nil] at this
          omega
        have HK := Lib.hid hkN
        clear hkN hdrop hmk
        have hJN := Lib.hid (HK.out ▸ hJk)
        rcases hown.2 with ⟨rfl, _⟩ | ⟨g, cap, cur, rfl, _⟩
        · clear hown hgood hJk
          gi_wp2
          go_end0
          exact ⟨⟨_, rfl⟩, .inl hJN.out⟩
        · clear hown hgood hJk
          gi_wp2
          go_end0
          exact ⟨⟨_, rfl⟩, .inl hJN.out⟩
      | cons e st =>
        have he := hgood e (List.mem_cons_self ..)
        obtain ⟨g, cap, hv⟩ := ownsRow_succ hown
        have hv : u3 = .slice (some ⟨g, 0, none⟩) (st.length + 1) cap := hv
        subst hv
        have hnN : st.length ≤ 1000000000 := by
          have h1 := flat_length_ge hgood
          rw [← hdrop, List.length_drop, HL.out.1] at h1
          simp only [List.length_cons] at h1
          omega
        obtain ⟨eb, eo, ec, el, ev⟩ := e
        obtain ⟨hl1, hl2, hl3, hl4, hl5, hl6⟩ := he
        simp only at hl1 hl2 hl3 hl4 hl5 hl6
        obtain ⟨t, r, rfl⟩ : ∃ t r, el = t :: r := by cases el with | nil => simp at hl1 | cons t r => exact ⟨t, r, rfl⟩
        have hstC := stCells_length st
        have hc0 : wr.cell? ⟨g, st.length * 2, none⟩ = some (.slice (some ⟨eb, eo, none⟩) (r.length + 1) ec) := by
          have := hown.cells (g := g) rfl (st.length * 2) (.slice (some ⟨eb, eo, none⟩) (r.length + 1) ec) (by simp [stCells, Ent.cells, hstC])
          rwa [cell_add, Nat.zero_add] at this
        have hc1 : wr.cell? ⟨g, st.length * 2 + 1, none⟩ = some (.int .i64 (ev : Nat)) := by
          have := hown.cells (g := g) rfl (st.length * 2 + 1) (.int .i64 (ev : Nat)) (by simp [stCells, Ent.cells, hstC])
          rwa [cell_add, Nat.zero_add] at this
        have hfz : wr.frozen? ⟨g, st.length * 2, none⟩ = false := hown.frozenAt _
        have hgb := (hown.lt g rfl)
        have hpc : st.length + 1 ≤ cap := by
          rcases hown.2 with ⟨h, _⟩ | ⟨_, _, _, h, _, _, h2, _⟩
          · cases h
          · cases h; exact h2
        generalize hn : st.length = p at *
        have HN := Lib.hid hn
        have hlf : full.length = root.size := HL.out.1
        have HO := Lib.hid (And.intro hown (And.intro hdrop (And.intro hgood (And.intro hmk hJk))))
        clear hn hown hdrop hgood hstC hmk hJk
        unfold maxLen at hl3
        simp only [List.length_cons] at hl2
        clear hl1 hl4 hl6 hv
        by_cases h0 : r.length = 0
        · by_cases hec : ec = 1
          · subst hec
            have hrd := round_of (g := g) (off := p * 2) (.slice (some ⟨eb, eo, none⟩) 0 0) hJ hMW (by rw [hlf]; exact hN) hN9 hgb.1 (ownRow_row HO.out.1 rfl) HO.out.2.1 HO.out.2.2.1 HO.out.2.2.2.1 HO.out.2.2.2.2
            have hpo := popped_own0 (.slice (some ⟨eb, eo, none⟩) 0 0) HN.out h0 (by have h1 := HO.out.1; rw [List.length_cons, HN.out] at h1; exact h1)
            obtain ⟨fn2, tmps2, assign2, body2, hy2, hR2⟩ := hY k _ hrd.lt hrd.j
            rw [toldAt_eq hrd.at_] at hy2
            have hev : ev ≤ 1000000000 := by have := hrd.lev; omega
            have hsz5 : wr.heap.size ≤ (wr.setCell ⟨g, p * 2, none⟩ (.slice (some ⟨eb, eo, none⟩) 0 0)).drew.heap.size := hrd.below.size
            have HQ := Lib.hid (And.intro h0 (And.intro hrd hpo))
            rw [h0] at hc0 hl2
            clear h0 hrd hpo hlf
            gi_wp2
            gi_region
            gi_wp2
            refine ⟨fun h => absurd h (by decide), hR2.mono ?_⟩
            rintro e W5 (⟨rfl, hJ5, hk5⟩ | ⟨rfl, hJx5⟩)
            · have hs5 : W.heap.size ≤ W5.heap.size := by have := hk5.1; omega
              have own5 := own_butU HQ.out.2.2 hk5 (fun i h1 h2 hx => by have := (hX i hx).2.2; omega)
              have hL5 := HQ.out.2.1.here.keep hk5.1 (fun i hi => hk5.low (by omega) (by omega) (fun h => by have := (hX _ h).1; omega)) _ _ _
              have H5 := Lib.hid (And.intro own5 (And.intro hL5 HQ.out.2.1.len))
              have HX5 := Lib.hid hk5
              clear own5 hL5 hk5 hy2 hR2
              gi_wp2_with (refine ⟨trivial, fun h => absurd h (by decide), ?_⟩; gi_at_call 89; refine (callsIn_wide.2 (held_at _ _ _ t eb eo (ev + 1) M W.heap.size W5 (by omega) H5.out.1 H5.out.2.1 hMW hs5 H5.out.2.2)).mono ?_; rintro e W6 ⟨v6, rfl, own6, b6⟩)
              have hnx := HQ.out.2.1.next hJ hMW hBs (fun r h => (hX r h).1) (by have := b6.size; omega) HX5.out (by omega) hJ5 b6 own6
              have HNX := Lib.hid hnx
              clear hnx
              go_roundw
              case rel => exact ⟨_, HNX.out⟩
              case measure => exact told_less HM.out (by have := HQ.out.2.1.m; have := HQ.out.2.1.lt; omega) HNX.out
            · gi_wp2
              refine bodyPost_ret (results_none rfl _ _ _) rfl ?_
              exact ⟨⟨_, rfl⟩, .inr ⟨k, HQ.out.2.1.lt, hJx5⟩⟩
          · have hec2 : 2 ≤ ec := by omega
            clear hec
            have hrd := round_of (g := g) (off := p * 2) (.slice (some ⟨eb, eo + 7, none⟩) 0 (ec - 1)) hJ hMW (by rw [hlf]; exact hN) hN9 hgb.1 (ownRow_row HO.out.1 rfl) HO.out.2.1 HO.out.2.2.1 HO.out.2.2.2.1 HO.out.2.2.2.2
            have hpo := popped_own0 (.slice (some ⟨eb, eo + 7, none⟩) 0 (ec - 1)) HN.out h0 (by have h1 := HO.out.1; rw [List.length_cons, HN.out] at h1; exact h1)
            obtain ⟨fn2, tmps2, assign2, body2, hy2, hR2⟩ := hY k _ hrd.lt hrd.j
            rw [toldAt_eq hrd.at_] at hy2
            have hev : ev ≤ 1000000000 := by have := hrd.lev; omega
            have hsz5 : wr.heap.size ≤ (wr.setCell ⟨g, p * 2, none⟩ (.slice (some ⟨eb, eo + 7, none⟩) 0 (ec - 1))).drew.heap.size := hrd.below.size
            have HQ := Lib.hid (And.intro h0 (And.intro hrd hpo))
            rw [h0] at hc0 hl2
            clear h0 hrd hpo hlf
            gi_wp2
            gi_region
            gi_wp2
            refine ⟨fun h => absurd h (by decide), hR2.mono ?_⟩
            rintro e W5 (⟨rfl, hJ5, hk5⟩ | ⟨rfl, hJx5⟩)
            · have hs5 : W.heap.size ≤ W5.heap.size := by have := hk5.1; omega
              have own5 := own_butU HQ.out.2.2 hk5 (fun i h1 h2 hx => by have := (hX i hx).2.2; omega)
              have hL5 := HQ.out.2.1.here.keep hk5.1 (fun i hi => hk5.low (by omega) (by omega) (fun h => by have := (hX _ h).1; omega)) _ _ _
              have H5 := Lib.hid (And.intro own5 (And.intro hL5 HQ.out.2.1.len))
              have HX5 := Lib.hid hk5
              clear own5 hL5 hk5 hy2 hR2
              gi_wp2_with (refine ⟨trivial, fun h => absurd h (by decide), ?_⟩; gi_at_call 89; refine (callsIn_wide.2 (held_at _ _ _ t eb eo (ev + 1) M W.heap.size W5 (by omega) H5.out.1 H5.out.2.1 hMW hs5 H5.out.2.2)).mono ?_; rintro e W6 ⟨v6, rfl, own6, b6⟩)
              have hnx := HQ.out.2.1.next hJ hMW hBs (fun r h => (hX r h).1) (by have := b6.size; omega) HX5.out (by omega) hJ5 b6 own6
              have HNX := Lib.hid hnx
              clear hnx
              go_roundw
              case rel => exact ⟨_, HNX.out⟩
              case measure => exact told_less HM.out (by have := HQ.out.2.1.m; have := HQ.out.2.1.lt; omega) HNX.out
            · gi_wp2
              refine bodyPost_ret (results_none rfl _ _ _) rfl ?_
              exact ⟨⟨_, rfl⟩, .inr ⟨k, HQ.out.2.1.lt, hJx5⟩⟩
        · obtain ⟨q, hq⟩ : ∃ q, r.length = q + 1 := ⟨r.length - 1, by omega⟩
          clear h0
          have hrd := round_of (g := g) (off := p * 2) (.slice (some ⟨eb, eo + 7, none⟩) (q + 1) (ec - 1)) hJ hMW (by rw [hlf]; exact hN) hN9 hgb.1 (ownRow_row HO.out.1 rfl) HO.out.2.1 HO.out.2.2.1 HO.out.2.2.2.1 HO.out.2.2.2.2
          have hpo := popped_own HN.out (by rw [hq]; exact Nat.succ_pos q) (by have h1 := HO.out.1; rw [List.length_cons, HN.out] at h1; exact h1)
          rw [hq] at hpo
          obtain ⟨fn2, tmps2, assign2, body2, hy2, hR2⟩ := hY k _ hrd.lt hrd.j
          rw [toldAt_eq hrd.at_] at hy2
          have hev : ev ≤ 1000000000 := by have := hrd.lev; omega
          have hsz5 : wr.heap.size ≤ (wr.setCell ⟨g, p * 2, none⟩ (.slice (some ⟨eb, eo + 7, none⟩) (q + 1) (ec - 1))).drew.heap.size := hrd.below.size
          have HQ := Lib.hid (And.intro hq (And.intro hrd hpo))
          rw [hq] at hc0 hl2
          clear hq hrd hpo hlf
          have hec : 2 ≤ ec := by omega
          gi_wp2
          gi_region
          gi_wp2
          refine ⟨fun h => absurd h (by decide), hR2.mono ?_⟩
          rintro e W5 (⟨rfl, hJ5, hk5⟩ | ⟨rfl, hJx5⟩)
          · have hs5 : W.heap.size ≤ W5.heap.size := by have := hk5.1; omega
            have own5 := own_butU HQ.out.2.2 hk5 (fun i h1 h2 hx => by have := (hX i hx).2.2; omega)
            have hL5 := HQ.out.2.1.here.keep hk5.1 (fun i hi => hk5.low (by omega) (by omega) (fun h => by have := (hX _ h).1; omega)) _ _ _
            have H5 := Lib.hid (And.intro own5 (And.intro hL5 HQ.out.2.1.len))
            have HX5 := Lib.hid hk5
            clear own5 hL5 hk5 hy2 hR2
            gi_wp2_with (refine ⟨trivial, fun h => absurd h (by decide), ?_⟩; gi_at_call 89; refine (callsIn_wide.2 (held_at _ _ _ t eb eo (ev + 1) M W.heap.size W5 (by omega) H5.out.1 H5.out.2.1 hMW hs5 H5.out.2.2)).mono ?_; rintro e W6 ⟨v6, rfl, own6, b6⟩)
            have hnx := HQ.out.2.1.next hJ hMW hBs (fun r h => (hX r h).1) (by have := b6.size; omega) HX5.out (by omega) hJ5 b6 own6
            have HNX := Lib.hid hnx
            clear hnx
            go_roundw
            case rel => exact ⟨_, HNX.out⟩
            case measure => exact told_less HM.out (by have := HQ.out.2.1.m; have := HQ.out.2.1.lt; omega) HNX.out
          · gi_wp2
            refine bodyPost_ret (results_none rfl _ _ _) rfl ?_
            exact ⟨⟨_, rfl⟩, .inr ⟨k, HQ.out.2.1.lt, hJx5⟩⟩
  · gi_wp2
    refine bodyPost_ret (results_none rfl _ _ _) rfl ?_
    exact ⟨⟨_, rfl⟩, .inr ⟨0, by rw [HL.out.1]; omega, hJx3⟩⟩
end
end Go.Proofs.YthdhdmmlmbkalaaGreatDoor
namespace Go.Proofs.YthdhdmmlmbkalaaGreatDoor
section
open Go.RowKit
variable {P : Program} {ops : Array Oper} {n l : Nat}

/-- The region ends as regions do. -/
def only (Q : Exit → Act → World → Prop) (e : Exit) (a : Act) (w : World) : Prop := e = .normal ∧ Q .normal a w
theorem only.no (Q : Exit → Act → World → Prop) : ¬ LetsOut (only Q) := fun ⟨_, _, h, _⟩ => by cases h

theorem op_in_round {o : Oper} {a : Act} {w : World} {K K' : Act → World → Prop} {Q : Exit → Act → World → Prop} (hd : ∀ c, o.op ≠ .defer c) (hK : ∀ a w, K a w → K' a w) (h : o.wp P a w K (only Q)) :
    o.wpIn (Fence.wide.inRound l) n P a w K' Q := by
  refine ⟨fun f _ => trivial, ?_⟩
  show o.uponIn _ n P a K' Q ((o.semAt (some l) a.eval).run P w)
  rw [Oper.semAt_some l a.eval o hd]
  unfold Oper.wp at h
  generalize (execOp a.eval o).run P w = r at h
  match r, h with
  | .ok (.value v) w', h => exact hK _ _ h
  | .ok .skip w', h => exact hK _ _ h
  | .ok (.defer d) w', h => exact hK _ _ h
  | .ok (.enter f args) w', h =>
    refine ⟨fun hx => absurd (show (Option.none : Option Nat).isSome = true from hx) (by decide), (callsIn_wide.2 h).mono ?_⟩
    intro e w'' he
    match e, he with
    | .returned v, he => exact hK _ _ he
    | .panicked ch, he => exact absurd he.1 (by intro h; cases h)
    | .outgrown, he => exact absurd he (only.no Q)
  | .ok (.row row args) w', h =>
    refine ⟨fun hx => absurd (show (Option.none : Option Nat).isSome = true from hx) (by decide), fun c cs _ => ?_⟩
    obtain ⟨v, w'', hr, hs⟩ := h c cs
    exact ⟨v, w'', hK _ _ hr, stepsIn_wide.2 hs⟩
  | .halt (.panic v) w', h => exact absurd h.1 (by intro h; cases h)

theorem any_in_round (hd : ∀ (i : Nat) (o : Oper) (c : Call), ops[i]? = some o → o.op ≠ .defer c) {md : Region.Mode} {Q : Exit → Act → World → Prop} : ∀ (fuel : Nat) (listed : Array Bool) (a : Act) (w : World),
    wpAny P md ops (only Q) fuel listed a w → wpAnyIn (Fence.wide.inRound l) n P md ops Q fuel listed a w
  | 0, _, _, _, h => ⟨h.1, h.2.2⟩
  | fuel + 1, listed, a, w, h => by
    refine ⟨fun hr => (h.1 hr).2, fun i hi => ?_⟩
    have hi' := h.2 i hi
    unfold wpOp at hi'
    unfold wpOpIn
    cases ho : ops[i]? with
    | none =>
      simp only [ho] at hi' ⊢
      exact any_in_round hd fuel _ _ _ hi'
    | some o =>
      simp only [ho] at hi' ⊢
      by_cases hw : Region.wanted o (yielded ops a.tmps) = true
      · rw [if_pos hw] at hi' ⊢
        rcases hi' with h1 | ⟨_, h1⟩
        · exact op_in_round (hd i o · ho) (fun a w h2 => any_in_round hd fuel _ a w h2) h1
        · exact absurd h1 (only.no Q)
      · rw [if_neg hw] at hi' ⊢
        exact ⟨fun _ _ => trivial, any_in_round hd fuel _ _ _ hi'⟩

/-- Reads in whatever order, and then what stands behind them all, in a round. -/
theorem region_round_tail {id : Nat} {Q : Exit → Act → World → Prop} {a : Act} {w : World} {l0 : List Oper} (m : Nat) (hm : P.follows .mixedOrders = true) (hd : l0.all (fun o => match o.op with | .defer _ => false | _ => true) = true) (hB : Region.lexTailB .any l0.toArray m = true)
    (h : wpStill P l0.toArray w.drew (fun a' => wpList P l0.toArray (only Q) (l0.drop m) a' w.drew) (l0.take m) a) : (Code.region id l0.toArray true).wpIn (Fence.wide.inRound l) n P Q a w := by
  have hd' : ∀ (i : Nat) (o : Oper) (c : Call), l0.toArray[i]? = some o → o.op ≠ .defer c := by
    intro i o c ho hc
    have h1 := List.all_eq_true.1 hd o (List.mem_of_getElem? (by simpa using ho))
    rw [hc] at h1
    cases h1
  refine wpIn_region_any hm (any_in_round hd' _ _ _ _ ?_)
  simp only [Region.lexTailB, Bool.and_eq_true, decide_eq_true_eq] at hB
  obtain ⟨⟨⟨⟨hsel, hn⟩, hs⟩, hc⟩, hlex⟩ := hB
  have hn' : m < l0.length := by simpa using hn
  have htl : (l0.take m).length = m := by rw [List.length_take]; omega
  have hdl : (l0.drop m).length = l0.toArray.size - m := by simp
  have hhead := wpAnyL_lex (md := .any) (g := l0.toArray.size - m) hsel hs hc hn (l0.take m) 0 (Array.replicate l0.toArray.size false) a
    (fun j hj => by rw [htl] at hj; simp [hj]) (by simp [htl])
    ⟨by simp, fun j oj _ hl => (by rw [getD_replicate_false] at hl; cases hl), fun t _ ht => getD_in (by simpa using ht) (getD_replicate_false _ _)⟩ (by rw [htl]; exact hlex) h
  have hall := wpAny_of_head (Q' := only Q) (g := l0.toArray.size - m) (fun listed a' hL => by
    have h2 := wpAny_of_seq (md := .any) (Q' := only Q) (l0.drop m) m listed a' w.drew (fun j => by simp [List.getElem?_drop]) (by rw [hdl]; exact hL.1) hL.2
    rwa [hdl] at h2) _ _ _ hhead
  rw [htl, show m + (l0.toArray.size - m) = l0.toArray.size by omega] at hall
  exact hall
end
end Go.Proofs.YthdhdmmlmbkalaaGreatDoor
