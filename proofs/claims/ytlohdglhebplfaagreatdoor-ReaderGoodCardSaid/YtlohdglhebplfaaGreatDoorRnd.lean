/-
  A region that draws its order, within a round of a range over a function.
-/
import Derived.RangeFuncCalls
import Derived.TacticsIn
import Derived.OrdersIn
import Derived.StillTailTactics
namespace Go.Proofs.YtlohdglhebplfaaGreatDoor
open Go.RowKit
variable {P : Program} {ops : Array Oper} {n l : Nat}

/-- The region ends as regions do. -/
def only (Q : Exit → Act → World → Prop) (e : Exit) (a : Act) (w : World) : Prop := e = .normal ∧ Q .normal a w
theorem only.no (Q : Exit → Act → World → Prop) : ¬ LetsOut (only Q) := fun ⟨_, _, h, _⟩ => by cases h

theorem op_in_round {o : Oper} {a : Act} {w : World} {K K' : Act → World → Prop} {Q : Exit → Act → World → Prop} (hd : ∀ c, o.op ≠ .defer c) (hK : ∀ a w, K a w → K' a w) (h : o.wp P a w K (only Q)) :
    o.wpIn (Fence.wide.inRound l) n P a w K' Q := by
  refine ⟨fun f _ => trivial, ?_⟩
  show o.uponIn _ n P a K' Q ((o.semAt (some l) a.eval).run P w)
  rw [Oper.semAt_some l a.eval o hd]
  unfold Oper.wp at h
  generalize (execOp a.eval o).run P w = r at h
  match r, h with
  | .ok (.value v) w', h => exact hK _ _ h
  | .ok .skip w', h => exact hK _ _ h
  | .ok (.defer d) w', h => exact hK _ _ h
  | .ok (.enter f args) w', h =>
    refine ⟨fun hx => absurd (show (Option.none : Option Nat).isSome = true from hx) (by decide), (callsIn_wide.2 h).mono ?_⟩
    intro e w'' he
    match e, he with
    | .returned v, he => exact hK _ _ he
    | .panicked ch, he => exact absurd he.1 (by intro h; cases h)
    | .outgrown, he => exact absurd he (only.no Q)
  | .ok (.row row args) w', h =>
    refine ⟨fun hx => absurd (show (Option.none : Option Nat).isSome = true from hx) (by decide), fun c cs _ => ?_⟩
    obtain ⟨v, w'', hr, hs⟩ := h c cs
    exact ⟨v, w'', hK _ _ hr, stepsIn_wide.2 hs⟩
  | .halt (.panic v) w', h => exact absurd h.1 (by intro h; cases h)

theorem any_in_round (hd : ∀ (i : Nat) (o : Oper) (c : Call), ops[i]? = some o → o.op ≠ .defer c) {md : Region.Mode} {Q : Exit → Act → World → Prop} : ∀ (fuel : Nat) (listed : Array Bool) (a : Act) (w : World),
    wpAny P md ops (only Q) fuel listed a w → wpAnyIn (Fence.wide.inRound l) n P md ops Q fuel listed a w
  | 0, _, _, _, h => ⟨h.1, h.2.2⟩
  | fuel + 1, listed, a, w, h => by
    refine ⟨fun hr => (h.1 hr).2, fun i hi => ?_⟩
    have hi' := h.2 i hi
    unfold wpOp at hi'
    unfold wpOpIn
    cases ho : ops[i]? with
    | none =>
      simp only [ho] at hi' ⊢
      exact any_in_round hd fuel _ _ _ hi'
    | some o =>
      simp only [ho] at hi' ⊢
      by_cases hw : Region.wanted o (yielded ops a.tmps) = true
      · rw [if_pos hw] at hi' ⊢
        rcases hi' with h1 | ⟨_, h1⟩
        · exact op_in_round (hd i o · ho) (fun a w h2 => any_in_round hd fuel _ a w h2) h1
        · exact absurd h1 (only.no Q)
      · rw [if_neg hw] at hi' ⊢
        exact ⟨fun _ _ => trivial, any_in_round hd fuel _ _ _ hi'⟩

/-- Reads in whatever order, and then what stands behind them all, in a round. -/
theorem region_round_tail {id : Nat} {Q : Exit → Act → World → Prop} {a : Act} {w : World} {l0 : List Oper} (m : Nat) (hm : P.follows .mixedOrders = true) (hd : l0.all (fun o => match o.op with | .defer _ => false | _ => true) = true) (hB : Region.lexTailB .any l0.toArray m = true)
    (h : wpStill P l0.toArray w.drew (fun a' => wpList P l0.toArray (only Q) (l0.drop m) a' w.drew) (l0.take m) a) : (Code.region id l0.toArray true).wpIn (Fence.wide.inRound l) n P Q a w := by
  have hd' : ∀ (i : Nat) (o : Oper) (c : Call), l0.toArray[i]? = some o → o.op ≠ .defer c := by
    intro i o c ho hc
    have h1 := List.all_eq_true.1 hd o (List.mem_of_getElem? (by simpa using ho))
    rw [hc] at h1
    cases h1
  refine wpIn_region_any hm (any_in_round hd' _ _ _ _ ?_)
  simp only [Region.lexTailB, Bool.and_eq_true, decide_eq_true_eq] at hB
  obtain ⟨⟨⟨⟨hsel, hn⟩, hs⟩, hc⟩, hlex⟩ := hB
  have hn' : m < l0.length := by simpa using hn
  have htl : (l0.take m).length = m := by rw [List.length_take]; omega
  have hdl : (l0.drop m).length = l0.toArray.size - m := by simp
  have hhead := wpAnyL_lex (md := .any) (g := l0.toArray.size - m) hsel hs hc hn (l0.take m) 0 (Array.replicate l0.toArray.size false) a
    (fun j hj => by rw [htl] at hj; simp [hj]) (by simp [htl])
    ⟨by simp, fun j oj _ hl => (by rw [getD_replicate_false] at hl; cases hl), fun t _ ht => getD_in (by simpa using ht) (getD_replicate_false _ _)⟩ (by rw [htl]; exact hlex) h
  have hall := wpAny_of_head (Q' := only Q) (g := l0.toArray.size - m) (fun listed a' hL => by
    have h2 := wpAny_of_seq (md := .any) (Q' := only Q) (l0.drop m) m listed a' w.drew (fun j => by simp [List.getElem?_drop]) (by rw [hdl]; exact hL.1) hL.2
    rwa [hdl] at h2) _ _ _ hhead
  rw [htl, show m + (l0.toArray.size - m) = l0.toArray.size by omega] at hall
  exact hall
end Go.Proofs.YtlohdglhebplfaaGreatDoor
