/-
  core.placed: all expressions of a tree are told, each with what is bound there. Ranges over an iterator that keeps a promise at each telling; core.placed is one. slices.Sort of nothing; the keys of an empty map, sorted. core.Free of an expression in which nothing is free.
-/
import Derived.Test.YthdhdmmlmbkalaaGreatDoorJr15
import Derived.LoopN
import Derived.LoopNIn
import Derived.Laws.IdiomRangeMap
set_option linter.unusedVariables false
set_option linter.unusedSimpArgs false
set_option linter.unusedSectionVars false
set_option linter.unnecessarySimpa false
namespace Go.Proofs.YthdhdmmlmbkalaaGreatDoor
section
open Go.RowKit Go.Maps
attribute [local go_sem] Oper.semAt_some

theorem roundIn_anyP {F : Fence} (hd : F.depth = none) {m m' : Nat} {P : Program} {l : Nat} {f : FuncId} {tmps : Array Value} {assign body : Code} {w : World} {R : Ending → World → Prop}
    (h : RoundIn F m P l f tmps assign body w R) : RoundIn F m' P l f tmps assign body w R := ⟨h.1, fun c cs _ => h.2 c cs (fun d h => by rw [hd] at h; cases h)⟩
/-- A post that no panic meets. -/
def calmP (Q : Exit → Act → World → Prop) : Exit → Act → World → Prop
  | .panic _, _, _ => False
  | e, a, w => Q e a w
theorem wpIn_calmP {F : Fence} {n : Nat} {P : Program} {c : Code} {Q : Exit → Act → World → Prop} {a : Act} {w : World} (h : c.wpIn F n P (calmP Q) a w) : c.wpIn F n P Q a w :=
  wpIn_mono h fun e a w h => by cases e <;> first | exact h | exact h.elim
theorem calmP_normal {Q : Exit → Act → World → Prop} {a : Act} {w : World} (h : Q .normal a w) : calmP Q .normal a w := h
def ExprP (l mb M : Nat) (root : ET) (b0 o0 : Nat) (full : List NodeP) (X : Nat → Prop) (J : Nat → World → Prop) (N : Nat) : Prop :=
  ∀ x : ET, x.size ≤ N → ∀ (xb xo : Nat) (env : Int → Int) (met : Int) (k n : Nat) (W : World) (m : Nat), (∀ W', LiesE W' M root b0 o0 → LiesE W' M x xb xo) → (∀ j y, (placeE x env met xb xo)[j]? = some y → full[k + j]? = some y) → 0 ≤ met → met + boundN x ≤ 1000000000 → n + 2 * boundN x ≤ 10000000000 →
    PlI l mb M root b0 o0 J k n met env W → CallsIn Fence.wide m Tryz.prog 122 #[.pointer (some ⟨mb + 1, 0, none⟩), .pointer (some ⟨xb, xo, none⟩)] W fun e W' => e = .returned (.bool true) ∧ PlI l mb M root b0 o0 J (k + x.size) (n + 2 * boundN x) (met + boundN x) env W' ∧ But (WX mb X) W W'
set_option maxRecDepth 100000 in
set_option maxHeartbeats 6400000 in
theorem expr_step {l mb M : Nat} {root : ET} {b0 o0 : Nat} {full : List NodeP} {X : Nat → Prop} {J : Nat → World → Prop} (C : PlC l mb M root b0 o0 full X J) (N : Nat) (ih : ExprP l mb M root b0 o0 full X J N) : ExprP l mb M root b0 o0 full X J (N + 1) := by
  intro x hxs xb xo env met k n W m hlies hplace hm0 hm1 hn1 hI
  have hlt : mb + 1 < W.heap.size := (Array.getElem?_eq_some_iff.1 hI.2.1).1
  have hMm := C.mm
  have hx := hlies W hI.2.2.2
  obtain ⟨hxb, hcell, hheld⟩ := liesE_held.1 hx
  have hfk := hplace 0 ⟨xb, xo, x, env⟩ (by rw [placeE_eq]; rfl)
  rw [Nat.add_zero] at hfk
  have hkl : k < full.length := (List.getElem?_eq_some_iff.1 hfk).1
  have hvx := C.v _ (List.mem_of_getElem? hfk)
  simp only at hvx
  have hbi := binds_any M xb xo x W (by omega) hcell hheld.1.2 hvx
  have hbn := boundN_eq x
  have hxz := x.size_eq
  have HH := Lib.hid (And.intro hI (And.intro hlies (And.intro hplace (And.intro hfk hbi))))
  clear hI hlies hplace hx hcell hheld hfk hvx hbi
  have hmix : Tryz.prog.follows .mixedOrders = true := by kernel_rfl
  refine callsIn_of_wp Tryz.func122 rfl trivial ?_ rfl
  simp only [Tryz.ntmps122, List.size_toArray, List.length_cons, List.length_nil, Nat.reduceAdd, Nat.reduceSub, Array.replicate_succ, Array.replicate_zero, List.push_toArray, List.append_toArray, List.nil_append, List.cons_append]
  gi_wp2
  refine ⟨trivial, fun h => absurd h (by decide), (callsIn_wide.2 HH.out.2.2.2.2).mono ?_⟩
  rintro e W1 hbp
  obtain ⟨va, vc, rfl, hml, hva, hvs, b1⟩ := binds_use hbp (by omega)
  have hI1 := HH.out.1.below C b1
  have hz1 := b1.size
  have hVW : (∀ q, WX mb X q → ¬ (0 < (bindE x).length ∧ q = blk va)) := fun q hq ⟨hp, e⟩ => by
    subst e
    have h3 := (hva hp).2.2
    rcases hq with h | h | h
    · have := C.x _ h; omega
    · omega
    · omega
  have hV1 : VarsAt W1 mb va (bindE x) := ⟨by omega, fun hp => ⟨(hva hp).1, (hva hp).2.1, fun e => hVW _ (.inr (.inl e)) ⟨hp, rfl⟩, fun e => hVW _ (.inr (.inr e)) ⟨hp, rfl⟩⟩, hvs⟩
  obtain ⟨W2, hW2⟩ : ∃ W2, W1.setCell ⟨mb + 1, 2, none⟩ (.int .i64 (met + (bindE x).length)) = W2 := ⟨_, rfl⟩
  have hk2 : ∀ q, q ≠ mb + 1 → W2.heap[q]? = W1.heap[q]? := fun q hq => hW2 ▸ Below.heap_setCell _ _ _ _ hq
  have hs2 : W2.heap.size = W1.heap.size := by rw [← hW2]; exact setCell_size _ _ _
  have hb2 : Below mb W1 W2 := hW2 ▸ (Below.refl mb W1).setCell (p := ⟨mb + 1, 2, none⟩) (by show mb ≤ mb + 1; omega) _
  have hI2 : PlI l mb M root b0 o0 J k n (met + (bindE x).length) env W2 := ⟨C.j k W1 W2 hb2 hI1.1, by rw [← hW2]; simp [World.setCell, Array.getElem?_modify, hI1.2.1], hI1.2.2.1.of_block (hk2 mb (by omega)), hI1.2.2.2.keep (by omega) (fun i hi => hk2 i (by omega)) _ _ _⟩
  have hV2 : VarsAt W2 mb va (bindE x) := hV1.keep (by omega) fun q hq h1 h2 _ _ => hk2 q h2
  have s0 : W1.cell? ⟨mb + 1, 0, none⟩ = some (.func (.yield l) #[] #[]) := by rw [Lib.cell_of_heap hI1.2.1]; rfl
  have s1 : W1.cell? ⟨mb + 1, 1, none⟩ = some (.map (some mb)) := by rw [Lib.cell_of_heap hI1.2.1]; rfl
  have s2 : W1.cell? ⟨mb + 1, 2, none⟩ = some (.int .i64 met) := by rw [Lib.cell_of_heap hI1.2.1]; rfl
  have sf : W1.frozen? ⟨mb + 1, 2, none⟩ = false := Lib.frozen_of_heap hI1.2.1 _
  obtain ⟨vs, hvse⟩ : ∃ vs, bindE x = vs := ⟨_, rfl⟩
  rw [hvse] at hI2 hV2 hVW hbn hml hva hW2
  have H1 := Lib.hid (And.intro hI2 (And.intro hV2 (And.intro hVW (And.intro hvse (And.intro hb2 (b1.block))))))
  have HB := Lib.hid b1
  have HK2 := Lib.hid hk2
  clear hI1 hV1 hI2 hV2 hVW hbp hva hvs hk2 hb2 b1
  rw [hvse]
  obtain ⟨bd, hbd⟩ : ∃ bd, bodyE x = bd := ⟨_, rfl⟩
  rw [hbd]
  have HBD := Lib.hid hbd
  clear hbd
  gi_wp2
  obtain ⟨hI2, hV2, hVW, -, -, -⟩ := H1.out
  have y0 : W2.cell? ⟨mb + 1, 0, none⟩ = some (.func (.yield l) #[] #[]) := by rw [Lib.cell_of_heap hI2.2.1]; rfl
  have y1 : W2.cell? ⟨mb + 1, 1, none⟩ = some (.map (some mb)) := by rw [Lib.cell_of_heap hI2.2.1]; rfl
  have hnd := ndP_eq HH.out.2.2.2.1
  obtain ⟨fn, tm, asg, bod, hy, hR⟩ := C.y k W2.drew hkl (C.j k W2 W2.drew (Below.refl _ _).drew hI2.1) ⟨n, by rw [hnd]; exact hI2.2.2.1.of_block (W' := W2.drew) rfl⟩
  have hy' : (Instr.yield l #[.pointer (some ⟨xb, xo, none⟩), .map (some mb)]).run Tryz.prog W2.drew = .ok (.round l fn tm asg bod) W2.drew := by
    rw [encP, hnd] at hy
    exact hy
  have HR := Lib.hid hR
  clear hy hR s0 s1 s2 sf hnd hI2 hV2 hVW hW2
  refine wpIn_calmP ?_
  gi_region_with_o (first | (refine ⟨fun h => absurd h (by decide), (roundIn_anyP rfl HR.out).mono ?_⟩; rintro e w3 ⟨rfl, hJ3, hbut3⟩) | (refine (roundIn_anyP rfl HR.out).mono ?_; rintro e w3 ⟨rfl, hJ3, hbut3⟩))
  all_goals
    refine calmP_normal ?_
    go_frame
    obtain ⟨hI2, hV2, hVW, hvse, hb2, hb1⟩ := H1.out
    have hz3 : W2.heap.size ≤ w3.heap.size := hbut3.1
    have hnX : ∀ q, mb ≤ q → ¬ X q := fun q hq h => by have := (C.x q h).2; omega
    have hI3 : PlI l mb M root b0 o0 J (k + 1) n (met + vs.length) env w3 := ⟨hJ3, (hbut3.2 (mb + 1) (by show mb + 1 < W2.heap.size; omega) (hnX _ (by omega))).trans hI2.2.1, hI2.2.2.1.of_block (hbut3.2 mb (by show mb < W2.heap.size; omega) (hnX _ (by omega))), hI2.2.2.2.keep hz3 (fun i hi => hbut3.2 i (by show i < W2.heap.size; omega) (fun h => by have := (C.x i h).1; omega)) _ _ _⟩
    have hV3 : VarsAt w3 mb va vs := hV2.keep hz3 fun q hq h1 h2 hp e => hbut3.2 q hq (fun h => hVW _ (.inl h) ⟨hp, e⟩)
    have hx3 := HH.out.2.1 w3 hI3.2.2.2
    have hbt3 : But (WX mb X) W w3 := ⟨by omega, fun q hq h => (hbut3.2 q (by show q < W2.heap.size; omega) (fun e => h (.inl e))).trans ((HK2.out q (fun e => h (.inr (.inr e)))).trans (HB.out.block q hq))⟩
    obtain ⟨hx3b, hx3c, hx3h⟩ := liesE_held.1 hx3
    have d12 : w3.cell? ⟨xb, xo + 12, none⟩ = some (.slice x.ka x.kids.length x.kc) := hx3c 12 _ rfl
    have hkm : x.kids.length ≤ 9223372036854775807 := Nat.le_trans hx3h.2.1.1 hx3h.2.1.2.1
    obtain ⟨ka, hka0⟩ : ∃ ka, x.ka = ka := ⟨_, rfl⟩
    rw [hka0] at d12
    have HKA := Lib.hid hka0
    clear hka0
    have HG := Lib.hid (And.intro hI3 (And.intro hV3 (And.intro hVW (And.intro hvse (And.intro hbt3 hx3h.2.1.2.2.1)))))
    clear hI2 hV2 hVW hvse hb2 hb1 hnX hI3 hV3 hx3 hbt3 hx3c hx3h hJ3 hbut3 y0 y1 hy'
    gi_wp2
    gi_loopw [45] (fun i wr => ∃ q : Nat, q ≤ x.kids.length ∧ i = .int .i64 (q : Int) ∧ PlI l mb M root b0 o0 J (k + 1 + sizesE (x.kids.take q)) (n + 2 * boundNs (x.kids.take q) + if bd < q then 2 * vs.length else 0) (met + vs.length + boundNs (x.kids.take q)) env wr ∧ But (WX mb X) w3 wr)
      (fun i _ => x.kids.length - (intOf i).toNat)
    case atStart => exact ⟨0, Nat.zero_le _, rfl, by simpa [sizesE, boundNs] using HG.out.1.mono (Nat.le_add_right _ _), But.refl _ _⟩
    case round =>
      obtain ⟨q, hq, rfl, hIq, hbq⟩ := hrel
      have hzq := hbq.1
      have hxq := HH.out.2.1 wr hIq.2.2.2
      have d12q : wr.cell? ⟨xb, xo + 12, none⟩ = some (.slice ka x.kids.length x.kc) := by
        have h := (liesE_held.1 hxq).2.1 12 _ rfl
        rw [HKA.out] at h
        exact h
      have hltq : mb + 1 < wr.heap.size := (Array.getElem?_eq_some_iff.1 hIq.2.1).1
      by_cases hql : q < x.kids.length
      · have hka := (HG.out.2.2.2.2.2 (by omega)).1
        rw [HKA.out] at hka
        obtain ⟨kb, ko, hkk⟩ : ∃ b o, ka = some ⟨b, o, none⟩ := ⟨_, _, hka⟩
        subst hkk
        have hlk : ∀ W', LiesE W' M root b0 o0 → LiesE W' M x.kids[q] kb (ko + q * 13) := fun W' h => by
          have h2 := (liesER_iff _ _ _).1 (liesE_held.1 (HH.out.2.1 W' h)).2.2.2.2 q hql
          rw [HKA.out, Nat.mul_comm] at h2
          exact h2
        have hpl : ∀ j y, (placeE x.kids[q] (if (0 : Int) + q = bd then envB env vs (met + 1) else env) (met + vs.length + boundNs (x.kids.take q)) kb (ko + q * 13))[j]? = some y → full[k + 1 + sizesE (x.kids.take q) + j]? = some y := fun j y hy => by
          have h3 := HH.out.2.2.1 (1 + (sizesE (x.kids.take q) + j)) y
          rw [placeE_eq, Nat.add_comm 1, List.getElem?_cons_succ, HG.out.2.2.2.1, HBD.out] at h3
          rw [show k + 1 + sizesE (x.kids.take q) + j = k + (sizesE (x.kids.take q) + j + 1) by omega]
          refine h3 (placeER_at x.kids 0 bd env _ _ _ _ q hql j y ?_)
          rw [HKA.out, Nat.mul_comm 13]
          exact hy
        have hsz := sizesE_mem hql
        have hst := sizesE_take hql
        have hbt := boundNs_take hql
        have hbl := boundNs_le x.kids (q + 1)
        have hih := ih x.kids[q] (by omega) kb (ko + q * 13)
        have hvq : VarsAt wr mb va vs := HG.out.2.1.keep hzq fun r hr h1 h2 hp e => hbq.2 r hr (fun h => HG.out.2.2.1 r h ⟨hp, e⟩)
        have q0 : decide ((q : Int) < (x.kids.length : Int)) = true := decide_eq_true (by omega)
        have HJ := Lib.hid (And.intro hIq (And.intro hbq (And.intro hlk (And.intro hpl (And.intro hih hvq)))))
        have hvl := HG.out.2.1.1
        obtain ⟨kid, hkid⟩ : ∃ kid, x.kids[q] = kid := ⟨_, rfl⟩
        rw [hkid] at hst hbt hsz
        clear hIq hbq hlk hpl hih hvq hka hxq hsz
        by_cases hqb : (q : Int) = bd
        · have hqf : ¬ (bd < (q : Int)) := by omega
          have hqt : bd < ((q + 1 : Nat) : Int) := by omega
          obtain ⟨hIq, hbq, hlk, hpl, hih, hvq⟩ := HJ.out
          rw [if_neg hqf] at hIq
          rw [hkid] at hlk hpl hih
          have hc := inside_any C (k + 1 + sizesE (x.kids.take q)) (k + 1 + sizesE (x.kids.take q) + kid.size) (n + 2 * boundNs (x.kids.take q) + 0) (n + 2 * boundNs (x.kids.take q) + 0 + vs.length + 2 * boundN kid) (met + vs.length + boundNs (x.kids.take q)) (met + vs.length + boundNs (x.kids.take q) + boundN kid) env wr (m - 1) kb (ko + q * 13) va vc vs (met + 1) (by omega) (by omega) (by omega) hIq hvq HG.out.2.2.1 (fun r hr => by have := (C.x r hr).2; omega)
            (fun W1 hW1 => hih (envB env vs (met + 1)) (met + vs.length + boundNs (x.kids.take q)) (k + 1 + sizesE (x.kids.take q)) (n + 2 * boundNs (x.kids.take q) + 0 + vs.length) W1 0 hlk (fun j y hy => hpl j y (by rw [if_pos (by omega)]; exact hy)) (by omega) (by omega) (by omega) hW1)
          have HC := Lib.hid (And.intro hc (And.intro hbq hqt))
          clear hIq hbq hlk hpl hih hvq hc HJ hqf hqt
          subst hqb
          gi_wp2
          refine ⟨trivial, fun h => absurd h (by decide), HC.out.1.mono ?_⟩
          rintro e w5 ⟨rfl, hI5, hb5⟩
          have HD := Lib.hid (And.intro hI5 (HC.out.2.1.trans hb5))
          clear hI5 hb5
          gi_wp2
          refine ⟨trivial, ?_⟩
          gi_wp2
          go_roundw
          case rel =>
            refine ⟨q + 1, by omega, by go_num, ?_, HD.out.2⟩
            rw [if_pos HC.out.2.2, hst, hbt, show k + 1 + (sizesE (x.kids.take q) + kid.size) = k + 1 + sizesE (x.kids.take q) + kid.size by omega, show met + (vs.length : Int) + ((boundNs (x.kids.take q) + boundN kid : Nat) : Int) = met + vs.length + boundNs (x.kids.take q) + boundN kid by omega]
            exact HD.out.1.mono (by omega)
          case measure => simp [intOf]; omega
        · have q1 : ((q : Int) == bd) = false := beq_eq_false_iff_ne.2 hqb
          have q2 : ((q : Int) != bd) = true := bne_iff_ne.2 hqb
          obtain ⟨hIq, hbq, hlk, hpl, hih, hvq⟩ := HJ.out
          rw [hkid] at hlk hpl hih
          obtain ⟨g, hg⟩ : ∃ g, (if bd < (q : Int) then 2 * vs.length else 0) = g := ⟨_, rfl⟩
          have hg2 : (if bd < ((q + 1 : Nat) : Int) then 2 * vs.length else 0) = g := by rw [← hg]; split <;> split <;> omega
          have hgl : g ≤ 2 * vs.length := by rw [← hg]; split <;> omega
          rw [hg] at hIq
          have hc := hih env (met + vs.length + boundNs (x.kids.take q)) (k + 1 + sizesE (x.kids.take q)) (n + 2 * boundNs (x.kids.take q) + g) wr (m - 1) hlk (fun j y hy => hpl j y (by rw [if_neg (by omega)]; exact hy)) (by omega) (by omega) (by omega) hIq
          have HC := Lib.hid (And.intro hc (And.intro hbq (And.intro hg2 hgl)))
          clear hIq hbq hlk hpl hih hvq hc HJ hg hg2 hgl hqb
          gi_wp2
          refine ⟨trivial, ?_⟩
          gi_wp2
          refine ⟨trivial, fun h => absurd h (by decide), HC.out.1.mono ?_⟩
          rintro e w5 ⟨rfl, hI5, hb5⟩
          have HD := Lib.hid (And.intro hI5 (HC.out.2.1.trans hb5))
          clear hI5 hb5
          gi_wp2
          go_roundw
          case rel =>
            refine ⟨q + 1, by omega, by go_num, ?_, HD.out.2⟩
            rw [HC.out.2.2.1, hst, hbt, show k + 1 + (sizesE (x.kids.take q) + kid.size) = k + 1 + sizesE (x.kids.take q) + kid.size by omega, show met + (vs.length : Int) + ((boundNs (x.kids.take q) + boundN kid : Nat) : Int) = met + vs.length + boundNs (x.kids.take q) + boundN kid by omega]
            exact HD.out.1.mono (by omega)
          case measure => simp [intOf]; omega
      · obtain rfl : q = x.kids.length := by omega
        have q0 : decide ((x.kids.length : Int) < (x.kids.length : Int)) = false := decide_eq_false (by omega)
        have HJ := Lib.hid (And.intro hIq hbq)
        clear hIq hbq hxq
        gi_wp2
        go_ret
        obtain ⟨hIq, hbq⟩ := HJ.out
        rw [List.take_length] at hIq
        refine ⟨rfl, ?_, HG.out.2.2.2.2.1.trans hbq⟩
        rw [show k + x.size = k + 1 + sizesE x.kids by omega, show met + (boundN x : Int) = met + vs.length + boundNs x.kids by omega]
        exact hIq.mono (by split <;> omega)
theorem expr_any {l mb M : Nat} {root : ET} {b0 o0 : Nat} {full : List NodeP} {X : Nat → Prop} {J : Nat → World → Prop} (C : PlC l mb M root b0 o0 full X J) : ∀ N, ExprP l mb M root b0 o0 full X J N
  | 0 => fun x hx => by rw [x.size_eq] at hx; omega
  | N + 1 => expr_step C N (expr_any C N)
end
end Go.Proofs.YthdhdmmlmbkalaaGreatDoor
namespace Go.Proofs.YthdhdmmlmbkalaaGreatDoor
section
open Go.RowKit Go.Maps
attribute [local go_sem] Oper.semAt_some

/-- What an iterator promises: in the k-th telling Z k holds. No round ends the range. -/
def RunsZ (n : Nat) (P : Program) (g : Nat) (lb : Array Value) (encs : Nat → Array Value) (N : Nat) (X : Nat → Prop) (Z : Nat → World → Prop) (W : World) : Prop :=
  ∀ (l : Nat) (J : Nat → World → Prop), (∀ k A B, Below W.heap.size A B → J k A → J k B) →
    (∀ k W1, k < N → J k W1 → Z k W1 → YieldAt Fence.wide 0 P l (encs k) W1 fun e W' => e = .returned (.bool true) ∧ J (k + 1) W' ∧ But X W1 W') → J 0 W →
    CallsIn Fence.wide n P g (#[.func (.yield l) #[] #[]] ++ lb) W fun e W' => (∃ v, e = .returned v) ∧ J N W'
theorem wpIn_runsZ {n : Nat} {P : Program} {g : Operand} {ps : Array Tmp} {assign body : Code} {Q : Exit → Act → World → Prop} {a : Act} {w : World}
    {gf : Nat} {lb : Array Value} (hg : a.eval g = .func (.func gf) #[] lb) (eg : ∀ args w, (callFunc gf args).run P w = .ok (.enter gf args) w)
    {encs : Nat → Array Value} {N : Nat} {X : Nat → Prop} {Z : Nat → World → Prop} (hseq : ∀ W1, Below w.heap.size w W1 → W1.heap.size = w.heap.size + 2 → RunsZ (n - 1) P gf lb encs N (fun r => X r ∨ r = w.heap.size + 1) Z W1)
    (hX : ∀ r, X r → r < w.heap.size) (hps : ∀ k, (encs k).size = ps.size)
    (I : Nat → World → Prop) (hI : ∀ k A B, Below w.heap.size A B → I k A → I k B) (hZ : ∀ k A o, Z k A → Z k (A.putObj (w.heap.size + 1) o)) (h0 : I 0 w) (a₁ : Nat → Act)
    (hassign : ∀ (l k : Nat) (W : World) (K : Act → World → Prop), k < N → K (a₁ k) W →
      assign.wpIn (Fence.wide.inRound l) (n - 1 - 1) P (Exit.then K (fun _ _ _ => False)) { tmps := (ps.zip (encs k)).foldl (fun t (p, v) => t.setIfInBounds p v) a.tmps, defers := [] } W)
    (hbody : ∀ (l k : Nat) (W : World), k < N → w.heap.size + 1 < W.heap.size → I k W → Z k W → body.wpIn (Fence.wide.inRound l) (n - 1 - 1) P (runPost X I (fun _ _ _ => False) k W) (a₁ k) W)
    (hdone : ∀ (D : Nat) (W : World), w.heap.size ≤ D → I N W → W.heap[D]? = some (.deferred (some [])) → Q .normal { a with defers := { target := .collected D, args := #[] } :: a.defers } W) :
    (Code.rangeFunc g ps assign body).wpIn Fence.wide n P Q a w := by
  refine wpIn_rangeFunc ?_
  intro fn hfn
  rw [show Fence.wide.round = none from rfl]
  obtain ⟨rec, hrec⟩ : ∃ rec : LoopState → Option Code → Loop, rec = fun st pe => { state := st, pending := pe, fn, tmps := a.tmps, params := ps, assign, body, defers := w.heap.size } := ⟨_, rfl⟩
  obtain ⟨W1, hW1⟩ : ∃ W1, (w.alloc (.deferred (some []))).alloc (.loop (rec .ready none)) = W1 := ⟨_, rfl⟩
  have hsz : W1.heap.size = w.heap.size + 2 := by rw [← hW1]; simp
  have hL1 : W1.heap[w.heap.size + 1]? = some (.loop (rec .ready none)) := by
    rw [← hW1]; have := World.alloc_heap_new (w.alloc (.deferred (some []))) (.loop (rec .ready none)); rwa [World.size_alloc] at this
  have hK1 : W1.heap[w.heap.size]? = some (.deferred (some [])) := by
    rw [← hW1]; exact (Below.heap_alloc _ _ _ (by simp)).trans (World.alloc_heap_new w _)
  have hbw : Below w.heap.size w W1 := by rw [← hW1]; exact ((Below.refl _ w).alloc (Nat.le_refl _) _).alloc (by simp) _
  have hput : ∀ (W : World) (o : Obj), Below w.heap.size W (W.putObj (w.heap.size + 1) o) := fun W o =>
    ⟨rfl, rfl, rfl, by simp, fun k hk => World.putObj_heap_other (by omega)⟩
  refine ⟨w.heap.size + 1, [{ target := .collected w.heap.size, args := #[] }], W1, { target := .fn (.func gf) lb, args := #[.func (.yield (w.heap.size + 1)) #[] #[]] }, W1, gf,
    #[.func (.yield (w.heap.size + 1)) #[] #[]] ++ lb, W1, ?_, ?_, ?_, ?_, fun h => absurd h (by decide), ?_⟩
  · rw [← hW1, hrec]; exact run_enterLoop_outer _ _ _ _ _
  · simp only [resolve, hg]
    simp [go_sem]
  · intro f' hf'; simp [Target.leads] at hf'; subst hf'; trivial
  · simp [invoke, go_sem, eg]
  · refine (hseq W1 hbw hsz (w.heap.size + 1)
      (fun k W => I k W ∧ W.heap[w.heap.size + 1]? = some (.loop (rec .ready none)) ∧ W.heap[w.heap.size]? = some (.deferred (some [])))
      (fun k A B hAB ⟨hi, hl, hk⟩ => ⟨hI k A B (hAB.mono (by omega)) hi, (hAB.block _ (by omega)).trans hl, (hAB.block _ (by omega)).trans hk⟩)
      ?_ ⟨hI 0 _ _ hbw h0, hL1, hK1⟩).mono ?_
    · rintro k W hkN ⟨hi, hl, hk⟩ hz
      have hlt : w.heap.size + 1 < W.heap.size := (Array.getElem?_eq_some_iff.1 hl).1
      have hy := run_yield (P := P) (args := encs k) hl (by rw [hrec]; exact hps k)
      rw [hrec] at hy
      refine ⟨fn, _, assign, body, hy, roundIn_anyP rfl (roundIn_of_wpIn hfn (hassign _ k W _ hkN ⟨_, run_beginRound hl (by rw [hrec]), ?_⟩))⟩
      generalize hbusy : Obj.loop { rec .ready none with state := .busy } = ob
      have hl2 : (W.putObj (w.heap.size + 1) ob).heap[w.heap.size + 1]? = some ob := World.putObj_heap_same hlt
      have hk2 : (W.putObj (w.heap.size + 1) ob).heap[w.heap.size]? = some (.deferred (some [])) := (World.putObj_heap_other (by omega)).trans hk
      have hsz2 : (W.putObj (w.heap.size + 1) ob).heap.size = W.heap.size := by simp
      refine wpIn_mono (hbody _ k _ hkN (by rw [hsz2]; exact hlt) (hI k _ _ (hput W ob) hi) (hZ k W ob hz)) ?_
      have fin : ∀ (jump : Option Code) (W3 : World), But X (W.putObj (w.heap.size + 1) ob) W3 →
          (Instr.endRound (w.heap.size + 1) jump).run P W3 = .ok (.bool jump.isNone) (W3.putObj (w.heap.size + 1) (.loop (rec (if jump.isNone then .ready else .done) jump))) ∧
          (W3.putObj (w.heap.size + 1) (.loop (rec (if jump.isNone then .ready else .done) jump))).heap[w.heap.size + 1]? = some (.loop (rec (if jump.isNone then .ready else .done) jump)) ∧
          (W3.putObj (w.heap.size + 1) (.loop (rec (if jump.isNone then .ready else .done) jump))).heap[w.heap.size]? = some (.deferred (some [])) ∧
          But (fun r => X r ∨ r = w.heap.size + 1) W (W3.putObj (w.heap.size + 1) (.loop (rec (if jump.isNone then .ready else .done) jump))) := fun jump W3 hk3 => by
        have hl3 : W3.heap[w.heap.size + 1]? = some ob := (hk3.2 _ (by omega) (fun h => by have := hX _ h; omega)).trans hl2
        have hd3 : W3.heap[w.heap.size]? = some (.deferred (some [])) := (hk3.2 _ (by omega) (fun h => by have := hX _ h; omega)).trans hk2
        rw [← hbusy] at hl3
        have := run_endRound (P := P) jump hl3
        rw [hrec] at this ⊢
        refine ⟨this, World.putObj_heap_same (Array.getElem?_eq_some_iff.1 hl3).1, (World.putObj_heap_other (by omega)).trans hd3, ?_⟩
        exact ((But.putObj _ W _ _ (.inr rfl)).trans (hk3.mono fun _ => .inl)).trans (But.putObj _ _ _ _ (.inr rfl))
      rintro e a3 W3 hp
      cases e with
      | normal =>
        obtain ⟨hk3, hi3⟩ := hp
        obtain ⟨hr, hl4, hk4, hb4⟩ := fin none W3 hk3
        exact ⟨_, _, hr, rfl, ⟨hI _ _ _ (hput _ _) hi3, hl4, hk4⟩, hb4⟩
      | ret => exact hp.2.elim
      | exit id => exact hp.2.elim
      | goto t => exact hp.2.elim
      | panic ch => exact hp.elim
      | outgrown => exact hp.elim
    · rintro e W2 ⟨⟨v, rfl⟩, hi, hl, hk⟩
      exact ⟨none, _, by have := run_endLoop (P := P) hl (by rw [hrec]; simp); rw [hrec] at this; exact this, hdone _ _ (Nat.le_refl _) (hI _ _ _ (hput _ _) hi) ((World.putObj_heap_other (by omega)).trans hk)⟩
theorem placed_any (p : Option Addr) (w : World) : Calls Tryz.prog 102 #[.pointer p] w fun e w' => e = .returned (.func (.func 121) #[] #[.pointer (some ⟨w.heap.size, 0, none⟩)]) ∧ w' = w.alloc (.cells #[.pointer p] 46) := by
  go_enter Tryz.func102, Tryz.ntmps102
  go_wp2
  go_ret
  exact ⟨rfl, rfl⟩
/-- What holds in the k-th telling. -/
def ZP (mb : Nat) (full : List NodeP) (k : Nat) (W : World) : Prop := ∃ n, EnvAt W mb n (ndP full k).env
set_option maxRecDepth 100000 in
set_option maxHeartbeats 3200000 in
/-- core.placed's iterator, over a tree that lies below M. -/
theorem placed_runs (m bd M b o : Nat) (root : ET) (X : Nat → Prop) (W : World) (hX : ∀ r, X r → M ≤ r ∧ r ≠ bd ∧ r < W.heap.size) (hM : M ≤ W.heap.size) (hbd : W.cell? ⟨bd, 0, none⟩ = some (.pointer (some ⟨b, o, none⟩))) (hL : LiesE W M root b o) (hN : boundN root ≤ 1000000000)
    (hv : ∀ x ∈ placeE root (fun _ => 0) 0 b o, -9223372036854775808 ≤ x.e.v ∧ x.e.v ≤ 9223372036854775807) :
    RunsZ m Tryz.prog 121 #[.pointer (some ⟨bd, 0, none⟩)] (encP W.heap.size (placeE root (fun _ => 0) 0 b o)) root.size X (ZP W.heap.size (placeE root (fun _ => 0) 0 b o)) W := by
  intro l J hJ hY h0
  obtain ⟨full, hfull⟩ : ∃ full, full = placeE root (fun _ => 0) 0 b o := ⟨_, rfl⟩
  rw [← hfull] at hY hv
  have hlen : full.length = root.size := by rw [hfull, placeE_length]
  have C : PlC l W.heap.size M root b o full X J := ⟨hM, fun r hr => ⟨(hX r hr).1, (hX r hr).2.2⟩, hJ, fun k W1 hk hj hz => hY k W1 (by omega) hj hz, hv⟩
  obtain ⟨W2, hW2, a0, a1, hz, hb⟩ := two2 W (.map #[] 0) (.cells #[.func (.yield l) #[] #[], .map (some W.heap.size), .int .i64 0] 163)
  have hI : PlI l W.heap.size M root b o J 0 0 0 (fun _ => 0) W2 := ⟨hJ 0 W W2 hb h0, a1, ⟨.map [], ⟨#[], 0, a0, ⟨by simp, Go.MapKept.stamped_empty 0, by simp⟩, Nat.le_refl _, rfl⟩, isEnv_nil⟩, hL.keep hb.size (fun i hi => hb.block i (by omega)) _ _ _⟩
  have hc := expr_any C root.size root (Nat.le_refl _) b o (fun _ => 0) 0 0 0 W2 (m - 1) (fun _ h => h) (fun j y hy => by rw [Nat.zero_add, hfull]; exact hy) (by omega) (by omega) (by omega) hI
  have hmm := @run_makeMap Tryz.prog
  have hbl : bd < W.heap.size := World.block_lt_of_cell? W _ hbd
  have HC := Lib.hid (And.intro hc hW2)
  clear hc hI a0 a1 hb hW2 C hJ hY h0 hL
  refine callsIn_of_wp Tryz.func121 rfl trivial ?_ rfl
  simp only [Tryz.ntmps121, List.size_toArray, List.length_cons, List.length_nil, Nat.reduceAdd, Nat.reduceSub, Array.replicate_succ, Array.replicate_zero, List.push_toArray, List.append_toArray, List.nil_append, List.cons_append]
  gi_wp2
  rw [← HC.out.2]
  refine ⟨trivial, fun h => absurd h (by decide), HC.out.1.mono ?_⟩
  rintro e w5 ⟨rfl, hI5, hb5⟩
  have HJ := Lib.hid hI5.1
  clear hI5 hb5
  gi_wp2
  go_end0
  have := HJ.out
  rw [Nat.zero_add] at this
  exact ⟨⟨_, rfl⟩, this⟩
end
end Go.Proofs.YthdhdmmlmbkalaaGreatDoor
namespace Go.Proofs.YthdhdmmlmbkalaaGreatDoor
section
open Go.RowKit Go.Maps

set_option maxRecDepth 100000 in
theorem insort_none (w : World) : Calls Tryz.prog 156 #[.slice none 0 0, .int .i64 0, .int .i64 0] w fun e w' => e = .returned (.tuple #[]) ∧ w = w' := by
  go_enter Tryz.func156, Tryz.ntmps156
  go_wp2
  refine wp_loop_rounds 1 ?_
  rw [rounds_succ]
  go_wp2
  go_end0
  exact ⟨rfl, rfl⟩
set_option maxRecDepth 100000 in
set_option maxHeartbeats 1600000 in
theorem pdq_none (n : Int) (w : World) : Calls Tryz.prog 139 #[.slice none 0 0, .int .i64 0, .int .i64 0, .int .i64 n] w fun e w' => e = .returned (.tuple #[]) ∧ w = w' := by
  have HI := Lib.hid (insort_none w)
  go_enter Tryz.func139, Tryz.ntmps139
  go_wp2_with fail
  refine wp_loop_rounds 1 ?_
  rw [rounds_succ]
  go_wp2_with (go_at_call 156; refine HI.out.mono ?_; rintro e w' ⟨rfl, rfl⟩)
  first | go_end0 | refine bodyPost_ret (results_none rfl _ _ _) rfl ?_
  exact ⟨rfl, rfl⟩
set_option maxRecDepth 100000 in
theorem len64_none (w : World) : Calls Tryz.prog 140 #[.int .u64 0] w fun e w' => (∃ n : Int, e = .returned (.int .i64 n)) ∧ w = w' := by
  go_enter Tryz.func140, Tryz.ntmps140
  go_wp2
  go_ret
  exact ⟨⟨_, rfl⟩, rfl⟩
set_option maxRecDepth 100000 in
theorem sort_none (w : World) : Calls Tryz.prog 124 #[.slice none 0 0] w fun e w' => e = .returned (.tuple #[]) ∧ w = w' := by
  have HI := Lib.hid (fun n => pdq_none n w)
  have HL := Lib.hid (len64_none w)
  go_enter Tryz.func124, Tryz.ntmps124
  go_wp2_with (first | (go_at_call 140; refine HL.out.mono ?_; rintro e w' ⟨⟨nn, rfl⟩, rfl⟩) | (go_at_call 139; refine (HI.out _).mono ?_; rintro e w' ⟨rfl, rfl⟩))
  go_end0
  exact ⟨rfl, rfl⟩
set_option maxRecDepth 100000 in
set_option maxHeartbeats 1600000 in
/-- The iterator over an empty map's keys tells nothing. -/
theorem keys1_none (m l Bm b c : Nat) (W : World) (hm : W.cell? ⟨Bm, 0, none⟩ = some (.map (some b))) (hb : W.heap[b]? = some (.map #[] c)) :
    CallsIn Fence.wide m Tryz.prog 125 #[.func (.yield l) #[] #[], .pointer (some ⟨Bm, 0, none⟩)] W fun e W' => (∃ v, e = .returned v) ∧ Below W.heap.size W W' := by
  have hrg := run_range_map (P := Tryz.prog) W 50 3 56 b #[] c Tryz.underlying50 hb
  have hnx : ∀ ty, (Instr.next (.pointer (some ⟨W.heap.size, 0, none⟩)) false ty).run Tryz.prog (W.alloc (.mapIter (some b) c #[] c)) = .ok (.tuple #[.bool false]) (W.alloc (.mapIter (some b) c #[] c)) := fun ty => by
    rcases run_next_map (P := Tryz.prog) W ty b c c #[] #[] c hb (fun x hx => by simp at hx) (Nat.le_refl _) with ⟨_, h⟩ | ⟨e, he, _⟩
    · exact h
    · simp [leftOf] at he
  have HB := Lib.hid ((Below.refl W.heap.size W).alloc (Nat.le_refl _) (.mapIter (some b) c #[] c))
  refine callsIn_of_wp Tryz.func125 rfl trivial ?_ rfl
  simp only [Tryz.ntmps125, List.size_toArray, List.length_cons, List.length_nil, Nat.reduceAdd, Nat.reduceSub, Array.replicate_succ, Array.replicate_zero, List.push_toArray, List.append_toArray, List.nil_append, List.cons_append]
  gi_wp2
  refine wpIn_loop_rounds 1 ?_
  rw [roundsIn_succ]
  gi_wp2
  go_end0
  exact ⟨⟨_, rfl⟩, HB.out⟩
theorem keys_runs (n Bm b c : Nat) (encs : Nat → Array Value) (X : Nat → Prop) (w : World) (hm : w.cell? ⟨Bm, 0, none⟩ = some (.map (some b))) (hb : w.heap[b]? = some (.map #[] c)) :
    Runs Fence.wide n Tryz.prog 125 #[.pointer (some ⟨Bm, 0, none⟩)] encs 0 X w := by
  intro l J Jx W hW _ hJ _ _ h0
  have hB := World.block_lt_of_cell? w _ hm
  refine (keys1_none n l Bm b c W ((hW.cell hB).trans hm) ((hW.block b (Array.getElem?_eq_some_iff.1 hb).1).trans hb)).mono ?_
  rintro e W' ⟨hv, h⟩
  exact ⟨hv, .inl (hJ 0 W W' h h0)⟩
set_option maxRecDepth 100000 in
set_option maxHeartbeats 1600000 in
theorem append_none (Bm b c : Nat) (w : World) (hm : w.cell? ⟨Bm, 0, none⟩ = some (.map (some b))) (hb : w.heap[b]? = some (.map #[] c)) :
    CallsIn Fence.wide 5 Tryz.prog 138 #[.slice none 0 0, .func (.func 125) #[] #[.pointer (some ⟨Bm, 0, none⟩)]] w fun e w' => e = .returned (.slice none 0 0) ∧ Below w.heap.size w w' := by
  obtain ⟨W0, hW0⟩ : ∃ W0, w.alloc (.cells #[.slice none 0 0] 28) = W0 := ⟨_, rfl⟩
  have hb0 : Below w.heap.size w W0 := by rw [← hW0]; exact (Below.refl _ w).alloc (Nat.le_refl _) _
  have a0 : W0.heap[w.heap.size]? = some (.cells #[.slice none 0 0] 28 (0, 0)) := by rw [← hW0]; exact World.alloc_heap_new _ _
  have hz0 : W0.heap.size = w.heap.size + 1 := by rw [← hW0, World.size_alloc]
  have hlm := World.block_lt_of_cell? w _ hm
  have hlb := (Array.getElem?_eq_some_iff.1 hb).1
  have hr := keys_runs 4 Bm b c (fun _ => #[.int .i64 0]) (fun r => False ∨ r = W0.heap.size + 1) W0 ((hb0.cell hlm).trans hm) ((hb0.block b hlb).trans hb)
  have HW := Lib.hid (And.intro hW0 (And.intro hr (And.intro a0 hb0)))
  clear hr hb0 a0 hm hb hW0
  refine callsIn_of_wp_marks Tryz.func138 rfl trivial ?_ rfl
  simp only [Tryz.ntmps138, List.size_toArray, List.length_cons, List.length_nil, Nat.reduceAdd, Nat.reduceSub, Array.replicate_succ, Array.replicate_zero, List.push_toArray, List.append_toArray, List.nil_append, List.cons_append]
  gi_wp2
  rw [HW.out.1]
  refine wpIn_runs (X := fun _ => False) (w0 := W0) rfl (by decide) (gf := 125) (lb := #[.pointer (some ⟨Bm, 0, none⟩)]) rfl trivial (enters_of Tryz.func125 (by kernel_rfl) rfl)
    HW.out.2.1 (fun r hr => hr.elim) (Below.refl _ _) (fun k => rfl) (fun k W => Below w.heap.size w W ∧ W.heap[w.heap.size]? = some (.cells #[.slice none 0 0] 28 (0, 0))) (fun _ _ _ => False)
    (fun k A B hAB h => ⟨h.1.trans (hAB.mono (by omega)), (hAB.block _ (by omega)).trans h.2⟩) (fun _ _ _ _ _ h => h) ⟨HW.out.2.2.2, HW.out.2.2.1⟩
    (fun k => { tmps := #[], defers := [] })
    ?assign ?body ?done ?stop
  case assign => exact fun l k W K hk _ => absurd hk (Nat.not_lt_zero _)
  case body => exact fun l k W hk _ => absurd hk (Nat.not_lt_zero _)
  case done =>
    rintro D W hD hI hK
    have s0 := Lib.cell_of_heap hI.2 0
    simp only [List.getElem?_toArray, List.getElem?_cons_zero] at s0
    have HKD := Lib.hid (And.intro hK hI.1)
    clear hI hK
    gi_wp2
    refine ⟨by simp, .inl ⟨_, _, rfl, run_takeDeferred HKD.out.1, ?_⟩⟩
    exact ⟨.slice none 0 0, by simp [results, Tryz.results138, go_sem], rfl, HKD.out.2.trans ⟨rfl, rfl, rfl, by simp, fun k hk => World.putObj_heap_other (by omega)⟩⟩
  case stop => exact fun _ _ _ _ _ _ h => h.elim
set_option maxRecDepth 100000 in
theorem sorted_none (Bm b c : Nat) (w : World) (hm : w.cell? ⟨Bm, 0, none⟩ = some (.map (some b))) (hb : w.heap[b]? = some (.map #[] c)) :
    Calls Tryz.prog 103 #[.func (.func 125) #[] #[.pointer (some ⟨Bm, 0, none⟩)]] w fun e w' => e = .returned (.slice none 0 0) ∧ Below w.heap.size w w' := by
  have hc : Calls Tryz.prog 123 #[.func (.func 125) #[] #[.pointer (some ⟨Bm, 0, none⟩)]] w fun e w' => e = .returned (.slice none 0 0) ∧ Below w.heap.size w w' := by
    have HA := Lib.hid (callsIn_wide.1 (append_none Bm b c w hm hb))
    go_enter Tryz.func123, Tryz.ntmps123
    go_wp2_with (go_at_call 138; refine HA.out.mono ?_; rintro e w1 ⟨rfl, hb1⟩)
    go_ret
    exact ⟨rfl, hb1⟩
  have HC := Lib.hid hc
  have HS := Lib.hid sort_none
  clear hc hm hb
  go_enter Tryz.func103, Tryz.ntmps103
  go_wp2_with (first | (go_at_call 123; refine HC.out.mono ?_; rintro e w1 ⟨rfl, hb1⟩) | (go_at_call 124; refine (HS.out _).mono ?_; rintro e w' ⟨rfl, rfl⟩))
  go_ret
  exact ⟨rfl, hb1⟩
end
end Go.Proofs.YthdhdmmlmbkalaaGreatDoor
namespace Go.Proofs.YthdhdmmlmbkalaaGreatDoor
section
open Go.RowKit Go.Maps
attribute [local go_sem] Oper.semAt_some

theorem keys_any (b : Option Nat) (w : World) : Calls Tryz.prog 104 #[.map b] w fun e w' => e = .returned (.func (.func 125) #[] #[.pointer (some ⟨w.heap.size, 0, none⟩)]) ∧ w' = w.alloc (.cells #[.map b] 50) := by
  go_enter Tryz.func104, Tryz.ntmps104
  go_wp2
  go_ret
  exact ⟨rfl, rfl⟩
mutual
theorem placeE_lies : ∀ (e : ET) (env : Int → Int) (met : Int) (b o : Nat) (x : NodeP), x ∈ placeE e env met b o → ∀ (w : World) (M : Nat), LiesE w M e b o → LiesE w M x.e x.b x.o
  | .mk k d v va vc vs rs p ka kc kids, env, met, b, o, x, hx, w, M, h => by
    simp only [placeE, List.mem_cons] at hx
    rcases hx with rfl | hx
    · exact h
    · exact placeER_lies kids _ _ _ _ _ _ _ x hx w M (liesE_held.1 h).2.2.2.2
theorem placeER_lies : ∀ (l : List ET) (i body : Int) (env env' : Int → Int) (met : Int) (b o : Nat) (x : NodeP), x ∈ placeER l i body env env' met b o → ∀ (w : World) (M : Nat), LiesER w M l b o → LiesE w M x.e x.b x.o
  | [], _, _, _, _, _, _, _, x, hx, _, _, _ => by simp [placeER] at hx
  | e :: l, i, body, env, env', met, b, o, x, hx, w, M, h => by
    rw [liesER_cons] at h
    simp only [placeER, List.mem_append] at hx
    rcases hx with hx | hx
    · exact placeE_lies e _ _ _ _ x hx w M h.1
    · exact placeER_lies l _ _ _ _ _ _ _ x hx w M h.2
end
def FrI (B G : Nat) (t : ET) (w : World) (W : World) : Prop := Below B w W ∧ W.heap[G]? = some (.map #[] 0) ∧ W.heap[G + 1]? = some (.cells #[.map (some G)] 50 (0, 0)) ∧ LiesE W (B + 1) t B 0
theorem FrI.below {B G C : Nat} {t : ET} {w A W : World} (hG : B < G) (hC : G + 2 ≤ C) (h : FrI B G t w A) (hb : Below C A W) : FrI B G t w W :=
  ⟨h.1.trans (hb.mono (by omega)), (hb.block _ (by omega)).trans h.2.1, (hb.block _ (by omega)).trans h.2.2.1, h.2.2.2.keep hb.size (fun i hi => hb.block i (by omega)) _ _ _⟩
set_option maxRecDepth 100000 in
set_option maxHeartbeats 6400000 in
theorem free_in (t : ET) (hs : t.size ≤ 100000) (hd : t.depth ≤ 10000) (hn : boundN t ≤ 1000000000) (w : World) (hH : HeldE w w.heap.size t) (hv : ∀ x ∈ placeE t (fun _ => 0) 0 w.heap.size 0, -9223372036854775808 ≤ x.e.v ∧ x.e.v ≤ 9223372036854775807)
    (hf : ∀ x ∈ placeE t (fun _ => 0) 0 w.heap.size 0, x.e.k = 2 ∨ x.e.k = 3 → x.env x.e.v ≠ 0) :
    CallsIn Fence.wide 5 Tryz.prog 80 #[.agg #[.int .i64 t.k, .int .i64 t.d.k, .bool t.d.g, .slice t.d.la t.d.ln t.d.lc, .bool t.d.bb, .string t.d.s, .slice t.d.ia t.d.items.length t.d.ic, .slice t.d.ta t.d.tail.length t.d.tc, .int .i64 t.v, .slice t.va t.vs.length t.vc, .bool t.rs, .int .i64 t.p, .slice t.ka t.kids.length t.kc]] w fun e w' => e = .returned (.slice none 0 0) ∧ Below w.heap.size w w' := by
  obtain ⟨W0, hW0⟩ : ∃ W0, w.alloc (Obj.cells #[.int .i64 t.k, .int .i64 t.d.k, .bool t.d.g, .slice t.d.la t.d.ln t.d.lc, .bool t.d.bb, .string t.d.s, .slice t.d.ia t.d.items.length t.d.ic, .slice t.d.ta t.d.tail.length t.d.tc, .int .i64 t.v, .slice t.va t.vs.length t.vc, .bool t.rs, .int .i64 t.p, .slice t.ka t.kids.length t.kc] 31) = W0 := ⟨_, rfl⟩
  have hb0 : Below w.heap.size w W0 := by rw [← hW0]; exact (Below.refl _ w).alloc (Nat.le_refl _) _
  have a0 : W0.heap[w.heap.size]? = some (Obj.cells #[.int .i64 t.k, .int .i64 t.d.k, .bool t.d.g, .slice t.d.la t.d.ln t.d.lc, .bool t.d.bb, .string t.d.s, .slice t.d.ia t.d.items.length t.d.ic, .slice t.d.ta t.d.tail.length t.d.tc, .int .i64 t.v, .slice t.va t.vs.length t.vc, .bool t.rs, .int .i64 t.p, .slice t.ka t.kids.length t.kc] 31 (0, 0)) := by rw [← hW0]; exact World.alloc_heap_new _ _
  have hz0 : W0.heap.size = w.heap.size + 1 := by rw [← hW0, World.size_alloc]
  have hL0 : LiesE W0 (w.heap.size + 1) t w.heap.size 0 := hH.boxed (Nat.le_refl _) (Nat.le_refl _) hb0 a0
  have hlk := isLookedE_any w.heap.size t W0 (by omega) (hH.keep hb0.size fun q hq => hb0.block q hq) hs hd
  obtain ⟨full, hfull⟩ : ∃ full, full = placeE t (fun _ => 0) 0 w.heap.size 0 := ⟨_, rfl⟩
  have hlen : full.length = t.size := by rw [hfull, placeE_length]
  have hpl := fun x (hx : x ∈ full) => placeE_lies t (fun _ => 0) 0 w.heap.size 0 x (hfull ▸ hx)
  have hrun := fun (W1 : World) (X : Nat → Prop) (bd : Nat) (h1 : ∀ r, X r → w.heap.size + 1 ≤ r ∧ r ≠ bd ∧ r < W1.heap.size) (h2 : w.heap.size + 1 ≤ W1.heap.size) (h3 : W1.cell? ⟨bd, 0, none⟩ = some (.pointer (some ⟨w.heap.size, 0, none⟩))) (h4 : LiesE W1 (w.heap.size + 1) t w.heap.size 0) => placed_runs 4 bd (w.heap.size + 1) w.heap.size 0 t X W1 h1 h2 h3 h4 hn hv
  rw [← hfull] at hv hf
  simp only [← hfull] at hrun
  have HF := Lib.hid (And.intro hv (And.intro hf (And.intro hpl hrun)))
  have HW := Lib.hid (And.intro hW0 (And.intro hlk (And.intro hb0 (And.intro hL0 hlen))))
  clear hv hf hpl hrun hlk hb0 hL0 hlen hfull hW0 a0 hH
  have hmm := @run_makeMap Tryz.prog
  refine callsIn_of_wp_marks Tryz.func80 rfl trivial ?_ rfl
  simp only [Tryz.ntmps80, List.size_toArray, List.length_cons, List.length_nil, Nat.reduceAdd, Nat.reduceSub, Array.replicate_succ, Array.replicate_zero, List.push_toArray, List.append_toArray, List.nil_append, List.cons_append]
  gi_wp2
  rw [HW.out.1]
  refine ⟨trivial, (callsIn_wide.2 HW.out.2.1).mono ?_⟩
  rintro e W1 ⟨rfl, b1⟩
  have hz1 := b1.size
  obtain ⟨W2, hW2, g0, g1, hz2, hb2⟩ := two2 W1 (.map #[] 0) (.cells #[.map (some W1.heap.size)] 50)
  have hL1 : LiesE W1 (w.heap.size + 1) t w.heap.size 0 := HW.out.2.2.2.1.keep b1.size (fun i hi => b1.block i (by omega)) _ _ _
  have hL2 : LiesE W2 (w.heap.size + 1) t w.heap.size 0 := hL1.keep hb2.size (fun i hi => hb2.block i (by omega)) _ _ _
  have hI2 : FrI w.heap.size W1.heap.size t w W2 := ⟨HW.out.2.2.1.trans ((b1.mono (by omega)).trans (hb2.mono (by omega))), g0, g1, hL2⟩
  have H2 := Lib.hid (And.intro hI2 hW2)
  clear hI2 hW2 g0 g1 hb2 hL1 hL2 b1
  gi_wp2
  refine ⟨trivial, (callsIn_wide.2 (placed_any _ _)).mono ?_⟩
  rintro e w' ⟨rfl, rfl⟩
  have hI2 := H2.out.1
  obtain ⟨W3, hW3⟩ : ∃ W3, W2.alloc (.cells #[.pointer (some ⟨w.heap.size, 0, none⟩)] 46) = W3 := ⟨_, rfl⟩
  have hz3 : W3.heap.size = W2.heap.size + 1 := by rw [← hW3, World.size_alloc]
  have hb3 : Below W2.heap.size W2 W3 := by rw [← hW3]; exact (Below.refl _ W2).alloc (Nat.le_refl _) _
  have c3 : W3.heap[W2.heap.size]? = some (.cells #[.pointer (some ⟨w.heap.size, 0, none⟩)] 46 (0, 0)) := by rw [← hW3]; exact World.alloc_heap_new _ _
  have hI3 : FrI w.heap.size W1.heap.size t w W3 := hI2.below (by omega) (by omega) hb3
  have H3 := Lib.hid (And.intro hI3 (And.intro (show (((W1.alloc (.map #[] 0)).alloc (.cells #[.map (some W1.heap.size)] 50)).alloc (.cells #[.pointer (some ⟨w.heap.size, 0, none⟩)] 46)) = W3 by rw [← H2.out.2]; exact hW3) c3))
  clear hI2 hI3 hb3 hW3 c3
  gi_wp2
  obtain ⟨mb, hmb⟩ : ∃ mb, W3.heap.size + 2 = mb := ⟨_, rfl⟩
  have HMB := Lib.hid hmb
  clear hmb
  rw [H3.out.2.1]
  refine wpIn_runsZ (X := fun _ => False) (gf := 121) (lb := #[.pointer (some ⟨W1.heap.size + 1 + 1, 0, none⟩)]) (encs := encP (mb) full) (N := t.size) (Z := ZP (mb) full) rfl (enters_of Tryz.func121 (by kernel_rfl) rfl) ?hseq (fun r hr => hr.elim) (fun k => rfl)
    (fun k W => FrI w.heap.size W1.heap.size t w W) (fun k A B hAB h => h.below (by omega) (by omega) hAB) (fun k A o ⟨n, h⟩ => ⟨n, h.of_block (World.putObj_heap_other (by have := HMB.out; omega))⟩) H3.out.1
    (fun k => { tmps := #[.agg #[.int .i64 t.k, .int .i64 t.d.k, .bool t.d.g, .slice t.d.la t.d.ln t.d.lc, .bool t.d.bb, .string t.d.s, .slice t.d.ia t.d.items.length t.d.ic, .slice t.d.ta t.d.tail.length t.d.tc, .int .i64 t.v, .slice t.va t.vs.length t.vc, .bool t.rs, .int .i64 t.p, .slice t.ka t.kids.length t.kc], .pointer (some ⟨w.heap.size, 0, none⟩), .slice none 0 0, .pointer (some ⟨W1.heap.size + 1, 0, none⟩), .pointer (some ⟨(ndP full k).b, (ndP full k).o, none⟩), .map (some (mb)), .agg #[.int .i64 t.k, .int .i64 t.d.k, .bool t.d.g, .slice t.d.la t.d.ln t.d.lc, .bool t.d.bb, .string t.d.s, .slice t.d.ia t.d.items.length t.d.ic, .slice t.d.ta t.d.tail.length t.d.tc, .int .i64 t.v, .slice t.va t.vs.length t.vc, .bool t.rs, .int .i64 t.p, .slice t.ka t.kids.length t.kc], .bool true, .bool false, .map (some W1.heap.size), .func (.func 121) #[] #[.pointer (some ⟨W1.heap.size + 1 + 1, 0, none⟩)], .pointer (some ⟨(ndP full k).b, (ndP full k).o, none⟩), .map (some (mb)), undef, undef, undef, undef, undef, undef, undef, undef, undef, undef, undef, undef, undef, undef, undef, undef, undef, undef, undef, undef, undef, undef, undef, undef, undef, undef, undef, undef, undef, undef], defers := [] })
    ?assign ?body ?done
  case hseq =>
    intro V hbV hzV
    have := HF.out.2.2.2 V (fun r => False ∨ r = W3.heap.size + 1) (W1.heap.size + 1 + 1) (fun r hr => by rcases hr with hr | rfl; exact hr.elim; omega) (by omega) (by
      have c3 := (hbV.block W2.heap.size (by omega)).trans H3.out.2.2
      rw [show W1.heap.size + 1 + 1 = W2.heap.size by omega, Lib.cell_of_heap c3]
      rfl) (H3.out.1.2.2.2.keep hbV.size (fun i hi => hbV.block i (by omega)) _ _ _)
    rw [hzV, HMB.out] at this
    exact this
  case assign =>
    intro l k W K _ hK
    simp only [encP]
    gi_wp2
    exact hK
  case body =>
    rintro l k W hkN hzW hI ⟨nn, hE⟩
    obtain ⟨⟨xb, xo, x, env⟩, hat⟩ : ∃ x, full[k]? = some x := ⟨full[k]'(by rw [HW.out.2.2.2.2]; exact hkN), List.getElem?_eq_getElem _⟩
    have hmem := List.mem_of_getElem? hat
    have hx := HF.out.2.2.1 _ hmem W (w.heap.size + 1) hI.2.2.2
    have hvx := HF.out.1 _ hmem
    have hfx := HF.out.2.1 _ hmem
    simp only at hx hvx hfx
    rw [ndP_eq hat] at hE ⊢
    simp only at hE ⊢
    have hcell := (liesE_held.1 hx).2.1
    have c0 : W.cell? ⟨xb, xo, none⟩ = some (.int .i64 x.k) := hcell 0 _ rfl
    have c8 : W.cell? ⟨xb, xo + 8, none⟩ = some (.int .i64 x.v) := hcell 8 _ rfl
    have hlook := (hE.look x.v hvx).1
    have HI := Lib.hid hI
    clear hI hx hcell hmem hat
    by_cases h2 : x.k = 2
    · have q := hfx (.inl h2)
      have q1 : (env x.v == 0) = false := beq_eq_false_iff_ne.2 q
      rw [h2] at c0
      clear hfx h2
      gi_wp2
      exact ⟨But.refl _ _, HI.out⟩
    by_cases h3 : x.k = 3
    · have q := hfx (.inr h3)
      have q1 : (env x.v == 0) = false := beq_eq_false_iff_ne.2 q
      rw [h3] at c0
      clear hfx h2 h3
      gi_wp2
      exact ⟨But.refl _ _, HI.out⟩
    have q2 : (x.k == 2) = false := beq_eq_false_iff_ne.2 h2
    have q3 : (x.k == 3) = false := beq_eq_false_iff_ne.2 h3
    clear hfx h2 h3
    gi_wp2
    exact ⟨But.refl _ _, HI.out⟩
  case done =>
    rintro D W hD hI hK
    have hzW := (Array.getElem?_eq_some_iff.1 hI.2.2.1).1
    have y0 : W.cell? ⟨W1.heap.size + 1, 0, none⟩ = some (.map (some W1.heap.size)) := by rw [Lib.cell_of_heap hI.2.2.1]; rfl
    obtain ⟨V, hV⟩ : ∃ V, W.alloc (.cells #[.map (some W1.heap.size)] 50) = V := ⟨_, rfl⟩
    have hbV : Below W.heap.size W V := by rw [← hV]; exact (Below.refl _ W).alloc (Nat.le_refl _) _
    have cV : V.cell? ⟨W.heap.size, 0, none⟩ = some (.map (some W1.heap.size)) := by rw [← hV, Lib.cell_of_heap (World.alloc_heap_new W _)]; rfl
    have hS := sorted_none W.heap.size W1.heap.size 0 V cV ((hbV.block _ (by omega)).trans hI.2.1)
    have hDl : D < W.heap.size := (Array.getElem?_eq_some_iff.1 hK).1
    have HK := Lib.hid (And.intro hK (And.intro hI (And.intro hbV (And.intro hS hV))))
    clear hK hI hbV hS hV cV
    gi_wp2
    refine ⟨trivial, (callsIn_wide.2 (keys_any _ _)).mono ?_⟩
    rintro e w' ⟨rfl, rfl⟩
    rw [HK.out.2.2.2.2]
    gi_wp2
    refine ⟨trivial, (callsIn_wide.2 HK.out.2.2.2.1).mono ?_⟩
    rintro e V2 ⟨rfl, b2⟩
    have hVD : V2.heap[D]? = some (.deferred (some [])) := (b2.block D (by have := HK.out.2.2.1.size; omega)).trans ((HK.out.2.2.1.block D hDl).trans HK.out.1)
    have hb2 := HK.out.2.1.1.trans ((HK.out.2.2.1.mono (by have := HK.out.2.1.1.size; omega)).trans (b2.mono (by have := HK.out.2.2.1.size; have := HK.out.2.1.1.size; omega)))
    have HV := Lib.hid (And.intro hVD hb2)
    clear hVD hb2 b2
    gi_wp2
    refine ⟨by simp, .inl ⟨_, _, rfl, run_takeDeferred HV.out.1, ?_⟩⟩
    exact ⟨.slice none 0 0, by simp [results, Tryz.results80, go_sem], rfl, HV.out.2.trans ⟨rfl, rfl, rfl, by simp, fun k hk => World.putObj_heap_other (by omega)⟩⟩
end
end Go.Proofs.YthdhdmmlmbkalaaGreatDoor
