/-
  core.Good of expressions made of variables, sets, lambdas, lets and the primitives of boxes. What is bound where: environments, and the walk's bind and what releases it. core.placed's walk: what is told where, and with what bound.
-/
import Derived.Test.YthdhdmmlmbkalaaGreatDoorRVgb
import Derived.LoopTactic
import Derived.Deep.OwnRows
import Derived.Test.YthdhdmmlmbkalaaGreatDoorJr11
set_option linter.unusedVariables false
set_option linter.unusedSimpArgs false
set_option linter.unusedSectionVars false
set_option linter.unnecessarySimpa false
namespace Go.Proofs.YthdhdmmlmbkalaaGreatDoor
section
open Go.RowKit

def NumOk (p : Int) (n : Nat) : Prop := (p = 35 ∧ n = 1) ∨ (p = 36 ∧ n = 1) ∨ (p = 37 ∧ n = 2)
def VarOk (v : Int) : Prop := 1 ≤ v ∧ v ≤ 1000000
/-- Good by itself, of these kinds. -/
def GoodOne (e : ET) : Prop := ZeroD e.d ∧ e.rs = false ∧ ((e.k = 2 ∧ VarOk e.v ∧ e.vs = [] ∧ e.p = 0 ∧ e.kids.length = 0) ∨ (e.k = 3 ∧ VarOk e.v ∧ e.vs = [] ∧ e.p = 0 ∧ e.kids.length = 1) ∨ (e.k = 8 ∧ VarOk e.v ∧ e.vs = [] ∧ e.p = 0 ∧ e.kids.length = 2) ∨
  (e.k = 7 ∧ e.v = 0 ∧ e.vs = [] ∧ NumOk e.p e.kids.length) ∨ (e.k = 5 ∧ e.v = 0 ∧ (∀ v ∈ e.vs, VarOk v) ∧ e.p = 0 ∧ e.kids.length = 1))
theorem goodDAt_of {d : LT} {w : World} {M : Nat} (hz : ZeroD d) (hM : M ≤ w.heap.size) (hH : Held w M d) : GoodDAt d.la d.ia d.ta d.lc d.ic d.tc w := by
  intro W hb
  have h := goodD_zero d hz W ((hH.keep hb.size fun q hq => hb.block q (by omega)).upP (by have := hb.size; omega))
  obtain ⟨z0, z1, z2, z3, z4, z5, z6⟩ := hz
  simp only [z0, z1, z2, z3, z4, z5, z6, List.length_nil] at h
  exact h
theorem aloneOne (e : ET) (hg : GoodOne e) (W : World) (M : Nat) (hM : M ≤ W.heap.size) (hH : HeldE W M e) :
    Calls Tryz.prog 28 #[.agg #[.int .i64 e.k, .int .i64 e.d.k, .bool e.d.g, .slice e.d.la e.d.ln e.d.lc, .bool e.d.bb, .string e.d.s, .slice e.d.ia e.d.items.length e.d.ic, .slice e.d.ta e.d.tail.length e.d.tc, .int .i64 e.v, .slice e.va e.vs.length e.vc, .bool e.rs, .int .i64 e.p, .slice e.ka e.kids.length e.kc]] W fun r W' => r = .returned (.bool true) ∧ Below W.heap.size W W' := by
  obtain ⟨hz, hrs, h⟩ := hg
  have hG := goodDAt_of hz hM hH.1.1
  have hV := hH.1.2
  have hzz := hz
  obtain ⟨z0, z1, z2, z3, z4, z5, z6⟩ := hz
  simp only [z0, z1, z2, z3, z4, z5, z6, hrs, List.length_nil]
  rcases h with ⟨h1, h2, h3, h4, h5⟩ | ⟨h1, h2, h3, h4, h5⟩ | ⟨h1, h2, h3, h4, h5⟩ | ⟨h1, h2, h3, h4⟩ | ⟨h1, h2, h3, h4, h5⟩
  · simp only [h1, h3, h4, h5, List.length_nil]
    exact goodAlone_2 e.d.la e.d.ia e.d.ta e.va e.ka e.d.lc e.d.ic e.d.tc e.vc e.kc e.v h2.1 h2.2 W hG
  · simp only [h1, h3, h4, h5, List.length_nil]
    exact goodAlone_3 e.d.la e.d.ia e.d.ta e.va e.ka e.d.lc e.d.ic e.d.tc e.vc e.kc e.v h2.1 h2.2 W hG
  · simp only [h1, h3, h4, h5, List.length_nil]
    exact goodAlone_8 e.d.la e.d.ia e.d.ta e.va e.ka e.d.lc e.d.ic e.d.tc e.vc e.kc e.v h2.1 h2.2 W hG
  · simp only [h1, h2, h3, List.length_nil]
    refine goodAlone_7 e.d.la e.d.ia e.d.ta e.va e.ka e.d.lc e.d.ic e.d.tc e.vc e.kc e.p e.kids.length (fun V => ?_) W hG
    rcases h4 with ⟨hp, hn⟩ | ⟨hp, hn⟩ | ⟨hp, hn⟩ <;> rw [hp, hn]
    · exact arity35 V
    · exact arity36 V
    · exact arity37 V
  · simp only [h1, h2, h4, h5]
    exact goodAlone_5 e.d.la e.d.ia e.d.ta e.va e.ka e.d.lc e.d.ic e.d.tc e.vc e.kc W e.vs (fun V hb => areVars_yes M e.va e.vc e.vs V (hV.keep fun q hq => hb.block q (by omega)) h3) hG
/-- core.Good says true of a tree of these, if nothing is bound twice. -/
theorem goodE_one (t : ET) (hs : t.size ≤ 5000) (w : World) (hH : HeldE w w.heap.size t) (hA : ∀ x ∈ seqE t 1 w.heap.size 0, GoodOne x.e) (hn : ((seqE t 1 w.heap.size 0).flatMap fun x => bindE x.e).Nodup) (hl : ((seqE t 1 w.heap.size 0).flatMap fun x => bindE x.e).length ≤ 1000000000) :
    Calls Tryz.prog 14 #[.agg #[.int .i64 t.k, .int .i64 t.d.k, .bool t.d.g, .slice t.d.la t.d.ln t.d.lc, .bool t.d.bb, .string t.d.s, .slice t.d.ia t.d.items.length t.d.ic, .slice t.d.ta t.d.tail.length t.d.tc, .int .i64 t.v, .slice t.va t.vs.length t.vc, .bool t.rs, .int .i64 t.p, .slice t.ka t.kids.length t.kc]] w fun e w' => e = .returned (.bool true) ∧ Below w.heap.size w w' := by
  refine goodE_any t hs w hH (fun x hx W hW hL => ?_) hn hl (fun x hx => ?_)
  · exact aloneOne x.e (hA x hx) W (w.heap.size + 1) hW (liesE_held.1 hL).2.2
  · obtain ⟨_, _, h⟩ := hA x hx
    rcases h with ⟨_, h, _⟩ | ⟨_, h, _⟩ | ⟨_, h, _⟩ | ⟨_, h, _⟩ | ⟨_, h, _⟩
    · unfold VarOk at h; omega
    · unfold VarOk at h; omega
    · unfold VarOk at h; omega
    · omega
    · omega
end
end Go.Proofs.YthdhdmmlmbkalaaGreatDoor
namespace Go.Proofs.YthdhdmmlmbkalaaGreatDoor
section
open Go.RowKit Go.Maps

def updE (env : Int → Int) (v x : Int) : Int → Int := fun u => if u = v then x else env u
/-- Behind the binding of these, from that number on: of two that are one the first counts. -/
def envB (env : Int → Int) : List Int → Int → Int → Int
  | [], _ => env
  | v :: vs, f => updE (envB env vs (f + 1)) v f
/-- The map says of each variable what env does. -/
def IsEnv (D : DataW Unit) (env : Int → Int) : Prop := ∀ v, D.atKey (.int .i64 v) (.lit (.int .i64 0)) = .lit (.int .i64 (env v))
theorem isEnv_nil : IsEnv (.map []) fun _ => 0 := fun v => rfl
theorem IsEnv.put {D : DataW Unit} {env : Int → Int} (h : IsEnv D env) (hm : IsMap D) (v x : Int) : IsEnv (D.put (.int .i64 v) (.lit (.int .i64 x))) (updE env v x) := fun u => by
  by_cases e : u = v
  · subst e
    rw [atKey_put_same (k := .int .i64 u) hm trivial]
    simp [updE]
  · rw [atKey_put_other (fun he => e (by injection he)), h u]
    simp [updE, e]
theorem zeroI (w : World) : (zeroValue 3).run Tryz.prog w = .ok (.int .i64 0) w := by kernel_rfl
/-- The map in block b says what env does, by at most n entries. -/
def EnvAt (W : World) (b n : Nat) (env : Int → Int) : Prop := ∃ D, W.ownsMap Tryz.prog 3 (plainElem (H := Unit) Tryz.prog 3) b n D ∧ IsEnv D env
theorem EnvAt.of_block {W W' : World} {b n : Nat} {env : Int → Int} (h : EnvAt W b n env) (e : W'.heap[b]? = W.heap[b]?) : EnvAt W' b n env := let ⟨D, h1, h2⟩ := h; ⟨D, ownsMap_of_block h1 e, h2⟩
theorem EnvAt.mono {W : World} {b n n' : Nat} {env : Int → Int} (h : EnvAt W b n env) (hn : n ≤ n') : EnvAt W b n' env := let ⟨D, h1, h2⟩ := h; ⟨D, h1.mono hn, h2⟩
theorem EnvAt.lt {W : World} {b n : Nat} {env : Int → Int} (h : EnvAt W b n env) : b < W.heap.size := let ⟨_, h1, _⟩ := h; h1.lt
set_option maxRecDepth 100000 in
theorem EnvAt.look {W : World} {b n : Nat} {env : Int → Int} (h : EnvAt W b n env) (v : Int) (hv : -9223372036854775808 ≤ v ∧ v ≤ 9223372036854775807) :
    (Instr.lookup 68 (.map (some b)) (.int .i64 v) false).run Tryz.prog W = .ok (.int .i64 (env v)) W ∧ (-9223372036854775808 ≤ env v ∧ env v ≤ 9223372036854775807) := by
  obtain ⟨D, h1, h2⟩ := h
  obtain ⟨c, hr, hat, hw⟩ := h1.lookup_int keyI Tryz.underlying68 Tryz.underlying3 (zeroI _) (keyOf_int_mk Tryz.underlying3 (WalkArith.wf_i64 hv))
  rw [h2 v] at hat
  have e : env v = c := by injection hat with hat; injection hat
  rw [e]
  have hmin : IntKind.i64.min = -9223372036854775808 := rfl
  exact ⟨hr, by simpa [Lit.wf, hmin] using hw⟩
theorem EnvAt.store {W : World} {b n : Nat} {env : Int → Int} (h : EnvAt W b n env) (hn : n < 4000000000000000000) (v x : Int) (hv : -9223372036854775808 ≤ v ∧ v ≤ 9223372036854775807) (hx : -9223372036854775808 ≤ x ∧ x ≤ 9223372036854775807) :
    ∃ W', (Instr.mapUpdate 68 (.map (some b)) (.int .i64 v) (.int .i64 x)).run Tryz.prog W = .ok () W' ∧ EnvAt W' b (n + 1) (updE env v x) ∧ W.grownBy W' (some b) := by
  obtain ⟨D, h1, h2⟩ := h
  obtain ⟨W', hr, ho, hg⟩ := h1.update keyI Tryz.underlying68 (by unfold maxLen; omega) (keyOf_int_mk Tryz.underlying3 (WalkArith.wf_i64 hv)) (plainElem_int Tryz.underlying3 (WalkArith.wf_i64 hx))
  exact ⟨W', hr, ⟨_, ho, h2.put h1.isMap v x⟩, hg⟩
theorem made_ints (n : Nat) : madeCells #[Value.int .i64 0] n = ((List.replicate n (0 : Int)).map (Value.int .i64)).toArray := by
  apply Array.ext
  · simp [madeCells]
  · intro i h1 h2
    simp [madeCells, Nat.mod_one]
/-- What binds a variable again. -/
def WereAt (W : World) (g len : Nat) (env : Int → Int) (vs : List Int) (from_ : Int) (q : Nat) : Prop := ∃ ws : List Int, ws.length = len ∧ W.heap[g]? = some (.cells (ws.map (Value.int .i64)).toArray 3 (0, 0)) ∧ ∀ j (h : j < vs.length), q ≤ j → ws[j]? = some (envB env (vs.drop (j + 1)) (from_ + (j + 1 : Nat)) vs[j]) ∧ (-9223372036854775808 ≤ envB env (vs.drop (j + 1)) (from_ + (j + 1 : Nat)) vs[j] ∧ envB env (vs.drop (j + 1)) (from_ + (j + 1 : Nat)) vs[j] ≤ 9223372036854775807)
theorem WereAt.of_block {W W' : World} {g len q : Nat} {env : Int → Int} {vs : List Int} {f : Int} (h : WereAt W g len env vs f q) (e : W'.heap[g]? = W.heap[g]?) : WereAt W' g len env vs f q := let ⟨ws, h1, h2, h3⟩ := h; ⟨ws, h1, e.trans h2, h3⟩
theorem WereAt.step {W : World} {g len q : Nat} {env : Int → Int} {vs : List Int} {f : Int} (h : WereAt W g len env vs f (q + 1)) (hl : vs.length = len) (hq : q < vs.length) (c : Int) (hc : c = envB env (vs.drop (q + 1)) (f + (q + 1 : Nat)) vs[q]) (hcb : -9223372036854775808 ≤ c ∧ c ≤ 9223372036854775807) :
    WereAt (W.setCell ⟨g, q, none⟩ (.int .i64 c)) g len env vs f q := by
  obtain ⟨ws, h1, h2, h3⟩ := h
  refine ⟨ws.set q c, by simpa using h1, ?_, fun j hj hqj => ?_⟩
  · simp [World.setCell, Array.getElem?_modify, h2, List.map_set]
  · by_cases e : q = j
    · subst e
      rw [List.getElem?_set_self (by omega), ← hc]
      exact ⟨rfl, hcb⟩
    · rw [List.getElem?_set_ne e]
      exact h3 j hj (by omega)
theorem drop_at (vs : List Int) (q : Nat) (h : q < vs.length) (env : Int → Int) (f : Int) : envB env (vs.drop q) (f + q) = updE (envB env (vs.drop (q + 1)) (f + (q + 1 : Nat))) vs[q] (f + q) := by
  rw [List.drop_eq_getElem_cons h]
  simp only [envB]
  rw [show f + (q : Int) + 1 = f + ((q + 1 : Nat) : Int) by omega]
/-- The variables lie there, outside the walk's own map and struct. -/
def VarsAt (W : World) (mb : Nat) (va : Option Addr) (vs : List Int) : Prop := vs.length ≤ 1000000000000 ∧ (0 < vs.length → va = some ⟨blk va, ofs va, none⟩ ∧ blk va < W.heap.size ∧ blk va ≠ mb ∧ blk va ≠ mb + 1) ∧ ∀ i (h : i < vs.length), W.cell? ⟨blk va, ofs va + i, none⟩ = some (.int .i64 vs[i]) ∧ -9223372036854775808 ≤ vs[i] ∧ vs[i] ≤ 9223372036854775807
theorem VarsAt.keep {W W' : World} {mb : Nat} {va : Option Addr} {vs : List Int} (h : VarsAt W mb va vs) (hs : W.heap.size ≤ W'.heap.size) (hk : ∀ k, k < W.heap.size → k ≠ mb → k ≠ mb + 1 → 0 < vs.length → k = blk va → W'.heap[k]? = W.heap[k]?) : VarsAt W' mb va vs :=
  ⟨h.1, fun hp => ⟨(h.2.1 hp).1, Nat.lt_of_lt_of_le (h.2.1 hp).2.1 hs, (h.2.1 hp).2.2⟩, fun i hi => ⟨(World.cell?_of_block (w := W) (a := ⟨blk va, ofs va + i, none⟩) (hk _ (h.2.1 (by omega)).2.1 (h.2.1 (by omega)).2.2.1 (h.2.1 (by omega)).2.2.2 (by omega) rfl)).trans (h.2.2 i hi).1, (h.2.2 i hi).2⟩⟩
/-- What bind leaves: its variables' blocks, what was bound, and the map. -/
def BoundAt (W : World) (s mb : Nat) (va : Option Addr) (vc : Nat) (vs : List Int) (env : Int → Int) (f : Int) : Prop :=
  W.heap[s]? = some (.cells #[.pointer (some ⟨mb + 1, 0, none⟩)] 175 (0, 0)) ∧ W.heap[s + 1]? = some (.cells #[.slice va vs.length vc] 28 (0, 0)) ∧ WereAt W (s + 2) vs.length env vs f 0 ∧ W.heap[s + 3]? = some (.cells #[.slice (some ⟨s + 2, 0, none⟩) vs.length vs.length] 28 (0, 0))
set_option maxRecDepth 100000 in
set_option maxHeartbeats 6400000 in
theorem bind_any (mb n : Nat) (y : Value) (met : Int) (va : Option Addr) (vc : Nat) (vs : List Int) (env : Int → Int) (f : Int) (W : World) (hS : W.heap[mb + 1]? = some (.cells #[y, .map (some mb), .int .i64 met] 163 (0, 0)))
    (hD : EnvAt W mb n env) (hn : n + vs.length < 1000000000000) (hf : 0 ≤ f ∧ f ≤ 1000000000000) (hV : VarsAt W mb va vs) :
    Calls Tryz.prog 155 #[.pointer (some ⟨mb + 1, 0, none⟩), .slice va vs.length vc, .int .i64 f] W fun e W' =>
      e = .returned (.func (.func 170) #[] #[.pointer (some ⟨W.heap.size + 1, 0, none⟩), .pointer (some ⟨W.heap.size + 3, 0, none⟩), .pointer (some ⟨W.heap.size, 0, none⟩)]) ∧
      BoundAt W' W.heap.size mb va vc vs env f ∧ EnvAt W' mb (n + vs.length) (envB env vs f) ∧ But (fun r => r = mb) W W' ∧ Below mb W W' := by
  obtain ⟨WI, hWI, a0, a1, a2, a3, hz, hb⟩ := four4y W (.cells #[.pointer (some ⟨mb + 1, 0, none⟩)] 175) (.cells #[.slice va vs.length vc] 28) (.cells (madeCells #[.int .i64 0] vs.length) 3) (.cells #[.slice (some ⟨W.heap.size + 1 + 1, 0, none⟩) vs.length vs.length] 28)
  have hmk := run_make_row' (P := Tryz.prog) 28 3 (.int .i64 0) 8 Tryz.underlying28 infoInt rfl .i64 .i64 vs.length (by omega) (by omega)
  have hlt : mb + 1 < W.heap.size := (Array.getElem?_eq_some_iff.1 hS).1
  have hSI := (hb.block (mb + 1) hlt).trans hS
  have hDI := hD.of_block (hb.block mb (by omega))
  have hwr : WereAt WI (W.heap.size + 2) vs.length env vs f vs.length := ⟨List.replicate vs.length 0, by simp, by rw [a2, made_ints], fun j hj hle => by omega⟩
  have HI := Lib.hid (And.intro hSI (And.intro hDI (And.intro hV (And.intro a0 (And.intro a1 (And.intro a3 (And.intro hwr hb)))))))
  have HW := Lib.hid hWI
  have hvl := hV.1
  clear hSI hDI a0 a1 a2 a3 hwr hWI hb hS hD hV
  have hmix : Tryz.prog.follows .mixedOrders = true := by kernel_rfl
  go_enter Tryz.func155, Tryz.ntmps155
  go_wp2_with fail
  rw [← HW.out]
  go_loopw [8] (fun i wr => ∃ q : Nat, q ≤ vs.length ∧ i = .int .i64 ((q : Int) - 1) ∧ EnvAt wr mb (n + (vs.length - q)) (envB env (vs.drop q) (f + q)) ∧ WereAt wr (W.heap.size + 2) vs.length env vs f q ∧ But (fun r => r = mb ∨ r = W.heap.size + 2) WI wr ∧ Below mb W wr)
    (fun i _ => ((intOf i) + 1).toNat)
  case atStart => exact ⟨vs.length, Nat.le_refl _, rfl, by simpa [envB] using HI.out.2.1, HI.out.2.2.2.2.2.2.1, But.refl _ _, HI.out.2.2.2.2.2.2.2.mono (by omega)⟩
  case round =>
    obtain ⟨q, hq, rfl, hE, hWr, hbut, hbel⟩ := hrel
    have hbz := hbut.1
    have hk : ∀ k, k < WI.heap.size → k ≠ mb → k ≠ W.heap.size + 2 → wr.heap[k]? = WI.heap[k]? := fun k hk h1 h2 => hbut.2 k hk (fun h => by omega)
    have x0 := (hk (W.heap.size) (by omega) (by omega) (by omega)).trans HI.out.2.2.2.1
    have x1 := (hk (W.heap.size + 1) (by omega) (by omega) (by omega)).trans HI.out.2.2.2.2.1
    have x3 := (hk (W.heap.size + 3) (by omega) (by omega) (by omega)).trans HI.out.2.2.2.2.2.1
    have xs := (hk (mb + 1) (by omega) (by omega) (by omega)).trans HI.out.1
    cases q with
    | zero =>
      have q0 : decide (0 ≤ ((0 : Nat) : Int) - 1) = false := decide_eq_false (by omega)
      have HE := Lib.hid (And.intro hE (And.intro hWr (And.intro hbut (And.intro hbel (And.intro x0 (And.intro x1 x3))))))
      clear hE hWr hbut hbel x0 x1 x3 xs hk
      go_wp2_with fail
      go_ret
      obtain ⟨hE, hWr, hbut, hbel, x0, x1, x3⟩ := HE.out
      refine ⟨rfl, ⟨x0, x1, hWr, x3⟩, by simpa using hE, ⟨by omega, fun k hk hx => ?_⟩, hbel⟩
      exact (hbut.2 k (by omega) (fun h => by omega)).trans (HI.out.2.2.2.2.2.2.2.block k hk)
    | succ p =>
      have hp : p < vs.length := by omega
      obtain ⟨hva1, hva2, hva3, hva4⟩ := HI.out.2.2.1.2.1 (by omega)
      have hcx := HI.out.2.2.1.2.2 p hp
      obtain ⟨z, hze⟩ : ∃ z, vs[p] = z := ⟨_, rfl⟩
      rw [hze] at hcx
      obtain ⟨bb, off, hvq⟩ : ∃ b off, va = some ⟨b, off, none⟩ := ⟨_, _, hva1⟩
      subst hvq
      simp only [blk, ofs] at hva2 hva3 hva4 hcx
      have xv : wr.cell? ⟨bb, off + p, none⟩ = some (.int .i64 z) := (World.cell?_of_block (w := WI) (a := ⟨bb, off + p, none⟩) (hk bb (by omega) (by omega) (by omega))).trans ((HI.out.2.2.2.2.2.2.2.cell (p := ⟨bb, off + p, none⟩) hva2).trans hcx.1)
      have y0 : wr.cell? ⟨W.heap.size, 0, none⟩ = some (.pointer (some ⟨mb + 1, 0, none⟩)) := by rw [Lib.cell_of_heap x0]; rfl
      have y1 : wr.cell? ⟨W.heap.size + 1, 0, none⟩ = some (.slice (some ⟨bb, off, none⟩) vs.length vc) := by rw [Lib.cell_of_heap x1]; rfl
      have y3 : wr.cell? ⟨W.heap.size + 1 + 1 + 1, 0, none⟩ = some (.slice (some ⟨W.heap.size + 1 + 1, 0, none⟩) vs.length vs.length) := by rw [Lib.cell_of_heap x3]; rfl
      have ym : wr.cell? ⟨mb + 1, 1, none⟩ = some (.map (some mb)) := by rw [Lib.cell_of_heap xs]; rfl
      obtain ⟨ws, w1, w2, w3⟩ := id hWr
      have yr : wr.cell? ⟨W.heap.size + 1 + 1, p, none⟩ = some (.int .i64 (ws[p]'(by omega))) := by rw [Lib.cell_of_heap w2]; simp [show p < ws.length by omega]
      have yf : wr.frozen? ⟨W.heap.size + 1 + 1, p, none⟩ = false := Lib.frozen_of_heap w2 _
      obtain ⟨x, hx⟩ : ∃ x, (ws[p]'(by omega)) = x := ⟨_, rfl⟩
      rw [hx] at yr
      obtain ⟨hlk, hlb⟩ := hE.look z hcx.2
      obtain ⟨c, hc⟩ : ∃ c, envB env (vs.drop (p + 1)) (f + (p + 1 : Nat)) z = c := ⟨_, rfl⟩
      rw [hc] at hlk hlb
      have hst := hWr.step rfl hp c (by rw [hze]; exact hc.symm) hlb
      obtain ⟨wr2, hwr2⟩ : ∃ wr2, (wr.drew.setCell ⟨W.heap.size + 1 + 1, p, none⟩ (.int .i64 c)) = wr2 := ⟨_, rfl⟩
      have q0 : decide (0 ≤ (p : Int)) = true := decide_eq_true (by omega)
      have hpl : ((p + 1 : Nat) : Int) - 1 = (p : Int) := by omega
      have hlk' : (Instr.lookup 68 (.map (some mb)) (.int .i64 z) false).run Tryz.prog wr.drew = .ok (.int .i64 c) wr.drew := by
        have := (hE.of_block (W' := wr.drew) rfl).look z hcx.2
        rw [hc] at this
        exact this.1
      have HE := Lib.hid (And.intro hE (And.intro hst (And.intro hbut (And.intro hbel (And.intro x0 (And.intro x1 (And.intro x3 (And.intro xs (And.intro hze (And.intro hcx hc))))))))))
      clear hE hWr hbut hbel x0 x1 x3 xs hk hst w1 w2 w3 hx hcx hze hva1
      rw [hpl]
      go_wp2_with fail
      go_region
      obtain ⟨hE, hst, hbut, hbel, x0, x1, x3, xs, hze, hcx, hc⟩ := HE.out
      have hst2 : WereAt wr2 (W.heap.size + 2) vs.length env vs f p := by rw [← hwr2]; exact hst
      have hz2 : wr2.heap.size = wr.heap.size := by rw [← hwr2, setCell_size]; rfl
      have hk2 : ∀ k, k ≠ W.heap.size + 2 → wr2.heap[k]? = wr.heap[k]? := fun k hk => by rw [← hwr2]; exact Below.heap_setCell _ _ _ _ (by show k ≠ W.heap.size + 1 + 1; exact hk)
      have hb2 : Below mb W wr2 := by rw [← hwr2]; exact hbel.drew.setCell (p := ⟨W.heap.size + 1 + 1, p, none⟩) (by show mb ≤ W.heap.size + 1 + 1; omega) _
      have z0 : wr2.cell? ⟨W.heap.size, 0, none⟩ = some (.pointer (some ⟨mb + 1, 0, none⟩)) := (World.cell?_of_block (w := wr) (hk2 _ (by show W.heap.size ≠ W.heap.size + 2; omega))).trans y0
      have z1 : wr2.cell? ⟨W.heap.size + 1, 0, none⟩ = some (.slice (some ⟨bb, off, none⟩) vs.length vc) := (World.cell?_of_block (w := wr) (hk2 _ (by show W.heap.size + 1 ≠ W.heap.size + 2; omega))).trans y1
      have zm : wr2.cell? ⟨mb + 1, 1, none⟩ = some (.map (some mb)) := (World.cell?_of_block (w := wr) (hk2 _ (by show mb + 1 ≠ W.heap.size + 2; omega))).trans ym
      have zv : wr2.cell? ⟨bb, off + p, none⟩ = some (.int .i64 z) := (World.cell?_of_block (w := wr) (hk2 _ (by show bb ≠ W.heap.size + 2; omega))).trans xv
      have hE2 : EnvAt wr2.drew mb (n + (vs.length - (p + 1))) (envB env (vs.drop (p + 1)) (f + (p + 1 : Nat))) := hE.of_block (hk2 mb (by omega))
      obtain ⟨wr3, hup, hE3, hg3⟩ := hE2.store (by omega) z (f + p) hcx.2 (by omega)
      have hs3 := hg3.size
      have hk3 : ∀ k, k < wr2.heap.size → k ≠ mb → wr3.heap[k]? = wr2.heap[k]? := fun k hk h => hg3.block k hk (fun e => h (by injection e))
      have hE3' : EnvAt wr3 mb (n + (vs.length - p)) (envB env (vs.drop p) (f + p)) := by
        rw [drop_at vs p hp, hze]
        exact hE3.mono (by omega)
      have hst3 := hst2.of_block (hk3 (W.heap.size + 2) (by omega) (by omega))
      have hb3 : Below mb W wr3 := hb2.drew.grown hg3 (by show mb ≤ wr2.heap.size; omega) (fun j hj => by cases hj; exact Nat.le_refl _)
      have hbut3 : But (fun r => r = mb ∨ r = W.heap.size + 2) WI wr3 := ⟨by have : wr2.heap.size ≤ wr3.heap.size := hs3; omega, fun k hk hx => (hk3 k (by omega) (fun h => hx (.inl h))).trans ((hk2 k (fun h => hx (.inr h))).trans (hbut.2 k hk hx))⟩
      have HG := Lib.hid (And.intro hE3' (And.intro hst3 (And.intro hb3 hbut3)))
      clear y0 y1 y3 ym yr yf hlk hlk' hwr2 HE hE hst hbut hbel x0 x1 x3 xs hze hc hst2 hk2 hb2 hE2 hE3 hg3 hk3 hE3' hst3 hb3 hbut3 xv
      go_wp2_with fail
      go_region
      go_wp2_with fail
      go_roundw
      case rel => exact ⟨p, by omega, by go_num, HG.out.1, HG.out.2.1, HG.out.2.2.2, HG.out.2.2.1⟩
      case measure => simp [intOf]
set_option maxRecDepth 100000 in
set_option maxHeartbeats 6400000 in
/-- What bind handed back releases what it bound. -/
theorem bind1_any (m s mb n : Nat) (y : Value) (met : Int) (va : Option Addr) (vc : Nat) (vs : List Int) (env : Int → Int) (f : Int) (W : World) (hS : W.heap[mb + 1]? = some (.cells #[y, .map (some mb), .int .i64 met] 163 (0, 0)))
    (hD : EnvAt W mb n (envB env vs f)) (hn : n + vs.length < 1000000000000) (hV : VarsAt W mb va vs) (hB : BoundAt W s mb va vc vs env f) (hs : mb + 1 < s) :
    CallsDIn Fence.wide m Tryz.prog 170 #[.pointer (some ⟨s + 1, 0, none⟩), .pointer (some ⟨s + 3, 0, none⟩), .pointer (some ⟨s, 0, none⟩)] .returning W fun e u' W' => u' = .returning ∧ (e = .returned (.tuple #[]) ∧ EnvAt W' mb (n + vs.length) env ∧ But (fun r => r = mb) W W' ∧ Below mb W W') := by
  have HI := Lib.hid (And.intro hS (And.intro hD (And.intro hV hB)))
  have hvl := hV.1
  obtain ⟨b0, b1, b2, b3⟩ := hB
  have hz1 : s + 3 < W.heap.size := (Array.getElem?_eq_some_iff.1 b3).1
  have y1 : W.cell? ⟨s + 1, 0, none⟩ = some (.slice va vs.length vc) := by rw [Lib.cell_of_heap b1]; rfl
  clear hS hD hV b0 b1 b2 b3
  have hmix : Tryz.prog.follows .mixedOrders = true := by kernel_rfl
  refine callsDIn_of_wp Tryz.func170 rfl trivial ?_
  simp only [Tryz.ntmps170, List.size_toArray, List.length_cons, List.length_nil, Nat.reduceAdd, Nat.reduceSub, Array.replicate_succ, Array.replicate_zero, List.push_toArray, List.append_toArray, List.nil_append, List.cons_append]
  gi_wp2
  gi_loopw [7] (fun i wr => ∃ q : Nat, q ≤ vs.length ∧ i = .int .i64 (q : Int) ∧ EnvAt wr mb (n + q) (envB env (vs.drop q) (f + q)) ∧ But (fun r => r = mb) W wr ∧ Below mb W wr)
    (fun i _ => vs.length - (intOf i).toNat)
  case atStart => exact ⟨0, Nat.zero_le _, rfl, by simpa using HI.out.2.1, But.refl _ _, Below.refl _ _⟩
  case round =>
    obtain ⟨q, hq, rfl, hE, hbut, hbel⟩ := hrel
    have hbz := hbut.1
    by_cases hp : q < vs.length
    · have hk : ∀ k, k < W.heap.size → k ≠ mb → wr.heap[k]? = W.heap[k]? := fun k hk h1 => hbut.2 k hk h1
      obtain ⟨hva1, hva2, hva3, hva4⟩ := HI.out.2.2.1.2.1 (by omega)
      have hcx := HI.out.2.2.1.2.2 q hp
      obtain ⟨z, hze⟩ : ∃ z, vs[q] = z := ⟨_, rfl⟩
      rw [hze] at hcx
      obtain ⟨bb, off, hvq⟩ : ∃ b off, va = some ⟨b, off, none⟩ := ⟨_, _, hva1⟩
      subst hvq
      simp only [blk, ofs] at hva2 hva3 hva4 hcx
      obtain ⟨c0, c1, c2, c3⟩ := HI.out.2.2.2
      have xv : wr.cell? ⟨bb, off + q, none⟩ = some (.int .i64 z) := (World.cell?_of_block (w := W) (a := ⟨bb, off + q, none⟩) (hk bb hva2 hva3)).trans hcx.1
      have y0 : wr.cell? ⟨s, 0, none⟩ = some (.pointer (some ⟨mb + 1, 0, none⟩)) := by rw [Lib.cell_of_heap ((hk s (by omega) (by omega)).trans c0)]; rfl
      have y3 : wr.cell? ⟨s + 3, 0, none⟩ = some (.slice (some ⟨s + 2, 0, none⟩) vs.length vs.length) := by rw [Lib.cell_of_heap ((hk (s + 3) (by omega) (by omega)).trans c3)]; rfl
      have ym : wr.cell? ⟨mb + 1, 1, none⟩ = some (.map (some mb)) := by rw [Lib.cell_of_heap ((hk (mb + 1) (by omega) (by omega)).trans HI.out.1)]; rfl
      obtain ⟨ws, w1, w2, w3⟩ := c2.of_block (hk (s + 2) (by omega) (by omega))
      obtain ⟨w4, w5⟩ := w3 q hp (Nat.zero_le _)
      obtain ⟨c, hc⟩ : ∃ c, envB env (vs.drop (q + 1)) (f + (q + 1 : Nat)) vs[q] = c := ⟨_, rfl⟩
      rw [hc] at w4 w5
      have yr : wr.cell? ⟨s + 2, q, none⟩ = some (.int .i64 c) := by rw [Lib.cell_of_heap w2]; simp [w4]
      obtain ⟨wr3, hup, hE3, hg3⟩ := (hE.of_block (W' := wr.drew) rfl).store (by omega) z c hcx.2 w5
      have hs3 := hg3.size
      have hE3' : EnvAt wr3 mb (n + (q + 1)) (envB env (vs.drop (q + 1)) (f + (q + 1 : Nat))) := by
        have e := drop_at vs q hp env f
        rw [e] at hE3
        have e3 : updE (updE (envB env (vs.drop (q + 1)) (f + (q + 1 : Nat))) vs[q] (f + q)) z c = envB env (vs.drop (q + 1)) (f + (q + 1 : Nat)) := by
          rw [← hze, ← hc]
          funext u
          unfold updE
          by_cases h : u = vs[q]
          · subst h; simp
          · simp [h]
        rw [e3] at hE3
        exact hE3.mono (by omega)
      have hb3 : Below mb W wr3 := hbel.drew.grown hg3 (by show mb ≤ wr.heap.size; omega) (fun j hj => by cases hj; exact Nat.le_refl _)
      have hbut3 : But (fun r => r = mb) W wr3 := ⟨by have : wr.heap.size ≤ wr3.heap.size := hs3; omega, fun k hk1 hx => (hg3.block k (by show k < wr.heap.size; omega) (fun e => hx (by injection e))).trans (hbut.2 k hk1 hx)⟩
      have q0 : decide ((q : Int) < (vs.length : Int)) = true := decide_eq_true (by omega)
      have HG := Lib.hid (And.intro hE3' (And.intro hb3 hbut3))
      clear hE hbut hbel hk hva1 hcx hze c0 c1 c2 c3 w1 w2 w3 w4 w5 hc hE3 hg3 hE3' hb3 hbut3
      gi_wp2
      gi_region
      gi_wp2
      exact ⟨⟨q + 1, by omega, by go_num, HG.out.1, HG.out.2.2, HG.out.2.1⟩, by simp [intOf]; omega⟩
    · obtain rfl : q = vs.length := by omega
      have q0 : decide ((vs.length : Int) < (vs.length : Int)) = false := decide_eq_false (by omega)
      have HG := Lib.hid (And.intro hE (And.intro hbut hbel))
      clear hE hbut hbel
      gi_wp2
      go_end0
      exact ⟨rfl, by simpa [envB] using HG.out.1, HG.out.2.1, HG.out.2.2⟩
end
end Go.Proofs.YthdhdmmlmbkalaaGreatDoor
namespace Go.Proofs.YthdhdmmlmbkalaaGreatDoor
section
open Go.RowKit Go.Maps

mutual
/-- How many variables are bound in all. -/
def boundN : ET → Nat
  | .mk k d v va vc vs rs p ka kc kids => (bindE (.mk k d v va vc vs rs p ka kc kids)).length + boundNs kids
def boundNs : List ET → Nat
  | [] => 0
  | e :: l => boundN e + boundNs l
end
theorem boundN_eq (e : ET) : boundN e = (bindE e).length + boundNs e.kids := by cases e; simp [boundN, ET.kids]
/-- An expression that is told: where, itself, and what is bound there. -/
structure NodeP where
  b : Nat
  o : Nat
  e : ET
  env : Int → Int
mutual
def placeE : ET → (Int → Int) → Int → Nat → Nat → List NodeP
  | .mk k d v va vc vs rs p ka kc kids, env, met, b, o => ⟨b, o, .mk k d v va vc vs rs p ka kc kids, env⟩ ::
      placeER kids 0 (bodyE (.mk k d v va vc vs rs p ka kc kids)) env (envB env (bindE (.mk k d v va vc vs rs p ka kc kids)) (met + 1)) (met + (bindE (.mk k d v va vc vs rs p ka kc kids)).length) (blk ka) (ofs ka)
def placeER : List ET → Int → Int → (Int → Int) → (Int → Int) → Int → Nat → Nat → List NodeP
  | [], _, _, _, _, _, _, _ => []
  | e :: l, i, body, env, env', met, b, o => placeE e (if i = body then env' else env) met b o ++ placeER l (i + 1) body env env' (met + boundN e) b (o + 13)
end
theorem placeE_eq (e : ET) (env : Int → Int) (met : Int) (b o : Nat) : placeE e env met b o = ⟨b, o, e, env⟩ :: placeER e.kids 0 (bodyE e) env (envB env (bindE e) (met + 1)) (met + (bindE e).length) (blk e.ka) (ofs e.ka) := by cases e; simp [placeE, ET.kids, ET.ka]
mutual
theorem placeE_length : ∀ (e : ET) (env : Int → Int) (met : Int) (b o : Nat), (placeE e env met b o).length = e.size
  | .mk k d v va vc vs rs p ka kc kids, env, met, b, o => by
    simp only [placeE, List.length_cons, ET.size]
    rw [placeER_length kids]
    omega
theorem placeER_length : ∀ (l : List ET) (i body : Int) (env env' : Int → Int) (met : Int) (b o : Nat), (placeER l i body env env' met b o).length = sizesE l
  | [], _, _, _, _, _, _, _ => by simp [placeER, sizesE]
  | e :: l, i, body, env, env', met, b, o => by
    simp only [placeER, List.length_append, sizesE]
    rw [placeE_length e, placeER_length l]
end
theorem placeER_at : ∀ (l : List ET) (i body : Int) (env env' : Int → Int) (met : Int) (b o q : Nat) (h : q < l.length) (j : Nat) (y : NodeP),
    (placeE l[q] (if i + q = body then env' else env) (met + boundNs (l.take q)) b (o + 13 * q))[j]? = some y → (placeER l i body env env' met b o)[sizesE (l.take q) + j]? = some y
  | e :: l, i, body, env, env', met, b, o, 0, h, j, y, hy => by
    simp only [List.take_zero, boundNs, sizesE, Nat.zero_add, List.getElem_cons_zero, Nat.mul_zero, Nat.add_zero, Int.natCast_zero, Int.add_zero, Int.ofNat_zero] at hy ⊢
    simp only [placeER]
    rw [List.getElem?_append_left (List.getElem?_eq_some_iff.1 hy).1]
    exact hy
  | e :: l, i, body, env, env', met, b, o, q + 1, h, j, y, hy => by
    simp only [List.take_succ_cons, boundNs, sizesE, List.getElem_cons_succ] at hy ⊢
    simp only [placeER]
    rw [List.getElem?_append_right (by rw [placeE_length]; omega), placeE_length, show e.size + sizesE (l.take q) + j - e.size = sizesE (l.take q) + j by omega]
    refine placeER_at l (i + 1) body env env' (met + boundN e) b (o + 13) q (by simpa using h) j y ?_
    rw [show i + 1 + (q : Int) = i + ((q + 1 : Nat) : Int) by omega, show o + 13 + 13 * q = o + 13 * (q + 1) by omega, show met + (boundN e : Int) + (boundNs (l.take q) : Int) = met + ((boundN e + boundNs (l.take q) : Nat) : Int) by omega]
    exact hy
theorem boundNs_take {l : List ET} {q : Nat} (h : q < l.length) : boundNs (l.take (q + 1)) = boundNs (l.take q) + boundN l[q] := by
  induction l generalizing q with
  | nil => simp at h
  | cons e l ih =>
    cases q with
    | zero => simp [boundNs]
    | succ q =>
      have := ih (by simpa using h)
      simp only [List.take_succ_cons, boundNs, List.getElem_cons_succ]
      omega
theorem sizesE_take {l : List ET} {q : Nat} (h : q < l.length) : sizesE (l.take (q + 1)) = sizesE (l.take q) + l[q].size := by
  induction l generalizing q with
  | nil => simp at h
  | cons e l ih =>
    cases q with
    | zero => simp [sizesE]
    | succ q =>
      have := ih (by simpa using h)
      simp only [List.take_succ_cons, sizesE, List.getElem_cons_succ]
      omega
theorem boundNs_le (l : List ET) (q : Nat) : boundNs (l.take q) ≤ boundNs l := by
  induction l generalizing q with
  | nil => simp
  | cons e l ih =>
    cases q with
    | zero => simp [boundNs]
    | succ q => simp only [List.take_succ_cons, boundNs]; have := ih q; omega
def ndP (full : List NodeP) (k : Nat) : NodeP := (full[k]?).getD ⟨0, 0, .mk 0 (.mk 0 false none 0 0 [] false ⟨#[]⟩ none 0 [] none 0 []) 0 none 0 [] false 0 none 0 [], fun _ => 0⟩
def encP (mb : Nat) (full : List NodeP) (k : Nat) : Array Value := #[.pointer (some ⟨(ndP full k).b, (ndP full k).o, none⟩), .map (some mb)]
theorem ndP_eq {full : List NodeP} {k : Nat} {x : NodeP} (h : full[k]? = some x) : ndP full k = x := by simp only [ndP, h, Option.getD_some]
/-- What the walk holds: so many told, so many stored, so many bound. -/
def PlI (l mb M : Nat) (root : ET) (b0 o0 : Nat) (J : Nat → World → Prop) (k n : Nat) (met : Int) (env : Int → Int) (W : World) : Prop :=
  J k W ∧ W.heap[mb + 1]? = some (.cells #[.func (.yield l) #[] #[], .map (some mb), .int .i64 met] 163 (0, 0)) ∧ EnvAt W mb n env ∧ LiesE W M root b0 o0
/-- What the walk leans on. -/
structure PlC (l mb M : Nat) (root : ET) (b0 o0 : Nat) (full : List NodeP) (X : Nat → Prop) (J : Nat → World → Prop) : Prop where
  mm : M ≤ mb
  x : ∀ r, X r → M ≤ r ∧ r < mb
  j : ∀ k A B, Below mb A B → J k A → J k B
  y : ∀ k W1, k < full.length → J k W1 → (∃ n, EnvAt W1 mb n (ndP full k).env) → YieldAt Fence.wide 0 Tryz.prog l (encP mb full k) W1 fun e W' => e = .returned (.bool true) ∧ J (k + 1) W' ∧ But X W1 W'
  v : ∀ x ∈ full, -9223372036854775808 ≤ x.e.v ∧ x.e.v ≤ 9223372036854775807
/-- What the walk may turn. -/
def WX (mb : Nat) (X : Nat → Prop) (r : Nat) : Prop := X r ∨ r = mb ∨ r = mb + 1
section
variable {l mb M : Nat} {root : ET} {b0 o0 : Nat} {full : List NodeP} {X : Nat → Prop} {J : Nat → World → Prop} {k n : Nat} {met : Int} {env : Int → Int} {W W' : World}
theorem PlI.below (C : PlC l mb M root b0 o0 full X J) (h : PlI l mb M root b0 o0 J k n met env W) (hb : Below W.heap.size W W') : PlI l mb M root b0 o0 J k n met env W' := by
  have hlt : mb + 1 < W.heap.size := (Array.getElem?_eq_some_iff.1 h.2.1).1
  have := C.mm
  exact ⟨C.j k W W' (hb.mono (by omega)) h.1, (hb.block _ hlt).trans h.2.1, h.2.2.1.of_block (hb.block _ (by omega)), h.2.2.2.keep hb.size (fun i hi => hb.block i (by omega)) _ _ _⟩
theorem PlI.mono (h : PlI l mb M root b0 o0 J k n met env W) {n' : Nat} (hn : n ≤ n') : PlI l mb M root b0 o0 J k n' met env W := ⟨h.1, h.2.1, h.2.2.1.mono hn, h.2.2.2⟩
/-- The map alone was turned. -/
theorem PlI.turned (C : PlC l mb M root b0 o0 full X J) (h : PlI l mb M root b0 o0 J k n met env W) {n' : Nat} {env' : Int → Int} (hE : EnvAt W' mb n' env') (hbut : But (fun r => r = mb) W W') (hb : Below mb W W') : PlI l mb M root b0 o0 J k n' met env' W' := by
  have hlt : mb + 1 < W.heap.size := (Array.getElem?_eq_some_iff.1 h.2.1).1
  have := C.mm
  exact ⟨C.j k W W' hb h.1, (hbut.2 _ hlt (by omega)).trans h.2.1, hE, h.2.2.2.keep hbut.1 (fun i hi => hbut.2 i (by omega) (by omega)) _ _ _⟩
theorem But.wx (h : But (fun r => r = mb) W W') : But (WX mb X) W W' := h.mono fun _ e => .inr (.inl e)
end
set_option maxRecDepth 100000 in
set_option maxHeartbeats 3200000 in
/-- The walk goes into a Kid in which variables are bound. -/
theorem inside_any {l mb M : Nat} {root : ET} {b0 o0 : Nat} {full : List NodeP} {X : Nat → Prop} {J : Nat → World → Prop} (C : PlC l mb M root b0 o0 full X J) (k k' n n' : Nat) (met met' : Int) (env : Int → Int) (W : World) (m xb xo : Nat) (va : Option Addr) (vc : Nat) (vs : List Int) (f : Int)
    (hf : 0 ≤ f ∧ f ≤ 1000000000000) (hn' : n' + vs.length < 1000000000000) (hnn : n + vs.length ≤ n') (hI : PlI l mb M root b0 o0 J k n met env W) (hV : VarsAt W mb va vs) (hX : ∀ q, WX mb X q → ¬ (0 < vs.length ∧ q = blk va)) (hXW : ∀ q, X q → q < W.heap.size)
    (hK : ∀ W1, PlI l mb M root b0 o0 J k (n + vs.length) met (envB env vs f) W1 → CallsIn Fence.wide 0 Tryz.prog 122 #[.pointer (some ⟨mb + 1, 0, none⟩), .pointer (some ⟨xb, xo, none⟩)] W1 fun e W' => e = .returned (.bool true) ∧ PlI l mb M root b0 o0 J k' n' met' (envB env vs f) W' ∧ But (WX mb X) W1 W') :
    CallsIn Fence.wide m Tryz.prog 137 #[.pointer (some ⟨mb + 1, 0, none⟩), .pointer (some ⟨xb, xo, none⟩), .slice va vs.length vc, .int .i64 f] W fun e W' => e = .returned (.bool true) ∧ PlI l mb M root b0 o0 J k' (n' + vs.length) met' env W' ∧ But (WX mb X) W W' := by
  have hlt : mb + 1 < W.heap.size := (Array.getElem?_eq_some_iff.1 hI.2.1).1
  have hb := bind_any mb n _ met va vc vs env f W hI.2.1 hI.2.2.1 (by omega) hf hV
  have HH := Lib.hid (And.intro hb (And.intro hI (And.intro hV (And.intro hX hK))))
  clear hb hI hV hX hK
  refine callsIn_of_wp_defers Tryz.func137 rfl trivial ?_
  simp only [Tryz.ntmps137, List.size_toArray, List.length_cons, List.length_nil, Nat.reduceAdd, Nat.reduceSub, Array.replicate_succ, Array.replicate_zero, List.push_toArray, List.append_toArray, List.nil_append, List.cons_append]
  gi_wp2
  refine ⟨trivial, fun h => absurd h (by decide), (callsIn_wide.2 HH.out.1).mono ?_⟩
  rintro e w1 ⟨rfl, hB, hE, hbut, hbel⟩
  have hI1 := HH.out.2.1.turned C hE hbut hbel
  have hV1 : VarsAt w1 mb va vs := HH.out.2.2.1.keep hbut.1 fun q hq h1 _ _ _ => hbut.2 q hq h1
  have hz1 := hbut.1
  have HB := Lib.hid (And.intro hB (And.intro hV1 (And.intro hbut (HH.out.2.2.2.2 w1 hI1))))
  clear hB hE hbut hbel hI1 hV1
  gi_wp2
  refine ⟨trivial, fun h => absurd h (by decide), (callsIn_wide.2 (callsIn_wide.1 HB.out.2.2.2)).mono ?_⟩
  rintro e w2 ⟨rfl, hI2, hbut2⟩
  obtain ⟨hB, hV1, hbut, -⟩ := HB.out
  have hz2 := hbut2.1
  have hs3 : W.heap.size + 3 < w1.heap.size := (Array.getElem?_eq_some_iff.1 hB.2.2.2).1
  have hwx : ∀ q, W.heap.size ≤ q → ¬ WX mb X q := fun q hq h => by
    rcases h with h | h | h
    · have := HH.out.2.1; exact absurd (HH.out.2.1.1) (by have := hXW q h; omega)
    · omega
    · omega
  have hB2 : BoundAt w2 W.heap.size mb va vc vs env f := ⟨(hbut2.2 _ (by omega) (hwx _ (by omega))).trans hB.1, (hbut2.2 _ (by omega) (hwx _ (by omega))).trans hB.2.1, hB.2.2.1.of_block (hbut2.2 _ (by omega) (hwx _ (by omega))), (hbut2.2 _ (by omega) (hwx _ (by omega))).trans hB.2.2.2⟩
  have hV2 : VarsAt w2 mb va vs := ⟨hV1.1, fun hp => ⟨(hV1.2.1 hp).1, Nat.lt_of_lt_of_le (hV1.2.1 hp).2.1 hz2, (hV1.2.1 hp).2.2⟩, fun i hi => ⟨(World.cell?_of_block (w := w1) (a := ⟨blk va, ofs va + i, none⟩) (hbut2.2 _ (hV1.2.1 (by omega)).2.1 (fun h => HH.out.2.2.2.1 _ h ⟨by omega, rfl⟩))).trans (hV1.2.2 i hi).1, (hV1.2.2 i hi).2⟩⟩
  have hd := bind1_any (m - 1) W.heap.size mb n' _ met' va vc vs env f w2 hI2.2.1 hI2.2.2.1 (by omega) hV2 hB2 (by omega)
  have HD := Lib.hid (And.intro hd (And.intro hI2 (hbut.wx.trans hbut2)))
  clear hd hI2 hbut2 hB hV1 hbut hB2 hV2
  gi_wp2
  refine leavesIn_cons (f := 170) (args := #[.pointer (some ⟨W.heap.size + 1, 0, none⟩), .pointer (some ⟨W.heap.size + 3, 0, none⟩), .pointer (some ⟨W.heap.size, 0, none⟩)]) (by simp) (fun h => absurd h (by decide)) ?_ (fun g _ => trivial) ?_
  · have hE := enters_of Tryz.func170 (by kernel_rfl) rfl
    simp [invoke, go_sem, hE]
  · refine HD.out.1.mono ?_
    rintro e u w3 ⟨rfl, rfl, hE, hbut, hbel⟩
    have hI3 := HD.out.2.1.turned C hE hbut hbel
    simp [LeavesIn, settle, results, Tryz.results137, go_sem]
    exact ⟨hI3, HD.out.2.2.trans hbut.wx⟩
end
end Go.Proofs.YthdhdmmlmbkalaaGreatDoor
