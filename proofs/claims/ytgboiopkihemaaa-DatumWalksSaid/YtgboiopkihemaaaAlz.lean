/-
  all of pavanelaw03, walked.
-/
import Derived.Test.YtgboiopkihemaaaWkx
import Derived.Test.YtgboiopkihemaaaRnd
import Derived.Test.YtgboiopkihemaaaSpl
import Derived.Deep.AppendLies
import Derived.Laws.OwnMore
namespace Go.Proofs.Ytgboiopkihemaaa
open Go.RowKit

section
variable {a : Act} {w : World} {o : Oper} {p b off : Nat}
theorem exec_lenS {n c : Nat} {A : Option Addr} (ho : o.op = .call { callee := .builtin .len, args := #[.tmp p], argTypes := #[25] }) (ht : a.tmps.getD p undef = .slice A n c) : (execOp a.eval o).run Try.prog w = .ok (.value (.int .i64 n)) w := by
  rw [Array.getD_eq_getD_getElem?] at ht
  simp [execOp, ho, Act.eval, ht, go_sem]
theorem exec_neqI {q : Nat} {x : Int} (ho : o.op = .binOp .neq 3 (.tmp p) (.tmp q) 3) (hp : a.tmps.getD p undef = .int .i64 x) (hq : a.tmps.getD q undef = .int .i64 x) : (execOp a.eval o).run Try.prog w = .ok (.value (.bool false)) w := by
  rw [Array.getD_eq_getD_getElem?] at hp hq
  simp [execOp, ho, Act.eval, hp, hq, go_sem]
theorem exec_ixq {q i n c : Nat} (ho : o.op = .indexAddr 25 (.tmp p) (.tmp q)) (ht : a.tmps.getD p undef = .slice (some ⟨b, off, none⟩) n c) (hq : a.tmps.getD q undef = .int .i64 (i : Nat)) (hn : i < n) : (execOp a.eval o).run Try.prog w = .ok (.value (.pointer (some ⟨b, off + i * 7, none⟩))) w := by
  rw [Array.getD_eq_getD_getElem?] at ht hq
  simp [execOp, ho, Act.eval, ht, hq, go_sem, hn]
end
theorem seven_keep {w w' : World} {b o : Nat} {x : LT} (h : Seven w b o x) (hb : Below w.heap.size w w') : Seven w' b o x := fun j v hj => by
  have h0 := h j v hj
  have hlt : b < w.heap.size := World.block_lt_of_cell? w _ h0
  exact (hb.cell (p := ⟨b, o + j, none⟩) hlt).trans h0

section
theorem region_inv_round {P : Program} {ops : Array Oper} {id n l : Nat} {Q : Exit → Act → World → Prop} {a : Act} {w : World} (hm : P.follows .mixedOrders = true) (hr : Rising ops = true) (hd : ops.all (fun o => match o.op with | .defer _ => false | _ => true) = true) (I : (Nat → Bool) → Act → World → Prop)
    (h0 : I (fun _ => false) a w.drew)
    (step : ∀ l a w i oi, ops[i]? = some oi → l i = false → (∀ e ∈ oi.after, Region.binds .any e = true → l e.on = true) → I l a w → wpOp P ops (only Q) i (I (fun j => l j || j == i)) a w)
    (done : ∀ l a w, (∀ i, i < ops.size → l i = true) → I l a w → Q .normal a w) : (Code.region id ops true).wpIn (Fence.wide.inRound l) n P Q a w := by
  have hd' : ∀ (i : Nat) (o : Oper) (c : Call), ops[i]? = some o → o.op ≠ .defer c := by
    intro i o c ho hc
    have h1 := Array.all_eq_true_iff_forall_mem.1 hd o (Array.mem_of_getElem? ho)
    rw [hc] at h1
    cases h1
  refine wpIn_region_any hm (any_in_round hd' _ _ _ _ (wpAny_inv hr I step (fun l a w h hI => ⟨rfl, done l a w h hI⟩) ops.size _ a _ (by simp) (by simp) ?_))
  have : (fun j => (Array.replicate ops.size false).getD j false) = fun _ => false := by
    funext j
    rw [Array.getD_eq_getD_getElem?, Array.getElem?_replicate]
    split <;> rfl
  rw [this]
  exact h0

theorem exec_zeroD {a : Act} {w : World} {o : Oper} (ho : o.op = .buildSlice 25 1 #[(0, .const (.agg #[.int .i64 0, .bool false, .slice none 0 0, .bool false, .string ⟨#[]⟩, .slice none 0 0, .slice none 0 0]))]) :
    (execOp a.eval o).run Try.prog w = .ok (.value (.slice (some ⟨w.heap.size, 0, none⟩) 1 1)) (w.alloc (Obj.cells #[.int .i64 0, .bool false, .slice none 0 0, .bool false, .string ⟨#[]⟩, .slice none 0 0, .slice none 0 0] 27)) := by
  simp [execOp, ho, Act.eval, go_sem]
def zeroC : List Value := [.int .i64 0, .bool false, .slice none 0 0, .bool false, .string ⟨#[]⟩, .slice none 0 0, .slice none 0 0]
theorem exec_stD7 {a : Act} {w : World} {o : Oper} {p q g off : Nat} {u : LT} (ho : o.op = .store 27 (.tmp p) (.tmp q)) (hp : a.tmps.getD p undef = .pointer (some ⟨g, off, none⟩)) (hq : a.tmps.getD q undef = .agg #[.int .i64 u.k, .bool u.g, .slice u.la u.ln u.lc, .bool u.bb, .string u.s, .slice u.ia u.items.length u.ic, .slice u.ta u.tail.length u.tc]) {cs : Array Value} {T : TypeId} (hg : w.heap[g]? = some (.cells cs T (0, 0))) (hs : off + 7 ≤ cs.size) :
    (execOp a.eval o).run Try.prog w = .ok .skip (((((((w.setCell ⟨g, off, none⟩ (.int .i64 u.k)).setCell ⟨g, off + 1, none⟩ (.bool u.g)).setCell ⟨g, off + 2, none⟩ (.slice u.la u.ln u.lc)).setCell ⟨g, off + 3, none⟩ (.bool u.bb)).setCell ⟨g, off + 4, none⟩ (.string u.s)).setCell ⟨g, off + 5, none⟩ (.slice u.ia u.items.length u.ic)).setCell ⟨g, off + 6, none⟩ (.slice u.ta u.tail.length u.tc)) := by
  have hc : ∀ j, j < cs.size → ∃ v, w.cell? ⟨g, j, none⟩ = some v := fun j hj => ⟨cs[j], by rw [Lib.cell_of_heap hg]; exact Array.getElem?_eq_getElem hj⟩
  have hf : ∀ j, w.frozen? ⟨g, j, none⟩ = false := fun j => Lib.frozen_of_heap hg j
  obtain ⟨v0, c0⟩ := hc off (by omega)
  obtain ⟨v1, c1⟩ := hc (off + 1) (by omega)
  obtain ⟨v2, c2⟩ := hc (off + 2) (by omega)
  obtain ⟨v3, c3⟩ := hc (off + 3) (by omega)
  obtain ⟨v4, c4⟩ := hc (off + 4) (by omega)
  obtain ⟨v5, c5⟩ := hc (off + 5) (by omega)
  obtain ⟨v6, c6⟩ := hc (off + 6) (by omega)
  have f0 := hf off; have f1 := hf (off + 1); have f2 := hf (off + 2); have f3 := hf (off + 3); have f4 := hf (off + 4); have f5 := hf (off + 5); have f6 := hf (off + 6)
  rw [Array.getD_eq_getD_getElem?] at hp hq
  simp [execOp, ho, Act.eval, hp, hq, go_sem, c0, c1, c2, c3, c4, c5, c6, f0, f1, f2, f3, f4, f5, f6]
theorem exec_storeS {a : Act} {w : World} {o : Oper} {p q L n c : Nat} {A : Option Addr} {v : Value} (ho : o.op = .store 25 (.tmp p) (.tmp q)) (hp : a.tmps.getD p undef = .pointer (some ⟨L, 0, none⟩)) (hq : a.tmps.getD q undef = .slice A n c) (hc : w.heap[L]? = some (.cells #[v] 25 (0, 0))) :
    (execOp a.eval o).run Try.prog w = .ok .skip (w.setCell ⟨L, 0, none⟩ (.slice A n c)) := by
  have c0 : w.cell? ⟨L, 0, none⟩ = some v := by rw [Lib.cell_of_heap hc]; rfl
  have f0 : w.frozen? ⟨L, 0, none⟩ = false := Lib.frozen_of_heap hc 0
  rw [Array.getD_eq_getD_getElem?] at hp hq
  simp [execOp, ho, Act.eval, hp, hq, go_sem, c0, f0]
def appOps : Array Oper := #[{ dst := some 18, op := Go.Op.load 25 (Go.Operand.tmp 6), type := 25, pos := "law.go:44", after := #[], guard := none }, { dst := some 19, op := Go.Op.load 27 (Go.Operand.tmp 7), type := 27, pos := "law.go:44", after := #[], guard := none }, { dst := some 20, op := Go.Op.call { callee := Go.Callee.builtin Go.Builtin.len, args := #[Go.Operand.tmp 18], argTypes := #[25] }, type := 3, pos := "law.go:44", after := #[{ on := 0, ground := Go.Ground.data }], guard := none }, { dst := some 21, op := Go.Op.buildSlice 25 1 #[(0, Go.Operand.const (Go.Value.agg #[Go.Value.int Go.IntKind.i64 0, Go.Value.bool false, Go.Value.slice none 0 0, Go.Value.bool false, Go.Value.string ⟨#[]⟩, Go.Value.slice none 0 0, Go.Value.slice none 0 0]))], type := 25, pos := "law.go:44", after := #[], guard := none }, { dst := some 22, op := Go.Op.call { callee := Go.Callee.builtin Go.Builtin.append, args := #[Go.Operand.tmp 18, Go.Operand.tmp 21], argTypes := #[25, 25] }, type := 25, pos := "law.go:44", after := #[{ on := 0, ground := Go.Ground.data }, { on := 3, ground := Go.Ground.data }, { on := 0, ground := Go.Ground.phase }, { on := 1, ground := Go.Ground.phase }, { on := 2, ground := Go.Ground.phase }, { on := 3, ground := Go.Ground.phase }], guard := none }, { dst := some 23, op := Go.Op.indexAddr 25 (Go.Operand.tmp 22) (Go.Operand.tmp 20), type := 0, pos := "law.go:44", after := #[{ on := 4, ground := Go.Ground.data }, { on := 2, ground := Go.Ground.data }, { on := 0, ground := Go.Ground.phase }, { on := 1, ground := Go.Ground.phase }, { on := 2, ground := Go.Ground.phase }, { on := 3, ground := Go.Ground.phase }, { on := 4, ground := Go.Ground.phase }, { on := 7, ground := Go.Ground.gcOnly Go.Departure.appendInPlace }], guard := none }, { dst := none, op := Go.Op.store 27 (Go.Operand.tmp 23) (Go.Operand.tmp 19), type := 0, pos := "law.go:44", after := #[{ on := 5, ground := Go.Ground.data }, { on := 1, ground := Go.Ground.data }, { on := 4, ground := Go.Ground.chain }, { on := 0, ground := Go.Ground.phase }, { on := 1, ground := Go.Ground.phase }, { on := 2, ground := Go.Ground.phase }, { on := 3, ground := Go.Ground.phase }, { on := 4, ground := Go.Ground.phase }, { on := 7, ground := Go.Ground.gcOnly Go.Departure.appendInPlace }], guard := none }, { dst := none, op := Go.Op.store 25 (Go.Operand.tmp 6) (Go.Operand.tmp 22), type := 0, pos := "law.go:44", after := #[{ on := 4, ground := Go.Ground.data }, { on := 4, ground := Go.Ground.chain }, { on := 6, ground := Go.Ground.textOnly Go.Departure.appendInPlace }, { on := 0, ground := Go.Ground.phase }, { on := 1, ground := Go.Ground.phase }, { on := 2, ground := Go.Ground.phase }, { on := 3, ground := Go.Ground.phase }, { on := 4, ground := Go.Ground.phase }, { on := 5, ground := Go.Ground.textOnly Go.Departure.appendInPlace }, { on := 6, ground := Go.Ground.textOnly Go.Departure.appendInPlace }], guard := none }]
theorem app_rising : Rising appOps = true := by kernel_rfl
end

section
/-- What has come up so far, and what is known of it. -/
structure AI (L X base B m : Nat) (V : Value) (x : LT) (ts : List LT) (w0 : World) (b0 b1 b2 b3 b4 b5 b6 b7 : Bool) (a : Act) (w : World) : Prop where
  size : a.tmps.size = 25
  p6 : a.tmps.getD 6 undef = .pointer (some ⟨L, 0, none⟩)
  p7 : a.tmps.getD 7 undef = .pointer (some ⟨X, 0, none⟩)
  up : b5 = true ∨ b6 = true ∨ b7 = true → b4 = true
  up6 : b6 = true → b5 = true
  v0 : b4 = false → b0 = true → a.tmps.getD 18 undef = V
  v1 : b1 = true → a.tmps.getD 19 undef = .agg #[.int .i64 x.k, .bool x.g, .slice x.la x.ln x.lc, .bool x.bb, .string x.s, .slice x.ia x.items.length x.ic, .slice x.ta x.tail.length x.tc]
  v2 : b2 = true → a.tmps.getD 20 undef = .int .i64 (m : Nat)
  v3 : b4 = false → b3 = true → ∃ b, a.tmps.getD 21 undef = .slice (some ⟨b, 0, none⟩) 1 1 ∧ w.heap[b]? = some (Obj.cells #[.int .i64 0, .bool false, .slice none 0 0, .bool false, .string ⟨#[]⟩, .slice none 0 0, .slice none 0 0] 27)
  low : b4 = false → Below w0.heap.size w0 w
  hi : b4 = true → b0 = true ∧ b1 = true ∧ b2 = true ∧ b3 = true ∧ ∃ gg cap, a.tmps.getD 22 undef = .slice (some ⟨gg, 0, none⟩) (m + 1) cap ∧
    w.ownsRow base 27 7 (.slice (some ⟨gg, 0, none⟩) (m + 1) cap) (m + 1) (cellsAll ts ++ (if b6 = true then x.cells else zeroC)) ∧
    w.heap[L]? = some (.cells #[if b7 = true then .slice (some ⟨gg, 0, none⟩) (m + 1) cap else V] 25 (0, 0)) ∧
    (∀ i, i < w0.heap.size → i ≠ L → V.ownBlock ≠ some i → w.heap[i]? = w0.heap[i]?) ∧ (V.ownBlock = some gg ∨ w0.heap.size ≤ gg) ∧ Below B w0 w ∧ (b5 = true → a.tmps.getD 23 undef = .pointer (some ⟨gg, m * 7, none⟩))

theorem eval_tmp {a : Act} {p : Nat} {v : Value} (h : a.tmps.getD p undef = v) : a.eval (.tmp p) = v := by
  rw [Array.getD_eq_getD_getElem?] at h
  simp [Act.eval, h]
section
variable {P : Program} {ops : Array Oper} {Q : Exit → Act → World → Prop} {i : Nat} {o : Oper} {a : Act} {w w' : World} {K : Act → World → Prop}
theorem wpOp_skipW (ho : ops[i]? = some o) (hw : Region.wanted o (yielded ops a.tmps) = true) (hd : o.dst = none) (hr : (execOp a.eval o).run P w = .ok .skip w') (h : K a w') : wpOp P ops Q i K a w := by
  refine wpOp_want ho hw ?_
  unfold Oper.wp
  rw [hr, Oper.upon_skip, hd]
  exact h
theorem wpOp_valD {d : Nat} {v : Value} (ho : ops[i]? = some o) (hw : Region.wanted o (yielded ops a.tmps) = true) (hd : o.dst = some d) (hr : (execOp a.eval o).run P w = .ok (.value v) w') (h : K (a.put (some d) v) w') : wpOp P ops Q i K a w := wpOp_valW ho hw hr (by rw [hd]; exact h)
end
theorem pg {a : Act} {d n : Nat} {v u : Value} (hs : a.tmps.size = 25) (h : a.tmps.getD n undef = u) (hd : d < 25 := by decide) (hn : n ≠ d := by decide) : (a.put (some d) v).tmps.getD n undef = u := by
  rw [put_get (by omega), if_neg hn, h]
theorem pe {a : Act} {d : Nat} {v : Value} (hs : a.tmps.size = 25) (hd : d < 25 := by decide) : (a.put (some d) v).tmps.getD d undef = v := by
  rw [put_get (by omega), if_pos rfl]
theorem ps {a : Act} {d : Nat} {v : Value} (hs : a.tmps.size = 25) : (a.put (some d) v).tmps.size = 25 := by simp [Act.put, hs]

theorem set_last {xs : List Value} {m : Nat} (h : xs.length = m * 7) (u : LT) : (((((((xs ++ zeroC).set (m * 7) (.int .i64 u.k)).set (m * 7 + 1) (.bool u.g)).set (m * 7 + 2) (.slice u.la u.ln u.lc)).set (m * 7 + 3) (.bool u.bb)).set (m * 7 + 4) (.string u.s)).set (m * 7 + 5) (.slice u.ia u.items.length u.ic)).set (m * 7 + 6) (.slice u.ta u.tail.length u.tc) = xs ++ u.cells := by
  rw [← h]
  simp [List.set_append, zeroC, LT.cells]
set_option maxHeartbeats 3200000 in
theorem append_round {n l L X base B m vc : Nat} {VA : Option Addr} {x : LT} {ts : List LT} {w0 : World} {a0 : Act} {Q : Exit → Act → World → Prop} (hsz : a0.tmps.size = 25) (h6 : a0.tmps.getD 6 undef = .pointer (some ⟨L, 0, none⟩)) (h7 : a0.tmps.getD 7 undef = .pointer (some ⟨X, 0, none⟩))
    (hL : w0.heap[L]? = some (.cells #[.slice VA m vc] 25 (0, 0))) (hX : w0.heap[X]? = some (Obj.cells #[.int .i64 x.k, .bool x.g, .slice x.la x.ln x.lc, .bool x.bb, .string x.s, .slice x.ia x.items.length x.ic, .slice x.ta x.tail.length x.tc] 27)) (own : w0.ownsRow base 27 7 (.slice VA m vc) m (cellsAll ts)) (hlb : L < base) (hBL : B ≤ L) (hbs : base ≤ w0.heap.size) (hm : m ≤ 100000)
    (hQ : ∀ a' w' gg cap, w'.ownsRow base 27 7 (.slice (some ⟨gg, 0, none⟩) (m + 1) cap) (m + 1) (cellsAll ts ++ x.cells) → w'.heap[L]? = some (.cells #[.slice (some ⟨gg, 0, none⟩) (m + 1) cap] 25 (0, 0)) →
      (∀ i, i < w0.heap.size → i ≠ L → (Value.slice VA m vc).ownBlock ≠ some i → w'.heap[i]? = w0.heap[i]?) → ((Value.slice VA m vc).ownBlock = some gg ∨ w0.heap.size ≤ gg) → Below B w0 w' → Q .normal a' w') :
    (Code.region 8 appOps true).wpIn (Fence.wide.inRound l) n Try.prog Q a0 w0 := by
  have hL0 : L < w0.heap.size := by omega
  have hB0 : B ≤ w0.heap.size := by omega
  have hVL : some L ≠ (Value.slice VA m vc).ownBlock := fun e => by have := (own.lt _ e.symm).1; omega
  obtain ⟨i0, hi0, hz0, hz1, hz2⟩ := info_parts infoD
  obtain ⟨V, hV⟩ : ∃ V, Value.slice VA m vc = V := ⟨_, rfl⟩
  refine region_inv_round (by kernel_rfl) app_rising (by kernel_rfl) (fun l a w => AI L X base B m V x ts w0 (l 0) (l 1) (l 2) (l 3) (l 4) (l 5) (l 6) (l 7) a w) ?_ ?_ ?_
  · exact ⟨hsz, h6, h7, by simp, by simp, by simp, by simp, by simp, by simp, fun _ => (Below.refl _ _).drew, by simp⟩
  · intro l a w i oi ho hl he h
    have hi : i < 8 := by
      rcases Nat.lt_or_ge i 8 with h1 | h1
      · exact h1
      · rw [Array.getElem?_eq_none (show appOps.size ≤ i from h1)] at ho; cases ho
    have no4 : ∀ {p : Bool}, (l 4 = true → p = true) → p = false → l 4 = false := fun h1 h2 => Bool.eq_false_iff.2 fun e => by rw [h1 e] at h2; cases h2
    rcases (show i = 0 ∨ i = 1 ∨ i = 2 ∨ i = 3 ∨ i = 4 ∨ i = 5 ∨ i = 6 ∨ i = 7 by omega) with rfl | rfl | rfl | rfl | rfl | rfl | rfl | rfl
    · have h4 := no4 (fun e => (h.hi e).1) hl
      have hc : w.cell? ⟨L, 0, none⟩ = some (.slice VA m vc) := by rw [Lib.cell_of_heap (((h.low h4).block L hL0).trans hL)]; rfl
      refine wpOp_valD rfl rfl rfl (exec_loadS rfl h.p6 hc) ?_
      have H : AI L X base B m V x ts w0 true (l 1) (l 2) (l 3) (l 4) (l 5) (l 6) (l 7) (a.put (some 18) (.slice VA m vc)) w :=
        ⟨ps h.size, pg h.size h.p6, pg h.size h.p7, h.up, h.up6, fun _ _ => (pe h.size).trans hV, fun e => pg h.size (h.v1 e), fun e => pg h.size (h.v2 e), fun e4 e => by obtain ⟨b, hb, hb2⟩ := h.v3 e4 e; exact ⟨b, pg h.size hb, hb2⟩, h.low, fun e => by rw [h4] at e; cases e⟩
      simpa using H
    · have h4 := no4 (fun e => (h.hi e).2.1) hl
      have hs7 : Seven w X 0 x := Seven.of (((h.low h4).block X (Array.getElem?_eq_some_iff.1 hX).1).trans hX)
      refine wpOp_valD rfl rfl rfl (exec_loadD rfl h.p7 hs7) ?_
      have H : AI L X base B m V x ts w0 (l 0) true (l 2) (l 3) (l 4) (l 5) (l 6) (l 7) (a.put (some 19) (.agg #[.int .i64 x.k, .bool x.g, .slice x.la x.ln x.lc, .bool x.bb, .string x.s, .slice x.ia x.items.length x.ic, .slice x.ta x.tail.length x.tc])) w :=
        ⟨ps h.size, pg h.size h.p6, pg h.size h.p7, h.up, h.up6, fun e4 e => pg h.size (h.v0 e4 e), fun _ => pe h.size, fun e => pg h.size (h.v2 e), fun e4 e => by obtain ⟨b, hb, hb2⟩ := h.v3 e4 e; exact ⟨b, pg h.size hb, hb2⟩, h.low, fun e => by rw [h4] at e; cases e⟩
      simpa using H
    · have h4 := no4 (fun e => (h.hi e).2.2.1) hl
      have l0 := Waits.listed (j := 0) (by kernel_rfl) ho he
      refine wpOp_valD rfl rfl rfl (exec_lenS rfl ((h.v0 h4 l0).trans hV.symm)) ?_
      have H : AI L X base B m V x ts w0 (l 0) (l 1) true (l 3) (l 4) (l 5) (l 6) (l 7) (a.put (some 20) (.int .i64 (m : Nat))) w :=
        ⟨ps h.size, pg h.size h.p6, pg h.size h.p7, h.up, h.up6, fun e4 e => pg h.size (h.v0 e4 e), fun e => pg h.size (h.v1 e), fun _ => pe h.size, fun e4 e => by obtain ⟨b, hb, hb2⟩ := h.v3 e4 e; exact ⟨b, pg h.size hb, hb2⟩, h.low, fun e => by rw [h4] at e; cases e⟩
      simpa using H
    · have h4 := no4 (fun e => (h.hi e).2.2.2.1) hl
      refine wpOp_valD rfl rfl rfl (exec_zeroD rfl) ?_
      have H : AI L X base B m V x ts w0 (l 0) (l 1) (l 2) true (l 4) (l 5) (l 6) (l 7) (a.put (some 21) (.slice (some ⟨w.heap.size, 0, none⟩) 1 1)) (w.alloc (Obj.cells #[.int .i64 0, .bool false, .slice none 0 0, .bool false, .string ⟨#[]⟩, .slice none 0 0, .slice none 0 0] 27)) :=
        ⟨ps h.size, pg h.size h.p6, pg h.size h.p7, h.up, h.up6, fun e4 e => pg h.size (h.v0 e4 e), fun e => pg h.size (h.v1 e), fun e => pg h.size (h.v2 e), fun _ _ => ⟨_, pe h.size, World.alloc_heap_new _ _⟩, fun _ => (h.low h4).alloc (h.low h4).size _, fun e => by rw [h4] at e; cases e⟩
      simpa using H
    · have l0 := Waits.listed (j := 0) (by kernel_rfl) ho he
      have l1 := Waits.listed (j := 1) (by kernel_rfl) ho he
      have l2 := Waits.listed (j := 2) (by kernel_rfl) ho he
      have l3 := Waits.listed (j := 3) (by kernel_rfl) ho he
      have off : ∀ {p : Bool}, (p = true → l 4 = true) → p = false := fun h1 => Bool.eq_false_iff.2 fun e => by rw [h1 e] at hl; cases hl
      have h5 : l 5 = false := off fun e => h.up (.inl e)
      have h6' : l 6 = false := off fun e => h.up (.inr (.inl e))
      have h7' : l 7 = false := off fun e => h.up (.inr (.inr e))
      obtain ⟨b, hb, hbz⟩ := h.v3 hl l3
      have hlow := h.low hl
      have s0 := hlow.size
      refine wpOp_plain (o := appOps[4]'(by decide)) rfl rfl (wp_append_lies w (.tmp 18) (.tmp 21) 25 rfl base 27 i0 (.agg #[.int .i64 0, .bool false, .slice none 0 0, .bool false, .string ⟨#[]⟩, .slice none 0 0, .slice none 0 0]) 7 112 Try.underlying25 hi0 hz0 hz1 hz2 rfl (by omega) V m (cellsAll ts) (eval_tmp (h.v0 hl l0)) (own_below7 (hV ▸ own) hlow)
        ⟨b, 0, none⟩ 1 1 zeroC (eval_tmp hb) rfl (World.news_of_block hbz) (by intro u hu; simp only [zeroC, List.mem_cons, List.not_mem_nil, or_false] at hu; rcases hu with rfl | rfl | rfl | rfl | rfl | rfl | rfl <;> rfl) (by omega) (by unfold maxLen; omega) (by omega) (by omega) w.heap.size rfl ?_)
      intro gg cap w8 own8 hg hat hlt
      have hL8 := (hg.block L (by omega) (by rw [← hV]; exact hVL)).trans ((hlow.block L hL0).trans hL)
      have H : AI L X base B m V x ts w0 (l 0) (l 1) (l 2) (l 3) true (l 5) (l 6) (l 7) (a.put (some 22) (.slice (some ⟨gg, 0, none⟩) (m + 1) cap)) w8 :=
        ⟨ps h.size, pg h.size h.p6, pg h.size h.p7, fun _ => rfl, h.up6, (fun e => by cases e), fun e => pg h.size (h.v1 e), fun e => pg h.size (h.v2 e), (fun e => by cases e), (fun e => by cases e), fun _ => ⟨l0, l1, l2, l3, gg, cap, pe h.size, by rw [h6', if_neg (by decide)]; exact own8, by rw [h7', if_neg (by decide), ← hV]; exact hL8,
          fun i h1 h2 h3 => (hg.block i (by omega) (fun e => h3 e.symm)).trans (hlow.block i h1), hat.imp id (fun e => by omega), (hlow.mono hB0).grown hg (by omega) (fun k hk => by rw [← hV] at hk; have := (own.lt _ hk).1; omega), fun e => by rw [h5] at e; cases e⟩⟩
      simpa [show (appOps[4]'(by decide)).dst = some 22 from rfl] using H
    · have l4 := Waits.listed (j := 4) (by kernel_rfl) ho he
      obtain ⟨l0, l1, l2, l3, gg, cap, h22, own8, hL8, hk, hat, hb, _⟩ := h.hi l4
      have h6' : l 6 = false := Bool.eq_false_iff.2 fun e => by rw [h.up6 e] at hl; cases hl
      have hix := exec_ixq (w := w) (o := appOps[5]) rfl h22 (h.v2 l2) (Nat.lt_succ_self m)
      rw [Nat.zero_add] at hix
      refine wpOp_valD rfl rfl rfl hix ?_
      have H : AI L X base B m V x ts w0 (l 0) (l 1) (l 2) (l 3) (l 4) true (l 6) (l 7) (a.put (some 23) (.pointer (some ⟨gg, m * 7, none⟩))) w :=
        ⟨ps h.size, pg h.size h.p6, pg h.size h.p7, fun _ => l4, fun _ => rfl, fun e4 e => pg h.size (h.v0 e4 e), fun e => pg h.size (h.v1 e), fun e => pg h.size (h.v2 e), fun e4 e => (by rw [l4] at e4; cases e4), fun e4 => (by rw [l4] at e4; cases e4), fun _ => ⟨l0, l1, l2, l3, gg, cap, pg h.size h22, own8, hL8, hk, hat, hb, fun _ => pe h.size⟩⟩
      simpa using H
    · have l4 := Waits.listed (j := 4) (by kernel_rfl) ho he
      have l5 := Waits.listed (j := 5) (by kernel_rfl) ho he
      obtain ⟨l0, l1, l2, l3, gg, cap, h22, own8, hL8, hk, hat, hb, h23⟩ := h.hi l4
      rw [if_neg (by rw [hl]; decide)] at own8
      have hgb := (own8.lt gg rfl).1
      obtain ⟨cur, hcur, hcs⟩ : ∃ cur, w.heap[gg]? = some (.cells cur 27 (0, 0)) ∧ (m + 1) * 7 ≤ cur.size := by
        rcases own8.2 with ⟨hv, _⟩ | ⟨g', cap', cur, hv, hb', hg', hn, _, hs, _⟩
        · cases hv
        · cases hv
          exact ⟨cur, hg', by rw [hs]; exact Nat.mul_le_mul_right 7 hn⟩
      refine wpOp_skipW rfl rfl rfl (exec_stD7 rfl (h23 l5) (h.v1 l1) hcur (by omega)) ?_
      have o1 := (((((((own8.stored (m * 7) (.int .i64 x.k)).1.stored (m * 7 + 1) (.bool x.g)).1.stored (m * 7 + 2) (.slice x.la x.ln x.lc)).1.stored (m * 7 + 3) (.bool x.bb)).1.stored (m * 7 + 4) (.string x.s)).1.stored (m * 7 + 5) (.slice x.ia x.items.length x.ic)).1.stored (m * 7 + 6) (.slice x.ta x.tail.length x.tc)).1
      rw [set_last own.1] at o1
      have hoth : ∀ i, i ≠ gg → (((((((w.setCell ⟨gg, m * 7, none⟩ (.int .i64 x.k)).setCell ⟨gg, m * 7 + 1, none⟩ (.bool x.g)).setCell ⟨gg, m * 7 + 2, none⟩ (.slice x.la x.ln x.lc)).setCell ⟨gg, m * 7 + 3, none⟩ (.bool x.bb)).setCell ⟨gg, m * 7 + 4, none⟩ (.string x.s)).setCell ⟨gg, m * 7 + 5, none⟩ (.slice x.ia x.items.length x.ic)).setCell ⟨gg, m * 7 + 6, none⟩ (.slice x.ta x.tail.length x.tc)).heap[i]? = w.heap[i]? := fun i hi => by
        exact (Below.heap_setCell _ ⟨gg, m * 7 + 6, none⟩ _ _ hi).trans ((Below.heap_setCell _ ⟨gg, m * 7 + 5, none⟩ _ _ hi).trans ((Below.heap_setCell _ ⟨gg, m * 7 + 4, none⟩ _ _ hi).trans ((Below.heap_setCell _ ⟨gg, m * 7 + 3, none⟩ _ _ hi).trans ((Below.heap_setCell _ ⟨gg, m * 7 + 2, none⟩ _ _ hi).trans ((Below.heap_setCell _ ⟨gg, m * 7 + 1, none⟩ _ _ hi).trans (Below.heap_setCell _ ⟨gg, m * 7, none⟩ _ _ hi))))))
      have hbb : Below B w0 (((((((w.setCell ⟨gg, m * 7, none⟩ (.int .i64 x.k)).setCell ⟨gg, m * 7 + 1, none⟩ (.bool x.g)).setCell ⟨gg, m * 7 + 2, none⟩ (.slice x.la x.ln x.lc)).setCell ⟨gg, m * 7 + 3, none⟩ (.bool x.bb)).setCell ⟨gg, m * 7 + 4, none⟩ (.string x.s)).setCell ⟨gg, m * 7 + 5, none⟩ (.slice x.ia x.items.length x.ic)).setCell ⟨gg, m * 7 + 6, none⟩ (.slice x.ta x.tail.length x.tc)) := by
        have hBg : B ≤ gg := by omega
        exact ((((((hb.setCell (p := ⟨gg, m * 7, none⟩) hBg _).setCell (p := ⟨gg, m * 7 + 1, none⟩) hBg _).setCell (p := ⟨gg, m * 7 + 2, none⟩) hBg _).setCell (p := ⟨gg, m * 7 + 3, none⟩) hBg _).setCell (p := ⟨gg, m * 7 + 4, none⟩) hBg _).setCell (p := ⟨gg, m * 7 + 5, none⟩) hBg _).setCell (p := ⟨gg, m * 7 + 6, none⟩) hBg _
      generalize (((((((w.setCell ⟨gg, m * 7, none⟩ (.int .i64 x.k)).setCell ⟨gg, m * 7 + 1, none⟩ (.bool x.g)).setCell ⟨gg, m * 7 + 2, none⟩ (.slice x.la x.ln x.lc)).setCell ⟨gg, m * 7 + 3, none⟩ (.bool x.bb)).setCell ⟨gg, m * 7 + 4, none⟩ (.string x.s)).setCell ⟨gg, m * 7 + 5, none⟩ (.slice x.ia x.items.length x.ic)).setCell ⟨gg, m * 7 + 6, none⟩ (.slice x.ta x.tail.length x.tc)) = w9 at o1 hoth hbb ⊢
      have H : AI L X base B m V x ts w0 (l 0) (l 1) (l 2) (l 3) (l 4) (l 5) true (l 7) a w9 :=
        ⟨h.size, h.p6, h.p7, fun _ => l4, fun _ => l5, h.v0, h.v1, h.v2, fun e4 e => (by rw [l4] at e4; cases e4), fun e4 => (by rw [l4] at e4; cases e4), fun _ => ⟨l0, l1, l2, l3, gg, cap, h22, by rw [if_pos rfl]; exact o1, (hoth L (by omega)).trans hL8,
          fun i h1 h2 h3 => (hoth i (fun e => by subst e; rcases hat with h4 | h4; exact h3 h4; omega)).trans (hk i h1 h2 h3), hat, hbb, h23⟩⟩
      simpa using H
    · have l4 := Waits.listed (j := 4) (by kernel_rfl) ho he
      obtain ⟨l0, l1, l2, l3, gg, cap, h22, own8, hL8, hk, hat, hb, h23⟩ := h.hi l4
      refine wpOp_skipW rfl rfl rfl (exec_storeS rfl h.p6 h22 hL8) ?_
      have H : AI L X base B m V x ts w0 (l 0) (l 1) (l 2) (l 3) (l 4) (l 5) (l 6) true a (w.setCell ⟨L, 0, none⟩ (.slice (some ⟨gg, 0, none⟩) (m + 1) cap)) :=
        ⟨h.size, h.p6, h.p7, fun _ => l4, h.up6, h.v0, h.v1, h.v2, fun e4 e => (by rw [l4] at e4; cases e4), fun e4 => (by rw [l4] at e4; cases e4), fun _ => ⟨l0, l1, l2, l3, gg, cap, h22, ownsRow_setCell_below own8 (a := ⟨L, 0, none⟩) hlb _, by rw [if_pos rfl]; simp [World.setCell, Array.getElem?_modify, hL8],
          fun i h1 h2 h3 => (Below.heap_setCell _ _ _ _ h2).trans (hk i h1 h2 h3), hat, hb.setCell (p := ⟨L, 0, none⟩) hBL _, h23⟩⟩
      simpa using H
  · intro l a w hl h
    obtain ⟨_, _, _, _, gg, cap, _, ho, hLs, hk, hg, hb, _⟩ := h.hi (hl 4 (by decide))
    rw [if_pos (hl 6 (by decide))] at ho
    rw [if_pos (hl 7 (by decide))] at hLs
    subst hV
    exact hQ a w gg cap ho hLs hk hg hb
end

section
theorem Fine.cells {base i : Nat} {A C : World} {c : Array Value} {T : TypeId} {fr : Nat × Nat} (h : Fine base A C) (hi : A.heap[i]? = some (.cells c T fr)) (hT : T ≠ 114) : C.heap[i]? = some (.cells c T fr) := by
  rcases h.kept i (Array.getElem?_eq_some_iff.1 hi).1 with e | ⟨o, ho, hm⟩
  · rw [e]; exact hi
  · rw [hi] at ho
    obtain rfl := Option.some.inj ho
    rcases hm with ⟨c', fr', e⟩ | hm
    · injection e with _ e2
      exact absurd e2 hT
    · exact absurd rfl (hm _ _ _)
theorem RowP.fine {Bq base : Nat} {V : Value} {ts : List LT} {A C : World} (h : RowP Bq V ts A) (hf : Fine base A C) : RowP Bq V ts C := by
  refine ⟨⟨h.1.1, ?_⟩, AllP.keep h.2 hf.size fun q hq => ?_⟩
  · rcases h.1.2 with hn | ⟨g, cap, cur, hv, hb, hg, rest⟩
    · exact .inl hn
    · exact .inr ⟨g, cap, cur, hv, hb, hf.cells hg (by decide), rest⟩
  · obtain ⟨⟨h1, c, T, hc, h2, h3⟩, h4⟩ := hq
    have e := hf.cells hc h3
    exact ⟨⟨⟨h1, c, T, e, h2, h3⟩, h4⟩, by rw [e, hc]⟩
/-- What the loop of all knows. -/
def AlI (B L Mb Bq : Nat) (most : Int) (sh : List DT) (w : World) (k : Nat) (W : World) : Prop :=
  ∃ (VA : Option Addr) (vc : Nat) (ts : List LT), ts.length = k ∧ W.heap[L]? = some (.cells #[.slice VA k vc] 25 (0, 0)) ∧ RowP Bq (.slice VA k vc) ts W ∧ Hid (shapes ts = sh.take k) ∧ W.heap[Mb]? = some (.cells #[.int .i64 most] 3 (0, 0)) ∧ Bq + 3 ≤ W.heap.size ∧ Below B w W ∧ (0 ≤ most → (k : Int) ≤ most)
theorem AlI.fine {B L Mb Bq base k : Nat} {most : Int} {sh : List DT} {w A C : World} (h : AlI B L Mb Bq most sh w k A) (hf : Fine base A C) (hB : B ≤ base) : AlI B L Mb Bq most sh w k C := by
  obtain ⟨VA, vc, ts, h1, h2, h3, h4, h5, h6, h7, h8⟩ := h
  exact ⟨VA, vc, ts, h1, hf.cells h2 (by decide), h3.fine hf, h4, hf.cells h5 (by decide), Nat.le_trans h6 hf.size, h7.trans (hf.toBelow.mono hB), h8⟩
theorem shapes_snoc (l : List LT) (t : LT) : shapes (l ++ [t]) = shapes l ++ [shape t] := by
  induction l with
  | nil => simp [shapes]
  | cons x l ih => simp [shapes, ih]
theorem al_next {B Bs L Mb Bq k vc gg cap : Nat} {most : Int} {sh : List DT} {w Wb w' : World} {VA : Option Addr} {ts : List LT} {u : LT} (hts : ts.length = k) (hR : RowP Bq (.slice VA k vc) ts Wb) (hsh : shapes ts = sh.take k) (hmb : Wb.heap[Mb]? = some (.cells #[.int .i64 most] 3 (0, 0))) (hsz : Bq + 3 ≤ Wb.heap.size) (hbel : Below B w Wb) (hk : k < sh.length)
    (hu : HeldP Wb (fun q => Fresh Wb (Bq + 3) q ∧ (Value.slice VA k vc).ownBlock ≠ some q) u) (hus : shape u = sh[k]) (own' : w'.ownsRow (Bq + 3) 27 7 (.slice (some ⟨gg, 0, none⟩) (k + 1) cap) (k + 1) (cellsAll ts ++ u.cells)) (hL' : w'.heap[L]? = some (.cells #[.slice (some ⟨gg, 0, none⟩) (k + 1) cap] 25 (0, 0)))
    (hkeep : ∀ i, i < Wb.heap.size → i ≠ L → (Value.slice VA k vc).ownBlock ≠ some i → w'.heap[i]? = Wb.heap[i]?) (hat : (Value.slice VA k vc).ownBlock = some gg ∨ Wb.heap.size ≤ gg) (hb : Below B Wb w') (hLq : L < Bq + 3) (hMq : Mb < Bq + 3) (hLM : Mb ≠ L) (hBs : Bs ≤ Bq + 3) (hm : 0 ≤ most → ((k + 1 : Nat) : Int) ≤ most) :
    ButU Bs (fun r => r = L) Wb w' ∧ AlI B L Mb Bq most sh w (k + 1) w' := by
  have hsw := hb.size
  have hlow : ∀ q, Bq + 3 ≤ q → q ≠ L := fun q h e => by omega
  have hown : ∀ q, (Value.slice VA k vc).ownBlock = some q → Bq + 3 ≤ q ∧ ∃ c fr, Wb.heap[q]? = some (.cells c 27 fr) := fun q hq => by
    rcases hR.1.2 with ⟨hv, _⟩ | ⟨g, cap', cur, hv, hb', hg, _⟩
    · rw [hv] at hq; cases hq
    · rw [hv] at hq
      obtain rfl : g = q := Option.some.inj hq
      exact ⟨hb', cur, _, hg⟩
  have hfr : ∀ q, Fresh Wb (Bq + 3) q ∧ (Value.slice VA k vc).ownBlock ≠ some q → (Fresh w' (Bq + 3) q ∧ (Value.slice (some ⟨gg, 0, none⟩) (k + 1) cap).ownBlock ≠ some q) ∧ w'.heap[q]? = Wb.heap[q]? := fun q hq => by
    have hlt := hq.1.lt
    have e := hkeep q hlt (hlow q hq.1.1) hq.2
    refine ⟨⟨hq.1.same e, fun h => ?_⟩, e⟩
    obtain rfl : gg = q := Option.some.inj h
    rcases hat with h | h
    · exact hq.2 h
    · omega
  refine ⟨⟨hsw, fun q hq hne => ?_⟩, some ⟨gg, 0, none⟩, cap, ts ++ [u], by simp [hts], hL', ⟨?_, AllP.snoc (AllP.keep hR.2 hsw hfr) (hu.keep hsw hfr)⟩, Lib.hid ?_, (hkeep Mb (by omega) hLM (fun e => by have := (hown _ e).1; omega)).trans hmb, by omega, hbel.trans hb, hm⟩
  · by_cases e : (Value.slice VA k vc).ownBlock = some q
    · obtain ⟨h1, h2⟩ := hown q e
      exact .inr ⟨by omega, h2⟩
    · exact .inl (hkeep q hq hne e)
  · rw [List.length_append, cellsAll_append, show cellsAll [u] = u.cells from List.append_nil _, List.length_singleton, hts]
    exact own'
  · rw [shapes_snoc, hsh, hus, List.take_succ_eq_append_getElem hk]
end

section
attribute [local go_sem] Oper.semAt_some

mutual
/-- A shape and all that are in it, itself first. -/
def seqD : DT → List DT
  | .mk k g ys bb s items tail => .mk k g ys bb s items tail :: (seqDs items ++ seqDs tail)
def seqDs : List DT → List DT
  | [] => []
  | d :: l => seqD d ++ seqDs l
end
mutual
theorem seqT_shape : ∀ (t : LT) (v b o : Nat), (seqT t v b o).map (fun x => shape x.t) = seqD (shape t)
  | .mk k g la ln lc ys bb s ia ic items ta tc tail, v, b, o => by
    simp only [seqT, List.map_cons, List.map_append, shape, seqD, seqR_shape]
theorem seqR_shape : ∀ (l : List LT) (v b o : Nat), (seqR l v b o).map (fun x => shape x.t) = seqDs (shapes l)
  | [], _, _, _ => by simp [seqR, shapes, seqDs]
  | t :: l, v, b, o => by
    simp only [seqR, List.map_append, shapes, seqDs]
    rw [seqT_shape t v b o, seqR_shape l v b (o + 7)]
end
def obD (vs : Array Value) : Obj := match vs.getD 0 undef with
  | .agg cs => .cells cs 27
  | _ => (Obj.cells #[.int .i64 0, .bool false, .slice none 0 0, .bool false, .string ⟨#[]⟩, .slice none 0 0, .slice none 0 0] 27)
/-- What all makes: a row of its own. -/
def AlPost (sh : List DT) (most : Int) (w : World) (e : Ending) (w' : World) : Prop :=
  ∃ (A : Option Addr) (n c Bq : Nat) (us : List LT), e = .returned (.slice A n c) ∧ us.length = n ∧ RowP Bq (.slice A n c) us w' ∧ w.heap.size ≤ Bq + 3 ∧ shapes us = sh.take n ∧ (n = sh.length ∨ (n : Int) = most) ∧ (0 ≤ most → (n : Int) ≤ most) ∧ n ≤ sh.length ∧ Below w.heap.size w w'
set_option maxRecDepth 100000 in
set_option maxHeartbeats 12800000 in
theorem all_in (M : Nat) (t : LT) (most : Int) (h1 : t.size ≤ 100000) (h2 : t.depth ≤ 10000) (hT : Tame t) (w : World) (hM : M ≤ w.heap.size) (hH : Held w M t) :
    CallsIn Fence.wide 5 Try.prog 22 #[.agg #[.int .i64 t.k, .bool t.g, .slice t.la t.ln t.lc, .bool t.bb, .string t.s, .slice t.ia t.items.length t.ic, .slice t.ta t.tail.length t.tc], .int .i64 most] w (AlPost (seqD (shape t)) most w) := by
  obtain ⟨w2, hw2, q0, q1, qz, qb⟩ := two2 w (Obj.cells #[.int .i64 t.k, .bool t.g, .slice t.la t.ln t.lc, .bool t.bb, .string t.s, .slice t.ia t.items.length t.ic, .slice t.ta t.tail.length t.tc] 27) (.cells #[.int .i64 most] 3)
  have hwa := walk_any M t h1 h2 hT w2 (Nat.le_trans hM qb.size) (hH.below hM qb)
  have HW := Lib.hid (And.intro hwa (And.intro q0 (And.intro q1 (And.intro qz (And.intro qb hw2)))))
  have HT := Lib.hid (And.intro hT (And.intro h1 h2))
  clear hwa q0 q1 qz qb hT h1 h2
  have hnf : ∀ (P : Nat) (W : World), (binOp .eql 84 (.func (.func 77) #[] #[.pointer (some ⟨P, 0, none⟩)]) .nilFunc).run Try.prog W = .ok (.bool false) W := fun _ _ => rfl
  refine callsIn_of_wp_marks Try.func22 rfl trivial ?_ rfl
  simp only [Try.ntmps22, List.size_toArray, List.length_cons, List.length_nil, Nat.reduceAdd, Nat.reduceSub, Array.replicate_succ, Array.replicate_zero, List.push_toArray, List.append_toArray, List.nil_append, List.cons_append]
  gi_wp2_with (refine ⟨trivial, ?_⟩; gi_at_call 52; rw [← HW.out.2.2.2.2.2]; refine (callsIn_wide.2 HW.out.1).mono ?_; rintro e w5 ⟨P, u, rfl, hP, hu, hus, b5⟩; have HU := Lib.hid (And.intro hP (And.intro hu (And.intro hus b5))); clear hP hu hus b5)
  have z2 := HW.out.2.2.2.1
  have z5 := HU.out.2.2.2.size
  obtain ⟨W6, hW6⟩ : ∃ W6, w5.alloc (.cells #[.slice none 0 0] 25) = W6 := ⟨_, rfl⟩
  have z6 : W6.heap.size = w5.heap.size + 1 := by rw [← hW6, World.size_alloc]
  have b6 : Below w5.heap.size w5 W6 := by rw [← hW6]; exact (Below.refl _ _).alloc (Nat.le_refl _) _
  have l6 : W6.heap[w5.heap.size]? = some (.cells #[.slice none 0 0] 25 (0, 0)) := by rw [← hW6]; exact World.alloc_heap_new _ _
  rw [hW6]
  obtain ⟨full, hfull⟩ : ∃ full, full = seqT u 1 P 0 := ⟨_, rfl⟩
  obtain ⟨sh, hsh⟩ : ∃ sh, sh = seqD (shape t) := ⟨_, rfl⟩
  have hfs : full.map (fun x => shape x.t) = sh := by rw [hfull, hsh, seqT_shape, HU.out.2.2.1]
  have hfl : full.length ≤ 100000 := by rw [hfull, seqT_length, size_same HU.out.2.2.1]; exact HT.out.2.1
  have hlen : full.length = sh.length := by rw [← hfs, List.length_map]
  have hPl : P < w5.heap.size := (Array.getElem?_eq_some_iff.1 HU.out.1).1
  have hLP : Lies W6 w5.heap.size u P 0 := lies_held.2 ⟨hPl, Seven.of ((b6.block P hPl).trans HU.out.1), HU.out.2.1.below (Nat.le_refl _) b6⟩
  obtain ⟨Bq, hBq⟩ : ∃ Bq, W6.heap.size = Bq + 3 := ⟨W6.heap.size - 3, by omega⟩
  have hruns := walk2_runsF P w5.heap.size (Bq + 3) u (fun r => r = w5.heap.size ∨ r = W6.heap.size + 1) W6 (fun r hr => by rcases hr with rfl | rfl <;> omega) (by omega) (by omega) hLP (tame_same (hH) HU.out.2.1 HU.out.2.2.1 HT.out.1) (by rw [size_same HU.out.2.2.1]; exact HT.out.2.1) (by rw [depth_same HU.out.2.2.1]; exact HT.out.2.2)
  rw [← hfull] at hruns
  have hb26 : Below w.heap.size w W6 := (HW.out.2.2.2.2.1.trans (HU.out.2.2.2.mono (by omega))).trans (b6.mono (by omega))
  have hI0 : AlI w.heap.size w5.heap.size (w.heap.size + 1) Bq most sh w 0 W6 := ⟨none, 0, [], rfl, l6, ⟨World.ownsRow_nil _ _ _ _, fun _ h => by cases h⟩, Lib.hid (by simp [shapes]), (b6.block _ (by omega)).trans ((HU.out.2.2.2.block _ (by omega)).trans HW.out.2.2.1), by omega, hb26, fun h => by simpa using h⟩
  have HI0 := Lib.hid hI0
  have HF := Lib.hid (And.intro hfs (And.intro hlen (And.intro hruns hsh)))
  clear hI0 hfs hlen hruns hLP hPl hfull hsh l6 b6 hb26 hnf hW6 hw2
  refine wpIn_runsRF (Bs := Bq + 3) (X := fun r => r = w5.heap.size) (w0 := W6) rfl (by decide) (gf := 77) (lb := #[.pointer (some ⟨P, 0, none⟩)]) rfl trivial (enters_of Try.func77 (by kernel_rfl) rfl)
    HF.out.2.2.1 (fun r hr => by omega) (Below.refl _ _) (fun k A B vs h => by obtain ⟨u, rfl, _⟩ := h; rfl) (fun k W => AlI w.heap.size w5.heap.size (w.heap.size + 1) Bq most sh w k W) (fun c k W => c = .exit 0 ∧ AlI w.heap.size w5.heap.size (w.heap.size + 1) Bq most sh w k W ∧ (k : Int) = most)
    (fun k A B hAB h => h.fine hAB (by omega)) (fun c k A B hAB h => ⟨h.1, h.2.1.fine hAB (by omega), h.2.2⟩) HI0.out
    (fun W vs => { tmps := #[.agg #[.int .i64 t.k, .bool t.g, .slice t.la t.ln t.lc, .bool t.bb, .string t.s, .slice t.ia t.items.length t.ic, .slice t.ta t.tail.length t.tc], .int .i64 most, .pointer (some ⟨w.heap.size, 0, none⟩), .pointer (some ⟨w.heap.size + 1, 0, none⟩), .slice none 0 0, .func (.func 77) #[] #[.pointer (some ⟨P, 0, none⟩)], .pointer (some ⟨w5.heap.size, 0, none⟩), .pointer (some ⟨W.heap.size, 0, none⟩), .agg #[.int .i64 t.k, .bool t.g, .slice t.la t.ln t.lc, .bool t.bb, .string t.s, .slice t.ia t.items.length t.ic, .slice t.ta t.tail.length t.tc], .func (.func 77) #[] #[.pointer (some ⟨P, 0, none⟩)], .func (.func 77) #[] #[.pointer (some ⟨P, 0, none⟩)], .bool false, .func (.func 77) #[] #[.pointer (some ⟨P, 0, none⟩)], vs.getD 0 undef, undef, undef, undef, undef, undef, undef, undef, undef, undef, undef, undef], defers := [] }) obD
    ?assign ?body ?done ?stop
  case assign =>
    rintro l k W0 W vs K hk ⟨x, rfl, hx, hxs⟩ hK
    clear hx hxs
    gi_wp2
    exact hK
  case body =>
    rintro l k W0 W Wb vs hk hI hs0 b01 ⟨x, rfl, hx, hxs⟩ hl hlo hlow hmid hX hsb hbb hf
    obtain ⟨VA, vc, ts, hts, hL, hR, hshk, hmb, hsz, hbel, hkm⟩ := hI
    have s01 := b01.size
    have hLb := hf.cells hL (by decide)
    have hRb := hR.fine hf
    have hmbb := hf.cells hmb (by decide)
    have hbelb : Below w.heap.size w Wb := hbel.trans (hf.toBelow.mono (by omega))
    have hX' : Wb.heap[W.heap.size]? = some (Obj.cells #[.int .i64 x.k, .bool x.g, .slice x.la x.ln x.lc, .bool x.bb, .string x.s, .slice x.ia x.items.length x.ic, .slice x.ta x.tail.length x.tc] 27) := hX
    have hu : HeldP Wb (fun q => Fresh Wb (Bq + 3) q ∧ (Value.slice VA k vc).ownBlock ≠ some q) x := hx.keep (by omega) fun q hq => by
      have h1 := hq.1
      have h2 := hq.lt
      have e := hmid q h1 h2
      exact ⟨⟨(hq.same e).low (by omega), fun h => by have := (hR.1.lt q h).2; omega⟩, e⟩
    have hus : shape x = sh[k]'(by rw [← HF.out.2.1]; exact hk) := by
      rw [hxs]
      have h1 : full[k]? = some full[k] := List.getElem?_eq_getElem hk
      rw [nd_eq h1]
      have h2 := HF.out.1
      subst h2
      simp
    have cL : Wb.cell? ⟨w5.heap.size, 0, none⟩ = some (.slice VA k vc) := by rw [Lib.cell_of_heap hLb]; rfl
    have cM : Wb.cell? ⟨w.heap.size + 1, 0, none⟩ = some (.int .i64 most) := by rw [Lib.cell_of_heap hmbb]; rfl
    have HB := Lib.hid (And.intro hLb (And.intro hRb (And.intro hmbb (And.intro hbelb (And.intro hX' (And.intro hu (And.intro hus (And.intro hshk.out (And.intro hkm hts)))))))))
    have hklen : k < sh.length := by rw [← HF.out.2.1]; exact hk
    have hszb : Bq + 3 ≤ Wb.heap.size := Nat.le_trans hsz hf.size
    clear hL hR hshk hmb hbel hkm hLb hRb hmbb hbelb hX' hX hu hus hx hxs hlow hmid hf hbb hl hlo b01
    by_cases hke : (k : Int) = most
    · gi_wp2
      exact ⟨ButU.refl _ _ _, rfl, ⟨VA, vc, ts, HB.out.2.2.2.2.2.2.2.2.2, HB.out.1, HB.out.2.1, Lib.hid HB.out.2.2.2.2.2.2.2.1, HB.out.2.2.1, hszb, HB.out.2.2.2.1, HB.out.2.2.2.2.2.2.2.2.1⟩, hke⟩
    · gi_wp2
      refine append_round (x := x) (ts := ts) (base := Bq + 3) (B := w.heap.size) rfl rfl rfl HB.out.1 HB.out.2.2.2.2.1 (by have h := HB.out.2.1.1; rw [HB.out.2.2.2.2.2.2.2.2.2] at h; exact h) (by omega) (by omega) (by omega) (by omega) ?_
      intro a' w' gg cap own' hL' hkeep hat hb
      exact al_next HB.out.2.2.2.2.2.2.2.2.2 HB.out.2.1 HB.out.2.2.2.2.2.2.2.1 HB.out.2.2.1 hszb HB.out.2.2.2.1 hklen HB.out.2.2.2.2.2.1 HB.out.2.2.2.2.2.2.1 own' hL' hkeep hat hb (by omega) (by omega) (by omega) (Nat.le_refl _) (fun h => by have := HB.out.2.2.2.2.2.2.2.2.1 h; omega)
  case done =>
    rintro D W hD hI hK
    obtain ⟨VA, vc, ts, hts, hL, hR, hshk, hmb, hsz, hbel, hkm⟩ := hI
    have cL : W.cell? ⟨w5.heap.size, 0, none⟩ = some (.slice VA full.length vc) := by rw [Lib.cell_of_heap hL]; rfl
    have hfin := Fine.deferred (base := D) (.deferred none) (Nat.le_refl _) hK (fun c T fr e => by cases e)
    have HB := Lib.hid (And.intro hK (And.intro (hR.fine hfin) (And.intro hshk.out (And.intro (hbel.trans (hfin.toBelow.mono (by omega))) (And.intro hkm hts)))))
    have HE := Lib.hid (show full.length = sh.length ∨ (full.length : Int) = most from .inl HF.out.2.1)
    clear hL hR hshk hmb hsz hbel hkm hK hfin
    gi_wp2
    refine ⟨by simp, .inl ⟨_, _, rfl, run_takeDeferred HB.out.1, ?_⟩⟩
    exact ⟨.slice VA full.length vc, by simp [results, Try.results22, go_sem], ⟨VA, full.length, vc, Bq, ts, rfl, HB.out.2.2.2.2.2, HB.out.2.1, by omega, (HF.out.2.2.2 ▸ HB.out.2.2.1), (HF.out.2.2.2 ▸ HE.out), HB.out.2.2.2.2.1, (by rw [← HF.out.2.2.2, ← HF.out.2.1]; omega), HB.out.2.2.2.1⟩⟩
  case stop =>
    rintro D c k W hD hk ⟨rfl, hI, hke⟩ hK
    obtain ⟨VA, vc, ts, hts, hL, hR, hshk, hmb, hsz, hbel, hkm⟩ := hI
    have cL : W.cell? ⟨w5.heap.size, 0, none⟩ = some (.slice VA k vc) := by rw [Lib.cell_of_heap hL]; rfl
    have hfin := Fine.deferred (base := D) (.deferred none) (Nat.le_refl _) hK (fun c T fr e => by cases e)
    have HB := Lib.hid (And.intro hK (And.intro (hR.fine hfin) (And.intro hshk.out (And.intro (hbel.trans (hfin.toBelow.mono (by omega))) (And.intro hkm hts)))))
    have HE := Lib.hid (show k = sh.length ∨ (k : Int) = most from .inr hke)
    clear hL hR hshk hmb hsz hbel hkm hK hfin hke
    gi_wp2
    refine ⟨by simp, .inl ⟨_, _, rfl, run_takeDeferred HB.out.1, ?_⟩⟩
    exact ⟨.slice VA k vc, by simp [results, Try.results22, go_sem], ⟨VA, k, vc, Bq, ts, rfl, HB.out.2.2.2.2.2, HB.out.2.1, by omega, (HF.out.2.2.2 ▸ HB.out.2.2.1), (HF.out.2.2.2 ▸ HE.out), HB.out.2.2.2.2.1, (by rw [← HF.out.2.2.2, ← HF.out.2.1]; omega), HB.out.2.2.2.1⟩⟩
theorem all_any (M : Nat) (t : LT) (most : Int) (h1 : t.size ≤ 100000) (h2 : t.depth ≤ 10000) (hT : Tame t) (w : World) (hM : M ≤ w.heap.size) (hH : Held w M t) :
    Calls Try.prog 22 #[.agg #[.int .i64 t.k, .bool t.g, .slice t.la t.ln t.lc, .bool t.bb, .string t.s, .slice t.ia t.items.length t.ic, .slice t.ta t.tail.length t.tc], .int .i64 most] w (AlPost (seqD (shape t)) most w) := callsIn_wide.1 (all_in M t most h1 h2 hT w hM hH)
end
end Go.Proofs.Ytgboiopkihemaaa
