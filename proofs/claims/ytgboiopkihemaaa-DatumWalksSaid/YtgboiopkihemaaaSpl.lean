/-
  datum.Split of any tree.
-/
import Derived.Test.YtgboiopkihemaaaPhr
import Derived.Test.YtgboiopkihemaaaCop
import Derived.Test.YtgboiopkihemaaaTmd
namespace Go.Proofs.Ytgboiopkihemaaa
open Go.RowKit

theorem exec_call0 {P : Program} {a : Act} {w : World} {o : Oper} {f : Nat} (ho : o.op = .call { callee := .value (.func f), args := #[], argTypes := #[] }) :
    (execOp a.eval o).run P w = (callFunc f #[]).run P w := by
  simp [execOp, ho, Act.eval, go_sem]
theorem exec_allocD {a : Act} {w : World} {o : Oper} (ho : o.op = .alloc 27) :
    (execOp a.eval o).run Try.prog w = .ok (.value (.pointer (some ⟨w.heap.size, 0, none⟩))) (w.alloc (Obj.cells #[.int .i64 0, .bool false, .slice none 0 0, .bool false, .string ⟨#[]⟩, .slice none 0 0, .slice none 0 0] 27)) := by
  simp [execOp, ho, go_sem]
/-- Seven cells of a datum. -/
def Seven (w : World) (b o : Nat) (u : LT) : Prop := ∀ j v, u.cells[j]? = some v → w.cell? ⟨b, o + j, none⟩ = some v
theorem exec_loadD {a : Act} {w : World} {o : Oper} {p b off : Nat} {u : LT} (ho : o.op = .load 27 (.tmp p)) (ht : a.tmps.getD p undef = .pointer (some ⟨b, off, none⟩)) (hc : Seven w b off u) :
    (execOp a.eval o).run Try.prog w = .ok (.value (.agg #[.int .i64 u.k, .bool u.g, .slice u.la u.ln u.lc, .bool u.bb, .string u.s, .slice u.ia u.items.length u.ic, .slice u.ta u.tail.length u.tc])) w := by
  have c0 : w.cell? ⟨b, off, none⟩ = some (.int .i64 u.k) := hc 0 _ rfl
  have c1 : w.cell? ⟨b, off + 1, none⟩ = some (.bool u.g) := hc 1 _ rfl
  have c2 : w.cell? ⟨b, off + 2, none⟩ = some (.slice u.la u.ln u.lc) := hc 2 _ rfl
  have c3 : w.cell? ⟨b, off + 3, none⟩ = some (.bool u.bb) := hc 3 _ rfl
  have c4 : w.cell? ⟨b, off + 4, none⟩ = some (.string u.s) := hc 4 _ rfl
  have c5 : w.cell? ⟨b, off + 5, none⟩ = some (.slice u.ia u.items.length u.ic) := hc 5 _ rfl
  have c6 : w.cell? ⟨b, off + 6, none⟩ = some (.slice u.ta u.tail.length u.tc) := hc 6 _ rfl
  rw [Array.getD_eq_getD_getElem?] at ht
  simp [execOp, ho, Act.eval, ht, go_sem, c0, c1, c2, c3, c4, c5, c6]
theorem exec_loadS {a : Act} {w : World} {o : Oper} {p b off n c : Nat} {A : Option Addr} (ho : o.op = .load 25 (.tmp p)) (ht : a.tmps.getD p undef = .pointer (some ⟨b, off, none⟩)) (hc : w.cell? ⟨b, off, none⟩ = some (.slice A n c)) :
    (execOp a.eval o).run Try.prog w = .ok (.value (.slice A n c)) w := by
  rw [Array.getD_eq_getD_getElem?] at ht
  simp [execOp, ho, Act.eval, ht, go_sem, hc]
theorem exec_fld {a : Act} {w : World} {o : Oper} {p b : Nat} (ho : o.op = .fieldAddr 27 (.tmp p) 4) (ht : a.tmps.getD p undef = .pointer (some ⟨b, 0, none⟩)) :
    (execOp a.eval o).run Try.prog w = .ok (.value (.pointer (some ⟨b, 5, none⟩))) w := by
  rw [Array.getD_eq_getD_getElem?] at ht
  simp [execOp, ho, Act.eval, ht, go_sem]
theorem exec_fld5 {a : Act} {w : World} {o : Oper} {p b : Nat} (ho : o.op = .fieldAddr 27 (.tmp p) 5) (ht : a.tmps.getD p undef = .pointer (some ⟨b, 0, none⟩)) :
    (execOp a.eval o).run Try.prog w = .ok (.value (.pointer (some ⟨b, 6, none⟩))) w := by
  rw [Array.getD_eq_getD_getElem?] at ht
  simp [execOp, ho, Act.eval, ht, go_sem]
theorem exec_ix0 {a : Act} {w : World} {o : Oper} {p b off n c : Nat} (ho : o.op = .indexAddr 25 (.tmp p) (.const (.int .i64 0))) (ht : a.tmps.getD p undef = .slice (some ⟨b, off, none⟩) n c) (hn : 0 < n) :
    (execOp a.eval o).run Try.prog w = .ok (.value (.pointer (some ⟨b, off, none⟩))) w := by
  rw [Array.getD_eq_getD_getElem?] at ht
  simp [execOp, ho, Act.eval, ht, go_sem, hn]
theorem exec_storeD {a : Act} {w : World} {o : Oper} {p q b : Nat} {u x : LT} (ho : o.op = .store 27 (.tmp p) (.tmp q)) (ht : a.tmps.getD p undef = .pointer (some ⟨b, 0, none⟩)) (hq : a.tmps.getD q undef = .agg #[.int .i64 u.k, .bool u.g, .slice u.la u.ln u.lc, .bool u.bb, .string u.s, .slice u.ia u.items.length u.ic, .slice u.ta u.tail.length u.tc]) (hb : w.heap[b]? = some (Obj.cells #[.int .i64 x.k, .bool x.g, .slice x.la x.ln x.lc, .bool x.bb, .string x.s, .slice x.ia x.items.length x.ic, .slice x.ta x.tail.length x.tc] 27)) :
    ∃ w', (execOp a.eval o).run Try.prog w = .ok .skip w' ∧ w'.heap[b]? = some (Obj.cells #[.int .i64 u.k, .bool u.g, .slice u.la u.ln u.lc, .bool u.bb, .string u.s, .slice u.ia u.items.length u.ic, .slice u.ta u.tail.length u.tc] 27) ∧ (∀ k, k ≠ b → w'.heap[k]? = w.heap[k]?) ∧ w'.heap.size = w.heap.size ∧ ∀ B, B ≤ b → Below B w w' := by
  have hds := fun j => Lib.cell_of_heap hb j
  have c0 := hds 0; have c1 := hds 1; have c2 := hds 2; have c3 := hds 3; have c4 := hds 4; have c5 := hds 5; have c6 := hds 6
  have hfs := fun j => Lib.frozen_of_heap hb j
  have f0 := hfs 0; have f1 := hfs 1; have f2 := hfs 2; have f3 := hfs 3; have f4 := hfs 4; have f5 := hfs 5; have f6 := hfs 6
  simp only [List.getElem?_toArray, List.getElem?_cons_zero, List.getElem?_cons_succ] at c0 c1 c2 c3 c4 c5 c6
  rw [Array.getD_eq_getD_getElem?] at ht hq
  refine ⟨_, by simp [execOp, ho, Act.eval, ht, hq, go_sem, c0, c1, c2, c3, c4, c5, c6, f0, f1, f2, f3, f4, f5, f6]; rfl, ?_, ?_, ?_, ?_⟩
  · simp [World.setCell, Array.getElem?_modify, hb]
  · intro k hk
    simp [World.setCell, Array.getElem?_modify, Ne.symm hk]
  · simp [World.setCell]
  · intro B hB
    exact set7_below (Below.refl _ _) hB
theorem exec_assignT {P : Program} {a : Act} {w : World} {o : Oper} (ho : o.op = .assign (.const (.bool true))) : (execOp a.eval o).run P w = .ok (.value (.bool true)) w := by
  simp [execOp, ho, Act.eval, go_sem]
theorem exec_cut1 {a : Act} {w : World} {o : Oper} {p b off n c : Nat} (ho : o.op = .slice 25 (.tmp p) (some (.const (.int .i64 1))) none none) (ht : a.tmps.getD p undef = .slice (some ⟨b, off, none⟩) n c) (h0 : 0 < n) (r : Nat) (hr : r = if c = 1 then off else off + 7) :
    (execOp a.eval o).run Try.prog w = .ok (.value (.slice (some ⟨b, r, none⟩) (n - 1) (c - 1))) w := by
  rw [Array.getD_eq_getD_getElem?] at ht
  have e1 : ¬ (n : Int) < 1 := by omega
  have e2 : (1 : Int) ≤ n := by omega
  have e3 : (if c = 1 then some (⟨b, off, none⟩ : Addr) else some ⟨b, off + 7, none⟩) = some ⟨b, r, none⟩ := by rw [hr]; split <;> rfl
  simp [execOp, ho, Act.eval, ht, go_sem, e1, e2, e3]
theorem exec_buildD {a : Act} {w : World} {o : Oper} {p q n c n' c' : Nat} {A B : Option Addr} (ho : o.op = .build 27 #[(0, .const (.int .i64 5)), (4, .tmp p), (5, .tmp q)]) (hp : a.tmps.getD p undef = .slice A n c) (hq : a.tmps.getD q undef = .slice B n' c') :
    (execOp a.eval o).run Try.prog w = .ok (.value (.agg #[.int .i64 5, .bool false, .slice none 0 0, .bool false, .string ⟨#[]⟩, .slice A n c, .slice B n' c'])) w := by
  rw [Array.getD_eq_getD_getElem?] at hp hq
  simp [execOp, ho, Act.eval, hp, hq, go_sem]
theorem results_ddb {fn : Func} {tmps : Array Value} {t t' t2 : Tmp} {w : World} {b b' : Nat} {r v0 v1 v2 v3 v4 v5 v6 x0 x1 x2 x3 x4 x5 x6 : Value} (h : fn.results = #[.cell t 27, .cell t' 27, .tmp t2]) (ht : tmps.getD t undef = .pointer (some ⟨b, 0, none⟩)) (ht' : tmps.getD t' undef = .pointer (some ⟨b', 0, none⟩)) (h2 : tmps.getD t2 undef = r)
    (c0 : w.cell? ⟨b, 0, none⟩ = some v0) (c1 : w.cell? ⟨b, 1, none⟩ = some v1) (c2 : w.cell? ⟨b, 2, none⟩ = some v2) (c3 : w.cell? ⟨b, 3, none⟩ = some v3) (c4 : w.cell? ⟨b, 4, none⟩ = some v4) (c5 : w.cell? ⟨b, 5, none⟩ = some v5) (c6 : w.cell? ⟨b, 6, none⟩ = some v6)
    (e0 : w.cell? ⟨b', 0, none⟩ = some x0) (e1 : w.cell? ⟨b', 1, none⟩ = some x1) (e2 : w.cell? ⟨b', 2, none⟩ = some x2) (e3 : w.cell? ⟨b', 3, none⟩ = some x3) (e4 : w.cell? ⟨b', 4, none⟩ = some x4) (e5 : w.cell? ⟨b', 5, none⟩ = some x5) (e6 : w.cell? ⟨b', 6, none⟩ = some x6) :
    (results fn tmps).run Try.prog w = .ok (.tuple #[.agg #[v0, v1, v2, v3, v4, v5, v6], .agg #[x0, x1, x2, x3, x4, x5, x6], r]) w := by
  rw [Array.getD_eq_getD_getElem?] at ht ht' h2
  simp [results, h, ht, ht', h2, go_sem, c0, c1, c2, c3, c4, c5, c6, e0, e1, e2, e3, e4, e5, e6]
section
variable {P : Program} {ops : Array Oper} {Q : Exit → Act → World → Prop} {i : Nat} {o : Oper} {a : Act} {w w' : World} {K : Act → World → Prop}
theorem wpOp_val {v : Value} (ho : ops[i]? = some o) (hg : o.guard = none) (hr : (execOp a.eval o).run P w = .ok (.value v) w') (h : K (a.put o.dst v) w') : wpOp P ops Q i K a w := by
  refine wpOp_plain ho hg ?_
  unfold Oper.wp
  rw [hr, Oper.upon_value]
  exact h
theorem wpOp_storeD {p q b : Nat} {u x : LT} (ho : ops[i]? = some o) (hg : o.guard = none) (hd : o.dst = none) (hop : o.op = .store 27 (.tmp p) (.tmp q)) (ht : a.tmps.getD p undef = .pointer (some ⟨b, 0, none⟩)) (hq : a.tmps.getD q undef = .agg #[.int .i64 u.k, .bool u.g, .slice u.la u.ln u.lc, .bool u.bb, .string u.s, .slice u.ia u.items.length u.ic, .slice u.ta u.tail.length u.tc]) (hb : w.heap[b]? = some (Obj.cells #[.int .i64 x.k, .bool x.g, .slice x.la x.ln x.lc, .bool x.bb, .string x.s, .slice x.ia x.items.length x.ic, .slice x.ta x.tail.length x.tc] 27))
    (h : ∀ w', w'.heap[b]? = some (Obj.cells #[.int .i64 u.k, .bool u.g, .slice u.la u.ln u.lc, .bool u.bb, .string u.s, .slice u.ia u.items.length u.ic, .slice u.ta u.tail.length u.tc] 27) → (∀ k, k ≠ b → w'.heap[k]? = w.heap[k]?) → w'.heap.size = w.heap.size → (∀ B, B ≤ b → Below B w w') → K a w') : wpOp Try.prog ops Q i K a w := by
  refine wpOp_plain ho hg ?_
  unfold Oper.wp
  obtain ⟨w', he, h1, h2, h3, h4⟩ := exec_storeD hop ht hq hb
  rw [he, Oper.upon_skip, hd]
  exact h w' h1 h2 h3 h4
theorem wpOp_call {f : Nat} {args : Array Value} {R : Ending → World → Prop} (ho : ops[i]? = some o) (hg : o.guard = none) (hr : (execOp a.eval o).run P w = (callFunc f args).run P w) (he : (callFunc f args).run P w = .ok (.enter f args) w) (hc : Calls P f args w R) (h : ∀ e w', R e w' → ∃ v, e = .returned v ∧ K (a.put o.dst v) w') : wpOp P ops Q i K a w := by
  refine wpOp_plain ho hg ?_
  unfold Oper.wp
  rw [hr, he, Oper.upon_enter]
  refine hc.mono ?_
  intro e w' hR
  obtain ⟨v, rfl, hK⟩ := h e w' hR
  exact hK
end
theorem zT : ∃ z : LT, (Obj.cells #[.int .i64 z.k, .bool z.g, .slice z.la z.ln z.lc, .bool z.bb, .string z.s, .slice z.ia z.items.length z.ic, .slice z.ta z.tail.length z.tc] 27) = (Obj.cells #[.int .i64 0, .bool false, .slice none 0 0, .bool false, .string ⟨#[]⟩, .slice none 0 0, .slice none 0 0] 27) := ⟨plainT 0 false none 0 0 [] false ⟨#[]⟩, rfl⟩
theorem Seven.of {w : World} {b : Nat} {u : LT} (h : w.heap[b]? = some (Obj.cells #[.int .i64 u.k, .bool u.g, .slice u.la u.ln u.lc, .bool u.bb, .string u.s, .slice u.ia u.items.length u.ic, .slice u.ta u.tail.length u.tc] 27)) : Seven w b 0 u := fun j v hj => by rw [Lib.cell_of_heap h, Nat.zero_add, List.getElem?_toArray]; exact hj

set_option maxRecDepth 100000 in
set_option maxHeartbeats 6400000 in
theorem split_walk (g bb : Bool) (s : ByteArray) (la ta : Option Addr) (ln lc ib io ro n ic n' tc : Nat) (x : LT) (d1 d2 : DT) (w : World) (hx : ∀ W, Below w.heap.size w W → Seven W ib io x)
    (HC1 : ∀ W, Below w.heap.size w W → Calls Try.prog 42 #[.agg #[.int .i64 x.k, .bool x.g, .slice x.la x.ln x.lc, .bool x.bb, .string x.s, .slice x.ia x.items.length x.ic, .slice x.ta x.tail.length x.tc], .agg #[.int .i64 20000000, .int .i64 65537]] W (NPost d1 W)) (hn0 : 0 < n) (hn : n ≤ ic) (hic : ic ≤ maxLen) (hro : ro = if ic = 1 then io else io + 7)
    (hy : n = 1 → 0 < n' → ∃ tb to y, ta = some ⟨tb, to, none⟩ ∧ (∀ W, Below w.heap.size w W → Seven W tb to y) ∧ ∀ W, Below w.heap.size w W → Calls Try.prog 42 #[.agg #[.int .i64 y.k, .bool y.g, .slice y.la y.ln y.lc, .bool y.bb, .string y.s, .slice y.ia y.items.length y.ic, .slice y.ta y.tail.length y.tc], .agg #[.int .i64 20000000, .int .i64 65537]] W (NPost d2 W))
    (hz : ¬ (n = 1 ∧ 0 < n') → ∀ W, Below w.heap.size w W → Calls Try.prog 42 #[.agg #[.int .i64 5, .bool false, .slice none 0 0, .bool false, .string ⟨#[]⟩, .slice (some ⟨ib, ro, none⟩) (n - 1) (ic - 1), .slice ta n' tc], .agg #[.int .i64 20000000, .int .i64 65537]] W (NPost d2 W)) :
    Calls Try.prog 14 #[.agg #[.int .i64 5, .bool g, .slice la ln lc, .bool bb, .string s, .slice (some ⟨ib, io, none⟩) n ic, .slice ta n' tc]] w fun e w' => ∃ u v : LT, e = .returned (.tuple #[.agg #[.int .i64 u.k, .bool u.g, .slice u.la u.ln u.lc, .bool u.bb, .string u.s, .slice u.ia u.items.length u.ic, .slice u.ta u.tail.length u.tc], .agg #[.int .i64 v.k, .bool v.g, .slice v.la v.ln v.lc, .bool v.bb, .string v.s, .slice v.ia v.items.length v.ic, .slice v.ta v.tail.length v.tc], .bool true]) ∧ HeldP w' (Fresh w' w.heap.size) u ∧ shape u = d1 ∧ HeldP w' (Fresh w' w.heap.size) v ∧ shape v = d2 ∧ Below w.heap.size w w' := by
  obtain ⟨w3, hw3, a0, a1, a2, hsz, hbel, _⟩ := three3 w (.cells #[.int .i64 5, .bool g, .slice la ln lc, .bool bb, .string s, .slice (some ⟨ib, io, none⟩) n ic, .slice ta n' tc] 27) (Obj.cells #[.int .i64 0, .bool false, .slice none 0 0, .bool false, .string ⟨#[]⟩, .slice none 0 0, .slice none 0 0] 27) (Obj.cells #[.int .i64 0, .bool false, .slice none 0 0, .bool false, .string ⟨#[]⟩, .slice none 0 0, .slice none 0 0] 27)
  have q0 : ((n : Int) == 0) = false := beq_eq_false_iff_ne.2 (by omega)
  have HX := Lib.hid (And.intro hx (And.intro HC1 (And.intro hy hz)))
  have HA := Lib.hid (And.intro a0 (And.intro a1 (And.intro a2 (And.intro hsz hbel))))
  clear hx HC1 a0 a1 a2 hsz hbel hy hz
  have HW := Lib.hid hw3
  clear hw3
  go_enter Try.func14, Try.ntmps14
  go_wp2_with fail
  rw [← HW.out]
  have c5w : ∀ W, Below w3.heap.size w3 W → W.cell? ⟨w.heap.size, 5, none⟩ = some (.slice (some ⟨ib, io, none⟩) n ic) := fun W hb => by
    rw [Lib.cell_of_heap ((hb.block _ (by rw [HA.out.2.2.2.1]; omega)).trans HA.out.1)]; rfl
  have hbw : ∀ W, Below w3.heap.size w3 W → Below w.heap.size w W := fun W hb => HA.out.2.2.2.2.trans (hb.mono (by rw [HA.out.2.2.2.1]; omega))
  refine wp_region_phasesR (nA := 7) 5 6 (by decide) (by decide) (by decide) (fun W v v' => ∃ (u : LT) (P : Nat), v = .agg #[.int .i64 u.k, .bool u.g, .slice u.la u.ln u.lc, .bool u.bb, .string u.s, .slice u.ia u.items.length u.ic, .slice u.ta u.tail.length u.tc] ∧ v' = .pointer (some ⟨P, 0, none⟩) ∧ w3.heap.size ≤ P ∧ W.heap[P]? = some (Obj.cells #[.int .i64 0, .bool false, .slice none 0 0, .bool false, .string ⟨#[]⟩, .slice none 0 0, .slice none 0 0] 27) ∧ HeldP W (fun k => Fresh W w3.heap.size k ∧ k ≠ P) u ∧ shape u = d1)
    (fun W W' v v' h hb => by
      obtain ⟨u, P, e1, e2, h1, h2, h3, h4⟩ := h
      exact ⟨u, P, e1, e2, h1, (hb.block P (Array.getElem?_eq_some_iff.1 h2).1).trans h2, h3.keep hb.size (fun k hk => ⟨⟨hk.1.same (hb.block k hk.1.lt), hk.2⟩, hb.block k hk.1.lt⟩), h4⟩)
    (by kernel_rfl) (by kernel_rfl) (fun i => if i < 6 then 17 + i else 5)
    (fun i W v => match i with
      | 0 => v = .pointer (some ⟨w.heap.size, 5, none⟩)
      | 1 => v = .slice (some ⟨ib, io, none⟩) n ic
      | 2 => v = .pointer (some ⟨ib, io, none⟩)
      | 3 => v = .agg #[.int .i64 x.k, .bool x.g, .slice x.la x.ln x.lc, .bool x.bb, .string x.s, .slice x.ia x.items.length x.ic, .slice x.ta x.tail.length x.tc]
      | 4 => v = .agg #[.int .i64 20000000, .int .i64 65537]
      | 5 => ∃ u : LT, v = .agg #[.int .i64 u.k, .bool u.g, .slice u.la u.ln u.lc, .bool u.bb, .string u.s, .slice u.ia u.items.length u.ic, .slice u.ta u.tail.length u.tc] ∧ HeldP W (Fresh W w3.heap.size) u ∧ shape u = d1
      | _ => ∃ P, v = .pointer (some ⟨P, 0, none⟩) ∧ w3.heap.size ≤ P ∧ W.heap[P]? = some (Obj.cells #[.int .i64 0, .bool false, .slice none 0 0, .bool false, .string ⟨#[]⟩, .slice none 0 0, .slice none 0 0] 27)) (by decide) (by kernel_rfl)
    (fun i j hi hj h => by split at h <;> split at h <;> omega) (fun i hi => by simp only [List.size_toArray, List.length_cons, List.length_nil]; split <;> omega) ?_ ?_ ?_
  · intro i hi W W' v h hb
    rcases (show i = 0 ∨ i = 1 ∨ i = 2 ∨ i = 3 ∨ i = 4 ∨ i = 5 ∨ i = 6 by omega) with rfl | rfl | rfl | rfl | rfl | rfl | rfl
    · exact h
    · exact h
    · exact h
    · exact h
    · exact h
    · obtain ⟨u, e, h1, h2⟩ := h; exact ⟨u, e, h1.below hb (Nat.le_refl _), h2⟩
    · obtain ⟨P, e, h1, h2⟩ := h; exact ⟨P, e, h1, (hb.block P (Array.getElem?_eq_some_iff.1 h2).1).trans h2⟩
  · intro i hi l A W I hdep
    rcases (show i = 0 ∨ i = 1 ∨ i = 2 ∨ i = 3 ∨ i = 4 ∨ i = 5 ∨ i = 6 by omega) with rfl | rfl | rfl | rfl | rfl | rfl | rfl
    · exact wpOp_val rfl rfl (exec_fld rfl ((I.other 1 (by intro j hj; split <;> omega)).trans rfl)) ⟨_, rfl, rfl, Below.refl _ _, fun h => absurd h (by decide), fun h => absurd h (by decide)⟩
    · have v0 : A.tmps.getD 17 undef = _ := I.val 0 (by decide) (hdep 0 (by kernel_rfl))
      exact wpOp_val rfl rfl (exec_loadS rfl v0 (c5w W I.below)) ⟨_, rfl, rfl, Below.refl _ _, fun h => absurd h (by decide), fun h => absurd h (by decide)⟩
    · have v0 : A.tmps.getD 18 undef = _ := I.val 1 (by decide) (hdep 1 (by kernel_rfl))
      exact wpOp_val rfl rfl (exec_ix0 rfl v0 hn0) ⟨_, rfl, rfl, Below.refl _ _, fun h => absurd h (by decide), fun h => absurd h (by decide)⟩
    · have v0 : A.tmps.getD 19 undef = _ := I.val 2 (by decide) (hdep 2 (by kernel_rfl))
      exact wpOp_val rfl rfl (exec_loadD rfl v0 (HX.out.1 W (hbw W I.below))) ⟨_, rfl, rfl, Below.refl _ _, fun h => absurd h (by decide), fun h => absurd h (by decide)⟩
    · refine wpOp_call rfl rfl (exec_call0 rfl) (by simp [go_sem]) (given_any W) ?_
      rintro e W' ⟨rfl, b⟩
      exact ⟨_, rfl, _, rfl, rfl, b, fun h => absurd h (by decide), fun h => absurd h (by decide)⟩
    · have v0 : A.tmps.getD 20 undef = _ := I.val 3 (by decide) (hdep 3 (by kernel_rfl))
      have v1 : A.tmps.getD 21 undef = _ := I.val 4 (by decide) (hdep 4 (by kernel_rfl))
      refine wpOp_call rfl rfl ((exec_call2 rfl).trans (by rw [v0, v1])) (by simp [go_sem]) (HX.out.2.1 W (hbw W I.below)) ?_
      rintro e W' ⟨u, rfl, h1, h2, h3⟩
      refine ⟨_, rfl, _, rfl, ⟨u, rfl, h1.keep (Nat.le_refl _) (fun k hk => ⟨hk.low I.below.size, rfl⟩), h2⟩, h3, fun _ hl => ?_, fun h => absurd h (by decide)⟩
      obtain ⟨P, e, p1, p2⟩ : ∃ P, A.tmps.getD 5 undef = .pointer (some ⟨P, 0, none⟩) ∧ w3.heap.size ≤ P ∧ W.heap[P]? = some (Obj.cells #[.int .i64 0, .bool false, .slice none 0 0, .bool false, .string ⟨#[]⟩, .slice none 0 0, .slice none 0 0] 27) := I.val 6 (by decide) hl
      have hlt := (Array.getElem?_eq_some_iff.1 p2).1
      exact ⟨u, P, rfl, e, p1, (h3.block P hlt).trans p2, h1.keep (Nat.le_refl _) (fun k hk => ⟨⟨hk.low I.below.size, fun e => by have := hk.1; omega⟩, rfl⟩), h2⟩
    · refine wpOp_val rfl rfl (exec_allocD rfl) ⟨_, rfl, ⟨_, rfl, I.below.size, World.alloc_heap_new _ _⟩, (Below.refl _ _).alloc (Nat.le_refl _) _, fun h => absurd h (by decide), fun _ hl => ?_⟩
      obtain ⟨u, e, u1, u2⟩ : ∃ u : LT, A.tmps.getD 22 undef = .agg #[.int .i64 u.k, .bool u.g, .slice u.la u.ln u.lc, .bool u.bb, .string u.s, .slice u.ia u.items.length u.ic, .slice u.ta u.tail.length u.tc] ∧ HeldP W (Fresh W w3.heap.size) u ∧ shape u = d1 := I.val 5 (by decide) hl
      have hb : Below W.heap.size W (W.alloc (Obj.cells #[.int .i64 0, .bool false, .slice none 0 0, .bool false, .string ⟨#[]⟩, .slice none 0 0, .slice none 0 0] 27)) := (Below.refl _ _).alloc (Nat.le_refl _) _
      exact ⟨u, _, e, rfl, I.below.size, World.alloc_heap_new _ _, u1.keep hb.size (fun k hk => ⟨⟨hk.same (hb.block k hk.lt), fun e => by have := hk.lt; omega⟩, hb.block k hk.lt⟩), u2⟩
  intro A w7 hrel hdf hsz hoth hval hb7
  have v0 : A.tmps.getD 17 undef = _ := hval 0 (by decide)
  have v1 : A.tmps.getD 18 undef = _ := hval 1 (by decide)
  have v2 : A.tmps.getD 19 undef = _ := hval 2 (by decide)
  have v3 : A.tmps.getD 20 undef = _ := hval 3 (by decide)
  have v4 : A.tmps.getD 21 undef = _ := hval 4 (by decide)
  obtain ⟨u, P, v5, v6, hP, hPz, hu1, hu2⟩ : ∃ (u : LT) (P : Nat), A.tmps.getD 22 undef = .agg #[.int .i64 u.k, .bool u.g, .slice u.la u.ln u.lc, .bool u.bb, .string u.s, .slice u.ia u.items.length u.ic, .slice u.ta u.tail.length u.tc] ∧ A.tmps.getD 5 undef = .pointer (some ⟨P, 0, none⟩) ∧ w3.heap.size ≤ P ∧ w7.heap[P]? = some (Obj.cells #[.int .i64 0, .bool false, .slice none 0 0, .bool false, .string ⟨#[]⟩, .slice none 0 0, .slice none 0 0] 27) ∧ HeldP w7 (fun k => Fresh w7 w3.heap.size k ∧ k ≠ P) u ∧ shape u = d1 := hrel
  have hA := tower_pairs (a := A) [(17, .pointer (some ⟨w.heap.size, 5, none⟩)), (18, .slice (some ⟨ib, io, none⟩) n ic), (19, .pointer (some ⟨ib, io, none⟩)), (20, .agg #[.int .i64 x.k, .bool x.g, .slice x.la x.ln x.lc, .bool x.bb, .string x.s, .slice x.ia x.items.length x.ic, .slice x.ta x.tail.length x.tc]), (21, .agg #[.int .i64 20000000, .int .i64 65537]), (22, .agg #[.int .i64 u.k, .bool u.g, .slice u.la u.ln u.lc, .bool u.bb, .string u.s, .slice u.ia u.items.length u.ic, .slice u.ta u.tail.length u.tc]), (5, .pointer (some ⟨P, 0, none⟩))] ?_ ?_ hdf hsz (fun m hm => hoth m (fun j hj => by
    simp only [List.forall_mem_cons] at hm
    obtain ⟨k0, k1, k2, k3, k4, k5, k6, -⟩ := hm
    rcases (show j = 0 ∨ j = 1 ∨ j = 2 ∨ j = 3 ∨ j = 4 ∨ j = 5 ∨ j = 6 by omega) with rfl | rfl | rfl | rfl | rfl | rfl | rfl
    · exact k0
    · exact k1
    · exact k2
    · exact k3
    · exact k4
    · exact k5
    · exact k6))
  rotate_left
  · intro p hp
    simp only [List.mem_cons, List.not_mem_nil, or_false] at hp
    rcases hp with rfl | rfl | rfl | rfl | rfl | rfl | rfl <;> simp
  · intro p hp
    simp only [List.mem_cons, List.not_mem_nil, or_false] at hp
    rcases hp with rfl | rfl | rfl | rfl | rfl | rfl | rfl
    · exact v0
    · exact v1
    · exact v2
    · exact v3
    · exact v4
    · exact v5
    · exact v6
  clear v0 v1 v2 v3 v4 v5 v6 hval hoth hsz hdf
  subst hA
  show wpOps _ _ _ [7] _ _
  simp only [List.foldl, Act.put, List.setIfInBounds_toArray, List.set_cons_zero, List.set_cons_succ]
  rw [wpOps_cons]
  refine wpOp_storeD rfl rfl rfl rfl rfl rfl (x := plainT 0 false none 0 0 [] false ⟨#[]⟩) hPz ?_
  intro w8 hPu hoth8 hsz8 hb8
  simp only [wpOps]
  have z3 := HA.out.2.2.2.1
  have hz7 := hb7.size
  have y0 := (hoth8 w.heap.size (by omega)).trans ((hb7.block _ (by omega)).trans HA.out.1)
  have y1 := (hoth8 (w.heap.size + 1) (by omega)).trans ((hb7.block _ (by omega)).trans HA.out.2.1)
  have y2 := (hoth8 (w.heap.size + 2) (by omega)).trans ((hb7.block _ (by omega)).trans HA.out.2.2.1)
  have hu8 : HeldP w8 (Fresh w8 w3.heap.size) u := hu1.keep (by omega) fun k hk => ⟨hk.1.same (hoth8 k hk.2), hoth8 k hk.2⟩
  have hbel8 : Below w.heap.size w w8 := (hbw w7 hb7).trans (hb8 w.heap.size (by omega))
  have c5w' : ∀ W, Below w8.heap.size w8 W → W.cell? ⟨w.heap.size, 5, none⟩ = some (.slice (some ⟨ib, io, none⟩) n ic) := fun W hb => by
    rw [Lib.cell_of_heap ((hb.block _ (by omega)).trans y0)]; rfl
  have c6w : ∀ W, Below w8.heap.size w8 W → W.cell? ⟨w.heap.size, 6, none⟩ = some (.slice ta n' tc) := fun W hb => by
    rw [Lib.cell_of_heap ((hb.block _ (by omega)).trans y0)]; rfl
  have k5 := c5w' w8 (Below.refl _ _)
  have k6 := c6w w8 (Below.refl _ _)
  clear c5w hb7 hoth8 hb8 hPz hu1
  by_cases hc : n = 1 ∧ 0 < n'
  · obtain ⟨h0, h1⟩ := hc
    obtain ⟨tb, to, y, rfl, hs', hcy⟩ := HX.out.2.2.1 h0 h1
    have q1 : ((n : Int) == 1) = true := by rw [h0]; rfl
    have q2 : decide (0 < (n' : Int)) = true := decide_eq_true (by omega)
    go_wp2_with fail
    refine wp_region_phases (nA := 7) (by kernel_rfl) (by kernel_rfl) (fun i => 33 + i)
      (fun i W v => match i with
        | 0 => v = .agg #[.int .i64 u.k, .bool u.g, .slice u.la u.ln u.lc, .bool u.bb, .string u.s, .slice u.ia u.items.length u.ic, .slice u.ta u.tail.length u.tc]
        | 1 => v = .pointer (some ⟨w.heap.size, 6, none⟩)
        | 2 => v = .slice (some ⟨tb, to, none⟩) n' tc
        | 3 => v = .pointer (some ⟨tb, to, none⟩)
        | 4 => v = .agg #[.int .i64 y.k, .bool y.g, .slice y.la y.ln y.lc, .bool y.bb, .string y.s, .slice y.ia y.items.length y.ic, .slice y.ta y.tail.length y.tc]
        | 5 => v = .agg #[.int .i64 20000000, .int .i64 65537]
        | _ => ∃ u : LT, v = .agg #[.int .i64 u.k, .bool u.g, .slice u.la u.ln u.lc, .bool u.bb, .string u.s, .slice u.ia u.items.length u.ic, .slice u.ta u.tail.length u.tc] ∧ HeldP W (Fresh W w8.heap.size) u ∧ shape u = d2) (by decide) (by kernel_rfl)
      (fun i j hi hj h => by omega) (fun i hi => by simp only [List.size_toArray, List.length_cons, List.length_nil]; omega) ?_ ?_ ?_
    · intro i hi W W' v h hb
      rcases (show i = 0 ∨ i = 1 ∨ i = 2 ∨ i = 3 ∨ i = 4 ∨ i = 5 ∨ i = 6 by omega) with rfl | rfl | rfl | rfl | rfl | rfl | rfl
      · exact h
      · exact h
      · exact h
      · exact h
      · exact h
      · exact h
      · obtain ⟨u, e, h1, h2⟩ := h; exact ⟨u, e, h1.below hb (Nat.le_refl _), h2⟩
    · intro i hi l A W I hdep
      rcases (show i = 0 ∨ i = 1 ∨ i = 2 ∨ i = 3 ∨ i = 4 ∨ i = 5 ∨ i = 6 by omega) with rfl | rfl | rfl | rfl | rfl | rfl | rfl
      · have hPW : Seven W P 0 u := Seven.of ((I.below.block P (Array.getElem?_eq_some_iff.1 hPu).1).trans hPu)
        exact wpOp_val rfl rfl (exec_loadD rfl ((I.other 5 (by intro j hj; omega)).trans rfl) hPW) ⟨_, rfl, rfl, Below.refl _ _⟩
      · exact wpOp_val rfl rfl (exec_fld5 rfl ((I.other 1 (by intro j hj; omega)).trans rfl)) ⟨_, rfl, rfl, Below.refl _ _⟩
      · have v1 : A.tmps.getD 34 undef = _ := I.val 1 (by decide) (hdep 1 (by kernel_rfl))
        exact wpOp_val rfl rfl (exec_loadS rfl v1 (c6w W I.below)) ⟨_, rfl, rfl, Below.refl _ _⟩
      · have v2 : A.tmps.getD 35 undef = _ := I.val 2 (by decide) (hdep 2 (by kernel_rfl))
        exact wpOp_val rfl rfl (exec_ix0 rfl v2 h1) ⟨_, rfl, rfl, Below.refl _ _⟩
      · have v3 : A.tmps.getD 36 undef = _ := I.val 3 (by decide) (hdep 3 (by kernel_rfl))
        exact wpOp_val rfl rfl (exec_loadD rfl v3 (hs' W (hbel8.trans (I.below.mono (by omega))))) ⟨_, rfl, rfl, Below.refl _ _⟩
      · refine wpOp_call rfl rfl (exec_call0 rfl) (by simp [go_sem]) (given_any W) ?_
        rintro e W' ⟨rfl, b⟩
        exact ⟨_, rfl, _, rfl, rfl, b⟩
      · have v4 : A.tmps.getD 37 undef = _ := I.val 4 (by decide) (hdep 4 (by kernel_rfl))
        have v5 : A.tmps.getD 38 undef = _ := I.val 5 (by decide) (hdep 5 (by kernel_rfl))
        refine wpOp_call rfl rfl ((exec_call2 rfl).trans (by rw [v4, v5])) (by simp [go_sem]) (hcy W (hbel8.trans (I.below.mono (by omega)))) ?_
        rintro e W' ⟨u', rfl, h1, h2, h3⟩
        exact ⟨_, rfl, _, rfl, ⟨u', rfl, h1.keep (Nat.le_refl _) (fun k hk => ⟨hk.low I.below.size, rfl⟩), h2⟩, h3⟩
    intro A w9 hdf hsz hoth hval hb9
    have v0 : A.tmps.getD 33 undef = _ := hval 0 (by decide)
    have v1 : A.tmps.getD 34 undef = _ := hval 1 (by decide)
    have v2 : A.tmps.getD 35 undef = _ := hval 2 (by decide)
    have v3 : A.tmps.getD 36 undef = _ := hval 3 (by decide)
    have v4 : A.tmps.getD 37 undef = _ := hval 4 (by decide)
    have v5 : A.tmps.getD 38 undef = _ := hval 5 (by decide)
    obtain ⟨v, v6, hv1, hv2⟩ : ∃ v : LT, A.tmps.getD 39 undef = .agg #[.int .i64 v.k, .bool v.g, .slice v.la v.ln v.lc, .bool v.bb, .string v.s, .slice v.ia v.items.length v.ic, .slice v.ta v.tail.length v.tc] ∧ HeldP w9 (Fresh w9 w8.heap.size) v ∧ shape v = d2 := hval 6 (by decide)
    have hA := tower_pairs (a := A) [(33, .agg #[.int .i64 u.k, .bool u.g, .slice u.la u.ln u.lc, .bool u.bb, .string u.s, .slice u.ia u.items.length u.ic, .slice u.ta u.tail.length u.tc]), (34, .pointer (some ⟨w.heap.size, 6, none⟩)), (35, .slice (some ⟨tb, to, none⟩) n' tc), (36, .pointer (some ⟨tb, to, none⟩)), (37, .agg #[.int .i64 y.k, .bool y.g, .slice y.la y.ln y.lc, .bool y.bb, .string y.s, .slice y.ia y.items.length y.ic, .slice y.ta y.tail.length y.tc]), (38, .agg #[.int .i64 20000000, .int .i64 65537]), (39, .agg #[.int .i64 v.k, .bool v.g, .slice v.la v.ln v.lc, .bool v.bb, .string v.s, .slice v.ia v.items.length v.ic, .slice v.ta v.tail.length v.tc])] ?_ ?_ hdf hsz (fun m hm => hoth m (fun j hj => by
      simp only [List.forall_mem_cons] at hm
      obtain ⟨k0, k1, k2, k3, k4, k5, k6, -⟩ := hm
      rcases (show j = 0 ∨ j = 1 ∨ j = 2 ∨ j = 3 ∨ j = 4 ∨ j = 5 ∨ j = 6 by omega) with rfl | rfl | rfl | rfl | rfl | rfl | rfl
      · exact k0
      · exact k1
      · exact k2
      · exact k3
      · exact k4
      · exact k5
      · exact k6))
    rotate_left
    · intro p hp
      simp only [List.mem_cons, List.not_mem_nil, or_false] at hp
      rcases hp with rfl | rfl | rfl | rfl | rfl | rfl | rfl <;> simp
    · intro p hp
      simp only [List.mem_cons, List.not_mem_nil, or_false] at hp
      rcases hp with rfl | rfl | rfl | rfl | rfl | rfl | rfl
      · exact v0
      · exact v1
      · exact v2
      · exact v3
      · exact v4
      · exact v5
      · exact v6
    clear v0 v1 v2 v3 v4 v5 v6 hval hoth hsz hdf
    subst hA
    show wpOps _ _ _ [7, 8, 9] _ _
    simp only [List.foldl, Act.put, List.setIfInBounds_toArray, List.set_cons_zero, List.set_cons_succ]
    have t0 := (hb9.block w.heap.size (by omega)).trans y0
    have t1 := (hb9.block (w.heap.size + 1) (by omega)).trans y1
    have t2 := (hb9.block (w.heap.size + 2) (by omega)).trans y2
    have hz9 := hb9.size
    rw [wpOps_cons]
    refine wpOp_storeD rfl rfl rfl rfl rfl rfl (x := plainT 0 false none 0 0 [] false ⟨#[]⟩) t1 ?_
    intro w10 r1 o10 s10 b10
    rw [wpOps_cons]
    refine wpOp_storeD rfl rfl rfl rfl rfl rfl (x := plainT 0 false none 0 0 [] false ⟨#[]⟩) ((o10 _ (by omega)).trans t2) ?_
    intro w11 r2 o11 s11 b11
    rw [wpOps_cons]
    refine wpOp_val (o := { dst := some 4, op := .assign (.const (.bool true)), type := _, pos := _, after := _, guard := none }) rfl rfl (exec_assignT rfl) ?_
    simp only [wpOps, Act.put, List.setIfInBounds_toArray, List.set_cons_zero, List.set_cons_succ]
    have r1' := (o11 _ (by omega)).trans r1
    have hu11 : HeldP w11 (Fresh w11 w.heap.size) u := hu8.keep (by omega) fun k hk => by
      have e : w11.heap[k]? = w8.heap[k]? := by
        have h1 := hk.1
        have h2 := hk.lt
        rw [o11 k (by omega), o10 k (by omega), hb9.block k h2]
      exact ⟨(hk.same e).low (by omega), e⟩
    have hv11 : HeldP w11 (Fresh w11 w.heap.size) v := hv1.keep (by omega) fun k hk => by
      have e : w11.heap[k]? = w9.heap[k]? := by
        have h1 := hk.1
        rw [o11 k (by omega), o10 k (by omega)]
      exact ⟨(hk.same e).low (by omega), e⟩
    have hb11 : Below w.heap.size w w11 := ((hbel8.trans (hb9.mono (by omega))).trans (b10 _ (by omega))).trans (b11 _ (by omega))
    have HF := Lib.hid (And.intro hu11 (And.intro hv11 hb11))
    have hds := fun j => Lib.cell_of_heap r1' j
    have c0 := hds 0; have c1 := hds 1; have c2 := hds 2; have c3 := hds 3; have c4 := hds 4; have c5 := hds 5; have c6 := hds 6
    have hes := fun j => Lib.cell_of_heap r2 j
    have e0 := hes 0; have e1 := hes 1; have e2 := hes 2; have e3 := hes 3; have e4 := hes 4; have e5 := hes 5; have e6 := hes 6
    simp only [List.getElem?_toArray, List.getElem?_cons_zero, List.getElem?_cons_succ] at c0 c1 c2 c3 c4 c5 c6 e0 e1 e2 e3 e4 e5 e6
    clear hds hes hu11 hv11 hb11 r1 r1' r2 o10 o11 s10 s11 b10 b11 t0 t1 t2 hv1 hu8 hPu
    go_wp2_with fail
    (try simp only [Exit.inBlock, Exit.then])
    refine bodyPost_ret (v := .tuple #[.agg #[.int .i64 u.k, .bool u.g, .slice u.la u.ln u.lc, .bool u.bb, .string u.s, .slice u.ia u.items.length u.ic, .slice u.ta u.tail.length u.tc], .agg #[.int .i64 v.k, .bool v.g, .slice v.la v.ln v.lc, .bool v.bb, .string v.s, .slice v.ia v.items.length v.ic, .slice v.ta v.tail.length v.tc], .bool true]) (results_ddb rfl rfl rfl rfl c0 c1 c2 c3 c4 c5 c6 e0 e1 e2 e3 e4 e5 e6) rfl ⟨u, v, rfl, HF.out.1, hu2, HF.out.2.1, hv2, HF.out.2.2⟩
  · have hcz := HX.out.2.2.2 hc
    have q1 : n = 1 → decide (0 < (n' : Int)) = false := fun h => decide_eq_false (by omega)
    by_cases h0 : n = 1
    · have q2 := q1 h0
      have q3 : ((n : Int) == 1) = true := by rw [h0]; rfl
      clear q1
      go_wp2_with fail
      refine wp_region_phases (nA := 9) (by kernel_rfl) (by kernel_rfl) (fun i => 40 + i)
        (fun i W v => match i with
          | 0 => v = .agg #[.int .i64 u.k, .bool u.g, .slice u.la u.ln u.lc, .bool u.bb, .string u.s, .slice u.ia u.items.length u.ic, .slice u.ta u.tail.length u.tc]
          | 1 => v = .pointer (some ⟨w.heap.size, 5, none⟩)
          | 2 => v = .slice (some ⟨ib, io, none⟩) n ic
          | 3 => v = .slice (some ⟨ib, ro, none⟩) (n - 1) (ic - 1)
          | 4 => v = .pointer (some ⟨w.heap.size, 6, none⟩)
          | 5 => v = .slice ta n' tc
          | 6 => v = .agg #[.int .i64 5, .bool false, .slice none 0 0, .bool false, .string ⟨#[]⟩, .slice (some ⟨ib, ro, none⟩) (n - 1) (ic - 1), .slice ta n' tc]
          | 7 => v = .agg #[.int .i64 20000000, .int .i64 65537]
          | _ => ∃ u : LT, v = .agg #[.int .i64 u.k, .bool u.g, .slice u.la u.ln u.lc, .bool u.bb, .string u.s, .slice u.ia u.items.length u.ic, .slice u.ta u.tail.length u.tc] ∧ HeldP W (Fresh W w8.heap.size) u ∧ shape u = d2) (by decide) (by kernel_rfl)
        (fun i j hi hj h => by omega) (fun i hi => by simp only [List.size_toArray, List.length_cons, List.length_nil]; omega) ?_ ?_ ?_
      · intro i hi W W' v h hb
        rcases (show i = 0 ∨ i = 1 ∨ i = 2 ∨ i = 3 ∨ i = 4 ∨ i = 5 ∨ i = 6 ∨ i = 7 ∨ i = 8 by omega) with rfl | rfl | rfl | rfl | rfl | rfl | rfl | rfl | rfl
        · exact h
        · exact h
        · exact h
        · exact h
        · exact h
        · exact h
        · exact h
        · exact h
        · obtain ⟨u, e, h1, h2⟩ := h; exact ⟨u, e, h1.below hb (Nat.le_refl _), h2⟩
      · intro i hi l A W I hdep
        rcases (show i = 0 ∨ i = 1 ∨ i = 2 ∨ i = 3 ∨ i = 4 ∨ i = 5 ∨ i = 6 ∨ i = 7 ∨ i = 8 by omega) with rfl | rfl | rfl | rfl | rfl | rfl | rfl | rfl | rfl
        · have hPW : Seven W P 0 u := Seven.of ((I.below.block P (Array.getElem?_eq_some_iff.1 hPu).1).trans hPu)
          exact wpOp_val rfl rfl (exec_loadD rfl ((I.other 5 (by intro j hj; omega)).trans rfl) hPW) ⟨_, rfl, rfl, Below.refl _ _⟩
        · exact wpOp_val rfl rfl (exec_fld rfl ((I.other 1 (by intro j hj; omega)).trans rfl)) ⟨_, rfl, rfl, Below.refl _ _⟩
        · have v1 : A.tmps.getD 41 undef = _ := I.val 1 (by decide) (hdep 1 (by kernel_rfl))
          exact wpOp_val rfl rfl (exec_loadS rfl v1 (c5w' W I.below)) ⟨_, rfl, rfl, Below.refl _ _⟩
        · have v2 : A.tmps.getD 42 undef = _ := I.val 2 (by decide) (hdep 2 (by kernel_rfl))
          exact wpOp_val rfl rfl (exec_cut1 rfl v2 hn0 ro hro) ⟨_, rfl, rfl, Below.refl _ _⟩
        · exact wpOp_val rfl rfl (exec_fld5 rfl ((I.other 1 (by intro j hj; omega)).trans rfl)) ⟨_, rfl, rfl, Below.refl _ _⟩
        · have v4 : A.tmps.getD 44 undef = _ := I.val 4 (by decide) (hdep 4 (by kernel_rfl))
          exact wpOp_val rfl rfl (exec_loadS rfl v4 (c6w W I.below)) ⟨_, rfl, rfl, Below.refl _ _⟩
        · have v3 : A.tmps.getD 43 undef = _ := I.val 3 (by decide) (hdep 3 (by kernel_rfl))
          have v5 : A.tmps.getD 45 undef = _ := I.val 5 (by decide) (hdep 5 (by kernel_rfl))
          exact wpOp_val rfl rfl (exec_buildD rfl v3 v5) ⟨_, rfl, rfl, Below.refl _ _⟩
        · refine wpOp_call rfl rfl (exec_call0 rfl) (by simp [go_sem]) (given_any W) ?_
          rintro e W' ⟨rfl, b⟩
          exact ⟨_, rfl, _, rfl, rfl, b⟩
        · have v6 : A.tmps.getD 46 undef = _ := I.val 6 (by decide) (hdep 6 (by kernel_rfl))
          have v7 : A.tmps.getD 47 undef = _ := I.val 7 (by decide) (hdep 7 (by kernel_rfl))
          refine wpOp_call rfl rfl ((exec_call2 rfl).trans (by rw [v6, v7])) (by simp [go_sem]) (hcz W (hbel8.trans (I.below.mono (by omega)))) ?_
          rintro e W' ⟨u', rfl, h1, h2, h3⟩
          exact ⟨_, rfl, _, rfl, ⟨u', rfl, h1.keep (Nat.le_refl _) (fun k hk => ⟨hk.low I.below.size, rfl⟩), h2⟩, h3⟩
      intro A w9 hdf hsz hoth hval hb9
      have v0 : A.tmps.getD 40 undef = _ := hval 0 (by decide)
      have v1 : A.tmps.getD 41 undef = _ := hval 1 (by decide)
      have v2 : A.tmps.getD 42 undef = _ := hval 2 (by decide)
      have v3 : A.tmps.getD 43 undef = _ := hval 3 (by decide)
      have v4 : A.tmps.getD 44 undef = _ := hval 4 (by decide)
      have v5 : A.tmps.getD 45 undef = _ := hval 5 (by decide)
      have v6 : A.tmps.getD 46 undef = _ := hval 6 (by decide)
      have v7 : A.tmps.getD 47 undef = _ := hval 7 (by decide)
      obtain ⟨v, v8, hv1, hv2⟩ : ∃ v : LT, A.tmps.getD 48 undef = .agg #[.int .i64 v.k, .bool v.g, .slice v.la v.ln v.lc, .bool v.bb, .string v.s, .slice v.ia v.items.length v.ic, .slice v.ta v.tail.length v.tc] ∧ HeldP w9 (Fresh w9 w8.heap.size) v ∧ shape v = d2 := hval 8 (by decide)
      have hA := tower_pairs (a := A) [(40, .agg #[.int .i64 u.k, .bool u.g, .slice u.la u.ln u.lc, .bool u.bb, .string u.s, .slice u.ia u.items.length u.ic, .slice u.ta u.tail.length u.tc]), (41, .pointer (some ⟨w.heap.size, 5, none⟩)), (42, .slice (some ⟨ib, io, none⟩) n ic), (43, .slice (some ⟨ib, ro, none⟩) (n - 1) (ic - 1)), (44, .pointer (some ⟨w.heap.size, 6, none⟩)), (45, .slice ta n' tc), (46, .agg #[.int .i64 5, .bool false, .slice none 0 0, .bool false, .string ⟨#[]⟩, .slice (some ⟨ib, ro, none⟩) (n - 1) (ic - 1), .slice ta n' tc]), (47, .agg #[.int .i64 20000000, .int .i64 65537]), (48, .agg #[.int .i64 v.k, .bool v.g, .slice v.la v.ln v.lc, .bool v.bb, .string v.s, .slice v.ia v.items.length v.ic, .slice v.ta v.tail.length v.tc])] ?_ ?_ hdf hsz (fun m hm => hoth m (fun j hj => by
        simp only [List.forall_mem_cons] at hm
        obtain ⟨k0, k1, k2, k3, k4, k5, k6, k7, k8, -⟩ := hm
        rcases (show j = 0 ∨ j = 1 ∨ j = 2 ∨ j = 3 ∨ j = 4 ∨ j = 5 ∨ j = 6 ∨ j = 7 ∨ j = 8 by omega) with rfl | rfl | rfl | rfl | rfl | rfl | rfl | rfl | rfl
        · exact k0
        · exact k1
        · exact k2
        · exact k3
        · exact k4
        · exact k5
        · exact k6
        · exact k7
        · exact k8))
      rotate_left
      · intro p hp
        simp only [List.mem_cons, List.not_mem_nil, or_false] at hp
        rcases hp with rfl | rfl | rfl | rfl | rfl | rfl | rfl | rfl | rfl <;> simp
      · intro p hp
        simp only [List.mem_cons, List.not_mem_nil, or_false] at hp
        rcases hp with rfl | rfl | rfl | rfl | rfl | rfl | rfl | rfl | rfl
        · exact v0
        · exact v1
        · exact v2
        · exact v3
        · exact v4
        · exact v5
        · exact v6
        · exact v7
        · exact v8
      clear v0 v1 v2 v3 v4 v5 v6 v7 v8 hval hoth hsz hdf
      subst hA
      show wpOps _ _ _ [9, 10, 11] _ _
      simp only [List.foldl, Act.put, List.setIfInBounds_toArray, List.set_cons_zero, List.set_cons_succ]
      have t0 := (hb9.block w.heap.size (by omega)).trans y0
      have t1 := (hb9.block (w.heap.size + 1) (by omega)).trans y1
      have t2 := (hb9.block (w.heap.size + 2) (by omega)).trans y2
      have hz9 := hb9.size
      rw [wpOps_cons]
      refine wpOp_storeD rfl rfl rfl rfl rfl rfl (x := plainT 0 false none 0 0 [] false ⟨#[]⟩) t1 ?_
      intro w10 r1 o10 s10 b10
      rw [wpOps_cons]
      refine wpOp_storeD rfl rfl rfl rfl rfl rfl (x := plainT 0 false none 0 0 [] false ⟨#[]⟩) ((o10 _ (by omega)).trans t2) ?_
      intro w11 r2 o11 s11 b11
      rw [wpOps_cons]
      refine wpOp_val (o := { dst := some 4, op := .assign (.const (.bool true)), type := _, pos := _, after := _, guard := none }) rfl rfl (exec_assignT rfl) ?_
      simp only [wpOps, Act.put, List.setIfInBounds_toArray, List.set_cons_zero, List.set_cons_succ]
      have r1' := (o11 _ (by omega)).trans r1
      have hu11 : HeldP w11 (Fresh w11 w.heap.size) u := hu8.keep (by omega) fun k hk => by
        have e : w11.heap[k]? = w8.heap[k]? := by
          have h1 := hk.1
          have h2 := hk.lt
          rw [o11 k (by omega), o10 k (by omega), hb9.block k h2]
        exact ⟨(hk.same e).low (by omega), e⟩
      have hv11 : HeldP w11 (Fresh w11 w.heap.size) v := hv1.keep (by omega) fun k hk => by
        have e : w11.heap[k]? = w9.heap[k]? := by
          have h1 := hk.1
          rw [o11 k (by omega), o10 k (by omega)]
        exact ⟨(hk.same e).low (by omega), e⟩
      have hb11 : Below w.heap.size w w11 := ((hbel8.trans (hb9.mono (by omega))).trans (b10 _ (by omega))).trans (b11 _ (by omega))
      have HF := Lib.hid (And.intro hu11 (And.intro hv11 hb11))
      have hds := fun j => Lib.cell_of_heap r1' j
      have c0 := hds 0; have c1 := hds 1; have c2 := hds 2; have c3 := hds 3; have c4 := hds 4; have c5 := hds 5; have c6 := hds 6
      have hes := fun j => Lib.cell_of_heap r2 j
      have e0 := hes 0; have e1 := hes 1; have e2 := hes 2; have e3 := hes 3; have e4 := hes 4; have e5 := hes 5; have e6 := hes 6
      simp only [List.getElem?_toArray, List.getElem?_cons_zero, List.getElem?_cons_succ] at c0 c1 c2 c3 c4 c5 c6 e0 e1 e2 e3 e4 e5 e6
      clear hds hes hu11 hv11 hb11 r1 r1' r2 o10 o11 s10 s11 b10 b11 t0 t1 t2 hv1 hu8 hPu
      go_wp2_with fail
      (try simp only [Exit.inBlock, Exit.then])
      refine bodyPost_ret (v := .tuple #[.agg #[.int .i64 u.k, .bool u.g, .slice u.la u.ln u.lc, .bool u.bb, .string u.s, .slice u.ia u.items.length u.ic, .slice u.ta u.tail.length u.tc], .agg #[.int .i64 v.k, .bool v.g, .slice v.la v.ln v.lc, .bool v.bb, .string v.s, .slice v.ia v.items.length v.ic, .slice v.ta v.tail.length v.tc], .bool true]) (results_ddb rfl rfl rfl rfl c0 c1 c2 c3 c4 c5 c6 e0 e1 e2 e3 e4 e5 e6) rfl ⟨u, v, rfl, HF.out.1, hu2, HF.out.2.1, hv2, HF.out.2.2⟩
    · have q3 : ((n : Int) == 1) = false := beq_eq_false_iff_ne.2 (by omega)
      clear q1
      go_wp2_with fail
      refine wp_region_phases (nA := 9) (by kernel_rfl) (by kernel_rfl) (fun i => 40 + i)
        (fun i W v => match i with
          | 0 => v = .agg #[.int .i64 u.k, .bool u.g, .slice u.la u.ln u.lc, .bool u.bb, .string u.s, .slice u.ia u.items.length u.ic, .slice u.ta u.tail.length u.tc]
          | 1 => v = .pointer (some ⟨w.heap.size, 5, none⟩)
          | 2 => v = .slice (some ⟨ib, io, none⟩) n ic
          | 3 => v = .slice (some ⟨ib, ro, none⟩) (n - 1) (ic - 1)
          | 4 => v = .pointer (some ⟨w.heap.size, 6, none⟩)
          | 5 => v = .slice ta n' tc
          | 6 => v = .agg #[.int .i64 5, .bool false, .slice none 0 0, .bool false, .string ⟨#[]⟩, .slice (some ⟨ib, ro, none⟩) (n - 1) (ic - 1), .slice ta n' tc]
          | 7 => v = .agg #[.int .i64 20000000, .int .i64 65537]
          | _ => ∃ u : LT, v = .agg #[.int .i64 u.k, .bool u.g, .slice u.la u.ln u.lc, .bool u.bb, .string u.s, .slice u.ia u.items.length u.ic, .slice u.ta u.tail.length u.tc] ∧ HeldP W (Fresh W w8.heap.size) u ∧ shape u = d2) (by decide) (by kernel_rfl)
        (fun i j hi hj h => by omega) (fun i hi => by simp only [List.size_toArray, List.length_cons, List.length_nil]; omega) ?_ ?_ ?_
      · intro i hi W W' v h hb
        rcases (show i = 0 ∨ i = 1 ∨ i = 2 ∨ i = 3 ∨ i = 4 ∨ i = 5 ∨ i = 6 ∨ i = 7 ∨ i = 8 by omega) with rfl | rfl | rfl | rfl | rfl | rfl | rfl | rfl | rfl
        · exact h
        · exact h
        · exact h
        · exact h
        · exact h
        · exact h
        · exact h
        · exact h
        · obtain ⟨u, e, h1, h2⟩ := h; exact ⟨u, e, h1.below hb (Nat.le_refl _), h2⟩
      · intro i hi l A W I hdep
        rcases (show i = 0 ∨ i = 1 ∨ i = 2 ∨ i = 3 ∨ i = 4 ∨ i = 5 ∨ i = 6 ∨ i = 7 ∨ i = 8 by omega) with rfl | rfl | rfl | rfl | rfl | rfl | rfl | rfl | rfl
        · have hPW : Seven W P 0 u := Seven.of ((I.below.block P (Array.getElem?_eq_some_iff.1 hPu).1).trans hPu)
          exact wpOp_val rfl rfl (exec_loadD rfl ((I.other 5 (by intro j hj; omega)).trans rfl) hPW) ⟨_, rfl, rfl, Below.refl _ _⟩
        · exact wpOp_val rfl rfl (exec_fld rfl ((I.other 1 (by intro j hj; omega)).trans rfl)) ⟨_, rfl, rfl, Below.refl _ _⟩
        · have v1 : A.tmps.getD 41 undef = _ := I.val 1 (by decide) (hdep 1 (by kernel_rfl))
          exact wpOp_val rfl rfl (exec_loadS rfl v1 (c5w' W I.below)) ⟨_, rfl, rfl, Below.refl _ _⟩
        · have v2 : A.tmps.getD 42 undef = _ := I.val 2 (by decide) (hdep 2 (by kernel_rfl))
          exact wpOp_val rfl rfl (exec_cut1 rfl v2 hn0 ro hro) ⟨_, rfl, rfl, Below.refl _ _⟩
        · exact wpOp_val rfl rfl (exec_fld5 rfl ((I.other 1 (by intro j hj; omega)).trans rfl)) ⟨_, rfl, rfl, Below.refl _ _⟩
        · have v4 : A.tmps.getD 44 undef = _ := I.val 4 (by decide) (hdep 4 (by kernel_rfl))
          exact wpOp_val rfl rfl (exec_loadS rfl v4 (c6w W I.below)) ⟨_, rfl, rfl, Below.refl _ _⟩
        · have v3 : A.tmps.getD 43 undef = _ := I.val 3 (by decide) (hdep 3 (by kernel_rfl))
          have v5 : A.tmps.getD 45 undef = _ := I.val 5 (by decide) (hdep 5 (by kernel_rfl))
          exact wpOp_val rfl rfl (exec_buildD rfl v3 v5) ⟨_, rfl, rfl, Below.refl _ _⟩
        · refine wpOp_call rfl rfl (exec_call0 rfl) (by simp [go_sem]) (given_any W) ?_
          rintro e W' ⟨rfl, b⟩
          exact ⟨_, rfl, _, rfl, rfl, b⟩
        · have v6 : A.tmps.getD 46 undef = _ := I.val 6 (by decide) (hdep 6 (by kernel_rfl))
          have v7 : A.tmps.getD 47 undef = _ := I.val 7 (by decide) (hdep 7 (by kernel_rfl))
          refine wpOp_call rfl rfl ((exec_call2 rfl).trans (by rw [v6, v7])) (by simp [go_sem]) (hcz W (hbel8.trans (I.below.mono (by omega)))) ?_
          rintro e W' ⟨u', rfl, h1, h2, h3⟩
          exact ⟨_, rfl, _, rfl, ⟨u', rfl, h1.keep (Nat.le_refl _) (fun k hk => ⟨hk.low I.below.size, rfl⟩), h2⟩, h3⟩
      intro A w9 hdf hsz hoth hval hb9
      have v0 : A.tmps.getD 40 undef = _ := hval 0 (by decide)
      have v1 : A.tmps.getD 41 undef = _ := hval 1 (by decide)
      have v2 : A.tmps.getD 42 undef = _ := hval 2 (by decide)
      have v3 : A.tmps.getD 43 undef = _ := hval 3 (by decide)
      have v4 : A.tmps.getD 44 undef = _ := hval 4 (by decide)
      have v5 : A.tmps.getD 45 undef = _ := hval 5 (by decide)
      have v6 : A.tmps.getD 46 undef = _ := hval 6 (by decide)
      have v7 : A.tmps.getD 47 undef = _ := hval 7 (by decide)
      obtain ⟨v, v8, hv1, hv2⟩ : ∃ v : LT, A.tmps.getD 48 undef = .agg #[.int .i64 v.k, .bool v.g, .slice v.la v.ln v.lc, .bool v.bb, .string v.s, .slice v.ia v.items.length v.ic, .slice v.ta v.tail.length v.tc] ∧ HeldP w9 (Fresh w9 w8.heap.size) v ∧ shape v = d2 := hval 8 (by decide)
      have hA := tower_pairs (a := A) [(40, .agg #[.int .i64 u.k, .bool u.g, .slice u.la u.ln u.lc, .bool u.bb, .string u.s, .slice u.ia u.items.length u.ic, .slice u.ta u.tail.length u.tc]), (41, .pointer (some ⟨w.heap.size, 5, none⟩)), (42, .slice (some ⟨ib, io, none⟩) n ic), (43, .slice (some ⟨ib, ro, none⟩) (n - 1) (ic - 1)), (44, .pointer (some ⟨w.heap.size, 6, none⟩)), (45, .slice ta n' tc), (46, .agg #[.int .i64 5, .bool false, .slice none 0 0, .bool false, .string ⟨#[]⟩, .slice (some ⟨ib, ro, none⟩) (n - 1) (ic - 1), .slice ta n' tc]), (47, .agg #[.int .i64 20000000, .int .i64 65537]), (48, .agg #[.int .i64 v.k, .bool v.g, .slice v.la v.ln v.lc, .bool v.bb, .string v.s, .slice v.ia v.items.length v.ic, .slice v.ta v.tail.length v.tc])] ?_ ?_ hdf hsz (fun m hm => hoth m (fun j hj => by
        simp only [List.forall_mem_cons] at hm
        obtain ⟨k0, k1, k2, k3, k4, k5, k6, k7, k8, -⟩ := hm
        rcases (show j = 0 ∨ j = 1 ∨ j = 2 ∨ j = 3 ∨ j = 4 ∨ j = 5 ∨ j = 6 ∨ j = 7 ∨ j = 8 by omega) with rfl | rfl | rfl | rfl | rfl | rfl | rfl | rfl | rfl
        · exact k0
        · exact k1
        · exact k2
        · exact k3
        · exact k4
        · exact k5
        · exact k6
        · exact k7
        · exact k8))
      rotate_left
      · intro p hp
        simp only [List.mem_cons, List.not_mem_nil, or_false] at hp
        rcases hp with rfl | rfl | rfl | rfl | rfl | rfl | rfl | rfl | rfl <;> simp
      · intro p hp
        simp only [List.mem_cons, List.not_mem_nil, or_false] at hp
        rcases hp with rfl | rfl | rfl | rfl | rfl | rfl | rfl | rfl | rfl
        · exact v0
        · exact v1
        · exact v2
        · exact v3
        · exact v4
        · exact v5
        · exact v6
        · exact v7
        · exact v8
      clear v0 v1 v2 v3 v4 v5 v6 v7 v8 hval hoth hsz hdf
      subst hA
      show wpOps _ _ _ [9, 10, 11] _ _
      simp only [List.foldl, Act.put, List.setIfInBounds_toArray, List.set_cons_zero, List.set_cons_succ]
      have t0 := (hb9.block w.heap.size (by omega)).trans y0
      have t1 := (hb9.block (w.heap.size + 1) (by omega)).trans y1
      have t2 := (hb9.block (w.heap.size + 2) (by omega)).trans y2
      have hz9 := hb9.size
      rw [wpOps_cons]
      refine wpOp_storeD rfl rfl rfl rfl rfl rfl (x := plainT 0 false none 0 0 [] false ⟨#[]⟩) t1 ?_
      intro w10 r1 o10 s10 b10
      rw [wpOps_cons]
      refine wpOp_storeD rfl rfl rfl rfl rfl rfl (x := plainT 0 false none 0 0 [] false ⟨#[]⟩) ((o10 _ (by omega)).trans t2) ?_
      intro w11 r2 o11 s11 b11
      rw [wpOps_cons]
      refine wpOp_val (o := { dst := some 4, op := .assign (.const (.bool true)), type := _, pos := _, after := _, guard := none }) rfl rfl (exec_assignT rfl) ?_
      simp only [wpOps, Act.put, List.setIfInBounds_toArray, List.set_cons_zero, List.set_cons_succ]
      have r1' := (o11 _ (by omega)).trans r1
      have hu11 : HeldP w11 (Fresh w11 w.heap.size) u := hu8.keep (by omega) fun k hk => by
        have e : w11.heap[k]? = w8.heap[k]? := by
          have h1 := hk.1
          have h2 := hk.lt
          rw [o11 k (by omega), o10 k (by omega), hb9.block k h2]
        exact ⟨(hk.same e).low (by omega), e⟩
      have hv11 : HeldP w11 (Fresh w11 w.heap.size) v := hv1.keep (by omega) fun k hk => by
        have e : w11.heap[k]? = w9.heap[k]? := by
          have h1 := hk.1
          rw [o11 k (by omega), o10 k (by omega)]
        exact ⟨(hk.same e).low (by omega), e⟩
      have hb11 : Below w.heap.size w w11 := ((hbel8.trans (hb9.mono (by omega))).trans (b10 _ (by omega))).trans (b11 _ (by omega))
      have HF := Lib.hid (And.intro hu11 (And.intro hv11 hb11))
      have hds := fun j => Lib.cell_of_heap r1' j
      have c0 := hds 0; have c1 := hds 1; have c2 := hds 2; have c3 := hds 3; have c4 := hds 4; have c5 := hds 5; have c6 := hds 6
      have hes := fun j => Lib.cell_of_heap r2 j
      have e0 := hes 0; have e1 := hes 1; have e2 := hes 2; have e3 := hes 3; have e4 := hes 4; have e5 := hes 5; have e6 := hes 6
      simp only [List.getElem?_toArray, List.getElem?_cons_zero, List.getElem?_cons_succ] at c0 c1 c2 c3 c4 c5 c6 e0 e1 e2 e3 e4 e5 e6
      clear hds hes hu11 hv11 hb11 r1 r1' r2 o10 o11 s10 s11 b10 b11 t0 t1 t2 hv1 hu8 hPu
      go_wp2_with fail
      (try simp only [Exit.inBlock, Exit.then])
      refine bodyPost_ret (v := .tuple #[.agg #[.int .i64 u.k, .bool u.g, .slice u.la u.ln u.lc, .bool u.bb, .string u.s, .slice u.ia u.items.length u.ic, .slice u.ta u.tail.length u.tc], .agg #[.int .i64 v.k, .bool v.g, .slice v.la v.ln v.lc, .bool v.bb, .string v.s, .slice v.ia v.items.length v.ic, .slice v.ta v.tail.length v.tc], .bool true]) (results_ddb rfl rfl rfl rfl c0 c1 c2 c3 c4 c5 c6 e0 e1 e2 e3 e4 e5 e6) rfl ⟨u, v, rfl, HF.out.1, hu2, HF.out.2.1, hv2, HF.out.2.2⟩
end Go.Proofs.Ytgboiopkihemaaa
