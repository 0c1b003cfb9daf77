/-
  pavaneref08.Put.
-/
import Derived.Test.YthdhdmmlmbkalaaGreatDoorPCrc
import Derived.Test.YthdhdmmlmbkalaaGreatDoorPCrb
import Derived.Test.YthdhdmmlmbkalaaGreatDoorJp15
import Derived.Test.YthdhdmmlmbkalaaGreatDoorPVos
import Derived.Deep.QuietTactic
import Derived.BigQuiet
set_option linter.unusedVariables false
set_option linter.unusedSimpArgs false
set_option linter.unusedSectionVars false
set_option linter.unnecessarySimpa false
namespace Go.Proofs.YthdhdmmlmbkalaaGreatDoor
open Go.RowKit

mutual
theorem Lies.toP {w : World} {M : Nat} : ∀ (t : LT) (b o : Nat), Lies w M t b o → LiesP w (fun k => k < M) t b o
  | .mk k g la ln lc ys bb s ia ic items ta tc tail, b, o, h => by
    rw [lies_held] at h
    rw [liesP_held]
    obtain ⟨h1, h2, ⟨h3, h4, h5⟩, h6, h7, h8, h9⟩ := h
    exact ⟨h1, h2, ⟨h3, h4, h5⟩, h6, h7, LiesR.toP items _ _ h8, LiesR.toP tail _ _ h9⟩
theorem LiesR.toP {w : World} {M : Nat} : ∀ (l : List LT) (b o : Nat), LiesR w M l b o → LiesPR w (fun k => k < M) l b o
  | [], _, _, _ => by simp [LiesPR]
  | t :: l, b, o, h => by
    rw [liesR_cons] at h
    rw [liesPR_cons]
    exact ⟨Lies.toP t b o h.1, LiesR.toP l b (o + 7) h.2⟩
end
theorem Held.heldP {w : World} {M : Nat} {t : LT} (h : Held w M t) : HeldP w (fun k => k < M) t := by
  obtain ⟨⟨h3, h4, h5⟩, h6, h7, h8, h9⟩ := h
  exact ⟨⟨h3, h4, h5⟩, h6, h7, LiesR.toP _ _ _ h8, LiesR.toP _ _ _ h9⟩
mutual
theorem LiesE.toP {w : World} {M : Nat} : ∀ (t : ET) (b o : Nat), LiesE w M t b o → LiesEP w (fun k => k < M) t b o
  | .mk k d v va vc vs rs p ka kc kids, b, o, h => by
    rw [liesE_held] at h
    rw [liesEP_held]
    obtain ⟨h1, h2, ⟨h3, h4⟩, h5, h6⟩ := h
    exact ⟨h1, h2, ⟨h3.heldP, h4⟩, h5, LiesER.toP kids _ _ h6⟩
theorem LiesER.toP {w : World} {M : Nat} : ∀ (l : List ET) (b o : Nat), LiesER w M l b o → LiesEPR w (fun k => k < M) l b o
  | [], _, _, _ => by simp [LiesEPR]
  | t :: l, b, o, h => by
    rw [liesER_cons] at h
    rw [liesEPR_cons]
    exact ⟨LiesE.toP t b o h.1, LiesER.toP l b (o + 13) h.2⟩
end
theorem HeldE.heldP {w : World} {M : Nat} {t : ET} (h : HeldE w M t) : HeldEP w (fun k => k < M) t := by
  obtain ⟨⟨h3, h4⟩, h5, h6⟩ := h
  exact ⟨⟨h3.heldP, h4⟩, h5, LiesER.toP _ _ _ h6⟩
/-- Blocks below M, or new ones. -/
def MixP (M B : Nat) (w : World) (k : Nat) : Prop := (k < M ∨ B ≤ k) ∧ k < w.heap.size
def RPutPost (M : Nat) (s : ES) (b : Bool) (w : World) (e : Ending) (w' : World) : Prop := ∃ u : ET, e = .returned (.tuple #[.agg #[.int .i64 u.k, .int .i64 u.d.k, .bool u.d.g, .slice u.d.la u.d.ln u.d.lc, .bool u.d.bb, .string u.d.s, .slice u.d.ia u.d.items.length u.d.ic, .slice u.d.ta u.d.tail.length u.d.tc, .int .i64 u.v, .slice u.va u.vs.length u.vc, .bool u.rs, .int .i64 u.p, .slice u.ka u.kids.length u.kc], .bool b]) ∧ shapeE u = s ∧ TameE u ∧ HeldEP w' (MixP M w.heap.size w') u ∧ Below w.heap.size w w'
def RPutTo (n : Nat) : Prop := ∀ (M : Nat) (t x : ET) (pa : Option Addr) (pc : Nat) (path : List Int) (w : World), path.length ≤ n → TameE t → TameE x → t.size ≤ 12000000 → M ≤ w.heap.size → HeldE w M t → HeldE w M x → IntsAt w M pa pc path →
    Calls Tryz.prog 11 #[.agg #[.int .i64 t.k, .int .i64 t.d.k, .bool t.d.g, .slice t.d.la t.d.ln t.d.lc, .bool t.d.bb, .string t.d.s, .slice t.d.ia t.d.items.length t.d.ic, .slice t.d.ta t.d.tail.length t.d.tc, .int .i64 t.v, .slice t.va t.vs.length t.vc, .bool t.rs, .int .i64 t.p, .slice t.ka t.kids.length t.kc], .slice pa path.length pc, .agg #[.int .i64 x.k, .int .i64 x.d.k, .bool x.d.g, .slice x.d.la x.d.ln x.d.lc, .bool x.d.bb, .string x.d.s, .slice x.d.ia x.d.items.length x.d.ic, .slice x.d.ta x.d.tail.length x.d.tc, .int .i64 x.v, .slice x.va x.vs.length x.vc, .bool x.rs, .int .i64 x.p, .slice x.ka x.kids.length x.kc]] w (RPutPost M (putZ8 (shapeE t) path (shapeE x)) (putES (shapeE t) path (shapeE x)).isSome w)
theorem set13_below {w a : World} {B L : Nat} {v0 v1 v2 v3 v4 v5 v6 v7 v8 v9 v10 v11 v12 : Value} (h : Below L a w) (hB : L ≤ B) : Below L a (((((((((((((w.setCell ⟨B, 0, none⟩ v0).setCell ⟨B, 1, none⟩ v1).setCell ⟨B, 2, none⟩ v2).setCell ⟨B, 3, none⟩ v3).setCell ⟨B, 4, none⟩ v4).setCell ⟨B, 5, none⟩ v5).setCell ⟨B, 6, none⟩ v6).setCell ⟨B, 7, none⟩ v7).setCell ⟨B, 8, none⟩ v8).setCell ⟨B, 9, none⟩ v9).setCell ⟨B, 10, none⟩ v10).setCell ⟨B, 11, none⟩ v11).setCell ⟨B, 12, none⟩ v12) := (((((((((((((h.setCell (p := ⟨B, 0, none⟩) hB v0).setCell (p := ⟨B, 1, none⟩) hB v1).setCell (p := ⟨B, 2, none⟩) hB v2).setCell (p := ⟨B, 3, none⟩) hB v3).setCell (p := ⟨B, 4, none⟩) hB v4).setCell (p := ⟨B, 5, none⟩) hB v5).setCell (p := ⟨B, 6, none⟩) hB v6).setCell (p := ⟨B, 7, none⟩) hB v7).setCell (p := ⟨B, 8, none⟩) hB v8).setCell (p := ⟨B, 9, none⟩) hB v9).setCell (p := ⟨B, 10, none⟩) hB v10).setCell (p := ⟨B, 11, none⟩) hB v11).setCell (p := ⟨B, 12, none⟩) hB v12)
section
variable {a : Act} {w : World} {o : Oper} {p b off : Nat}
theorem exec_ixI0 {n c : Nat} (ho : o.op = .indexAddr 28 (.tmp p) (.const (.int .i64 0))) (ht : a.tmps.getD p undef = .slice (some ⟨b, off, none⟩) n c) (hn : 0 < n) : (execOp a.eval o).run Tryz.prog w = .ok (.value (.pointer (some ⟨b, off, none⟩))) w := by
  rw [Array.getD_eq_getD_getElem?] at ht
  simp [execOp, ho, Act.eval, ht, go_sem, hn]
theorem exec_cutI {n c : Nat} (ho : o.op = .slice 28 (.tmp p) (some (.const (.int .i64 1))) none none) (ht : a.tmps.getD p undef = .slice (some ⟨b, off, none⟩) (n + 1) (c + 1)) (hc : c + 1 ≤ maxLen) (hn : n ≤ c) : (execOp a.eval o).run Tryz.prog w = .ok (.value (.slice (some ⟨b, if c = 0 then off else off + 1, none⟩) n c)) w := by
  rw [Array.getD_eq_getD_getElem?] at ht
  unfold maxLen at hc
  have h1 : ¬ ((n : Int) + 1 < 1) := by omega
  have h2 : ¬ ((c : Int) + 1 < (n : Int) + 1) := by omega
  have h3 : (1 : Int) ≤ (n : Int) + 1 := by omega
  by_cases h4 : c = 0 <;> simp [execOp, ho, Act.eval, ht, go_sem, h1, h2, h3, hn, h4]
theorem exec_call3E {P : Program} {f q r : Nat} {T T' T'' : TypeId} (ho : o.op = .call { callee := .value (.func f), args := #[.tmp p, .tmp q, .tmp r], argTypes := #[T, T', T''] }) :
    (execOp a.eval o).run P w = (callFunc f #[a.tmps.getD p undef, a.tmps.getD q undef, a.tmps.getD r undef]).run P w := by
  simp [execOp, ho, Act.eval, go_sem]
theorem exec_ext0 {x y : Value} (ho : o.op = .extract (.tmp p) 0) (ht : a.tmps.getD p undef = .tuple #[x, y]) : (execOp a.eval o).run Tryz.prog w = .ok (.value x) w := by
  rw [Array.getD_eq_getD_getElem?] at ht
  simp [execOp, ho, Act.eval, ht, go_sem]
theorem exec_ext1 {x y : Value} (ho : o.op = .extract (.tmp p) 1) (ht : a.tmps.getD p undef = .tuple #[x, y]) : (execOp a.eval o).run Tryz.prog w = .ok (.value y) w := by
  rw [Array.getD_eq_getD_getElem?] at ht
  simp [execOp, ho, Act.eval, ht, go_sem]
theorem exec_allocE (ho : o.op = .alloc 31) :
    (execOp a.eval o).run Tryz.prog w = .ok (.value (.pointer (some ⟨w.heap.size, 0, none⟩))) (w.alloc (Obj.cells #[.int .i64 0, .int .i64 0, .bool false, .slice none 0 0, .bool false, .string ⟨#[]⟩, .slice none 0 0, .slice none 0 0, .int .i64 0, .slice none 0 0, .bool false, .int .i64 0, .slice none 0 0] 31)) := by
  simp [execOp, ho, go_sem]
theorem exec_storeE {q : Nat} {u x : ET} (ho : o.op = .store 31 (.tmp p) (.tmp q)) (ht : a.tmps.getD p undef = .pointer (some ⟨b, 0, none⟩)) (hq : a.tmps.getD q undef = .agg #[.int .i64 u.k, .int .i64 u.d.k, .bool u.d.g, .slice u.d.la u.d.ln u.d.lc, .bool u.d.bb, .string u.d.s, .slice u.d.ia u.d.items.length u.d.ic, .slice u.d.ta u.d.tail.length u.d.tc, .int .i64 u.v, .slice u.va u.vs.length u.vc, .bool u.rs, .int .i64 u.p, .slice u.ka u.kids.length u.kc]) (hb : w.heap[b]? = some (Obj.cells #[.int .i64 x.k, .int .i64 x.d.k, .bool x.d.g, .slice x.d.la x.d.ln x.d.lc, .bool x.d.bb, .string x.d.s, .slice x.d.ia x.d.items.length x.d.ic, .slice x.d.ta x.d.tail.length x.d.tc, .int .i64 x.v, .slice x.va x.vs.length x.vc, .bool x.rs, .int .i64 x.p, .slice x.ka x.kids.length x.kc] 31)) :
    ∃ w', (execOp a.eval o).run Tryz.prog w = .ok .skip w' ∧ w'.heap[b]? = some (Obj.cells #[.int .i64 u.k, .int .i64 u.d.k, .bool u.d.g, .slice u.d.la u.d.ln u.d.lc, .bool u.d.bb, .string u.d.s, .slice u.d.ia u.d.items.length u.d.ic, .slice u.d.ta u.d.tail.length u.d.tc, .int .i64 u.v, .slice u.va u.vs.length u.vc, .bool u.rs, .int .i64 u.p, .slice u.ka u.kids.length u.kc] 31) ∧ (∀ k, k ≠ b → w'.heap[k]? = w.heap[k]?) ∧ w'.heap.size = w.heap.size ∧ ∀ B, B ≤ b → Below B w w' := by
  have hds := fun j => Lib.cell_of_heap hb j
  have c0 := hds 0; have c1 := hds 1; have c2 := hds 2; have c3 := hds 3; have c4 := hds 4; have c5 := hds 5; have c6 := hds 6; have c7 := hds 7; have c8 := hds 8; have c9 := hds 9; have c10 := hds 10; have c11 := hds 11; have c12 := hds 12
  have hfs := fun j => Lib.frozen_of_heap hb j
  have f0 := hfs 0; have f1 := hfs 1; have f2 := hfs 2; have f3 := hfs 3; have f4 := hfs 4; have f5 := hfs 5; have f6 := hfs 6; have f7 := hfs 7; have f8 := hfs 8; have f9 := hfs 9; have f10 := hfs 10; have f11 := hfs 11; have f12 := hfs 12
  simp only [List.getElem?_toArray, List.getElem?_cons_zero, List.getElem?_cons_succ] at c0 c1 c2 c3 c4 c5 c6 c7 c8 c9 c10 c11 c12
  rw [Array.getD_eq_getD_getElem?] at ht hq
  refine ⟨_, by simp [execOp, ho, Act.eval, ht, hq, go_sem, c0, c1, c2, c3, c4, c5, c6, c7, c8, c9, c10, c11, c12, f0, f1, f2, f3, f4, f5, f6, f7, f8, f9, f10, f11, f12]; rfl, ?_, ?_, ?_, ?_⟩
  · simp [World.setCell, Array.getElem?_modify, hb]
  · intro k hk
    simp [World.setCell, Array.getElem?_modify, Ne.symm hk]
  · simp [World.setCell]
  · intro B hB
    exact set13_below (Below.refl _ _) hB
end
section
variable {P : Program} {ops : Array Oper} {Q : Exit → Act → World → Prop} {i : Nat} {o : Oper} {a : Act} {w w' : World} {K : Act → World → Prop}
theorem wpOp_valE {v : Value} (ho : ops[i]? = some o) (hg : o.guard = none) (hr : (execOp a.eval o).run P w = .ok (.value v) w') (h : K (a.put o.dst v) w') : wpOp P ops Q i K a w := by
  refine wpOp_plain ho hg ?_
  unfold Oper.wp
  rw [hr, Oper.upon_value]
  exact h
theorem wpOp_storeE {p q b : Nat} {u x : ET} (ho : ops[i]? = some o) (hg : o.guard = none) (hd : o.dst = none) (hop : o.op = .store 31 (.tmp p) (.tmp q)) (ht : a.tmps.getD p undef = .pointer (some ⟨b, 0, none⟩)) (hq : a.tmps.getD q undef = .agg #[.int .i64 u.k, .int .i64 u.d.k, .bool u.d.g, .slice u.d.la u.d.ln u.d.lc, .bool u.d.bb, .string u.d.s, .slice u.d.ia u.d.items.length u.d.ic, .slice u.d.ta u.d.tail.length u.d.tc, .int .i64 u.v, .slice u.va u.vs.length u.vc, .bool u.rs, .int .i64 u.p, .slice u.ka u.kids.length u.kc]) (hb : w.heap[b]? = some (Obj.cells #[.int .i64 x.k, .int .i64 x.d.k, .bool x.d.g, .slice x.d.la x.d.ln x.d.lc, .bool x.d.bb, .string x.d.s, .slice x.d.ia x.d.items.length x.d.ic, .slice x.d.ta x.d.tail.length x.d.tc, .int .i64 x.v, .slice x.va x.vs.length x.vc, .bool x.rs, .int .i64 x.p, .slice x.ka x.kids.length x.kc] 31))
    (h : ∀ w', w'.heap[b]? = some (Obj.cells #[.int .i64 u.k, .int .i64 u.d.k, .bool u.d.g, .slice u.d.la u.d.ln u.d.lc, .bool u.d.bb, .string u.d.s, .slice u.d.ia u.d.items.length u.d.ic, .slice u.d.ta u.d.tail.length u.d.tc, .int .i64 u.v, .slice u.va u.vs.length u.vc, .bool u.rs, .int .i64 u.p, .slice u.ka u.kids.length u.kc] 31) → (∀ k, k ≠ b → w'.heap[k]? = w.heap[k]?) → w'.heap.size = w.heap.size → (∀ B, B ≤ b → Below B w w') → K a w') : wpOp Tryz.prog ops Q i K a w := by
  refine wpOp_plain ho hg ?_
  unfold Oper.wp
  obtain ⟨w', he, h1, h2, h3, h4⟩ := exec_storeE hop ht hq hb
  rw [he, Oper.upon_skip, hd]
  exact h w' h1 h2 h3 h4
theorem wpOp_callE {f : Nat} {args : Array Value} {R : Ending → World → Prop} (ho : ops[i]? = some o) (hg : o.guard = none) (hr : (execOp a.eval o).run P w = (callFunc f args).run P w) (he : (callFunc f args).run P w = .ok (.enter f args) w) (hc : Calls P f args w R) (h : ∀ e w', R e w' → ∃ v, e = .returned v ∧ K (a.put o.dst v) w') : wpOp P ops Q i K a w := by
  refine wpOp_plain ho hg ?_
  unfold Oper.wp
  rw [hr, he, Oper.upon_enter]
  refine hc.mono ?_
  intro e w' hR
  obtain ⟨v, rfl, hK⟩ := h e w' hR
  exact hK
end
set_option maxRecDepth 100000 in
set_option maxHeartbeats 6400000 in
theorem rput_nil (M : Nat) (t x : ET) (pa : Option Addr) (pc : Nat) (w : World) (hX : TameE x) (hM : M ≤ w.heap.size) (hHX : HeldE w M x) :
    Calls Tryz.prog 11 #[.agg #[.int .i64 t.k, .int .i64 t.d.k, .bool t.d.g, .slice t.d.la t.d.ln t.d.lc, .bool t.d.bb, .string t.d.s, .slice t.d.ia t.d.items.length t.d.ic, .slice t.d.ta t.d.tail.length t.d.tc, .int .i64 t.v, .slice t.va t.vs.length t.vc, .bool t.rs, .int .i64 t.p, .slice t.ka t.kids.length t.kc], .slice pa ([] : List Int).length pc, .agg #[.int .i64 x.k, .int .i64 x.d.k, .bool x.d.g, .slice x.d.la x.d.ln x.d.lc, .bool x.d.bb, .string x.d.s, .slice x.d.ia x.d.items.length x.d.ic, .slice x.d.ta x.d.tail.length x.d.tc, .int .i64 x.v, .slice x.va x.vs.length x.vc, .bool x.rs, .int .i64 x.p, .slice x.ka x.kids.length x.kc]] w (RPutPost M (putZ8 (shapeE t) [] (shapeE x)) (putES (shapeE t) [] (shapeE x)).isSome w) := by
  obtain ⟨W3, hW3, a0, a1, a2, hz, hbel, -⟩ := three3 w (Obj.cells #[.int .i64 t.k, .int .i64 t.d.k, .bool t.d.g, .slice t.d.la t.d.ln t.d.lc, .bool t.d.bb, .string t.d.s, .slice t.d.ia t.d.items.length t.d.ic, .slice t.d.ta t.d.tail.length t.d.tc, .int .i64 t.v, .slice t.va t.vs.length t.vc, .bool t.rs, .int .i64 t.p, .slice t.ka t.kids.length t.kc] 31) (Obj.cells #[.int .i64 x.k, .int .i64 x.d.k, .bool x.d.g, .slice x.d.la x.d.ln x.d.lc, .bool x.d.bb, .string x.d.s, .slice x.d.ia x.d.items.length x.d.ic, .slice x.d.ta x.d.tail.length x.d.tc, .int .i64 x.v, .slice x.va x.vs.length x.vc, .bool x.rs, .int .i64 x.p, .slice x.ka x.kids.length x.kc] 31) (Obj.cells #[.int .i64 0, .int .i64 0, .bool false, .slice none 0 0, .bool false, .string ⟨#[]⟩, .slice none 0 0, .slice none 0 0, .int .i64 0, .slice none 0 0, .bool false, .int .i64 0, .slice none 0 0] 31)
  have hW := hW3.symm
  have HA := Lib.hid (And.intro a0 (And.intro a1 (And.intro a2 hbel)))
  have hl0 : w.heap.size < W3.heap.size := by omega
  have hl1 : w.heap.size + 1 < W3.heap.size := by omega
  have hl2 : w.heap.size + 1 + 1 < W3.heap.size := by omega
  have c0 : W3.cell? ⟨w.heap.size + 1, 0, none⟩ = some (.int .i64 x.k) := by rw [Lib.cell_of_heap a1]; rfl
  have c1 : W3.cell? ⟨w.heap.size + 1, 1, none⟩ = some (.int .i64 x.d.k) := by rw [Lib.cell_of_heap a1]; rfl
  have c2 : W3.cell? ⟨w.heap.size + 1, 2, none⟩ = some (.bool x.d.g) := by rw [Lib.cell_of_heap a1]; rfl
  have c3 : W3.cell? ⟨w.heap.size + 1, 3, none⟩ = some (.slice x.d.la x.d.ln x.d.lc) := by rw [Lib.cell_of_heap a1]; rfl
  have c4 : W3.cell? ⟨w.heap.size + 1, 4, none⟩ = some (.bool x.d.bb) := by rw [Lib.cell_of_heap a1]; rfl
  have c5 : W3.cell? ⟨w.heap.size + 1, 5, none⟩ = some (.string x.d.s) := by rw [Lib.cell_of_heap a1]; rfl
  have c6 : W3.cell? ⟨w.heap.size + 1, 6, none⟩ = some (.slice x.d.ia x.d.items.length x.d.ic) := by rw [Lib.cell_of_heap a1]; rfl
  have c7 : W3.cell? ⟨w.heap.size + 1, 7, none⟩ = some (.slice x.d.ta x.d.tail.length x.d.tc) := by rw [Lib.cell_of_heap a1]; rfl
  have c8 : W3.cell? ⟨w.heap.size + 1, 8, none⟩ = some (.int .i64 x.v) := by rw [Lib.cell_of_heap a1]; rfl
  have c9 : W3.cell? ⟨w.heap.size + 1, 9, none⟩ = some (.slice x.va x.vs.length x.vc) := by rw [Lib.cell_of_heap a1]; rfl
  have c10 : W3.cell? ⟨w.heap.size + 1, 10, none⟩ = some (.bool x.rs) := by rw [Lib.cell_of_heap a1]; rfl
  have c11 : W3.cell? ⟨w.heap.size + 1, 11, none⟩ = some (.int .i64 x.p) := by rw [Lib.cell_of_heap a1]; rfl
  have c12 : W3.cell? ⟨w.heap.size + 1, 12, none⟩ = some (.slice x.ka x.kids.length x.kc) := by rw [Lib.cell_of_heap a1]; rfl
  have r0 : W3.cell? ⟨w.heap.size + 1 + 1, 0, none⟩ = some (.int .i64 0) := by rw [Lib.cell_of_heap a2]; rfl
  have f0 : W3.frozen? ⟨w.heap.size + 1 + 1, 0, none⟩ = false := Lib.frozen_of_heap a2 _
  have r1 : W3.cell? ⟨w.heap.size + 1 + 1, 1, none⟩ = some (.int .i64 0) := by rw [Lib.cell_of_heap a2]; rfl
  have f1 : W3.frozen? ⟨w.heap.size + 1 + 1, 1, none⟩ = false := Lib.frozen_of_heap a2 _
  have r2 : W3.cell? ⟨w.heap.size + 1 + 1, 2, none⟩ = some (.bool false) := by rw [Lib.cell_of_heap a2]; rfl
  have f2 : W3.frozen? ⟨w.heap.size + 1 + 1, 2, none⟩ = false := Lib.frozen_of_heap a2 _
  have r3 : W3.cell? ⟨w.heap.size + 1 + 1, 3, none⟩ = some (.slice none 0 0) := by rw [Lib.cell_of_heap a2]; rfl
  have f3 : W3.frozen? ⟨w.heap.size + 1 + 1, 3, none⟩ = false := Lib.frozen_of_heap a2 _
  have r4 : W3.cell? ⟨w.heap.size + 1 + 1, 4, none⟩ = some (.bool false) := by rw [Lib.cell_of_heap a2]; rfl
  have f4 : W3.frozen? ⟨w.heap.size + 1 + 1, 4, none⟩ = false := Lib.frozen_of_heap a2 _
  have r5 : W3.cell? ⟨w.heap.size + 1 + 1, 5, none⟩ = some (.string ⟨#[]⟩) := by rw [Lib.cell_of_heap a2]; rfl
  have f5 : W3.frozen? ⟨w.heap.size + 1 + 1, 5, none⟩ = false := Lib.frozen_of_heap a2 _
  have r6 : W3.cell? ⟨w.heap.size + 1 + 1, 6, none⟩ = some (.slice none 0 0) := by rw [Lib.cell_of_heap a2]; rfl
  have f6 : W3.frozen? ⟨w.heap.size + 1 + 1, 6, none⟩ = false := Lib.frozen_of_heap a2 _
  have r7 : W3.cell? ⟨w.heap.size + 1 + 1, 7, none⟩ = some (.slice none 0 0) := by rw [Lib.cell_of_heap a2]; rfl
  have f7 : W3.frozen? ⟨w.heap.size + 1 + 1, 7, none⟩ = false := Lib.frozen_of_heap a2 _
  have r8 : W3.cell? ⟨w.heap.size + 1 + 1, 8, none⟩ = some (.int .i64 0) := by rw [Lib.cell_of_heap a2]; rfl
  have f8 : W3.frozen? ⟨w.heap.size + 1 + 1, 8, none⟩ = false := Lib.frozen_of_heap a2 _
  have r9 : W3.cell? ⟨w.heap.size + 1 + 1, 9, none⟩ = some (.slice none 0 0) := by rw [Lib.cell_of_heap a2]; rfl
  have f9 : W3.frozen? ⟨w.heap.size + 1 + 1, 9, none⟩ = false := Lib.frozen_of_heap a2 _
  have r10 : W3.cell? ⟨w.heap.size + 1 + 1, 10, none⟩ = some (.bool false) := by rw [Lib.cell_of_heap a2]; rfl
  have f10 : W3.frozen? ⟨w.heap.size + 1 + 1, 10, none⟩ = false := Lib.frozen_of_heap a2 _
  have r11 : W3.cell? ⟨w.heap.size + 1 + 1, 11, none⟩ = some (.int .i64 0) := by rw [Lib.cell_of_heap a2]; rfl
  have f11 : W3.frozen? ⟨w.heap.size + 1 + 1, 11, none⟩ = false := Lib.frozen_of_heap a2 _
  have r12 : W3.cell? ⟨w.heap.size + 1 + 1, 12, none⟩ = some (.slice none 0 0) := by rw [Lib.cell_of_heap a2]; rfl
  have f12 : W3.frozen? ⟨w.heap.size + 1 + 1, 12, none⟩ = false := Lib.frozen_of_heap a2 _
  clear a0 a1 a2 hbel hW3
  rw [List.length_nil]
  go_enter Tryz.func11, Tryz.ntmps11
  go_wp2_with fail
  (try simp only [Exit.inBlock, Exit.then])
  obtain ⟨w6, hw6⟩ : ∃ WX, (((((((((((((W3.setCell ⟨w.heap.size + 1 + 1, 0, none⟩ (.int .i64 x.k)).setCell ⟨w.heap.size + 1 + 1, 1, none⟩ (.int .i64 x.d.k)).setCell ⟨w.heap.size + 1 + 1, 2, none⟩ (.bool x.d.g)).setCell ⟨w.heap.size + 1 + 1, 3, none⟩ (.slice x.d.la x.d.ln x.d.lc)).setCell ⟨w.heap.size + 1 + 1, 4, none⟩ (.bool x.d.bb)).setCell ⟨w.heap.size + 1 + 1, 5, none⟩ (.string x.d.s)).setCell ⟨w.heap.size + 1 + 1, 6, none⟩ (.slice x.d.ia x.d.items.length x.d.ic)).setCell ⟨w.heap.size + 1 + 1, 7, none⟩ (.slice x.d.ta x.d.tail.length x.d.tc)).setCell ⟨w.heap.size + 1 + 1, 8, none⟩ (.int .i64 x.v)).setCell ⟨w.heap.size + 1 + 1, 9, none⟩ (.slice x.va x.vs.length x.vc)).setCell ⟨w.heap.size + 1 + 1, 10, none⟩ (.bool x.rs)).setCell ⟨w.heap.size + 1 + 1, 11, none⟩ (.int .i64 x.p)).setCell ⟨w.heap.size + 1 + 1, 12, none⟩ (.slice x.ka x.kids.length x.kc)) = WX := ⟨_, rfl⟩
  obtain ⟨hb6, y6, k6⟩ : Below w.heap.size w w6 ∧ w6.heap[w.heap.size + 2]? = some (Obj.cells #[.int .i64 x.k, .int .i64 x.d.k, .bool x.d.g, .slice x.d.la x.d.ln x.d.lc, .bool x.d.bb, .string x.d.s, .slice x.d.ia x.d.items.length x.d.ic, .slice x.d.ta x.d.tail.length x.d.tc, .int .i64 x.v, .slice x.va x.vs.length x.vc, .bool x.rs, .int .i64 x.p, .slice x.ka x.kids.length x.kc] 31) ∧ ∀ k, k ≠ w.heap.size + 2 → w6.heap[k]? = W3.heap[k]? := by
    refine ⟨?_, ?_, fun k hk => ?_⟩
    · rw [← hw6]; exact (((((((((((((HA.out.2.2.2.setCell (p := ⟨w.heap.size + 1 + 1, 0, none⟩) (by show w.heap.size ≤ w.heap.size + 1 + 1; omega) _).setCell (p := ⟨w.heap.size + 1 + 1, 1, none⟩) (by show w.heap.size ≤ w.heap.size + 1 + 1; omega) _).setCell (p := ⟨w.heap.size + 1 + 1, 2, none⟩) (by show w.heap.size ≤ w.heap.size + 1 + 1; omega) _).setCell (p := ⟨w.heap.size + 1 + 1, 3, none⟩) (by show w.heap.size ≤ w.heap.size + 1 + 1; omega) _).setCell (p := ⟨w.heap.size + 1 + 1, 4, none⟩) (by show w.heap.size ≤ w.heap.size + 1 + 1; omega) _).setCell (p := ⟨w.heap.size + 1 + 1, 5, none⟩) (by show w.heap.size ≤ w.heap.size + 1 + 1; omega) _).setCell (p := ⟨w.heap.size + 1 + 1, 6, none⟩) (by show w.heap.size ≤ w.heap.size + 1 + 1; omega) _).setCell (p := ⟨w.heap.size + 1 + 1, 7, none⟩) (by show w.heap.size ≤ w.heap.size + 1 + 1; omega) _).setCell (p := ⟨w.heap.size + 1 + 1, 8, none⟩) (by show w.heap.size ≤ w.heap.size + 1 + 1; omega) _).setCell (p := ⟨w.heap.size + 1 + 1, 9, none⟩) (by show w.heap.size ≤ w.heap.size + 1 + 1; omega) _).setCell (p := ⟨w.heap.size + 1 + 1, 10, none⟩) (by show w.heap.size ≤ w.heap.size + 1 + 1; omega) _).setCell (p := ⟨w.heap.size + 1 + 1, 11, none⟩) (by show w.heap.size ≤ w.heap.size + 1 + 1; omega) _).setCell (p := ⟨w.heap.size + 1 + 1, 12, none⟩) (by show w.heap.size ≤ w.heap.size + 1 + 1; omega) _)
    · rw [← hw6]; simp [World.setCell, Array.getElem?_modify, HA.out.2.2.1]
    · rw [← hw6]; simp [World.setCell, Array.getElem?_modify, show ¬ w.heap.size + 1 + 1 = k by omega, show ¬ w.heap.size + 2 = k by omega]
  refine bodyPost_ret (v := .tuple #[(.agg #[.int .i64 x.k, .int .i64 x.d.k, .bool x.d.g, .slice x.d.la x.d.ln x.d.lc, .bool x.d.bb, .string x.d.s, .slice x.d.ia x.d.items.length x.d.ic, .slice x.d.ta x.d.tail.length x.d.tc, .int .i64 x.v, .slice x.va x.vs.length x.vc, .bool x.rs, .int .i64 x.p, .slice x.ka x.kids.length x.kc]), .bool true]) (results_eb rfl rfl rfl (by rw [hw6, Lib.cell_of_heap y6]; rfl) (by rw [hw6, Lib.cell_of_heap y6]; rfl) (by rw [hw6, Lib.cell_of_heap y6]; rfl) (by rw [hw6, Lib.cell_of_heap y6]; rfl) (by rw [hw6, Lib.cell_of_heap y6]; rfl) (by rw [hw6, Lib.cell_of_heap y6]; rfl) (by rw [hw6, Lib.cell_of_heap y6]; rfl) (by rw [hw6, Lib.cell_of_heap y6]; rfl) (by rw [hw6, Lib.cell_of_heap y6]; rfl) (by rw [hw6, Lib.cell_of_heap y6]; rfl) (by rw [hw6, Lib.cell_of_heap y6]; rfl) (by rw [hw6, Lib.cell_of_heap y6]; rfl) (by rw [hw6, Lib.cell_of_heap y6]; rfl)) rfl ?_
  (try rw [hw6])
  exact ⟨x, rfl, rfl, hX, (hHX.keep (w' := w6) hb6.size fun k hk => hb6.block k (by omega)).heldP.keep (Nat.le_refl _) fun k hk => ⟨⟨.inl hk, by have := hb6.size; omega⟩, rfl⟩, hb6⟩
theorem Whole.waits {ops : Array Oper} {l : Nat → Bool} (hw : Whole ops l) {i j : Nat} (h : Waits ops i j = true) (hl : l i = true) : l j = true := by
  obtain ⟨o, ho⟩ := Waits.some h
  exact Waits.listed h ho (hw i o ho hl)
/-- What Put answers with, written out. -/
theorem rput_tree {w w6 : World} {M B q g c : Nat} {t y : ET} (hM : M ≤ w.heap.size) (hMB : M ≤ B) (hH : HeldE w M t) (hb : Below B w w6) (hBw : B ≤ w.heap.size) (hq : q < t.kids.length) (h1 : t.kids.length ≤ c) (h2 : c ≤ maxLen) (hgB : B ≤ g) (hgl : g < w6.heap.size)
    (hk : ∀ i (h : i < t.kids.length), i ≠ q → ∀ j v, t.kids[i].cells[j]? = some v → w6.cell? ⟨g, i * 13 + j, none⟩ = some v) (hy : ∀ j v, y.cells[j]? = some v → w6.cell? ⟨g, q * 13 + j, none⟩ = some v) (hhy : HeldEP w6 (MixP M B w6) y) :
    HeldEP w6 (MixP M B w6) (.mk t.k t.d t.v t.va t.vc t.vs t.rs t.p (some ⟨g, 0, none⟩) c (t.kids.set q y)) := by
  have hold : ∀ k, k < M → MixP M B w6 k ∧ w6.heap[k]? = w.heap[k]? := fun k hk => ⟨⟨.inl hk, by have := hb.size; omega⟩, hb.block k (by omega)⟩
  have hs := hb.size
  have hHP := hH.heldP
  refine ⟨⟨hHP.1.1.keep (by omega) hold, hHP.1.2.keep hold⟩, ⟨by simpa [ET.kids, ET.kc] using h1, h2, fun _ => ⟨rfl, .inr hgB, hgl⟩, fun e => by cases e⟩, ?_⟩
  show LiesEPR w6 (MixP M B w6) (t.kids.set q y) g 0
  refine (liesEPR_iff _ _ _).2 fun i hi => ?_
  have hi' : i < t.kids.length := by simpa using hi
  rw [Nat.zero_add, Nat.mul_comm 13 i]
  by_cases h : i = q
  · subst h
    simp only [List.getElem_set_self]
    exact liesEP_held.2 ⟨⟨.inr hgB, hgl⟩, hy, hhy⟩
  · rw [List.getElem_set_ne (by omega)]
    exact liesEP_held.2 ⟨⟨.inr hgB, hgl⟩, hk i hi' h, (liesEP_held.1 ((liesEPR_iff _ _ _).1 hHP.2.2 i hi')).2.2.keep (by omega) hold⟩
theorem thirteen_of {w : World} {b : Nat} {u : ET} (h : w.heap[b]? = some (Obj.cells #[.int .i64 u.k, .int .i64 u.d.k, .bool u.d.g, .slice u.d.la u.d.ln u.d.lc, .bool u.d.bb, .string u.d.s, .slice u.d.ia u.d.items.length u.d.ic, .slice u.d.ta u.d.tail.length u.d.tc, .int .i64 u.v, .slice u.va u.vs.length u.vc, .bool u.rs, .int .i64 u.p, .slice u.ka u.kids.length u.kc] 31)) : Thirteen w b 0 u := fun j v hj => by
  rw [Lib.cell_of_heap h, Nat.zero_add]
  have hj2 := hj
  unfold ET.cells at hj2
  simpa using hj2
/-- What has come up in the region with the call. -/
def PutR (M B : Nat) (S : ES) (b : Bool) (l : Nat → Bool) (a : Act) (W : World) : Prop :=
  (l 14 = true → l 10 = true → ∃ (g : Nat) (u : ET), a.tmps.getD 8 undef = .pointer (some ⟨g, 0, none⟩) ∧ a.tmps.getD 40 undef = .tuple #[.agg #[.int .i64 u.k, .int .i64 u.d.k, .bool u.d.g, .slice u.d.la u.d.ln u.d.lc, .bool u.d.bb, .string u.d.s, .slice u.d.ia u.d.items.length u.d.ic, .slice u.d.ta u.d.tail.length u.d.tc, .int .i64 u.v, .slice u.va u.vs.length u.vc, .bool u.rs, .int .i64 u.p, .slice u.ka u.kids.length u.kc], .bool b] ∧ shapeE u = S ∧ TameE u ∧ HeldEP W (fun k => MixP M B W k ∧ k ≠ g) u) ∧
  (l 11 = true → a.tmps.getD 29 undef = a.tmps.getD 40 undef) ∧
  (l 12 = true → ∃ u : ET, a.tmps.getD 40 undef = .tuple #[.agg #[.int .i64 u.k, .int .i64 u.d.k, .bool u.d.g, .slice u.d.la u.d.ln u.d.lc, .bool u.d.bb, .string u.d.s, .slice u.d.ia u.d.items.length u.d.ic, .slice u.d.ta u.d.tail.length u.d.tc, .int .i64 u.v, .slice u.va u.vs.length u.vc, .bool u.rs, .int .i64 u.p, .slice u.ka u.kids.length u.kc], .bool b] ∧ a.tmps.getD 41 undef = .agg #[.int .i64 u.k, .int .i64 u.d.k, .bool u.d.g, .slice u.d.la u.d.ln u.d.lc, .bool u.d.bb, .string u.d.s, .slice u.d.ia u.d.items.length u.d.ic, .slice u.d.ta u.d.tail.length u.d.tc, .int .i64 u.v, .slice u.va u.vs.length u.vc, .bool u.rs, .int .i64 u.p, .slice u.ka u.kids.length u.kc])
theorem PutR.other {M B : Nat} {S : ES} {b : Bool} {l : Nat → Bool} {a : Act} {W W' : World} {i d : Nat} {v : Value} (h : PutR M B S b l a W) (hb : Below W.heap.size W W') (hi : i ≠ 10 ∧ i ≠ 11 ∧ i ≠ 12 ∧ i ≠ 14) (hd : d ≠ 8 ∧ d ≠ 40 ∧ d ≠ 29 ∧ d ≠ 41) (hs : d < a.tmps.size) : PutR M B S b (fun j => l j || j == i) (a.put (some d) v) W' := by
  obtain ⟨h1, h2, h3⟩ := h
  have hl : ∀ j, j ≠ i → (l j || j == i) = l j := fun j hj => by rw [show (j == i) = false by simpa using hj, Bool.or_false]
  have hg : ∀ m, m ≠ d → (a.put (some d) v).tmps.getD m undef = a.tmps.getD m undef := fun m hm => by rw [put_get hs, if_neg hm]
  refine ⟨fun q1 q2 => ?_, fun q1 => ?_, fun q1 => ?_⟩
  · replace q1 : (l 14 || (14 : Nat) == i) = true := q1; rw [hl 14 (by omega)] at q1
    replace q2 : (l 10 || (10 : Nat) == i) = true := q2; rw [hl 10 (by omega)] at q2
    obtain ⟨g, u, e1, e2, e3, e4, e5⟩ := h1 q1 q2
    exact ⟨g, u, (hg 8 (by omega)).trans e1, (hg 40 (by omega)).trans e2, e3, e4, e5.keep hb.size fun k hk => ⟨⟨⟨hk.1.1, by have := hk.1.2; have := hb.size; omega⟩, hk.2⟩, hb.block k hk.1.2⟩⟩
  · replace q1 : (l 11 || (11 : Nat) == i) = true := q1; rw [hl 11 (by omega)] at q1
    rw [hg 29 (by omega), hg 40 (by omega)]; exact h2 q1
  · replace q1 : (l 12 || (12 : Nat) == i) = true := q1; rw [hl 12 (by omega)] at q1
    obtain ⟨u, e1, e2⟩ := h3 q1
    exact ⟨u, (hg 40 (by omega)).trans e1, (hg 41 (by omega)).trans e2⟩
/-- An appended row of expressions. -/
theorem own_rowE {w1 : World} {base : Nat} {v : Value} {l : List ET} (hn : 0 < l.length) (ho : w1.ownsRow base 31 13 v (0 + l.length) ([] ++ cellsE l)) : ∃ g c, v = .slice (some ⟨g, 0, none⟩) l.length c ∧ l.length ≤ c ∧ c ≤ maxLen ∧ base ≤ g ∧ g < w1.heap.size ∧ (∃ cur, w1.heap[g]? = some (.cells cur 31) ∧ (l.length * 13 ≤ cur.size)) ∧ (∀ j x, (cellsE l)[j]? = some x → w1.cell? ⟨g, j, none⟩ = some x) := by
  have h0 := ho
  rw [Nat.zero_add, List.nil_append] at h0
  rcases h0.2 with ⟨hv, h00⟩ | ⟨g, c, cur, hv, hg, hgc, h1, h2, h3⟩
  · omega
  · subst hv
    have hcl : ∀ j x, (cellsE l)[j]? = some x → w1.cell? ⟨g, j, none⟩ = some x := fun j x hj => by
      have h4 := h0.cells (g := g) rfl j x hj
      rw [cell_add, Nat.zero_add] at h4
      exact h4
    refine ⟨g, c, rfl, h1, h2, hg, (Array.getElem?_eq_some_iff.1 hgc).1, ⟨cur, hgc, ?_⟩, hcl⟩
    have hlast : (cellsE l).length - 1 < (cellsE l).length := by rw [cellsE_length]; omega
    have h5 := hcl ((cellsE l).length - 1) _ (List.getElem?_eq_getElem hlast)
    rw [Lib.cell_of_heap hgc] at h5
    have h6 := (Array.getElem?_eq_some_iff.1 h5).1
    rw [cellsE_length] at h6
    omega
theorem cells_keep {w W : World} {b : Nat} {cs : Array Value} {T : TypeId} {fr : Nat × Nat} (h : w.heap[b]? = some (.cells cs T fr)) (hb : Below w.heap.size w W) : W.heap[b]? = some (.cells cs T fr) := (hb.block b (Array.getElem?_eq_some_iff.1 h).1).trans h
set_option maxRecDepth 100000 in
set_option maxHeartbeats 25600000 in
theorem rput_cons (n : Nat) (ih : RPutTo n) (M : Nat) (t x : ET) (pa : Option Addr) (pc : Nat) (z : Int) (p : List Int) (w : World) (hn : p.length ≤ n) (hT : TameE t) (hX : TameE x) (hts : t.size ≤ 12000000) (hM : M ≤ w.heap.size) (hH : HeldE w M t) (hHX : HeldE w M x) (hP : IntsAt w M pa pc (z :: p)) :
    Calls Tryz.prog 11 #[.agg #[.int .i64 t.k, .int .i64 t.d.k, .bool t.d.g, .slice t.d.la t.d.ln t.d.lc, .bool t.d.bb, .string t.d.s, .slice t.d.ia t.d.items.length t.d.ic, .slice t.d.ta t.d.tail.length t.d.tc, .int .i64 t.v, .slice t.va t.vs.length t.vc, .bool t.rs, .int .i64 t.p, .slice t.ka t.kids.length t.kc], .slice pa (z :: p).length pc, .agg #[.int .i64 x.k, .int .i64 x.d.k, .bool x.d.g, .slice x.d.la x.d.ln x.d.lc, .bool x.d.bb, .string x.d.s, .slice x.d.ia x.d.items.length x.d.ic, .slice x.d.ta x.d.tail.length x.d.tc, .int .i64 x.v, .slice x.va x.vs.length x.vc, .bool x.rs, .int .i64 x.p, .slice x.ka x.kids.length x.kc]] w (RPutPost M (putZ8 (shapeE t) (z :: p) (shapeE x)) (putES (shapeE t) (z :: p) (shapeE x)).isSome w) := by
  obtain ⟨W3, hW3, a0, a1, a2, hz, hbel, -⟩ := three3 w (Obj.cells #[.int .i64 t.k, .int .i64 t.d.k, .bool t.d.g, .slice t.d.la t.d.ln t.d.lc, .bool t.d.bb, .string t.d.s, .slice t.d.ia t.d.items.length t.d.ic, .slice t.d.ta t.d.tail.length t.d.tc, .int .i64 t.v, .slice t.va t.vs.length t.vc, .bool t.rs, .int .i64 t.p, .slice t.ka t.kids.length t.kc] 31) (Obj.cells #[.int .i64 x.k, .int .i64 x.d.k, .bool x.d.g, .slice x.d.la x.d.ln x.d.lc, .bool x.d.bb, .string x.d.s, .slice x.d.ia x.d.items.length x.d.ic, .slice x.d.ta x.d.tail.length x.d.tc, .int .i64 x.v, .slice x.va x.vs.length x.vc, .bool x.rs, .int .i64 x.p, .slice x.ka x.kids.length x.kc] 31) (Obj.cells #[.int .i64 0, .int .i64 0, .bool false, .slice none 0 0, .bool false, .string ⟨#[]⟩, .slice none 0 0, .slice none 0 0, .int .i64 0, .slice none 0 0, .bool false, .int .i64 0, .slice none 0 0] 31)
  have hW := hW3.symm
  have HA := Lib.hid (And.intro a0 (And.intro a1 (And.intro a2 (And.intro hbel hz))))
  have hpl := hP.1.2.1
  have hpn := hP.1.1
  have hsp := hP.1.2.2.1 (by simp)
  have hpz := (hP.2 0 (by simp)).1
  have hpr : ∀ i (h : i < p.length), w.cell? ⟨blk pa, ofs pa + 1 + i, none⟩ = some (.int .i64 p[i]) ∧ _ := fun i h => by
    have := hP.2 (i + 1) (by simpa using h)
    rw [show ofs pa + (i + 1) = ofs pa + 1 + i by omega] at this
    exact this
  obtain ⟨pb, hpb⟩ : ∃ pb, blk pa = pb := ⟨_, rfl⟩
  obtain ⟨po, hpo⟩ : ∃ po, ofs pa = po := ⟨_, rfl⟩
  rw [hpb, hpo] at hsp hpz hpr
  obtain ⟨hpa, hpM⟩ := hsp
  subst hpa
  clear hpb hpo
  rw [List.length_cons] at hpn
  obtain ⟨c1, rfl⟩ : ∃ c1, pc = c1 + 1 := ⟨pc - 1, by omega⟩
  obtain ⟨po1, hpo1⟩ : ∃ k, (if c1 = 0 then po else po + 1) = k := ⟨_, rfl⟩
  have hP2 : ∀ W, Below w.heap.size w W → IntsAt W M (some ⟨pb, po1, none⟩) c1 p := fun W hb => by
    have h0 : IntsAt w M (some ⟨pb, po1, none⟩) c1 p := ⟨⟨by omega, by omega, fun _ => ⟨rfl, hpM⟩, fun e => by cases e⟩, fun i h => by
      have e : po1 = po + 1 := by rw [← hpo1, if_neg (by omega)]
      rw [e]; exact hpr i h⟩
    exact h0.keep fun q hq => hb.block q (by omega)
  have d0 : W3.cell? ⟨pb, po + 0, none⟩ = some (.int .i64 z) := (World.cell?_of_block (w := w) (a := ⟨pb, po + 0, none⟩) (hbel.block pb (by omega))).trans hpz
  rw [Nat.add_zero] at d0
  have HP := Lib.hid (And.intro hP2 (And.intro hpl (And.intro hpn hpM)))
  clear hP hP2 hpr hpz
  unfold maxLen at hpl
  rw [List.length_cons]
  have n0 : (((p.length + 1 : Nat) : Int) == 0) = false := beq_eq_false_iff_ne.2 (by omega)
  have n1 : ((p.length : Int) + 1 == 0) = false := beq_eq_false_iff_ne.2 (by omega)
  have n2 : 0 < p.length + 1 := Nat.succ_pos _
  have hl0 : w.heap.size < W3.heap.size := by omega
  have hl2 : w.heap.size + 1 + 1 < W3.heap.size := by omega
  have c12 : W3.cell? ⟨w.heap.size, 12, none⟩ = some (.slice t.ka t.kids.length t.kc) := by rw [Lib.cell_of_heap a0]; rfl
  have hkm := hH.2.1.2.1
  unfold maxLen at hkm
  have hkc := hH.2.1.1
  clear a0 a1 a2 hbel hW3
  go_enter Tryz.func11, Tryz.ntmps11
  go_wp2_with fail
  by_cases hz1 : 0 ≤ z ∧ z < (t.kids.length : Int)
  · obtain ⟨q, rfl⟩ : ∃ q : Nat, z = q := ⟨z.toNat, by omega⟩
    have hq : q < t.kids.length := by omega
    have q1 : decide ((q : Int) < 0) = false := decide_eq_false (by omega)
    have q2 : decide ((t.kids.length : Int) ≤ (q : Int)) = false := decide_eq_false (by omega)
    go_quiet (fail)
    have v0 : (W3.drewN nq).heap[w.heap.size]? = some (Obj.cells #[.int .i64 t.k, .int .i64 t.d.k, .bool t.d.g, .slice t.d.la t.d.ln t.d.lc, .bool t.d.bb, .string t.d.s, .slice t.d.ia t.d.items.length t.d.ic, .slice t.d.ta t.d.tail.length t.d.tc, .int .i64 t.v, .slice t.va t.vs.length t.vc, .bool t.rs, .int .i64 t.p, .slice t.ka t.kids.length t.kc] 31) := HA.out.1
    have v1 : (W3.drewN nq).heap[w.heap.size + 1]? = some (Obj.cells #[.int .i64 x.k, .int .i64 x.d.k, .bool x.d.g, .slice x.d.la x.d.ln x.d.lc, .bool x.d.bb, .string x.d.s, .slice x.d.ia x.d.items.length x.d.ic, .slice x.d.ta x.d.tail.length x.d.tc, .int .i64 x.v, .slice x.va x.vs.length x.vc, .bool x.rs, .int .i64 x.p, .slice x.ka x.kids.length x.kc] 31) := HA.out.2.1
    have v2 : (W3.drewN nq).heap[w.heap.size + 2]? = some (Obj.cells #[.int .i64 0, .int .i64 0, .bool false, .slice none 0 0, .bool false, .string ⟨#[]⟩, .slice none 0 0, .slice none 0 0, .int .i64 0, .slice none 0 0, .bool false, .int .i64 0, .slice none 0 0] 31) := HA.out.2.2.1
    have hbV : Below w.heap.size w (W3.drewN nq) := ⟨HA.out.2.2.2.1.os, HA.out.2.2.2.1.tape, HA.out.2.2.2.1.output, HA.out.2.2.2.1.size, HA.out.2.2.2.1.block⟩
    have hzV : (W3.drewN nq).heap.size = w.heap.size + 3 := hz
    generalize W3.drewN nq = V at *
    have HV := Lib.hid (And.intro v0 (And.intro v1 (And.intro v2 (And.intro hbV hzV))))
    clear v0 v1 v2 hz1
    have e0 : V.cell? ⟨pb, po, none⟩ = some (.int .i64 (q : Int)) := by
      have := World.cell?_of_block (w := w) (a := ⟨pb, po, none⟩) (hbV.block pb (by have := HP.out.2.2.2; omega))
      rw [this, ← World.cell?_of_block (w := w) (a := ⟨pb, po, none⟩) (HA.out.2.2.2.1.block pb (by have := HP.out.2.2.2; omega))]
      exact d0
    clear d0 c12
    have hgl := (hH.2.1.2.2.1 (by omega)).2
    obtain ⟨gb, go, hae, hR, hgb⟩ : ∃ gb go, t.ka = some ⟨gb, go, none⟩ ∧ LiesER w M t.kids gb go ∧ gb < M := ⟨_, _, (hH.2.1.2.2.1 (by omega)).1, hH.2.2, hgl⟩
    obtain ⟨-, hcell, hhk⟩ := liesE_held.1 ((liesER_iff _ _ _).1 hR q hq)
    have htk := tameER_at _ _ hq ((tameE_eq t).1 hT).2.2
    have hsk := sizesE_mem hq
    have hsz := t.size_eq
    obtain ⟨kd, hkd⟩ : ∃ kd, t.kids[q] = kd := ⟨_, rfl⟩
    have hput : ∀ sx, putES (shapeE t) ((q : Int) :: p) sx = (putES (shapeE kd) p sx).map fun y => .mk (shapeE t).k (shapeE t).d (shapeE t).v (shapeE t).vs (shapeE t).rs (shapeE t).p ((shapeE t).kids.set q y) := fun sx => by
      have hql : q < (shapeE t).kids.length := by rw [kids_shape, shapesE_length]; exact hq
      rw [putES_kid rfl hql]
      have e2 : (shapeE t).kids[q]? = some (shapeE t.kids[q]) := by rw [kids_shape]; exact shapesE_at t.kids q hq
      rw [show (shapeE t).kids[q] = shapeE kd by rw [← hkd]; exact Option.some.inj ((List.getElem?_eq_getElem hql).symm.trans e2)]
    rw [hkd] at hcell hhk htk hsk
    rw [Nat.mul_comm 13 q] at hcell
    obtain ⟨b, hbb⟩ : ∃ b, (putES (shapeE kd) p (shapeE x)).isSome = b := ⟨_, rfl⟩
    obtain ⟨S, hS⟩ : ∃ S, putZ8 (shapeE kd) p (shapeE x) = S := ⟨_, rfl⟩
    have IH := Lib.hid (fun W (hb : Below V.heap.size V W) => ih M kd x (some ⟨pb, po1, none⟩) c1 p W hn htk hX (by omega) (by have := hb.size; omega) (hhk.keep (by have := hb.size; omega) fun k hk => (hb.block k (by omega)).trans (hbV.block k (by omega))) (hHX.keep (by have := hb.size; omega) fun k hk => (hb.block k (by omega)).trans (hbV.block k (by omega))) (HP.out.1 W (hbV.trans (hb.mono (by omega)))))
    rw [hbb, hS] at IH
    have hc13 : Thirteen V gb (go + q * 13) kd := thirteen_below hcell (by omega) hbV
    have HC := Lib.hid (And.intro hc13 (And.intro hput (And.intro hbb (And.intro hS (And.intro hkd hsz)))))
    clear hc13 hput hbb hS hcell hhk htk hsk hR ih hkd hsz hbV
    go_wp2_with fail
    refine wp_region_lateG (nA := 15) 13 (by decide) (fun a0 lt a W => ∃ (g : Nat) (u : ET) (y : Value), a.tmps.getD 8 undef = .pointer (some ⟨g, 0, none⟩) ∧ W.heap[g]? = some (Obj.cells #[.int .i64 u.k, .int .i64 u.d.k, .bool u.d.g, .slice u.d.la u.d.ln u.d.lc, .bool u.d.bb, .string u.d.s, .slice u.d.ia u.d.items.length u.d.ic, .slice u.d.ta u.d.tail.length u.d.tc, .int .i64 u.v, .slice u.va u.vs.length u.vc, .bool u.rs, .int .i64 u.p, .slice u.ka u.kids.length u.kc] 31) ∧ shapeE u = S ∧ TameE u ∧ HeldEP W (MixP M V.heap.size W) u ∧ V.heap.size ≤ g ∧ a.tmps.getD 29 undef = .tuple #[y, .bool b] ∧ (lt = true → a.tmps.getD 42 undef = .bool b) ∧ a.defers = a0.defers ∧ a.tmps.size = a0.tmps.size ∧ (∀ n, (∀ j, j < 15 → n ≠ (fun i => if i ≤ 10 then 30 + i else if i = 11 then 29 else if i ≤ 13 then 29 + i else 8) j) → a.tmps.getD n undef = a0.tmps.getD n undef) ∧ Below V.heap.size V W)
      (PutR M V.heap.size S b) (by kernel_rfl) (by kernel_rfl) (fun i => if i ≤ 10 then 30 + i else if i = 11 then 29 else if i ≤ 13 then 29 + i else 8)
      (fun i W v => match i with
        | 0 => v = .pointer (some ⟨w.heap.size, 12, none⟩)
        | 1 => v = .slice t.ka t.kids.length t.kc
        | 2 => v = .slice (some ⟨pb, po, none⟩) (p.length + 1) (c1 + 1)
        | 3 => v = .pointer (some ⟨pb, po, none⟩)
        | 4 => v = .int .i64 (q : Nat)
        | 5 => v = .pointer (some ⟨gb, go + q * 13, none⟩)
        | 6 => v = .agg #[.int .i64 kd.k, .int .i64 kd.d.k, .bool kd.d.g, .slice kd.d.la kd.d.ln kd.d.lc, .bool kd.d.bb, .string kd.d.s, .slice kd.d.ia kd.d.items.length kd.d.ic, .slice kd.d.ta kd.d.tail.length kd.d.tc, .int .i64 kd.v, .slice kd.va kd.vs.length kd.vc, .bool kd.rs, .int .i64 kd.p, .slice kd.ka kd.kids.length kd.kc]
        | 7 => v = .slice (some ⟨pb, po, none⟩) (p.length + 1) (c1 + 1)
        | 8 => v = .slice (some ⟨pb, po1, none⟩) p.length c1
        | 9 => v = .agg #[.int .i64 x.k, .int .i64 x.d.k, .bool x.d.g, .slice x.d.la x.d.ln x.d.lc, .bool x.d.bb, .string x.d.s, .slice x.d.ia x.d.items.length x.d.ic, .slice x.d.ta x.d.tail.length x.d.tc, .int .i64 x.v, .slice x.va x.vs.length x.vc, .bool x.rs, .int .i64 x.p, .slice x.ka x.kids.length x.kc]
        | 10 => ∃ u : ET, v = .tuple #[.agg #[.int .i64 u.k, .int .i64 u.d.k, .bool u.d.g, .slice u.d.la u.d.ln u.d.lc, .bool u.d.bb, .string u.d.s, .slice u.d.ia u.d.items.length u.d.ic, .slice u.d.ta u.d.tail.length u.d.tc, .int .i64 u.v, .slice u.va u.vs.length u.vc, .bool u.rs, .int .i64 u.p, .slice u.ka u.kids.length u.kc], .bool b] ∧ shapeE u = S ∧ TameE u ∧ HeldEP W (MixP M V.heap.size W) u
        | 11 => ∃ y, v = .tuple #[y, .bool b]
        | 12 => True
        | 13 => v = .bool b
        | _ => ∃ g, v = .pointer (some ⟨g, 0, none⟩) ∧ V.heap.size ≤ g ∧ W.heap[g]? = some (Obj.cells #[.int .i64 0, .int .i64 0, .bool false, .slice none 0 0, .bool false, .string ⟨#[]⟩, .slice none 0 0, .slice none 0 0, .int .i64 0, .slice none 0 0, .bool false, .int .i64 0, .slice none 0 0] 31))
      (by kernel_rfl) (by kernel_rfl) (by kernel_rfl) ⟨fun h => absurd h (by decide), fun h => absurd h (by decide), fun h => absurd h (by decide)⟩
      (fun i j hi hj h => by (repeat' split at h) <;> omega) (fun i hi => by simp only [List.size_toArray, List.length_cons, List.length_nil]; (repeat' split) <;> omega) ?_ ?_ ?_ ?_ ?_
    · intro i hi W W' v h hb
      rcases (show i = 0 ∨ i = 1 ∨ i = 2 ∨ i = 3 ∨ i = 4 ∨ i = 5 ∨ i = 6 ∨ i = 7 ∨ i = 8 ∨ i = 9 ∨ i = 10 ∨ i = 11 ∨ i = 12 ∨ i = 13 ∨ i = 14 by omega) with rfl | rfl | rfl | rfl | rfl | rfl | rfl | rfl | rfl | rfl | rfl | rfl | rfl | rfl | rfl
      · exact h
      · exact h
      · exact h
      · exact h
      · exact h
      · exact h
      · exact h
      · exact h
      · exact h
      · exact h
      · obtain ⟨u, e, h1, h2, h3⟩ := h; exact ⟨u, e, h1, h2, h3.keep hb.size fun k hk => ⟨⟨hk.1, by have := hk.2; have := hb.size; omega⟩, hb.block k hk.2⟩⟩
      · exact h
      · exact h
      · exact h
      · obtain ⟨P, e, h1, h2⟩ := h; exact ⟨P, e, h1, (hb.block P (Array.getElem?_eq_some_iff.1 h2).1).trans h2⟩
    · intro i hi l A W hwl hl I hdep
      rcases (show i = 0 ∨ i = 1 ∨ i = 2 ∨ i = 3 ∨ i = 4 ∨ i = 5 ∨ i = 6 ∨ i = 7 ∨ i = 8 ∨ i = 9 ∨ i = 10 ∨ i = 11 ∨ i = 12 ∨ i = 13 ∨ i = 14 by omega) with rfl | rfl | rfl | rfl | rfl | rfl | rfl | rfl | rfl | rfl | rfl | rfl | rfl | rfl | rfl
      · exact wpOp_valE rfl rfl (exec_fE6 rfl ((I.other 3 (by intro j hj; (repeat' split) <;> omega)).trans rfl)) ⟨_, rfl, rfl, Below.refl _ _, I.rel.other (Below.refl _ _) (by decide) (by decide) (by rw [I.size]; simp)⟩
      · have v0 : A.tmps.getD 30 undef = _ := I.val 0 (by decide) (hdep 0 (by kernel_rfl))
        exact wpOp_valE rfl rfl (exec_ldR rfl v0 (cell_at HV.out.1 I.below 12 rfl)) ⟨_, rfl, rfl, Below.refl _ _, I.rel.other (Below.refl _ _) (by decide) (by decide) (by rw [I.size]; simp)⟩
      · exact wpOp_valE rfl rfl (exec_moveV rfl ((I.other 1 (by intro j hj; (repeat' split) <;> omega)).trans rfl)) ⟨_, rfl, rfl, Below.refl _ _, I.rel.other (Below.refl _ _) (by decide) (by decide) (by rw [I.size]; simp)⟩
      · have v2 : A.tmps.getD 32 undef = _ := I.val 2 (by decide) (hdep 2 (by kernel_rfl))
        exact wpOp_valE rfl rfl (exec_ixI0 rfl v2 n2) ⟨_, rfl, rfl, Below.refl _ _, I.rel.other (Below.refl _ _) (by decide) (by decide) (by rw [I.size]; simp)⟩
      · have v3 : A.tmps.getD 33 undef = _ := I.val 3 (by decide) (hdep 3 (by kernel_rfl))
        exact wpOp_valE rfl rfl (exec_ldI rfl v3 ((I.below.cell (p := ⟨pb, po, none⟩) (show pb < V.heap.size by have := HP.out.2.2.2; omega)).trans e0)) ⟨_, rfl, rfl, Below.refl _ _, I.rel.other (Below.refl _ _) (by decide) (by decide) (by rw [I.size]; simp)⟩
      · have v1 : A.tmps.getD 31 undef = _ := I.val 1 (by decide) (hdep 1 (by kernel_rfl))
        have v4 : A.tmps.getD 34 undef = _ := I.val 4 (by decide) (hdep 4 (by kernel_rfl))
        exact wpOp_valE rfl rfl (exec_ixE rfl (v1.trans (by rw [hae])) v4 hq) ⟨_, rfl, rfl, Below.refl _ _, I.rel.other (Below.refl _ _) (by decide) (by decide) (by rw [I.size]; simp)⟩
      · have v5 : A.tmps.getD 35 undef = _ := I.val 5 (by decide) (hdep 5 (by kernel_rfl))
        exact wpOp_valE rfl rfl (exec_loadE rfl v5 (thirteen_keep HC.out.1 I.below)) ⟨_, rfl, rfl, Below.refl _ _, I.rel.other (Below.refl _ _) (by decide) (by decide) (by rw [I.size]; simp)⟩
      · exact wpOp_valE rfl rfl (exec_moveV rfl ((I.other 1 (by intro j hj; (repeat' split) <;> omega)).trans rfl)) ⟨_, rfl, rfl, Below.refl _ _, I.rel.other (Below.refl _ _) (by decide) (by decide) (by rw [I.size]; simp)⟩
      · have v7 : A.tmps.getD 37 undef = _ := I.val 7 (by decide) (hdep 7 (by kernel_rfl))
        exact wpOp_valE rfl rfl ((exec_cutI rfl v7 (by unfold maxLen; omega) (by omega)).trans (by rw [hpo1])) ⟨_, rfl, rfl, Below.refl _ _, I.rel.other (Below.refl _ _) (by decide) (by decide) (by rw [I.size]; simp)⟩
      · exact wpOp_valE rfl rfl (exec_loadE rfl ((I.other 5 (by intro j hj; (repeat' split) <;> omega)).trans rfl) (thirteen_keep (thirteen_of HV.out.2.1) I.below)) ⟨_, rfl, rfl, Below.refl _ _, I.rel.other (Below.refl _ _) (by decide) (by decide) (by rw [I.size]; simp)⟩
      · have v6 : A.tmps.getD 36 undef = _ := I.val 6 (by decide) (hdep 6 (by kernel_rfl))
        have v8 : A.tmps.getD 38 undef = _ := I.val 8 (by decide) (hdep 8 (by kernel_rfl))
        have v9 : A.tmps.getD 39 undef = _ := I.val 9 (by decide) (hdep 9 (by kernel_rfl))
        have hg : ∀ m (v : Value), (A.put (some 40) v).tmps.getD m undef = if m = 40 then v else A.tmps.getD m undef := fun m v => put_get (by rw [I.size]; simp)
        have n11 : l 11 = true → False := fun h => by
          have := hwl.waits (i := 11) (j := 10) (by kernel_rfl) h
          rw [hl] at this; cases this
        have n12 : l 12 = true → False := fun h => n11 (hwl.waits (i := 12) (j := 11) (by kernel_rfl) h)
        have hbW := I.below.size
        refine wpOp_callE rfl rfl ((exec_call3E rfl).trans (by rw [v6, v8, v9])) (by simp [go_sem]) (IH.out W I.below) ?_
        rintro e W' ⟨u, rfl, hs, ht, hh, hb⟩
        refine ⟨_, rfl, _, rfl, ⟨u, rfl, hs, ht, hh.keep (Nat.le_refl _) fun k hk => ⟨⟨hk.1.imp id (fun h => by omega), hk.2⟩, rfl⟩⟩, hb, ?_, ?_, ?_⟩
        · intro h14 _
          have h14' : l 14 = true := by simpa using h14
          obtain ⟨g, e8, hgV, hgz⟩ : ∃ g, A.tmps.getD 8 undef = .pointer (some ⟨g, 0, none⟩) ∧ V.heap.size ≤ g ∧ W.heap[g]? = some (Obj.cells #[.int .i64 0, .int .i64 0, .bool false, .slice none 0 0, .bool false, .string ⟨#[]⟩, .slice none 0 0, .slice none 0 0, .int .i64 0, .slice none 0 0, .bool false, .int .i64 0, .slice none 0 0] 31) := I.val 14 (by decide) h14'
          have hglt := (Array.getElem?_eq_some_iff.1 hgz).1
          exact ⟨g, u, (hg 8 _).trans e8, hg 40 _, hs, ht, hh.keep (Nat.le_refl _) fun k hk => ⟨⟨⟨hk.1.imp id (fun h => by omega), hk.2⟩, fun e => by rcases hk.1 with h | h <;> omega⟩, rfl⟩⟩
        · intro h; exact (n11 (by simpa using h)).elim
        · intro h; exact (n12 (by simpa using h)).elim
      · obtain ⟨u, v10, hs, ht, hh⟩ : ∃ u : ET, A.tmps.getD 40 undef = .tuple #[.agg #[.int .i64 u.k, .int .i64 u.d.k, .bool u.d.g, .slice u.d.la u.d.ln u.d.lc, .bool u.d.bb, .string u.d.s, .slice u.d.ia u.d.items.length u.d.ic, .slice u.d.ta u.d.tail.length u.d.tc, .int .i64 u.v, .slice u.va u.vs.length u.vc, .bool u.rs, .int .i64 u.p, .slice u.ka u.kids.length u.kc], .bool b] ∧ shapeE u = S ∧ TameE u ∧ HeldEP W (MixP M V.heap.size W) u := I.val 10 (by decide) (hdep 10 (by kernel_rfl))
        have hg : ∀ m (v : Value), (A.put (some 29) v).tmps.getD m undef = if m = 29 then v else A.tmps.getD m undef := fun m v => put_get (by rw [I.size]; simp)
        have n12 : l 12 = true → False := fun h => by
          have := hwl.waits (i := 12) (j := 11) (by kernel_rfl) h
          rw [hl] at this; cases this
        refine wpOp_valE rfl rfl (exec_moveV rfl v10) ⟨_, rfl, ⟨_, rfl⟩, Below.refl _ _, ?_, ?_, ?_⟩
        · intro h14 h10
          obtain ⟨g, u, e8, e40, r⟩ := I.rel.1 (by simpa using h14) (by simpa using h10)
          exact ⟨g, u, (hg 8 _).trans e8, (hg 40 _).trans e40, r⟩
        · intro _; exact (hg 29 _).trans ((hg 40 _).trans v10).symm
        · intro h; exact (n12 (by simpa using h)).elim
      · obtain ⟨u, v10, hs, ht, hh⟩ : ∃ u : ET, A.tmps.getD 40 undef = .tuple #[.agg #[.int .i64 u.k, .int .i64 u.d.k, .bool u.d.g, .slice u.d.la u.d.ln u.d.lc, .bool u.d.bb, .string u.d.s, .slice u.d.ia u.d.items.length u.d.ic, .slice u.d.ta u.d.tail.length u.d.tc, .int .i64 u.v, .slice u.va u.vs.length u.vc, .bool u.rs, .int .i64 u.p, .slice u.ka u.kids.length u.kc], .bool b] ∧ shapeE u = S ∧ TameE u ∧ HeldEP W (MixP M V.heap.size W) u := I.val 10 (by decide) (hwl.waits (i := 11) (j := 10) (by kernel_rfl) (hdep 11 (by kernel_rfl)))
        have v11 := (I.rel.2.1 (hdep 11 (by kernel_rfl))).trans v10
        have hg : ∀ m (v : Value), (A.put (some 41) v).tmps.getD m undef = if m = 41 then v else A.tmps.getD m undef := fun m v => put_get (by rw [I.size]; simp)
        refine wpOp_valE rfl rfl (exec_ext0 rfl v11) ⟨_, rfl, trivial, Below.refl _ _, ?_, ?_, ?_⟩
        · intro h14 h10
          obtain ⟨g, u, e8, e40, r⟩ := I.rel.1 (by simpa using h14) (by simpa using h10)
          exact ⟨g, u, (hg 8 _).trans e8, (hg 40 _).trans e40, r⟩
        · intro h; exact (hg 29 _).trans ((I.rel.2.1 (by simpa using h)).trans (hg 40 _).symm)
        · intro _; exact ⟨u, (hg 40 _).trans v10, hg 41 _⟩
      · obtain ⟨y, v11⟩ : ∃ y, A.tmps.getD 29 undef = .tuple #[y, .bool b] := I.val 11 (by decide) (hdep 11 (by kernel_rfl))
        exact wpOp_valE rfl rfl (exec_ext1 rfl v11) ⟨_, rfl, rfl, Below.refl _ _, I.rel.other (Below.refl _ _) (by decide) (by decide) (by rw [I.size]; simp)⟩
      · have hg : ∀ m (v : Value), (A.put (some 8) v).tmps.getD m undef = if m = 8 then v else A.tmps.getD m undef := fun m v => put_get (by rw [I.size]; simp)
        have hbW := I.below.size
        refine wpOp_valE rfl rfl (exec_allocE rfl) ⟨_, rfl, ⟨_, rfl, I.below.size, World.alloc_heap_new _ _⟩, (Below.refl _ _).alloc (Nat.le_refl _) _, ?_, ?_, ?_⟩
        · intro _ h10
          obtain ⟨u, v10, hs, ht, hh⟩ : ∃ u : ET, A.tmps.getD 40 undef = .tuple #[.agg #[.int .i64 u.k, .int .i64 u.d.k, .bool u.d.g, .slice u.d.la u.d.ln u.d.lc, .bool u.d.bb, .string u.d.s, .slice u.d.ia u.d.items.length u.d.ic, .slice u.d.ta u.d.tail.length u.d.tc, .int .i64 u.v, .slice u.va u.vs.length u.vc, .bool u.rs, .int .i64 u.p, .slice u.ka u.kids.length u.kc], .bool b] ∧ shapeE u = S ∧ TameE u ∧ HeldEP W (MixP M V.heap.size W) u := I.val 10 (by decide) (by simpa using h10)
          refine ⟨_, u, hg 8 _, (hg 40 _).trans v10, hs, ht, hh.keep (by rw [World.size_alloc]; omega) fun k hk => ⟨⟨⟨hk.1, by rw [World.size_alloc]; have := hk.2; omega⟩, by have := hk.2; omega⟩, Below.heap_alloc _ _ _ hk.2⟩⟩
        · intro h; exact (hg 29 _).trans ((I.rel.2.1 (by simpa using h)).trans (hg 40 _).symm)
        · intro h
          obtain ⟨u, e1, e2⟩ := I.rel.2.2 (by simpa using h)
          exact ⟨u, (hg 40 _).trans e1, (hg 41 _).trans e2⟩
    · intro l A W I hall
      obtain ⟨g, e8g, hgV, hgz⟩ : ∃ g, A.tmps.getD 8 undef = .pointer (some ⟨g, 0, none⟩) ∧ V.heap.size ≤ g ∧ W.heap[g]? = some (Obj.cells #[.int .i64 0, .int .i64 0, .bool false, .slice none 0 0, .bool false, .string ⟨#[]⟩, .slice none 0 0, .slice none 0 0, .int .i64 0, .slice none 0 0, .bool false, .int .i64 0, .slice none 0 0] 31) := I.val 14 (by decide) (hall 14 (by decide) (by decide))
      obtain ⟨g', u, e8, e40, hs, ht, hh⟩ := I.rel.1 (hall 14 (by decide) (by decide)) (hall 10 (by decide) (by decide))
      obtain ⟨u', e40', e41⟩ := I.rel.2.2 (hall 12 (by decide) (by decide))
      obtain ⟨y, e29⟩ : ∃ y, A.tmps.getD 29 undef = .tuple #[y, .bool b] := I.val 11 (by decide) (hall 11 (by decide) (by decide))
      obtain rfl : g' = g := by
        rw [e8g] at e8
        simp only [Value.pointer.injEq, Option.some.injEq, Addr.mk.injEq, true_and, and_true] at e8
        exact e8.symm
      have e41' : A.tmps.getD 41 undef = .agg #[.int .i64 u.k, .int .i64 u.d.k, .bool u.d.g, .slice u.d.la u.d.ln u.d.lc, .bool u.d.bb, .string u.d.s, .slice u.d.ia u.d.items.length u.d.ic, .slice u.d.ta u.d.tail.length u.d.tc, .int .i64 u.v, .slice u.va u.vs.length u.vc, .bool u.rs, .int .i64 u.p, .slice u.ka u.kids.length u.kc] := by
        rw [e41]
        have := e40'.symm.trans e40
        simp only [Value.tuple.injEq, Array.mk.injEq, List.cons.injEq, and_true] at this
        exact this
      refine wpOp_storeE rfl rfl rfl rfl e8 (u := u) e41' (x := zE) hgz ?_
      intro W' h1 hoth hsz hbb
      refine ⟨g', u, y, e8, h1, hs, ht, hh.keep (by omega) fun k hk => ⟨⟨hk.1.1, by have := hk.1.2; omega⟩, hoth k hk.2⟩, hgV, e29, fun hl => I.val 13 (by decide) hl, I.defers, I.size, I.other, I.below.trans (hbb V.heap.size hgV)⟩
    · rintro A W ⟨g, u, y, e8, h1, hs, ht, hh, hgV, e29, -, hdf, hsz, hoth, hb⟩
      refine wpOp_valE rfl rfl (exec_ext1 rfl e29) ?_
      have hg : ∀ m (v : Value), (A.put (some 42) v).tmps.getD m undef = if m = 42 then v else A.tmps.getD m undef := fun m v => put_get (by rw [hsz]; simp)
      refine ⟨g, u, y, (hg 8 _).trans e8, h1, hs, ht, hh, hgV, (hg 29 _).trans e29, fun _ => hg 42 _, hdf, by rw [← hsz]; simp [Act.put], fun m hm => ?_, hb⟩
      refine (hg m _).trans ?_
      rw [if_neg (show m ≠ 42 from hm 13 (by decide))]
      exact hoth m hm
    · rintro A W ⟨g, u, y, e8, h1, hs, ht, hh, hgV, e29, h42, hdf, hsz, hoth, hb⟩
      have e42 := h42 rfl
      obtain ⟨u0, v0⟩ : ∃ u, A.tmps.getD 30 undef = u := ⟨_, rfl⟩
      obtain ⟨u1, v1⟩ : ∃ u, A.tmps.getD 31 undef = u := ⟨_, rfl⟩
      obtain ⟨u2, v2⟩ : ∃ u, A.tmps.getD 32 undef = u := ⟨_, rfl⟩
      obtain ⟨u3, v3⟩ : ∃ u, A.tmps.getD 33 undef = u := ⟨_, rfl⟩
      obtain ⟨u4, v4⟩ : ∃ u, A.tmps.getD 34 undef = u := ⟨_, rfl⟩
      obtain ⟨u5, v5⟩ : ∃ u, A.tmps.getD 35 undef = u := ⟨_, rfl⟩
      obtain ⟨u6, v6⟩ : ∃ u, A.tmps.getD 36 undef = u := ⟨_, rfl⟩
      obtain ⟨u7, v7⟩ : ∃ u, A.tmps.getD 37 undef = u := ⟨_, rfl⟩
      obtain ⟨u8, v8⟩ : ∃ u, A.tmps.getD 38 undef = u := ⟨_, rfl⟩
      obtain ⟨u9, v9⟩ : ∃ u, A.tmps.getD 39 undef = u := ⟨_, rfl⟩
      obtain ⟨u10, v10⟩ : ∃ u, A.tmps.getD 40 undef = u := ⟨_, rfl⟩
      obtain ⟨u12, v12⟩ : ∃ u, A.tmps.getD 41 undef = u := ⟨_, rfl⟩
      have hA := tower_pairs (a := A) [(30, u0), (31, u1), (32, u2), (33, u3), (34, u4), (35, u5), (36, u6), (37, u7), (38, u8), (39, u9), (40, u10), (29, .tuple #[y, .bool b]), (41, u12), (42, .bool b), (8, .pointer (some ⟨g, 0, none⟩))] ?_ ?_ hdf hsz (fun m hm => hoth m (fun j hj => by
        simp only [List.forall_mem_cons] at hm
        obtain ⟨k0, k1, k2, k3, k4, k5, k6, k7, k8, k9, k10, k11, k12, k13, k14, -⟩ := hm
        rcases (show j = 0 ∨ j = 1 ∨ j = 2 ∨ j = 3 ∨ j = 4 ∨ j = 5 ∨ j = 6 ∨ j = 7 ∨ j = 8 ∨ j = 9 ∨ j = 10 ∨ j = 11 ∨ j = 12 ∨ j = 13 ∨ j = 14 by omega) with rfl | rfl | rfl | rfl | rfl | rfl | rfl | rfl | rfl | rfl | rfl | rfl | rfl | rfl | rfl
        · exact k0
        · exact k1
        · exact k2
        · exact k3
        · exact k4
        · exact k5
        · exact k6
        · exact k7
        · exact k8
        · exact k9
        · exact k10
        · exact k11
        · exact k12
        · exact k13
        · exact k14))
      rotate_left
      · intro p hp
        simp only [List.mem_cons, List.not_mem_nil, or_false] at hp
        rcases hp with rfl | rfl | rfl | rfl | rfl | rfl | rfl | rfl | rfl | rfl | rfl | rfl | rfl | rfl | rfl <;> simp
      · intro p hp
        simp only [List.mem_cons, List.not_mem_nil, or_false] at hp
        rcases hp with rfl | rfl | rfl | rfl | rfl | rfl | rfl | rfl | rfl | rfl | rfl | rfl | rfl | rfl | rfl
        · exact v0
        · exact v1
        · exact v2
        · exact v3
        · exact v4
        · exact v5
        · exact v6
        · exact v7
        · exact v8
        · exact v9
        · exact v10
        · exact e29
        · exact v12
        · exact e42
        · exact e8
      clear v0 v1 v2 v3 v4 v5 v6 v7 v8 v9 v10 v12 hoth hsz hdf e8 e29 h42 e42
      subst hA
      simp only [List.foldl, Act.put, List.setIfInBounds_toArray, List.set_cons_zero, List.set_cons_succ]
      refine wpOp_valE rfl rfl (exec_assignV rfl rfl) ?_
      have hbw : Below w.heap.size w W := HV.out.2.2.2.1.trans (hb.mono HV.out.2.2.2.1.size)
      have x0 := cells_keep HV.out.1 hb
      have x2 := cells_keep HV.out.2.2.1 hb
      have hzW := hb.size
      have hgW := (Array.getElem?_eq_some_iff.1 h1).1
      have HX := Lib.hid (And.intro x0 (And.intro x2 (And.intro h1 (And.intro hs (And.intro ht (And.intro hh hbw))))))
      clear hs ht hh hb
      show Exit.then _ _ _ _ _
      have r0 : W.cell? ⟨w.heap.size + 1 + 1, 0, none⟩ = some (.int .i64 0) := by rw [Lib.cell_of_heap x2]; rfl
      have f0 : W.frozen? ⟨w.heap.size + 1 + 1, 0, none⟩ = false := Lib.frozen_of_heap x2 _
      have r1 : W.cell? ⟨w.heap.size + 1 + 1, 1, none⟩ = some (.int .i64 0) := by rw [Lib.cell_of_heap x2]; rfl
      have f1 : W.frozen? ⟨w.heap.size + 1 + 1, 1, none⟩ = false := Lib.frozen_of_heap x2 _
      have r2 : W.cell? ⟨w.heap.size + 1 + 1, 2, none⟩ = some (.bool false) := by rw [Lib.cell_of_heap x2]; rfl
      have f2 : W.frozen? ⟨w.heap.size + 1 + 1, 2, none⟩ = false := Lib.frozen_of_heap x2 _
      have r3 : W.cell? ⟨w.heap.size + 1 + 1, 3, none⟩ = some (.slice none 0 0) := by rw [Lib.cell_of_heap x2]; rfl
      have f3 : W.frozen? ⟨w.heap.size + 1 + 1, 3, none⟩ = false := Lib.frozen_of_heap x2 _
      have r4 : W.cell? ⟨w.heap.size + 1 + 1, 4, none⟩ = some (.bool false) := by rw [Lib.cell_of_heap x2]; rfl
      have f4 : W.frozen? ⟨w.heap.size + 1 + 1, 4, none⟩ = false := Lib.frozen_of_heap x2 _
      have r5 : W.cell? ⟨w.heap.size + 1 + 1, 5, none⟩ = some (.string ⟨#[]⟩) := by rw [Lib.cell_of_heap x2]; rfl
      have f5 : W.frozen? ⟨w.heap.size + 1 + 1, 5, none⟩ = false := Lib.frozen_of_heap x2 _
      have r6 : W.cell? ⟨w.heap.size + 1 + 1, 6, none⟩ = some (.slice none 0 0) := by rw [Lib.cell_of_heap x2]; rfl
      have f6 : W.frozen? ⟨w.heap.size + 1 + 1, 6, none⟩ = false := Lib.frozen_of_heap x2 _
      have r7 : W.cell? ⟨w.heap.size + 1 + 1, 7, none⟩ = some (.slice none 0 0) := by rw [Lib.cell_of_heap x2]; rfl
      have f7 : W.frozen? ⟨w.heap.size + 1 + 1, 7, none⟩ = false := Lib.frozen_of_heap x2 _
      have r8 : W.cell? ⟨w.heap.size + 1 + 1, 8, none⟩ = some (.int .i64 0) := by rw [Lib.cell_of_heap x2]; rfl
      have f8 : W.frozen? ⟨w.heap.size + 1 + 1, 8, none⟩ = false := Lib.frozen_of_heap x2 _
      have r9 : W.cell? ⟨w.heap.size + 1 + 1, 9, none⟩ = some (.slice none 0 0) := by rw [Lib.cell_of_heap x2]; rfl
      have f9 : W.frozen? ⟨w.heap.size + 1 + 1, 9, none⟩ = false := Lib.frozen_of_heap x2 _
      have r10 : W.cell? ⟨w.heap.size + 1 + 1, 10, none⟩ = some (.bool false) := by rw [Lib.cell_of_heap x2]; rfl
      have f10 : W.frozen? ⟨w.heap.size + 1 + 1, 10, none⟩ = false := Lib.frozen_of_heap x2 _
      have r11 : W.cell? ⟨w.heap.size + 1 + 1, 11, none⟩ = some (.int .i64 0) := by rw [Lib.cell_of_heap x2]; rfl
      have f11 : W.frozen? ⟨w.heap.size + 1 + 1, 11, none⟩ = false := Lib.frozen_of_heap x2 _
      have r12 : W.cell? ⟨w.heap.size + 1 + 1, 12, none⟩ = some (.slice none 0 0) := by rw [Lib.cell_of_heap x2]; rfl
      have f12 : W.frozen? ⟨w.heap.size + 1 + 1, 12, none⟩ = false := Lib.frozen_of_heap x2 _
      have hv2 : w.heap.size + 1 + 1 < W.heap.size := by omega
      cases b
      · have HNO := Lib.hid (show putES (shapeE t) ((q : Int) :: p) (shapeE x) = none by
          rw [HC.out.2.1, Option.isSome_eq_false_iff.1 HC.out.2.2.1 |> Option.isNone_iff_eq_none.1]; rfl)
        clear x0 x2 h1
        go_wp2_with fail
        (try simp only [Exit.inBlock, Exit.then])
        obtain ⟨w6, hw6⟩ : ∃ WX, (((((((((((((W.setCell ⟨w.heap.size + 1 + 1, 0, none⟩ (.int .i64 0)).setCell ⟨w.heap.size + 1 + 1, 1, none⟩ (.int .i64 0)).setCell ⟨w.heap.size + 1 + 1, 2, none⟩ (.bool false)).setCell ⟨w.heap.size + 1 + 1, 3, none⟩ (.slice none 0 0)).setCell ⟨w.heap.size + 1 + 1, 4, none⟩ (.bool false)).setCell ⟨w.heap.size + 1 + 1, 5, none⟩ (.string ⟨#[]⟩)).setCell ⟨w.heap.size + 1 + 1, 6, none⟩ (.slice none 0 0)).setCell ⟨w.heap.size + 1 + 1, 7, none⟩ (.slice none 0 0)).setCell ⟨w.heap.size + 1 + 1, 8, none⟩ (.int .i64 0)).setCell ⟨w.heap.size + 1 + 1, 9, none⟩ (.slice none 0 0)).setCell ⟨w.heap.size + 1 + 1, 10, none⟩ (.bool false)).setCell ⟨w.heap.size + 1 + 1, 11, none⟩ (.int .i64 0)).setCell ⟨w.heap.size + 1 + 1, 12, none⟩ (.slice none 0 0)) = WX := ⟨_, rfl⟩
        obtain ⟨hb6, y6, k6⟩ : Below w.heap.size w w6 ∧ w6.heap[w.heap.size + 2]? = some (Obj.cells #[.int .i64 0, .int .i64 0, .bool false, .slice none 0 0, .bool false, .string ⟨#[]⟩, .slice none 0 0, .slice none 0 0, .int .i64 0, .slice none 0 0, .bool false, .int .i64 0, .slice none 0 0] 31) ∧ ∀ k, k ≠ w.heap.size + 2 → w6.heap[k]? = W.heap[k]? := by
          refine ⟨?_, ?_, fun k hk => ?_⟩
          · rw [← hw6]; exact (((((((((((((HX.out.2.2.2.2.2.2.setCell (p := ⟨w.heap.size + 1 + 1, 0, none⟩) (by show w.heap.size ≤ w.heap.size + 1 + 1; omega) _).setCell (p := ⟨w.heap.size + 1 + 1, 1, none⟩) (by show w.heap.size ≤ w.heap.size + 1 + 1; omega) _).setCell (p := ⟨w.heap.size + 1 + 1, 2, none⟩) (by show w.heap.size ≤ w.heap.size + 1 + 1; omega) _).setCell (p := ⟨w.heap.size + 1 + 1, 3, none⟩) (by show w.heap.size ≤ w.heap.size + 1 + 1; omega) _).setCell (p := ⟨w.heap.size + 1 + 1, 4, none⟩) (by show w.heap.size ≤ w.heap.size + 1 + 1; omega) _).setCell (p := ⟨w.heap.size + 1 + 1, 5, none⟩) (by show w.heap.size ≤ w.heap.size + 1 + 1; omega) _).setCell (p := ⟨w.heap.size + 1 + 1, 6, none⟩) (by show w.heap.size ≤ w.heap.size + 1 + 1; omega) _).setCell (p := ⟨w.heap.size + 1 + 1, 7, none⟩) (by show w.heap.size ≤ w.heap.size + 1 + 1; omega) _).setCell (p := ⟨w.heap.size + 1 + 1, 8, none⟩) (by show w.heap.size ≤ w.heap.size + 1 + 1; omega) _).setCell (p := ⟨w.heap.size + 1 + 1, 9, none⟩) (by show w.heap.size ≤ w.heap.size + 1 + 1; omega) _).setCell (p := ⟨w.heap.size + 1 + 1, 10, none⟩) (by show w.heap.size ≤ w.heap.size + 1 + 1; omega) _).setCell (p := ⟨w.heap.size + 1 + 1, 11, none⟩) (by show w.heap.size ≤ w.heap.size + 1 + 1; omega) _).setCell (p := ⟨w.heap.size + 1 + 1, 12, none⟩) (by show w.heap.size ≤ w.heap.size + 1 + 1; omega) _)
          · rw [← hw6]; simp [World.setCell, Array.getElem?_modify, HX.out.2.1]
          · rw [← hw6]; simp [World.setCell, Array.getElem?_modify, show ¬ w.heap.size + 1 + 1 = k by omega, show ¬ w.heap.size + 2 = k by omega]
        refine bodyPost_ret (v := .tuple #[(.agg #[.int .i64 0, .int .i64 0, .bool false, .slice none 0 0, .bool false, .string ⟨#[]⟩, .slice none 0 0, .slice none 0 0, .int .i64 0, .slice none 0 0, .bool false, .int .i64 0, .slice none 0 0]), .bool false]) (results_eb rfl rfl rfl (by rw [hw6, Lib.cell_of_heap y6]; rfl) (by rw [hw6, Lib.cell_of_heap y6]; rfl) (by rw [hw6, Lib.cell_of_heap y6]; rfl) (by rw [hw6, Lib.cell_of_heap y6]; rfl) (by rw [hw6, Lib.cell_of_heap y6]; rfl) (by rw [hw6, Lib.cell_of_heap y6]; rfl) (by rw [hw6, Lib.cell_of_heap y6]; rfl) (by rw [hw6, Lib.cell_of_heap y6]; rfl) (by rw [hw6, Lib.cell_of_heap y6]; rfl) (by rw [hw6, Lib.cell_of_heap y6]; rfl) (by rw [hw6, Lib.cell_of_heap y6]; rfl) (by rw [hw6, Lib.cell_of_heap y6]; rfl) (by rw [hw6, Lib.cell_of_heap y6]; rfl)) rfl ?_
        (try rw [hw6])
        rw [show putES (shapeE t) ((q : Int) :: p) (shapeE x) = none from HNO.out, show putZ8 (shapeE t) ((q : Int) :: p) (shapeE x) = shapeE zE by rw [putZ8, HNO.out]; rfl]
        exact ⟨zE, rfl, rfl, zE_tame, (zE_held w6 0).heldP.keep (Nat.le_refl _) fun k hk => absurd hk (Nat.not_lt_zero k), hb6⟩
      · have hSm : putES (shapeE kd) p (shapeE x) = some S := by
          obtain ⟨s, hs⟩ := Option.isSome_iff_exists.1 HC.out.2.2.1
          have h := HC.out.2.2.2.1
          rw [putZ8, hs] at h
          rw [hs, ← h]; rfl
        have hpt := HC.out.2.1 (shapeE x)
        rw [hSm] at hpt
        have HM := Lib.hid hpt
        clear hSm hpt
        clear r0 r1 r2 r3 r4 r5 r6 r7 r8 r9 r10 r11 r12 f0 f1 f2 f3 f4 f5 f6 f7 f8 f9 f10 f11 f12
        have m0 : W.cell? ⟨w.heap.size, 0, none⟩ = some (.int .i64 t.k) := by rw [Lib.cell_of_heap x0]; rfl
        have m1 : W.cell? ⟨w.heap.size, 1, none⟩ = some (.int .i64 t.d.k) := by rw [Lib.cell_of_heap x0]; rfl
        have m2 : W.cell? ⟨w.heap.size, 2, none⟩ = some (.bool t.d.g) := by rw [Lib.cell_of_heap x0]; rfl
        have m3 : W.cell? ⟨w.heap.size, 3, none⟩ = some (.slice t.d.la t.d.ln t.d.lc) := by rw [Lib.cell_of_heap x0]; rfl
        have m4 : W.cell? ⟨w.heap.size, 4, none⟩ = some (.bool t.d.bb) := by rw [Lib.cell_of_heap x0]; rfl
        have m5 : W.cell? ⟨w.heap.size, 5, none⟩ = some (.string t.d.s) := by rw [Lib.cell_of_heap x0]; rfl
        have m6 : W.cell? ⟨w.heap.size, 6, none⟩ = some (.slice t.d.ia t.d.items.length t.d.ic) := by rw [Lib.cell_of_heap x0]; rfl
        have m7 : W.cell? ⟨w.heap.size, 7, none⟩ = some (.slice t.d.ta t.d.tail.length t.d.tc) := by rw [Lib.cell_of_heap x0]; rfl
        have m8 : W.cell? ⟨w.heap.size, 8, none⟩ = some (.int .i64 t.v) := by rw [Lib.cell_of_heap x0]; rfl
        have m9 : W.cell? ⟨w.heap.size, 9, none⟩ = some (.slice t.va t.vs.length t.vc) := by rw [Lib.cell_of_heap x0]; rfl
        have m10 : W.cell? ⟨w.heap.size, 10, none⟩ = some (.bool t.rs) := by rw [Lib.cell_of_heap x0]; rfl
        have m11 : W.cell? ⟨w.heap.size, 11, none⟩ = some (.int .i64 t.p) := by rw [Lib.cell_of_heap x0]; rfl
        have m12 : W.cell? ⟨w.heap.size, 12, none⟩ = some (.slice (some ⟨gb, go, none⟩) t.kids.length t.kc) := by rw [Lib.cell_of_heap x0, ← hae]; rfl
        obtain ⟨W5, hW5⟩ : ∃ X, W.alloc (Obj.cells #[.int .i64 t.k, .int .i64 t.d.k, .bool t.d.g, .slice t.d.la t.d.ln t.d.lc, .bool t.d.bb, .string t.d.s, .slice t.d.ia t.d.items.length t.d.ic, .slice t.d.ta t.d.tail.length t.d.tc, .int .i64 t.v, .slice t.va t.vs.length t.vc, .bool t.rs, .int .i64 t.p, .slice (some ⟨gb, go, none⟩) t.kids.length t.kc] 31) = X := ⟨_, rfl⟩
        have z5 : W5.heap.size = W.heap.size + 1 := by rw [← hW5]; exact World.size_alloc ..
        have hb5 : Below W.heap.size W W5 := hW5 ▸ (Below.refl _ _).alloc (Nat.le_refl _) _
        have x5 : W5.heap[W.heap.size]? = some (Obj.cells #[.int .i64 t.k, .int .i64 t.d.k, .bool t.d.g, .slice t.d.la t.d.ln t.d.lc, .bool t.d.bb, .string t.d.s, .slice t.d.ia t.d.items.length t.d.ic, .slice t.d.ta t.d.tail.length t.d.tc, .int .i64 t.v, .slice t.va t.vs.length t.vc, .bool t.rs, .int .i64 t.p, .slice (some ⟨gb, go, none⟩) t.kids.length t.kc] 31) := hW5 ▸ World.alloc_heap_new _ _
        have x50 := cells_keep x0 hb5
        have e12 : W5.cell? ⟨w.heap.size, 12, none⟩ = some (.slice (some ⟨gb, go, none⟩) t.kids.length t.kc) := by rw [Lib.cell_of_heap x50, ← hae]; rfl
        have e13 : (W5.alloc (.cells #[] 31)).cell? ⟨w.heap.size, 12, none⟩ = some (.slice (some ⟨gb, go, none⟩) t.kids.length t.kc) := by rw [Lib.cell_of_heap (cells_keep x50 (w := W5) ((Below.refl _ _).alloc (Nat.le_refl _) _)), ← hae]; rfl
        have hl5 : w.heap.size < W5.heap.size := by omega
        have hl6 : w.heap.size < W.heap.size := by omega
        obtain ⟨i0, hi, h2⟩ := Option.map_eq_some_iff.1 infoExp
        have i1 := congrArg Prod.fst h2
        have i2 : i0.size = 13 := congrArg (fun q => q.2.1) h2
        have i3 : i0.bytes ≤ 1000 := of_decide_eq_true (congrArg (fun q => q.2.2) h2)
        clear h2
        have hb6 : Below W5.heap.size W5 (W5.alloc (.cells #[] 31)) := (Below.refl _ _).alloc (Nat.le_refl _) _
        have hbw6 : Below w.heap.size w (W5.alloc (.cells #[] 31)) := HX.out.2.2.2.2.2.2.trans ((hb5.trans (hb6.mono (by omega))).mono (by omega))
        have hR2 : LiesER w M t.kids gb go := by have := hH.2.2; rw [hae] at this; exact this
        have hkl : t.kids.length ≤ 12000000 := by have := sizesE_ge t.kids; have := HC.out.2.2.2.2.2; omega
        have hnews : ∀ j u, (cellsE t.kids)[j]? = some u → (W5.alloc (.cells #[] 31)).cell? ((⟨gb, go, none⟩ : Addr).add j) = some u := fun j u hj => by
          rw [cell_add]
          exact (World.cell?_of_block (w := w) (a := ⟨gb, go + j, none⟩) (hbw6.block gb (by omega))).trans (cells_of_liesER t.kids gb go hR2 j u hj)
        have hby : (0 + t.kids.length) * i0.bytes ≤ 140737488355328 := by
          have : (0 + t.kids.length) * i0.bytes ≤ 12000000 * 1000 := Nat.mul_le_mul (by omega) i3
          omega
        have HQ := Lib.hid (And.intro hnews (And.intro (ownE_lit0 W5) (And.intro hb6 (And.intro hby (And.intro i1 i2)))))
        have H5 := Lib.hid (And.intro x5 (And.intro hb5 hR2))
        have n3 : 0 < t.kids.length := by omega
        have Z5 := Lib.hid z5
        clear z5
        clear hnews hb6 hbw6 hby i1 i2 i3 x5 hb5 hR2 x50 x0 x2 h1
        go_wp2_with (at_builtin; refine wpList_append_own _ rfl (.tmp 47) (.tmp 49) 29 rfl W5.heap.size 31 i0 _ 13 i0.bytes Tryz.underlying29 hi HQ.out.2.2.2.2.1 HQ.out.2.2.2.2.2 rfl rfl (by decide) _ 0 [] rfl HQ.out.2.1 ⟨gb, go, none⟩ t.kids.length t.kc (cellsE t.kids) rfl (cellsE_length t.kids) HQ.out.1 (cellsE_one t.kids) (by unfold maxLen; omega) HQ.out.2.2.2.1 (by simp) ?_; intro v' w1 hown1 hg1 _; obtain ⟨g2, c2, rfl, r1, r2, r3, r4, r5, r6⟩ := own_rowE n3 hown1; have hbel := HQ.out.2.2.1.grown hg1 (by simp) (fun j hj => by have h9 : some W5.heap.size = some j := hj; injection h9 with h9; omega); have o1 := cells_keep H5.out.1 hbel; have k12 : w1.cell? ⟨W.heap.size, 12, none⟩ = some (.slice (some ⟨gb, go, none⟩) t.kids.length t.kc) := (Lib.cell_of_heap o1 12).trans rfl; have kf : w1.frozen? ⟨W.heap.size, 12, none⟩ = false := Lib.frozen_of_heap o1 _; have klt : W.heap.size < w1.heap.size := (by have := hbel.size; have := Z5.out; omega); have HO := Lib.hid (And.intro r1 (And.intro r2 (And.intro r3 (And.intro r4 (And.intro r5 (And.intro r6 (And.intro hbel o1))))))); clear r1 r2 r3 r4 r5 r6 hbel o1 hown1 hg1)
        have z5 := Z5.out
        obtain ⟨X1, hX1⟩ : ∃ X, w1.setCell ⟨W.heap.size, 12, none⟩ (.slice (some ⟨g2, 0, none⟩) t.kids.length c2) = X := ⟨_, rfl⟩
        rw [hX1]
        have z1 := HO.out.2.2.2.2.2.2.1.size
        have hg2l := HO.out.2.2.2.1
        have hg2b := HO.out.2.2.1
        have xO : X1.heap[W.heap.size]? = some (Obj.cells #[.int .i64 t.k, .int .i64 t.d.k, .bool t.d.g, .slice t.d.la t.d.ln t.d.lc, .bool t.d.bb, .string t.d.s, .slice t.d.ia t.d.items.length t.d.ic, .slice t.d.ta t.d.tail.length t.d.tc, .int .i64 t.v, .slice t.va t.vs.length t.vc, .bool t.rs, .int .i64 t.p, .slice (some ⟨g2, 0, none⟩) t.kids.length c2] 31) := by rw [← hX1]; simp [World.setCell, Array.getElem?_modify, HO.out.2.2.2.2.2.2.2]
        have xk : ∀ k, k ≠ W.heap.size → X1.heap[k]? = w1.heap[k]? := fun k hk => by rw [← hX1]; exact Below.heap_setCell _ _ _ _ (by show k ≠ W.heap.size; exact hk)
        have zX : X1.heap.size = w1.heap.size := by rw [← hX1, setCell_size]
        have xW : ∀ k, k < W.heap.size → X1.heap[k]? = W.heap[k]? := fun k hk => (xk k (by omega)).trans ((HO.out.2.2.2.2.2.2.1.block k (by omega)).trans (H5.out.2.1.block k hk))
        have xg : X1.heap[g]? = some (Obj.cells #[.int .i64 u.k, .int .i64 u.d.k, .bool u.d.g, .slice u.d.la u.d.ln u.d.lc, .bool u.d.bb, .string u.d.s, .slice u.d.ia u.d.items.length u.d.ic, .slice u.d.ta u.d.tail.length u.d.tc, .int .i64 u.v, .slice u.va u.vs.length u.vc, .bool u.rs, .int .i64 u.p, .slice u.ka u.kids.length u.kc] 31) := (xW g (by omega)).trans HX.out.2.2.1
        have xp : X1.cell? ⟨pb, po, none⟩ = some (.int .i64 (q : Int)) := by
          have hpM := HP.out.2.2.2
          have h1 : X1.heap[pb]? = V.heap[pb]? := (xW pb (by omega)).trans ((HX.out.2.2.2.2.2.2.block pb (by omega)).trans (HV.out.2.2.2.1.block pb (by omega)).symm)
          exact (World.cell?_of_block (w := V) (a := ⟨pb, po, none⟩) h1).trans e0
        have bX : Below w.heap.size w X1 := by
          rw [← hX1]
          exact (HX.out.2.2.2.2.2.2.trans ((H5.out.2.1.trans (HO.out.2.2.2.2.2.2.1.mono (by omega))).mono (by omega))).setCell (p := ⟨W.heap.size, 12, none⟩) (by show w.heap.size ≤ W.heap.size; omega) _
        have HY := Lib.hid (And.intro xO (And.intro xk (And.intro zX (And.intro xW (And.intro xg (And.intro xp bX))))))
        clear xO xk xW xg xp bX hX1 k12 kf e12 e13 hW5
        clear m0
        clear m1
        clear m2
        clear m3
        clear m4
        clear m5
        clear m6
        clear m7
        clear m8
        clear m9
        clear m10
        clear m11
        clear m12
        refine wp_region_phases (nA := 7) (by kernel_rfl) (by kernel_rfl) (fun i => 52 + i)
          (fun i Wq v => match i with
            | 0 => v = .pointer (some ⟨W.heap.size, 12, none⟩)
            | 1 => v = .slice (some ⟨g2, 0, none⟩) t.kids.length c2
            | 2 => v = .slice (some ⟨pb, po, none⟩) (p.length + 1) (c1 + 1)
            | 3 => v = .pointer (some ⟨pb, po, none⟩)
            | 4 => v = .int .i64 (q : Nat)
            | 5 => v = .agg #[.int .i64 u.k, .int .i64 u.d.k, .bool u.d.g, .slice u.d.la u.d.ln u.d.lc, .bool u.d.bb, .string u.d.s, .slice u.d.ia u.d.items.length u.d.ic, .slice u.d.ta u.d.tail.length u.d.tc, .int .i64 u.v, .slice u.va u.vs.length u.vc, .bool u.rs, .int .i64 u.p, .slice u.ka u.kids.length u.kc]
            | _ => v = .pointer (some ⟨g2, 0 + q * 13, none⟩)) (by decide) (by kernel_rfl)
          (fun i j hi hj h => by omega) (fun i hi => by simp only [List.size_toArray, List.length_cons, List.length_nil]; omega) ?_ ?_ ?_
        · intro i hi Wq Wr v h hb
          rcases (show i = 0 ∨ i = 1 ∨ i = 2 ∨ i = 3 ∨ i = 4 ∨ i = 5 ∨ i = 6 by omega) with rfl | rfl | rfl | rfl | rfl | rfl | rfl
          · exact h
          · exact h
          · exact h
          · exact h
          · exact h
          · exact h
          · exact h
        · intro i hi l A Wq I hdep
          rcases (show i = 0 ∨ i = 1 ∨ i = 2 ∨ i = 3 ∨ i = 4 ∨ i = 5 ∨ i = 6 by omega) with rfl | rfl | rfl | rfl | rfl | rfl | rfl
          · exact wpOp_valW rfl (rfl) (exec_fE6 rfl ((I.other 10 (by intro j hj; omega)).trans rfl)) ⟨_, rfl, rfl, Below.refl _ _⟩
          · have v0 : A.tmps.getD 52 undef = _ := I.val 0 (by decide) (hdep 0 (by kernel_rfl))
            exact wpOp_valW rfl (rfl) (exec_ldR rfl v0 (cell_at HY.out.1 I.below 12 rfl)) ⟨_, rfl, rfl, Below.refl _ _⟩
          · exact wpOp_valW rfl (rfl) (exec_moveV rfl ((I.other 1 (by intro j hj; omega)).trans rfl)) ⟨_, rfl, rfl, Below.refl _ _⟩
          · have v2 : A.tmps.getD 54 undef = _ := I.val 2 (by decide) (hdep 2 (by kernel_rfl))
            exact wpOp_valW rfl (rfl) (exec_ixI0 rfl v2 n2) ⟨_, rfl, rfl, Below.refl _ _⟩
          · have v3 : A.tmps.getD 55 undef = _ := I.val 3 (by decide) (hdep 3 (by kernel_rfl))
            exact wpOp_valW rfl (rfl) (exec_ldI rfl v3 ((I.below.cell (p := ⟨pb, po, none⟩) (show pb < X1.heap.size by have := HP.out.2.2.2; omega)).trans HY.out.2.2.2.2.2.1)) ⟨_, rfl, rfl, Below.refl _ _⟩
          · exact wpOp_valW rfl (rfl) (exec_loadE rfl ((I.other 8 (by intro j hj; omega)).trans rfl) (thirteen_keep (thirteen_of HY.out.2.2.2.2.1) I.below)) ⟨_, rfl, rfl, Below.refl _ _⟩
          · have v1 : A.tmps.getD 53 undef = _ := I.val 1 (by decide) (hdep 1 (by kernel_rfl))
            have v4 : A.tmps.getD 56 undef = _ := I.val 4 (by decide) (hdep 4 (by kernel_rfl))
            exact wpOp_valW rfl (rfl) (exec_ixE rfl v1 v4 hq) ⟨_, rfl, rfl, Below.refl _ _⟩
        intro A w9 hdf hsz hoth hval hb9
        have v0 : A.tmps.getD 52 undef = _ := hval 0 (by decide)
        have v1 : A.tmps.getD 53 undef = _ := hval 1 (by decide)
        have v2 : A.tmps.getD 54 undef = _ := hval 2 (by decide)
        have v3 : A.tmps.getD 55 undef = _ := hval 3 (by decide)
        have v4 : A.tmps.getD 56 undef = _ := hval 4 (by decide)
        have v5 : A.tmps.getD 57 undef = _ := hval 5 (by decide)
        have v6 : A.tmps.getD 58 undef = _ := hval 6 (by decide)
        have hA := tower_pairs (a := A) [(52, .pointer (some ⟨W.heap.size, 12, none⟩)), (53, .slice (some ⟨g2, 0, none⟩) t.kids.length c2), (54, .slice (some ⟨pb, po, none⟩) (p.length + 1) (c1 + 1)), (55, .pointer (some ⟨pb, po, none⟩)), (56, .int .i64 (q : Nat)), (57, .agg #[.int .i64 u.k, .int .i64 u.d.k, .bool u.d.g, .slice u.d.la u.d.ln u.d.lc, .bool u.d.bb, .string u.d.s, .slice u.d.ia u.d.items.length u.d.ic, .slice u.d.ta u.d.tail.length u.d.tc, .int .i64 u.v, .slice u.va u.vs.length u.vc, .bool u.rs, .int .i64 u.p, .slice u.ka u.kids.length u.kc]), (58, .pointer (some ⟨g2, 0 + q * 13, none⟩))] ?_ ?_ hdf hsz (fun m hm => hoth m (fun j hj => by
          simp only [List.forall_mem_cons] at hm
          obtain ⟨k0, k1, k2, k3, k4, k5, k6, -⟩ := hm
          rcases (show j = 0 ∨ j = 1 ∨ j = 2 ∨ j = 3 ∨ j = 4 ∨ j = 5 ∨ j = 6 by omega) with rfl | rfl | rfl | rfl | rfl | rfl | rfl
          · exact k0
          · exact k1
          · exact k2
          · exact k3
          · exact k4
          · exact k5
          · exact k6))
        rotate_left
        · intro p hp
          simp only [List.mem_cons, List.not_mem_nil, or_false] at hp
          rcases hp with rfl | rfl | rfl | rfl | rfl | rfl | rfl <;> simp
        · intro p hp
          simp only [List.mem_cons, List.not_mem_nil, or_false] at hp
          rcases hp with rfl | rfl | rfl | rfl | rfl | rfl | rfl
          · exact v0
          · exact v1
          · exact v2
          · exact v3
          · exact v4
          · exact v5
          · exact v6
        clear v0 v1 v2 v3 v4 v5 v6 hval hoth hsz hdf
        subst hA
        simp only [List.foldl, Act.put, List.setIfInBounds_toArray, List.set_cons_zero, List.set_cons_succ]
        show wpOps _ _ _ [7] _ _
        have hgc : ∀ j, j < 13 → ∃ x, X1.cell? ⟨g2, 0 + q * 13 + j, none⟩ = some x := fun j hj => by
          have h1 : q * 13 + j < (cellsE t.kids).length := by rw [cellsE_length]; omega
          have h2 := HO.out.2.2.2.2.2.1 _ _ (List.getElem?_eq_getElem h1)
          have h3 := World.cell?_of_block (w := w1) (a := ⟨g2, 0 + q * 13 + j, none⟩) (HY.out.2.1 g2 (by omega))
          rw [Nat.zero_add] at h3 ⊢
          exact ⟨_, h3.trans h2⟩
        have hgf : ∀ j, X1.frozen? ⟨g2, 0 + q * 13 + j, none⟩ = false := fun j => by
          obtain ⟨cur, hc, -⟩ := HO.out.2.2.2.2.1
          exact Lib.frozen_of_heap ((HY.out.2.1 g2 (by omega)).trans hc) _
        have hgX : g2 < X1.heap.size := by omega
        refine wpOps_cons8 ?_
        refine wpOp_st8 rfl rfl rfl rfl rfl rfl (one13 rfl rfl rfl rfl rfl rfl rfl rfl rfl rfl rfl rfl rfl) (onec13 rfl rfl rfl rfl rfl rfl rfl rfl rfl rfl rfl rfl rfl) (fun j hj => (hgc j hj).imp fun x h => (hb9.cell (p := ⟨g2, 0 + q * 13 + j, none⟩) hgX).trans h) (fun j => (hb9.frozen (p := ⟨g2, 0 + q * 13 + j, none⟩) hgX).trans (hgf j)) ?_
        simp only [wpOps]
        obtain ⟨X2, hX2⟩ : ∃ X, setAll w9 g2 (0 + q * 13) [.int .i64 u.k, .int .i64 u.d.k, .bool u.d.g, .slice u.d.la u.d.ln u.d.lc, .bool u.d.bb, .string u.d.s, .slice u.d.ia u.d.items.length u.d.ic, .slice u.d.ta u.d.tail.length u.d.tc, .int .i64 u.v, .slice u.va u.vs.length u.vc, .bool u.rs, .int .i64 u.p, .slice u.ka u.kids.length u.kc] = X := ⟨_, rfl⟩
        rw [hX2]
        have z9 := hb9.size
        have zX2 : X2.heap.size = w9.heap.size := by rw [← hX2, setAll_size]
        have kX2 : ∀ k, k ≠ g2 → X2.heap[k]? = w9.heap[k]? := fun k hk => by rw [← hX2]; exact setAll_block g2 _ _ _ k hk
        have xW2 : ∀ k, k < W.heap.size → X2.heap[k]? = W.heap[k]? := fun k hk => (kX2 k (by omega)).trans ((hb9.block k (by omega)).trans (HY.out.2.2.2.1 k hk))
        have xO2 : X2.heap[W.heap.size]? = some (Obj.cells #[.int .i64 t.k, .int .i64 t.d.k, .bool t.d.g, .slice t.d.la t.d.ln t.d.lc, .bool t.d.bb, .string t.d.s, .slice t.d.ia t.d.items.length t.d.ic, .slice t.d.ta t.d.tail.length t.d.tc, .int .i64 t.v, .slice t.va t.vs.length t.vc, .bool t.rs, .int .i64 t.p, .slice (some ⟨g2, 0, none⟩) t.kids.length c2] 31) := (kX2 _ (by omega)).trans ((hb9.block _ (by omega)).trans HY.out.1)
        have x22 : X2.heap[w.heap.size + 2]? = some (Obj.cells #[.int .i64 0, .int .i64 0, .bool false, .slice none 0 0, .bool false, .string ⟨#[]⟩, .slice none 0 0, .slice none 0 0, .int .i64 0, .slice none 0 0, .bool false, .int .i64 0, .slice none 0 0] 31) := (xW2 _ (by omega)).trans HX.out.2.1
        have bX2 : Below w.heap.size w X2 := by
          rw [← hX2]
          exact (HY.out.2.2.2.2.2.2.trans (hb9.mono (by omega))).trans (setAll_below g2 _ _ _ _ (by omega))
        have cOth : ∀ i (h : i < t.kids.length), i ≠ q → ∀ j v, t.kids[i].cells[j]? = some v → X2.cell? ⟨g2, i * 13 + j, none⟩ = some v := fun i h hiq j v hj => by
          have hj13 : j < 13 := (List.getElem?_eq_some_iff.1 hj).1
          rw [← hX2, setAll_other g2 _ _ _ g2 _ (fun e => by have := e.2.1; have := e.2.2; simp only [List.length_cons, List.length_nil] at this; omega)]
          rw [hb9.cell (p := ⟨g2, i * 13 + j, none⟩) hgX, World.cell?_of_block (w := w1) (a := ⟨g2, i * 13 + j, none⟩) (HY.out.2.1 g2 (by omega))]
          exact HO.out.2.2.2.2.2.1 _ _ (by rw [cellsE_at _ i h j hj13]; exact hj)
        have cHere : ∀ j v, u.cells[j]? = some v → X2.cell? ⟨g2, q * 13 + j, none⟩ = some v := fun j v hj => by
          have h := setAll_here g2 [.int .i64 u.k, .int .i64 u.d.k, .bool u.d.g, .slice u.d.la u.d.ln u.d.lc, .bool u.d.bb, .string u.d.s, .slice u.d.ia u.d.items.length u.d.ic, .slice u.d.ta u.d.tail.length u.d.tc, .int .i64 u.v, .slice u.va u.vs.length u.vc, .bool u.rs, .int .i64 u.p, .slice u.ka u.kids.length u.kc] (0 + q * 13) w9 (fun j hj => (hgc j (by simpa using hj)).imp fun x h => (hb9.cell (p := ⟨g2, 0 + q * 13 + j, none⟩) hgX).trans h) j v hj
          rw [hX2, Nat.zero_add] at h
          exact h
        have HZ := Lib.hid (And.intro cOth (And.intro cHere (And.intro xW2 (And.intro zX2 bX2))))
        clear hgc hgf kX2 xW2 bX2 cOth cHere hb9 hX2
        have d0 : X2.cell? ⟨W.heap.size, 0, none⟩ = some (.int .i64 t.k) := by rw [Lib.cell_of_heap xO2]; rfl
        have d1 : X2.cell? ⟨W.heap.size, 1, none⟩ = some (.int .i64 t.d.k) := by rw [Lib.cell_of_heap xO2]; rfl
        have d2 : X2.cell? ⟨W.heap.size, 2, none⟩ = some (.bool t.d.g) := by rw [Lib.cell_of_heap xO2]; rfl
        have d3 : X2.cell? ⟨W.heap.size, 3, none⟩ = some (.slice t.d.la t.d.ln t.d.lc) := by rw [Lib.cell_of_heap xO2]; rfl
        have d4 : X2.cell? ⟨W.heap.size, 4, none⟩ = some (.bool t.d.bb) := by rw [Lib.cell_of_heap xO2]; rfl
        have d5 : X2.cell? ⟨W.heap.size, 5, none⟩ = some (.string t.d.s) := by rw [Lib.cell_of_heap xO2]; rfl
        have d6 : X2.cell? ⟨W.heap.size, 6, none⟩ = some (.slice t.d.ia t.d.items.length t.d.ic) := by rw [Lib.cell_of_heap xO2]; rfl
        have d7 : X2.cell? ⟨W.heap.size, 7, none⟩ = some (.slice t.d.ta t.d.tail.length t.d.tc) := by rw [Lib.cell_of_heap xO2]; rfl
        have d8 : X2.cell? ⟨W.heap.size, 8, none⟩ = some (.int .i64 t.v) := by rw [Lib.cell_of_heap xO2]; rfl
        have d9 : X2.cell? ⟨W.heap.size, 9, none⟩ = some (.slice t.va t.vs.length t.vc) := by rw [Lib.cell_of_heap xO2]; rfl
        have d10 : X2.cell? ⟨W.heap.size, 10, none⟩ = some (.bool t.rs) := by rw [Lib.cell_of_heap xO2]; rfl
        have d11 : X2.cell? ⟨W.heap.size, 11, none⟩ = some (.int .i64 t.p) := by rw [Lib.cell_of_heap xO2]; rfl
        have d12 : X2.cell? ⟨W.heap.size, 12, none⟩ = some (.slice (some ⟨g2, 0, none⟩) t.kids.length c2) := by rw [Lib.cell_of_heap xO2]; rfl
        have r0 : X2.cell? ⟨w.heap.size + 1 + 1, 0, none⟩ = some (.int .i64 0) := by rw [Lib.cell_of_heap x22]; rfl
        have f0 : X2.frozen? ⟨w.heap.size + 1 + 1, 0, none⟩ = false := Lib.frozen_of_heap x22 _
        have r1 : X2.cell? ⟨w.heap.size + 1 + 1, 1, none⟩ = some (.int .i64 0) := by rw [Lib.cell_of_heap x22]; rfl
        have f1 : X2.frozen? ⟨w.heap.size + 1 + 1, 1, none⟩ = false := Lib.frozen_of_heap x22 _
        have r2 : X2.cell? ⟨w.heap.size + 1 + 1, 2, none⟩ = some (.bool false) := by rw [Lib.cell_of_heap x22]; rfl
        have f2 : X2.frozen? ⟨w.heap.size + 1 + 1, 2, none⟩ = false := Lib.frozen_of_heap x22 _
        have r3 : X2.cell? ⟨w.heap.size + 1 + 1, 3, none⟩ = some (.slice none 0 0) := by rw [Lib.cell_of_heap x22]; rfl
        have f3 : X2.frozen? ⟨w.heap.size + 1 + 1, 3, none⟩ = false := Lib.frozen_of_heap x22 _
        have r4 : X2.cell? ⟨w.heap.size + 1 + 1, 4, none⟩ = some (.bool false) := by rw [Lib.cell_of_heap x22]; rfl
        have f4 : X2.frozen? ⟨w.heap.size + 1 + 1, 4, none⟩ = false := Lib.frozen_of_heap x22 _
        have r5 : X2.cell? ⟨w.heap.size + 1 + 1, 5, none⟩ = some (.string ⟨#[]⟩) := by rw [Lib.cell_of_heap x22]; rfl
        have f5 : X2.frozen? ⟨w.heap.size + 1 + 1, 5, none⟩ = false := Lib.frozen_of_heap x22 _
        have r6 : X2.cell? ⟨w.heap.size + 1 + 1, 6, none⟩ = some (.slice none 0 0) := by rw [Lib.cell_of_heap x22]; rfl
        have f6 : X2.frozen? ⟨w.heap.size + 1 + 1, 6, none⟩ = false := Lib.frozen_of_heap x22 _
        have r7 : X2.cell? ⟨w.heap.size + 1 + 1, 7, none⟩ = some (.slice none 0 0) := by rw [Lib.cell_of_heap x22]; rfl
        have f7 : X2.frozen? ⟨w.heap.size + 1 + 1, 7, none⟩ = false := Lib.frozen_of_heap x22 _
        have r8 : X2.cell? ⟨w.heap.size + 1 + 1, 8, none⟩ = some (.int .i64 0) := by rw [Lib.cell_of_heap x22]; rfl
        have f8 : X2.frozen? ⟨w.heap.size + 1 + 1, 8, none⟩ = false := Lib.frozen_of_heap x22 _
        have r9 : X2.cell? ⟨w.heap.size + 1 + 1, 9, none⟩ = some (.slice none 0 0) := by rw [Lib.cell_of_heap x22]; rfl
        have f9 : X2.frozen? ⟨w.heap.size + 1 + 1, 9, none⟩ = false := Lib.frozen_of_heap x22 _
        have r10 : X2.cell? ⟨w.heap.size + 1 + 1, 10, none⟩ = some (.bool false) := by rw [Lib.cell_of_heap x22]; rfl
        have f10 : X2.frozen? ⟨w.heap.size + 1 + 1, 10, none⟩ = false := Lib.frozen_of_heap x22 _
        have r11 : X2.cell? ⟨w.heap.size + 1 + 1, 11, none⟩ = some (.int .i64 0) := by rw [Lib.cell_of_heap x22]; rfl
        have f11 : X2.frozen? ⟨w.heap.size + 1 + 1, 11, none⟩ = false := Lib.frozen_of_heap x22 _
        have r12 : X2.cell? ⟨w.heap.size + 1 + 1, 12, none⟩ = some (.slice none 0 0) := by rw [Lib.cell_of_heap x22]; rfl
        have f12 : X2.frozen? ⟨w.heap.size + 1 + 1, 12, none⟩ = false := Lib.frozen_of_heap x22 _
        have hv3 : w.heap.size + 1 + 1 < X2.heap.size := by omega
        have hv4 : W.heap.size < X2.heap.size := by omega
        have hg3 : g2 < X2.heap.size := by omega
        have X22 := Lib.hid x22
        clear xO2 x22
        go_wp2_with fail
        (try simp only [Exit.inBlock, Exit.then])
        obtain ⟨w6, hw6⟩ : ∃ WX, (((((((((((((X2.setCell ⟨w.heap.size + 1 + 1, 0, none⟩ (.int .i64 t.k)).setCell ⟨w.heap.size + 1 + 1, 1, none⟩ (.int .i64 t.d.k)).setCell ⟨w.heap.size + 1 + 1, 2, none⟩ (.bool t.d.g)).setCell ⟨w.heap.size + 1 + 1, 3, none⟩ (.slice t.d.la t.d.ln t.d.lc)).setCell ⟨w.heap.size + 1 + 1, 4, none⟩ (.bool t.d.bb)).setCell ⟨w.heap.size + 1 + 1, 5, none⟩ (.string t.d.s)).setCell ⟨w.heap.size + 1 + 1, 6, none⟩ (.slice t.d.ia t.d.items.length t.d.ic)).setCell ⟨w.heap.size + 1 + 1, 7, none⟩ (.slice t.d.ta t.d.tail.length t.d.tc)).setCell ⟨w.heap.size + 1 + 1, 8, none⟩ (.int .i64 t.v)).setCell ⟨w.heap.size + 1 + 1, 9, none⟩ (.slice t.va t.vs.length t.vc)).setCell ⟨w.heap.size + 1 + 1, 10, none⟩ (.bool t.rs)).setCell ⟨w.heap.size + 1 + 1, 11, none⟩ (.int .i64 t.p)).setCell ⟨w.heap.size + 1 + 1, 12, none⟩ (.slice (some ⟨g2, 0, none⟩) t.kids.length c2)) = WX := ⟨_, rfl⟩
        obtain ⟨hb6, y6, k6⟩ : Below w.heap.size w w6 ∧ w6.heap[w.heap.size + 2]? = some (Obj.cells #[.int .i64 t.k, .int .i64 t.d.k, .bool t.d.g, .slice t.d.la t.d.ln t.d.lc, .bool t.d.bb, .string t.d.s, .slice t.d.ia t.d.items.length t.d.ic, .slice t.d.ta t.d.tail.length t.d.tc, .int .i64 t.v, .slice t.va t.vs.length t.vc, .bool t.rs, .int .i64 t.p, .slice (some ⟨g2, 0, none⟩) t.kids.length c2] 31) ∧ ∀ k, k ≠ w.heap.size + 2 → w6.heap[k]? = X2.heap[k]? := by
          refine ⟨?_, ?_, fun k hk => ?_⟩
          · rw [← hw6]; exact (((((((((((((HZ.out.2.2.2.2.setCell (p := ⟨w.heap.size + 1 + 1, 0, none⟩) (by show w.heap.size ≤ w.heap.size + 1 + 1; omega) _).setCell (p := ⟨w.heap.size + 1 + 1, 1, none⟩) (by show w.heap.size ≤ w.heap.size + 1 + 1; omega) _).setCell (p := ⟨w.heap.size + 1 + 1, 2, none⟩) (by show w.heap.size ≤ w.heap.size + 1 + 1; omega) _).setCell (p := ⟨w.heap.size + 1 + 1, 3, none⟩) (by show w.heap.size ≤ w.heap.size + 1 + 1; omega) _).setCell (p := ⟨w.heap.size + 1 + 1, 4, none⟩) (by show w.heap.size ≤ w.heap.size + 1 + 1; omega) _).setCell (p := ⟨w.heap.size + 1 + 1, 5, none⟩) (by show w.heap.size ≤ w.heap.size + 1 + 1; omega) _).setCell (p := ⟨w.heap.size + 1 + 1, 6, none⟩) (by show w.heap.size ≤ w.heap.size + 1 + 1; omega) _).setCell (p := ⟨w.heap.size + 1 + 1, 7, none⟩) (by show w.heap.size ≤ w.heap.size + 1 + 1; omega) _).setCell (p := ⟨w.heap.size + 1 + 1, 8, none⟩) (by show w.heap.size ≤ w.heap.size + 1 + 1; omega) _).setCell (p := ⟨w.heap.size + 1 + 1, 9, none⟩) (by show w.heap.size ≤ w.heap.size + 1 + 1; omega) _).setCell (p := ⟨w.heap.size + 1 + 1, 10, none⟩) (by show w.heap.size ≤ w.heap.size + 1 + 1; omega) _).setCell (p := ⟨w.heap.size + 1 + 1, 11, none⟩) (by show w.heap.size ≤ w.heap.size + 1 + 1; omega) _).setCell (p := ⟨w.heap.size + 1 + 1, 12, none⟩) (by show w.heap.size ≤ w.heap.size + 1 + 1; omega) _)
          · rw [← hw6]; simp [World.setCell, Array.getElem?_modify, X22.out]
          · rw [← hw6]; simp [World.setCell, Array.getElem?_modify, show ¬ w.heap.size + 1 + 1 = k by omega, show ¬ w.heap.size + 2 = k by omega]
        refine bodyPost_ret (v := .tuple #[(.agg #[.int .i64 t.k, .int .i64 t.d.k, .bool t.d.g, .slice t.d.la t.d.ln t.d.lc, .bool t.d.bb, .string t.d.s, .slice t.d.ia t.d.items.length t.d.ic, .slice t.d.ta t.d.tail.length t.d.tc, .int .i64 t.v, .slice t.va t.vs.length t.vc, .bool t.rs, .int .i64 t.p, .slice (some ⟨g2, 0, none⟩) t.kids.length c2]), .bool true]) (results_eb rfl rfl rfl (by rw [hw6, Lib.cell_of_heap y6]; rfl) (by rw [hw6, Lib.cell_of_heap y6]; rfl) (by rw [hw6, Lib.cell_of_heap y6]; rfl) (by rw [hw6, Lib.cell_of_heap y6]; rfl) (by rw [hw6, Lib.cell_of_heap y6]; rfl) (by rw [hw6, Lib.cell_of_heap y6]; rfl) (by rw [hw6, Lib.cell_of_heap y6]; rfl) (by rw [hw6, Lib.cell_of_heap y6]; rfl) (by rw [hw6, Lib.cell_of_heap y6]; rfl) (by rw [hw6, Lib.cell_of_heap y6]; rfl) (by rw [hw6, Lib.cell_of_heap y6]; rfl) (by rw [hw6, Lib.cell_of_heap y6]; rfl) (by rw [hw6, Lib.cell_of_heap y6]; rfl)) rfl ?_
        (try rw [hw6])
        rw [putZ8, HM.out]
        show RPutPost M _ true w _ _
        have hkk : ∀ k, MixP M V.heap.size W k → MixP M w.heap.size w6 k ∧ w6.heap[k]? = W.heap[k]? := fun k hk => by
          have hk2 := hk.2
          have hk1 : k ≠ w.heap.size + 2 := by rcases hk.1 with h | h <;> omega
          have hs6 : X2.heap.size ≤ w6.heap.size := by rw [← hw6]; simp [World.setCell]
          exact ⟨⟨hk.1.imp id (fun h => by omega), by omega⟩, (k6 k hk1).trans (HZ.out.2.2.1 k hk2)⟩
        have hs6 : w6.heap.size = X2.heap.size := by rw [← hw6]; simp [World.setCell]
        have hcg : ∀ off, w6.cell? ⟨g2, off, none⟩ = X2.cell? ⟨g2, off, none⟩ := fun off => World.cell?_of_block (w := X2) (a := ⟨g2, off, none⟩) (k6 g2 (by omega))
        have hTT := (tameE_eq t).1 hT
        refine ⟨(ET.mk t.k t.d t.v t.va t.vc t.vs t.rs t.p (some ⟨g2, 0, none⟩) c2 (t.kids.set q u)), by simp only [ET.k, ET.d, ET.v, ET.va, ET.vc, ET.vs, ET.rs, ET.p, ET.ka, ET.kc, ET.kids, List.length_set], ?_, ?_, ?_, hb6⟩
        · rw [shapeE_eq t]; simp only [shapeE, shapesE_set, HX.out.2.2.2.1, ES.k, ES.d, ES.v, ES.vs, ES.rs, ES.p, ES.kids, Option.map_some, Option.getD_some]
        · simp only [TameE]; exact ⟨hTT.1, hTT.2.1, tameER_set hTT.2.2 HX.out.2.2.2.2.1⟩
        · exact rput_tree hM hM hH hb6 (Nat.le_refl _) hq HO.out.1 HO.out.2.1 (by omega) (by omega) (fun i h hiq j v hj => (hcg _).trans (HZ.out.1 i h hiq j v hj)) (fun j v hj => (hcg _).trans (HZ.out.2.1 j v hj)) (HX.out.2.2.2.2.2.1.keep (by omega) hkk)
  · have HNO := Lib.hid (show putES (shapeE t) (z :: p) (shapeE x) = none from putES_no (by rw [kids_shape, shapesE_length]; exact hz1))
    by_cases hz2 : 0 ≤ z
    · have q1 : decide (z < 0) = false := decide_eq_false (by omega)
      have q2 : decide ((t.kids.length : Int) ≤ z) = true := decide_eq_true (by omega)
      clear hz1
      go_quiet (fail)
      have v0 : (W3.drewN nq).heap[w.heap.size]? = some (Obj.cells #[.int .i64 t.k, .int .i64 t.d.k, .bool t.d.g, .slice t.d.la t.d.ln t.d.lc, .bool t.d.bb, .string t.d.s, .slice t.d.ia t.d.items.length t.d.ic, .slice t.d.ta t.d.tail.length t.d.tc, .int .i64 t.v, .slice t.va t.vs.length t.vc, .bool t.rs, .int .i64 t.p, .slice t.ka t.kids.length t.kc] 31) := HA.out.1
      have v1 : (W3.drewN nq).heap[w.heap.size + 1]? = some (Obj.cells #[.int .i64 x.k, .int .i64 x.d.k, .bool x.d.g, .slice x.d.la x.d.ln x.d.lc, .bool x.d.bb, .string x.d.s, .slice x.d.ia x.d.items.length x.d.ic, .slice x.d.ta x.d.tail.length x.d.tc, .int .i64 x.v, .slice x.va x.vs.length x.vc, .bool x.rs, .int .i64 x.p, .slice x.ka x.kids.length x.kc] 31) := HA.out.2.1
      have v2 : (W3.drewN nq).heap[w.heap.size + 2]? = some (Obj.cells #[.int .i64 0, .int .i64 0, .bool false, .slice none 0 0, .bool false, .string ⟨#[]⟩, .slice none 0 0, .slice none 0 0, .int .i64 0, .slice none 0 0, .bool false, .int .i64 0, .slice none 0 0] 31) := HA.out.2.2.1
      have hbV : Below w.heap.size w (W3.drewN nq) := ⟨HA.out.2.2.2.1.os, HA.out.2.2.2.1.tape, HA.out.2.2.2.1.output, HA.out.2.2.2.1.size, HA.out.2.2.2.1.block⟩
      have hzV : (W3.drewN nq).heap.size = w.heap.size + 3 := hz
      generalize W3.drewN nq = V at *
      have HV := Lib.hid (And.intro v0 (And.intro v1 (And.intro v2 (And.intro hbV hzV))))
      have r0 : V.cell? ⟨w.heap.size + 1 + 1, 0, none⟩ = some (.int .i64 0) := by rw [Lib.cell_of_heap v2]; rfl
      have f0 : V.frozen? ⟨w.heap.size + 1 + 1, 0, none⟩ = false := Lib.frozen_of_heap v2 _
      have r1 : V.cell? ⟨w.heap.size + 1 + 1, 1, none⟩ = some (.int .i64 0) := by rw [Lib.cell_of_heap v2]; rfl
      have f1 : V.frozen? ⟨w.heap.size + 1 + 1, 1, none⟩ = false := Lib.frozen_of_heap v2 _
      have r2 : V.cell? ⟨w.heap.size + 1 + 1, 2, none⟩ = some (.bool false) := by rw [Lib.cell_of_heap v2]; rfl
      have f2 : V.frozen? ⟨w.heap.size + 1 + 1, 2, none⟩ = false := Lib.frozen_of_heap v2 _
      have r3 : V.cell? ⟨w.heap.size + 1 + 1, 3, none⟩ = some (.slice none 0 0) := by rw [Lib.cell_of_heap v2]; rfl
      have f3 : V.frozen? ⟨w.heap.size + 1 + 1, 3, none⟩ = false := Lib.frozen_of_heap v2 _
      have r4 : V.cell? ⟨w.heap.size + 1 + 1, 4, none⟩ = some (.bool false) := by rw [Lib.cell_of_heap v2]; rfl
      have f4 : V.frozen? ⟨w.heap.size + 1 + 1, 4, none⟩ = false := Lib.frozen_of_heap v2 _
      have r5 : V.cell? ⟨w.heap.size + 1 + 1, 5, none⟩ = some (.string ⟨#[]⟩) := by rw [Lib.cell_of_heap v2]; rfl
      have f5 : V.frozen? ⟨w.heap.size + 1 + 1, 5, none⟩ = false := Lib.frozen_of_heap v2 _
      have r6 : V.cell? ⟨w.heap.size + 1 + 1, 6, none⟩ = some (.slice none 0 0) := by rw [Lib.cell_of_heap v2]; rfl
      have f6 : V.frozen? ⟨w.heap.size + 1 + 1, 6, none⟩ = false := Lib.frozen_of_heap v2 _
      have r7 : V.cell? ⟨w.heap.size + 1 + 1, 7, none⟩ = some (.slice none 0 0) := by rw [Lib.cell_of_heap v2]; rfl
      have f7 : V.frozen? ⟨w.heap.size + 1 + 1, 7, none⟩ = false := Lib.frozen_of_heap v2 _
      have r8 : V.cell? ⟨w.heap.size + 1 + 1, 8, none⟩ = some (.int .i64 0) := by rw [Lib.cell_of_heap v2]; rfl
      have f8 : V.frozen? ⟨w.heap.size + 1 + 1, 8, none⟩ = false := Lib.frozen_of_heap v2 _
      have r9 : V.cell? ⟨w.heap.size + 1 + 1, 9, none⟩ = some (.slice none 0 0) := by rw [Lib.cell_of_heap v2]; rfl
      have f9 : V.frozen? ⟨w.heap.size + 1 + 1, 9, none⟩ = false := Lib.frozen_of_heap v2 _
      have r10 : V.cell? ⟨w.heap.size + 1 + 1, 10, none⟩ = some (.bool false) := by rw [Lib.cell_of_heap v2]; rfl
      have f10 : V.frozen? ⟨w.heap.size + 1 + 1, 10, none⟩ = false := Lib.frozen_of_heap v2 _
      have r11 : V.cell? ⟨w.heap.size + 1 + 1, 11, none⟩ = some (.int .i64 0) := by rw [Lib.cell_of_heap v2]; rfl
      have f11 : V.frozen? ⟨w.heap.size + 1 + 1, 11, none⟩ = false := Lib.frozen_of_heap v2 _
      have r12 : V.cell? ⟨w.heap.size + 1 + 1, 12, none⟩ = some (.slice none 0 0) := by rw [Lib.cell_of_heap v2]; rfl
      have f12 : V.frozen? ⟨w.heap.size + 1 + 1, 12, none⟩ = false := Lib.frozen_of_heap v2 _
      have hv2 : w.heap.size + 1 + 1 < V.heap.size := by omega
      clear v0 v1 v2 hbV d0 c12
      go_wp2_with fail
      (try simp only [Exit.inBlock, Exit.then])
      obtain ⟨w6, hw6⟩ : ∃ WX, (((((((((((((V.setCell ⟨w.heap.size + 1 + 1, 0, none⟩ (.int .i64 0)).setCell ⟨w.heap.size + 1 + 1, 1, none⟩ (.int .i64 0)).setCell ⟨w.heap.size + 1 + 1, 2, none⟩ (.bool false)).setCell ⟨w.heap.size + 1 + 1, 3, none⟩ (.slice none 0 0)).setCell ⟨w.heap.size + 1 + 1, 4, none⟩ (.bool false)).setCell ⟨w.heap.size + 1 + 1, 5, none⟩ (.string ⟨#[]⟩)).setCell ⟨w.heap.size + 1 + 1, 6, none⟩ (.slice none 0 0)).setCell ⟨w.heap.size + 1 + 1, 7, none⟩ (.slice none 0 0)).setCell ⟨w.heap.size + 1 + 1, 8, none⟩ (.int .i64 0)).setCell ⟨w.heap.size + 1 + 1, 9, none⟩ (.slice none 0 0)).setCell ⟨w.heap.size + 1 + 1, 10, none⟩ (.bool false)).setCell ⟨w.heap.size + 1 + 1, 11, none⟩ (.int .i64 0)).setCell ⟨w.heap.size + 1 + 1, 12, none⟩ (.slice none 0 0)) = WX := ⟨_, rfl⟩
      obtain ⟨hb6, y6, k6⟩ : Below w.heap.size w w6 ∧ w6.heap[w.heap.size + 2]? = some (Obj.cells #[.int .i64 0, .int .i64 0, .bool false, .slice none 0 0, .bool false, .string ⟨#[]⟩, .slice none 0 0, .slice none 0 0, .int .i64 0, .slice none 0 0, .bool false, .int .i64 0, .slice none 0 0] 31) ∧ ∀ k, k ≠ w.heap.size + 2 → w6.heap[k]? = V.heap[k]? := by
        refine ⟨?_, ?_, fun k hk => ?_⟩
        · rw [← hw6]; exact (((((((((((((HV.out.2.2.2.1.setCell (p := ⟨w.heap.size + 1 + 1, 0, none⟩) (by show w.heap.size ≤ w.heap.size + 1 + 1; omega) _).setCell (p := ⟨w.heap.size + 1 + 1, 1, none⟩) (by show w.heap.size ≤ w.heap.size + 1 + 1; omega) _).setCell (p := ⟨w.heap.size + 1 + 1, 2, none⟩) (by show w.heap.size ≤ w.heap.size + 1 + 1; omega) _).setCell (p := ⟨w.heap.size + 1 + 1, 3, none⟩) (by show w.heap.size ≤ w.heap.size + 1 + 1; omega) _).setCell (p := ⟨w.heap.size + 1 + 1, 4, none⟩) (by show w.heap.size ≤ w.heap.size + 1 + 1; omega) _).setCell (p := ⟨w.heap.size + 1 + 1, 5, none⟩) (by show w.heap.size ≤ w.heap.size + 1 + 1; omega) _).setCell (p := ⟨w.heap.size + 1 + 1, 6, none⟩) (by show w.heap.size ≤ w.heap.size + 1 + 1; omega) _).setCell (p := ⟨w.heap.size + 1 + 1, 7, none⟩) (by show w.heap.size ≤ w.heap.size + 1 + 1; omega) _).setCell (p := ⟨w.heap.size + 1 + 1, 8, none⟩) (by show w.heap.size ≤ w.heap.size + 1 + 1; omega) _).setCell (p := ⟨w.heap.size + 1 + 1, 9, none⟩) (by show w.heap.size ≤ w.heap.size + 1 + 1; omega) _).setCell (p := ⟨w.heap.size + 1 + 1, 10, none⟩) (by show w.heap.size ≤ w.heap.size + 1 + 1; omega) _).setCell (p := ⟨w.heap.size + 1 + 1, 11, none⟩) (by show w.heap.size ≤ w.heap.size + 1 + 1; omega) _).setCell (p := ⟨w.heap.size + 1 + 1, 12, none⟩) (by show w.heap.size ≤ w.heap.size + 1 + 1; omega) _)
        · rw [← hw6]; simp [World.setCell, Array.getElem?_modify, HV.out.2.2.1]
        · rw [← hw6]; simp [World.setCell, Array.getElem?_modify, show ¬ w.heap.size + 1 + 1 = k by omega, show ¬ w.heap.size + 2 = k by omega]
      refine bodyPost_ret (v := .tuple #[(.agg #[.int .i64 0, .int .i64 0, .bool false, .slice none 0 0, .bool false, .string ⟨#[]⟩, .slice none 0 0, .slice none 0 0, .int .i64 0, .slice none 0 0, .bool false, .int .i64 0, .slice none 0 0]), .bool false]) (results_eb rfl rfl rfl (by rw [hw6, Lib.cell_of_heap y6]; rfl) (by rw [hw6, Lib.cell_of_heap y6]; rfl) (by rw [hw6, Lib.cell_of_heap y6]; rfl) (by rw [hw6, Lib.cell_of_heap y6]; rfl) (by rw [hw6, Lib.cell_of_heap y6]; rfl) (by rw [hw6, Lib.cell_of_heap y6]; rfl) (by rw [hw6, Lib.cell_of_heap y6]; rfl) (by rw [hw6, Lib.cell_of_heap y6]; rfl) (by rw [hw6, Lib.cell_of_heap y6]; rfl) (by rw [hw6, Lib.cell_of_heap y6]; rfl) (by rw [hw6, Lib.cell_of_heap y6]; rfl) (by rw [hw6, Lib.cell_of_heap y6]; rfl) (by rw [hw6, Lib.cell_of_heap y6]; rfl)) rfl ?_
      (try rw [hw6])
      rw [show putES (shapeE t) (z :: p) (shapeE x) = none from HNO.out, show putZ8 (shapeE t) (z :: p) (shapeE x) = shapeE zE by rw [putZ8, HNO.out]; rfl]
      exact ⟨zE, rfl, rfl, zE_tame, (zE_held w6 0).heldP.keep (Nat.le_refl _) fun k hk => absurd hk (Nat.not_lt_zero k), hb6⟩
    · have q1 : decide (z < 0) = true := decide_eq_true (by omega)
      clear hz1
      go_quiet (fail)
      have v0 : (W3.drewN nq).heap[w.heap.size]? = some (Obj.cells #[.int .i64 t.k, .int .i64 t.d.k, .bool t.d.g, .slice t.d.la t.d.ln t.d.lc, .bool t.d.bb, .string t.d.s, .slice t.d.ia t.d.items.length t.d.ic, .slice t.d.ta t.d.tail.length t.d.tc, .int .i64 t.v, .slice t.va t.vs.length t.vc, .bool t.rs, .int .i64 t.p, .slice t.ka t.kids.length t.kc] 31) := HA.out.1
      have v1 : (W3.drewN nq).heap[w.heap.size + 1]? = some (Obj.cells #[.int .i64 x.k, .int .i64 x.d.k, .bool x.d.g, .slice x.d.la x.d.ln x.d.lc, .bool x.d.bb, .string x.d.s, .slice x.d.ia x.d.items.length x.d.ic, .slice x.d.ta x.d.tail.length x.d.tc, .int .i64 x.v, .slice x.va x.vs.length x.vc, .bool x.rs, .int .i64 x.p, .slice x.ka x.kids.length x.kc] 31) := HA.out.2.1
      have v2 : (W3.drewN nq).heap[w.heap.size + 2]? = some (Obj.cells #[.int .i64 0, .int .i64 0, .bool false, .slice none 0 0, .bool false, .string ⟨#[]⟩, .slice none 0 0, .slice none 0 0, .int .i64 0, .slice none 0 0, .bool false, .int .i64 0, .slice none 0 0] 31) := HA.out.2.2.1
      have hbV : Below w.heap.size w (W3.drewN nq) := ⟨HA.out.2.2.2.1.os, HA.out.2.2.2.1.tape, HA.out.2.2.2.1.output, HA.out.2.2.2.1.size, HA.out.2.2.2.1.block⟩
      have hzV : (W3.drewN nq).heap.size = w.heap.size + 3 := hz
      generalize W3.drewN nq = V at *
      have HV := Lib.hid (And.intro v0 (And.intro v1 (And.intro v2 (And.intro hbV hzV))))
      have r0 : V.cell? ⟨w.heap.size + 1 + 1, 0, none⟩ = some (.int .i64 0) := by rw [Lib.cell_of_heap v2]; rfl
      have f0 : V.frozen? ⟨w.heap.size + 1 + 1, 0, none⟩ = false := Lib.frozen_of_heap v2 _
      have r1 : V.cell? ⟨w.heap.size + 1 + 1, 1, none⟩ = some (.int .i64 0) := by rw [Lib.cell_of_heap v2]; rfl
      have f1 : V.frozen? ⟨w.heap.size + 1 + 1, 1, none⟩ = false := Lib.frozen_of_heap v2 _
      have r2 : V.cell? ⟨w.heap.size + 1 + 1, 2, none⟩ = some (.bool false) := by rw [Lib.cell_of_heap v2]; rfl
      have f2 : V.frozen? ⟨w.heap.size + 1 + 1, 2, none⟩ = false := Lib.frozen_of_heap v2 _
      have r3 : V.cell? ⟨w.heap.size + 1 + 1, 3, none⟩ = some (.slice none 0 0) := by rw [Lib.cell_of_heap v2]; rfl
      have f3 : V.frozen? ⟨w.heap.size + 1 + 1, 3, none⟩ = false := Lib.frozen_of_heap v2 _
      have r4 : V.cell? ⟨w.heap.size + 1 + 1, 4, none⟩ = some (.bool false) := by rw [Lib.cell_of_heap v2]; rfl
      have f4 : V.frozen? ⟨w.heap.size + 1 + 1, 4, none⟩ = false := Lib.frozen_of_heap v2 _
      have r5 : V.cell? ⟨w.heap.size + 1 + 1, 5, none⟩ = some (.string ⟨#[]⟩) := by rw [Lib.cell_of_heap v2]; rfl
      have f5 : V.frozen? ⟨w.heap.size + 1 + 1, 5, none⟩ = false := Lib.frozen_of_heap v2 _
      have r6 : V.cell? ⟨w.heap.size + 1 + 1, 6, none⟩ = some (.slice none 0 0) := by rw [Lib.cell_of_heap v2]; rfl
      have f6 : V.frozen? ⟨w.heap.size + 1 + 1, 6, none⟩ = false := Lib.frozen_of_heap v2 _
      have r7 : V.cell? ⟨w.heap.size + 1 + 1, 7, none⟩ = some (.slice none 0 0) := by rw [Lib.cell_of_heap v2]; rfl
      have f7 : V.frozen? ⟨w.heap.size + 1 + 1, 7, none⟩ = false := Lib.frozen_of_heap v2 _
      have r8 : V.cell? ⟨w.heap.size + 1 + 1, 8, none⟩ = some (.int .i64 0) := by rw [Lib.cell_of_heap v2]; rfl
      have f8 : V.frozen? ⟨w.heap.size + 1 + 1, 8, none⟩ = false := Lib.frozen_of_heap v2 _
      have r9 : V.cell? ⟨w.heap.size + 1 + 1, 9, none⟩ = some (.slice none 0 0) := by rw [Lib.cell_of_heap v2]; rfl
      have f9 : V.frozen? ⟨w.heap.size + 1 + 1, 9, none⟩ = false := Lib.frozen_of_heap v2 _
      have r10 : V.cell? ⟨w.heap.size + 1 + 1, 10, none⟩ = some (.bool false) := by rw [Lib.cell_of_heap v2]; rfl
      have f10 : V.frozen? ⟨w.heap.size + 1 + 1, 10, none⟩ = false := Lib.frozen_of_heap v2 _
      have r11 : V.cell? ⟨w.heap.size + 1 + 1, 11, none⟩ = some (.int .i64 0) := by rw [Lib.cell_of_heap v2]; rfl
      have f11 : V.frozen? ⟨w.heap.size + 1 + 1, 11, none⟩ = false := Lib.frozen_of_heap v2 _
      have r12 : V.cell? ⟨w.heap.size + 1 + 1, 12, none⟩ = some (.slice none 0 0) := by rw [Lib.cell_of_heap v2]; rfl
      have f12 : V.frozen? ⟨w.heap.size + 1 + 1, 12, none⟩ = false := Lib.frozen_of_heap v2 _
      have hv2 : w.heap.size + 1 + 1 < V.heap.size := by omega
      clear v0 v1 v2 hbV d0 c12
      go_wp2_with fail
      (try simp only [Exit.inBlock, Exit.then])
      obtain ⟨w6, hw6⟩ : ∃ WX, (((((((((((((V.setCell ⟨w.heap.size + 1 + 1, 0, none⟩ (.int .i64 0)).setCell ⟨w.heap.size + 1 + 1, 1, none⟩ (.int .i64 0)).setCell ⟨w.heap.size + 1 + 1, 2, none⟩ (.bool false)).setCell ⟨w.heap.size + 1 + 1, 3, none⟩ (.slice none 0 0)).setCell ⟨w.heap.size + 1 + 1, 4, none⟩ (.bool false)).setCell ⟨w.heap.size + 1 + 1, 5, none⟩ (.string ⟨#[]⟩)).setCell ⟨w.heap.size + 1 + 1, 6, none⟩ (.slice none 0 0)).setCell ⟨w.heap.size + 1 + 1, 7, none⟩ (.slice none 0 0)).setCell ⟨w.heap.size + 1 + 1, 8, none⟩ (.int .i64 0)).setCell ⟨w.heap.size + 1 + 1, 9, none⟩ (.slice none 0 0)).setCell ⟨w.heap.size + 1 + 1, 10, none⟩ (.bool false)).setCell ⟨w.heap.size + 1 + 1, 11, none⟩ (.int .i64 0)).setCell ⟨w.heap.size + 1 + 1, 12, none⟩ (.slice none 0 0)) = WX := ⟨_, rfl⟩
      obtain ⟨hb6, y6, k6⟩ : Below w.heap.size w w6 ∧ w6.heap[w.heap.size + 2]? = some (Obj.cells #[.int .i64 0, .int .i64 0, .bool false, .slice none 0 0, .bool false, .string ⟨#[]⟩, .slice none 0 0, .slice none 0 0, .int .i64 0, .slice none 0 0, .bool false, .int .i64 0, .slice none 0 0] 31) ∧ ∀ k, k ≠ w.heap.size + 2 → w6.heap[k]? = V.heap[k]? := by
        refine ⟨?_, ?_, fun k hk => ?_⟩
        · rw [← hw6]; exact (((((((((((((HV.out.2.2.2.1.setCell (p := ⟨w.heap.size + 1 + 1, 0, none⟩) (by show w.heap.size ≤ w.heap.size + 1 + 1; omega) _).setCell (p := ⟨w.heap.size + 1 + 1, 1, none⟩) (by show w.heap.size ≤ w.heap.size + 1 + 1; omega) _).setCell (p := ⟨w.heap.size + 1 + 1, 2, none⟩) (by show w.heap.size ≤ w.heap.size + 1 + 1; omega) _).setCell (p := ⟨w.heap.size + 1 + 1, 3, none⟩) (by show w.heap.size ≤ w.heap.size + 1 + 1; omega) _).setCell (p := ⟨w.heap.size + 1 + 1, 4, none⟩) (by show w.heap.size ≤ w.heap.size + 1 + 1; omega) _).setCell (p := ⟨w.heap.size + 1 + 1, 5, none⟩) (by show w.heap.size ≤ w.heap.size + 1 + 1; omega) _).setCell (p := ⟨w.heap.size + 1 + 1, 6, none⟩) (by show w.heap.size ≤ w.heap.size + 1 + 1; omega) _).setCell (p := ⟨w.heap.size + 1 + 1, 7, none⟩) (by show w.heap.size ≤ w.heap.size + 1 + 1; omega) _).setCell (p := ⟨w.heap.size + 1 + 1, 8, none⟩) (by show w.heap.size ≤ w.heap.size + 1 + 1; omega) _).setCell (p := ⟨w.heap.size + 1 + 1, 9, none⟩) (by show w.heap.size ≤ w.heap.size + 1 + 1; omega) _).setCell (p := ⟨w.heap.size + 1 + 1, 10, none⟩) (by show w.heap.size ≤ w.heap.size + 1 + 1; omega) _).setCell (p := ⟨w.heap.size + 1 + 1, 11, none⟩) (by show w.heap.size ≤ w.heap.size + 1 + 1; omega) _).setCell (p := ⟨w.heap.size + 1 + 1, 12, none⟩) (by show w.heap.size ≤ w.heap.size + 1 + 1; omega) _)
        · rw [← hw6]; simp [World.setCell, Array.getElem?_modify, HV.out.2.2.1]
        · rw [← hw6]; simp [World.setCell, Array.getElem?_modify, show ¬ w.heap.size + 1 + 1 = k by omega, show ¬ w.heap.size + 2 = k by omega]
      refine bodyPost_ret (v := .tuple #[(.agg #[.int .i64 0, .int .i64 0, .bool false, .slice none 0 0, .bool false, .string ⟨#[]⟩, .slice none 0 0, .slice none 0 0, .int .i64 0, .slice none 0 0, .bool false, .int .i64 0, .slice none 0 0]), .bool false]) (results_eb rfl rfl rfl (by rw [hw6, Lib.cell_of_heap y6]; rfl) (by rw [hw6, Lib.cell_of_heap y6]; rfl) (by rw [hw6, Lib.cell_of_heap y6]; rfl) (by rw [hw6, Lib.cell_of_heap y6]; rfl) (by rw [hw6, Lib.cell_of_heap y6]; rfl) (by rw [hw6, Lib.cell_of_heap y6]; rfl) (by rw [hw6, Lib.cell_of_heap y6]; rfl) (by rw [hw6, Lib.cell_of_heap y6]; rfl) (by rw [hw6, Lib.cell_of_heap y6]; rfl) (by rw [hw6, Lib.cell_of_heap y6]; rfl) (by rw [hw6, Lib.cell_of_heap y6]; rfl) (by rw [hw6, Lib.cell_of_heap y6]; rfl) (by rw [hw6, Lib.cell_of_heap y6]; rfl)) rfl ?_
      (try rw [hw6])
      rw [show putES (shapeE t) (z :: p) (shapeE x) = none from HNO.out, show putZ8 (shapeE t) (z :: p) (shapeE x) = shapeE zE by rw [putZ8, HNO.out]; rfl]
      exact ⟨zE, rfl, rfl, zE_tame, (zE_held w6 0).heldP.keep (Nat.le_refl _) fun k hk => absurd hk (Nat.not_lt_zero k), hb6⟩
set_option maxRecDepth 100000 in
set_option maxHeartbeats 12800000 in
theorem rput_all : ∀ n : Nat, RPutTo n := by
  intro n
  induction n with
  | zero =>
    intro M t x pa pc path w hn hT hX hts hM hH hHX hP
    obtain rfl : path = [] := List.length_eq_zero_iff.1 (by omega)
    exact rput_nil M t x pa pc w hX hM hHX
  | succ n ih =>
    intro M t x pa pc path w hn hT hX hts hM hH hHX hP
    cases path with
    | nil => exact rput_nil M t x pa pc w hX hM hHX
    | cons z p => exact rput_cons n ih M t x pa pc z p w (by simpa using hn) hT hX hts hM hH hHX hP
end Go.Proofs.YthdhdmmlmbkalaaGreatDoor
