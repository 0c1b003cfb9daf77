/-
  Operations of a drawn region: an alloc, a load, a build, a store, a call.
-/
import Derived.Test.YtekdfdobnpegdaaGreatDoorPl1
import Derived.Test.YtekdfdobnpegdaaGreatDoorQPhl
set_option linter.unusedVariables false
set_option linter.unusedSimpArgs false
set_option linter.unusedSectionVars false
set_option linter.unnecessarySimpa false
namespace Go.Proofs.YtekdfdobnpegdaaGreatDoor
open Go.RowKit
theorem set7_below {w a : World} {B L : Nat} {v0 v1 v2 v3 v4 v5 v6 : Value} (h : Below L a w) (hB : L ≤ B) :
    Below L a (((((((w.setCell ⟨B, 0, none⟩ v0).setCell ⟨B, 1, none⟩ v1).setCell ⟨B, 2, none⟩ v2).setCell ⟨B, 3, none⟩ v3).setCell ⟨B, 4, none⟩ v4).setCell ⟨B, 5, none⟩ v5).setCell ⟨B, 6, none⟩ v6) :=
  ((((((h.setCell (p := ⟨B, 0, none⟩) hB v0).setCell (p := ⟨B, 1, none⟩) hB v1).setCell (p := ⟨B, 2, none⟩) hB v2).setCell (p := ⟨B, 3, none⟩) hB v3).setCell (p := ⟨B, 4, none⟩) hB v4).setCell (p := ⟨B, 5, none⟩) hB v5).setCell (p := ⟨B, 6, none⟩) hB v6
theorem exec_allocD {a : Act} {w : World} {o : Oper} (ho : o.op = .alloc 29) :
    (execOp a.eval o).run Tryz.prog w = .ok (.value (.pointer (some ⟨w.heap.size, 0, none⟩))) (w.alloc (Obj.cells #[.int .i64 0, .bool false, .slice none 0 0, .bool false, .string ⟨#[]⟩, .slice none 0 0, .slice none 0 0] 29)) := by
  simp [execOp, ho, go_sem]
theorem exec_storeD {a : Act} {w : World} {o : Oper} {p q b : Nat} {u x : LT} (ho : o.op = .store 29 (.tmp p) (.tmp q)) (ht : a.tmps.getD p undef = .pointer (some ⟨b, 0, none⟩)) (hq : a.tmps.getD q undef = .agg #[.int .i64 u.k, .bool u.g, .slice u.la u.ln u.lc, .bool u.bb, .string u.s, .slice u.ia u.items.length u.ic, .slice u.ta u.tail.length u.tc]) (hb : w.heap[b]? = some (Obj.cells #[.int .i64 x.k, .bool x.g, .slice x.la x.ln x.lc, .bool x.bb, .string x.s, .slice x.ia x.items.length x.ic, .slice x.ta x.tail.length x.tc] 29)) :
    ∃ w', (execOp a.eval o).run Tryz.prog w = .ok .skip w' ∧ w'.heap[b]? = some (Obj.cells #[.int .i64 u.k, .bool u.g, .slice u.la u.ln u.lc, .bool u.bb, .string u.s, .slice u.ia u.items.length u.ic, .slice u.ta u.tail.length u.tc] 29) ∧ (∀ k, k ≠ b → w'.heap[k]? = w.heap[k]?) ∧ w'.heap.size = w.heap.size ∧ ∀ B, B ≤ b → Below B w w' := by
  have hds := fun j => Lib.cell_of_heap hb j
  have c0 := hds 0; have c1 := hds 1; have c2 := hds 2; have c3 := hds 3; have c4 := hds 4; have c5 := hds 5; have c6 := hds 6
  have hfs := fun j => Lib.frozen_of_heap hb j
  have f0 := hfs 0; have f1 := hfs 1; have f2 := hfs 2; have f3 := hfs 3; have f4 := hfs 4; have f5 := hfs 5; have f6 := hfs 6
  simp only [List.getElem?_toArray, List.getElem?_cons_zero, List.getElem?_cons_succ] at c0 c1 c2 c3 c4 c5 c6
  rw [Array.getD_eq_getD_getElem?] at ht hq
  refine ⟨_, by simp [execOp, ho, Act.eval, ht, hq, go_sem, c0, c1, c2, c3, c4, c5, c6, f0, f1, f2, f3, f4, f5, f6]; rfl, ?_, ?_, ?_, ?_⟩
  · simp [World.setCell, Array.getElem?_modify, hb]
  · intro k hk
    simp [World.setCell, Array.getElem?_modify, Ne.symm hk]
  · simp [World.setCell]
  · intro B hB
    exact set7_below (Below.refl _ _) hB
theorem exec_loadI {a : Act} {w : World} {o : Oper} {p b n c : Nat} {A : Option Addr} {s : Bool} (ho : o.op = .load 27 (.tmp p)) (ht : a.tmps.getD p undef = .pointer (some ⟨b, 0, none⟩)) (h0 : w.cell? ⟨b, 0, none⟩ = some (.bool s)) (h1 : w.cell? ⟨b, 1, none⟩ = some (.slice A n c)) :
    (execOp a.eval o).run Tryz.prog w = .ok (.value (.agg #[.bool s, .slice A n c])) w := by
  rw [Array.getD_eq_getD_getElem?] at ht
  simp [execOp, ho, Act.eval, ht, go_sem, h0, h1]
theorem exec_buildN {a : Act} {w : World} {o : Oper} {p n c : Nat} {A : Option Addr} {s : Bool} (ho : o.op = .build 29 #[(0, .const (.int .i64 1)), (1, .tmp p)]) (hp : a.tmps.getD p undef = .agg #[.bool s, .slice A n c]) :
    (execOp a.eval o).run Tryz.prog w = .ok (.value (.agg #[.int .i64 1, .bool s, .slice A n c, .bool false, .string ⟨#[]⟩, .slice none 0 0, .slice none 0 0])) w := by
  rw [Array.getD_eq_getD_getElem?] at hp
  simp [execOp, ho, Act.eval, hp, go_sem]
theorem Sl.off {w w' : World} {A : Option Addr} {n c D : Nat} {xs : List Nat} (h : Sl w A n c xs) (hz : w.heap[D]? = some (Obj.cells #[.int .i64 0, .bool false, .slice none 0 0, .bool false, .string ⟨#[]⟩, .slice none 0 0, .slice none 0 0] 29)) (ho : ∀ k, k ≠ D → w'.heap[k]? = w.heap[k]?) (hs : w'.heap.size = w.heap.size) : Sl w' A n c xs := by
  refine ⟨h.len, h.le, h.max, h.ok, fun hp => ?_, h.nil_⟩
  obtain ⟨b, off, rfl, hb, hc⟩ := h.here hp
  have hne : b ≠ D := fun e => z_no32 (D := b) (by rw [e]; exact hz) _ _ (hc 0 hp)
  exact ⟨b, off, rfl, by rw [hs]; exact hb, fun i hi => (World.cell?_of_block (ho b hne)).trans (hc i hi)⟩
section
variable {P : Program} {ops : Array Oper} {Q : Exit → Act → World → Prop} {i : Nat} {o : Oper} {a : Act} {w w' : World} {K : Act → World → Prop}
theorem wpOp_val {v : Value} (ho : ops[i]? = some o) (hg : o.guard = none) (hr : (execOp a.eval o).run P w = .ok (.value v) w') (h : K (a.put o.dst v) w') : wpOp P ops Q i K a w := by
  refine wpOp_plain ho hg ?_
  unfold Oper.wp
  rw [hr, Oper.upon_value]
  exact h
theorem wpOp_storeD {p q b : Nat} {u x : LT} (ho : ops[i]? = some o) (hg : o.guard = none) (hd : o.dst = none) (hop : o.op = .store 29 (.tmp p) (.tmp q)) (ht : a.tmps.getD p undef = .pointer (some ⟨b, 0, none⟩)) (hq : a.tmps.getD q undef = .agg #[.int .i64 u.k, .bool u.g, .slice u.la u.ln u.lc, .bool u.bb, .string u.s, .slice u.ia u.items.length u.ic, .slice u.ta u.tail.length u.tc]) (hb : w.heap[b]? = some (Obj.cells #[.int .i64 x.k, .bool x.g, .slice x.la x.ln x.lc, .bool x.bb, .string x.s, .slice x.ia x.items.length x.ic, .slice x.ta x.tail.length x.tc] 29))
    (h : ∀ w', w'.heap[b]? = some (Obj.cells #[.int .i64 u.k, .bool u.g, .slice u.la u.ln u.lc, .bool u.bb, .string u.s, .slice u.ia u.items.length u.ic, .slice u.ta u.tail.length u.tc] 29) → (∀ k, k ≠ b → w'.heap[k]? = w.heap[k]?) → w'.heap.size = w.heap.size → (∀ B, B ≤ b → Below B w w') → K a w') : wpOp Tryz.prog ops Q i K a w := by
  refine wpOp_plain ho hg ?_
  unfold Oper.wp
  obtain ⟨w', he, h1, h2, h3, h4⟩ := exec_storeD hop ht hq hb
  rw [he, Oper.upon_skip, hd]
  exact h w' h1 h2 h3 h4
theorem wpOp_call {f : Nat} {args : Array Value} {R : Ending → World → Prop} (ho : ops[i]? = some o) (hg : o.guard = none) (hr : (execOp a.eval o).run P w = (callFunc f args).run P w) (he : (callFunc f args).run P w = .ok (.enter f args) w) (hc : Calls P f args w R) (h : ∀ e w', R e w' → ∃ v, e = .returned v ∧ K (a.put o.dst v) w') : wpOp P ops Q i K a w := by
  refine wpOp_plain ho hg ?_
  unfold Oper.wp
  rw [hr, he, Oper.upon_enter]
  refine hc.mono ?_
  intro e w' hR
  obtain ⟨v, rfl, hK⟩ := h e w' hR
  exact hK
end
end Go.Proofs.YtekdfdobnpegdaaGreatDoor
