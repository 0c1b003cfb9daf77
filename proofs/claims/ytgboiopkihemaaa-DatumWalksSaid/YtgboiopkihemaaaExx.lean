/-
  Operations of a region, one by one.
-/
import Derived.Test.YtgboiopkihemaaaSpl
import Derived.Test.YtgboiopkihemaaaPha
namespace Go.Proofs.Ytgboiopkihemaaa
open Go.RowKit

section
variable {P : Program} {ops : Array Oper} {Q : Exit → Act → World → Prop} {i : Nat} {o : Oper} {a : Act} {w w' : World} {K : Act → World → Prop}
theorem wpOp_valW {v : Value} (ho : ops[i]? = some o) (hw : Region.wanted o (yielded ops a.tmps) = true) (hr : (execOp a.eval o).run P w = .ok (.value v) w') (h : K (a.put o.dst v) w') : wpOp P ops Q i K a w := by
  refine wpOp_want ho hw ?_
  unfold Oper.wp
  rw [hr, Oper.upon_value]
  exact h
theorem wpOp_callW {f : Nat} {args : Array Value} {R : Ending → World → Prop} (ho : ops[i]? = some o) (hw : Region.wanted o (yielded ops a.tmps) = true) (hr : (execOp a.eval o).run P w = (callFunc f args).run P w) (he : (callFunc f args).run P w = .ok (.enter f args) w) (hc : Calls P f args w R) (h : ∀ e w', R e w' → ∃ v, e = .returned v ∧ K (a.put o.dst v) w') : wpOp P ops Q i K a w := by
  refine wpOp_want ho hw ?_
  unfold Oper.wp
  rw [hr, he, Oper.upon_enter]
  refine hc.mono ?_
  intro e w' hR
  obtain ⟨v, rfl, hK⟩ := h e w' hR
  exact hK
end
theorem exec_not {P : Program} {a : Act} {w : World} {o : Oper} {p : Nat} {T : TypeId} {b : Bool} (ho : o.op = .unOp .not T (.tmp p)) (hp : a.tmps.getD p undef = .bool b) : (execOp a.eval o).run P w = .ok (.value (.bool (!b))) w := by
  rw [Array.getD_eq_getD_getElem?] at hp
  simp [execOp, ho, Act.eval, hp, go_sem]
theorem exec_moveV {P : Program} {a : Act} {w : World} {o : Oper} {p : Nat} {v : Value} (ho : o.op = .move (.tmp p)) (hp : a.tmps.getD p undef = v) : (execOp a.eval o).run P w = .ok (.value v) w := by
  rw [exec_move ho, hp]
/-- ..|| y, where what stands ahead is false. -/
theorem exec_pickF {P : Program} {a : Act} {w : World} {o : Oper} {p q : Nat} {c v : Value} (ho : o.op = .pick (.tmp p) (.const c) (.tmp q)) (hp : a.tmps.getD p undef = .bool false) (hq : a.tmps.getD q undef = v) : (execOp a.eval o).run P w = .ok (.value v) w := by
  rw [Array.getD_eq_getD_getElem?] at hp hq
  simp [execOp, ho, Act.eval, hp, hq, go_sem]
/-- ..&& y, where what stands ahead is true. -/
theorem exec_pickT {P : Program} {a : Act} {w : World} {o : Oper} {p q : Nat} {c v : Value} (ho : o.op = .pick (.tmp p) (.tmp q) (.const c)) (hp : a.tmps.getD p undef = .bool true) (hq : a.tmps.getD q undef = v) : (execOp a.eval o).run P w = .ok (.value v) w := by
  rw [Array.getD_eq_getD_getElem?] at hp hq
  simp [execOp, ho, Act.eval, hp, hq, go_sem]
theorem exec_gtr {a : Act} {w : World} {o : Oper} {p q : Nat} {x y : Int} (ho : o.op = .binOp .gtr 3 (.tmp p) (.tmp q) 3) (hp : a.tmps.getD p undef = .int .i64 x) (hq : a.tmps.getD q undef = .int .i64 y) (h : y < x) : (execOp a.eval o).run Try.prog w = .ok (.value (.bool true)) w := by
  rw [Array.getD_eq_getD_getElem?] at hp hq
  simp [execOp, ho, Act.eval, hp, hq, go_sem, h]
theorem exec_assignV {P : Program} {a : Act} {w : World} {o : Oper} {p : Nat} {v : Value} (ho : o.op = .assign (.tmp p)) (hp : a.tmps.getD p undef = v) : (execOp a.eval o).run P w = .ok (.value v) w := by
  rw [Array.getD_eq_getD_getElem?] at hp
  simp [execOp, ho, Act.eval, hp, go_sem]
end Go.Proofs.Ytgboiopkihemaaa
