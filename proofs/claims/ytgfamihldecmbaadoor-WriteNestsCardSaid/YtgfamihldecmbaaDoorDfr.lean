/-
  A datum that came in as an argument, opened.
-/
import Derived.Test.YtgfamihldecmbaaDoorFrameS
import Derived.Test.YtgfamihldecmbaaDoorSmF
import Derived.Lib.SmallJoins
namespace Go.Proofs.YtgfamihldecmbaaDoor
open Go.Joins Go.ChangeShapes Go.WideShapes Go.ChangeAt Go.RowKit Go.Deep

set_option maxRecDepth 100000 in
theorem open_datum {H : Type} {enc : TypeId × Value → H} {W : World} {b0 : Nat} {v : Value} {d : DataW H} {p : List MemPlace}
    (hv : Value.okWide Tryd.prog W .any b0 27 v) (h : DataW.Trod enc Tryd.prog W 0 (fun _ => true) true 27 v d p) : ∃ t : LT, v = .agg #[.int .i64 t.k, .bool t.g, .slice t.la t.ln t.lc, .bool t.bb, .string t.s, .slice t.ia t.items.length t.ic, .slice t.ta t.tail.length t.tc] ∧ Held W W.heap.size t := by
  obtain ⟨cs, rfl, hsz⟩ := okWide_struct Tryd.underlying27 hv
  obtain ⟨fuel, hf⟩ := h
  obtain ⟨t, hc, hh⟩ := held_of_trod fuel _ _ hf
  refine ⟨t, ?_, hh⟩
  have e : cs.toList = t.cells := by simpa [Value.cells] using hc
  have e2 : cs = t.cells.toArray := by rw [← e]
  rw [e2]
  rfl
set_option maxRecDepth 100000 in
theorem open_data {H : Type} {enc : TypeId × Value → H} {W : World} {b0 : Nat} {v : Value} {d : DataW H} {p : List MemPlace}
    (hv : Value.okWide Tryd.prog W .any b0 25 v) (h : DataW.Trod enc Tryd.prog W 0 (fun _ => true) true 25 v d p) : ∃ (a : Option Addr) (l : List LT) (c : Nat), v = .slice a l.length c ∧ Spot W.heap.size a l.length c ∧ LiesR W W.heap.size l (blk a) (ofs a) := by
  obtain ⟨a, len, cap, rfl⟩ := okWide_slice Tryd.underlying25 hv
  obtain ⟨fuel, hf⟩ := h
  obtain ⟨a', l, c', hc, hs, hl⟩ := row_of_trod (fun m _ cs x h => held_of_trod m cs x h) datumCells hf
  have e : Value.slice a len cap = .slice a' l.length c' := by simpa [Value.cells] using hc
  injection e with e1 e2 e3
  subst e1 e2 e3
  exact ⟨a, l, cap, rfl, hs, hl⟩
end Go.Proofs.YtgfamihldecmbaaDoor
