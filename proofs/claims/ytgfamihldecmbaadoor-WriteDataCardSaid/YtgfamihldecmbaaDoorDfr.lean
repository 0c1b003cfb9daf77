/-
  A datum that came in as an argument, opened.
-/
import Derived.Test.YtgfamihldecmbaaDoorFrameS
import Derived.Test.YtgfamihldecmbaaDoorSmF
import Derived.Lib.SmallJoins
namespace Go.Proofs.YtgfamihldecmbaaDoor
open Go.Joins Go.ChangeShapes Go.WideShapes Go.ChangeAt Go.RowKit Go.Deep

set_option maxRecDepth 100000 in
theorem open_datum {H : Type} {enc : TypeId × Value → H} {W : World} {b0 : Nat} {v : Value} {d : DataW H} {p : List MemPlace}
    (hv : Value.okWide Tryd.prog W .any b0 27 v) (h : DataW.Trod enc Tryd.prog W 0 (fun _ => true) true 27 v d p) : ∃ t : LT, v = .agg #[.int .i64 t.k, .bool t.g, .slice t.la t.ln t.lc, .bool t.bb, .string t.s, .slice t.ia t.items.length t.ic, .slice t.ta t.tail.length t.tc] ∧ Held W W.heap.size t := by
  obtain ⟨cs, rfl, hsz⟩ := okWide_struct Tryd.underlying27 hv
  obtain ⟨fuel, hf⟩ := h
  obtain ⟨t, hc, hh⟩ := held_of_trod fuel _ _ hf
  refine ⟨t, ?_, hh⟩
  have e : cs.toList = t.cells := by simpa [Value.cells] using hc
  have e2 : cs = t.cells.toArray := by rw [← e]
  rw [e2]
  rfl
end Go.Proofs.YtgfamihldecmbaaDoor
