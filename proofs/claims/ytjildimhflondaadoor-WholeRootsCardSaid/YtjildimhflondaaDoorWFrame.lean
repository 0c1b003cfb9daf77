/-
  What the frames of the cards over whole numbers share: a whole number that came in.
-/
import Derived.Test.YtjildimhflondaaDoorFrame
import Derived.Lib.SmallJoins
namespace Go.Proofs.YtjildimhflondaaDoor
open Go.Joins Go.ChangeShapes Go.WideShapes Go.ChangeAt Go.RowKit Go.Deep
set_option maxRecDepth 100000 in
theorem open_whole {H : Type} {enc : TypeId × Value → H} {W : World} {b0 : Nat} {v : Value} {d : DataW H} {p : List MemPlace}
    (hv : Value.okWide Tryd.prog W .any b0 36 v) (h : DataW.Trod enc Tryd.prog W 0 (fun _ => true) true 36 v d p) :
    ∃ s a len cap xs, v = .agg #[.bool s, .slice a len cap] ∧ Sl W a len cap xs := by
  obtain ⟨v0, v1, y0, y1, n, rfl, rfl, rfl, h0, h1⟩ := open_agg2 Tryd.underlying36 (by kernel_rfl) (by kernel_rfl) hv h
  have hb : ∃ s, v0 = .bool s := by
    obtain ⟨s, hs, _⟩ := DataW.trod_bool Tryd.underlying4 h0
    exact ⟨s, by simpa using hs⟩
  obtain ⟨s, rfl⟩ := hb
  rcases open_ints Tryd.underlying22 Tryd.underlying32 (by kernel_rfl) h1 with ⟨hcs, _⟩ | ⟨x, l, c, zs, hcs, _, hl, hm, hz, _, hcell, hwz⟩
  · have e : v1 = .slice none 0 0 := by simpa using hcs
    exact ⟨s, none, 0, 0, [], by rw [e], Sl.nil⟩
  · have e : v1 = .slice (some x) l c := by simpa using hcs
    have hr : IsRow .u32 W (some x) l c zs := .inr ⟨x, rfl, hl, hm, by simpa using hz, hcell, hwz⟩
    obtain ⟨xs, hs⟩ := hr.sl
    exact ⟨s, some x, l, c, xs, by rw [e], hs⟩
end Go.Proofs.YtjildimhflondaaDoor
