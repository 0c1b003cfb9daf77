/-
  A whole number that came in: its limbs lie within the form's own reach.
-/
import Derived.Test.YtekdfdobnpegdaaGreatDoorPl3
import Derived.SizedLaws
set_option linter.unusedVariables false
set_option linter.unusedSimpArgs false
set_option linter.unusedSectionVars false
set_option linter.unnecessarySimpa false
namespace Go.Proofs.YtekdfdobnpegdaaGreatDoor
open Go.Joins Go.ChangeShapes Go.WideShapes Go.ChangeAt Go.RowKit Go.Deep
set_option maxRecDepth 100000 in
theorem open_whole_sized {H : Type} {enc : TypeId × Value → H} {W : World} {b0 : Nat} {v : Value} {d : DataW H} {p : List MemPlace}
    (hv : Value.okWide Tryz.prog W .any b0 27 v) (h : DataW.Trod enc Tryz.prog W 0 (fun _ => true) true 27 v d p) (hZ : ∀ n ∈ d.weights Tryz.prog 27, n ≤ reachBytes) :
    ∃ s a len cap xs, v = .agg #[.bool s, .slice a len cap] ∧ Sl W a len cap xs ∧ len ≤ 35184372087808 := by
  obtain ⟨v0, v1, y0, y1, n, rfl, rfl, rfl, h0, h1⟩ := open_agg2 Tryz.underlying27 (by kernel_rfl) (by kernel_rfl) hv h
  have hb : ∃ s, v0 = .bool s := by
    obtain ⟨s, hs, _⟩ := DataW.trod_bool Tryz.underlying4 h0
    exact ⟨s, by simpa using hs⟩
  obtain ⟨s, rfl⟩ := hb
  rcases open_ints Tryz.underlying25 Tryz.underlying80 (by kernel_rfl) h1 with ⟨hcs, _⟩ | ⟨x, l, c, zs, hcs, _, hl, hm, hz, hx, hcell, hwz⟩
  · have e : v1 = .slice none 0 0 := by simpa using hcs
    exact ⟨s, none, 0, 0, [], by rw [e], Sl.nil, Nat.zero_le _⟩
  · have e : v1 = .slice (some x) l c := by simpa using hcs
    have hr : IsRow .u32 W (some x) l c zs := .inr ⟨x, rfl, hl, hm, by simpa using hz, hcell, hwz⟩
    obtain ⟨xs, hs⟩ := hr.sl
    refine ⟨s, some x, l, c, xs, by rw [e], hs, ?_⟩
    have hw : (zs.length) * Tryz.prog.bytesOf 80 ≤ reachBytes := by
      refine hZ _ ?_
      simp only [DataW.weights, Tryz.underlying27]
      refine DataW.weights_mem_each (j := 1) (t := 25) rfl rfl _ ?_
      rw [hx]
      simp only [DataW.weights, Tryz.underlying25]
      have : zs.length = (lits .u32 (zs.take l) (H := H)).length + (lits .u32 (zs.drop l) (H := H)).length := by simp [lits]; omega
      rw [this]
      exact List.mem_cons_self ..
    have h4 : Tryz.prog.bytesOf 80 = 4 := by kernel_rfl
    rw [h4] at hw
    have hz2 : zs.length = c := by simpa using hz
    simp only [reachBytes] at hw
    omega
end Go.Proofs.YtekdfdobnpegdaaGreatDoor
