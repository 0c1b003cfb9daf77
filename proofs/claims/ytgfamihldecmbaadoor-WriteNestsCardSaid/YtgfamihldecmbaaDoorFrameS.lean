/-
  What the frames of the door cards share: a world that holds the listed tables, the signs among them; the signs read off the laid list.
-/
import Derived.Test.YtgfamihldecmbaaDoorPln
import Derived.Test.YtgfamihldecmbaaDoorCards
import Derived.Test.YtgfamihldecmbaaDoorTie
import Derived.ProofKit
import Derived.OpenShut
import Derived.ShutString
import Derived.ChangeOld
import Derived.Deep.DeepHandedRow
namespace Go.Proofs.YtgfamihldecmbaaDoor
open Go.ChangeShapes Go.WideShapes Go.ChangeAt Go.RowKit

theorem own : ownKnob Tryd.prog.godebug = none := by kernel_rfl
theorem laidOut : laidOutB Tryd.prog = true := by kernel_rfl

def withCells (cs : Array Value) : Obj → Obj
  | .cells _ t frozen => .cells cs t frozen
  | o => o
/-- A world for the witness: the tables hold what their text lays. -/
noncomputable def laidWorld (os : Os) : World :=
  { World.holding Tryd.prog os ⟨#[], #[], []⟩ with
    heap := (((World.holding Tryd.prog os ⟨#[], #[], []⟩).heap.modify 3 (withCells (Go.Pinned.utf8FirstZ.map fun n : Nat => Value.int .u8 (n : Int)).toArray)).modify 4
      (withCells (#[.int .u8 128, .int .u8 191, .int .u8 160, .int .u8 191, .int .u8 128, .int .u8 159, .int .u8 144, .int .u8 191, .int .u8 128, .int .u8 143] ++ Array.replicate 22 (.int .u8 0)))).modify 0
      (withCells #[.int .u8 33, .int .u8 36, .int .u8 37, .int .u8 38, .int .u8 42, .int .u8 47, .int .u8 58, .int .u8 60, .int .u8 61, .int .u8 62, .int .u8 63, .int .u8 94, .int .u8 95, .int .u8 126, .int .u8 43, .int .u8 45, .int .u8 46, .int .u8 64]) }

/-! ### the signs, read off the laid list -/
def sig18 : List Int := [33, 36, 37, 38, 42, 47, 58, 60, 61, 62, 63, 94, 95, 126, 43, 45, 46, 64]
theorem signsName : Tryd.prog.globalNamed "pavane/write.signs" = some 0 := by kernel_rfl
theorem signsType : (Tryd.prog.globals[0]?).map (·.type) = some 68 := by kernel_rfl
theorem signsUnd : Tryd.prog.underlying 68 = some (.array 18 5) := by kernel_rfl
theorem signsCells : Tryd.prog.cellsOf 68 = 18 := by kernel_rfl
theorem byteCells : Tryd.prog.cellsOf 5 = 1 := by kernel_rfl
theorem byteUnd : Tryd.prog.underlying 5 = some (.int .u8) := by kernel_rfl
theorem int_of_trodS {H : Type} {enc : TypeId × Value → H} {P : Program} {w : World} {base : Nat} {sp : Nat → Bool} {held : Bool} {fuel : Nat} {t : TypeId} {k : IntKind} {c : Value} {y : DataW H × List MemPlace}
    (ht : P.underlying t = some (.int k)) (h : DataW.trod enc P w base sp held fuel t [c] = some y) : ∃ n, c = .int k n ∧ y = (.lit (.int k n), []) := by
  cases fuel with
  | zero => simp [DataW.trod] at h
  | succ fuel =>
    cases c <;> simp [DataW.trod, ht] at h
    rename_i k' n
    obtain ⟨⟨rfl, _⟩, rfl⟩ := h
    exact ⟨n, rfl, rfl⟩

theorem tab_of_laid {W : World} (h : laidMetH Tryd.prog [("unicode/utf8.acceptRanges", Rows.laid_unicode_utf8_acceptRanges), ("pavane/write.signs", Rows.laid_pavane_write_signs), ("unicode/utf8.first", Rows.laid_unicode_utf8_first)] W) : Tab W := by
  have h2 := h.filter (fun x => x.1 == "pavane/write.signs")
  have e : ([("unicode/utf8.acceptRanges", Rows.laid_unicode_utf8_acceptRanges), ("pavane/write.signs", Rows.laid_pavane_write_signs), ("unicode/utf8.first", Rows.laid_unicode_utf8_first)] : List (String × DataW Unit)).filter (fun x => x.1 == "pavane/write.signs") = [("pavane/write.signs", Rows.laid_pavane_write_signs)] := by
    rw [List.filter_cons_of_neg (by decide), List.filter_cons_of_pos (by decide), List.filter_cons_of_neg (by decide), List.filter_nil]
  rw [e, MakeChecks.laidMetH_plain _ _ _ (by rfl)] at h2
  obtain ⟨ps, ⟨g, t, cs, fuel, p, q, hg, ht, hvar, hd, _, hps⟩, _, hrows⟩ := h2
  obtain rfl := Option.some.inj (signsName.symm.trans hg)
  obtain rfl := Option.some.inj (signsType.symm.trans ht)
  obtain ⟨xs, m, _, hx, hl, hn, hi⟩ := DataW.trod_array signsUnd hd
  rw [signsCells] at hl
  have hcs : cs = (sig18.map fun n => Value.int .u8 n).toArray := by
    obtain ⟨l⟩ := cs
    rw [show (sig18.map fun n => Value.int .u8 n).toArray = ⟨sig18.map fun n => Value.int .u8 n⟩ from rfl]
    congr 1
    refine List.ext_getElem (by rw [hl]; rfl) fun i h1 h2 => ?_
    have hi18 : i < 18 := Nat.lt_of_lt_of_eq h2 (by simp [sig18])
    have hq := hi i hi18
    rw [byteCells, Nat.mul_one, List.drop_eq_getElem_cons (by omega), List.take_succ_cons, List.take_zero, List.getElem?_eq_getElem (by omega)] at hq
    obtain ⟨n, e1, e2⟩ := int_of_trodS byteUnd hq
    rw [e1, List.getElem_map]
    have hx1 : (Rows.laid_pavane_write_signs : DataW Unit) = .agg (xs.map (·.1)) := congrArg (fun d : DataW Unit × List MemPlace => d.1) hx
    have hx2 : (sig18.map fun n => (DataW.lit (.int .u8 n) : DataW Unit)) = xs.map (·.1) := by
      injection hx1
    have hx3 : (sig18.map fun n => (DataW.lit (.int .u8 n) : DataW Unit))[i]? = (xs.map (·.1))[i]? := congrArg (fun l => l[i]?) hx2
    rw [List.getElem?_map, List.getElem?_map, List.getElem?_eq_getElem (show i < sig18.length from hi18), List.getElem?_eq_getElem (by omega), e2] at hx3
    simp only [Option.map_some, Option.some.injEq, DataW.lit.injEq, Lit.int.injEq, true_and] at hx3
    rw [hx3]
  have hm : MemPlace.cell 0 0 ∈ ps := by
    rw [hps, hcs]
    simp [MemPlace.row, sig18]
  obtain ⟨⟨c, t, hc⟩, _⟩ := hrows _ _ hm
  unfold World.var? at hvar
  rw [signsName] at hvar
  simp only [Option.bind_some] at hvar
  rw [hc] at hvar
  simp only [Option.some.injEq] at hvar
  exact ⟨t, by rw [hc, hvar, hcs]; rfl⟩
end Go.Proofs.YtgfamihldecmbaaDoor
