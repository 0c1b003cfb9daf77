/-
  What the frames of the reader's door cards share: a world that holds the listed tables; signs, marks and quotes read off the laid list.
-/
import Derived.Test.YtlohdglhebplfaaGreatDoorRdx7
import Derived.Test.YtlohdglhebplfaaGreatDoorCards
import Derived.Test.YtlohdglhebplfaaGreatDoorTie
import Derived.ProofKit
import Derived.OpenShut
import Derived.ShutString
import Derived.ChangeOld
import Derived.Deep.DeepHandedRow
namespace Go.Proofs.YtlohdglhebplfaaGreatDoor
open Go.ChangeShapes Go.WideShapes Go.ChangeAt Go.RowKit

theorem own : ownKnob Tryz.prog.godebug = none := by kernel_rfl
theorem laidOut : laidOutB Tryz.prog = true := by kernel_rfl

def withCells (cs : Array Value) : Obj → Obj
  | .cells _ t frozen => .cells cs t frozen
  | o => o
/-- A world for the witness: the tables hold what their text lays. -/
noncomputable def laidWorld (os : Os) : World :=
  { World.holding Tryz.prog os ⟨#[], #[], []⟩ with
    heap := (((((World.holding Tryz.prog os ⟨#[], #[], []⟩).heap.modify 6 (withCells (Go.Pinned.utf8FirstZ.map fun n : Nat => Value.int .u8 (n : Int)).toArray)).modify 7
      (withCells (#[.int .u8 128, .int .u8 191, .int .u8 160, .int .u8 191, .int .u8 128, .int .u8 159, .int .u8 144, .int .u8 191, .int .u8 128, .int .u8 143] ++ Array.replicate 22 (.int .u8 0)))).modify 2
      (withCells #[.int .u8 33, .int .u8 36, .int .u8 37, .int .u8 38, .int .u8 42, .int .u8 47, .int .u8 58, .int .u8 60, .int .u8 61, .int .u8 62, .int .u8 63, .int .u8 94, .int .u8 95, .int .u8 126, .int .u8 43, .int .u8 45, .int .u8 46, .int .u8 64])).modify 1
      (withCells #[.int .u8 40, .int .u8 41, .int .u8 91, .int .u8 93, .int .u8 34, .int .u8 59, .int .u8 39, .int .u8 96, .int .u8 44, .int .u8 124])).modify 0
      (withCells #[.string ⟨#[39]⟩, .string ⟨#[113, 117, 111, 116, 101]⟩, .string ⟨#[96]⟩, .string ⟨#[113, 117, 97, 115, 105, 113, 117, 111, 116, 101]⟩, .string ⟨#[44, 64]⟩, .string ⟨#[117, 110, 113, 117, 111, 116, 101, 45, 115, 112, 108, 105, 99, 105, 110, 103]⟩, .string ⟨#[44]⟩, .string ⟨#[117, 110, 113, 117, 111, 116, 101]⟩]) }

/-! ### the signs, read off the laid list -/
def sig18 : List Int := [33, 36, 37, 38, 42, 47, 58, 60, 61, 62, 63, 94, 95, 126, 43, 45, 46, 64]
theorem signsName : Tryz.prog.globalNamed "pavane/write.signs" = some 2 := by kernel_rfl
theorem signsType : (Tryz.prog.globals[2]?).map (·.type) = some 245 := by kernel_rfl
theorem signsUnd : Tryz.prog.underlying 245 = some (.array 18 5) := by kernel_rfl
theorem signsCells : Tryz.prog.cellsOf 245 = 18 := by kernel_rfl
theorem byteCells : Tryz.prog.cellsOf 5 = 1 := by kernel_rfl
theorem byteUnd : Tryz.prog.underlying 5 = some (.int .u8) := by kernel_rfl
theorem int_of_trodS {H : Type} {enc : TypeId × Value → H} {P : Program} {w : World} {base : Nat} {sp : Nat → Bool} {held : Bool} {fuel : Nat} {t : TypeId} {k : IntKind} {c : Value} {y : DataW H × List MemPlace}
    (ht : P.underlying t = some (.int k)) (h : DataW.trod enc P w base sp held fuel t [c] = some y) : ∃ n, c = .int k n ∧ y = (.lit (.int k n), []) := by
  cases fuel with
  | zero => simp [DataW.trod] at h
  | succ fuel =>
    cases c <;> simp [DataW.trod, ht] at h
    rename_i k' n
    obtain ⟨⟨rfl, _⟩, rfl⟩ := h
    exact ⟨n, rfl, rfl⟩

theorem tab_of_laid {W : World} (h : laidMetH Tryz.prog [("unicode/utf8.acceptRanges", Rows.laid_unicode_utf8_acceptRanges), ("pavane/write.signs", Rows.laid_pavane_write_signs), ("pavane/reader.marks", Rows.laid_pavane_reader_marks), ("pavane/reader.quotes", Rows.laid_pavane_reader_quotes), ("unicode/utf8.first", Rows.laid_unicode_utf8_first)] W) : Tab W := by
  have h2 := h.filter (fun x => x.1 == "pavane/write.signs")
  have e : ([("unicode/utf8.acceptRanges", Rows.laid_unicode_utf8_acceptRanges), ("pavane/write.signs", Rows.laid_pavane_write_signs), ("pavane/reader.marks", Rows.laid_pavane_reader_marks), ("pavane/reader.quotes", Rows.laid_pavane_reader_quotes), ("unicode/utf8.first", Rows.laid_unicode_utf8_first)] : List (String × DataW Unit)).filter (fun x => x.1 == "pavane/write.signs") = [("pavane/write.signs", Rows.laid_pavane_write_signs)] := by
    rw [List.filter_cons_of_neg (by decide), List.filter_cons_of_pos (by decide), List.filter_cons_of_neg (by decide), List.filter_cons_of_neg (by decide), List.filter_cons_of_neg (by decide), List.filter_nil]
  rw [e, MakeChecks.laidMetH_plain _ _ _ (by rfl)] at h2
  obtain ⟨ps, ⟨g, t, cs, fuel, p, q, hg, ht, hvar, hd, _, hps⟩, _, hrows⟩ := h2
  obtain rfl := Option.some.inj (signsName.symm.trans hg)
  obtain rfl := Option.some.inj (signsType.symm.trans ht)
  obtain ⟨xs, m, _, hx, hl, hn, hi⟩ := DataW.trod_array signsUnd hd
  rw [signsCells] at hl
  have hcs : cs = (sig18.map fun n => Value.int .u8 n).toArray := by
    obtain ⟨l⟩ := cs
    rw [show (sig18.map fun n => Value.int .u8 n).toArray = ⟨sig18.map fun n => Value.int .u8 n⟩ from rfl]
    congr 1
    refine List.ext_getElem (by rw [hl]; rfl) fun i h1 h2 => ?_
    have hi18 : i < 18 := Nat.lt_of_lt_of_eq h2 (by simp [sig18])
    have hq := hi i hi18
    rw [byteCells, Nat.mul_one, List.drop_eq_getElem_cons (by omega), List.take_succ_cons, List.take_zero, List.getElem?_eq_getElem (by omega)] at hq
    obtain ⟨n, e1, e2⟩ := int_of_trodS byteUnd hq
    rw [e1, List.getElem_map]
    have hx1 : (Rows.laid_pavane_write_signs : DataW Unit) = .agg (xs.map (·.1)) := congrArg (fun d : DataW Unit × List MemPlace => d.1) hx
    have hx2 : (sig18.map fun n => (DataW.lit (.int .u8 n) : DataW Unit)) = xs.map (·.1) := by
      injection hx1
    have hx3 : (sig18.map fun n => (DataW.lit (.int .u8 n) : DataW Unit))[i]? = (xs.map (·.1))[i]? := congrArg (fun l => l[i]?) hx2
    rw [List.getElem?_map, List.getElem?_map, List.getElem?_eq_getElem (show i < sig18.length from hi18), List.getElem?_eq_getElem (by omega), e2] at hx3
    simp only [Option.map_some, Option.some.injEq, DataW.lit.injEq, Lit.int.injEq, true_and] at hx3
    rw [hx3]
  have hm : MemPlace.cell 2 0 ∈ ps := by
    rw [hps, hcs]
    simp [MemPlace.row, sig18]
  obtain ⟨⟨c, t, hc⟩, _⟩ := hrows _ _ hm
  unfold World.var? at hvar
  rw [signsName] at hvar
  simp only [Option.bind_some] at hvar
  rw [hc] at hvar
  simp only [Option.some.injEq] at hvar
  exact ⟨t, by rw [hc, hvar, hcs]; rfl⟩
def mk10 : List Int := [40, 41, 91, 93, 34, 59, 39, 96, 44, 124]
theorem marksName : Tryz.prog.globalNamed "pavane/reader.marks" = some 1 := by kernel_rfl
theorem marksType : (Tryz.prog.globals[1]?).map (·.type) = some 240 := by kernel_rfl
theorem marksUnd : Tryz.prog.underlying 240 = some (.array 10 5) := by kernel_rfl
theorem marksCells : Tryz.prog.cellsOf 240 = 10 := by kernel_rfl
theorem mkT_of_laid {W : World} (h : laidMetH Tryz.prog [("unicode/utf8.acceptRanges", Rows.laid_unicode_utf8_acceptRanges), ("pavane/write.signs", Rows.laid_pavane_write_signs), ("pavane/reader.marks", Rows.laid_pavane_reader_marks), ("pavane/reader.quotes", Rows.laid_pavane_reader_quotes), ("unicode/utf8.first", Rows.laid_unicode_utf8_first)] W) : MkT W := by
  have h2 := h.filter (fun x => x.1 == "pavane/reader.marks")
  have e : ([("unicode/utf8.acceptRanges", Rows.laid_unicode_utf8_acceptRanges), ("pavane/write.signs", Rows.laid_pavane_write_signs), ("pavane/reader.marks", Rows.laid_pavane_reader_marks), ("pavane/reader.quotes", Rows.laid_pavane_reader_quotes), ("unicode/utf8.first", Rows.laid_unicode_utf8_first)] : List (String × DataW Unit)).filter (fun x => x.1 == "pavane/reader.marks") = [("pavane/reader.marks", Rows.laid_pavane_reader_marks)] := by
    rw [List.filter_cons_of_neg (by decide), List.filter_cons_of_neg (by decide), List.filter_cons_of_pos (by decide), List.filter_cons_of_neg (by decide), List.filter_cons_of_neg (by decide), List.filter_nil]
  rw [e, MakeChecks.laidMetH_plain _ _ _ (by rfl)] at h2
  obtain ⟨ps, ⟨g, t, cs, fuel, p, q, hg, ht, hvar, hd, _, hps⟩, _, hrows⟩ := h2
  obtain rfl := Option.some.inj (marksName.symm.trans hg)
  obtain rfl := Option.some.inj (marksType.symm.trans ht)
  obtain ⟨xs, m, _, hx, hl, hn, hi⟩ := DataW.trod_array marksUnd hd
  rw [marksCells] at hl
  have hcs : cs = (mk10.map fun n => Value.int .u8 n).toArray := by
    obtain ⟨l⟩ := cs
    rw [show (mk10.map fun n => Value.int .u8 n).toArray = ⟨mk10.map fun n => Value.int .u8 n⟩ from rfl]
    congr 1
    refine List.ext_getElem (by rw [hl]; rfl) fun i h1 h2 => ?_
    have hi10 : i < 10 := Nat.lt_of_lt_of_eq h2 (by simp [mk10])
    have hq := hi i hi10
    rw [byteCells, Nat.mul_one, List.drop_eq_getElem_cons (by omega), List.take_succ_cons, List.take_zero, List.getElem?_eq_getElem (by omega)] at hq
    obtain ⟨n, e1, e2⟩ := int_of_trodS byteUnd hq
    rw [e1, List.getElem_map]
    have hx1 : (Rows.laid_pavane_reader_marks : DataW Unit) = .agg (xs.map (·.1)) := congrArg (fun d : DataW Unit × List MemPlace => d.1) hx
    have hx2 : (mk10.map fun n => (DataW.lit (.int .u8 n) : DataW Unit)) = xs.map (·.1) := by
      injection hx1
    have hx3 : (mk10.map fun n => (DataW.lit (.int .u8 n) : DataW Unit))[i]? = (xs.map (·.1))[i]? := congrArg (fun l => l[i]?) hx2
    rw [List.getElem?_map, List.getElem?_map, List.getElem?_eq_getElem (show i < mk10.length from hi10), List.getElem?_eq_getElem (by omega), e2] at hx3
    simp only [Option.map_some, Option.some.injEq, DataW.lit.injEq, Lit.int.injEq, true_and] at hx3
    rw [hx3]
  have hm : MemPlace.cell 1 0 ∈ ps := by
    rw [hps, hcs]
    simp [MemPlace.row, mk10]
  obtain ⟨⟨c, t, hc⟩, _⟩ := hrows _ _ hm
  unfold World.var? at hvar
  rw [marksName] at hvar
  simp only [Option.bind_some] at hvar
  rw [hc] at hvar
  simp only [Option.some.injEq] at hvar
  exact ⟨t, by rw [hc, hvar, hcs]; rfl⟩
def quo4 : List (List UInt8 × List UInt8) := [([39], [113, 117, 111, 116, 101]), ([96], [113, 117, 97, 115, 105, 113, 117, 111, 116, 101]), ([44, 64], [117, 110, 113, 117, 111, 116, 101, 45, 115, 112, 108, 105, 99, 105, 110, 103]), ([44], [117, 110, 113, 117, 111, 116, 101])]
theorem quotesName : Tryz.prog.globalNamed "pavane/reader.quotes" = some 0 := by kernel_rfl
theorem quotesType : (Tryz.prog.globals[0]?).map (·.type) = some 178 := by kernel_rfl
theorem quotesUnd : Tryz.prog.underlying 178 = some (.array 4 177) := by kernel_rfl
theorem quotesCells : Tryz.prog.cellsOf 178 = 8 := by kernel_rfl
theorem pairCells : Tryz.prog.cellsOf 177 = 2 := by kernel_rfl
theorem strCells : Tryz.prog.cellsOf 9 = 1 := by kernel_rfl
set_option maxRecDepth 100000 in
theorem quT_of_laid {W : World} (h : laidMetH Tryz.prog [("unicode/utf8.acceptRanges", Rows.laid_unicode_utf8_acceptRanges), ("pavane/write.signs", Rows.laid_pavane_write_signs), ("pavane/reader.marks", Rows.laid_pavane_reader_marks), ("pavane/reader.quotes", Rows.laid_pavane_reader_quotes), ("unicode/utf8.first", Rows.laid_unicode_utf8_first)] W) : QuT W := by
  have h2 := h.filter (fun x => x.1 == "pavane/reader.quotes")
  have e : ([("unicode/utf8.acceptRanges", Rows.laid_unicode_utf8_acceptRanges), ("pavane/write.signs", Rows.laid_pavane_write_signs), ("pavane/reader.marks", Rows.laid_pavane_reader_marks), ("pavane/reader.quotes", Rows.laid_pavane_reader_quotes), ("unicode/utf8.first", Rows.laid_unicode_utf8_first)] : List (String × DataW Unit)).filter (fun x => x.1 == "pavane/reader.quotes") = [("pavane/reader.quotes", Rows.laid_pavane_reader_quotes)] := by
    rw [List.filter_cons_of_neg (by decide), List.filter_cons_of_neg (by decide), List.filter_cons_of_neg (by decide), List.filter_cons_of_pos (by decide), List.filter_cons_of_neg (by decide), List.filter_nil]
  rw [e, MakeChecks.laidMetH_plain _ _ _ (by rfl)] at h2
  obtain ⟨ps, ⟨g, t, cs, fuel, p, q, hg, ht, hvar, hd, _, hps⟩, _, hrows⟩ := h2
  obtain rfl := Option.some.inj (quotesName.symm.trans hg)
  obtain rfl := Option.some.inj (quotesType.symm.trans ht)
  obtain ⟨xs, m, _, hx, hl, hn, hi⟩ := DataW.trod_array quotesUnd hd
  rw [quotesCells] at hl
  have hx1 : (Rows.laid_pavane_reader_quotes : DataW Unit) = .agg (xs.map (·.1)) := congrArg (fun d : DataW Unit × List MemPlace => d.1) hx
  have hx2 : (quo4.map fun q => (DataW.agg [.lit (.string q.1), .lit (.string q.2)] : DataW Unit)) = xs.map (·.1) := by
    injection hx1
  have hcell : ∀ i (hi4 : i < 4), (cs.toList.drop (i * 2)).take 2 = [.string ⟨(quo4[i]'(by simp [quo4]; omega)).1.toArray⟩, .string ⟨(quo4[i]'(by simp [quo4]; omega)).2.toArray⟩] := by
    intro i hi4
    have hq := hi i hi4
    rw [pairCells] at hq
    have hxi : i < xs.length := by omega
    rw [List.getElem?_eq_getElem hxi] at hq
    obtain ⟨ys, m2, _, hy, hl2, hn2, hf⟩ := DataW.trod_struct Tryz.underlying177 hq
    have h0 := hf 0 _ rfl
    have h1 := hf 1 _ rfl
    match ys, hn2 with
    | [y0, y1], _ =>
      rw [pairCells] at hl2
      obtain ⟨c0, c1, hc⟩ : ∃ c0 c1, (cs.toList.drop (i * 2)).take 2 = [c0, c1] := by
        match hcc : (cs.toList.drop (i * 2)).take 2, hl2 with
        | [c0, c1], _ => exact ⟨c0, c1, rfl⟩
      rw [hc] at h0 h1 ⊢
      obtain ⟨s0, e0, z0, _⟩ := DataW.trod_string Tryz.underlying9 h0
      obtain ⟨s1, e1, z1, _⟩ := DataW.trod_string Tryz.underlying9 h1
      simp [strCells] at e0 e1
      subst e0 e1
      have hx3 := congrArg (fun l => l[i]?) hx2
      rw [List.getElem?_map, List.getElem?_map, List.getElem?_eq_getElem (show i < quo4.length by simp [quo4]; omega), List.getElem?_eq_getElem hxi, hy] at hx3
      simp only [Option.map_some, Option.some.injEq, List.map_cons, List.map_nil, z0, z1, DataW.agg.injEq, List.cons.injEq, DataW.lit.injEq, Lit.string.injEq, and_true] at hx3
      rw [hx3.1, hx3.2]
  have hcs : cs = (quo4.flatMap fun q => [Value.string ⟨q.1.toArray⟩, Value.string ⟨q.2.toArray⟩]).toArray := by
    obtain ⟨l⟩ := cs
    congr 1
    have q0 := hcell 0 (by omega)
    have q1 := hcell 1 (by omega)
    have q2 := hcell 2 (by omega)
    have q3 := hcell 3 (by omega)
    obtain ⟨a0, a1, a2, a3, a4, a5, a6, a7, rfl⟩ : ∃ a0 a1 a2 a3 a4 a5 a6 a7, l = [a0, a1, a2, a3, a4, a5, a6, a7] := by
      match l, hl with
      | [a0, a1, a2, a3, a4, a5, a6, a7], _ => exact ⟨_, _, _, _, _, _, _, _, rfl⟩
    simp [quo4] at q0 q1 q2 q3
    simp [quo4, q0, q1, q2, q3]
  have hm : MemPlace.cell 0 0 ∈ ps := by
    rw [hps, hcs]
    simp [MemPlace.row, quo4]
  obtain ⟨⟨c, t, hc⟩, _⟩ := hrows _ _ hm
  unfold World.var? at hvar
  rw [quotesName] at hvar
  simp only [Option.bind_some] at hvar
  rw [hc] at hvar
  simp only [Option.some.injEq] at hvar
  exact ⟨t, by rw [hc, hvar, hcs]; rfl⟩
theorem tabs_of_laid {W : World} (h : laidMetH Tryz.prog [("unicode/utf8.acceptRanges", Rows.laid_unicode_utf8_acceptRanges), ("pavane/write.signs", Rows.laid_pavane_write_signs), ("pavane/reader.marks", Rows.laid_pavane_reader_marks), ("pavane/reader.quotes", Rows.laid_pavane_reader_quotes), ("unicode/utf8.first", Rows.laid_unicode_utf8_first)] W) : Tabs W := ⟨tab_of_laid h, mkT_of_laid h, quT_of_laid h⟩
end Go.Proofs.YtlohdglhebplfaaGreatDoor
