/-
  What the frame of PrimDoes adds: a world that holds prim's tables too; names and makers read off the laid list. A datum that came in, opened: the limbs in it lie within the form's own reach.
-/
import Derived.Test.YtocnlapbkidinaaGreatDoorPl3
import Derived.Test.YtocnlapbkidinaaGreatDoorPk5
import Derived.Test.YtocnlapbkidinaaGreatDoorQRne
import Derived.WideShapes
import Derived.Test.YtocnlapbkidinaaGreatDoorPt1
import Derived.Lib.SmallJoins
import Derived.Test.YtocnlapbkidinaaGreatDoorQPrs
import Derived.SizedLaws
set_option linter.unusedVariables false
set_option linter.unusedSimpArgs false
set_option linter.unusedSectionVars false
set_option linter.unnecessarySimpa false
namespace Go.Proofs.YtocnlapbkidinaaGreatDoor
section
open Go.ChangeShapes Go.WideShapes Go.ChangeAt Go.RowKit
set_option maxRecDepth 100000

/-- A world for the witness: the tables hold what their text lays. -/
noncomputable def laidWorldP (os : Os) : World :=
  { World.holding Tryz.prog os ⟨#[], #[], []⟩ with
    heap := ((((World.holding Tryz.prog os ⟨#[], #[], []⟩).heap.modify 2 (withCells (Go.Pinned.utf8FirstZ.map fun n : Nat => Value.int .u8 (n : Int)).toArray)).modify 3
      (withCells (#[.int .u8 128, .int .u8 191, .int .u8 160, .int .u8 191, .int .u8 128, .int .u8 159, .int .u8 144, .int .u8 191, .int .u8 128, .int .u8 143] ++ Array.replicate 22 (.int .u8 0)))).modify 1
      (withCells #[.string ⟨#[43]⟩, .string ⟨#[45]⟩, .string ⟨#[42]⟩, .string ⟨#[113, 117, 111, 116, 105, 101, 110, 116]⟩, .string ⟨#[114, 101, 109, 97, 105, 110, 100, 101, 114]⟩, .string ⟨#[109, 111, 100, 117, 108, 111]⟩, .string ⟨#[61]⟩, .string ⟨#[60]⟩, .string ⟨#[99, 111, 110, 115]⟩, .string ⟨#[99, 97, 114]⟩, .string ⟨#[99, 100, 114]⟩, .string ⟨#[115, 101, 116, 45, 99, 97, 114, 33]⟩, .string ⟨#[115, 101, 116, 45, 99, 100, 114, 33]⟩, .string ⟨#[110, 117, 108, 108, 63]⟩, .string ⟨#[112, 97, 105, 114, 63]⟩, .string ⟨#[105, 110, 116, 101, 103, 101, 114, 63]⟩, .string ⟨#[115, 121, 109, 98, 111, 108, 63]⟩, .string ⟨#[115, 116, 114, 105, 110, 103, 63]⟩, .string ⟨#[98, 111, 111, 108, 101, 97, 110, 63]⟩, .string ⟨#[112, 114, 111, 99, 101, 100, 117, 114, 101, 63]⟩, .string ⟨#[101, 113, 63]⟩, .string ⟨#[110, 111, 116]⟩, .string ⟨#[115, 116, 114, 105, 110, 103, 45, 108, 101, 110, 103, 116, 104]⟩, .string ⟨#[115, 116, 114, 105, 110, 103, 45, 97, 112, 112, 101, 110, 100]⟩, .string ⟨#[115, 116, 114, 105, 110, 103, 61, 63]⟩, .string ⟨#[115, 121, 109, 98, 111, 108, 45, 62, 115, 116, 114, 105, 110, 103]⟩, .string ⟨#[110, 117, 109, 98, 101, 114, 45, 62, 115, 116, 114, 105, 110, 103]⟩, .string ⟨#[119, 114, 105, 116, 101]⟩, .string ⟨#[100, 105, 115, 112, 108, 97, 121]⟩, .string ⟨#[110, 101, 119, 108, 105, 110, 101]⟩, .string ⟨#[114, 101, 97, 100, 45, 98, 121, 116, 101]⟩, .string ⟨#[114, 97, 105, 115, 101]⟩, .string ⟨#[99, 97, 108, 108, 47, 99, 99]⟩, .string ⟨#[97, 112, 112, 108, 121]⟩, .string ⟨#[98, 111, 120]⟩, .string ⟨#[117, 110, 98, 111, 120]⟩, .string ⟨#[115, 101, 116, 45, 98, 111, 120, 33]⟩, .string ⟨#[118, 111, 105, 100]⟩])).modify 0 (withCells #[.int .i64 24, .int .i64 26, .int .i64 27]) }
theorem makersName : Tryz.prog.globalNamed "pavane/prim.makers" = some 0 := by kernel_rfl
theorem makersType : (Tryz.prog.globals[0]?).map (·.type) = some 53 := by kernel_rfl
theorem makersUnd : Tryz.prog.underlying 53 = some (.array 3 3) := by kernel_rfl
theorem makersCells : Tryz.prog.cellsOf 53 = 3 := by kernel_rfl
theorem intCells1 : Tryz.prog.cellsOf 3 = 1 := by kernel_rfl
theorem intUnd1 : Tryz.prog.underlying 3 = some (.int .i64) := by kernel_rfl
theorem namesName : Tryz.prog.globalNamed "pavane/prim.names" = some 1 := by kernel_rfl
theorem namesType : (Tryz.prog.globals[1]?).map (·.type) = some 54 := by kernel_rfl
theorem namesUnd : Tryz.prog.underlying 54 = some (.array 38 9) := by kernel_rfl
theorem namesCells : Tryz.prog.cellsOf 54 = 38 := by kernel_rfl
theorem strCells1 : Tryz.prog.cellsOf 9 = 1 := by kernel_rfl
theorem int_of_trodS {H : Type} {enc : TypeId × Value → H} {P : Program} {w : World} {base : Nat} {sp : Nat → Bool} {held : Bool} {fuel : Nat} {t : TypeId} {k : IntKind} {c : Value} {y : DataW H × List MemPlace}
    (ht : P.underlying t = some (.int k)) (h : DataW.trod enc P w base sp held fuel t [c] = some y) : ∃ n, c = .int k n ∧ y = (.lit (.int k n), []) := by
  cases fuel with
  | zero => simp [DataW.trod] at h
  | succ fuel =>
    cases c <;> simp [DataW.trod, ht] at h
    rename_i k' n
    obtain ⟨⟨rfl, _⟩, rfl⟩ := h
    exact ⟨n, rfl, rfl⟩

theorem mak_of_laid {W : World} (h : laidMetH Tryz.prog [("unicode/utf8.acceptRanges", Rows.laid_unicode_utf8_acceptRanges), ("pavane/prim.names", Rows.laid_pavane_prim_names), ("pavane/prim.makers", Rows.laid_pavane_prim_makers), ("unicode/utf8.first", Rows.laid_unicode_utf8_first)] W) : MakT W := by
  have h2 := h.filter (fun x => x.1 == "pavane/prim.makers")
  have e : ([("unicode/utf8.acceptRanges", Rows.laid_unicode_utf8_acceptRanges), ("pavane/prim.names", Rows.laid_pavane_prim_names), ("pavane/prim.makers", Rows.laid_pavane_prim_makers), ("unicode/utf8.first", Rows.laid_unicode_utf8_first)] : List (String × DataW Unit)).filter (fun x => x.1 == "pavane/prim.makers") = [("pavane/prim.makers", Rows.laid_pavane_prim_makers)] := by
    rw [List.filter_cons_of_neg (by decide), List.filter_cons_of_neg (by decide), List.filter_cons_of_pos (by decide), List.filter_cons_of_neg (by decide), List.filter_nil]
  rw [e, MakeChecks.laidMetH_plain _ _ _ (by rfl)] at h2
  obtain ⟨ps, ⟨g, t, cs, fuel, p, q, hg, ht, hvar, hd, _, hps⟩, _, hrows⟩ := h2
  obtain rfl := Option.some.inj (makersName.symm.trans hg)
  obtain rfl := Option.some.inj (makersType.symm.trans ht)
  obtain ⟨xs, m, _, hx, hl, hn, hi⟩ := DataW.trod_array makersUnd hd
  rw [makersCells] at hl
  have hcs : cs = (mkL.map fun n => Value.int .i64 n).toArray := by
    obtain ⟨l⟩ := cs
    rw [show (mkL.map fun n => Value.int .i64 n).toArray = ⟨mkL.map fun n => Value.int .i64 n⟩ from rfl]
    congr 1
    refine List.ext_getElem (by rw [hl]; rfl) fun i h1 h2 => ?_
    have hi3 : i < 3 := Nat.lt_of_lt_of_eq h2 (by simp [mkL])
    have hq := hi i hi3
    rw [intCells1, Nat.mul_one, List.drop_eq_getElem_cons (by omega), List.take_succ_cons, List.take_zero, List.getElem?_eq_getElem (by omega)] at hq
    obtain ⟨n, e1, e2⟩ := int_of_trodS intUnd1 hq
    rw [e1, List.getElem_map]
    have hx1 : (Rows.laid_pavane_prim_makers : DataW Unit) = .agg (xs.map (·.1)) := congrArg (fun d : DataW Unit × List MemPlace => d.1) hx
    have hx2 : (mkL.map fun n => (DataW.lit (.int .i64 n) : DataW Unit)) = xs.map (·.1) := by
      injection hx1
    have hx3 : (mkL.map fun n => (DataW.lit (.int .i64 n) : DataW Unit))[i]? = (xs.map (·.1))[i]? := congrArg (fun l => l[i]?) hx2
    rw [List.getElem?_map, List.getElem?_map, List.getElem?_eq_getElem (show i < mkL.length from hi3), List.getElem?_eq_getElem (by omega), e2] at hx3
    simp only [Option.map_some, Option.some.injEq, DataW.lit.injEq, Lit.int.injEq, true_and] at hx3
    rw [hx3]
  have hm : MemPlace.cell 0 0 ∈ ps := by
    rw [hps, hcs]
    simp [MemPlace.row, mkL]
  obtain ⟨⟨c, t, hc⟩, _⟩ := hrows _ _ hm
  unfold World.var? at hvar
  rw [makersName] at hvar
  simp only [Option.bind_some] at hvar
  rw [hc] at hvar
  simp only [Option.some.injEq] at hvar
  exact ⟨t, by rw [hc, hvar, hcs]; rfl⟩
theorem nam_of_laid {W : World} (h : laidMetH Tryz.prog [("unicode/utf8.acceptRanges", Rows.laid_unicode_utf8_acceptRanges), ("pavane/prim.names", Rows.laid_pavane_prim_names), ("pavane/prim.makers", Rows.laid_pavane_prim_makers), ("unicode/utf8.first", Rows.laid_unicode_utf8_first)] W) : NamT W := by
  have h2 := h.filter (fun x => x.1 == "pavane/prim.names")
  have e : ([("unicode/utf8.acceptRanges", Rows.laid_unicode_utf8_acceptRanges), ("pavane/prim.names", Rows.laid_pavane_prim_names), ("pavane/prim.makers", Rows.laid_pavane_prim_makers), ("unicode/utf8.first", Rows.laid_unicode_utf8_first)] : List (String × DataW Unit)).filter (fun x => x.1 == "pavane/prim.names") = [("pavane/prim.names", Rows.laid_pavane_prim_names)] := by
    rw [List.filter_cons_of_neg (by decide), List.filter_cons_of_pos (by decide), List.filter_cons_of_neg (by decide), List.filter_cons_of_neg (by decide), List.filter_nil]
  rw [e, MakeChecks.laidMetH_plain _ _ _ (by rfl)] at h2
  obtain ⟨ps, ⟨g, t, cs, fuel, p, q, hg, ht, hvar, hd, _, hps⟩, _, hrows⟩ := h2
  obtain rfl := Option.some.inj (namesName.symm.trans hg)
  obtain rfl := Option.some.inj (namesType.symm.trans ht)
  obtain ⟨xs, m, _, hx, hl, hn, hi⟩ := DataW.trod_array namesUnd hd
  rw [namesCells] at hl
  have hcs : cs = (nmL.map fun s => Value.string s).toArray := by
    obtain ⟨l⟩ := cs
    rw [show (nmL.map fun s => Value.string s).toArray = ⟨nmL.map fun s => Value.string s⟩ from rfl]
    congr 1
    refine List.ext_getElem (by rw [hl]; rfl) fun i h1 h2 => ?_
    have hi38 : i < 38 := Nat.lt_of_lt_of_eq h2 (by simp [nmL])
    have hq := hi i hi38
    rw [strCells1, Nat.mul_one, List.drop_eq_getElem_cons (by omega), List.take_succ_cons, List.take_zero, List.getElem?_eq_getElem (by omega)] at hq
    obtain ⟨s, e1, e2, _⟩ := DataW.trod_string Tryz.underlying9 hq
    rw [List.cons.injEq] at e1
    rw [e1.1, List.getElem_map]
    have hx1 : (Rows.laid_pavane_prim_names : DataW Unit) = .agg (xs.map (·.1)) := congrArg (fun d : DataW Unit × List MemPlace => d.1) hx
    have hx2 : (nmL.map fun s => (DataW.lit (.string s.data.toList) : DataW Unit)) = xs.map (·.1) := by
      injection hx1
    have hx3 : (nmL.map fun s => (DataW.lit (.string s.data.toList) : DataW Unit))[i]? = (xs.map (·.1))[i]? := congrArg (fun l => l[i]?) hx2
    rw [List.getElem?_map, List.getElem?_map, List.getElem?_eq_getElem (show i < nmL.length from hi38), List.getElem?_eq_getElem (by omega), e2] at hx3
    simp only [Option.map_some, Option.some.injEq, DataW.lit.injEq, Lit.string.injEq] at hx3
    rw [Go.WideShapes.bytes_inj (a := nmL[i]) (b := s) hx3]
  have hm : MemPlace.cell 1 0 ∈ ps := by
    rw [hps, hcs]
    simp [MemPlace.row, nmL]
  obtain ⟨⟨c, t, hc⟩, _⟩ := hrows _ _ hm
  unfold World.var? at hvar
  rw [namesName] at hvar
  simp only [Option.bind_some] at hvar
  rw [hc] at hvar
  simp only [Option.some.injEq] at hvar
  exact ⟨t, by rw [hc, hvar, hcs]; rfl⟩
end
end Go.Proofs.YtocnlapbkidinaaGreatDoor
namespace Go.Proofs.YtocnlapbkidinaaGreatDoor
section
open Go.Joins Go.ChangeShapes Go.WideShapes Go.ChangeAt Go.RowKit Go.Deep
set_option maxRecDepth 100000

theorem tameR_each : ∀ (l : List LT), (∀ i (h : i < l.length), Tame l[i]) → TameR l
  | [], _ => by simp [TameR]
  | t :: l, h => by
    simp only [TameR]
    exact ⟨h 0 (by simp), tameR_each l fun i hi => h (i + 1) (by simpa using hi)⟩
section
variable {H : Type} {enc : TypeId × Value → H} {w : World} {sp : Nat → Bool} {held : Bool}
theorem weightsAll_mem {P : Program} {e : TypeId} : ∀ {l : List (DataW H)} {i : Nat} {d : DataW H}, l[i]? = some d → ∀ n ∈ d.weights P e, n ∈ DataW.weightsAll P e l
  | d0 :: l, 0, d, hd, n, hn => by
    simp only [List.getElem?_cons_zero, Option.some.injEq] at hd
    subst hd
    simp only [DataW.weightsAll, List.mem_append]
    exact Or.inl hn
  | d0 :: l, i + 1, d, hd, n, hn => by
    simp only [List.getElem?_cons_succ] at hd
    simp only [DataW.weightsAll, List.mem_append]
    exact Or.inr (weightsAll_mem hd n hn)
  | [], _, _, hd, _, _ => by simp at hd
theorem sl_sized {n : Nat} {cs : List Value} {x : DataW H × List MemPlace} (h : DataW.trod enc Tryz.prog w 0 sp held n 25 cs = some x) (hZ : ∀ q ∈ x.1.weights Tryz.prog 25, q ≤ reachBytes)
    {a : Option Addr} {ln lc : Nat} (e : cs = [.slice a ln lc]) : ln ≤ 35184372087808 := by
  rcases DataW.trod_slice Tryz.underlying25 h with ⟨rfl, _⟩ | ⟨a', len, cap, elems, rest, m, rfl, rfl, rfl, _, _, _, hlen, _, _, _⟩
  · injection e with e1
    injection e1 with _ e2 _
    omega
  · injection e with e1
    injection e1 with _ e2 _
    have hw := hZ ((elems.length + rest.length) * Tryz.prog.bytesOf 78) (by
      simp only [DataW.weights, Tryz.underlying25, List.length_map]
      exact List.mem_cons_self ..)
    have h4 : Tryz.prog.bytesOf 78 = 4 := by kernel_rfl
    rw [h4] at hw
    simp only [reachBytes] at hw
    omega
theorem row_sized {n : Nat} {cs : List Value} {x : DataW H × List MemPlace}
    (ih : ∀ m, m < n → ∀ cs x, DataW.trod enc Tryz.prog w 0 sp held m 29 cs = some x → (∀ q ∈ x.1.weights Tryz.prog 29, q ≤ reachBytes) → ∃ t : LT, cs = t.cells ∧ Held w w.heap.size t ∧ Tame t)
    (h : DataW.trod enc Tryz.prog w 0 sp held n 22 cs = some x) (hZ : ∀ q ∈ x.1.weights Tryz.prog 22, q ≤ reachBytes) :
    ∃ (a : Option Addr) (l : List LT) (c : Nat), cs = [.slice a l.length c] ∧ Spot w.heap.size a l.length c ∧ LiesR w w.heap.size l (blk a) (ofs a) ∧ TameR l := by
  rcases DataW.trod_slice Tryz.underlying22 h with ⟨rfl, _⟩ | ⟨a, len, cap, elems, rest, m, rfl, rfl, rfl, _, hl, hm, hlen, hel, _, _⟩
  · exact ⟨none, [], 0, rfl, ⟨Nat.le_refl _, Nat.zero_le _, fun h => absurd h (by decide), fun _ => rfl⟩, trivial, by simp [TameR]⟩
  · have key : ∀ i, i < len → ∃ t : LT, (∀ j v, t.cells[j]? = some v → w.cell? ((a.add (i * 7)).add j) = some v) ∧ Held w w.heap.size t ∧ Tame t := by
      intro i hi
      have h1 := hel i hi
      rw [datumCells, List.getElem?_eq_getElem (by omega)] at h1
      obtain ⟨csi, h2, h3⟩ := Option.bind_eq_some_iff.1 h1
      obtain ⟨t, rfl, ht, hT⟩ := ih m (Nat.lt_succ_self m) csi _ h3 (fun q hq => hZ q (by
        simp only [DataW.weights, Tryz.underlying22]
        refine List.mem_cons_of_mem _ (List.mem_append.2 (Or.inl (weightsAll_mem (i := i) ?_ q hq)))
        rw [List.getElem?_map, List.getElem?_eq_getElem (by omega)]
        rfl))
      obtain ⟨_, hc⟩ := cells_at h2
      refine ⟨t, fun j v hj => ?_, ht, hT⟩
      have h7 : t.cells.length = 7 := rfl
      have hj7 : j < 7 := by
        rcases Nat.lt_or_ge j 7 with h | h
        · exact h
        · rw [List.getElem?_eq_none (by omega)] at hj
          cases hj
      rw [hc j hj7, hj]
    obtain ⟨l, hll, hp⟩ := exists_list len key
    subst hll
    refine ⟨some a, l, cap, rfl, ⟨hl, hm, fun hpos => ?_, fun e => by cases e⟩, ?_, tameR_each l fun i hi => (hp i hi).2.2⟩
    · have h1 := (hp 0 hpos).1 0 _ rfl
      obtain ⟨b, off, spot⟩ := a
      have hspot : spot = none := by simpa [Addr.add] using World.cell?_spot h1
      subst hspot
      have := World.block_lt_of_cell? w _ h1
      exact ⟨rfl, by simpa [Addr.add, blk] using this⟩
    · rw [liesR_iff]
      intro i hi
      obtain ⟨h1, h2, _⟩ := hp i hi
      obtain ⟨b, off, spot⟩ := a
      have h0 := h1 0 _ rfl
      have hadd : ∀ j, ((⟨b, off, spot⟩ : Addr).add (i * 7)).add j = ⟨b, off + 7 * i + j, none⟩ := by
        have hspot : spot = none := by
          have h00 := (hp 0 (by omega)).1 0 _ rfl
          simpa [Addr.add] using World.cell?_spot h00
        subst hspot
        intro j
        unfold Addr.add
        split <;> split <;> simp_all <;> omega
      refine lies_held.2 ⟨?_, fun j v hj => ?_, h2⟩
      · have := World.block_lt_of_cell? w _ h0
        rw [hadd] at this
        exact this
      · have := h1 j v hj
        rw [hadd] at this
        exact this
theorem held_sized : ∀ (n : Nat) (cs : List Value) (x : DataW H × List MemPlace), DataW.trod enc Tryz.prog w 0 sp held n 29 cs = some x → (∀ q ∈ x.1.weights Tryz.prog 29, q ≤ reachBytes) → ∃ t : LT, cs = t.cells ∧ Held w w.heap.size t ∧ Tame t := by
  intro n
  induction n using Nat.strongRecOn with
  | _ n ih =>
    intro cs x h hZ
    obtain ⟨xs, m, rfl, rfl, hl, hxl, hf⟩ := DataW.trod_struct Tryz.underlying29 h
    rw [datumCells] at hl
    obtain ⟨c0, c1, c2, c3, c4, c5, c6, rfl⟩ := list7 hl
    have hx : ∀ i, i < 6 → ∃ y, xs[i]? = some y := fun i hi => ⟨_, List.getElem?_eq_getElem (by rw [hxl]; exact hi)⟩
    have f0 : DataW.trod enc Tryz.prog w 0 sp held m 3 [c0] = xs[0]? := trod_at cells1.1 (hf 0 _ rfl) rfl
    have f1 : DataW.trod enc Tryz.prog w 0 sp held m 27 [c1, c2] = xs[1]? := trod_at intCells (hf 1 _ rfl) rfl
    have f2 : DataW.trod enc Tryz.prog w 0 sp held m 4 [c3] = xs[2]? := trod_at cells1.2.1 (hf 2 _ rfl) rfl
    have f3 : DataW.trod enc Tryz.prog w 0 sp held m 9 [c4] = xs[3]? := trod_at cells1.2.2.1 (hf 3 _ rfl) rfl
    have f4 : DataW.trod enc Tryz.prog w 0 sp held m 22 [c5] = xs[4]? := trod_at cells1.2.2.2.1 (hf 4 _ rfl) rfl
    have f5 : DataW.trod enc Tryz.prog w 0 sp held m 22 [c6] = xs[5]? := trod_at cells1.2.2.2.1 (hf 5 _ rfl) rfl
    obtain ⟨y0, g0⟩ := hx 0 (by decide)
    obtain ⟨y1, g1⟩ := hx 1 (by decide)
    obtain ⟨y2, g2⟩ := hx 2 (by decide)
    obtain ⟨y3, g3⟩ := hx 3 (by decide)
    obtain ⟨y4, g4⟩ := hx 4 (by decide)
    obtain ⟨y5, g5⟩ := hx 5 (by decide)
    rw [g0] at f0
    rw [g1] at f1
    rw [g2] at f2
    rw [g3] at f3
    rw [g4] at f4
    rw [g5] at f5
    have hZ1 : ∀ q ∈ y1.1.weights Tryz.prog 27, q ≤ reachBytes := fun q hq => hZ q (by
      simp only [DataW.weights, Tryz.underlying29]
      exact DataW.weights_mem_each (j := 1) (t := 27) rfl (by rw [List.getElem?_map, g1]; rfl) q hq)
    have hZ4 : ∀ q ∈ y4.1.weights Tryz.prog 22, q ≤ reachBytes := fun q hq => hZ q (by
      simp only [DataW.weights, Tryz.underlying29]
      exact DataW.weights_mem_each (j := 4) (t := 22) rfl (by rw [List.getElem?_map, g4]; rfl) q hq)
    have hZ5 : ∀ q ∈ y5.1.weights Tryz.prog 22, q ≤ reachBytes := fun q hq => hZ q (by
      simp only [DataW.weights, Tryz.underlying29]
      exact DataW.weights_mem_each (j := 5) (t := 22) rfl (by rw [List.getElem?_map, g5]; rfl) q hq)
    obtain ⟨k, e0, hk⟩ := lit1_of_trod Tryz.underlying3 f0
    obtain ⟨zs, m1, rfl, hy1, hl1, hzl, hf1⟩ := DataW.trod_struct Tryz.underlying27 f1
    have i0 : DataW.trod enc Tryz.prog w 0 sp held m1 4 [c1] = zs[0]? := trod_at cells1.2.1 (hf1 0 _ rfl) rfl
    have i1 : DataW.trod enc Tryz.prog w 0 sp held m1 25 [c2] = zs[1]? := trod_at cells1.2.2.2.2 (hf1 1 _ rfl) rfl
    obtain ⟨z0, j0⟩ : ∃ y, zs[0]? = some y := ⟨_, List.getElem?_eq_getElem (by rw [hzl]; decide)⟩
    obtain ⟨z1, j1⟩ : ∃ y, zs[1]? = some y := ⟨_, List.getElem?_eq_getElem (by rw [hzl]; decide)⟩
    rw [j0] at i0
    rw [j1] at i1
    have hZ11 : ∀ q ∈ z1.1.weights Tryz.prog 25, q ≤ reachBytes := fun q hq => hZ1 q (by
      rw [hy1]
      simp only [DataW.weights, Tryz.underlying27]
      exact DataW.weights_mem_each (j := 1) (t := 25) rfl (by rw [List.getElem?_map, j1]; rfl) q hq)
    obtain ⟨g, e1⟩ := bool1_of_trod Tryz.underlying4 i0
    obtain ⟨la, ln, lc, ys, e2, hsl, hbl⟩ := sl_of_trod i1
    have hln := sl_sized i1 hZ11 e2
    obtain ⟨bb, e3⟩ := bool1_of_trod Tryz.underlying4 f2
    obtain ⟨s, e4, hs⟩ := str1_of_trod Tryz.underlying9 f3
    obtain ⟨ia, items, ic, e5, hsi, hli, hti⟩ := row_sized (fun q hq => ih q (by omega)) f4 hZ4
    obtain ⟨ta, tail, tc, e6, hst, hlt, htt⟩ := row_sized (fun q hq => ih q (by omega)) f5 hZ5
    injection e0 with e0
    injection e1 with e1
    injection e2 with e2
    injection e3 with e3
    injection e4 with e4
    injection e5 with e5
    injection e6 with e6
    subst e0 e1 e2 e3 e4 e5 e6
    exact ⟨.mk k g la ln lc ys bb s ia ic items ta tc tail, rfl, ⟨⟨hsl, hbl, hs⟩, hsi, hst, hli, hlt⟩, by simp only [Tame]; exact ⟨hln, hti, htt⟩⟩
end
theorem open_datum_sized {H : Type} {enc : TypeId × Value → H} {W : World} {b0 : Nat} {v : Value} {d : DataW H} {p : List MemPlace}
    (hv : Value.okWide Tryz.prog W .any b0 29 v) (h : DataW.Trod enc Tryz.prog W 0 (fun _ => true) true 29 v d p) (hZ : ∀ q ∈ d.weights Tryz.prog 29, q ≤ reachBytes) : ∃ t : LT, v = .agg #[.int .i64 t.k, .bool t.g, .slice t.la t.ln t.lc, .bool t.bb, .string t.s, .slice t.ia t.items.length t.ic, .slice t.ta t.tail.length t.tc] ∧ Held W W.heap.size t ∧ Tame t := by
  obtain ⟨cs, rfl, hsz⟩ := okWide_struct Tryz.underlying29 hv
  obtain ⟨fuel, hf⟩ := h
  obtain ⟨t, hc, hh, hT⟩ := held_sized fuel _ _ hf hZ
  refine ⟨t, ?_, hh, hT⟩
  have e : cs.toList = t.cells := by simpa [Value.cells] using hc
  have e2 : cs = t.cells.toArray := by rw [← e]
  rw [e2]
  rfl
theorem open_data_sized {H : Type} {enc : TypeId × Value → H} {W : World} {b0 : Nat} {v : Value} {d : DataW H} {p : List MemPlace}
    (hv : Value.okWide Tryz.prog W .any b0 22 v) (h : DataW.Trod enc Tryz.prog W 0 (fun _ => true) true 22 v d p) (hZ : ∀ q ∈ d.weights Tryz.prog 22, q ≤ reachBytes) : ∃ (a : Option Addr) (l : List LT) (c : Nat), v = .slice a l.length c ∧ Spot W.heap.size a l.length c ∧ LiesR W W.heap.size l (blk a) (ofs a) ∧ TameR l := by
  obtain ⟨a, len, cap, rfl⟩ := okWide_slice Tryz.underlying22 hv
  obtain ⟨fuel, hf⟩ := h
  obtain ⟨a', l, c', hc, hs, hl, hT⟩ := row_sized (fun m _ cs x h => held_sized m cs x h) hf hZ
  have e : Value.slice a len cap = .slice a' l.length c' := by simpa [Value.cells] using hc
  injection e with e1 e2 e3
  subst e1 e2 e3
  exact ⟨a, l, cap, rfl, hs, hl, hT⟩
end
end Go.Proofs.YtocnlapbkidinaaGreatDoor
