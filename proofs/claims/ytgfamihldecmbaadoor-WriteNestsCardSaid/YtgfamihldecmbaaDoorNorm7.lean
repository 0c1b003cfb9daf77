/-
  datum.Norm, datum.Depth of a list of symbols and strings.
-/
import Derived.Test.YtgfamihldecmbaaDoorNl
namespace Go.Proofs.YtgfamihldecmbaaDoor
open Go.RowKit

def leafT (x : Int × ByteArray) : LT := .mk x.1 false none 0 0 [] false x.2 none 0 [] none 0 []
def listT (ib io n : Nat) (its : List (Int × ByteArray)) : LT := .mk 5 false none 0 0 [] false ⟨#[]⟩ (some ⟨ib, io, none⟩) n (its.map leafT) none 0 []
theorem sizes_leaf (its : List (Int × ByteArray)) : sizes (its.map leafT) = its.length := by induction its with | nil => rfl | cons x l ih => simp [sizes, LT.size, leafT, ih]; omega
theorem depths_leaf (its : List (Int × ByteArray)) : depths (its.map leafT) ≤ 1 := by induction its with | nil => simp [depths] | cons x l ih => simp [depths, LT.depth, leafT]; omega
theorem listT_size (ib io n : Nat) (its : List (Int × ByteArray)) : (listT ib io n its).size = 1 + its.length := by simp [listT, LT.size, sizes_leaf, sizes]
theorem listT_depth (ib io n : Nat) (its : List (Int × ByteArray)) : (listT ib io n its).depth ≤ 2 := by
  have := depths_leaf its
  simp only [listT, LT.depth, depths]; omega
theorem listT_depth1 (ib io n : Nat) (its : List (Int × ByteArray)) : 1 ≤ (listT ib io n its).depth := depth_pos _
def listV (ib io n : Nat) : Value := .agg #[.int .i64 5, .bool false, .slice none 0 0, .bool false, .string ⟨#[]⟩, .slice (some ⟨ib, io, none⟩) n n, .slice none 0 0]
theorem listV_cells (ib io : Nat) (its : List (Int × ByteArray)) : Value.agg (listT ib io its.length its).cells.toArray = listV ib io its.length := by
  simp [listT, LT.cells, listV, LT.k, LT.g, LT.la, LT.ln, LT.lc, LT.bb, LT.s, LT.ia, LT.items, LT.ic, LT.ta, LT.tail, LT.tc]

theorem leafRow_tail {w : World} {ib io : Nat} {x : Int × ByteArray} {l : List (Int × ByteArray)} (h : LeafRow w ib io (x :: l)) : LeafRow w ib (io + 7) l := by
  intro i y hy
  have h1 := h (i + 1) y (by simpa using hy)
  refine ⟨h1.1, fun j v hj => ?_⟩
  have h2 := h1.2 j v hj
  rwa [show io + (i + 1) * 7 + j = io + 7 + i * 7 + j by omega] at h2
theorem leafRow_lies {w : World} {M ib : Nat} (hM : ib < M) : ∀ (its : List (Int × ByteArray)) (io : Nat), (∀ x ∈ its, x.2.size ≤ maxLen) → LeafRow w ib io its → LiesR w M (its.map leafT) ib io
  | [], _, _, _ => by simp
  | x :: l, io, hs, h => by
    have h0 := h 0 x rfl
    simp only [List.map_cons, liesR_cons]
    refine ⟨lies_eq.2 ⟨hM, fun j v hj => ?_, ⟨Sl.nil, fun h => absurd h (by simp [leafT, LT.ln]), hs x (List.mem_cons_self ..)⟩, ?_, ?_, by simp [leafT, LT.items], by simp [leafT, LT.tail]⟩, leafRow_lies hM l (io + 7) (fun y hy => hs y (List.mem_cons_of_mem _ hy)) (leafRow_tail h)⟩
    · have := h0.2 j v (by simpa [leafT, LT.cells, leafC, LT.k, LT.g, LT.la, LT.ln, LT.lc, LT.bb, LT.s, LT.ia, LT.items, LT.ic, LT.ta, LT.tail, LT.tc] using hj)
      simpa using this
    · exact ⟨by simp [leafT, LT.items, LT.ic], by simp [leafT, LT.ic], fun h => absurd h (by simp [leafT, LT.items]), fun _ => rfl⟩
    · exact ⟨by simp [leafT, LT.tail, LT.tc], by simp [leafT, LT.tc], fun h => absurd h (by simp [leafT, LT.tail]), fun _ => rfl⟩
theorem list_datV {w : World} {M ib io : Nat} {its : List (Int × ByteArray)} (hM : ib < M) (hn : its.length ≤ 1000) (hs : ∀ x ∈ its, x.2.size ≤ maxLen) (h : LeafRow w ib io its) : DatV w M (listT ib io its.length its) := by
  refine ⟨⟨Sl.nil, fun h => absurd h (by simp [listT, LT.ln]), show (⟨#[]⟩ : ByteArray).size ≤ maxLen by decide⟩, ⟨by simp [listT, LT.items, LT.ic], by simp [listT, LT.ic]; unfold maxLen; omega, fun _ => ⟨rfl, hM⟩, fun h => by cases h⟩, ⟨by simp [listT, LT.tail, LT.tc], by simp [listT, LT.tc], fun h => absurd h (by simp [listT, LT.tail]), fun _ => rfl⟩, leafRow_lies hM its io hs h, by simp [listT, LT.tail]⟩

/-- What normal, and Norm, leave of such a list. -/
def NormPost (its : List (Int × ByteArray)) (w : World) (e : Ending) (w' : World) : Prop := ∃ V, e = .returned (.agg #[.int .i64 5, .bool false, .slice none 0 0, .bool false, .string ⟨#[]⟩, V, .slice none 0 0]) ∧ w'.ownsRow w.heap.size 27 7 V its.length (leafAll its) ∧ Below w.heap.size w w'

set_option maxRecDepth 100000 in
set_option maxHeartbeats 3200000 in
theorem normal_list (ib io : Nat) (its : List (Int × ByteArray)) (w : World) (hn9 : its.length ≤ 1000) (h : LeafRow w ib io its) (hib : ib < w.heap.size) :
    Calls Tryd.prog 67 #[listV ib io its.length] w (NormPost its w) := by
  unfold listV
  generalize hn : its.length = n at *
  have HN := Lib.hid hn
  have HR := Lib.hid h
  clear hn h
  go_enter Tryd.func67, Tryd.ntmps67
  go_wp2_with fail
  refine (normalList_any ib io n its _ HN.out hn9 (HR.out.below ((((Below.refl w.heap.size w).alloc (Nat.le_refl _) _).alloc (by simp) _).alloc (by simp; omega) _) hib) (by simp; omega)).mono ?_
  rintro e w1 ⟨V, rfl, own1, b1⟩
  have s1 := b1.size
  have hz3 : (((w.alloc (Obj.cells #[.int .i64 5, .bool false, .slice none 0 0, .bool false, .string ⟨#[]⟩, .slice (some ⟨ib, io, none⟩) n n, .slice none 0 0] 27)).alloc (Obj.cells #[.int .i64 0, .bool false, .slice none 0 0, .bool false, .string ⟨#[]⟩, .slice none 0 0, .slice none 0 0] 27)).alloc (Obj.cells #[.int .i64 5, .bool false, .slice none 0 0, .bool false, .string ⟨#[]⟩, .slice none 0 0, .slice none 0 0] 27)).heap.size = w.heap.size + 1 + 1 + 1 := by rw [World.size_alloc, World.size_alloc, World.size_alloc]
  have hr : w1.heap[w.heap.size + 1]? = some (.cells #[.int .i64 0, .bool false, .slice none 0 0, .bool false, .string ⟨#[]⟩, .slice none 0 0, .slice none 0 0] 27 (0, 0)) := by
    refine (b1.block _ (by rw [hz3]; omega)).trans ((Below.heap_alloc _ _ _ (by simp)).trans ?_)
    have := World.alloc_heap_new (w.alloc (Obj.cells #[.int .i64 5, .bool false, .slice none 0 0, .bool false, .string ⟨#[]⟩, .slice (some ⟨ib, io, none⟩) n n, .slice none 0 0] 27)) (Obj.cells #[.int .i64 0, .bool false, .slice none 0 0, .bool false, .string ⟨#[]⟩, .slice none 0 0, .slice none 0 0] 27)
    rwa [World.size_alloc] at this
  have hb3 : Below w.heap.size w w1 := ((((Below.refl w.heap.size w).alloc (Nat.le_refl _) _).alloc (by simp) _).alloc (by simp; omega) _).trans (b1.mono (by rw [hz3]; omega))
  rw [hz3] at own1 s1
  clear b1 hz3
  have hrs := fun j => Lib.cell_of_heap hr j
  have r0 := hrs 0; have r1 := hrs 1; have r2 := hrs 2; have r3 := hrs 3; have r4 := hrs 4; have r5 := hrs 5; have r6 := hrs 6
  have hrf := fun j => Lib.frozen_of_heap hr j
  have f0 := hrf 0; have f1 := hrf 1; have f2 := hrf 2; have f3 := hrf 3; have f4 := hrf 4; have f5 := hrf 5; have f6 := hrf 6
  simp only [List.getElem?_toArray, List.getElem?_cons_zero, List.getElem?_cons_succ] at r0 r1 r2 r3 r4 r5 r6
  have HW := Lib.hid (And.intro own1 hb3)
  have hV : (V = .slice none 0 0) ∨ ∃ g c, V = .slice (some ⟨g, 0, none⟩) n c := by
    rcases own1.2 with ⟨h, _⟩ | ⟨g, c, _, h, _⟩
    · exact .inl h
    · exact .inr ⟨g, c, h⟩
  clear hrs hrf hr own1 hb3
  rcases hV with rfl | ⟨g, c, rfl⟩
  all_goals
    go_wp2_with fail
    (try simp only [Exit.inBlock, Exit.then])
    refine bodyPost_ret (results_d rfl rfl (by go_simp) (by go_simp) (by go_simp) (by go_simp) (by go_simp) (by go_simp <;> rfl) (by go_simp)) rfl ⟨_, rfl, ?_, ?_⟩
    · rw [HN.out]
      exact own_base (ownsRow_setCell_below (a := ⟨w.heap.size + 1, 6, none⟩) (ownsRow_setCell_below (a := ⟨w.heap.size + 1, 5, none⟩) (ownsRow_setCell_below (a := ⟨w.heap.size + 1, 4, none⟩) (ownsRow_setCell_below (a := ⟨w.heap.size + 1, 3, none⟩) (ownsRow_setCell_below (a := ⟨w.heap.size + 1, 2, none⟩) (ownsRow_setCell_below (a := ⟨w.heap.size + 1, 1, none⟩) (ownsRow_setCell_below (a := ⟨w.heap.size + 1, 0, none⟩) (HW.out.1) (by show w.heap.size + 1 < w.heap.size + 1 + 1 + 1; omega) _) (by show w.heap.size + 1 < w.heap.size + 1 + 1 + 1; omega) _) (by show w.heap.size + 1 < w.heap.size + 1 + 1 + 1; omega) _) (by show w.heap.size + 1 < w.heap.size + 1 + 1 + 1; omega) _) (by show w.heap.size + 1 < w.heap.size + 1 + 1 + 1; omega) _) (by show w.heap.size + 1 < w.heap.size + 1 + 1 + 1; omega) _) (by show w.heap.size + 1 < w.heap.size + 1 + 1 + 1; omega) _) (show w.heap.size ≤ w.heap.size + 1 + 1 + 1 by omega)
    · exact (((((((HW.out.2).setCell (p := ⟨w.heap.size + 1, 0, none⟩) (by show w.heap.size ≤ w.heap.size + 1; omega) _).setCell (p := ⟨w.heap.size + 1, 1, none⟩) (by show w.heap.size ≤ w.heap.size + 1; omega) _).setCell (p := ⟨w.heap.size + 1, 2, none⟩) (by show w.heap.size ≤ w.heap.size + 1; omega) _).setCell (p := ⟨w.heap.size + 1, 3, none⟩) (by show w.heap.size ≤ w.heap.size + 1; omega) _).setCell (p := ⟨w.heap.size + 1, 4, none⟩) (by show w.heap.size ≤ w.heap.size + 1; omega) _).setCell (p := ⟨w.heap.size + 1, 5, none⟩) (by show w.heap.size ≤ w.heap.size + 1; omega) _).setCell (p := ⟨w.heap.size + 1, 6, none⟩) (by show w.heap.size ≤ w.heap.size + 1; omega) _

set_option maxRecDepth 100000 in
set_option maxHeartbeats 3200000 in
theorem norm_list (ib io : Nat) (its : List (Int × ByteArray)) (w : World) (hn9 : its.length ≤ 1000) (hs : ∀ x ∈ its, x.2.size ≤ maxLen) (h : LeafRow w ib io its) (hib : ib < w.heap.size) :
    Calls Tryd.prog 49 #[listV ib io its.length] w (NormPost its w) := by
  have hl : ∀ W, Below w.heap.size w W → Calls Tryd.prog 66 #[listV ib io its.length] W fun e w' => e = .returned (.bool true) ∧ Below W.heap.size W w' := fun W hW => by
    have := isLooked_any (listT ib io its.length its) (ib + 1) W (list_datV (by omega) hn9 hs (h.below hW hib)) (by have := hW.size; omega) (by rw [listT_size]; omega) (by have := listT_depth ib io its.length its; omega)
    rwa [listV_cells] at this
  have hnl : ∀ W, Below w.heap.size w W → Calls Tryd.prog 67 #[listV ib io its.length] W (NormPost its W) := fun W hW => normal_list ib io its W hn9 (h.below hW hib) (by have := hW.size; omega)
  have HL := Lib.hid (And.intro hl hnl)
  clear hl hnl h
  unfold listV at HL ⊢
  generalize hn : its.length = n at *
  have HN := Lib.hid hn
  clear hn
  go_enter Tryd.func49, Tryd.ntmps49
  go_wp2_with fail
  refine (HL.out.1 _ (((Below.refl w.heap.size w).alloc (Nat.le_refl _) _).alloc (by simp) _)).mono ?_
  rintro e w1 ⟨rfl, b1⟩
  have hz2 : ((w.alloc (Obj.cells #[.int .i64 5, .bool false, .slice none 0 0, .bool false, .string ⟨#[]⟩, .slice (some ⟨ib, io, none⟩) n n, .slice none 0 0] 27)).alloc (Obj.cells #[.int .i64 0, .bool false, .slice none 0 0, .bool false, .string ⟨#[]⟩, .slice none 0 0, .slice none 0 0] 27)).heap.size = w.heap.size + 1 + 1 := by rw [World.size_alloc, World.size_alloc]
  have hr1 : w1.heap[w.heap.size + 1]? = some (.cells #[.int .i64 0, .bool false, .slice none 0 0, .bool false, .string ⟨#[]⟩, .slice none 0 0, .slice none 0 0] 27 (0, 0)) := by
    refine (b1.block _ (by rw [hz2]; omega)).trans ?_
    have := World.alloc_heap_new (w.alloc (Obj.cells #[.int .i64 5, .bool false, .slice none 0 0, .bool false, .string ⟨#[]⟩, .slice (some ⟨ib, io, none⟩) n n, .slice none 0 0] 27)) (Obj.cells #[.int .i64 0, .bool false, .slice none 0 0, .bool false, .string ⟨#[]⟩, .slice none 0 0, .slice none 0 0] 27)
    rwa [World.size_alloc] at this
  have hr0 : w1.heap[w.heap.size]? = some (.cells #[.int .i64 5, .bool false, .slice none 0 0, .bool false, .string ⟨#[]⟩, .slice (some ⟨ib, io, none⟩) n n, .slice none 0 0] 27 (0, 0)) :=
    (b1.block _ (by rw [hz2]; omega)).trans ((Below.heap_alloc _ _ _ (by simp)).trans (World.alloc_heap_new w _))
  have hb1 : Below w.heap.size w w1 := (((Below.refl w.heap.size w).alloc (Nat.le_refl _) _).alloc (by simp) _).trans (b1.mono (by rw [hz2]; omega))
  have s1 : w.heap.size + 1 + 1 ≤ w1.heap.size := by have := b1.size; rw [hz2] at this; exact this
  clear b1 hz2
  have hds := fun j => Lib.cell_of_heap hr0 j
  have d0 := hds 0; have d1 := hds 1; have d2 := hds 2; have d3 := hds 3; have d4 := hds 4; have d5 := hds 5; have d6 := hds 6
  simp only [List.getElem?_toArray, List.getElem?_cons_zero, List.getElem?_cons_succ] at d0 d1 d2 d3 d4 d5 d6
  clear hds
  have HR1 := Lib.hid (And.intro hr1 hb1)
  clear hr1 hr0 hb1
  go_wp2_with fail
  refine (HL.out.2 w1 HR1.out.2).mono ?_
  rintro e w2 ⟨V, rfl, own2, b2⟩
  have s2 := b2.size
  have hr := (b2.block (w.heap.size + 1) (by omega)).trans HR1.out.1
  have hb2 : Below w.heap.size w w2 := HR1.out.2.trans (b2.mono (by omega))
  clear b2 d0 d1 d2 d3 d4 d5 d6
  have hrs := fun j => Lib.cell_of_heap hr j
  have r0 := hrs 0; have r1 := hrs 1; have r2 := hrs 2; have r3 := hrs 3; have r4 := hrs 4; have r5 := hrs 5; have r6 := hrs 6
  have hrf := fun j => Lib.frozen_of_heap hr j
  have f0 := hrf 0; have f1 := hrf 1; have f2 := hrf 2; have f3 := hrf 3; have f4 := hrf 4; have f5 := hrf 5; have f6 := hrf 6
  simp only [List.getElem?_toArray, List.getElem?_cons_zero, List.getElem?_cons_succ] at r0 r1 r2 r3 r4 r5 r6
  rw [HN.out] at own2
  have HW := Lib.hid (And.intro own2 hb2)
  have hV : (V = .slice none 0 0) ∨ ∃ g c, V = .slice (some ⟨g, 0, none⟩) n c := by
    rcases own2.2 with ⟨h, _⟩ | ⟨g, c, _, h, _⟩
    · exact .inl h
    · exact .inr ⟨g, c, h⟩
  clear hrs hrf hr own2 hb2
  rcases hV with rfl | ⟨g, c, rfl⟩
  all_goals
    go_wp2_with fail
    (try simp only [Exit.inBlock, Exit.then])
    refine bodyPost_ret (results_d rfl rfl (by go_simp) (by go_simp) (by go_simp) (by go_simp) (by go_simp) (by go_simp <;> rfl) (by go_simp)) rfl ⟨_, rfl, ?_, ?_⟩
    · rw [HN.out]
      exact own_base (ownsRow_setCell_below (a := ⟨w.heap.size + 1, 6, none⟩) (ownsRow_setCell_below (a := ⟨w.heap.size + 1, 5, none⟩) (ownsRow_setCell_below (a := ⟨w.heap.size + 1, 4, none⟩) (ownsRow_setCell_below (a := ⟨w.heap.size + 1, 3, none⟩) (ownsRow_setCell_below (a := ⟨w.heap.size + 1, 2, none⟩) (ownsRow_setCell_below (a := ⟨w.heap.size + 1, 1, none⟩) (ownsRow_setCell_below (a := ⟨w.heap.size + 1, 0, none⟩) (HW.out.1) (by show w.heap.size + 1 < w1.heap.size; omega) _) (by show w.heap.size + 1 < w1.heap.size; omega) _) (by show w.heap.size + 1 < w1.heap.size; omega) _) (by show w.heap.size + 1 < w1.heap.size; omega) _) (by show w.heap.size + 1 < w1.heap.size; omega) _) (by show w.heap.size + 1 < w1.heap.size; omega) _) (by show w.heap.size + 1 < w1.heap.size; omega) _) (show w.heap.size ≤ w1.heap.size by omega)
    · exact (((((((HW.out.2).setCell (p := ⟨w.heap.size + 1, 0, none⟩) (by show w.heap.size ≤ w.heap.size + 1; omega) _).setCell (p := ⟨w.heap.size + 1, 1, none⟩) (by show w.heap.size ≤ w.heap.size + 1; omega) _).setCell (p := ⟨w.heap.size + 1, 2, none⟩) (by show w.heap.size ≤ w.heap.size + 1; omega) _).setCell (p := ⟨w.heap.size + 1, 3, none⟩) (by show w.heap.size ≤ w.heap.size + 1; omega) _).setCell (p := ⟨w.heap.size + 1, 4, none⟩) (by show w.heap.size ≤ w.heap.size + 1; omega) _).setCell (p := ⟨w.heap.size + 1, 5, none⟩) (by show w.heap.size ≤ w.heap.size + 1; omega) _).setCell (p := ⟨w.heap.size + 1, 6, none⟩) (by show w.heap.size ≤ w.heap.size + 1; omega) _
end Go.Proofs.YtgfamihldecmbaaDoor
