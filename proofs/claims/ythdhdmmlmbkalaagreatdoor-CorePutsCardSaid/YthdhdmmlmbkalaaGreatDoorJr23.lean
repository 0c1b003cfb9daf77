/-
  core.Write of an expression whose pen is known. pavanelaw08.lives: the document's example. pavanelaw08.CorePuts returns true.
-/
import Derived.Test.YthdhdmmlmbkalaaGreatDoorJr22
import Derived.Test.YthdhdmmlmbkalaaGreatDoorJr10
import Derived.Test.YthdhdmmlmbkalaaGreatDoorJr21
import Derived.Test.YthdhdmmlmbkalaaGreatDoorJr18
import Derived.Test.YthdhdmmlmbkalaaGreatDoorREtv
import Derived.Test.YthdhdmmlmbkalaaGreatDoorJr14
set_option linter.unusedVariables false
set_option linter.unusedSimpArgs false
set_option linter.unusedSectionVars false
set_option linter.unnecessarySimpa false
namespace Go.Proofs.YthdhdmmlmbkalaaGreatDoor
section
open Go.RowKit

set_option maxRecDepth 100000 in
set_option maxHeartbeats 1600000 in
theorem write_of (t : ET) (s : List UInt8) (h1 : t.size ≤ 100000) (h2 : t.depth ≤ 10000) (hs : s.length ≤ 1000000) (hPen : ∀ base b, PenOf base b t s) (w : World) (hH : HeldE w w.heap.size t) :
    Calls Tryz.prog 15 #[.agg #[.int .i64 t.k, .int .i64 t.d.k, .bool t.d.g, .slice t.d.la t.d.ln t.d.lc, .bool t.d.bb, .string t.d.s, .slice t.d.ia t.d.items.length t.d.ic, .slice t.d.ta t.d.tail.length t.d.tc, .int .i64 t.v, .slice t.va t.vs.length t.vc, .bool t.rs, .int .i64 t.p, .slice t.ka t.kids.length t.kc]] w fun e w' => e = .returned (.string ⟨s.toArray⟩) ∧ Below w.heap.size w w' := by
  obtain ⟨W1, hW1⟩ : ∃ W1, w.alloc (Obj.cells #[.int .i64 t.k, .int .i64 t.d.k, .bool t.d.g, .slice t.d.la t.d.ln t.d.lc, .bool t.d.bb, .string t.d.s, .slice t.d.ia t.d.items.length t.d.ic, .slice t.d.ta t.d.tail.length t.d.tc, .int .i64 t.v, .slice t.va t.vs.length t.vc, .bool t.rs, .int .i64 t.p, .slice t.ka t.kids.length t.kc] 31) = W1 := ⟨_, rfl⟩
  have hz1 : W1.heap.size = w.heap.size + 1 := by rw [← hW1, World.size_alloc]
  have hb1 : Below w.heap.size w W1 := by rw [← hW1]; exact (Below.refl _ _).alloc (Nat.le_refl _) _
  have a1 : W1.heap[w.heap.size]? = some (Obj.cells #[.int .i64 t.k, .int .i64 t.d.k, .bool t.d.g, .slice t.d.la t.d.ln t.d.lc, .bool t.d.bb, .string t.d.s, .slice t.d.ia t.d.items.length t.d.ic, .slice t.d.ta t.d.tail.length t.d.tc, .int .i64 t.v, .slice t.va t.vs.length t.vc, .bool t.rs, .int .i64 t.p, .slice t.ka t.kids.length t.kc] 31) := by rw [← hW1]; exact World.alloc_heap_new _ _
  have hlk := isLookedE_any w.heap.size t W1 (by omega) (hH.keep hb1.size fun q hq => hb1.block q hq) h1 h2
  have d0 : W1.cell? ⟨w.heap.size, 0, none⟩ = some (.int .i64 t.k) := by rw [Lib.cell_of_heap a1]; rfl
  have d1 : W1.cell? ⟨w.heap.size, 1, none⟩ = some (.int .i64 t.d.k) := by rw [Lib.cell_of_heap a1]; rfl
  have d2 : W1.cell? ⟨w.heap.size, 2, none⟩ = some (.bool t.d.g) := by rw [Lib.cell_of_heap a1]; rfl
  have d3 : W1.cell? ⟨w.heap.size, 3, none⟩ = some (.slice t.d.la t.d.ln t.d.lc) := by rw [Lib.cell_of_heap a1]; rfl
  have d4 : W1.cell? ⟨w.heap.size, 4, none⟩ = some (.bool t.d.bb) := by rw [Lib.cell_of_heap a1]; rfl
  have d5 : W1.cell? ⟨w.heap.size, 5, none⟩ = some (.string t.d.s) := by rw [Lib.cell_of_heap a1]; rfl
  have d6 : W1.cell? ⟨w.heap.size, 6, none⟩ = some (.slice t.d.ia t.d.items.length t.d.ic) := by rw [Lib.cell_of_heap a1]; rfl
  have d7 : W1.cell? ⟨w.heap.size, 7, none⟩ = some (.slice t.d.ta t.d.tail.length t.d.tc) := by rw [Lib.cell_of_heap a1]; rfl
  have d8 : W1.cell? ⟨w.heap.size, 8, none⟩ = some (.int .i64 t.v) := by rw [Lib.cell_of_heap a1]; rfl
  have d9 : W1.cell? ⟨w.heap.size, 9, none⟩ = some (.slice t.va t.vs.length t.vc) := by rw [Lib.cell_of_heap a1]; rfl
  have d10 : W1.cell? ⟨w.heap.size, 10, none⟩ = some (.bool t.rs) := by rw [Lib.cell_of_heap a1]; rfl
  have d11 : W1.cell? ⟨w.heap.size, 11, none⟩ = some (.int .i64 t.p) := by rw [Lib.cell_of_heap a1]; rfl
  have d12 : W1.cell? ⟨w.heap.size, 12, none⟩ = some (.slice t.ka t.kids.length t.kc) := by rw [Lib.cell_of_heap a1]; rfl
  have HH := Lib.hid (And.intro hlk (And.intro hb1 (And.intro a1 (And.intro hPen hH))))
  clear hlk hb1 a1 hPen hH h1 h2
  go_enter Tryz.func15, Tryz.ntmps15
  go_wp2_with fail
  refine HH.out.1.mono ?_
  rintro e w2 ⟨rfl, b2⟩
  have hz2 := b2.size
  clear d0 d1 d2 d3 d4 d5 d6 d7 d8 d9 d10 d11 d12
  have hb2 := HH.out.2.1.trans (b2.mono (by omega))
  have a2 := (b2.block w.heap.size (by omega)).trans HH.out.2.2.1
  obtain ⟨base, hbase⟩ : ∃ base, w2.heap.size = base := ⟨_, rfl⟩
  obtain ⟨W3, hW3⟩ : ∃ W3, w2.alloc (.cells #[.pointer none, .slice none 0 0] 61) = W3 := ⟨_, rfl⟩
  have hz3 : W3.heap.size = base + 1 := by rw [← hW3, World.size_alloc, hbase]
  have b3 : Below base w2 W3 := by rw [← hW3, ← hbase]; exact (Below.refl _ _).alloc (Nat.le_refl _) _
  have hbl3 : Bl base base [] W3 := by rw [← hW3, ← hbase]; exact Bl.fresh w2
  obtain ⟨W4, hW4⟩ : ∃ W4, W3.alloc (.cells #[.pointer (some ⟨base, 0, none⟩)] 63) = W4 := ⟨_, rfl⟩
  have hz4 : W4.heap.size = base + 2 := by rw [← hW4, World.size_alloc, hz3]
  have b4 : Below W3.heap.size W3 W4 := by rw [← hW4]; exact (Below.refl _ _).alloc (Nat.le_refl _) _
  have a4 : W4.heap[base + 1]? = some (.cells #[.pointer (some ⟨base, 0, none⟩)] 63 (0, 0)) := by rw [← hW4, ← hz3]; exact World.alloc_heap_new _ _
  have b24 : Below base w2 W4 := b3.trans (b4.mono (by omega))
  have x4 := (b24.block w.heap.size (by omega)).trans a2
  have hpen := HH.out.2.2.2.1 base base [] W4 (bl8_below hbl3 b4) (by omega) (by simpa using hs) ((HH.out.2.2.2.2.keep (w' := W4) (by omega) fun q hq => (b24.block q (by omega)).trans (hb2.block q hq)).upM (by omega))
  have q4 : W4.cell? ⟨base + 1, 0, none⟩ = some (.pointer (some ⟨base, 0, none⟩)) := by rw [Lib.cell_of_heap a4]; rfl
  have d0 : W4.cell? ⟨w.heap.size, 0, none⟩ = some (.int .i64 t.k) := by rw [Lib.cell_of_heap x4]; rfl
  have d1 : W4.cell? ⟨w.heap.size, 1, none⟩ = some (.int .i64 t.d.k) := by rw [Lib.cell_of_heap x4]; rfl
  have d2 : W4.cell? ⟨w.heap.size, 2, none⟩ = some (.bool t.d.g) := by rw [Lib.cell_of_heap x4]; rfl
  have d3 : W4.cell? ⟨w.heap.size, 3, none⟩ = some (.slice t.d.la t.d.ln t.d.lc) := by rw [Lib.cell_of_heap x4]; rfl
  have d4 : W4.cell? ⟨w.heap.size, 4, none⟩ = some (.bool t.d.bb) := by rw [Lib.cell_of_heap x4]; rfl
  have d5 : W4.cell? ⟨w.heap.size, 5, none⟩ = some (.string t.d.s) := by rw [Lib.cell_of_heap x4]; rfl
  have d6 : W4.cell? ⟨w.heap.size, 6, none⟩ = some (.slice t.d.ia t.d.items.length t.d.ic) := by rw [Lib.cell_of_heap x4]; rfl
  have d7 : W4.cell? ⟨w.heap.size, 7, none⟩ = some (.slice t.d.ta t.d.tail.length t.d.tc) := by rw [Lib.cell_of_heap x4]; rfl
  have d8 : W4.cell? ⟨w.heap.size, 8, none⟩ = some (.int .i64 t.v) := by rw [Lib.cell_of_heap x4]; rfl
  have d9 : W4.cell? ⟨w.heap.size, 9, none⟩ = some (.slice t.va t.vs.length t.vc) := by rw [Lib.cell_of_heap x4]; rfl
  have d10 : W4.cell? ⟨w.heap.size, 10, none⟩ = some (.bool t.rs) := by rw [Lib.cell_of_heap x4]; rfl
  have d11 : W4.cell? ⟨w.heap.size, 11, none⟩ = some (.int .i64 t.p) := by rw [Lib.cell_of_heap x4]; rfl
  have d12 : W4.cell? ⟨w.heap.size, 12, none⟩ = some (.slice t.ka t.kids.length t.kc) := by rw [Lib.cell_of_heap x4]; rfl
  have HP := Lib.hid (And.intro hpen (hb2.trans (b24.mono (by omega))))
  clear hpen b24 b4 b3 hbl3 x4 a4 hb2 a2 b2
  go_wp2_with fail
  refine HP.out.1.mono ?_
  rintro e w5 ⟨rfl, h5⟩
  have hz5 := h5.2.1.size
  have hst := built base base _ w5 h5.1 (by omega)
  rw [List.nil_append] at hst
  have HS := Lib.hid (And.intro h5 hst)
  clear h5 hst
  clear d0 d1 d2 d3 d4 d5 d6 d7 d8 d9 d10 d11 d12
  go_wp2_with fail
  refine HS.out.2.mono ?_
  rintro e w6 ⟨rfl, h6⟩
  have hb6 := HP.out.2.trans ((HS.out.1.2.1.trans h6.2.1).mono (by omega))
  go_wp2_with fail
  go_ret
  exact ⟨rfl, hb6⟩
end
end Go.Proofs.YthdhdmmlmbkalaaGreatDoor
namespace Go.Proofs.YthdhdmmlmbkalaaGreatDoor
section
open Go.RowKit

def setT (v : Int) (g : Nat) : ET := .mk 3 zD v none 0 [] false 0 (some ⟨g, 0, none⟩) 1 [varE v]
def lamT (v : Int) (gv gs gx : Nat) : ET := .mk 5 zD 0 (some ⟨gv, 0, none⟩) 1 [v] false 0 (some ⟨gs, 0, none⟩) 1 [setT v gx]
theorem lamT_lam (v : Int) (gv gs gx : Nat) : LamT v (lamT v gv gs gx) (setT v gx) (varE v) := ⟨⟨rfl, rfl, rfl, rfl, rfl, rfl, zD_zero⟩, ⟨rfl, rfl, rfl, rfl, rfl, rfl, zD_zero⟩, rfl, rfl, rfl, rfl, rfl, rfl, zD_zero⟩
theorem lamT_tame (v : Int) (gv gs gx : Nat) : TameE (lamT v gv gs gx) := by
  simp [lamT, setT, varE, TameE, TameER, FewD, zD, LT.ys, LT.items, LT.tail, LT.size_eq, LT.ln, Tame, TameR, sizes, depths, LT.depth_eq]
theorem lamT_held (v : Int) (hv : VarOk v) (gv gs gx M : Nat) (W : World) (hgv : gv < M) (hgs : gs < M) (hgx : gx < M) (h0 : W.heap[gv]? = some (.cells #[.int .i64 v] 3 (0, 0))) (h1 : W.heap[gs]? = some (.cells (setT v gx).cells.toArray 31 (0, 0))) (h2 : W.heap[gx]? = some (.cells (varE v).cells.toArray 31 (0, 0))) : HeldE W M (lamT v gv gs gx) := by
  have hml : 1 ≤ maxLen := by decide
  have v1 : LiesE W M (varE v) gx 0 := varE_lies hgx (cells_at8 h2 0 _ fun j x hj => by rw [Nat.zero_add]; exact hj)
  have s1 : LiesE W M (setT v gx) gs 0 := liesE_held.2 ⟨hgs, cells_at8 h1 0 _ fun j x hj => by rw [Nat.zero_add]; exact hj, kidsE_held rfl ⟨rfl, rfl, rfl⟩ ⟨rfl, rfl, rfl⟩ hgx (by show 1 ≤ maxLen; omega) (by show LiesER W M [varE v] gx 0; rw [liesER_cons]; exact ⟨v1, by rw [liesER_nil]; trivial⟩)⟩
  unfold VarOk at hv
  refine ⟨⟨zD_held W M, ?_⟩, ⟨Nat.le_refl _, hml, fun _ => ⟨rfl, hgs⟩, fun e => by cases e⟩, ?_⟩
  · refine ⟨⟨Nat.le_refl _, hml, fun _ => ⟨rfl, hgv⟩, fun e => by cases e⟩, fun i hi => ?_⟩
    obtain rfl : i = 0 := by simpa [lamT, ET.vs] using hi
    exact ⟨by show W.cell? ⟨gv, 0 + 0, none⟩ = _; rw [Lib.cell_of_heap h0]; rfl, by show _ ≤ v; omega, by show v ≤ _; omega⟩
  · show LiesER W M [setT v gx] gs 0
    rw [liesER_cons]
    exact ⟨s1, by rw [liesER_nil]; trivial⟩

set_option maxRecDepth 100000 in
set_option maxHeartbeats 1600000 in
theorem lives8 (w : World) : Calls Tryz.prog 7 #[] w fun e w' => e = .returned (.bool true) ∧ Below w.heap.size w w' := by
  have hlv := fun W => lawV_any 1 W
  have HL := Lib.hid hlv
  clear hlv
  go_enter Tryz.func7, Tryz.ntmps7
  go_wp2_with fail
  refine (HL.out _).mono ?_
  rintro e w1 ⟨rfl, b1⟩
  have hz0 := World.size_alloc w (.cells #[.int .i64 1] 3)
  have hb0 : Below w.heap.size w (w.alloc (.cells #[.int .i64 1] 3)) := (Below.refl _ _).alloc (Nat.le_refl _) _
  have a0 : w1.heap[w.heap.size]? = some (.cells #[.int .i64 1] 3 (0, 0)) := (b1.block _ (by omega)).trans (World.alloc_heap_new _ _)
  have hb1 : Below w.heap.size w w1 := hb0.trans (b1.mono (by omega))
  have hz1 : w.heap.size + 1 ≤ w1.heap.size := by have := b1.size; omega
  obtain ⟨W3, hW3, a1, a2, hz3, b3⟩ := two2 w1 (.cells #[.int .i64 2, .int .i64 0, .bool false, .slice none 0 0, .bool false, .string ⟨#[]⟩, .slice none 0 0, .slice none 0 0, .int .i64 1, .slice none 0 0, .bool false, .int .i64 0, .slice none 0 0] 31) (.cells #[.int .i64 3, .int .i64 0, .bool false, .slice none 0 0, .bool false, .string ⟨#[]⟩, .slice none 0 0, .slice none 0 0, .int .i64 1, .slice none 0 0, .bool false, .int .i64 0, .slice (some ⟨w1.heap.size, 0, none⟩) 1 1] 31)
  obtain ⟨W4, hW4⟩ : ∃ W4, W4 = W3.alloc (.cells #[.int .i64 5, .int .i64 0, .bool false, .slice none 0 0, .bool false, .string ⟨#[]⟩, .slice none 0 0, .slice none 0 0, .int .i64 0, .slice (some ⟨w.heap.size, 0, none⟩) 1 1, .bool false, .int .i64 0, .slice (some ⟨w1.heap.size + 1, 0, none⟩) 1 1] 31) := ⟨_, rfl⟩
  have hz4 : W4.heap.size = w1.heap.size + 3 := by rw [hW4, World.size_alloc, hz3]
  have b34 : Below W3.heap.size W3 W4 := by rw [hW4]; exact (Below.refl _ _).alloc (Nat.le_refl _) _
  have a4 : W4.heap[w1.heap.size + 2]? = some (.cells #[.int .i64 5, .int .i64 0, .bool false, .slice none 0 0, .bool false, .string ⟨#[]⟩, .slice none 0 0, .slice none 0 0, .int .i64 0, .slice (some ⟨w.heap.size, 0, none⟩) 1 1, .bool false, .int .i64 0, .slice (some ⟨w1.heap.size + 1, 0, none⟩) 1 1] 31 (0, 0)) := by rw [hW4, ← hz3]; exact World.alloc_heap_new _ _
  have hall : Below w.heap.size w W4 := hb1.trans ((b3.mono (by omega)).trans (b34.mono (by omega)))
  have hheld : HeldE W4 W4.heap.size (lamT 1 w.heap.size (w1.heap.size + 1) w1.heap.size) := lamT_held 1 ⟨by omega, by omega⟩ _ _ _ _ W4 (by omega) (by omega) (by omega) ((b34.block _ (by omega)).trans ((b3.block _ (by omega)).trans a0)) ((b34.block _ (by omega)).trans a2) ((b34.block _ (by omega)).trans a1)
  have hbox := boxes_lam 1 ⟨by omega, by omega⟩ (by omega) _ _ _ (lamT_lam 1 w.heap.size (w1.heap.size + 1) w1.heap.size) (lamT_tame _ _ _ _) W4 hheld
  rw [hW3] at hW4
  have HB := Lib.hid (And.intro hW4 (And.intro hbox hall))
  clear b1 hz0 hb0 a0 hb1 hW3 hW4 a1 a2 hz3 b3 b34 a4 hall hheld hbox
  go_wp2_with fail
  rw [← HB.out.1]
  refine HB.out.2.1.mono ?_
  rintro e w5 ⟨u, S', X', B, g1, g2, g3, g4, rfl, hB, hLam, hBH, b5⟩
  have hva : ∃ vb vo, u.va = some ⟨vb, vo, none⟩ := by
    have h := hBH.1.2.1.2.2.1
    rw [hB] at h
    have h := h (by show 0 < u.vs.length; rw [hLam.t.2.2.1]; exact Nat.one_pos)
    exact ⟨_, _, h.1⟩
  have hka : ∃ sb so, u.ka = some ⟨sb, so, none⟩ := by
    have h := hBH.2.1.2.2.1
    rw [hB] at h
    have h := h Nat.one_pos
    exact ⟨_, _, h.1⟩
  obtain ⟨vb, vo, hva⟩ := hva
  obtain ⟨sb, so, hka⟩ := hka
  obtain ⟨W6, hW6⟩ : ∃ W6, w5.alloc (Obj.cells #[.int .i64 B.k, .int .i64 B.d.k, .bool B.d.g, .slice B.d.la B.d.ln B.d.lc, .bool B.d.bb, .string B.d.s, .slice B.d.ia B.d.items.length B.d.ic, .slice B.d.ta B.d.tail.length B.d.tc, .int .i64 B.v, .slice B.va B.vs.length B.vc, .bool B.rs, .int .i64 B.p, .slice B.ka B.kids.length B.kc] 31) = W6 := ⟨_, rfl⟩
  have hz6 : W6.heap.size = w5.heap.size + 1 := by rw [← hW6, World.size_alloc]
  have b6 : Below w5.heap.size w5 W6 := by rw [← hW6]; exact (Below.refl _ _).alloc (Nat.le_refl _) _
  have x6 : W6.heap[w5.heap.size]? = some (Obj.cells #[.int .i64 B.k, .int .i64 B.d.k, .bool B.d.g, .slice B.d.la B.d.ln B.d.lc, .bool B.d.bb, .string B.d.s, .slice B.d.ia B.d.items.length B.d.ic, .slice B.d.ta B.d.tail.length B.d.tc, .int .i64 B.v, .slice B.va B.vs.length B.vc, .bool B.rs, .int .i64 B.p, .slice B.ka B.kids.length B.kc] 31) := by rw [← hW6]; exact World.alloc_heap_new _ _
  have hpen : ∀ base b, PenOf base b B _ := fun base b => by rw [hB]; exact pen_box base b g1 g2 g3 g4 vb vo sb so u S' X' hLam hva hka
  have hwr := write_of B _ (by rw [hB, hLam.boxSize]; omega) (by rw [hB]; exact Nat.le_trans (boxT_depth u S' X' 1 _ hLam g1 g2 g3 g4) (by omega)) (by simp) hpen W6 ((hBH.keep b6.size fun q hq => b6.block q hq).upM (by omega))
  have hb6 : Below w.heap.size w W6 := HB.out.2.2.trans ((b5.mono HB.out.2.2.size).trans (b6.mono (by have := HB.out.2.2.size; have := b5.size; omega)))
  have d0 : W6.cell? ⟨w5.heap.size, 0, none⟩ = some (.int .i64 B.k) := by rw [Lib.cell_of_heap x6]; rfl
  have d1 : W6.cell? ⟨w5.heap.size, 1, none⟩ = some (.int .i64 B.d.k) := by rw [Lib.cell_of_heap x6]; rfl
  have d2 : W6.cell? ⟨w5.heap.size, 2, none⟩ = some (.bool B.d.g) := by rw [Lib.cell_of_heap x6]; rfl
  have d3 : W6.cell? ⟨w5.heap.size, 3, none⟩ = some (.slice B.d.la B.d.ln B.d.lc) := by rw [Lib.cell_of_heap x6]; rfl
  have d4 : W6.cell? ⟨w5.heap.size, 4, none⟩ = some (.bool B.d.bb) := by rw [Lib.cell_of_heap x6]; rfl
  have d5 : W6.cell? ⟨w5.heap.size, 5, none⟩ = some (.string B.d.s) := by rw [Lib.cell_of_heap x6]; rfl
  have d6 : W6.cell? ⟨w5.heap.size, 6, none⟩ = some (.slice B.d.ia B.d.items.length B.d.ic) := by rw [Lib.cell_of_heap x6]; rfl
  have d7 : W6.cell? ⟨w5.heap.size, 7, none⟩ = some (.slice B.d.ta B.d.tail.length B.d.tc) := by rw [Lib.cell_of_heap x6]; rfl
  have d8 : W6.cell? ⟨w5.heap.size, 8, none⟩ = some (.int .i64 B.v) := by rw [Lib.cell_of_heap x6]; rfl
  have d9 : W6.cell? ⟨w5.heap.size, 9, none⟩ = some (.slice B.va B.vs.length B.vc) := by rw [Lib.cell_of_heap x6]; rfl
  have d10 : W6.cell? ⟨w5.heap.size, 10, none⟩ = some (.bool B.rs) := by rw [Lib.cell_of_heap x6]; rfl
  have d11 : W6.cell? ⟨w5.heap.size, 11, none⟩ = some (.int .i64 B.p) := by rw [Lib.cell_of_heap x6]; rfl
  have d12 : W6.cell? ⟨w5.heap.size, 12, none⟩ = some (.slice B.ka B.kids.length B.kc) := by rw [Lib.cell_of_heap x6]; rfl
  have HW := Lib.hid (And.intro hwr hb6)
  clear hwr hb6 hpen x6 b6 hBH b5 hB hLam hva hka hz6
  go_wp2_with fail
  refine HW.out.1.mono ?_
  rintro e w7 ⟨rfl, b7⟩
  have hb7 := HW.out.2.trans (b7.mono HW.out.2.size)
  go_wp2_with fail
  go_ret
  exact ⟨rfl, hb7⟩
end
end Go.Proofs.YthdhdmmlmbkalaaGreatDoor
namespace Go.Proofs.YthdhdmmlmbkalaaGreatDoor
section
open Go.RowKit

theorem light_short {a x : ET} (h : lightE [a, x] = true) : shortE a = true ∧ shortE x = true := by
  simp only [lightE, List.all_cons, List.all_nil, Bool.and_true, Bool.and_eq_true, decide_eq_true_eq] at h
  exact ⟨h.1.2, h.2.2⟩
theorem corePuts_true (a x : ET) (pa : Option Addr) (pc : Nat) (path : List Int) (w : World) (hA : HeldE w w.heap.size a) (hTa : TamesE a) (hX : HeldE w w.heap.size x) (hTx : TamesE x) (hP : IntsAt w w.heap.size pa pc path) :
    Calls Tryz.prog 4 #[.agg #[.int .i64 a.k, .int .i64 a.d.k, .bool a.d.g, .slice a.d.la a.d.ln a.d.lc, .bool a.d.bb, .string a.d.s, .slice a.d.ia a.d.items.length a.d.ic, .slice a.d.ta a.d.tail.length a.d.tc, .int .i64 a.v, .slice a.va a.vs.length a.vc, .bool a.rs, .int .i64 a.p, .slice a.ka a.kids.length a.kc], .agg #[.int .i64 x.k, .int .i64 x.d.k, .bool x.d.g, .slice x.d.la x.d.ln x.d.lc, .bool x.d.bb, .string x.d.s, .slice x.d.ia x.d.items.length x.d.ic, .slice x.d.ta x.d.tail.length x.d.tc, .int .i64 x.v, .slice x.va x.vs.length x.vc, .bool x.rs, .int .i64 x.p, .slice x.ka x.kids.length x.kc], .slice pa path.length pc] w fun e w' => e = .returned (.bool true) ∧ Below w.heap.size w w' :=
  corePuts_walk lives8 w.heap.size a x (fun h => tameE_of_short a (light_short h).1 hTa) (fun h => tameE_of_short x (light_short h).2 hTx) pa pc path w (Nat.le_refl _) hA hX hP
end
end Go.Proofs.YthdhdmmlmbkalaaGreatDoor
