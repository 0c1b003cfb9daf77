/-
  copied of pavanelaw03, walked.
-/
import Derived.Test.YtgboiopkihemaaaCpd
namespace Go.Proofs.Ytgboiopkihemaaa
open Go.RowKit

def CopyTo (M N : Nat) : Prop := ∀ u : LT, u.size ≤ N → Tame u → ∀ w : World, M ≤ w.heap.size → Held w M u → Calls Try.prog 18 #[.agg #[.int .i64 u.k, .bool u.g, .slice u.la u.ln u.lc, .bool u.bb, .string u.s, .slice u.ia u.items.length u.ic, .slice u.ta u.tail.length u.tc]] w (NPost (trimD (shape u)) w)
set_option maxRecDepth 100000 in
set_option maxHeartbeats 25600000 in
theorem copied_walk (M N : Nat) (hN : N ≤ 90000) (ih : CopyTo M N) (k : Int) (g bb : Bool) (s : ByteArray) (la ia ta : Option Addr) (ln lc n m ic tc : Nat) (ys : List Nat) (items tail : List LT) (w : World) (hM : M ≤ w.heap.size)
    (hn : items.length = n) (hm : tail.length = m) (h1 : sizes items ≤ N) (h2 : sizes tail ≤ N) (hT : TameR items ∧ TameR tail) (hs : s.size ≤ maxLen)
    (hN1 : ∀ W, Below w.heap.size w W → Calls Try.prog 48 #[.slice la ln lc] W (Gives W (val ys)))
    (hH : Spot M ia n ic ∧ Spot M ta m tc ∧ LiesR w M items (blk ia) (ofs ia) ∧ LiesR w M tail (blk ta) (ofs ta)) :
    Calls Try.prog 18 #[.agg #[.int .i64 k, .bool g, .slice la ln lc, .bool bb, .string s, .slice ia n ic, .slice ta m tc]] w (NPost (.mk k g (limbs (val ys)) bb s (trimsD (shapes items)) (trimsD (shapes tail))) w) := by
  have g1 := sizes_ge items
  have g2 := sizes_ge tail
  obtain ⟨W3, hW3, a0, a1, a2, hz3, hbel3, _⟩ := three3 w (.cells #[.int .i64 k, .bool g, .slice la ln lc, .bool bb, .string s, .slice ia n ic, .slice ta m tc] 27) (Obj.cells #[.int .i64 0, .bool false, .slice none 0 0, .bool false, .string ⟨#[]⟩, .slice none 0 0, .slice none 0 0] 27) (.cells #[.int .i64 k, .bool g, .slice la ln lc, .bool bb, .string s, .slice ia n ic, .slice ta m tc] 27)
  have HA := Lib.hid (And.intro a0 (And.intro a1 (And.intro a2 (And.intro hz3 hbel3))))
  have HW := Lib.hid hW3
  have HN := Lib.hid hN1
  have HH := Lib.hid hH
  have HT := Lib.hid hT
  have IH := Lib.hid ih
  clear a0 a1 a2 hz3 hbel3 hW3 hN1 hH hT ih
  go_enter Try.func18, Try.ntmps18
  go_wp2_with fail
  rw [← HW.out]
  refine (HN.out W3 HA.out.2.2.2.2).mono ?_
  rintro e w4 ⟨v, rfl, hnew, b4⟩
  obtain ⟨A0, n0, c0, rfl, hsl, hor⟩ := hnew
  have z4 : w.heap.size + 3 ≤ w4.heap.size := by have := b4.size; rw [HA.out.2.2.2.1] at this; exact this
  have x0 := (b4.block w.heap.size (by rw [HA.out.2.2.2.1]; omega)).trans HA.out.1
  have x1 := (b4.block (w.heap.size + 1) (by rw [HA.out.2.2.2.1]; omega)).trans HA.out.2.1
  have x2 := (b4.block (w.heap.size + 2) (by rw [HA.out.2.2.2.1]; omega)).trans HA.out.2.2.1
  have hb4 : Below w.heap.size w w4 := HA.out.2.2.2.2.trans (b4.mono (by rw [HA.out.2.2.2.1]; omega))
  rw [HA.out.2.2.2.1] at hor
  have c5 := Lib.cell_of_heap x0 5
  have hds := fun j => Lib.cell_of_heap x2 j
  have r0 : w4.cell? ⟨w.heap.size + 1 + 1, 0, none⟩ = _ := hds 0
  have r2 : w4.cell? ⟨w.heap.size + 1 + 1, 2, none⟩ = _ := hds 2
  have r5 : w4.cell? ⟨w.heap.size + 1 + 1, 5, none⟩ = _ := hds 5
  have r6 : w4.cell? ⟨w.heap.size + 1 + 1, 6, none⟩ = _ := hds 6
  have hfs := fun j => Lib.frozen_of_heap x2 j
  have f2 : w4.frozen? ⟨w.heap.size + 1 + 1, 2, none⟩ = _ := hfs 2
  have f5 : w4.frozen? ⟨w.heap.size + 1 + 1, 5, none⟩ = _ := hfs 5
  have f6 : w4.frozen? ⟨w.heap.size + 1 + 1, 6, none⟩ = _ := hfs 6
  simp only [List.getElem?_toArray, List.getElem?_cons_zero, List.getElem?_cons_succ] at c5 r0 r2 r5 r6
  have H4 := Lib.hid (And.intro x0 (And.intro x1 (And.intro x2 (And.intro hb4 (And.intro hsl hor)))))
  clear x0 x1 x2 hb4 hsl hor b4 hds hfs
  go_wp2_with fail
  have y2 : (((w4.setCell ⟨w.heap.size + 1 + 1, 2, none⟩ (.slice A0 n0 c0)).setCell ⟨w.heap.size + 1 + 1, 5, none⟩ (.slice none 0 0)).setCell ⟨w.heap.size + 1 + 1, 6, none⟩ (.slice none 0 0)).heap[w.heap.size + 1 + 1]? = some (.cells #[.int .i64 k, .bool g, .slice A0 n0 c0, .bool bb, .string s, .slice none 0 0, .slice none 0 0] 27 (0, 0)) := by
    have h := H4.out.2.2.1
    simp [World.setCell, Array.getElem?_modify, h]
  have yo : ∀ i, i ≠ w.heap.size + 1 + 1 → (((w4.setCell ⟨w.heap.size + 1 + 1, 2, none⟩ (.slice A0 n0 c0)).setCell ⟨w.heap.size + 1 + 1, 5, none⟩ (.slice none 0 0)).setCell ⟨w.heap.size + 1 + 1, 6, none⟩ (.slice none 0 0)).heap[i]? = w4.heap[i]? := fun i hi => (Below.heap_setCell _ _ _ _ hi).trans ((Below.heap_setCell _ _ _ _ hi).trans (Below.heap_setCell _ _ _ _ hi))
  have ysz : (((w4.setCell ⟨w.heap.size + 1 + 1, 2, none⟩ (.slice A0 n0 c0)).setCell ⟨w.heap.size + 1 + 1, 5, none⟩ (.slice none 0 0)).setCell ⟨w.heap.size + 1 + 1, 6, none⟩ (.slice none 0 0)).heap.size = w4.heap.size := by simp [setCell_size]
  have yb : Below w.heap.size w (((w4.setCell ⟨w.heap.size + 1 + 1, 2, none⟩ (.slice A0 n0 c0)).setCell ⟨w.heap.size + 1 + 1, 5, none⟩ (.slice none 0 0)).setCell ⟨w.heap.size + 1 + 1, 6, none⟩ (.slice none 0 0)) := ((H4.out.2.2.2.1.setCell (p := ⟨w.heap.size + 1 + 1, 2, none⟩) (by show w.heap.size ≤ w.heap.size + 1 + 1; omega) _).setCell (p := ⟨w.heap.size + 1 + 1, 5, none⟩) (by show w.heap.size ≤ w.heap.size + 1 + 1; omega) _).setCell (p := ⟨w.heap.size + 1 + 1, 6, none⟩) (by show w.heap.size ≤ w.heap.size + 1 + 1; omega) _
  generalize (((w4.setCell ⟨w.heap.size + 1 + 1, 2, none⟩ (.slice A0 n0 c0)).setCell ⟨w.heap.size + 1 + 1, 5, none⟩ (.slice none 0 0)).setCell ⟨w.heap.size + 1 + 1, 6, none⟩ (.slice none 0 0)) = w5 at y2 yo ysz yb ⊢
  obtain ⟨Bq, hBq⟩ : ∃ Bq, w5.heap.size = Bq + 3 := ⟨w5.heap.size - 3, by omega⟩
  have HB5 := Lib.hid (And.intro ((yo w.heap.size (by omega)).trans H4.out.1) (And.intro ((yo (w.heap.size + 1) (by omega)).trans H4.out.2.1) (And.intro yb (fun i (hi : i ≠ w.heap.size + 1 + 1) => yo i hi))))
  clear c5 r0 r2 r5 r6 f2 f5 f6 yo yb
  go_loopw [20] (fun i wr => CpRel w.heap.size Bq (w.heap.size + 1 + 1) (fun V => #[.int .i64 k, .bool g, .slice A0 n0 c0, .bool bb, .string s, V, .slice none 0 0]) items w w5 i wr) (fun i _ => n - (intOf i).toNat)
  case atStart =>
    refine ⟨0, .slice none 0 0, [], Nat.zero_le _, rfl, y2, ⟨World.ownsRow_nil _ _ _ _, fun _ h => by cases h⟩, Lib.hid (by simp [shapes, trimsD]), rfl, Lib.hid fun _ _ _ => rfl, by omega, HB5.out.2.2.1⟩
  case round =>
    obtain ⟨q, V, ts, hq, rfl, kX, kR, kS, klen, kK, ksz, kbel⟩ := hrel
    by_cases hlt : q < n
    · obtain ⟨ab, ao, hae, hR1⟩ : ∃ ab ao, ia = some ⟨ab, ao, none⟩ ∧ LiesR w M items ab ao := ⟨_, _, (HH.out.1.2.2.1 (by omega)).1, HH.out.2.2.1⟩
      subst hae
      have hq1 : q < items.length := by omega
      obtain ⟨hgbM, hcx, hhx⟩ := lies_held.1 ((liesR_iff _ _ _).1 hR1 q hq1)
      have hsz := size_in items q hq1
      have htx := tameR_at items q hq1 HT.out.1
      obtain ⟨x, hx⟩ : ∃ x, items[q] = x := ⟨_, rfl⟩
      rw [hx] at hcx hhx hsz htx
      rw [Nat.mul_comm 7 q] at hcx
      have hc : ∀ j v, x.cells[j]? = some v → wr.cell? ⟨ab, ao + q * 7 + j, none⟩ = some v := fun j v hj => (kbel.cell (p := ⟨ab, ao + q * 7 + j, none⟩) (by show ab < _; omega)).trans (hcx j v hj)
      have d0 : wr.cell? ⟨ab, ao + q * 7, none⟩ = some (.int .i64 x.k) := hc 0 _ rfl
      have d1 : wr.cell? ⟨ab, ao + q * 7 + 1, none⟩ = some (.bool x.g) := hc 1 _ rfl
      have d2 : wr.cell? ⟨ab, ao + q * 7 + 2, none⟩ = some (.slice x.la x.ln x.lc) := hc 2 _ rfl
      have d3 : wr.cell? ⟨ab, ao + q * 7 + 3, none⟩ = some (.bool x.bb) := hc 3 _ rfl
      have d4 : wr.cell? ⟨ab, ao + q * 7 + 4, none⟩ = some (.string x.s) := hc 4 _ rfl
      have d5 : wr.cell? ⟨ab, ao + q * 7 + 5, none⟩ = some (.slice x.ia x.items.length x.ic) := hc 5 _ rfl
      have d6 : wr.cell? ⟨ab, ao + q * 7 + 6, none⟩ = some (.slice x.ta x.tail.length x.tc) := hc 6 _ rfl
      have hbw6 : Below wr.heap.size wr (wr.alloc (Obj.cells #[.int .i64 x.k, .bool x.g, .slice x.la x.ln x.lc, .bool x.bb, .string x.s, .slice x.ia x.items.length x.ic, .slice x.ta x.tail.length x.tc] 27)) := (Below.refl _ wr).alloc (Nat.le_refl _) _
      have hbelS := kbel.size
      have hX2 : w.heap.size + 1 + 1 < wr.heap.size := (Array.getElem?_eq_some_iff.1 kX).1
      have HC := Lib.hid (IH.out x (by omega) htx (wr.alloc (Obj.cells #[.int .i64 x.k, .bool x.g, .slice x.la x.ln x.lc, .bool x.bb, .string x.s, .slice x.ia x.items.length x.ic, .slice x.ta x.tail.length x.tc] 27)).drew (by show M ≤ (wr.alloc (Obj.cells #[.int .i64 x.k, .bool x.g, .slice x.la x.ln x.lc, .bool x.bb, .string x.s, .slice x.ia x.items.length x.ic, .slice x.ta x.tail.length x.tc] 27)).heap.size; have := hbw6.size; omega) (Held.keep (w := w) hhx (by show w.heap.size ≤ (wr.alloc (Obj.cells #[.int .i64 x.k, .bool x.g, .slice x.la x.ln x.lc, .bool x.bb, .string x.s, .slice x.ia x.items.length x.ic, .slice x.ta x.tail.length x.tc] 27)).heap.size; have := hbw6.size; omega) fun p hp => (by show (wr.alloc (Obj.cells #[.int .i64 x.k, .bool x.g, .slice x.la x.ln x.lc, .bool x.bb, .string x.s, .slice x.ia x.items.length x.ic, .slice x.ta x.tail.length x.tc] 27)).heap[p]? = w.heap[p]?; exact (hbw6.block p (by omega)).trans (kbel.block p (by omega)))))
      have hxe := Lib.hid hx
      clear hcx hhx hsz htx hc hR1 hx
      go_wp2_with fail
      have own6 : (wr.alloc (Obj.cells #[.int .i64 x.k, .bool x.g, .slice x.la x.ln x.lc, .bool x.bb, .string x.s, .slice x.ia x.items.length x.ic, .slice x.ta x.tail.length x.tc] 27)).ownsRow (Bq + 3) 27 7 V ts.length (cellsAll ts) := kR.1.alloc _
      have e5 : (wr.alloc (Obj.cells #[.int .i64 x.k, .bool x.g, .slice x.la x.ln x.lc, .bool x.bb, .string x.s, .slice x.ia x.items.length x.ic, .slice x.ta x.tail.length x.tc] 27)).cell? ⟨w.heap.size + 1 + 1, 5, none⟩ = some V := (hbw6.cell (p := ⟨w.heap.size + 1 + 1, 5, none⟩) hX2).trans (by rw [Lib.cell_of_heap kX]; rfl)
      have f5 : (wr.alloc (Obj.cells #[.int .i64 x.k, .bool x.g, .slice x.la x.ln x.lc, .bool x.bb, .string x.s, .slice x.ia x.items.length x.ic, .slice x.ta x.tail.length x.tc] 27)).frozen? ⟨w.heap.size + 1 + 1, 5, none⟩ = false := (hbw6.frozen (p := ⟨w.heap.size + 1 + 1, 5, none⟩) hX2).trans (Lib.frozen_of_heap kX 5)
      have hcc := fun j => Lib.cell_of_heap (World.alloc_heap_new wr (Obj.cells #[.int .i64 x.k, .bool x.g, .slice x.la x.ln x.lc, .bool x.bb, .string x.s, .slice x.ia x.items.length x.ic, .slice x.ta x.tail.length x.tc] 27)) j
      have g0 := hcc 0; have g1 := hcc 1; have g2 := hcc 2; have g3 := hcc 3; have g4 := hcc 4; have g5 := hcc 5; have g6 := hcc 6
      have hz6 : (wr.alloc (Obj.cells #[.int .i64 x.k, .bool x.g, .slice x.la x.ln x.lc, .bool x.bb, .string x.s, .slice x.ia x.items.length x.ic, .slice x.ta x.tail.length x.tc] 27)).heap.size = wr.heap.size + 1 := World.size_alloc ..
      simp only [List.getElem?_toArray, List.getElem?_cons_zero, List.getElem?_cons_succ] at g0 g1 g2 g3 g4 g5 g6
      obtain ⟨W6, hW6⟩ : ∃ W6, wr.alloc (Obj.cells #[.int .i64 x.k, .bool x.g, .slice x.la x.ln x.lc, .bool x.bb, .string x.s, .slice x.ia x.items.length x.ic, .slice x.ta x.tail.length x.tc] 27) = W6 := ⟨_, rfl⟩
      rw [hW6] at own6 hbw6 e5 f5 g0 g1 g2 g3 g4 g5 g6 hz6 HC ⊢
      have HI := Lib.hid (And.intro kX (And.intro kbel hbw6))
      have HO := Lib.hid own6
      have HR := Lib.hid kR
      have neB : some (w.heap.size + 1 + 1) ≠ V.ownBlock := fun h => by have := kR.1.lt _ h.symm; omega
      have neI : some wr.heap.size ≠ V.ownBlock := fun h => by have := kR.1.lt _ h.symm; omega
      have hts9 : ts.length ≤ 100000 := by omega
      clear hcc d0 d1 d2 d3 d4 d5 d6 kX kbel kR own6 hW6 hbw6
      have hzW : wr.heap.size < W6.heap.size := by omega
      generalize hmm : ts.length = m0 at *
      have HMM := Lib.hid hmm
      clear hmm
      obtain ⟨i0, hi0, hz0, hz1, hz2⟩ := info_parts infoD
      have hmix : Try.prog.follows .mixedOrders = true := by kernel_rfl
      have e5d : W6.drew.cell? ⟨w.heap.size + 1 + 1, 5, none⟩ = some V := e5
      have g0d := show W6.drew.cell? ⟨wr.heap.size, 0, none⟩ = _ from g0
      have g1d := show W6.drew.cell? ⟨wr.heap.size, 1, none⟩ = _ from g1
      have g2d := show W6.drew.cell? ⟨wr.heap.size, 2, none⟩ = _ from g2
      have g3d := show W6.drew.cell? ⟨wr.heap.size, 3, none⟩ = _ from g3
      have g4d := show W6.drew.cell? ⟨wr.heap.size, 4, none⟩ = _ from g4
      have g5d := show W6.drew.cell? ⟨wr.heap.size, 5, none⟩ = _ from g5
      have g6d := show W6.drew.cell? ⟨wr.heap.size, 6, none⟩ = _ from g6
      go_region_law
        (first
          | (refine step_call 18 #[.agg #[.int .i64 x.k, .bool x.g, .slice x.la x.ln x.lc, .bool x.bb, .string x.s, .slice x.ia x.items.length x.ic, .slice x.ta x.tail.length x.tc]] (by rfl) (by simp [execOp, Act.eval, go_sem]) (HC.out.mono ?_); rintro e w7 ⟨x', rfl, hP7, hsh7, b7⟩; refine ⟨_, rfl, ?_⟩; have c7 : Below W6.heap.size W6 w7 := (⟨b7.os, b7.tape, b7.output, b7.size, b7.block⟩); clear b7; have r0 := (c7.cell (p := ⟨wr.heap.size, 0, none⟩) (by show wr.heap.size < W6.heap.size; omega)).trans g0; have r1 := (c7.cell (p := ⟨wr.heap.size, 1, none⟩) (by show wr.heap.size < W6.heap.size; omega)).trans g1; have r2 := (c7.cell (p := ⟨wr.heap.size, 2, none⟩) (by show wr.heap.size < W6.heap.size; omega)).trans g2; have r3 := (c7.cell (p := ⟨wr.heap.size, 3, none⟩) (by show wr.heap.size < W6.heap.size; omega)).trans g3; have r4 := (c7.cell (p := ⟨wr.heap.size, 4, none⟩) (by show wr.heap.size < W6.heap.size; omega)).trans g4; have r5 := (c7.cell (p := ⟨wr.heap.size, 5, none⟩) (by show wr.heap.size < W6.heap.size; omega)).trans g5; have r6 := (c7.cell (p := ⟨wr.heap.size, 6, none⟩) (by show wr.heap.size < W6.heap.size; omega)).trans g6; have e7 := (c7.cell (p := ⟨w.heap.size + 1 + 1, 5, none⟩) (by show w.heap.size + 1 + 1 < W6.heap.size; omega)).trans e5; have e7a : ∀ o : Obj, (w7.alloc o).cell? ⟨w.heap.size + 1 + 1, 5, none⟩ = some V := fun o => (World.cell?_of_block (w := w7) (Below.heap_alloc w7 o _ (by have := c7.size; show w.heap.size + 1 + 1 < w7.heap.size; omega))).trans e7; have HP7 := Lib.hid (And.intro hP7 hsh7); clear hP7 hsh7)
          | (refine step_append_lies _ (by rfl) (.tmp 25) (.tmp 28) 25 (by rfl) (Bq + 3) 27 i0 (.agg #[.int .i64 0, .bool false, .slice none 0 0, .bool false, .string ⟨#[]⟩, .slice none 0 0, .slice none 0 0]) 7 112 Try.underlying25 hi0 hz0 hz1 hz2 rfl (by omega) V m0 (cellsAll ts) (by rfl) ((own_below7 HO.out c7).alloc _)
              ⟨w7.heap.size, 0, none⟩ 1 1 x'.cells (by rfl) (by rfl) (cells_news (heap_alloc_new _ _)) (lt_one _) (by omega) (by unfold maxLen; omega) (by omega) (by have := c7.size; simp; omega) (w7.heap.size + 1) (by simp) ?_; intro gg cap w8 own8 hgrow8 hat hlt8; have e8 := after_app c7 hgrow8 e5 neB; have f8 := frozen_app (a := ⟨w.heap.size + 1 + 1, 5, none⟩) c7 hgrow8 (by show w.heap.size + 1 + 1 < W6.heap.size; omega) f5 neB; have h0 := after_app c7 hgrow8 g0 neI; have h1 := after_app c7 hgrow8 g1 neI; have h2 := after_app c7 hgrow8 g2 neI; have h3 := after_app c7 hgrow8 g3 neI; have h4 := after_app c7 hgrow8 g4 neI; have h5' := after_app c7 hgrow8 g5 neI; have h6 := after_app c7 hgrow8 g6 neI; have far8 : ∀ (x : Value) (j : Nat), (w8.setCell ⟨w.heap.size + 1 + 1, 5, none⟩ x).cell? ⟨wr.heap.size, j, none⟩ = w8.cell? ⟨wr.heap.size, j, none⟩ := fun x j => World.cell?_of_block (Below.heap_setCell _ _ _ _ (by show wr.heap.size ≠ w.heap.size + 1 + 1; omega)))
          | fail)
      all_goals
        go_wp2_with fail
        go_roundw
        case rel =>
          obtain rfl := HMM.out
          obtain rfl := klen
          exact cp_next (fld := 5) (C := (fun V => #[.int .i64 k, .bool g, .slice A0 n0 c0, .bool bb, .string s, V, .slice none 0 0])) hq1 (by omega) (by omega) (fun V V' => by simp) HI.out.1 ksz HI.out.2.2 hzW HR.out HP7.out.1 c7 hgrow8 hat own8 kS.out (by rw [hxe.out]; exact HP7.out.2) rfl kK.out HI.out.2.1 _ (by omega)
        case measure => simp [intOf]; omega
    · have hqn : q = items.length := by omega
      have hS1 : shapes ts = trimsD (shapes items) := by have h := kS.out; rwa [hqn, List.take_length] at h
      obtain ⟨ia1, ic1, rfl, hsp1, hll1⟩ := row_parts kR
      have hB0 := (kK.out w.heap.size (by omega) (by omega)).trans HB5.out.1
      have hB1 := (kK.out (w.heap.size + 1) (by omega) (by omega)).trans HB5.out.2.1
      have q6 := Lib.cell_of_heap hB0 6
      simp only [List.getElem?_toArray, List.getElem?_cons_zero, List.getElem?_cons_succ] at q6
      obtain ⟨ts1, hts1⟩ : ∃ x, x = ts := ⟨_, rfl⟩
      rw [← hts1] at hS1 hsp1 hll1 kX klen kR
      obtain ⟨w1, hw1⟩ : ∃ x, x = wr := ⟨_, rfl⟩
      rw [← hw1] at hsp1 hll1 kX kK kbel ksz hB0 hB1 q6 kR ⊢
      obtain ⟨Bp, hBp⟩ : ∃ Bp, w1.heap.size = Bp + 3 := ⟨w1.heap.size - 3, by omega⟩
      have H1 := Lib.hid (And.intro hS1 (And.intro hsp1 (And.intro hll1 (And.intro hB1 kK.out))))
      have hl1 : ts1.length = n := by omega
      clear hS1 hsp1 hll1 hB0 hB1 hw1 hts1 kS kK kR hqn hq
      go_wp2_with fail
      clear q6 hlt
      go_loopw [35] (fun i wr => CpRel w.heap.size Bp (w.heap.size + 1 + 1) (fun V => #[.int .i64 k, .bool g, .slice A0 n0 c0, .bool bb, .string s, .slice ia1 ts1.length ic1, V]) tail w w1 i wr) (fun i _ => m - (intOf i).toNat)
      case atStart =>
        refine ⟨0, .slice none 0 0, [], Nat.zero_le _, rfl, kX, ⟨World.ownsRow_nil _ _ _ _, fun _ h => by cases h⟩, Lib.hid (by simp [shapes, trimsD]), rfl, Lib.hid fun _ _ _ => rfl, by omega, kbel⟩
      case round =>
        obtain ⟨q, V, ts, hq, rfl, kX, kR, kS, klen, kK, ksz, kbel⟩ := hrel
        by_cases hlt : q < m
        · obtain ⟨ab, ao, hae, hR1⟩ : ∃ ab ao, ta = some ⟨ab, ao, none⟩ ∧ LiesR w M tail ab ao := ⟨_, _, (HH.out.2.1.2.2.1 (by omega)).1, HH.out.2.2.2⟩
          subst hae
          have hq1 : q < tail.length := by omega
          obtain ⟨hgbM, hcx, hhx⟩ := lies_held.1 ((liesR_iff _ _ _).1 hR1 q hq1)
          have hsz := size_in tail q hq1
          have htx := tameR_at tail q hq1 HT.out.2
          obtain ⟨x, hx⟩ : ∃ x, tail[q] = x := ⟨_, rfl⟩
          rw [hx] at hcx hhx hsz htx
          rw [Nat.mul_comm 7 q] at hcx
          have hc : ∀ j v, x.cells[j]? = some v → wr.cell? ⟨ab, ao + q * 7 + j, none⟩ = some v := fun j v hj => (kbel.cell (p := ⟨ab, ao + q * 7 + j, none⟩) (by show ab < _; omega)).trans (hcx j v hj)
          have d0 : wr.cell? ⟨ab, ao + q * 7, none⟩ = some (.int .i64 x.k) := hc 0 _ rfl
          have d1 : wr.cell? ⟨ab, ao + q * 7 + 1, none⟩ = some (.bool x.g) := hc 1 _ rfl
          have d2 : wr.cell? ⟨ab, ao + q * 7 + 2, none⟩ = some (.slice x.la x.ln x.lc) := hc 2 _ rfl
          have d3 : wr.cell? ⟨ab, ao + q * 7 + 3, none⟩ = some (.bool x.bb) := hc 3 _ rfl
          have d4 : wr.cell? ⟨ab, ao + q * 7 + 4, none⟩ = some (.string x.s) := hc 4 _ rfl
          have d5 : wr.cell? ⟨ab, ao + q * 7 + 5, none⟩ = some (.slice x.ia x.items.length x.ic) := hc 5 _ rfl
          have d6 : wr.cell? ⟨ab, ao + q * 7 + 6, none⟩ = some (.slice x.ta x.tail.length x.tc) := hc 6 _ rfl
          have hbw6 : Below wr.heap.size wr (wr.alloc (Obj.cells #[.int .i64 x.k, .bool x.g, .slice x.la x.ln x.lc, .bool x.bb, .string x.s, .slice x.ia x.items.length x.ic, .slice x.ta x.tail.length x.tc] 27)) := (Below.refl _ wr).alloc (Nat.le_refl _) _
          have hbelS := kbel.size
          have hX2 : w.heap.size + 1 + 1 < wr.heap.size := (Array.getElem?_eq_some_iff.1 kX).1
          have HC := Lib.hid (IH.out x (by omega) htx (wr.alloc (Obj.cells #[.int .i64 x.k, .bool x.g, .slice x.la x.ln x.lc, .bool x.bb, .string x.s, .slice x.ia x.items.length x.ic, .slice x.ta x.tail.length x.tc] 27)).drew (by show M ≤ (wr.alloc (Obj.cells #[.int .i64 x.k, .bool x.g, .slice x.la x.ln x.lc, .bool x.bb, .string x.s, .slice x.ia x.items.length x.ic, .slice x.ta x.tail.length x.tc] 27)).heap.size; have := hbw6.size; omega) (Held.keep (w := w) hhx (by show w.heap.size ≤ (wr.alloc (Obj.cells #[.int .i64 x.k, .bool x.g, .slice x.la x.ln x.lc, .bool x.bb, .string x.s, .slice x.ia x.items.length x.ic, .slice x.ta x.tail.length x.tc] 27)).heap.size; have := hbw6.size; omega) fun p hp => (by show (wr.alloc (Obj.cells #[.int .i64 x.k, .bool x.g, .slice x.la x.ln x.lc, .bool x.bb, .string x.s, .slice x.ia x.items.length x.ic, .slice x.ta x.tail.length x.tc] 27)).heap[p]? = w.heap[p]?; exact (hbw6.block p (by omega)).trans (kbel.block p (by omega)))))
          have hxe := Lib.hid hx
          clear hcx hhx hsz htx hc hR1 hx
          go_wp2_with fail
          have own6 : (wr.alloc (Obj.cells #[.int .i64 x.k, .bool x.g, .slice x.la x.ln x.lc, .bool x.bb, .string x.s, .slice x.ia x.items.length x.ic, .slice x.ta x.tail.length x.tc] 27)).ownsRow (Bp + 3) 27 7 V ts.length (cellsAll ts) := kR.1.alloc _
          have e5 : (wr.alloc (Obj.cells #[.int .i64 x.k, .bool x.g, .slice x.la x.ln x.lc, .bool x.bb, .string x.s, .slice x.ia x.items.length x.ic, .slice x.ta x.tail.length x.tc] 27)).cell? ⟨w.heap.size + 1 + 1, 6, none⟩ = some V := (hbw6.cell (p := ⟨w.heap.size + 1 + 1, 6, none⟩) hX2).trans (by rw [Lib.cell_of_heap kX]; rfl)
          have f5 : (wr.alloc (Obj.cells #[.int .i64 x.k, .bool x.g, .slice x.la x.ln x.lc, .bool x.bb, .string x.s, .slice x.ia x.items.length x.ic, .slice x.ta x.tail.length x.tc] 27)).frozen? ⟨w.heap.size + 1 + 1, 6, none⟩ = false := (hbw6.frozen (p := ⟨w.heap.size + 1 + 1, 6, none⟩) hX2).trans (Lib.frozen_of_heap kX 6)
          have hcc := fun j => Lib.cell_of_heap (World.alloc_heap_new wr (Obj.cells #[.int .i64 x.k, .bool x.g, .slice x.la x.ln x.lc, .bool x.bb, .string x.s, .slice x.ia x.items.length x.ic, .slice x.ta x.tail.length x.tc] 27)) j
          have g0 := hcc 0; have g1 := hcc 1; have g2 := hcc 2; have g3 := hcc 3; have g4 := hcc 4; have g5 := hcc 5; have g6 := hcc 6
          have hz6 : (wr.alloc (Obj.cells #[.int .i64 x.k, .bool x.g, .slice x.la x.ln x.lc, .bool x.bb, .string x.s, .slice x.ia x.items.length x.ic, .slice x.ta x.tail.length x.tc] 27)).heap.size = wr.heap.size + 1 := World.size_alloc ..
          simp only [List.getElem?_toArray, List.getElem?_cons_zero, List.getElem?_cons_succ] at g0 g1 g2 g3 g4 g5 g6
          obtain ⟨W6, hW6⟩ : ∃ W6, wr.alloc (Obj.cells #[.int .i64 x.k, .bool x.g, .slice x.la x.ln x.lc, .bool x.bb, .string x.s, .slice x.ia x.items.length x.ic, .slice x.ta x.tail.length x.tc] 27) = W6 := ⟨_, rfl⟩
          rw [hW6] at own6 hbw6 e5 f5 g0 g1 g2 g3 g4 g5 g6 hz6 HC ⊢
          have HI := Lib.hid (And.intro kX (And.intro kbel hbw6))
          have HO := Lib.hid own6
          have HR := Lib.hid kR
          have neB : some (w.heap.size + 1 + 1) ≠ V.ownBlock := fun h => by have := kR.1.lt _ h.symm; omega
          have neI : some wr.heap.size ≠ V.ownBlock := fun h => by have := kR.1.lt _ h.symm; omega
          have hts9 : ts.length ≤ 100000 := by omega
          clear hcc d0 d1 d2 d3 d4 d5 d6 kX kbel kR own6 hW6 hbw6
          have hzW : wr.heap.size < W6.heap.size := by omega
          generalize hmm : ts.length = m0 at *
          have HMM := Lib.hid hmm
          clear hmm
          obtain ⟨i0, hi0, hz0, hz1, hz2⟩ := info_parts infoD
          have hmix : Try.prog.follows .mixedOrders = true := by kernel_rfl
          have e5d : W6.drew.cell? ⟨w.heap.size + 1 + 1, 6, none⟩ = some V := e5
          have g0d := show W6.drew.cell? ⟨wr.heap.size, 0, none⟩ = _ from g0
          have g1d := show W6.drew.cell? ⟨wr.heap.size, 1, none⟩ = _ from g1
          have g2d := show W6.drew.cell? ⟨wr.heap.size, 2, none⟩ = _ from g2
          have g3d := show W6.drew.cell? ⟨wr.heap.size, 3, none⟩ = _ from g3
          have g4d := show W6.drew.cell? ⟨wr.heap.size, 4, none⟩ = _ from g4
          have g5d := show W6.drew.cell? ⟨wr.heap.size, 5, none⟩ = _ from g5
          have g6d := show W6.drew.cell? ⟨wr.heap.size, 6, none⟩ = _ from g6
          go_region_law
            (first
              | (refine step_call 18 #[.agg #[.int .i64 x.k, .bool x.g, .slice x.la x.ln x.lc, .bool x.bb, .string x.s, .slice x.ia x.items.length x.ic, .slice x.ta x.tail.length x.tc]] (by rfl) (by simp [execOp, Act.eval, go_sem]) (HC.out.mono ?_); rintro e w7 ⟨x', rfl, hP7, hsh7, b7⟩; refine ⟨_, rfl, ?_⟩; have c7 : Below W6.heap.size W6 w7 := (⟨b7.os, b7.tape, b7.output, b7.size, b7.block⟩); clear b7; have r0 := (c7.cell (p := ⟨wr.heap.size, 0, none⟩) (by show wr.heap.size < W6.heap.size; omega)).trans g0; have r1 := (c7.cell (p := ⟨wr.heap.size, 1, none⟩) (by show wr.heap.size < W6.heap.size; omega)).trans g1; have r2 := (c7.cell (p := ⟨wr.heap.size, 2, none⟩) (by show wr.heap.size < W6.heap.size; omega)).trans g2; have r3 := (c7.cell (p := ⟨wr.heap.size, 3, none⟩) (by show wr.heap.size < W6.heap.size; omega)).trans g3; have r4 := (c7.cell (p := ⟨wr.heap.size, 4, none⟩) (by show wr.heap.size < W6.heap.size; omega)).trans g4; have r5 := (c7.cell (p := ⟨wr.heap.size, 5, none⟩) (by show wr.heap.size < W6.heap.size; omega)).trans g5; have r6 := (c7.cell (p := ⟨wr.heap.size, 6, none⟩) (by show wr.heap.size < W6.heap.size; omega)).trans g6; have e7 := (c7.cell (p := ⟨w.heap.size + 1 + 1, 6, none⟩) (by show w.heap.size + 1 + 1 < W6.heap.size; omega)).trans e5; have e7a : ∀ o : Obj, (w7.alloc o).cell? ⟨w.heap.size + 1 + 1, 6, none⟩ = some V := fun o => (World.cell?_of_block (w := w7) (Below.heap_alloc w7 o _ (by have := c7.size; show w.heap.size + 1 + 1 < w7.heap.size; omega))).trans e7; have HP7 := Lib.hid (And.intro hP7 hsh7); clear hP7 hsh7)
              | (refine step_append_lies _ (by rfl) (.tmp 40) (.tmp 43) 25 (by rfl) (Bp + 3) 27 i0 (.agg #[.int .i64 0, .bool false, .slice none 0 0, .bool false, .string ⟨#[]⟩, .slice none 0 0, .slice none 0 0]) 7 112 Try.underlying25 hi0 hz0 hz1 hz2 rfl (by omega) V m0 (cellsAll ts) (by rfl) ((own_below7 HO.out c7).alloc _)
                  ⟨w7.heap.size, 0, none⟩ 1 1 x'.cells (by rfl) (by rfl) (cells_news (heap_alloc_new _ _)) (lt_one _) (by omega) (by unfold maxLen; omega) (by omega) (by have := c7.size; simp; omega) (w7.heap.size + 1) (by simp) ?_; intro gg cap w8 own8 hgrow8 hat hlt8; have e8 := after_app c7 hgrow8 e5 neB; have f8 := frozen_app (a := ⟨w.heap.size + 1 + 1, 6, none⟩) c7 hgrow8 (by show w.heap.size + 1 + 1 < W6.heap.size; omega) f5 neB; have h0 := after_app c7 hgrow8 g0 neI; have h1 := after_app c7 hgrow8 g1 neI; have h2 := after_app c7 hgrow8 g2 neI; have h3 := after_app c7 hgrow8 g3 neI; have h4 := after_app c7 hgrow8 g4 neI; have h5' := after_app c7 hgrow8 g5 neI; have h6 := after_app c7 hgrow8 g6 neI; have far8 : ∀ (x : Value) (j : Nat), (w8.setCell ⟨w.heap.size + 1 + 1, 6, none⟩ x).cell? ⟨wr.heap.size, j, none⟩ = w8.cell? ⟨wr.heap.size, j, none⟩ := fun x j => World.cell?_of_block (Below.heap_setCell _ _ _ _ (by show wr.heap.size ≠ w.heap.size + 1 + 1; omega)))
              | fail)
          all_goals
            go_wp2_with fail
            go_roundw
            case rel =>
              obtain rfl := HMM.out
              obtain rfl := klen
              exact cp_next (fld := 6) (C := (fun V => #[.int .i64 k, .bool g, .slice A0 n0 c0, .bool bb, .string s, .slice ia1 ts1.length ic1, V])) hq1 (by omega) (by omega) (fun V V' => by simp) HI.out.1 ksz HI.out.2.2 hzW HR.out HP7.out.1 c7 hgrow8 hat own8 kS.out (by rw [hxe.out]; exact HP7.out.2) rfl kK.out HI.out.2.1 _ (by omega)
            case measure => simp [intOf]; omega
        · have hqm : q = tail.length := by omega
          have hS2 : shapes ts = trimsD (shapes tail) := by have h := kS.out; rwa [hqm, List.take_length] at h
          obtain ⟨ia2, ic2, rfl, hsp2, hll2⟩ := row_parts kR
          have hB1 := (kK.out (w.heap.size + 1) (by omega) (by omega)).trans H1.out.2.2.2.1
          have hrs := fun j => Lib.cell_of_heap hB1 j
          have r0 := hrs 0; have r1 := hrs 1; have r2 := hrs 2; have r3 := hrs 3; have r4 := hrs 4; have r5 := hrs 5; have r6 := hrs 6
          have hrf := fun j => Lib.frozen_of_heap hB1 j
          have f0 := hrf 0; have f1 := hrf 1; have f2 := hrf 2; have f3 := hrf 3; have f4 := hrf 4; have f5 := hrf 5; have f6 := hrf 6
          have hxs := fun j => Lib.cell_of_heap kX j
          have x0 := hxs 0; have x1 := hxs 1; have x2 := hxs 2; have x3 := hxs 3; have x4 := hxs 4; have x5 := hxs 5; have x6 := hxs 6
          simp only [List.getElem?_toArray, List.getElem?_cons_zero, List.getElem?_cons_succ] at r0 r1 r2 r3 r4 r5 r6 x0 x1 x2 x3 x4 x5 x6
          have hkeep : ∀ i, w.heap.size + 3 ≤ i → i < Bp + 3 → wr.heap[i]? = w1.heap[i]? := fun i h1 h2 => kK.out i h2 (by omega)
          have hkeep1 : ∀ i, w.heap.size + 3 ≤ i → i < Bq + 3 → wr.heap[i]? = w4.heap[i]? := fun i h1 h2 => (hkeep i h1 (by omega)).trans ((H1.out.2.2.2.2 i h2 (by omega)).trans (HB5.out.2.2.2 i (by omega)))
          have hfr : ∀ i, Fresh w1 (Bq + 3) i → Fresh wr (w.heap.size + 3) i ∧ wr.heap[i]? = w1.heap[i]? := fun i hi => by
            have e := hkeep i (by have := hi.1; omega) (by have := hi.lt; omega)
            exact ⟨(hi.same e).low (by omega), e⟩
          have hbk : 0 < n0 → Fresh wr (w.heap.size + 3) (blk A0) ∧ wr.heap[blk A0]? = w4.heap[blk A0]? := fun hp => by
            rcases H4.out.2.2.2.2.2 with ⟨h1, h2⟩ | ⟨gg, cur, rfl, hg, hgc, _⟩
            · have h3 := H4.out.2.2.2.2.1.le
              omega
            · have e := hkeep1 gg hg (by have := (Array.getElem?_eq_some_iff.1 hgc).1; omega)
              exact ⟨Fresh.of hg (e.trans hgc) (by decide), e⟩
          have hU : HeldP wr (Fresh wr (w.heap.size + 3)) (.mk k g A0 n0 c0 (limbs (val ys)) bb s ia1 ic1 ts1 ia2 ic2 ts) := by
            refine ⟨⟨?_, fun hp => ?_, hs⟩, ⟨H1.out.2.1.1, H1.out.2.1.2.1, fun hp => ⟨(H1.out.2.1.2.2.1 hp).1, (hfr _ (H1.out.2.1.2.2.1 hp).2).1⟩, H1.out.2.1.2.2.2⟩, ⟨hsp2.1, hsp2.2.1, fun hp => ⟨(hsp2.2.2.1 hp).1, (hsp2.2.2.1 hp).2.low (by omega)⟩, hsp2.2.2.2⟩, LiesPR.keep (by omega) hfr ts1 _ _ H1.out.2.2.1, LiesPR.keep (Nat.le_refl _) (fun i hi => ⟨hi.low (by omega), rfl⟩) ts _ _ hll2⟩
            · exact Sl.keepB H4.out.2.2.2.2.1 (by omega) fun hp => (hbk hp).2
            · exact (hbk hp).1
          have HU := Lib.hid (And.intro hU (And.intro (show shape (.mk k g A0 n0 c0 (limbs (val ys)) bb s ia1 ic1 ts1 ia2 ic2 ts) = .mk k g (limbs (val ys)) bb s (trimsD (shapes items)) (trimsD (shapes tail)) by simp only [shape]; rw [H1.out.1, hS2]) kbel))
          clear hrs hrf hxs hkeep hkeep1 hfr hbk hU hS2 hsp2 hll2 kR kS kK kX kbel hB1
          go_wp2_with fail
          (try simp only [Exit.inBlock, Exit.then])
          refine bodyPost_ret (v := .agg #[.int .i64 k, .bool g, .slice A0 n0 c0, .bool bb, .string s, .slice ia1 ts1.length ic1, .slice ia2 ts.length ic2]) (results_d rfl rfl (by go_simp) (by go_simp) (by go_simp) (by go_simp) (by go_simp) (by go_simp <;> rfl) (by go_simp)) rfl ⟨_, rfl, ?_, HU.out.2.1, ?_⟩
          · exact HeldP.low (U := w.heap.size + 3) HU.out.1 (set7_low (Low.refl w.heap.size (w.heap.size + 3) _) (by omega) (by omega)) (by omega)
          · exact set7_below HU.out.2.2 (by omega)
theorem copied_all (M : Nat) : ∀ N : Nat, N ≤ 90000 → CopyTo M N
  | 0, _, u, hu, _, _, _, _ => by rw [u.size_eq] at hu; omega
  | N + 1, hN, u, hu, hTu, w, hM, hU => by
    have hsu := u.size_eq
    obtain ⟨ta1, ta2, ta3⟩ := (tame_eq u).1 hTu
    have e : trimD (shape u) = .mk u.k u.g (limbs (val u.ys)) u.bb u.s (trimsD (shapes u.items)) (trimsD (shapes u.tail)) := by rw [shape_eq]; simp only [trimD]
    rw [e]
    exact copied_walk M N (by omega) (copied_all M N (by omega)) u.k u.g u.bb u.s u.la u.ia u.ta u.ln u.lc _ _ u.ic u.tc u.ys u.items u.tail w hM rfl rfl (by omega) (by omega) ⟨ta2, ta3⟩ hU.1.2.2 (fun W hb => rnorm_num ⟨u.la, u.ln, u.lc, u.ys, rfl, hU.1.1.below hb, rfl, ta1⟩ (by decide)) hU.2
end Go.Proofs.Ytgboiopkihemaaa
