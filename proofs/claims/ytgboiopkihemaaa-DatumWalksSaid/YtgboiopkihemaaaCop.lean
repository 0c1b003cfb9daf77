/-
  datum.Size, datum.copied, datum.Items of any tree.
-/
import Derived.Test.YtgboiopkihemaaaTwh
namespace Go.Proofs.Ytgboiopkihemaaa
open Go.RowKit

set_option maxRecDepth 100000 in
set_option maxHeartbeats 1600000 in
theorem size_any (t : LT) (M : Nat) (w : World) (h : DatV w M t) (hM : M ≤ w.heap.size) (h1 : t.size ≤ 100000) (h2 : t.depth ≤ 100000) :
    Calls Try.prog 17 #[.agg #[.int .i64 t.k, .bool t.g, .slice t.la t.ln t.lc, .bool t.bb, .string t.s, .slice t.ia t.items.length t.ic, .slice t.ta t.tail.length t.tc]] w fun e w' => e = .returned (.int .i64 t.size) ∧ Below w.heap.size w w' := by
  have hl := h.boxed hM
  have hb0 : Below w.heap.size w (w.alloc (.cells t.cells.toArray 27)) := (Below.refl _ _).alloc (Nat.le_refl _) _
  unfold LT.cells at hl hb0
  have HL := Lib.hid hl
  have hmin : min (t.size : Int) 100000 = t.size := by omega
  clear h hl
  go_enter Try.func17, Try.ntmps17
  go_wp2_with fail
  refine (measure_any (w.heap.size + 1) w.heap.size 0 100000 100000 t _ (by simp) HL.out h1 h2 (by omega)).mono ?_
  rintro e w2 ⟨rfl, b2⟩
  have hb2 := hb0.trans (b2.mono (by simp))
  clear hb0 b2
  go_wp2_with fail
  go_ret
  exact ⟨rfl, hb2.alloc hb2.size _⟩

theorem three3 (w : World) (A B C : Obj) : ∃ w3, w3 = ((w.alloc A).alloc B).alloc C ∧ w3.heap[w.heap.size]? = some A ∧ w3.heap[w.heap.size + 1]? = some B ∧ w3.heap[w.heap.size + 2]? = some C ∧ w3.heap.size = w.heap.size + 3 ∧ Below w.heap.size w w3 ∧ Below (w.heap.size + 1) (w.alloc A) w3 := by
  have s1 : (w.alloc A).heap.size = w.heap.size + 1 := World.size_alloc ..
  have s2 : ((w.alloc A).alloc B).heap.size = w.heap.size + 2 := by rw [World.size_alloc, s1]
  refine ⟨_, rfl, ?_, ?_, ?_, by rw [World.size_alloc, s2], ?_, ?_⟩
  · exact (Below.heap_alloc _ _ _ (by omega)).trans ((Below.heap_alloc _ _ _ (by omega)).trans (World.alloc_heap_new w A))
  · exact (Below.heap_alloc _ _ _ (by omega)).trans (by have := World.alloc_heap_new (w.alloc A) B; rwa [s1] at this)
  · have := World.alloc_heap_new ((w.alloc A).alloc B) C; rwa [s2] at this
  · exact (((Below.refl w.heap.size w).alloc (Nat.le_refl _) _).alloc (by omega) _).alloc (by omega) _
  · exact ((Below.refl (w.heap.size + 1) (w.alloc A)).alloc (by omega) _).alloc (by omega) _

set_option maxRecDepth 100000 in
set_option maxHeartbeats 3200000 in
theorem copied_any (M md dd : Nat) (t : LT) (h1 : t.size ≤ md) (hmd : md ≤ 20000000) (h2 : t.depth ≤ dd) (hT : Tame t) (w : World) (hM : M ≤ w.heap.size) (hH : Held w M t) :
    Calls Try.prog 42 #[.agg #[.int .i64 t.k, .bool t.g, .slice t.la t.ln t.lc, .bool t.bb, .string t.s, .slice t.ia t.items.length t.ic, .slice t.ta t.tail.length t.tc], .agg #[.int .i64 md, .int .i64 dd]] w (NPost (shape t) w) := by
  have hl := (show DatV w M t from hH).boxed hM
  unfold LT.cells at hl
  obtain ⟨w3, hw3, a0, a1, a2, hz, hbel, hbel1⟩ := three3 w (Obj.cells #[.int .i64 t.k, .bool t.g, .slice t.la t.ln t.lc, .bool t.bb, .string t.s, .slice t.ia t.items.length t.ic, .slice t.ta t.tail.length t.tc] 27) (.cells #[.int .i64 md, .int .i64 dd] 72) (Obj.cells #[.int .i64 0, .bool false, .slice none 0 0, .bool false, .string ⟨#[]⟩, .slice none 0 0, .slice none 0 0] 27)
  have hl3 : Lies w3 (w.heap.size + 1) t w.heap.size 0 := hl.keep (by rw [hz, World.size_alloc]; omega) (fun k hk => hbel1.block k hk) _ _ _
  have htw := fun W (hb : Below w.heap.size w W) => twin_any M t (by omega) hT W (Nat.le_trans hM hb.size) (hH.below hM hb)
  have HL := Lib.hid (And.intro hl3 (And.intro a0 (And.intro a2 (And.intro hz (And.intro hbel (And.intro htw hw3))))))
  clear hl hH hT hl3 a0 a1 a2 hz hbel hbel1 htw hw3
  generalize shape t = d at *
  go_enter Try.func42, Try.ntmps42
  go_wp2_with fail
  rw [← HL.out.2.2.2.2.2.2]
  refine (measure_any (w.heap.size + 1) w.heap.size 0 md dd t w3 (by rw [HL.out.2.2.2.1]; omega) HL.out.1 h1 h2 (by omega)).mono ?_
  rintro e w4 ⟨rfl, b4⟩
  have z4 : w.heap.size + 3 ≤ w4.heap.size := by have := b4.size; rw [HL.out.2.2.2.1] at this; exact this
  have hd := (b4.block w.heap.size (by rw [HL.out.2.2.2.1]; omega)).trans HL.out.2.1
  have hr := (b4.block (w.heap.size + 2) (by rw [HL.out.2.2.2.1]; omega)).trans HL.out.2.2.1
  have hb4 : Below w.heap.size w w4 := HL.out.2.2.2.2.1.trans (b4.mono (by rw [HL.out.2.2.2.1]; omega))
  have hd5 : (w4.alloc (.cells #[.int .i64 (t.size : Nat), .int .i64 (t.depth : Nat)] 72)).heap[w.heap.size]? = some (Obj.cells #[.int .i64 t.k, .bool t.g, .slice t.la t.ln t.lc, .bool t.bb, .string t.s, .slice t.ia t.items.length t.ic, .slice t.ta t.tail.length t.tc] 27) := (Below.heap_alloc _ _ _ (by omega)).trans hd
  have hds := fun j => Lib.cell_of_heap hd5 j
  have d0 := hds 0; have d1 := hds 1; have d2 := hds 2; have d3 := hds 3; have d4 := hds 4; have d5 := hds 5; have d6 := hds 6
  simp only [List.getElem?_toArray, List.getElem?_cons_zero, List.getElem?_cons_succ] at d0 d1 d2 d3 d4 d5 d6
  have H5 := Lib.hid (And.intro hr hb4)
  clear b4 hd hr hb4 hds hd5
  go_wp2_with fail
  refine (HL.out.2.2.2.2.2.1 _ (H5.out.2.alloc H5.out.2.size _)).mono ?_
  rintro e w6 ⟨u, rfl, hP, hsh, b6⟩
  have z6 : w4.heap.size + 1 ≤ w6.heap.size := by have := b6.size; rwa [World.size_alloc] at this
  have hr6 : w6.heap[w.heap.size + 2]? = some (Obj.cells #[.int .i64 0, .bool false, .slice none 0 0, .bool false, .string ⟨#[]⟩, .slice none 0 0, .slice none 0 0] 27) := (b6.block _ (by rw [World.size_alloc]; omega)).trans ((Below.heap_alloc _ _ _ (by omega)).trans H5.out.1)
  have hrs := fun j => Lib.cell_of_heap hr6 j
  have r0 : w6.cell? ⟨w.heap.size + 1 + 1, 0, none⟩ = _ := hrs 0
  have r1 : w6.cell? ⟨w.heap.size + 1 + 1, 1, none⟩ = _ := hrs 1
  have r2 : w6.cell? ⟨w.heap.size + 1 + 1, 2, none⟩ = _ := hrs 2
  have r3 : w6.cell? ⟨w.heap.size + 1 + 1, 3, none⟩ = _ := hrs 3
  have r4 : w6.cell? ⟨w.heap.size + 1 + 1, 4, none⟩ = _ := hrs 4
  have r5 : w6.cell? ⟨w.heap.size + 1 + 1, 5, none⟩ = _ := hrs 5
  have r6 : w6.cell? ⟨w.heap.size + 1 + 1, 6, none⟩ = _ := hrs 6
  have hrf := fun j => Lib.frozen_of_heap hr6 j
  have f0 : w6.frozen? ⟨w.heap.size + 1 + 1, 0, none⟩ = _ := hrf 0
  have f1 : w6.frozen? ⟨w.heap.size + 1 + 1, 1, none⟩ = _ := hrf 1
  have f2 : w6.frozen? ⟨w.heap.size + 1 + 1, 2, none⟩ = _ := hrf 2
  have f3 : w6.frozen? ⟨w.heap.size + 1 + 1, 3, none⟩ = _ := hrf 3
  have f4 : w6.frozen? ⟨w.heap.size + 1 + 1, 4, none⟩ = _ := hrf 4
  have f5 : w6.frozen? ⟨w.heap.size + 1 + 1, 5, none⟩ = _ := hrf 5
  have f6 : w6.frozen? ⟨w.heap.size + 1 + 1, 6, none⟩ = _ := hrf 6
  simp only [List.getElem?_toArray, List.getElem?_cons_zero, List.getElem?_cons_succ] at r0 r1 r2 r3 r4 r5 r6
  rw [World.size_alloc] at hP
  have HY := Lib.hid (And.intro hP (And.intro hsh ((H5.out.2.alloc H5.out.2.size _).trans (b6.mono (by rw [World.size_alloc]; omega)))))
  clear b6 hrs hrf hr6 hP hsh d0 d1 d2 d3 d4 d5 d6
  go_wp2_with fail
  (try simp only [Exit.inBlock, Exit.then])
  refine bodyPost_ret (v := .agg #[.int .i64 u.k, .bool u.g, .slice u.la u.ln u.lc, .bool u.bb, .string u.s, .slice u.ia u.items.length u.ic, .slice u.ta u.tail.length u.tc]) (results_d rfl rfl (by go_simp) (by go_simp) (by go_simp) (by go_simp) (by go_simp) (by go_simp <;> rfl) (by go_simp)) rfl ⟨u, rfl, ?_, HY.out.2.1, ?_⟩
  · exact HeldP.low (U := w.heap.size + 3) (HY.out.1.keep (Nat.le_refl _) fun q hq => ⟨hq.low (by omega), rfl⟩) (set7_low (Low.refl w.heap.size (w.heap.size + 3) _) (by omega) (by omega)) (by omega)
  · exact set7_below HY.out.2.2 (by omega)

set_option maxRecDepth 100000 in
theorem given_any (w : World) : Calls Try.prog 43 #[] w fun e w' => e = .returned (.agg #[.int .i64 20000000, .int .i64 65537]) ∧ Below w.heap.size w w' := by
  go_enter Try.func43, Try.ntmps43
  go_wp2_with fail
  (try simp only [Exit.inBlock, Exit.then])
  refine bodyPost_ret (v := .agg #[.int .i64 20000000, .int .i64 65537]) (by simp [results, Try.results43, go_sem]) rfl ⟨rfl, ?_⟩
  repeat (first | exact Below.refl _ _ | refine Below.setCell (hp := by simp) ?_ _ | refine Below.alloc ?_ (by simp) _)
/-- The list of l, as Items makes it up. -/
def rowL (a : Option Addr) (c : Nat) (l : List LT) : LT := .mk 5 false none 0 0 [] false ⟨#[]⟩ a c l none 0 []

set_option maxRecDepth 100000 in
set_option maxHeartbeats 3200000 in
theorem items_any (M : Nat) (a : Option Addr) (c : Nat) (l : List LT) (h1 : (rowL a c l).size ≤ 20000000) (h2 : (rowL a c l).depth ≤ 65537) (hT : Tame (rowL a c l)) (w : World) (hM : M ≤ w.heap.size) (hH : Held w M (rowL a c l)) :
    Calls Try.prog 39 #[.slice a l.length c] w (NPost (shape (rowL a c l)) w) := by
  have hcp : ∀ W, Below w.heap.size w W → Calls Try.prog 42 #[.agg #[.int .i64 5, .bool false, .slice none 0 0, .bool false, .string ⟨#[]⟩, .slice a l.length c, .slice none 0 0], .agg #[.int .i64 20000000, .int .i64 65537]] W (NPost (shape (rowL a c l)) W) := fun W hb => copied_any M 20000000 65537 (rowL a c l) h1 (Nat.le_refl _) h2 hT W (Nat.le_trans hM hb.size) (hH.below hM hb)
  have HL := Lib.hid hcp
  clear hH hT hcp h1 h2
  generalize shape (rowL a c l) = d at *
  generalize l.length = n at *
  go_enter Try.func39, Try.ntmps39
  go_wp2_with fail
  have hR := World.alloc_heap_new w (Obj.cells #[.int .i64 0, .bool false, .slice none 0 0, .bool false, .string ⟨#[]⟩, .slice none 0 0, .slice none 0 0] 27)
  have hb1 : Below w.heap.size w (w.alloc (Obj.cells #[.int .i64 0, .bool false, .slice none 0 0, .bool false, .string ⟨#[]⟩, .slice none 0 0, .slice none 0 0] 27)) := (Below.refl w.heap.size w).alloc (Nat.le_refl _) _
  have HA := Lib.hid (And.intro hR hb1)
  clear hR hb1
  refine (given_any _).mono ?_
  rintro e w2 ⟨rfl, b2⟩
  have z2 : w.heap.size + 1 ≤ w2.heap.size := by have := b2.size; rwa [World.size_alloc] at this
  have HB := Lib.hid (And.intro ((b2.block w.heap.size (by rw [World.size_alloc]; omega)).trans HA.out.1) (HA.out.2.trans (b2.mono (by rw [World.size_alloc]; omega))))
  clear b2
  go_wp2_with fail
  refine (HL.out w2 HB.out.2).mono ?_
  rintro e w6 ⟨u, rfl, hP, hsh, b6⟩
  have z6 := b6.size
  have hr6 := (b6.block w.heap.size (by omega)).trans HB.out.1
  have hrs := fun j => Lib.cell_of_heap hr6 j
  have r0 := hrs 0; have r1 := hrs 1; have r2 := hrs 2; have r3 := hrs 3; have r4 := hrs 4; have r5 := hrs 5; have r6 := hrs 6
  have hrf := fun j => Lib.frozen_of_heap hr6 j
  have f0 := hrf 0; have f1 := hrf 1; have f2 := hrf 2; have f3 := hrf 3; have f4 := hrf 4; have f5 := hrf 5; have f6 := hrf 6
  simp only [List.getElem?_toArray, List.getElem?_cons_zero, List.getElem?_cons_succ] at r0 r1 r2 r3 r4 r5 r6
  have HY := Lib.hid (And.intro hP (And.intro hsh (HB.out.2.trans (b6.mono (by omega)))))
  clear b6 hrs hrf hr6 hP hsh
  go_wp2_with fail
  (try simp only [Exit.inBlock, Exit.then])
  refine bodyPost_ret (v := .agg #[.int .i64 u.k, .bool u.g, .slice u.la u.ln u.lc, .bool u.bb, .string u.s, .slice u.ia u.items.length u.ic, .slice u.ta u.tail.length u.tc]) (results_d rfl rfl (by go_simp) (by go_simp) (by go_simp) (by go_simp) (by go_simp) (by go_simp <;> rfl) (by go_simp)) rfl ⟨u, rfl, ?_, HY.out.2.1, ?_⟩
  · exact HeldP.low (U := w.heap.size + 1) (HY.out.1.keep (Nat.le_refl _) fun q hq => ⟨hq.low (by omega), rfl⟩) (set7_low (Low.refl w.heap.size (w.heap.size + 1) _) (by omega) (by omega)) (by omega)
  · exact set7_below HY.out.2.2 (by omega)
end Go.Proofs.Ytgboiopkihemaaa
