/-
  datum.normal and datum.Norm of any tree (the plain seat: Held.below stands in Twd).
-/
import Derived.Test.YtgboiopkihemaaaNgw
import Derived.Test.YtgboiopkihemaaaTwd
namespace Go.Proofs.Ytgboiopkihemaaa
open Go.RowKit

set_option maxRecDepth 100000 in
set_option maxHeartbeats 3200000 in
theorem normal_list_tree (t : LT) (hk : t.k = 5) (w : World) (h : ∀ W, Below w.heap.size w W → Calls Try.prog 66 #[.agg #[.int .i64 t.k, .bool t.g, .slice t.la t.ln t.lc, .bool t.bb, .string t.s, .slice t.ia t.items.length t.ic, .slice t.ta t.tail.length t.tc]] W (NPost (normT t) W)) :
    Calls Try.prog 41 #[.agg #[.int .i64 t.k, .bool t.g, .slice t.la t.ln t.lc, .bool t.bb, .string t.s, .slice t.ia t.items.length t.ic, .slice t.ta t.tail.length t.tc]] w (NPost (normT t) w) := by
  rw [hk] at h ⊢
  generalize normT t = d at *
  have HN := Lib.hid h
  clear h hk
  go_enter Try.func41, Try.ntmps41
  go_wp2_with fail
  have hb3 : Below w.heap.size w (((w.alloc (Obj.cells #[.int .i64 5, .bool t.g, .slice t.la t.ln t.lc, .bool t.bb, .string t.s, .slice t.ia t.items.length t.ic, .slice t.ta t.tail.length t.tc] 27)).alloc (Obj.cells #[.int .i64 0, .bool false, .slice none 0 0, .bool false, .string ⟨#[]⟩, .slice none 0 0, .slice none 0 0] 27)).alloc (Obj.cells #[.int .i64 5, .bool false, .slice none 0 0, .bool false, .string ⟨#[]⟩, .slice none 0 0, .slice none 0 0] 27)) := (((Below.refl w.heap.size w).alloc (Nat.le_refl _) _).alloc (by simp) _).alloc (by simp; omega) _
  have hz3 : (((w.alloc (Obj.cells #[.int .i64 5, .bool t.g, .slice t.la t.ln t.lc, .bool t.bb, .string t.s, .slice t.ia t.items.length t.ic, .slice t.ta t.tail.length t.tc] 27)).alloc (Obj.cells #[.int .i64 0, .bool false, .slice none 0 0, .bool false, .string ⟨#[]⟩, .slice none 0 0, .slice none 0 0] 27)).alloc (Obj.cells #[.int .i64 5, .bool false, .slice none 0 0, .bool false, .string ⟨#[]⟩, .slice none 0 0, .slice none 0 0] 27)).heap.size = w.heap.size + 1 + 1 + 1 := by rw [World.size_alloc, World.size_alloc, World.size_alloc]
  have hr : (((w.alloc (Obj.cells #[.int .i64 5, .bool t.g, .slice t.la t.ln t.lc, .bool t.bb, .string t.s, .slice t.ia t.items.length t.ic, .slice t.ta t.tail.length t.tc] 27)).alloc (Obj.cells #[.int .i64 0, .bool false, .slice none 0 0, .bool false, .string ⟨#[]⟩, .slice none 0 0, .slice none 0 0] 27)).alloc (Obj.cells #[.int .i64 5, .bool false, .slice none 0 0, .bool false, .string ⟨#[]⟩, .slice none 0 0, .slice none 0 0] 27)).heap[w.heap.size + 1]? = some (Obj.cells #[.int .i64 0, .bool false, .slice none 0 0, .bool false, .string ⟨#[]⟩, .slice none 0 0, .slice none 0 0] 27) := (Below.heap_alloc _ _ _ (by simp)).trans (by have := World.alloc_heap_new (w.alloc (Obj.cells #[.int .i64 5, .bool t.g, .slice t.la t.ln t.lc, .bool t.bb, .string t.s, .slice t.ia t.items.length t.ic, .slice t.ta t.tail.length t.tc] 27)) (Obj.cells #[.int .i64 0, .bool false, .slice none 0 0, .bool false, .string ⟨#[]⟩, .slice none 0 0, .slice none 0 0] 27); rwa [World.size_alloc] at this)
  have H3 := Lib.hid (And.intro hb3 (And.intro hz3 hr))
  clear hb3 hz3 hr
  refine (HN.out _ H3.out.1).mono ?_
  rintro e w1 ⟨x', rfl, hP, hsh, b1⟩
  have hz1 : w.heap.size + 3 ≤ w1.heap.size := by have := b1.size; rw [H3.out.2.1] at this; omega
  have hr1 := (b1.block (w.heap.size + 1) (by rw [H3.out.2.1]; omega)).trans H3.out.2.2
  have hrs := fun j => Lib.cell_of_heap hr1 j
  have r0 := hrs 0; have r1 := hrs 1; have r2 := hrs 2; have r3 := hrs 3; have r4 := hrs 4; have r5 := hrs 5; have r6 := hrs 6
  have hrf := fun j => Lib.frozen_of_heap hr1 j
  have f0 := hrf 0; have f1 := hrf 1; have f2 := hrf 2; have f3 := hrf 3; have f4 := hrf 4; have f5 := hrf 5; have f6 := hrf 6
  simp only [List.getElem?_toArray, List.getElem?_cons_zero, List.getElem?_cons_succ] at r0 r1 r2 r3 r4 r5 r6
  rw [H3.out.2.1] at hP
  have HY := Lib.hid (And.intro hP (And.intro hsh (H3.out.1.trans (b1.mono (by rw [H3.out.2.1]; omega)))))
  clear hrs hrf hr1 hP hsh b1
  go_wp2_with fail
  (try simp only [Exit.inBlock, Exit.then])
  refine bodyPost_ret (v := .agg #[.int .i64 x'.k, .bool x'.g, .slice x'.la x'.ln x'.lc, .bool x'.bb, .string x'.s, .slice x'.ia x'.items.length x'.ic, .slice x'.ta x'.tail.length x'.tc]) (results_d rfl rfl (by go_simp) (by go_simp) (by go_simp) (by go_simp) (by go_simp) (by go_simp <;> rfl) (by go_simp)) rfl ⟨x', rfl, ?_, HY.out.2.1, ?_⟩
  · exact HeldP.low (U := w.heap.size + 3) HY.out.1 (set7_low (Low.refl w.heap.size (w.heap.size + 3) _) (by omega) (by omega)) (by omega)
  · exact set7_below HY.out.2.2 (by omega)

theorem normal_tree (M : Nat) : ∀ N : Nat, N ≤ 100000 → ∀ t : LT, t.size ≤ N → Tame t → ∀ w : World, M ≤ w.heap.size → Held w M t → Calls Try.prog 41 #[.agg #[.int .i64 t.k, .bool t.g, .slice t.la t.ln t.lc, .bool t.bb, .string t.s, .slice t.ia t.items.length t.ic, .slice t.ta t.tail.length t.tc]] w (NPost (normT t) w)
  | 0, _, t, ht, _, _, _, _ => by rw [t.size_eq] at ht; omega
  | N + 1, hN, t, ht, hT, w, hM, hH => by
    by_cases hk : t.k = 5
    · exact normal_list_tree t hk w fun W hb => normalList_tree M N (fun u hu hTu w hM hH => normal_tree M N (by omega) u hu hTu w hM hH) hN t ht hk hT W (Nat.le_trans hM hb.size) (hH.below hM hb)
    · exact normal_nl t hk ((tame_eq t).1 hT).1 hH.1.2.2 w hH.1.1

set_option maxRecDepth 100000 in
set_option maxHeartbeats 3200000 in
theorem norm_tree (M : Nat) (t : LT) (h1 : t.size ≤ 100000) (h2 : t.depth ≤ 10000) (hT : Tame t) (w : World) (hM : M ≤ w.heap.size) (hH : Held w M t) :
    Calls Try.prog 12 #[.agg #[.int .i64 t.k, .bool t.g, .slice t.la t.ln t.lc, .bool t.bb, .string t.s, .slice t.ia t.items.length t.ic, .slice t.ta t.tail.length t.tc]] w (NPost (normT t) w) := by
  have hl := fun W (hb : Below w.heap.size w W) => isLooked_any t M W (hH.below hM hb) (Nat.le_trans hM hb.size) h1 h2
  have hn := fun W (hb : Below w.heap.size w W) => normal_tree M 100000 (Nat.le_refl _) t h1 hT W (Nat.le_trans hM hb.size) (hH.below hM hb)
  unfold LT.cells at hl
  have HL := Lib.hid (And.intro hl hn)
  clear hl hn hH hT
  generalize normT t = d at *
  go_enter Try.func12, Try.ntmps12
  go_wp2_with fail
  have hz2 : ((w.alloc (Obj.cells #[.int .i64 t.k, .bool t.g, .slice t.la t.ln t.lc, .bool t.bb, .string t.s, .slice t.ia t.items.length t.ic, .slice t.ta t.tail.length t.tc] 27)).alloc (Obj.cells #[.int .i64 0, .bool false, .slice none 0 0, .bool false, .string ⟨#[]⟩, .slice none 0 0, .slice none 0 0] 27)).heap.size = w.heap.size + 1 + 1 := by rw [World.size_alloc, World.size_alloc]
  refine (HL.out.1 _ (((Below.refl w.heap.size w).alloc (Nat.le_refl _) _).alloc (by simp) _)).mono ?_
  rintro e w1 ⟨rfl, b1⟩
  have hr1 : w1.heap[w.heap.size + 1]? = some (Obj.cells #[.int .i64 0, .bool false, .slice none 0 0, .bool false, .string ⟨#[]⟩, .slice none 0 0, .slice none 0 0] 27) := by
    refine (b1.block _ (by rw [hz2]; omega)).trans ?_
    have := World.alloc_heap_new (w.alloc (Obj.cells #[.int .i64 t.k, .bool t.g, .slice t.la t.ln t.lc, .bool t.bb, .string t.s, .slice t.ia t.items.length t.ic, .slice t.ta t.tail.length t.tc] 27)) (Obj.cells #[.int .i64 0, .bool false, .slice none 0 0, .bool false, .string ⟨#[]⟩, .slice none 0 0, .slice none 0 0] 27)
    rwa [World.size_alloc] at this
  have hr0 : w1.heap[w.heap.size]? = some (Obj.cells #[.int .i64 t.k, .bool t.g, .slice t.la t.ln t.lc, .bool t.bb, .string t.s, .slice t.ia t.items.length t.ic, .slice t.ta t.tail.length t.tc] 27) := (b1.block _ (by rw [hz2]; omega)).trans ((Below.heap_alloc _ _ _ (by simp)).trans (World.alloc_heap_new w _))
  have hb1 : Below w.heap.size w w1 := (((Below.refl w.heap.size w).alloc (Nat.le_refl _) _).alloc (by simp) _).trans (b1.mono (by rw [hz2]; omega))
  have s1 : w.heap.size + 1 + 1 ≤ w1.heap.size := by have := b1.size; rw [hz2] at this; exact this
  clear b1 hz2
  have hds := fun j => Lib.cell_of_heap hr0 j
  have d0 := hds 0; have d1 := hds 1; have d2 := hds 2; have d3 := hds 3; have d4 := hds 4; have d5 := hds 5; have d6 := hds 6
  simp only [List.getElem?_toArray, List.getElem?_cons_zero, List.getElem?_cons_succ] at d0 d1 d2 d3 d4 d5 d6
  have HR1 := Lib.hid (And.intro hr1 hb1)
  clear hr1 hr0 hb1 hds
  go_wp2_with fail
  refine (HL.out.2 w1 HR1.out.2).mono ?_
  rintro e w2 ⟨x', rfl, hP, hsh, b2⟩
  have s2 := b2.size
  have hr := (b2.block (w.heap.size + 1) (by omega)).trans HR1.out.1
  have HY := Lib.hid (And.intro hP (And.intro hsh (HR1.out.2.trans (b2.mono (by omega)))))
  clear b2 d0 d1 d2 d3 d4 d5 d6 hP hsh
  have hrs := fun j => Lib.cell_of_heap hr j
  have r0 := hrs 0; have r1 := hrs 1; have r2 := hrs 2; have r3 := hrs 3; have r4 := hrs 4; have r5 := hrs 5; have r6 := hrs 6
  have hrf := fun j => Lib.frozen_of_heap hr j
  have f0 := hrf 0; have f1 := hrf 1; have f2 := hrf 2; have f3 := hrf 3; have f4 := hrf 4; have f5 := hrf 5; have f6 := hrf 6
  simp only [List.getElem?_toArray, List.getElem?_cons_zero, List.getElem?_cons_succ] at r0 r1 r2 r3 r4 r5 r6
  clear hrs hrf hr
  go_wp2_with fail
  (try simp only [Exit.inBlock, Exit.then])
  refine bodyPost_ret (v := .agg #[.int .i64 x'.k, .bool x'.g, .slice x'.la x'.ln x'.lc, .bool x'.bb, .string x'.s, .slice x'.ia x'.items.length x'.ic, .slice x'.ta x'.tail.length x'.tc]) (results_d rfl rfl (by go_simp) (by go_simp) (by go_simp) (by go_simp) (by go_simp) (by go_simp <;> rfl) (by go_simp)) rfl ⟨x', rfl, ?_, HY.out.2.1, ?_⟩
  · exact HeldP.low (U := w.heap.size + 2) (HY.out.1.keep (Nat.le_refl _) fun q hq => ⟨hq.low (by omega), rfl⟩) (set7_low (Low.refl w.heap.size (w.heap.size + 2) _) (by omega) (by omega)) (by omega)
  · exact set7_below HY.out.2.2 (by omega)
end Go.Proofs.Ytgboiopkihemaaa
