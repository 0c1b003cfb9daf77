/-
  datum.Depth, datum.isLookedAt; datum.normal of a symbol or a string.
-/
import Derived.Test.YtlohdglhebplfaaGreatDoorMeas
namespace Go.Proofs.YtlohdglhebplfaaGreatDoor
open Go.RowKit

theorem Spot.mono {M M' : Nat} {a : Option Addr} {n c : Nat} (h : Spot M a n c) (hM : M ≤ M') : Spot M' a n c := ⟨h.1, h.2.1, fun hn => ⟨(h.2.2.1 hn).1, by have := (h.2.2.1 hn).2; omega⟩, h.2.2.2⟩
mutual
theorem Lies.mono {w : World} {M M' : Nat} (hM : M ≤ M') : ∀ (t : LT) (b o : Nat), Lies w M t b o → Lies w M' t b o
  | .mk k g la ln lc ys bb s ia ic items ta tc tail, b, o, h => by
    simp only [Lies] at h ⊢
    obtain ⟨h1, h2, h3, h4, h5, h6, h7⟩ := h
    exact ⟨by omega, h2, ⟨h3.1, fun h => by have := h3.2.1 h; omega, h3.2.2⟩, h4.mono hM, h5.mono hM, LiesR.mono hM items _ _ h6, LiesR.mono hM tail _ _ h7⟩
theorem LiesR.mono {w : World} {M M' : Nat} (hM : M ≤ M') : ∀ (l : List LT) (b o : Nat), LiesR w M l b o → LiesR w M' l b o
  | [], _, _, _ => by simp [LiesR]
  | t :: l, b, o, h => by
    simp only [LiesR] at h ⊢
    exact ⟨Lies.mono hM t b o h.1, LiesR.mono hM l b (o + 7) h.2⟩
end

/-- A datum that is handed on by value: what it leads to lies below M. -/
def DatV (w : World) (M : Nat) (t : LT) : Prop := (Sl w t.la t.ln t.lc t.ys ∧ (0 < t.ln → blk t.la < M) ∧ t.s.size ≤ maxLen) ∧ Spot M t.ia t.items.length t.ic ∧ Spot M t.ta t.tail.length t.tc ∧ LiesR w M t.items (blk t.ia) (ofs t.ia) ∧ LiesR w M t.tail (blk t.ta) (ofs t.ta)
theorem Lies.datV {w : World} {M b o : Nat} {t : LT} (h : Lies w M t b o) : DatV w M t := (lies_eq.1 h).2.2
theorem DatV.keep {w w' : World} {M : Nat} {t : LT} (h : DatV w M t) (hs : w.heap.size ≤ w'.heap.size) (hk : ∀ k, k < M → w'.heap[k]? = w.heap[k]?) : DatV w' M t :=
  ⟨⟨h.1.1.keepM hs h.1.2.1 hk, h.1.2⟩, h.2.1, h.2.2.1, LiesR.keep hs hk _ _ _ h.2.2.2.1, LiesR.keep hs hk _ _ _ h.2.2.2.2⟩
theorem DatV.below {w w' : World} {M : Nat} {t : LT} (h : DatV w M t) (hM : M ≤ w.heap.size) (hb : Below w.heap.size w w') : DatV w' M t := h.keep hb.size (fun k hk => hb.block k (by omega))
/-- What boxing does. -/
theorem DatV.boxed {w : World} {M : Nat} {t : LT} (h : DatV w M t) (hM : M ≤ w.heap.size) : Lies (w.alloc (.cells t.cells.toArray 31)) (w.heap.size + 1) t w.heap.size 0 := by
  have hb : Below w.heap.size w (w.alloc (.cells t.cells.toArray 31)) := (Below.refl _ _).alloc (Nat.le_refl _) _
  have hk : ∀ k, k < M → (w.alloc (.cells t.cells.toArray 31)).heap[k]? = w.heap[k]? := fun k hk => hb.block k (by omega)
  obtain ⟨h1, h2, h3, h4, h5⟩ := h.keep hb.size hk
  refine lies_eq.2 ⟨by omega, fun j v hj => ?_, ⟨h1.1, fun h => by have := h1.2.1 h; omega, h1.2.2⟩, h2.mono (by omega), h3.mono (by omega), LiesR.mono (by omega) _ _ _ h4, LiesR.mono (by omega) _ _ _ h5⟩
  rw [Nat.zero_add, Lib.cell_of_heap (World.alloc_heap_new w _)]
  simpa using hj

theorem looked_any (w : World) : Calls Tryz.prog 175 #[] w fun e w' => e = .returned (.agg #[.int .i64 100000, .int .i64 10000]) ∧ Below w.heap.size w w' := by
  go_enter Tryz.func175, Tryz.ntmps175
  go_wp2_with fail
  (try simp only [Exit.inBlock, Exit.then])
  refine bodyPost_ret (v := .agg #[.int .i64 100000, .int .i64 10000]) (by simp [results, Tryz.results175, go_sem]) rfl ⟨rfl, ?_⟩
  repeat (first | exact Below.refl _ _ | refine Below.setCell (hp := by simp) ?_ _ | refine Below.alloc ?_ (by simp) _)

set_option maxRecDepth 100000 in
set_option maxHeartbeats 1600000 in
theorem depth_any (t : LT) (M : Nat) (w : World) (h : DatV w M t) (hM : M ≤ w.heap.size) (h1 : t.size ≤ 100000) (h2 : t.depth ≤ 10000) :
    Calls Tryz.prog 204 #[.agg t.cells.toArray] w fun e w' => e = .returned (.int .i64 t.depth) ∧ Below w.heap.size w w' := by
  have hl := h.boxed hM
  have hb0 : Below w.heap.size w (w.alloc (.cells t.cells.toArray 31)) := (Below.refl _ _).alloc (Nat.le_refl _) _
  unfold LT.cells at hl hb0 ⊢
  have HL := Lib.hid hl
  clear h hl
  go_enter Tryz.func204, Tryz.ntmps204
  go_wp2_with fail
  refine (looked_any _).mono ?_
  rintro e w1 ⟨rfl, b1⟩
  have z1 : w.heap.size + 1 ≤ w1.heap.size := by have := b1.size; simp at this; omega
  have HL1 := Lib.hid (HL.out.keep b1.size (fun k hk => b1.block k (by simp; omega)) _ _ _)
  have hb1 := hb0.trans (b1.mono (by simp))
  clear b1 hb0
  go_wp2_with fail
  refine (measure_any (w.heap.size + 1) w.heap.size 0 100000 10000 t _ z1 HL1.out h1 h2 (by omega)).mono ?_
  rintro e w2 ⟨rfl, b2⟩
  have hb2 := hb1.trans (b2.mono (by omega))
  clear hb1 b2
  go_wp2_with fail
  go_ret
  exact ⟨rfl, hb2.alloc hb2.size _⟩

set_option maxRecDepth 100000 in
set_option maxHeartbeats 1600000 in
theorem isLooked_any (t : LT) (M : Nat) (w : World) (h : DatV w M t) (hM : M ≤ w.heap.size) (h1 : t.size ≤ 100000) (h2 : t.depth ≤ 10000) :
    Calls Tryz.prog 133 #[.agg t.cells.toArray] w fun e w' => e = .returned (.bool true) ∧ Below w.heap.size w w' := by
  have hl := h.boxed hM
  have hb0 : Below w.heap.size w (w.alloc (.cells t.cells.toArray 31)) := (Below.refl _ _).alloc (Nat.le_refl _) _
  unfold LT.cells at hl hb0 ⊢
  have HL := Lib.hid hl
  clear h hl
  go_enter Tryz.func133, Tryz.ntmps133
  go_wp2_with fail
  refine (looked_any _).mono ?_
  rintro e w1 ⟨rfl, b1⟩
  have z1 : w.heap.size + 1 ≤ w1.heap.size := by have := b1.size; simp at this; omega
  have HL1 := Lib.hid (HL.out.keep b1.size (fun k hk => b1.block k (by simp; omega)) _ _ _)
  have hb1 := hb0.trans (b1.mono (by simp))
  clear b1 hb0
  go_wp2_with fail
  refine (measure_any (w.heap.size + 1) w.heap.size 0 100000 10000 t _ z1 HL1.out h1 h2 (by omega)).mono ?_
  rintro e w2 ⟨rfl, b2⟩
  have hb2 := hb1.trans (b2.mono (by omega))
  clear hb1 b2
  go_wp2_with fail
  go_ret
  exact ⟨rfl, hb2.alloc hb2.size _⟩
end Go.Proofs.YtlohdglhebplfaaGreatDoor
