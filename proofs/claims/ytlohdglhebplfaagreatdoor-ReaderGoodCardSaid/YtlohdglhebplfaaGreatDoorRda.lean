/-
  The reader's memory, and its smallest functions.
-/
import Derived.Test.YtlohdglhebplfaaGreatDoorNw
import Derived.Deep.QuietTactic
import Derived.BigQuiet
import Derived.Test.YtlohdglhebplfaaGreatDoorRg
namespace Go.Proofs.YtlohdglhebplfaaGreatDoor
open Go.RowKit

/-- The reader lies in block R. -/
def Rdr (w : World) (R : Nat) (s : ByteArray) (p : Nat) (x : Int) (k : Nat) : Prop := w.heap[R]? = some (.cells #[.string s, .int .i64 p, .int .i64 x, .int .i64 k] 116 (0, 0))
section
variable {w w' : World} {R p q k j B : Nat} {s : ByteArray} {x y : Int}
theorem Rdr.lt (h : Rdr w R s p x k) : R < w.heap.size := by
  rcases Nat.lt_or_ge R w.heap.size with hg | hg
  · exact hg
  · unfold Rdr at h; rw [Array.getElem?_eq_none hg] at h; cases h
theorem Rdr.c (h : Rdr w R s p x k) : w.cell? ⟨R, 0, none⟩ = some (.string s) ∧ w.cell? ⟨R, 1, none⟩ = some (.int .i64 p) ∧ w.cell? ⟨R, 2, none⟩ = some (.int .i64 x) ∧ w.cell? ⟨R, 3, none⟩ = some (.int .i64 k) := by
  unfold Rdr at h; simp [World.cell?, h]
theorem Rdr.f (h : Rdr w R s p x k) : w.frozen? ⟨R, 1, none⟩ = false ∧ w.frozen? ⟨R, 2, none⟩ = false ∧ w.frozen? ⟨R, 3, none⟩ = false := by
  unfold Rdr at h; simp [World.frozen?, h]
theorem Rdr.set1 (h : Rdr w R s p x k) (z : Int) (hz : z = (q : Int)) : Rdr (w.setCell ⟨R, 1, none⟩ (.int .i64 z)) R s q x k := by
  subst hz
  unfold Rdr at *
  simp [World.setCell, Array.getElem?_modify, h]
theorem Rdr.set2 (h : Rdr w R s p x k) (y : Int) : Rdr (w.setCell ⟨R, 2, none⟩ (.int .i64 y)) R s p y k := by
  unfold Rdr at *
  simp [World.setCell, Array.getElem?_modify, h]
theorem Rdr.set3 (h : Rdr w R s p x k) (z : Int) (hz : z = (j : Int)) : Rdr (w.setCell ⟨R, 3, none⟩ (.int .i64 z)) R s p x j := by
  subst hz
  unfold Rdr at *
  simp [World.setCell, Array.getElem?_modify, h]
theorem Rdr.same (h : Rdr w R s p x k) (e : w'.heap[R]? = w.heap[R]?) : Rdr w' R s p x k := e.trans h
theorem Rdr.next (h : Rdr w R s p x k) (hb : Below B w w') (hR : R < B) : Rdr w' R s p x k := h.same (hb.block R hR)
theorem Rdr.alloc (h : Rdr w R s p x k) (o : Obj) : Rdr (w.alloc o) R s p x k := h.same (Below.heap_alloc w o R h.lt)
theorem Rdr.drew (h : Rdr w R s p x k) : Rdr w.drew R s p x k := h
theorem Rdr.drewN (h : Rdr w R s p x k) (n : Nat) : Rdr (w.drewN n) R s p x k := h.same rfl
end
/-- All but the reader's block lies as it lay; nothing is told outside. -/
structure KRest (R : Nat) (w w' : World) : Prop where
  block : ∀ k, k < w.heap.size → ¬ (k = R) → w'.heap[k]? = w.heap[k]?
  os : w'.os = w.os
  tape : w'.tape = w.tape
  output : w'.output = w.output
instance {R : Nat} {w w' : World} : CoeFun (KRest R w w') fun _ => ∀ k, k < w.heap.size → ¬ (k = R) → w'.heap[k]? = w.heap[k]? := ⟨KRest.block⟩
abbrev Kept (R : Nat) (w w' : World) : Prop := w.heap.size ≤ w'.heap.size ∧ KRest R w w'
theorem Kept.rfl' (R : Nat) (w : World) : Kept R w w := ⟨Nat.le_refl _, fun _ _ _ => rfl, rfl, rfl, rfl⟩
theorem Kept.trans {R : Nat} {a b c : World} (h : Kept R a b) (k : Kept R b c) : Kept R a c :=
  ⟨Nat.le_trans h.1 k.1, fun i hi hx => (k.2.block i (Nat.lt_of_lt_of_le hi h.1) hx).trans (h.2.block i hi hx), k.2.os.trans h.2.os, k.2.tape.trans h.2.tape, k.2.output.trans h.2.output⟩
theorem Kept.set {R : Nat} {w w' : World} (h : Kept R w w') (a : Addr) (v : Value) (ha : a.block = R) : Kept R w (w'.setCell a v) :=
  ⟨Nat.le_trans h.1 (KeepsWalks.setCell w' a v).size, fun k hk hR => (Below.heap_setCell w' a v k (fun e => hR (e.trans ha))).trans (h.2.block k hk hR), h.2.os, h.2.tape, h.2.output⟩
/-- What is left of a text from p on. -/
def rsB (s : ByteArray) (p : Nat) : List UInt8 := s.data.toList.drop p
theorem rsB_cons {s : ByteArray} {p : Nat} (h : p < s.size) : rsB s p = s[p] :: rsB s (p + 1) := List.drop_eq_getElem_cons (by simpa using h)
theorem rsB_end {s : ByteArray} {p : Nat} (h : s.size ≤ p) : rsB s p = [] := List.drop_eq_nil_of_le (by simpa using h)
theorem rsB_len (s : ByteArray) (p : Nat) : (rsB s p).length = s.size - p := by simp [rsB]
theorem rsB_drop (s : ByteArray) (p n : Nat) : (rsB s p).drop n = rsB s (p + n) := by simp [rsB, List.drop_drop]
theorem rsB_zero (s : ByteArray) : rsB s 0 = s.data.toList := rfl

theorem Kept.drewN {R : Nat} {w w' : World} (h : Kept R w w') (n : Nat) : Kept R w (w'.drewN n) := ⟨h.1, h.2.block, h.2.os, h.2.tape, h.2.output⟩
theorem Kept.drew {R : Nat} {w w' : World} (h : Kept R w w') : Kept R w w'.drew := ⟨h.1, h.2.block, h.2.os, h.2.tape, h.2.output⟩
theorem Kept.from_drew {R : Nat} {w w' : World} (h : Kept R w.drew w') : Kept R w w' := ⟨h.1, h.2.block, h.2.os, h.2.tape, h.2.output⟩
theorem Kept.high {R : Nat} {a b : World} (h : Kept R a b) (p : Addr) (hp : a.heap.size ≤ p.block) (v : Value) : Kept R a (b.setCell p v) :=
  ⟨Nat.le_trans h.1 (KeepsWalks.setCell b p v).size, fun k hk hR => (Below.heap_setCell b p v k (by omega)).trans (h.2.block k hk hR), h.2.os, h.2.tape, h.2.output⟩
theorem Kept.low {R : Nat} {a b : World} (h : Below a.heap.size a b) : Kept R a b := ⟨h.size, fun k hk _ => h.block k hk, h.os, h.tape, h.output⟩
theorem Kept.onto {R : Nat} {a b c : World} (h : Kept R a b) (hb : Below b.heap.size b c) : Kept R a c := h.trans (Kept.low hb)
section
variable {w w' a : World} {D R : Nat} {v0 v1 v2 v3 v4 v5 v6 c0 c1 c2 c3 c4 c5 c6 : Value} {T : TypeId} {fr : Nat × Nat}
abbrev W7 (w : World) (D : Nat) (v0 v1 v2 v3 v4 v5 v6 : Value) : World := (((((((w.setCell ⟨D, 0, none⟩ v0).setCell ⟨D, 1, none⟩ v1).setCell ⟨D, 2, none⟩ v2).setCell ⟨D, 3, none⟩ v3).setCell ⟨D, 4, none⟩ v4).setCell ⟨D, 5, none⟩ v5).setCell ⟨D, 6, none⟩ v6)
theorem w7_at (h : w.heap[D]? = some (.cells #[c0, c1, c2, c3, c4, c5, c6] T fr)) : (W7 w D v0 v1 v2 v3 v4 v5 v6).heap[D]? = some (.cells #[v0, v1, v2, v3, v4, v5, v6] T fr) := by
  simp [W7, World.setCell, Array.getElem?_modify, h]
theorem w7_other {k : Nat} (hk : k ≠ D) : (W7 w D v0 v1 v2 v3 v4 v5 v6).heap[k]? = w.heap[k]? := by
  unfold W7
  rw [Below.heap_setCell _ _ _ _ (by show k ≠ D; exact hk), Below.heap_setCell _ _ _ _ (by show k ≠ D; exact hk), Below.heap_setCell _ _ _ _ (by show k ≠ D; exact hk), Below.heap_setCell _ _ _ _ (by show k ≠ D; exact hk), Below.heap_setCell _ _ _ _ (by show k ≠ D; exact hk), Below.heap_setCell _ _ _ _ (by show k ≠ D; exact hk), Below.heap_setCell _ _ _ _ (by show k ≠ D; exact hk)]
theorem w7_kept (h : Kept R a w) (hD : a.heap.size ≤ D) : Kept R a (W7 w D v0 v1 v2 v3 v4 v5 v6) :=
  ((((((h.high _ hD _).high _ hD _).high _ hD _).high _ hD _).high _ hD _).high _ hD _).high _ hD _
theorem w7_size : (W7 w D v0 v1 v2 v3 v4 v5 v6).heap.size = w.heap.size := by simp [W7, World.setCell]
theorem seven (h : w.heap[D]? = some (.cells #[c0, c1, c2, c3, c4, c5, c6] T (0, 0))) :
    (w.cell? ⟨D, 0, none⟩ = some c0 ∧ w.cell? ⟨D, 1, none⟩ = some c1 ∧ w.cell? ⟨D, 2, none⟩ = some c2 ∧ w.cell? ⟨D, 3, none⟩ = some c3 ∧ w.cell? ⟨D, 4, none⟩ = some c4 ∧ w.cell? ⟨D, 5, none⟩ = some c5 ∧ w.cell? ⟨D, 6, none⟩ = some c6) ∧
    w.frozen? ⟨D, 0, none⟩ = false ∧ w.frozen? ⟨D, 1, none⟩ = false ∧ w.frozen? ⟨D, 2, none⟩ = false ∧ w.frozen? ⟨D, 3, none⟩ = false ∧ w.frozen? ⟨D, 4, none⟩ = false ∧ w.frozen? ⟨D, 5, none⟩ = false ∧ w.frozen? ⟨D, 6, none⟩ = false := by
  simp [World.cell?, World.frozen?, h]
theorem results_dt {fn : Func} {tmps : Array Value} {t t2 : Tmp} {r : Value} (h : fn.results = #[.cell t 31, .tmp t2]) (ht : tmps.getD t undef = .pointer (some ⟨D, 0, none⟩)) (h2 : tmps.getD t2 undef = r)
    (hz : w.heap[D]? = some (.cells #[c0, c1, c2, c3, c4, c5, c6] T (0, 0))) : (results fn tmps).run Tryz.prog w = .ok (.tuple #[.agg #[c0, c1, c2, c3, c4, c5, c6], r]) w := by
  obtain ⟨⟨d0, d1, d2, d3, d4, d5, d6⟩, -⟩ := seven hz
  rw [Array.getD_eq_getD_getElem?] at ht h2
  simp [results, h, ht, h2, go_sem, d0, d1, d2, d3, d4, d5, d6]
/-- A datum and a truth are handed back. -/
theorem dt_ret {fn : Func} {act : Act} {t t2 : Tmp} {r : Value} {Q : Ending → World → Prop} (h : fn.results = #[.cell t 31, .tmp t2]) (ht : act.tmps.getD t undef = .pointer (some ⟨D, 0, none⟩)) (h2 : act.tmps.getD t2 undef = r) (hd : act.defers = [])
    (hz : w.heap[D]? = some (.cells #[c0, c1, c2, c3, c4, c5, c6] T (0, 0))) (hQ : Q (.returned (.tuple #[.agg #[v0, v1, v2, v3, v4, v5, v6], r])) (W7 w D v0 v1 v2 v3 v4 v5 v6)) : bodyPost Tryz.prog fn Q .ret act (W7 w D v0 v1 v2 v3 v4 v5 v6) :=
  bodyPost_ret (results_dt h ht h2 (w7_at hz)) hd hQ
end
section
variable {w : World} {R p k : Nat} {s : ByteArray} {x : Int}
set_option maxHeartbeats 1600000 in
theorem fail_any (h : Rdr w R s p x k) (e : Int) (q : Nat) : Calls Tryz.prog 163 #[.pointer (some ⟨R, 0, none⟩), .int .i64 e, .int .i64 q] w fun E w' => E = .returned (.bool false) ∧ Rdr w' R s q e k ∧ Kept R w w' := by
  obtain ⟨f1, f2, f3⟩ := h.f
  obtain ⟨g1, g2, g3⟩ := (h.set2 e).f
  obtain ⟨c0, c1, c2, c3⟩ := h.c
  obtain ⟨d0, d1, d2, d3⟩ := (h.set2 e).c
  have H := Lib.hid h
  clear h
  go_enter Tryz.func163, Tryz.ntmps163
  go_wp2_with fail
  go_ret
  exact ⟨rfl, (H.out.set2 e).set1 _ rfl, ((Kept.rfl' R w).set _ _ rfl).set _ _ rfl⟩
set_option maxHeartbeats 1600000 in
theorem none_any (h : Rdr w R s p x k) (e : Int) (q : Nat) : Calls Tryz.prog 124 #[.pointer (some ⟨R, 0, none⟩), .int .i64 e, .int .i64 q] w fun E w' => E = .returned (.tuple #[.agg #[.int .i64 0, .bool false, .slice none 0 0, .bool false, .string ⟨#[]⟩, .slice none 0 0, .slice none 0 0], .bool false]) ∧ Rdr w' R s q e k ∧ Kept R w w' := by
  have H := Lib.hid (And.intro h fun o => fail_any (h.alloc o) e q)
  clear h
  go_enter Tryz.func124, Tryz.ntmps124
  go_wp2_with (go_at_call 163; refine (H.out.2 _).mono ?_; rintro E w' ⟨rfl, h1, h2⟩; obtain ⟨⟨r0, r1, r2, r3, r4, r5, r6⟩, g0, g1, g2, g3, g4, g5, g6⟩ := seven ((h2.2 _ (by simp) (by have := H.out.1.lt; omega)).trans (World.alloc_heap_new w _)))
  exact dt_ret rfl rfl rfl rfl ((h2.2 _ (by simp) (by have := H.out.1.lt; omega)).trans (World.alloc_heap_new w _)) ⟨rfl, h1.same (w7_other (by have := H.out.1.lt; omega)), w7_kept ((Kept.low ((Below.refl _ w).alloc (Nat.le_refl _) _)).trans h2) (Nat.le_refl _)⟩
end
end Go.Proofs.YtlohdglhebplfaaGreatDoor
