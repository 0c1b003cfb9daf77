/-
  prim's makers of closures: what they tell, and where what they hold lies; results that are a datum alone, or a datum and an error's number. prim's makers of makers: only, reckoned, compared, asked. prim.doingOf of each primitive. prim.Do, by what doingOf tells.
-/
import Derived.Test.YtocnlapbkidinaaGreatDoorQMem
import Derived.Test.YtocnlapbkidinaaGreatDoorChecked
import Derived.Laws.EntriesVeiled
set_option linter.unusedVariables false
set_option linter.unusedSimpArgs false
set_option linter.unusedSectionVars false
set_option linter.unnecessarySimpa false
namespace Go.Proofs.YtocnlapbkidinaaGreatDoor
section
open Go.RowKit
set_option maxRecDepth 100000

theorem sure_any (F : Nat) (cap : Array Value) (w : World) : Calls Tryz.prog 42 #[.func (.func F) #[] cap] w fun e w' => e = .returned (.func (.func 81) #[] #[.pointer (some ⟨w.heap.size, 0, none⟩)]) ∧ w.alloc (.cells #[.func (.func F) #[] cap] 62) = w' := by
  have hmf : ∀ (fn : Fn) (first cap : Array Value) (w : World), (Instr.makeFunc fn first cap).run Tryz.prog w = .ok (.func fn first cap) w := fun _ _ _ _ => rfl
  go_enter Tryz.func42, Tryz.ntmps42
  go_wp2_with fail
  go_ret
  exact ⟨rfl, rfl⟩
theorem quotient_mk (F : Nat) (cap : Array Value) (w : World) : Calls Tryz.prog 46 #[.func (.func F) #[] cap] w fun e w' => e = .returned (.func (.func 88) #[] #[.pointer (some ⟨w.heap.size, 0, none⟩)]) ∧ w.alloc (.cells #[.func (.func F) #[] cap] 88) = w' := by
  have hmf : ∀ (fn : Fn) (first cap : Array Value) (w : World), (Instr.makeFunc fn first cap).run Tryz.prog w = .ok (.func fn first cap) w := fun _ _ _ _ => rfl
  go_enter Tryz.func46, Tryz.ntmps46
  go_wp2_with fail
  go_ret
  exact ⟨rfl, rfl⟩
theorem left_mk (F : Nat) (cap : Array Value) (w : World) : Calls Tryz.prog 48 #[.func (.func F) #[] cap] w fun e w' => e = .returned (.func (.func 91) #[] #[.pointer (some ⟨w.heap.size, 0, none⟩)]) ∧ w.alloc (.cells #[.func (.func F) #[] cap] 88) = w' := by
  have hmf : ∀ (fn : Fn) (first cap : Array Value) (w : World), (Instr.makeFunc fn first cap).run Tryz.prog w = .ok (.func fn first cap) w := fun _ _ _ _ => rfl
  go_enter Tryz.func48, Tryz.ntmps48
  go_wp2_with fail
  go_ret
  exact ⟨rfl, rfl⟩
theorem told_mk (F : Nat) (cap : Array Value) (w : World) : Calls Tryz.prog 56 #[.func (.func F) #[] cap] w fun e w' => e = .returned (.func (.func 96) #[] #[.pointer (some ⟨w.heap.size, 0, none⟩)]) ∧ w.alloc (.cells #[.func (.func F) #[] cap] 69) = w' := by
  have hmf : ∀ (fn : Fn) (first cap : Array Value) (w : World), (Instr.makeFunc fn first cap).run Tryz.prog w = .ok (.func fn first cap) w := fun _ _ _ _ => rfl
  go_enter Tryz.func56, Tryz.ntmps56
  go_wp2_with fail
  go_ret
  exact ⟨rfl, rfl⟩
theorem isOf_mk (k : Int) (w : World) : Calls Tryz.prog 55 #[.int .i64 k] w fun e w' => e = .returned (.func (.func 95) #[] #[.pointer (some ⟨w.heap.size, 0, none⟩)]) ∧ w.alloc (.cells #[.int .i64 k] 3) = w' := by
  have hmf : ∀ (fn : Fn) (first cap : Array Value) (w : World), (Instr.makeFunc fn first cap).run Tryz.prog w = .ok (.func fn first cap) w := fun _ _ _ _ => rfl
  go_enter Tryz.func55, Tryz.ntmps55
  go_wp2_with fail
  go_ret
  exact ⟨rfl, rfl⟩
theorem results_dt2 {fn : Func} {tmps : Array Value} {t t2 : Tmp} {r v0 v1 v2 v3 v4 v5 v6 : Value} {w : World} {D : Nat} (h : fn.results = #[.cell t 29, .tmp t2]) (ht : tmps.getD t undef = .pointer (some ⟨D, 0, none⟩)) (h2 : tmps.getD t2 undef = r)
    (d0 : w.cell? ⟨D, 0, none⟩ = some v0) (d1 : w.cell? ⟨D, 1, none⟩ = some v1) (d2 : w.cell? ⟨D, 2, none⟩ = some v2) (d3 : w.cell? ⟨D, 3, none⟩ = some v3) (d4 : w.cell? ⟨D, 4, none⟩ = some v4) (d5 : w.cell? ⟨D, 5, none⟩ = some v5) (d6 : w.cell? ⟨D, 6, none⟩ = some v6) :
    (results fn tmps).run Tryz.prog w = .ok (.tuple #[.agg #[v0, v1, v2, v3, v4, v5, v6], r]) w := by
  rw [Array.getD_eq_getD_getElem?] at ht h2
  simp [results, h, ht, h2, go_sem, d0, d1, d2, d3, d4, d5, d6]
theorem results_d1 {fn : Func} {tmps : Array Value} {t : Tmp} {w : World} {b : Nat} {v0 v1 v2 v3 v4 v5 v6 : Value} (h : fn.results = #[.cell t 29]) (ht : tmps.getD t undef = .pointer (some ⟨b, 0, none⟩)) (c0 : w.cell? ⟨b, 0, none⟩ = some v0) (c1 : w.cell? ⟨b, 1, none⟩ = some v1)
    (c2 : w.cell? ⟨b, 2, none⟩ = some v2) (c3 : w.cell? ⟨b, 3, none⟩ = some v3) (c4 : w.cell? ⟨b, 4, none⟩ = some v4) (c5 : w.cell? ⟨b, 5, none⟩ = some v5) (c6 : w.cell? ⟨b, 6, none⟩ = some v6) :
    (results fn tmps).run Tryz.prog w = .ok (.agg #[v0, v1, v2, v3, v4, v5, v6]) w := by
  rw [Array.getD_eq_getD_getElem?] at ht
  simp [results, h, ht, go_sem, c0, c1, c2, c3, c4, c5, c6]
/-- The seven cells of a datum that lies at D, and that they may be written. -/
theorem cells7 {w : World} {D : Nat} {c0 c1 c2 c3 c4 c5 c6 : Value} {T : TypeId} (h : w.heap[D]? = some (.cells #[c0, c1, c2, c3, c4, c5, c6] T (0, 0))) :
    (w.cell? ⟨D, 0, none⟩ = some c0 ∧ w.cell? ⟨D, 1, none⟩ = some c1 ∧ w.cell? ⟨D, 2, none⟩ = some c2 ∧ w.cell? ⟨D, 3, none⟩ = some c3 ∧ w.cell? ⟨D, 4, none⟩ = some c4 ∧ w.cell? ⟨D, 5, none⟩ = some c5 ∧ w.cell? ⟨D, 6, none⟩ = some c6) ∧
    w.frozen? ⟨D, 0, none⟩ = false ∧ w.frozen? ⟨D, 1, none⟩ = false ∧ w.frozen? ⟨D, 2, none⟩ = false ∧ w.frozen? ⟨D, 3, none⟩ = false ∧ w.frozen? ⟨D, 4, none⟩ = false ∧ w.frozen? ⟨D, 5, none⟩ = false ∧ w.frozen? ⟨D, 6, none⟩ = false := by
  simp [World.cell?, World.frozen?, h]
theorem oldZ {w w1 : World} (b : Below (w.alloc (Obj.cells #[.int .i64 0, .bool false, .slice none 0 0, .bool false, .string ⟨#[]⟩, .slice none 0 0, .slice none 0 0] 29)).heap.size (w.alloc (Obj.cells #[.int .i64 0, .bool false, .slice none 0 0, .bool false, .string ⟨#[]⟩, .slice none 0 0, .slice none 0 0] 29)) w1) : w1.heap[w.heap.size]? = some (Obj.cells #[.int .i64 0, .bool false, .slice none 0 0, .bool false, .string ⟨#[]⟩, .slice none 0 0, .slice none 0 0] 29) ∧ w.heap.size < w1.heap.size ∧ Below w.heap.size w w1 := by
  have hs : (w.alloc (Obj.cells #[.int .i64 0, .bool false, .slice none 0 0, .bool false, .string ⟨#[]⟩, .slice none 0 0, .slice none 0 0] 29)).heap.size = w.heap.size + 1 := World.size_alloc ..
  have hz := b.size
  rw [hs] at hz
  exact ⟨(b.block w.heap.size (by rw [hs]; omega)).trans (heap_alloc_new w _), by omega, ((Below.refl w.heap.size w).alloc (Nat.le_refl _) _).trans (b.mono (by rw [hs]; omega))⟩
/-- The function has a body of its own. -/
def Enters (F : Nat) : Prop := ∀ (args : Array Value) (W : World), (callFunc F args).run Tryz.prog W = .ok (.enter F args) W
/-- A call tells a datum without items: its kind, sign, limbs, truth, text. -/
def DatP (w : World) (k : Int) (g : Bool) (xs : List Nat) (b : Bool) (s : ByteArray) (e : Ending) (w' : World) : Prop := ∃ A n c, e = .returned (.agg #[.int .i64 k, .bool g, .slice A n c, .bool b, .string s, .slice none 0 0, .slice none 0 0]) ∧ Sl w' A n c xs ∧ Below w.heap.size w w'
/-- A call tells such a datum, and an error's number. -/
def TelP (w : World) (k : Int) (g : Bool) (xs : List Nat) (b : Bool) (s : ByteArray) (er : Int) (e : Ending) (w' : World) : Prop := ∃ A n c, e = .returned (.tuple #[.agg #[.int .i64 k, .bool g, .slice A n c, .bool b, .string s, .slice none 0 0, .slice none 0 0], .int .i64 er]) ∧ Sl w' A n c xs ∧ Below w.heap.size w w'
theorem z_no32 {w : World} {D : Nat} (h : w.heap[D]? = some (Obj.cells #[.int .i64 0, .bool false, .slice none 0 0, .bool false, .string ⟨#[]⟩, .slice none 0 0, .slice none 0 0] 29)) (o : Nat) (x : Int) : w.cell? ⟨D, o, none⟩ ≠ some (.int .u32 x) := by
  rw [Lib.cell_of_heap h]
  rcases o with _ | _ | _ | _ | _ | _ | _ | o <;> simp
theorem Sl.set7 {w : World} {A : Option Addr} {n c D : Nat} {xs : List Nat} (h : Sl w A n c xs) (hz : w.heap[D]? = some (Obj.cells #[.int .i64 0, .bool false, .slice none 0 0, .bool false, .string ⟨#[]⟩, .slice none 0 0, .slice none 0 0] 29)) (v0 v1 v2 v3 v4 v5 v6 : Value) :
    Sl (((((((w.setCell ⟨D, 0, none⟩ v0).setCell ⟨D, 1, none⟩ v1).setCell ⟨D, 2, none⟩ v2).setCell ⟨D, 3, none⟩ v3).setCell ⟨D, 4, none⟩ v4).setCell ⟨D, 5, none⟩ v5).setCell ⟨D, 6, none⟩ v6) A n c xs := by
  refine ⟨h.len, h.le, h.max, h.ok, fun hp => ?_, h.nil_⟩
  obtain ⟨b, off, rfl, hb, hc⟩ := h.here hp
  have hne : b ≠ D := fun e => z_no32 (D := b) (by rw [e]; exact hz) _ _ (hc 0 hp)
  refine ⟨b, off, rfl, by simpa [World.setCell] using hb, fun i hi => ?_⟩
  rw [← hc i hi]
  apply World.cell?_of_block
  rw [Below.heap_setCell _ _ _ _ (by show b ≠ D; exact hne), Below.heap_setCell _ _ _ _ (by show b ≠ D; exact hne), Below.heap_setCell _ _ _ _ (by show b ≠ D; exact hne), Below.heap_setCell _ _ _ _ (by show b ≠ D; exact hne), Below.heap_setCell _ _ _ _ (by show b ≠ D; exact hne), Below.heap_setCell _ _ _ _ (by show b ≠ D; exact hne), Below.heap_setCell _ _ _ _ (by show b ≠ D; exact hne)]
theorem below7 {B D : Nat} {w0 w : World} (h : Below B w0 w) (hD : B ≤ D) (v0 v1 v2 v3 v4 v5 v6 : Value) :
    Below B w0 (((((((w.setCell ⟨D, 0, none⟩ v0).setCell ⟨D, 1, none⟩ v1).setCell ⟨D, 2, none⟩ v2).setCell ⟨D, 3, none⟩ v3).setCell ⟨D, 4, none⟩ v4).setCell ⟨D, 5, none⟩ v5).setCell ⟨D, 6, none⟩ v6) :=
  ((((((h.setCell (p := ⟨D, 0, none⟩) hD _).setCell (p := ⟨D, 1, none⟩) hD _).setCell (p := ⟨D, 2, none⟩) hD _).setCell (p := ⟨D, 3, none⟩) hD _).setCell (p := ⟨D, 4, none⟩) hD _).setCell (p := ⟨D, 5, none⟩) hD _).setCell (p := ⟨D, 6, none⟩) hD _
theorem set7_cells {w : World} {D : Nat} (hz : w.heap[D]? = some (Obj.cells #[.int .i64 0, .bool false, .slice none 0 0, .bool false, .string ⟨#[]⟩, .slice none 0 0, .slice none 0 0] 29)) (v0 v1 v2 v3 v4 v5 v6 : Value) :
    (((((((w.setCell ⟨D, 0, none⟩ v0).setCell ⟨D, 1, none⟩ v1).setCell ⟨D, 2, none⟩ v2).setCell ⟨D, 3, none⟩ v3).setCell ⟨D, 4, none⟩ v4).setCell ⟨D, 5, none⟩ v5).setCell ⟨D, 6, none⟩ v6).heap[D]? = some (.cells #[v0, v1, v2, v3, v4, v5, v6] 29) := by
  simp [World.setCell, Array.getElem?_modify, hz]
theorem tel_set {fn : Func} {act : Act} {t t2 : Tmp} {w0 w1 : World} {D : Nat} {k er : Int} {sg b : Bool} {xs : List Nat} {s : ByteArray} {A : Option Addr} {n c : Nat} (h : fn.results = #[.cell t 29, .tmp t2]) (ht : act.tmps.getD t undef = .pointer (some ⟨D, 0, none⟩)) (h2 : act.tmps.getD t2 undef = .int .i64 er) (hd : act.defers = [])
    (hz : w1.heap[D]? = some (Obj.cells #[.int .i64 0, .bool false, .slice none 0 0, .bool false, .string ⟨#[]⟩, .slice none 0 0, .slice none 0 0] 29)) (hD : w0.heap.size ≤ D) (hsl : Sl w1 A n c xs) (hb : Below w0.heap.size w0 w1) :
    bodyPost Tryz.prog fn (TelP w0 k sg xs b s er) .ret act (((((((w1.setCell ⟨D, 0, none⟩ (.int .i64 k)).setCell ⟨D, 1, none⟩ (.bool sg)).setCell ⟨D, 2, none⟩ (.slice A n c)).setCell ⟨D, 3, none⟩ (.bool b)).setCell ⟨D, 4, none⟩ (.string s)).setCell ⟨D, 5, none⟩ (.slice none 0 0)).setCell ⟨D, 6, none⟩ (.slice none 0 0)) := by
  have h7 := set7_cells hz (.int .i64 k) (.bool sg) (.slice A n c) (.bool b) (.string s) (.slice none 0 0) (.slice none 0 0)
  obtain ⟨⟨d0, d1, d2, d3, d4, d5, d6⟩, -⟩ := cells7 h7
  exact bodyPost_ret (results_dt2 h ht h2 d0 d1 d2 d3 d4 d5 d6) hd ⟨A, n, c, rfl, hsl.set7 hz .., below7 hb hD ..⟩
theorem dat_set {fn : Func} {act : Act} {t : Tmp} {w0 w1 : World} {D : Nat} {k : Int} {sg b : Bool} {xs : List Nat} {s : ByteArray} {A : Option Addr} {n c : Nat} (h : fn.results = #[.cell t 29]) (ht : act.tmps.getD t undef = .pointer (some ⟨D, 0, none⟩)) (hd : act.defers = [])
    (hz : w1.heap[D]? = some (Obj.cells #[.int .i64 0, .bool false, .slice none 0 0, .bool false, .string ⟨#[]⟩, .slice none 0 0, .slice none 0 0] 29)) (hD : w0.heap.size ≤ D) (hsl : Sl w1 A n c xs) (hb : Below w0.heap.size w0 w1) :
    bodyPost Tryz.prog fn (DatP w0 k sg xs b s) .ret act (((((((w1.setCell ⟨D, 0, none⟩ (.int .i64 k)).setCell ⟨D, 1, none⟩ (.bool sg)).setCell ⟨D, 2, none⟩ (.slice A n c)).setCell ⟨D, 3, none⟩ (.bool b)).setCell ⟨D, 4, none⟩ (.string s)).setCell ⟨D, 5, none⟩ (.slice none 0 0)).setCell ⟨D, 6, none⟩ (.slice none 0 0)) := by
  have h7 := set7_cells hz (.int .i64 k) (.bool sg) (.slice A n c) (.bool b) (.string s) (.slice none 0 0) (.slice none 0 0)
  obtain ⟨⟨d0, d1, d2, d3, d4, d5, d6⟩, -⟩ := cells7 h7
  exact bodyPost_ret (results_d1 h ht d0 d1 d2 d3 d4 d5 d6) hd ⟨A, n, c, rfl, hsl.set7 hz .., below7 hb hD ..⟩
set_option maxHeartbeats 3200000 in
theorem told1_any (g F : Nat) (cap : Array Value) (A : Option Addr) (n c : Nat) (w : World) {k : Int} {sg : Bool} {xs : List Nat} {b : Bool} {s : ByteArray} (hc : w.cell? ⟨g, 0, none⟩ = some (.func (.func F) #[] cap)) (hg : g < w.heap.size) (hF : Enters F)
    (H : ∀ W, Below w.heap.size w W → Calls Tryz.prog F (#[.slice A n c] ++ cap) W (DatP W k sg xs b s)) :
    Calls Tryz.prog 96 #[.slice A n c, .pointer (some ⟨g, 0, none⟩)] w (TelP w k sg xs b s 0) := by
  have HH := Lib.hid H
  clear H
  go_enter Tryz.func96, Tryz.ntmps96
  go_wp2_with fail
  rw [hF, Oper.upon_enter]
  refine (HH.out _ ((Below.refl _ _).alloc (Nat.le_refl _) _)).mono ?_
  rintro e w1 ⟨A1, n1, c1, rfl, hsl, b1⟩
  obtain ⟨hz, hlt, hb⟩ := oldZ b1
  obtain ⟨⟨d0, d1, d2, d3, d4, d5, d6⟩, f0, f1, f2, f3, f4, f5, f6⟩ := cells7 hz
  have H1 := Lib.hid (And.intro hsl hb)
  clear hsl hb b1
  go_wp2_with fail
  exact tel_set rfl rfl rfl rfl hz (Nat.le_refl _) H1.out.1 H1.out.2
theorem dat_new {fn : Func} {act : Act} {t : Tmp} {w : World} {k : Int} {sg b : Bool} {xs : List Nat} {s : ByteArray} {A : Option Addr} {n c : Nat} (h : fn.results = #[.cell t 29]) (ht : act.tmps.getD t undef = .pointer (some ⟨w.heap.size, 0, none⟩)) (hd : act.defers = []) (hsl : Sl w A n c xs) :
    bodyPost Tryz.prog fn (DatP w k sg xs b s) .ret act (w.alloc (.cells #[.int .i64 k, .bool sg, .slice A n c, .bool b, .string s, .slice none 0 0, .slice none 0 0] 29)) := by
  obtain ⟨⟨d0, d1, d2, d3, d4, d5, d6⟩, -⟩ := cells7 (heap_alloc_new w (.cells #[.int .i64 k, .bool sg, .slice A n c, .bool b, .string s, .slice none 0 0, .slice none 0 0] 29))
  exact bodyPost_ret (results_d1 h ht d0 d1 d2 d3 d4 d5 d6) hd ⟨A, n, c, rfl, hsl.alloc _, (Below.refl _ _).alloc (Nat.le_refl _) _⟩
theorem tel_new {fn : Func} {act : Act} {t t2 : Tmp} {w0 w : World} {k er : Int} {sg b : Bool} {xs : List Nat} {s : ByteArray} {A : Option Addr} {n c : Nat} (h : fn.results = #[.cell t 29, .tmp t2]) (ht : act.tmps.getD t undef = .pointer (some ⟨w.heap.size, 0, none⟩)) (h2 : act.tmps.getD t2 undef = .int .i64 er) (hd : act.defers = []) (hsl : Sl w A n c xs) (hb : Below w0.heap.size w0 w) :
    bodyPost Tryz.prog fn (TelP w0 k sg xs b s er) .ret act (w.alloc (.cells #[.int .i64 k, .bool sg, .slice A n c, .bool b, .string s, .slice none 0 0, .slice none 0 0] 29)) := by
  obtain ⟨⟨d0, d1, d2, d3, d4, d5, d6⟩, -⟩ := cells7 (heap_alloc_new w (.cells #[.int .i64 k, .bool sg, .slice A n c, .bool b, .string s, .slice none 0 0, .slice none 0 0] 29))
  exact bodyPost_ret (results_dt2 h ht h2 d0 d1 d2 d3 d4 d5 d6) hd ⟨A, n, c, rfl, hsl.alloc _, hb.alloc hb.size _⟩
theorem truth_any (b : Bool) (w : World) : Calls Tryz.prog 58 #[.bool b] w (DatP w 2 false [] b ⟨#[]⟩) := by
  go_enter Tryz.func58, Tryz.ntmps58
  go_wp2_with fail
  exact dat_new rfl rfl rfl Sl.nil
theorem texted_any (s : ByteArray) (w : World) : Calls Tryz.prog 65 #[.string s] w (DatP w 4 false [] false s) := by
  go_enter Tryz.func65, Tryz.ntmps65
  go_wp2_with fail
  exact dat_new rfl rfl rfl Sl.nil
end
end Go.Proofs.YtocnlapbkidinaaGreatDoor
namespace Go.Proofs.YtocnlapbkidinaaGreatDoor
section
open Go.RowKit
set_option maxRecDepth 100000

/-- What only tells: where its question and what it asks for lie. -/
def OnlyP (w : World) (kk : Int) (v : Value) (e : Ending) (w' : World) : Prop := ∃ gi gk gd, e = .returned (.func (.func 97) #[] #[.pointer (some ⟨gi, 0, none⟩), .pointer (some ⟨gd, 0, none⟩)]) ∧
  w'.cell? ⟨gi, 0, none⟩ = some (.func (.func 95) #[] #[.pointer (some ⟨gk, 0, none⟩)]) ∧ w'.cell? ⟨gk, 0, none⟩ = some (.int .i64 kk) ∧ w'.cell? ⟨gd, 0, none⟩ = some v ∧ Below w.heap.size w w'
theorem cell_new1 (w : World) (v : Value) (T : TypeId) : (w.alloc (.cells #[v] T)).cell? ⟨w.heap.size, 0, none⟩ = some v := by
  rw [Lib.cell_of_heap (heap_alloc_new w (.cells #[v] T))]; rfl
theorem cell_old {w : World} {p : Addr} {v : Value} (h : w.cell? p = some v) (o : Obj) : (w.alloc o).cell? p = some v :=
  (((Below.refl w.heap.size w).alloc (Nat.le_refl _) o).cell (World.block_lt_of_cell? w _ h)).trans h
set_option maxHeartbeats 3200000 in
theorem only_mk (kk : Int) (F : Nat) (cap : Array Value) (w : World) : Calls Tryz.prog 59 #[.int .i64 kk, .func (.func F) #[] cap] w (OnlyP w kk (.func (.func F) #[] cap)) := by
  have hmf : ∀ (fn : Fn) (first cap : Array Value) (w : World), (Instr.makeFunc fn first cap).run Tryz.prog w = .ok (.func fn first cap) w := fun _ _ _ _ => rfl
  go_enter Tryz.func59, Tryz.ntmps59
  go_wp2_with fail
  refine (isOf_mk kk _).mono ?_
  rintro e w1 ⟨rfl, rfl⟩
  go_wp2_with fail
  go_ret
  refine ⟨w.heap.size + 1 + 1, w.heap.size + 1, w.heap.size, rfl, ?_, ?_, ?_, (((Below.refl _ _).alloc (Nat.le_refl _) _).alloc (by rw [World.size_alloc]; omega) _).alloc (by rw [World.size_alloc, World.size_alloc]; omega) _⟩
  · have h := cell_new1 ((w.alloc (.cells #[.func (.func F) #[] cap] 43)).alloc (.cells #[.int .i64 kk] 3)) (.func (.func 95) #[] #[.pointer (some ⟨w.heap.size + 1, 0, none⟩)]) 39
    rw [World.size_alloc, World.size_alloc] at h
    exact h
  · have h := cell_new1 (w.alloc (.cells #[.func (.func F) #[] cap] 43)) (.int .i64 kk) 3
    rw [World.size_alloc] at h
    exact cell_old h _
  · exact cell_old (cell_old (cell_new1 w _ _) _) _
/-- A doing that reckons, and where it lies. -/
def RkMk (w : World) (f : Value) (e : Ending) (w' : World) : Prop := ∃ gf, OnlyP w 1 (.func (.func 80) #[] #[.pointer (some ⟨gf, 0, none⟩)]) e w' ∧ w'.cell? ⟨gf, 0, none⟩ = some f
theorem OnlyP.from_ {w w1 w2 : World} {kk : Int} {v : Value} {e : Ending} (h : OnlyP w1 kk v e w2) (hb : Below w.heap.size w w1) : OnlyP w kk v e w2 := by
  obtain ⟨gi, gk, gd, h1, h2, h3, h4, h5⟩ := h
  exact ⟨gi, gk, gd, h1, h2, h3, h4, hb.trans (h5.mono hb.size)⟩
set_option maxHeartbeats 3200000 in
theorem reckoned_mk (F : Nat) (cap : Array Value) (w : World) : Calls Tryz.prog 41 #[.func (.func F) #[] cap] w (RkMk w (.func (.func F) #[] cap)) := by
  have hmf : ∀ (fn : Fn) (first cap : Array Value) (w : World), (Instr.makeFunc fn first cap).run Tryz.prog w = .ok (.func fn first cap) w := fun _ _ _ _ => rfl
  go_enter Tryz.func41, Tryz.ntmps41
  go_wp2_with fail
  refine (only_mk 1 _ _ _).mono ?_
  rintro e w1 ⟨gi, gk, gd, rfl, h2, h3, h4, h5⟩
  have hb : Below w.heap.size w w1 := ((Below.refl _ _).alloc (Nat.le_refl _) _).trans (h5.mono (by rw [World.size_alloc]; omega))
  have hf : w1.cell? ⟨w.heap.size, 0, none⟩ = some (.func (.func F) #[] cap) := (h5.cell (p := ⟨w.heap.size, 0, none⟩) (by rw [World.size_alloc]; exact Nat.lt_succ_self _)).trans (cell_new1 _ _ _)
  have HX := Lib.hid (And.intro h2 (And.intro h3 (And.intro h4 (And.intro hb hf))))
  clear h2 h3 h4 h5 hb hf
  go_wp2_with fail
  go_ret
  exact ⟨_, ⟨gi, gk, gd, rfl, HX.out.1, HX.out.2.1, HX.out.2.2.1, HX.out.2.2.2.1⟩, HX.out.2.2.2.2⟩
/-- A doing that compares, and where it lies. -/
def CmMk (w : World) (f : Value) (e : Ending) (w' : World) : Prop := ∃ gt gf, OnlyP w 1 (.func (.func 96) #[] #[.pointer (some ⟨gt, 0, none⟩)]) e w' ∧ w'.cell? ⟨gt, 0, none⟩ = some (.func (.func 92) #[] #[.pointer (some ⟨gf, 0, none⟩)]) ∧ w'.cell? ⟨gf, 0, none⟩ = some f
set_option maxHeartbeats 3200000 in
theorem compared_mk (F : Nat) (cap : Array Value) (w : World) : Calls Tryz.prog 50 #[.func (.func F) #[] cap] w (CmMk w (.func (.func F) #[] cap)) := by
  have hmf : ∀ (fn : Fn) (first cap : Array Value) (w : World), (Instr.makeFunc fn first cap).run Tryz.prog w = .ok (.func fn first cap) w := fun _ _ _ _ => rfl
  go_enter Tryz.func50, Tryz.ntmps50
  go_wp2_with fail
  refine (told_mk _ _ _).mono ?_
  rintro e w0 ⟨rfl, hw0⟩
  have hc0 := cell_new1 w (.func (.func F) #[] cap) 36
  have hc1 := cell_new1 (w.alloc (.cells #[.func (.func F) #[] cap] 36)) (.func (.func 92) #[] #[.pointer (some ⟨w.heap.size, 0, none⟩)]) 69
  have hc2 := cell_old hc0 (.cells #[.func (.func 92) #[] #[.pointer (some ⟨w.heap.size, 0, none⟩)]] 69)
  rw [World.size_alloc] at hc1
  have hb0 : Below w.heap.size w ((w.alloc (.cells #[.func (.func F) #[] cap] 36)).alloc (.cells #[.func (.func 92) #[] #[.pointer (some ⟨w.heap.size, 0, none⟩)]] 69)) := ((Below.refl _ _).alloc (Nat.le_refl _) _).alloc (by rw [World.size_alloc]; omega) _
  have hs0 : ((w.alloc (.cells #[.func (.func F) #[] cap] 36)).alloc (.cells #[.func (.func 92) #[] #[.pointer (some ⟨w.heap.size, 0, none⟩)]] 69)).heap.size = w.heap.size + 2 := by rw [World.size_alloc, World.size_alloc]
  rw [hw0] at hc1 hc2 hb0 hs0
  have H0 := Lib.hid (And.intro hc1 (And.intro hc2 (And.intro hb0 hs0)))
  clear hc0 hc1 hc2 hb0 hs0 hw0
  go_wp2_with fail
  refine (only_mk 1 _ _ _).mono ?_
  rintro e w1 ⟨gi, gk, gd, rfl, h2, h3, h4, h5⟩
  have HX := Lib.hid (And.intro h2 (And.intro h3 (And.intro h4 (And.intro (H0.out.2.2.1.trans (h5.mono H0.out.2.2.1.size)) (And.intro ((h5.cell (p := ⟨w.heap.size + 1, 0, none⟩) (by show w.heap.size + 1 < _; rw [H0.out.2.2.2]; omega)).trans H0.out.1) ((h5.cell (p := ⟨w.heap.size, 0, none⟩) (by show w.heap.size < _; rw [H0.out.2.2.2]; omega)).trans H0.out.2.1))))))
  clear h2 h3 h4 h5
  go_wp2_with fail
  go_ret
  exact ⟨_, _, ⟨gi, gk, gd, rfl, HX.out.1, HX.out.2.1, HX.out.2.2.1, HX.out.2.2.2.1⟩, HX.out.2.2.2.2.1, HX.out.2.2.2.2.2⟩
/-- A doing that asks, and where it lies. -/
def AsMk (w : World) (f : Value) (e : Ending) (w' : World) : Prop := ∃ gt gf, e = .returned (.func (.func 96) #[] #[.pointer (some ⟨gt, 0, none⟩)]) ∧ w'.cell? ⟨gt, 0, none⟩ = some (.func (.func 94) #[] #[.pointer (some ⟨gf, 0, none⟩)]) ∧ w'.cell? ⟨gf, 0, none⟩ = some f ∧ Below w.heap.size w w'
set_option maxHeartbeats 3200000 in
theorem asked_mk (F : Nat) (cap : Array Value) (w : World) : Calls Tryz.prog 53 #[.func (.func F) #[] cap] w (AsMk w (.func (.func F) #[] cap)) := by
  have hmf : ∀ (fn : Fn) (first cap : Array Value) (w : World), (Instr.makeFunc fn first cap).run Tryz.prog w = .ok (.func fn first cap) w := fun _ _ _ _ => rfl
  go_enter Tryz.func53, Tryz.ntmps53
  go_wp2_with fail
  refine (told_mk _ _ _).mono ?_
  rintro e w0 ⟨rfl, hw0⟩
  have hc0 := cell_new1 w (.func (.func F) #[] cap) 39
  have hc1 := cell_new1 (w.alloc (.cells #[.func (.func F) #[] cap] 39)) (.func (.func 94) #[] #[.pointer (some ⟨w.heap.size, 0, none⟩)]) 69
  have hc2 := cell_old hc0 (.cells #[.func (.func 94) #[] #[.pointer (some ⟨w.heap.size, 0, none⟩)]] 69)
  rw [World.size_alloc] at hc1
  have hb0 : Below w.heap.size w ((w.alloc (.cells #[.func (.func F) #[] cap] 39)).alloc (.cells #[.func (.func 94) #[] #[.pointer (some ⟨w.heap.size, 0, none⟩)]] 69)) := ((Below.refl _ _).alloc (Nat.le_refl _) _).alloc (by rw [World.size_alloc]; omega) _
  rw [hw0] at hc1 hc2 hb0
  have H0 := Lib.hid (And.intro hc1 (And.intro hc2 hb0))
  clear hc0 hc1 hc2 hb0 hw0
  go_wp2_with fail
  go_ret
  exact ⟨_, _, rfl, H0.out.1, H0.out.2.1, H0.out.2.2⟩
end
end Go.Proofs.YtocnlapbkidinaaGreatDoor
namespace Go.Proofs.YtocnlapbkidinaaGreatDoor
section
open Go.RowKit
set_option maxRecDepth 100000

set_option maxHeartbeats 3200000 in
theorem doing_add (w : World) : Calls Tryz.prog 24 #[.int .i64 1] w fun e w' => ∃ gh, RkMk w (.func (.func 81) #[] #[.pointer (some ⟨gh, 0, none⟩)]) e w' ∧ w'.cell? ⟨gh, 0, none⟩ = some (.func (.func 43) #[] #[]) := by
  have hmf : ∀ (fn : Fn) (first cap : Array Value) (w : World), (Instr.makeFunc fn first cap).run Tryz.prog w = .ok (.func fn first cap) w := fun _ _ _ _ => rfl
  go_enter Tryz.func24, Tryz.ntmps24
  go_wp2_with fail
  refine (sure_any _ _ _).mono ?_
  rintro e w0 ⟨rfl, hw0⟩
  have hc0 := cell_new1 w (.func (.func 43) #[] #[]) 62
  have hb0 : Below w.heap.size w (w.alloc (.cells #[.func (.func 43) #[] #[]] 62)) := (Below.refl _ _).alloc (Nat.le_refl _) _
  have hs0 : (w.alloc (.cells #[.func (.func 43) #[] #[]] 62)).heap.size = w.heap.size + 1 := World.size_alloc ..
  rw [hw0] at hc0 hb0 hs0
  have H0 := Lib.hid (And.intro hc0 (And.intro hb0 hs0))
  clear hc0 hb0 hs0 hw0
  go_wp2_with fail
  refine (reckoned_mk _ _ _).mono ?_
  rintro e w1 ⟨gf, ⟨gi, gk, gd, rfl, h1, h2, h3, h4⟩, h5⟩
  have HX := Lib.hid (And.intro h1 (And.intro h2 (And.intro h3 (And.intro (H0.out.2.1.trans (h4.mono H0.out.2.1.size)) (And.intro h5 ((h4.cell (p := ⟨w.heap.size, 0, none⟩) (by show w.heap.size < _; rw [H0.out.2.2]; omega)).trans H0.out.1))))))
  clear h1 h2 h3 h4 h5
  go_wp2_with fail
  go_ret
  exact ⟨_, ⟨_, ⟨gi, gk, gd, rfl, HX.out.1, HX.out.2.1, HX.out.2.2.1, HX.out.2.2.2.1⟩, HX.out.2.2.2.2.1⟩, HX.out.2.2.2.2.2⟩
set_option maxHeartbeats 3200000 in
theorem doing_sub (w : World) : Calls Tryz.prog 24 #[.int .i64 2] w fun e w' => ∃ gh, RkMk w (.func (.func 81) #[] #[.pointer (some ⟨gh, 0, none⟩)]) e w' ∧ w'.cell? ⟨gh, 0, none⟩ = some (.func (.func 44) #[] #[]) := by
  have hmf : ∀ (fn : Fn) (first cap : Array Value) (w : World), (Instr.makeFunc fn first cap).run Tryz.prog w = .ok (.func fn first cap) w := fun _ _ _ _ => rfl
  go_enter Tryz.func24, Tryz.ntmps24
  go_wp2_with fail
  refine (sure_any _ _ _).mono ?_
  rintro e w0 ⟨rfl, hw0⟩
  have hc0 := cell_new1 w (.func (.func 44) #[] #[]) 62
  have hb0 : Below w.heap.size w (w.alloc (.cells #[.func (.func 44) #[] #[]] 62)) := (Below.refl _ _).alloc (Nat.le_refl _) _
  have hs0 : (w.alloc (.cells #[.func (.func 44) #[] #[]] 62)).heap.size = w.heap.size + 1 := World.size_alloc ..
  rw [hw0] at hc0 hb0 hs0
  have H0 := Lib.hid (And.intro hc0 (And.intro hb0 hs0))
  clear hc0 hb0 hs0 hw0
  go_wp2_with fail
  refine (reckoned_mk _ _ _).mono ?_
  rintro e w1 ⟨gf, ⟨gi, gk, gd, rfl, h1, h2, h3, h4⟩, h5⟩
  have HX := Lib.hid (And.intro h1 (And.intro h2 (And.intro h3 (And.intro (H0.out.2.1.trans (h4.mono H0.out.2.1.size)) (And.intro h5 ((h4.cell (p := ⟨w.heap.size, 0, none⟩) (by show w.heap.size < _; rw [H0.out.2.2]; omega)).trans H0.out.1))))))
  clear h1 h2 h3 h4 h5
  go_wp2_with fail
  go_ret
  exact ⟨_, ⟨_, ⟨gi, gk, gd, rfl, HX.out.1, HX.out.2.1, HX.out.2.2.1, HX.out.2.2.2.1⟩, HX.out.2.2.2.2.1⟩, HX.out.2.2.2.2.2⟩
set_option maxHeartbeats 3200000 in
theorem doing_mul (w : World) : Calls Tryz.prog 24 #[.int .i64 3] w fun e w' => ∃ gh, RkMk w (.func (.func 81) #[] #[.pointer (some ⟨gh, 0, none⟩)]) e w' ∧ w'.cell? ⟨gh, 0, none⟩ = some (.func (.func 45) #[] #[]) := by
  have hmf : ∀ (fn : Fn) (first cap : Array Value) (w : World), (Instr.makeFunc fn first cap).run Tryz.prog w = .ok (.func fn first cap) w := fun _ _ _ _ => rfl
  go_enter Tryz.func24, Tryz.ntmps24
  go_wp2_with fail
  refine (sure_any _ _ _).mono ?_
  rintro e w0 ⟨rfl, hw0⟩
  have hc0 := cell_new1 w (.func (.func 45) #[] #[]) 62
  have hb0 : Below w.heap.size w (w.alloc (.cells #[.func (.func 45) #[] #[]] 62)) := (Below.refl _ _).alloc (Nat.le_refl _) _
  have hs0 : (w.alloc (.cells #[.func (.func 45) #[] #[]] 62)).heap.size = w.heap.size + 1 := World.size_alloc ..
  rw [hw0] at hc0 hb0 hs0
  have H0 := Lib.hid (And.intro hc0 (And.intro hb0 hs0))
  clear hc0 hb0 hs0 hw0
  go_wp2_with fail
  refine (reckoned_mk _ _ _).mono ?_
  rintro e w1 ⟨gf, ⟨gi, gk, gd, rfl, h1, h2, h3, h4⟩, h5⟩
  have HX := Lib.hid (And.intro h1 (And.intro h2 (And.intro h3 (And.intro (H0.out.2.1.trans (h4.mono H0.out.2.1.size)) (And.intro h5 ((h4.cell (p := ⟨w.heap.size, 0, none⟩) (by show w.heap.size < _; rw [H0.out.2.2]; omega)).trans H0.out.1))))))
  clear h1 h2 h3 h4 h5
  go_wp2_with fail
  go_ret
  exact ⟨_, ⟨_, ⟨gi, gk, gd, rfl, HX.out.1, HX.out.2.1, HX.out.2.2.1, HX.out.2.2.2.1⟩, HX.out.2.2.2.2.1⟩, HX.out.2.2.2.2.2⟩
set_option maxHeartbeats 3200000 in
theorem doing_quo (w : World) : Calls Tryz.prog 24 #[.int .i64 4] w fun e w' => ∃ gh, RkMk w (.func (.func 88) #[] #[.pointer (some ⟨gh, 0, none⟩)]) e w' ∧ w'.cell? ⟨gh, 0, none⟩ = some (.func (.func 47) #[] #[]) := by
  have hmf : ∀ (fn : Fn) (first cap : Array Value) (w : World), (Instr.makeFunc fn first cap).run Tryz.prog w = .ok (.func fn first cap) w := fun _ _ _ _ => rfl
  go_enter Tryz.func24, Tryz.ntmps24
  go_wp2_with fail
  refine (quotient_mk _ _ _).mono ?_
  rintro e w0 ⟨rfl, hw0⟩
  have hc0 := cell_new1 w (.func (.func 47) #[] #[]) 88
  have hb0 : Below w.heap.size w (w.alloc (.cells #[.func (.func 47) #[] #[]] 88)) := (Below.refl _ _).alloc (Nat.le_refl _) _
  have hs0 : (w.alloc (.cells #[.func (.func 47) #[] #[]] 88)).heap.size = w.heap.size + 1 := World.size_alloc ..
  rw [hw0] at hc0 hb0 hs0
  have H0 := Lib.hid (And.intro hc0 (And.intro hb0 hs0))
  clear hc0 hb0 hs0 hw0
  go_wp2_with fail
  refine (reckoned_mk _ _ _).mono ?_
  rintro e w1 ⟨gf, ⟨gi, gk, gd, rfl, h1, h2, h3, h4⟩, h5⟩
  have HX := Lib.hid (And.intro h1 (And.intro h2 (And.intro h3 (And.intro (H0.out.2.1.trans (h4.mono H0.out.2.1.size)) (And.intro h5 ((h4.cell (p := ⟨w.heap.size, 0, none⟩) (by show w.heap.size < _; rw [H0.out.2.2]; omega)).trans H0.out.1))))))
  clear h1 h2 h3 h4 h5
  go_wp2_with fail
  go_ret
  exact ⟨_, ⟨_, ⟨gi, gk, gd, rfl, HX.out.1, HX.out.2.1, HX.out.2.2.1, HX.out.2.2.2.1⟩, HX.out.2.2.2.2.1⟩, HX.out.2.2.2.2.2⟩
set_option maxHeartbeats 3200000 in
theorem doing_rem (w : World) : Calls Tryz.prog 24 #[.int .i64 5] w fun e w' => ∃ gh, RkMk w (.func (.func 91) #[] #[.pointer (some ⟨gh, 0, none⟩)]) e w' ∧ w'.cell? ⟨gh, 0, none⟩ = some (.func (.func 47) #[] #[]) := by
  have hmf : ∀ (fn : Fn) (first cap : Array Value) (w : World), (Instr.makeFunc fn first cap).run Tryz.prog w = .ok (.func fn first cap) w := fun _ _ _ _ => rfl
  go_enter Tryz.func24, Tryz.ntmps24
  go_wp2_with fail
  refine (left_mk _ _ _).mono ?_
  rintro e w0 ⟨rfl, hw0⟩
  have hc0 := cell_new1 w (.func (.func 47) #[] #[]) 88
  have hb0 : Below w.heap.size w (w.alloc (.cells #[.func (.func 47) #[] #[]] 88)) := (Below.refl _ _).alloc (Nat.le_refl _) _
  have hs0 : (w.alloc (.cells #[.func (.func 47) #[] #[]] 88)).heap.size = w.heap.size + 1 := World.size_alloc ..
  rw [hw0] at hc0 hb0 hs0
  have H0 := Lib.hid (And.intro hc0 (And.intro hb0 hs0))
  clear hc0 hb0 hs0 hw0
  go_wp2_with fail
  refine (reckoned_mk _ _ _).mono ?_
  rintro e w1 ⟨gf, ⟨gi, gk, gd, rfl, h1, h2, h3, h4⟩, h5⟩
  have HX := Lib.hid (And.intro h1 (And.intro h2 (And.intro h3 (And.intro (H0.out.2.1.trans (h4.mono H0.out.2.1.size)) (And.intro h5 ((h4.cell (p := ⟨w.heap.size, 0, none⟩) (by show w.heap.size < _; rw [H0.out.2.2]; omega)).trans H0.out.1))))))
  clear h1 h2 h3 h4 h5
  go_wp2_with fail
  go_ret
  exact ⟨_, ⟨_, ⟨gi, gk, gd, rfl, HX.out.1, HX.out.2.1, HX.out.2.2.1, HX.out.2.2.2.1⟩, HX.out.2.2.2.2.1⟩, HX.out.2.2.2.2.2⟩
set_option maxHeartbeats 3200000 in
theorem doing_mod (w : World) : Calls Tryz.prog 24 #[.int .i64 6] w fun e w' => ∃ gh, RkMk w (.func (.func 91) #[] #[.pointer (some ⟨gh, 0, none⟩)]) e w' ∧ w'.cell? ⟨gh, 0, none⟩ = some (.func (.func 49) #[] #[]) := by
  have hmf : ∀ (fn : Fn) (first cap : Array Value) (w : World), (Instr.makeFunc fn first cap).run Tryz.prog w = .ok (.func fn first cap) w := fun _ _ _ _ => rfl
  go_enter Tryz.func24, Tryz.ntmps24
  go_wp2_with fail
  refine (left_mk _ _ _).mono ?_
  rintro e w0 ⟨rfl, hw0⟩
  have hc0 := cell_new1 w (.func (.func 49) #[] #[]) 88
  have hb0 : Below w.heap.size w (w.alloc (.cells #[.func (.func 49) #[] #[]] 88)) := (Below.refl _ _).alloc (Nat.le_refl _) _
  have hs0 : (w.alloc (.cells #[.func (.func 49) #[] #[]] 88)).heap.size = w.heap.size + 1 := World.size_alloc ..
  rw [hw0] at hc0 hb0 hs0
  have H0 := Lib.hid (And.intro hc0 (And.intro hb0 hs0))
  clear hc0 hb0 hs0 hw0
  go_wp2_with fail
  refine (reckoned_mk _ _ _).mono ?_
  rintro e w1 ⟨gf, ⟨gi, gk, gd, rfl, h1, h2, h3, h4⟩, h5⟩
  have HX := Lib.hid (And.intro h1 (And.intro h2 (And.intro h3 (And.intro (H0.out.2.1.trans (h4.mono H0.out.2.1.size)) (And.intro h5 ((h4.cell (p := ⟨w.heap.size, 0, none⟩) (by show w.heap.size < _; rw [H0.out.2.2]; omega)).trans H0.out.1))))))
  clear h1 h2 h3 h4 h5
  go_wp2_with fail
  go_ret
  exact ⟨_, ⟨_, ⟨gi, gk, gd, rfl, HX.out.1, HX.out.2.1, HX.out.2.2.1, HX.out.2.2.2.1⟩, HX.out.2.2.2.2.1⟩, HX.out.2.2.2.2.2⟩
set_option maxHeartbeats 3200000 in
theorem doing_eq (w : World) : Calls Tryz.prog 24 #[.int .i64 7] w (CmMk w (.func (.func 51) #[] #[])) := by
  have hmf : ∀ (fn : Fn) (first cap : Array Value) (w : World), (Instr.makeFunc fn first cap).run Tryz.prog w = .ok (.func fn first cap) w := fun _ _ _ _ => rfl
  go_enter Tryz.func24, Tryz.ntmps24
  go_wp2_with fail
  refine (compared_mk _ _ _).mono ?_
  rintro e w1 ⟨gt, gf, ⟨gi, gk, gd, rfl, h1, h2, h3, h4⟩, h5, h6⟩
  have HX := Lib.hid (And.intro h1 (And.intro h2 (And.intro h3 (And.intro h4 (And.intro h5 h6)))))
  clear h1 h2 h3 h4 h5 h6
  go_wp2_with fail
  go_ret
  exact ⟨_, _, ⟨gi, gk, gd, rfl, HX.out.1, HX.out.2.1, HX.out.2.2.1, HX.out.2.2.2.1⟩, HX.out.2.2.2.2.1, HX.out.2.2.2.2.2⟩
set_option maxHeartbeats 3200000 in
theorem doing_less (w : World) : Calls Tryz.prog 24 #[.int .i64 8] w (CmMk w (.func (.func 52) #[] #[])) := by
  have hmf : ∀ (fn : Fn) (first cap : Array Value) (w : World), (Instr.makeFunc fn first cap).run Tryz.prog w = .ok (.func fn first cap) w := fun _ _ _ _ => rfl
  go_enter Tryz.func24, Tryz.ntmps24
  go_wp2_with fail
  refine (compared_mk _ _ _).mono ?_
  rintro e w1 ⟨gt, gf, ⟨gi, gk, gd, rfl, h1, h2, h3, h4⟩, h5, h6⟩
  have HX := Lib.hid (And.intro h1 (And.intro h2 (And.intro h3 (And.intro h4 (And.intro h5 h6)))))
  clear h1 h2 h3 h4 h5 h6
  go_wp2_with fail
  go_ret
  exact ⟨_, _, ⟨gi, gk, gd, rfl, HX.out.1, HX.out.2.1, HX.out.2.2.1, HX.out.2.2.2.1⟩, HX.out.2.2.2.2.1, HX.out.2.2.2.2.2⟩
set_option maxHeartbeats 3200000 in
theorem doing_nullq (w : World) : Calls Tryz.prog 24 #[.int .i64 14] w (AsMk w (.func (.func 37) #[] #[])) := by
  have hmf : ∀ (fn : Fn) (first cap : Array Value) (w : World), (Instr.makeFunc fn first cap).run Tryz.prog w = .ok (.func fn first cap) w := fun _ _ _ _ => rfl
  go_enter Tryz.func24, Tryz.ntmps24
  go_wp2_with fail
  refine (asked_mk _ _ _).mono ?_
  rintro e w1 ⟨gt, gf, rfl, h1, h2, h3⟩
  have HX := Lib.hid (And.intro h1 (And.intro h2 h3))
  clear h1 h2 h3
  go_wp2_with fail
  go_ret
  exact ⟨_, _, rfl, HX.out.1, HX.out.2.1, HX.out.2.2⟩
set_option maxHeartbeats 3200000 in
theorem doing_pairq (w : World) : Calls Tryz.prog 24 #[.int .i64 15] w (AsMk w (.func (.func 54) #[] #[])) := by
  have hmf : ∀ (fn : Fn) (first cap : Array Value) (w : World), (Instr.makeFunc fn first cap).run Tryz.prog w = .ok (.func fn first cap) w := fun _ _ _ _ => rfl
  go_enter Tryz.func24, Tryz.ntmps24
  go_wp2_with fail
  refine (asked_mk _ _ _).mono ?_
  rintro e w1 ⟨gt, gf, rfl, h1, h2, h3⟩
  have HX := Lib.hid (And.intro h1 (And.intro h2 h3))
  clear h1 h2 h3
  go_wp2_with fail
  go_ret
  exact ⟨_, _, rfl, HX.out.1, HX.out.2.1, HX.out.2.2⟩
set_option maxHeartbeats 3200000 in
theorem doing_not (w : World) : Calls Tryz.prog 24 #[.int .i64 22] w (AsMk w (.func (.func 35) #[] #[])) := by
  have hmf : ∀ (fn : Fn) (first cap : Array Value) (w : World), (Instr.makeFunc fn first cap).run Tryz.prog w = .ok (.func fn first cap) w := fun _ _ _ _ => rfl
  go_enter Tryz.func24, Tryz.ntmps24
  go_wp2_with fail
  refine (asked_mk _ _ _).mono ?_
  rintro e w1 ⟨gt, gf, rfl, h1, h2, h3⟩
  have HX := Lib.hid (And.intro h1 (And.intro h2 h3))
  clear h1 h2 h3
  go_wp2_with fail
  go_ret
  exact ⟨_, _, rfl, HX.out.1, HX.out.2.1, HX.out.2.2⟩
set_option maxHeartbeats 3200000 in
theorem doing_numq (w : World) : Calls Tryz.prog 24 #[.int .i64 16] w fun e w' => ∃ gk, AsMk w (.func (.func 95) #[] #[.pointer (some ⟨gk, 0, none⟩)]) e w' ∧ w'.cell? ⟨gk, 0, none⟩ = some (.int .i64 1) := by
  have hmf : ∀ (fn : Fn) (first cap : Array Value) (w : World), (Instr.makeFunc fn first cap).run Tryz.prog w = .ok (.func fn first cap) w := fun _ _ _ _ => rfl
  go_enter Tryz.func24, Tryz.ntmps24
  go_wp2_with fail
  refine (isOf_mk _ _).mono ?_
  rintro e w0 ⟨rfl, hw0⟩
  have hc0 := cell_new1 w (.int .i64 1) 3
  have hb0 : Below w.heap.size w (w.alloc (.cells #[.int .i64 1] 3)) := (Below.refl _ _).alloc (Nat.le_refl _) _
  have hs0 : (w.alloc (.cells #[.int .i64 1] 3)).heap.size = w.heap.size + 1 := World.size_alloc ..
  rw [hw0] at hc0 hb0 hs0
  have H0 := Lib.hid (And.intro hc0 (And.intro hb0 hs0))
  clear hc0 hb0 hs0 hw0
  go_wp2_with fail
  refine (asked_mk _ _ _).mono ?_
  rintro e w1 ⟨gt, gf, rfl, h1, h2, h3⟩
  have HX := Lib.hid (And.intro h1 (And.intro h2 (And.intro (H0.out.2.1.trans (h3.mono H0.out.2.1.size)) ((h3.cell (p := ⟨w.heap.size, 0, none⟩) (by show w.heap.size < _; rw [H0.out.2.2]; omega)).trans H0.out.1))))
  clear h1 h2 h3
  go_wp2_with fail
  go_ret
  exact ⟨_, ⟨_, _, rfl, HX.out.1, HX.out.2.1, HX.out.2.2.1⟩, HX.out.2.2.2⟩
set_option maxHeartbeats 3200000 in
theorem doing_symq (w : World) : Calls Tryz.prog 24 #[.int .i64 17] w fun e w' => ∃ gk, AsMk w (.func (.func 95) #[] #[.pointer (some ⟨gk, 0, none⟩)]) e w' ∧ w'.cell? ⟨gk, 0, none⟩ = some (.int .i64 3) := by
  have hmf : ∀ (fn : Fn) (first cap : Array Value) (w : World), (Instr.makeFunc fn first cap).run Tryz.prog w = .ok (.func fn first cap) w := fun _ _ _ _ => rfl
  go_enter Tryz.func24, Tryz.ntmps24
  go_wp2_with fail
  refine (isOf_mk _ _).mono ?_
  rintro e w0 ⟨rfl, hw0⟩
  have hc0 := cell_new1 w (.int .i64 3) 3
  have hb0 : Below w.heap.size w (w.alloc (.cells #[.int .i64 3] 3)) := (Below.refl _ _).alloc (Nat.le_refl _) _
  have hs0 : (w.alloc (.cells #[.int .i64 3] 3)).heap.size = w.heap.size + 1 := World.size_alloc ..
  rw [hw0] at hc0 hb0 hs0
  have H0 := Lib.hid (And.intro hc0 (And.intro hb0 hs0))
  clear hc0 hb0 hs0 hw0
  go_wp2_with fail
  refine (asked_mk _ _ _).mono ?_
  rintro e w1 ⟨gt, gf, rfl, h1, h2, h3⟩
  have HX := Lib.hid (And.intro h1 (And.intro h2 (And.intro (H0.out.2.1.trans (h3.mono H0.out.2.1.size)) ((h3.cell (p := ⟨w.heap.size, 0, none⟩) (by show w.heap.size < _; rw [H0.out.2.2]; omega)).trans H0.out.1))))
  clear h1 h2 h3
  go_wp2_with fail
  go_ret
  exact ⟨_, ⟨_, _, rfl, HX.out.1, HX.out.2.1, HX.out.2.2.1⟩, HX.out.2.2.2⟩
set_option maxHeartbeats 3200000 in
theorem doing_strq (w : World) : Calls Tryz.prog 24 #[.int .i64 18] w fun e w' => ∃ gk, AsMk w (.func (.func 95) #[] #[.pointer (some ⟨gk, 0, none⟩)]) e w' ∧ w'.cell? ⟨gk, 0, none⟩ = some (.int .i64 4) := by
  have hmf : ∀ (fn : Fn) (first cap : Array Value) (w : World), (Instr.makeFunc fn first cap).run Tryz.prog w = .ok (.func fn first cap) w := fun _ _ _ _ => rfl
  go_enter Tryz.func24, Tryz.ntmps24
  go_wp2_with fail
  refine (isOf_mk _ _).mono ?_
  rintro e w0 ⟨rfl, hw0⟩
  have hc0 := cell_new1 w (.int .i64 4) 3
  have hb0 : Below w.heap.size w (w.alloc (.cells #[.int .i64 4] 3)) := (Below.refl _ _).alloc (Nat.le_refl _) _
  have hs0 : (w.alloc (.cells #[.int .i64 4] 3)).heap.size = w.heap.size + 1 := World.size_alloc ..
  rw [hw0] at hc0 hb0 hs0
  have H0 := Lib.hid (And.intro hc0 (And.intro hb0 hs0))
  clear hc0 hb0 hs0 hw0
  go_wp2_with fail
  refine (asked_mk _ _ _).mono ?_
  rintro e w1 ⟨gt, gf, rfl, h1, h2, h3⟩
  have HX := Lib.hid (And.intro h1 (And.intro h2 (And.intro (H0.out.2.1.trans (h3.mono H0.out.2.1.size)) ((h3.cell (p := ⟨w.heap.size, 0, none⟩) (by show w.heap.size < _; rw [H0.out.2.2]; omega)).trans H0.out.1))))
  clear h1 h2 h3
  go_wp2_with fail
  go_ret
  exact ⟨_, ⟨_, _, rfl, HX.out.1, HX.out.2.1, HX.out.2.2.1⟩, HX.out.2.2.2⟩
set_option maxHeartbeats 3200000 in
theorem doing_boolq (w : World) : Calls Tryz.prog 24 #[.int .i64 19] w fun e w' => ∃ gk, AsMk w (.func (.func 95) #[] #[.pointer (some ⟨gk, 0, none⟩)]) e w' ∧ w'.cell? ⟨gk, 0, none⟩ = some (.int .i64 2) := by
  have hmf : ∀ (fn : Fn) (first cap : Array Value) (w : World), (Instr.makeFunc fn first cap).run Tryz.prog w = .ok (.func fn first cap) w := fun _ _ _ _ => rfl
  go_enter Tryz.func24, Tryz.ntmps24
  go_wp2_with fail
  refine (isOf_mk _ _).mono ?_
  rintro e w0 ⟨rfl, hw0⟩
  have hc0 := cell_new1 w (.int .i64 2) 3
  have hb0 : Below w.heap.size w (w.alloc (.cells #[.int .i64 2] 3)) := (Below.refl _ _).alloc (Nat.le_refl _) _
  have hs0 : (w.alloc (.cells #[.int .i64 2] 3)).heap.size = w.heap.size + 1 := World.size_alloc ..
  rw [hw0] at hc0 hb0 hs0
  have H0 := Lib.hid (And.intro hc0 (And.intro hb0 hs0))
  clear hc0 hb0 hs0 hw0
  go_wp2_with fail
  refine (asked_mk _ _ _).mono ?_
  rintro e w1 ⟨gt, gf, rfl, h1, h2, h3⟩
  have HX := Lib.hid (And.intro h1 (And.intro h2 (And.intro (H0.out.2.1.trans (h3.mono H0.out.2.1.size)) ((h3.cell (p := ⟨w.heap.size, 0, none⟩) (by show w.heap.size < _; rw [H0.out.2.2]; omega)).trans H0.out.1))))
  clear h1 h2 h3
  go_wp2_with fail
  go_ret
  exact ⟨_, ⟨_, _, rfl, HX.out.1, HX.out.2.1, HX.out.2.2.1⟩, HX.out.2.2.2⟩
set_option maxHeartbeats 3200000 in
theorem doing_strlen (w : World) : Calls Tryz.prog 24 #[.int .i64 23] w fun e w' => ∃ gh, OnlyP w 4 (.func (.func 96) #[] #[.pointer (some ⟨gh, 0, none⟩)]) e w' ∧ w'.cell? ⟨gh, 0, none⟩ = some (.func (.func 60) #[] #[]) := by
  have hmf : ∀ (fn : Fn) (first cap : Array Value) (w : World), (Instr.makeFunc fn first cap).run Tryz.prog w = .ok (.func fn first cap) w := fun _ _ _ _ => rfl
  go_enter Tryz.func24, Tryz.ntmps24
  go_wp2_with fail
  refine (told_mk _ _ _).mono ?_
  rintro e w0 ⟨rfl, hw0⟩
  have hc0 := cell_new1 w (.func (.func 60) #[] #[]) 69
  have hb0 : Below w.heap.size w (w.alloc (.cells #[.func (.func 60) #[] #[]] 69)) := (Below.refl _ _).alloc (Nat.le_refl _) _
  have hs0 : (w.alloc (.cells #[.func (.func 60) #[] #[]] 69)).heap.size = w.heap.size + 1 := World.size_alloc ..
  rw [hw0] at hc0 hb0 hs0
  have H0 := Lib.hid (And.intro hc0 (And.intro hb0 hs0))
  clear hc0 hb0 hs0 hw0
  go_wp2_with fail
  refine (only_mk 4 _ _ _).mono ?_
  rintro e w1 ⟨gi, gk, gd, rfl, h1, h2, h3, h4⟩
  have HX := Lib.hid (And.intro h1 (And.intro h2 (And.intro h3 (And.intro (H0.out.2.1.trans (h4.mono H0.out.2.1.size)) ((h4.cell (p := ⟨w.heap.size, 0, none⟩) (by show w.heap.size < _; rw [H0.out.2.2]; omega)).trans H0.out.1)))))
  clear h1 h2 h3 h4
  go_wp2_with fail
  go_ret
  exact ⟨_, ⟨gi, gk, gd, rfl, HX.out.1, HX.out.2.1, HX.out.2.2.1, HX.out.2.2.2.1⟩, HX.out.2.2.2.2⟩
set_option maxHeartbeats 3200000 in
theorem doing_streq (w : World) : Calls Tryz.prog 24 #[.int .i64 25] w fun e w' => ∃ gh, OnlyP w 4 (.func (.func 96) #[] #[.pointer (some ⟨gh, 0, none⟩)]) e w' ∧ w'.cell? ⟨gh, 0, none⟩ = some (.func (.func 63) #[] #[]) := by
  have hmf : ∀ (fn : Fn) (first cap : Array Value) (w : World), (Instr.makeFunc fn first cap).run Tryz.prog w = .ok (.func fn first cap) w := fun _ _ _ _ => rfl
  go_enter Tryz.func24, Tryz.ntmps24
  go_wp2_with fail
  refine (told_mk _ _ _).mono ?_
  rintro e w0 ⟨rfl, hw0⟩
  have hc0 := cell_new1 w (.func (.func 63) #[] #[]) 69
  have hb0 : Below w.heap.size w (w.alloc (.cells #[.func (.func 63) #[] #[]] 69)) := (Below.refl _ _).alloc (Nat.le_refl _) _
  have hs0 : (w.alloc (.cells #[.func (.func 63) #[] #[]] 69)).heap.size = w.heap.size + 1 := World.size_alloc ..
  rw [hw0] at hc0 hb0 hs0
  have H0 := Lib.hid (And.intro hc0 (And.intro hb0 hs0))
  clear hc0 hb0 hs0 hw0
  go_wp2_with fail
  refine (only_mk 4 _ _ _).mono ?_
  rintro e w1 ⟨gi, gk, gd, rfl, h1, h2, h3, h4⟩
  have HX := Lib.hid (And.intro h1 (And.intro h2 (And.intro h3 (And.intro (H0.out.2.1.trans (h4.mono H0.out.2.1.size)) ((h4.cell (p := ⟨w.heap.size, 0, none⟩) (by show w.heap.size < _; rw [H0.out.2.2]; omega)).trans H0.out.1)))))
  clear h1 h2 h3 h4
  go_wp2_with fail
  go_ret
  exact ⟨_, ⟨gi, gk, gd, rfl, HX.out.1, HX.out.2.1, HX.out.2.2.1, HX.out.2.2.2.1⟩, HX.out.2.2.2.2⟩
set_option maxHeartbeats 3200000 in
theorem doing_symstr (w : World) : Calls Tryz.prog 24 #[.int .i64 26] w fun e w' => ∃ gh, OnlyP w 3 (.func (.func 96) #[] #[.pointer (some ⟨gh, 0, none⟩)]) e w' ∧ w'.cell? ⟨gh, 0, none⟩ = some (.func (.func 64) #[] #[]) := by
  have hmf : ∀ (fn : Fn) (first cap : Array Value) (w : World), (Instr.makeFunc fn first cap).run Tryz.prog w = .ok (.func fn first cap) w := fun _ _ _ _ => rfl
  go_enter Tryz.func24, Tryz.ntmps24
  go_wp2_with fail
  refine (told_mk _ _ _).mono ?_
  rintro e w0 ⟨rfl, hw0⟩
  have hc0 := cell_new1 w (.func (.func 64) #[] #[]) 69
  have hb0 : Below w.heap.size w (w.alloc (.cells #[.func (.func 64) #[] #[]] 69)) := (Below.refl _ _).alloc (Nat.le_refl _) _
  have hs0 : (w.alloc (.cells #[.func (.func 64) #[] #[]] 69)).heap.size = w.heap.size + 1 := World.size_alloc ..
  rw [hw0] at hc0 hb0 hs0
  have H0 := Lib.hid (And.intro hc0 (And.intro hb0 hs0))
  clear hc0 hb0 hs0 hw0
  go_wp2_with fail
  refine (only_mk 3 _ _ _).mono ?_
  rintro e w1 ⟨gi, gk, gd, rfl, h1, h2, h3, h4⟩
  have HX := Lib.hid (And.intro h1 (And.intro h2 (And.intro h3 (And.intro (H0.out.2.1.trans (h4.mono H0.out.2.1.size)) ((h4.cell (p := ⟨w.heap.size, 0, none⟩) (by show w.heap.size < _; rw [H0.out.2.2]; omega)).trans H0.out.1)))))
  clear h1 h2 h3 h4
  go_wp2_with fail
  go_ret
  exact ⟨_, ⟨gi, gk, gd, rfl, HX.out.1, HX.out.2.1, HX.out.2.2.1, HX.out.2.2.2.1⟩, HX.out.2.2.2.2⟩
set_option maxHeartbeats 3200000 in
theorem doing_numstr (w : World) : Calls Tryz.prog 24 #[.int .i64 27] w fun e w' => ∃ gh, OnlyP w 1 (.func (.func 96) #[] #[.pointer (some ⟨gh, 0, none⟩)]) e w' ∧ w'.cell? ⟨gh, 0, none⟩ = some (.func (.func 66) #[] #[]) := by
  have hmf : ∀ (fn : Fn) (first cap : Array Value) (w : World), (Instr.makeFunc fn first cap).run Tryz.prog w = .ok (.func fn first cap) w := fun _ _ _ _ => rfl
  go_enter Tryz.func24, Tryz.ntmps24
  go_wp2_with fail
  refine (told_mk _ _ _).mono ?_
  rintro e w0 ⟨rfl, hw0⟩
  have hc0 := cell_new1 w (.func (.func 66) #[] #[]) 69
  have hb0 : Below w.heap.size w (w.alloc (.cells #[.func (.func 66) #[] #[]] 69)) := (Below.refl _ _).alloc (Nat.le_refl _) _
  have hs0 : (w.alloc (.cells #[.func (.func 66) #[] #[]] 69)).heap.size = w.heap.size + 1 := World.size_alloc ..
  rw [hw0] at hc0 hb0 hs0
  have H0 := Lib.hid (And.intro hc0 (And.intro hb0 hs0))
  clear hc0 hb0 hs0 hw0
  go_wp2_with fail
  refine (only_mk 1 _ _ _).mono ?_
  rintro e w1 ⟨gi, gk, gd, rfl, h1, h2, h3, h4⟩
  have HX := Lib.hid (And.intro h1 (And.intro h2 (And.intro h3 (And.intro (H0.out.2.1.trans (h4.mono H0.out.2.1.size)) ((h4.cell (p := ⟨w.heap.size, 0, none⟩) (by show w.heap.size < _; rw [H0.out.2.2]; omega)).trans H0.out.1)))))
  clear h1 h2 h3 h4
  go_wp2_with fail
  go_ret
  exact ⟨_, ⟨gi, gk, gd, rfl, HX.out.1, HX.out.2.1, HX.out.2.2.1, HX.out.2.2.2.1⟩, HX.out.2.2.2.2⟩
set_option maxHeartbeats 3200000 in
theorem doing_strapp (w : World) : Calls Tryz.prog 24 #[.int .i64 24] w (OnlyP w 4 (.func (.func 62) #[] #[])) := by
  have hmf : ∀ (fn : Fn) (first cap : Array Value) (w : World), (Instr.makeFunc fn first cap).run Tryz.prog w = .ok (.func fn first cap) w := fun _ _ _ _ => rfl
  go_enter Tryz.func24, Tryz.ntmps24
  go_wp2_with fail
  refine (only_mk 4 _ _ _).mono ?_
  rintro e w1 ⟨gi, gk, gd, rfl, h1, h2, h3, h4⟩
  have HX := Lib.hid (And.intro h1 (And.intro h2 (And.intro h3 h4)))
  clear h1 h2 h3 h4
  go_wp2_with fail
  go_ret
  exact ⟨gi, gk, gd, rfl, HX.out.1, HX.out.2.1, HX.out.2.2.1, HX.out.2.2.2⟩
set_option maxHeartbeats 3200000 in
theorem doing_eqq (w : World) : Calls Tryz.prog 24 #[.int .i64 21] w fun e w' => ∃ gh, e = .returned (.func (.func 96) #[] #[.pointer (some ⟨gh, 0, none⟩)]) ∧ w'.cell? ⟨gh, 0, none⟩ = some (.func (.func 57) #[] #[]) ∧ Below w.heap.size w w' := by
  have hmf : ∀ (fn : Fn) (first cap : Array Value) (w : World), (Instr.makeFunc fn first cap).run Tryz.prog w = .ok (.func fn first cap) w := fun _ _ _ _ => rfl
  go_enter Tryz.func24, Tryz.ntmps24
  go_wp2_with fail
  refine (told_mk _ _ _).mono ?_
  rintro e w0 ⟨rfl, hw0⟩
  have hc0 := cell_new1 w (.func (.func 57) #[] #[]) 69
  have hb0 : Below w.heap.size w (w.alloc (.cells #[.func (.func 57) #[] #[]] 69)) := (Below.refl _ _).alloc (Nat.le_refl _) _
  rw [hw0] at hc0 hb0
  have H0 := Lib.hid (And.intro hc0 hb0)
  clear hc0 hb0 hw0
  go_wp2_with fail
  go_ret
  exact ⟨_, rfl, H0.out.1, H0.out.2⟩
end
end Go.Proofs.YtocnlapbkidinaaGreatDoor
namespace Go.Proofs.YtocnlapbkidinaaGreatDoor
section
open Go.RowKit
set_option maxRecDepth 100000

/-- A doing was told that comes to that of the row. -/
def DoingP (w0 : World) (A : Option Addr) (n c : Nat) (k : Int) (sg : Bool) (xs : List Nat) (b : Bool) (s : ByteArray) (er : Int) (e : Ending) (w' : World) : Prop :=
  ∃ F cap, e = .returned (.func (.func F) #[] cap) ∧ Enters F ∧ Below w0.heap.size w0 w' ∧ ∀ W, Below w'.heap.size w' W → Calls Tryz.prog F (#[.slice A n c] ++ cap) W (TelP W k sg xs b s er)
theorem not_nil (F : Nat) (cap : Array Value) (W : World) : Sem.run Tryz.prog (binOp BinOp.eql 43 (.func (.func F) #[] cap) .nilFunc) W = .ok (.bool false) W := by
  first | rfl | kernel_rfl | simp [go_sem]
set_option maxHeartbeats 3200000 in
theorem do_any (p : Int) (A : Option Addr) (n c : Nat) (w : World) {k : Int} {sg : Bool} {xs : List Nat} {b : Bool} {s : ByteArray} {er : Int} (hn : n ≤ 1000)
    (hD : ∀ W, Below w.heap.size w W → Calls Tryz.prog 24 #[.int .i64 p] W (DoingP W A n c k sg xs b s er))
    (hA : ∀ W, Calls Tryz.prog 25 #[.int .i64 p] W fun e w' => e = .returned (.int .i64 (n : Int)) ∧ Below W.heap.size W w') :
    Calls Tryz.prog 8 #[.int .i64 p, .slice A n c] w (TelP w k sg xs b s er) := by
  have hz0 : (w.alloc (Obj.cells #[.int .i64 0, .bool false, .slice none 0 0, .bool false, .string ⟨#[]⟩, .slice none 0 0, .slice none 0 0] 29)).heap[w.heap.size]? = some (Obj.cells #[.int .i64 0, .bool false, .slice none 0 0, .bool false, .string ⟨#[]⟩, .slice none 0 0, .slice none 0 0] 29) := heap_alloc_new w (Obj.cells #[.int .i64 0, .bool false, .slice none 0 0, .bool false, .string ⟨#[]⟩, .slice none 0 0, .slice none 0 0] 29)
  have hb0 : Below w.heap.size w (w.alloc (Obj.cells #[.int .i64 0, .bool false, .slice none 0 0, .bool false, .string ⟨#[]⟩, .slice none 0 0, .slice none 0 0] 29)) := (Below.refl _ _).alloc (Nat.le_refl _) _
  have HH := Lib.hid (And.intro hD (And.intro hA (And.intro hz0 hb0)))
  clear hD hA hz0 hb0
  have hnil := not_nil
  go_enter Tryz.func8, Tryz.ntmps8
  go_wp2_with fail
  refine (HH.out.1 _ HH.out.2.2.2).mono ?_
  rintro e w1 ⟨F, cap, rfl, hF, b1, hC⟩
  have hz1 := (b1.block w.heap.size (Array.getElem?_eq_some_iff.1 HH.out.2.2.1).1).trans HH.out.2.2.1
  have H1 := Lib.hid (And.intro (HH.out.2.2.2.trans (b1.mono HH.out.2.2.2.size)) (And.intro hz1 hC))
  clear b1 hz1 hC
  go_wp2_with fail
  refine (HH.out.2.1 _).mono ?_
  rintro e w2 ⟨rfl, b2⟩
  have hz2 := (b2.block w.heap.size (Array.getElem?_eq_some_iff.1 H1.out.2.1).1).trans H1.out.2.1
  have H2 := Lib.hid (And.intro (H1.out.1.trans (b2.mono H1.out.1.size)) (And.intro hz2 (H1.out.2.2 _ b2)))
  clear b2 hz2
  go_wp2_with fail
  rw [hF, Oper.upon_enter]
  refine H2.out.2.2.mono ?_
  rintro e w3 ⟨A1, n1, c1, rfl, hsl, b3⟩
  have hz3 := (b3.block w.heap.size (Array.getElem?_eq_some_iff.1 H2.out.2.1).1).trans H2.out.2.1
  obtain ⟨⟨d0, d1, d2, d3, d4, d5, d6⟩, f0, f1, f2, f3, f4, f5, f6⟩ := cells7 hz3
  have HX := Lib.hid (And.intro hz3 (And.intro (H2.out.1.trans (b3.mono H2.out.1.size)) hsl))
  clear hz3 b3 hsl
  go_wp2_with fail
  exact tel_set rfl rfl rfl rfl HX.out.1 (Nat.le_refl _) HX.out.2.2 HX.out.2.1
end
end Go.Proofs.YtocnlapbkidinaaGreatDoor
