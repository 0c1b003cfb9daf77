/-
  prim.Do of what it does not do, of too many or too few data, of eq?; prim.Plain.
-/
import Derived.Test.YtocnlapbkidinaaGreatDoorPp4
import Derived.Test.YtocnlapbkidinaaGreatDoorPl1
import Derived.RegionTactic
import Derived.BigRegion
import Derived.Deep.RegionHeld3
set_option linter.unusedVariables false
set_option linter.unusedSimpArgs false
set_option linter.unusedSectionVars false
set_option linter.unnecessarySimpa false
namespace Go.Proofs.YtocnlapbkidinaaGreatDoor
open Go.RowKit
set_option maxRecDepth 100000

/-- Does Do do it? -/
def plainB (p : Int) : Bool := decide ((1 ≤ p ∧ p ≤ 8) ∨ (14 ≤ p ∧ p ≤ 19) ∨ (21 ≤ p ∧ p ≤ 27))
/-- How many data one takes that Do does. -/
def arB (p : Int) : Nat := if p ≤ 8 ∨ p = 21 ∨ p = 24 ∨ p = 25 then 2 else 1
theorem plainB_cases {p : Int} (h : plainB p = true) : p = 1 ∨ p = 2 ∨ p = 3 ∨ p = 4 ∨ p = 5 ∨ p = 6 ∨ p = 7 ∨ p = 8 ∨ p = 14 ∨ p = 15 ∨ p = 16 ∨ p = 17 ∨ p = 18 ∨ p = 19 ∨ p = 21 ∨ p = 22 ∨ p = 23 ∨ p = 24 ∨ p = 25 ∨ p = 26 ∨ p = 27 := by
  unfold plainB at h
  have := of_decide_eq_true h
  omega
theorem plainB_no {p : Int} (h : plainB p = false) : p ≠ 1 ∧ p ≠ 2 ∧ p ≠ 3 ∧ p ≠ 4 ∧ p ≠ 5 ∧ p ≠ 6 ∧ p ≠ 7 ∧ p ≠ 8 ∧ p ≠ 14 ∧ p ≠ 15 ∧ p ≠ 16 ∧ p ≠ 17 ∧ p ≠ 18 ∧ p ≠ 19 ∧ p ≠ 21 ∧ p ≠ 22 ∧ p ≠ 23 ∧ p ≠ 24 ∧ p ≠ 25 ∧ p ≠ 26 ∧ p ≠ 27 := by
  unfold plainB at h
  have := of_decide_eq_false h
  omega
def SomeD (w : World) (e : Ending) (w' : World) : Prop := ∃ F cap, e = .returned (.func (.func F) #[] cap) ∧ Below w.heap.size w w'
section
variable {w w' : World} {f : Value} {e : Ending} {k : Int}
theorem someR (h : RkMk w f e w') : SomeD w e w' := by
  obtain ⟨_, ⟨_, _, _, rfl, _, _, _, hb⟩, _⟩ := h
  exact ⟨_, _, rfl, hb⟩
theorem someC (h : CmMk w f e w') : SomeD w e w' := by
  obtain ⟨_, _, ⟨_, _, _, rfl, _, _, _, hb⟩, _⟩ := h
  exact ⟨_, _, rfl, hb⟩
theorem someA (h : AsMk w f e w') : SomeD w e w' := by
  obtain ⟨_, _, rfl, _, _, hb⟩ := h
  exact ⟨_, _, rfl, hb⟩
theorem someO (h : OnlyP w k f e w') : SomeD w e w' := by
  obtain ⟨_, _, _, rfl, _, _, _, hb⟩ := h
  exact ⟨_, _, rfl, hb⟩
end
theorem some_any (p : Int) (h : plainB p = true) (w : World) : Calls Tryz.prog 24 #[.int .i64 p] w (SomeD w) := by
  rcases plainB_cases h with rfl | rfl | rfl | rfl | rfl | rfl | rfl | rfl | rfl | rfl | rfl | rfl | rfl | rfl | rfl | rfl | rfl | rfl | rfl | rfl | rfl
  · exact (doing_add w).mono (fun _ _ ⟨_, h, _⟩ => someR h)
  · exact (doing_sub w).mono (fun _ _ ⟨_, h, _⟩ => someR h)
  · exact (doing_mul w).mono (fun _ _ ⟨_, h, _⟩ => someR h)
  · exact (doing_quo w).mono (fun _ _ ⟨_, h, _⟩ => someR h)
  · exact (doing_rem w).mono (fun _ _ ⟨_, h, _⟩ => someR h)
  · exact (doing_mod w).mono (fun _ _ ⟨_, h, _⟩ => someR h)
  · exact (doing_eq w).mono (fun _ _ h => someC h)
  · exact (doing_less w).mono (fun _ _ h => someC h)
  · exact (doing_nullq w).mono (fun _ _ h => someA h)
  · exact (doing_pairq w).mono (fun _ _ h => someA h)
  · exact (doing_numq w).mono (fun _ _ ⟨_, h, _⟩ => someA h)
  · exact (doing_symq w).mono (fun _ _ ⟨_, h, _⟩ => someA h)
  · exact (doing_strq w).mono (fun _ _ ⟨_, h, _⟩ => someA h)
  · exact (doing_boolq w).mono (fun _ _ ⟨_, h, _⟩ => someA h)
  · exact (doing_eqq w).mono (fun _ _ ⟨_, h, _, hb⟩ => ⟨_, _, h, hb⟩)
  · exact (doing_not w).mono (fun _ _ h => someA h)
  · exact (doing_strlen w).mono (fun _ _ ⟨_, h, _⟩ => someO h)
  · exact (doing_strapp w).mono (fun _ _ h => someO h)
  · exact (doing_streq w).mono (fun _ _ ⟨_, h, _⟩ => someO h)
  · exact (doing_symstr w).mono (fun _ _ ⟨_, h, _⟩ => someO h)
  · exact (doing_numstr w).mono (fun _ _ ⟨_, h, _⟩ => someO h)
theorem arity_any (p : Int) (h : plainB p = true) (w : World) : Calls Tryz.prog 25 #[.int .i64 p] w fun e w' => e = .returned (.int .i64 (arB p : Int)) ∧ Below w.heap.size w w' := by
  rcases plainB_cases h with rfl | rfl | rfl | rfl | rfl | rfl | rfl | rfl | rfl | rfl | rfl | rfl | rfl | rfl | rfl | rfl | rfl | rfl | rfl | rfl | rfl
  · exact arity_1 w
  · exact arity_2 w
  · exact arity_3 w
  · exact arity_4 w
  · exact arity_5 w
  · exact arity_6 w
  · exact arity_7 w
  · exact arity_8 w
  · exact arity_14 w
  · exact arity_15 w
  · exact arity_16 w
  · exact arity_17 w
  · exact arity_18 w
  · exact arity_19 w
  · exact arity_21 w
  · exact arity_22 w
  · exact arity_23 w
  · exact arity_24 w
  · exact arity_25 w
  · exact arity_26 w
  · exact arity_27 w
theorem nil_nil (W : World) : Sem.run Tryz.prog (binOp BinOp.eql 43 .nilFunc .nilFunc) W = .ok (.bool true) W := by
  first | rfl | kernel_rfl | simp [go_sem]
theorem nil_ne (W : World) : Sem.run Tryz.prog (binOp BinOp.neq 43 .nilFunc .nilFunc) W = .ok (.bool false) W := by
  first | rfl | kernel_rfl | simp [go_sem]
theorem func_ne (F : Nat) (cap : Array Value) (W : World) : Sem.run Tryz.prog (binOp BinOp.neq 43 (.func (.func F) #[] cap) .nilFunc) W = .ok (.bool true) W := by
  first | rfl | kernel_rfl | simp [go_sem]
set_option maxHeartbeats 3200000 in
theorem doing_none (p : Int) (h : plainB p = false) (w : World) : Calls Tryz.prog 24 #[.int .i64 p] w fun e w' => e = .returned .nilFunc ∧ Below w.heap.size w w' := by
  obtain ⟨h1, h2, h3, h4, h5, h6, h7, h8, h14, h15, h16, h17, h18, h19, h21, h22, h23, h24, h25, h26, h27⟩ := plainB_no h
  replace h1 : (p == 1) = false := beq_eq_false_iff_ne.2 h1
  replace h2 : (p == 2) = false := beq_eq_false_iff_ne.2 h2
  replace h3 : (p == 3) = false := beq_eq_false_iff_ne.2 h3
  replace h4 : (p == 4) = false := beq_eq_false_iff_ne.2 h4
  replace h5 : (p == 5) = false := beq_eq_false_iff_ne.2 h5
  replace h6 : (p == 6) = false := beq_eq_false_iff_ne.2 h6
  replace h7 : (p == 7) = false := beq_eq_false_iff_ne.2 h7
  replace h8 : (p == 8) = false := beq_eq_false_iff_ne.2 h8
  replace h14 : (p == 14) = false := beq_eq_false_iff_ne.2 h14
  replace h15 : (p == 15) = false := beq_eq_false_iff_ne.2 h15
  replace h16 : (p == 16) = false := beq_eq_false_iff_ne.2 h16
  replace h17 : (p == 17) = false := beq_eq_false_iff_ne.2 h17
  replace h18 : (p == 18) = false := beq_eq_false_iff_ne.2 h18
  replace h19 : (p == 19) = false := beq_eq_false_iff_ne.2 h19
  replace h21 : (p == 21) = false := beq_eq_false_iff_ne.2 h21
  replace h22 : (p == 22) = false := beq_eq_false_iff_ne.2 h22
  replace h23 : (p == 23) = false := beq_eq_false_iff_ne.2 h23
  replace h24 : (p == 24) = false := beq_eq_false_iff_ne.2 h24
  replace h25 : (p == 25) = false := beq_eq_false_iff_ne.2 h25
  replace h26 : (p == 26) = false := beq_eq_false_iff_ne.2 h26
  replace h27 : (p == 27) = false := beq_eq_false_iff_ne.2 h27
  clear h
  go_enter Tryz.func24, Tryz.ntmps24
  go_wp2_with fail
  go_ret
  exact ⟨rfl, Below.refl _ _⟩
set_option maxHeartbeats 3200000 in
theorem do_none (p : Int) (h : plainB p = false) (A : Option Addr) (n c : Nat) (w : World) : Calls Tryz.prog 8 #[.int .i64 p, .slice A n c] w (TelA w (errA 2)) := by
  have hz0 : (w.alloc (Obj.cells #[.int .i64 0, .bool false, .slice none 0 0, .bool false, .string ⟨#[]⟩, .slice none 0 0, .slice none 0 0] 29)).heap[w.heap.size]? = some (Obj.cells #[.int .i64 0, .bool false, .slice none 0 0, .bool false, .string ⟨#[]⟩, .slice none 0 0, .slice none 0 0] 29) := heap_alloc_new w (Obj.cells #[.int .i64 0, .bool false, .slice none 0 0, .bool false, .string ⟨#[]⟩, .slice none 0 0, .slice none 0 0] 29)
  have hb0 : Below w.heap.size w (w.alloc (Obj.cells #[.int .i64 0, .bool false, .slice none 0 0, .bool false, .string ⟨#[]⟩, .slice none 0 0, .slice none 0 0] 29)) := (Below.refl _ _).alloc (Nat.le_refl _) _
  have HH := Lib.hid (And.intro (doing_none p h) (And.intro hz0 hb0))
  clear h hz0 hb0
  have hnil := nil_nil
  go_enter Tryz.func8, Tryz.ntmps8
  go_wp2_with fail
  refine (HH.out.1 _).mono ?_
  rintro e w1 ⟨rfl, b1⟩
  have hz1 := (b1.block w.heap.size (Array.getElem?_eq_some_iff.1 HH.out.2.1).1).trans HH.out.2.1
  obtain ⟨⟨d0, d1, d2, d3, d4, d5, d6⟩, f0, f1, f2, f3, f4, f5, f6⟩ := cells7 hz1
  have H1 := Lib.hid (And.intro (HH.out.2.2.trans (b1.mono HH.out.2.2.size)) hz1)
  clear b1 hz1
  go_wp2_with fail
  exact tel_set rfl rfl rfl rfl H1.out.2 (Nat.le_refl _) Sl.nil H1.out.1
set_option maxHeartbeats 3200000 in
theorem do_wrong (p : Int) (h : plainB p = true) (A : Option Addr) (n c : Nat) (hn : n ≤ 1000) (hm : n ≠ arB p) (w : World) : Calls Tryz.prog 8 #[.int .i64 p, .slice A n c] w (TelA w (errA 8)) := by
  have hz0 : (w.alloc (Obj.cells #[.int .i64 0, .bool false, .slice none 0 0, .bool false, .string ⟨#[]⟩, .slice none 0 0, .slice none 0 0] 29)).heap[w.heap.size]? = some (Obj.cells #[.int .i64 0, .bool false, .slice none 0 0, .bool false, .string ⟨#[]⟩, .slice none 0 0, .slice none 0 0] 29) := heap_alloc_new w (Obj.cells #[.int .i64 0, .bool false, .slice none 0 0, .bool false, .string ⟨#[]⟩, .slice none 0 0, .slice none 0 0] 29)
  have hb0 : Below w.heap.size w (w.alloc (Obj.cells #[.int .i64 0, .bool false, .slice none 0 0, .bool false, .string ⟨#[]⟩, .slice none 0 0, .slice none 0 0] 29)) := (Below.refl _ _).alloc (Nat.le_refl _) _
  have HH := Lib.hid (And.intro (some_any p h) (And.intro (arity_any p h) (And.intro hz0 hb0)))
  have hne : ((n : Int) != (arB p : Int)) = true := bne_iff_ne.2 (by omega)
  generalize arB p = m at *
  clear h hz0 hb0 hm
  have hnil := not_nil
  go_enter Tryz.func8, Tryz.ntmps8
  go_wp2_with fail
  refine (HH.out.1 _).mono ?_
  rintro e w1 ⟨F, cap, rfl, b1⟩
  have hz1 := (b1.block w.heap.size (Array.getElem?_eq_some_iff.1 HH.out.2.2.1).1).trans HH.out.2.2.1
  have H1 := Lib.hid (And.intro (HH.out.2.2.2.trans (b1.mono HH.out.2.2.2.size)) hz1)
  clear b1 hz1
  go_wp2_with fail
  refine (HH.out.2.1 _).mono ?_
  rintro e w2 ⟨rfl, b2⟩
  have hz2 := (b2.block w.heap.size (Array.getElem?_eq_some_iff.1 H1.out.2).1).trans H1.out.2
  obtain ⟨⟨d0, d1, d2, d3, d4, d5, d6⟩, f0, f1, f2, f3, f4, f5, f6⟩ := cells7 hz2
  have H2 := Lib.hid (And.intro (H1.out.1.trans (b2.mono H1.out.1.size)) hz2)
  clear b2 hz2
  go_wp2_with fail
  exact tel_set rfl rfl rfl rfl H2.out.2 (Nat.le_refl _) Sl.nil H2.out.1
set_option maxHeartbeats 3200000 in
theorem plain_is (p : Int) (w : World) : Calls Tryz.prog 13 #[.int .i64 p] w fun e w' => e = .returned (.bool (plainB p)) ∧ Below w.heap.size w w' := by
  by_cases h : plainB p = true
  · have HH := Lib.hid (some_any p h)
    rw [h]
    clear h
    have hnil := func_ne
    go_enter Tryz.func13, Tryz.ntmps13
    go_wp2_with fail
    refine (HH.out _).mono ?_
    rintro e w1 ⟨F, cap, rfl, b1⟩
    have H1 := Lib.hid b1
    clear b1
    go_wp2_with fail
    go_ret
    exact ⟨rfl, H1.out⟩
  · replace h : plainB p = false := by simpa using h
    have HH := Lib.hid (doing_none p h)
    rw [h]
    clear h
    have hnil := nil_ne
    go_enter Tryz.func13, Tryz.ntmps13
    go_wp2_with fail
    refine (HH.out _).mono ?_
    rintro e w1 ⟨rfl, b1⟩
    have H1 := Lib.hid b1
    clear b1
    go_wp2_with fail
    go_ret
    exact ⟨rfl, H1.out⟩
set_option maxHeartbeats 6400000 in
theorem eqq_any (B o c : Nat) (x y : LT) (r : Bool) (w : World) (hx : Seven7 w B o x) (hy : Seven7 w B (o + 7) y)
    (HE : ∀ W, Below w.heap.size w W → Calls Tryz.prog 19 #[.agg #[.int .i64 x.k, .bool x.g, .slice x.la x.ln x.lc, .bool x.bb, .string x.s, .slice x.ia x.items.length x.ic, .slice x.ta x.tail.length x.tc], .agg #[.int .i64 y.k, .bool y.g, .slice y.la y.ln y.lc, .bool y.bb, .string y.s, .slice y.ia y.items.length y.ic, .slice y.ta y.tail.length y.tc]] W fun e w' => e = .returned (.bool r) ∧ Below W.heap.size W w') :
    Calls Tryz.prog 57 #[.slice (some ⟨B, o, none⟩) 2 c] w (DatP w 2 false [] r ⟨#[]⟩) := by
  have hb0 : Below w.heap.size w (w.alloc (Obj.cells #[.int .i64 0, .bool false, .slice none 0 0, .bool false, .string ⟨#[]⟩, .slice none 0 0, .slice none 0 0] 29)).drew := ((Below.refl _ _).alloc (Nat.le_refl _) _).drew
  have hz0 : (w.alloc (Obj.cells #[.int .i64 0, .bool false, .slice none 0 0, .bool false, .string ⟨#[]⟩, .slice none 0 0, .slice none 0 0] 29)).drew.heap[w.heap.size]? = some (Obj.cells #[.int .i64 0, .bool false, .slice none 0 0, .bool false, .string ⟨#[]⟩, .slice none 0 0, .slice none 0 0] 29) := heap_alloc_new w (Obj.cells #[.int .i64 0, .bool false, .slice none 0 0, .bool false, .string ⟨#[]⟩, .slice none 0 0, .slice none 0 0] 29)
  have hsz : (w.alloc (Obj.cells #[.int .i64 0, .bool false, .slice none 0 0, .bool false, .string ⟨#[]⟩, .slice none 0 0, .slice none 0 0] 29)).drew.heap.size = w.heap.size + 1 := World.size_alloc ..
  have HK := Lib.hid (fun W (hb : Below w.heap.size w W) => show W.cell? ⟨B, o, none⟩ = some (.int .i64 x.k) ∧ W.cell? ⟨B, o + 1, none⟩ = some (.bool x.g) ∧ W.cell? ⟨B, o + 2, none⟩ = some (.slice x.la x.ln x.lc) ∧ W.cell? ⟨B, o + 3, none⟩ = some (.bool x.bb) ∧ W.cell? ⟨B, o + 4, none⟩ = some (.string x.s) ∧ W.cell? ⟨B, o + 5, none⟩ = some (.slice x.ia x.items.length x.ic) ∧ W.cell? ⟨B, o + 6, none⟩ = some (.slice x.ta x.tail.length x.tc) ∧ W.cell? ⟨B, o + 7, none⟩ = some (.int .i64 y.k) ∧ W.cell? ⟨B, o + 7 + 1, none⟩ = some (.bool y.g) ∧ W.cell? ⟨B, o + 7 + 2, none⟩ = some (.slice y.la y.ln y.lc) ∧ W.cell? ⟨B, o + 7 + 3, none⟩ = some (.bool y.bb) ∧ W.cell? ⟨B, o + 7 + 4, none⟩ = some (.string y.s) ∧ W.cell? ⟨B, o + 7 + 5, none⟩ = some (.slice y.ia y.items.length y.ic) ∧ W.cell? ⟨B, o + 7 + 6, none⟩ = some (.slice y.ta y.tail.length y.tc) by
    have hc := And.intro (hx.below hb).cells (hy.below hb).cells
    simpa only [and_assoc] using hc)
  have hS0 := HK.out _ hb0
  have hB : B < w.heap.size := World.block_lt_of_cell? w _ (hx.cells.1)
  have HB0 := Lib.hid (And.intro hb0 (And.intro hz0 hsz))
  have HEE := Lib.hid HE
  clear hb0 hz0 hsz hx hy HE
  go_enter Tryz.func57, Tryz.ntmps57
  go_wp2_with fail
  go_region_held3 (fun w' => w'.cell? ⟨B, o, none⟩ = some (.int .i64 x.k) ∧ w'.cell? ⟨B, o + 1, none⟩ = some (.bool x.g) ∧ w'.cell? ⟨B, o + 2, none⟩ = some (.slice x.la x.ln x.lc) ∧ w'.cell? ⟨B, o + 3, none⟩ = some (.bool x.bb) ∧ w'.cell? ⟨B, o + 4, none⟩ = some (.string x.s) ∧ w'.cell? ⟨B, o + 5, none⟩ = some (.slice x.ia x.items.length x.ic) ∧ w'.cell? ⟨B, o + 6, none⟩ = some (.slice x.ta x.tail.length x.tc) ∧ w'.cell? ⟨B, o + 7, none⟩ = some (.int .i64 y.k) ∧ w'.cell? ⟨B, o + 7 + 1, none⟩ = some (.bool y.g) ∧ w'.cell? ⟨B, o + 7 + 2, none⟩ = some (.slice y.la y.ln y.lc) ∧ w'.cell? ⟨B, o + 7 + 3, none⟩ = some (.bool y.bb) ∧ w'.cell? ⟨B, o + 7 + 4, none⟩ = some (.string y.s) ∧ w'.cell? ⟨B, o + 7 + 5, none⟩ = some (.slice y.ia y.items.length y.ic) ∧ w'.cell? ⟨B, o + 7 + 6, none⟩ = some (.slice y.ta y.tail.length y.tc))
    (first | with_reducible exact hS0 | with_reducible exact hS1 | with_reducible exact hS2 | with_reducible exact hS4 | go_keep)
    (first
    | (go_at_call 19; refine (HEE.out _ HB0.out.1).mono ?_; rintro e w1 ⟨rfl, b1⟩; have H1 := Lib.hid (And.intro (HB0.out.1.trans (b1.mono HB0.out.1.size)) ((b1.block w.heap.size (by rw [HB0.out.2.2]; omega)).trans HB0.out.2.1)); have hS1 := HK.out _ H1.out.1; clear b1)
    | (go_at_call 58; refine (truth_any r _).mono ?_; rintro e w2 ⟨A1, n1, c1, rfl, hsl, b2⟩;
       have hz := (b2.block w.heap.size (Array.getElem?_eq_some_iff.1 H1.out.2).1).trans H1.out.2; have hb2 := H1.out.1.trans (b2.mono H1.out.1.size); have hS2 := HK.out _ hb2;
       obtain ⟨⟨d0, d1, d2, d3, d4, d5, d6⟩, f0, f1, f2, f3, f4, f5, f6⟩ := cells7 hz;
       have hS4 := HK.out _ (below7 hb2 (Nat.le_refl _) (.int .i64 2) (.bool false) (.slice A1 n1 c1) (.bool r) (.string ⟨#[]⟩) (.slice none 0 0) (.slice none 0 0))))
  go_wp2_with fail
  exact dat_set rfl rfl rfl hz (Nat.le_refl _) hsl hb2
theorem do_eqq {w : World} {B o c : Nat} {x y : LT} {r : Bool} (hR : RowAt w B o [x, y])
    (HE : ∀ W, Below w.heap.size w W → Calls Tryz.prog 19 #[.agg #[.int .i64 x.k, .bool x.g, .slice x.la x.ln x.lc, .bool x.bb, .string x.s, .slice x.ia x.items.length x.ic, .slice x.ta x.tail.length x.tc], .agg #[.int .i64 y.k, .bool y.g, .slice y.la y.ln y.lc, .bool y.bb, .string y.s, .slice y.ia y.items.length y.ic, .slice y.ta y.tail.length y.tc]] W fun e w' => e = .returned (.bool r) ∧ Below W.heap.size W w') :
    Calls Tryz.prog 8 #[.int .i64 21, .slice (some ⟨B, o, none⟩) 2 c] w (TelA w (boolA r)) := by
  refine do_any 21 _ 2 c w (by decide) (fun W hb => (doing_eqq W).mono ?_) arity_21
  rintro e w' ⟨gh, rfl, hg, hb2⟩
  refine ⟨_, _, rfl, ent_told, hb2, fun W2 hb3 => ?_⟩
  have hbb := hb.trans (hb2.mono hb.size)
  have hg2 := keepc hb3 hg
  have hb4 := hbb.trans (hb3.mono hbb.size)
  exact told1_any gh _ _ (some ⟨B, o, none⟩) 2 c W2 hg2 (ltc hg2) ent_d3 (fun W5 hb5 =>
    have hb6 := hb4.trans (hb5.mono hb4.size)
    eqq_any B o c x y r W5 ((hR.below hb6).first) ((hR.below hb6).second) (fun W7 hb7 => HE W7 (hb6.trans (hb7.mono hb6.size))))
end Go.Proofs.YtocnlapbkidinaaGreatDoor
