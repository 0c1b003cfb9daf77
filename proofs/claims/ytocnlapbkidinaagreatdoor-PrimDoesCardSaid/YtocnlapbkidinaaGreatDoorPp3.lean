/-
  prim's closures over two numbers. prim's compared and reckoned over a row of two numbers. prim's closures without anything captured: texts, orders. prim's closures over two texts.
-/
import Derived.Test.YtocnlapbkidinaaGreatDoorPp2
import Derived.Test.YtocnlapbkidinaaGreatDoorQWc
import Derived.IntWalk
import Derived.Deep.QuietTactic
set_option linter.unusedVariables false
set_option linter.unusedSimpArgs false
set_option linter.unusedSectionVars false
set_option linter.unnecessarySimpa false
namespace Go.Proofs.YtocnlapbkidinaaGreatDoor
section
open Go.RowKit
set_option maxRecDepth 100000

/-- A reckoning tells a number and an error's number. -/
def RkP (w : World) (z er : Int) (e : Ending) (w' : World) : Prop := ∃ v, e = .returned (.tuple #[v, .int .i64 er]) ∧ WNew w' w.heap.size v z ∧ Below w.heap.size w w'
theorem wret2t {fn : Func} {a : Act} {t t2 : Tmp} {w w2 : World} {g base : Nat} {s0 x0 : Value} {b : Bool} {A : Option Addr} {n c : Nat} {z er : Int} (h : fn.results = #[.cell t 27, .tmp t2]) (ht : a.tmps.getD t undef = .pointer (some ⟨g, 0, none⟩)) (ht2 : a.tmps.getD t2 undef = .int .i64 er) (hd : a.defers = [])
    (hv : Var w2 g s0 x0) (hg : w.heap.size ≤ g) (hn : WNew w2 base (.agg #[.bool b, .slice A n c]) z) (hbase : w.heap.size ≤ base) (hb : Below w.heap.size w w2) :
    bodyPost Tryz.prog fn (RkP w z er) .ret a ((w2.setCell ⟨g, 0, none⟩ (.bool b)).setCell ⟨g, 1, none⟩ (.slice A n c)) := by
  have h1 := hv.set0 (.bool b)
  have h2 := h1.set1 (.slice A n c)
  obtain ⟨x, e, hx⟩ := hn
  injection e with e
  injection e with e
  injection e with e1 e
  injection e with e2 _
  injection e1 with e1
  subst e1 e2
  refine bodyPost_ret (results_wt h ht h2.c0 h2.c1) hd ⟨_, by rw [ht2], ⟨_, rfl, ((hx.farSet hv 0 _).farSet h1 1 _).from_ hbase⟩, (hb.setCell (p := ⟨g, 0, none⟩) hg _).setCell (p := ⟨g, 1, none⟩) hg _⟩
set_option maxHeartbeats 3200000 in
theorem sure1_any (g F : Nat) (cap : Array Value) (b1 b2 : Bool) (A1 A2 : Option Addr) (n1 c1 n2 c2 : Nat) (z : Int) (w : World) (hc : w.cell? ⟨g, 0, none⟩ = some (.func (.func F) #[] cap)) (hg : g < w.heap.size) (hF : Enters F)
    (H : ∀ W, Below w.heap.size w W → Calls Tryz.prog F (#[.agg #[.bool b1, .slice A1 n1 c1], .agg #[.bool b2, .slice A2 n2 c2]] ++ cap) W (WGives W z)) :
    Calls Tryz.prog 81 #[.agg #[.bool b1, .slice A1 n1 c1], .agg #[.bool b2, .slice A2 n2 c2], .pointer (some ⟨g, 0, none⟩)] w (RkP w z 0) := by
  obtain ⟨W, hW, hx, hy, hr, hb⟩ := enter2r w (.bool b1) (.slice A1 n1 c1) (.bool b2) (.slice A2 n2 c2)
  have hS0 := And.intro ((hb.cell (p := ⟨g, 0, none⟩) hg).trans hc) (And.intro hx.c0 (And.intro hx.c1 (And.intro hy.c0 hy.c1)))
  have HH := Lib.hid (And.intro H (And.intro hb (And.intro hr hW)))
  clear H hb hx hy hr hc
  obtain ⟨e0, e1, e2, e3, e4⟩ := hS0
  rw [hW] at e0 e1 e2 e3 e4
  clear hW
  go_enter Tryz.func81, Tryz.ntmps81
  go_wp2_with fail
  rw [hF, Oper.upon_enter, ← HH.out.2.2.2]
  refine (HH.out.1 _ HH.out.2.1).mono ?_
  rintro e w1 ⟨v, rfl, hv, hb1⟩
  obtain ⟨b, xa, xn, xc, rfl, hn1⟩ := hv.opened
  clear e0 e1 e2 e3 e4 hv
  have hr := HH.out.2.2.1.next hb1
  have hb := bnext HH.out.2.1 hb1
  have hz := HH.out.2.1.size
  clear HH
  obtain ⟨q1, q2, q3, q4, q5, q6⟩ := hr.room (.bool b)
  go_wp2_with fail
  exact wret2t rfl rfl rfl rfl hr (by omega) hn1.out hz hb
set_option maxHeartbeats 3200000 in
theorem quotient1_any (g F : Nat) (cap : Array Value) (b1 b2 : Bool) (A1 A2 : Option Addr) (n1 c1 n2 c2 : Nat) (z z2 er : Int) (w : World) (hc : w.cell? ⟨g, 0, none⟩ = some (.func (.func F) #[] cap)) (hg : g < w.heap.size) (hF : Enters F)
    (H : ∀ W, Below w.heap.size w W → Calls Tryz.prog F (#[.agg #[.bool b1, .slice A1 n1 c1], .agg #[.bool b2, .slice A2 n2 c2]] ++ cap) W (W3 W z z2 er)) :
    Calls Tryz.prog 88 #[.agg #[.bool b1, .slice A1 n1 c1], .agg #[.bool b2, .slice A2 n2 c2], .pointer (some ⟨g, 0, none⟩)] w (RkP w z er) := by
  obtain ⟨W, hW, hx, hy, hr, hb⟩ := enter2r w (.bool b1) (.slice A1 n1 c1) (.bool b2) (.slice A2 n2 c2)
  have hS0 := And.intro ((hb.cell (p := ⟨g, 0, none⟩) hg).trans hc) (And.intro hx.c0 (And.intro hx.c1 (And.intro hy.c0 hy.c1)))
  have HH := Lib.hid (And.intro H (And.intro hb (And.intro hr hW)))
  clear H hb hx hy hr hc
  obtain ⟨e0, e1, e2, e3, e4⟩ := hS0
  rw [hW] at e0 e1 e2 e3 e4
  clear hW
  go_enter Tryz.func88, Tryz.ntmps88
  go_wp2_with fail
  rw [hF, Oper.upon_enter, ← HH.out.2.2.2]
  refine (HH.out.1 _ HH.out.2.1).mono ?_
  rintro e w1 ⟨u, v, rfl, hu, hv, hb1⟩
  obtain ⟨b, xa, xn, xc, rfl, hn1⟩ := hu.opened
  obtain ⟨c, ya, yn, yc, rfl, hn2⟩ := hv.opened
  clear e0 e1 e2 e3 e4 hu hv
  have A2 : Below w1.heap.size w1 ((w1.alloc (.cells #[.bool b, .slice xa xn xc] 27)).alloc (.cells #[.bool c, .slice ya yn yc] 27)) := bnew (bnew (Below.refl _ _) _) _
  have hr := (HH.out.2.2.1.next hb1).next A2
  have hb := bnext (bnext HH.out.2.1 hb1) A2
  have hz := HH.out.2.1.size
  have hn1' := hn1.out.next A2
  have hn2' := hn2.out.next A2
  obtain ⟨q1, q2, q3, q4, q5, q6⟩ := hr.room (.bool b)
  have HX := Lib.hid (And.intro hr (And.intro hb (And.intro hz (And.intro hn1' hn2'))))
  clear HH A2 hr hb hz hn1' hn2' hb1 hn1 hn2
  go_wp2_with fail
  exact wret2t rfl rfl rfl rfl HX.out.1 (by omega) HX.out.2.2.2.1 HX.out.2.2.1 HX.out.2.1
set_option maxHeartbeats 3200000 in
theorem left1_any (g F : Nat) (cap : Array Value) (b1 b2 : Bool) (A1 A2 : Option Addr) (n1 c1 n2 c2 : Nat) (z z2 er : Int) (w : World) (hc : w.cell? ⟨g, 0, none⟩ = some (.func (.func F) #[] cap)) (hg : g < w.heap.size) (hF : Enters F)
    (H : ∀ W, Below w.heap.size w W → Calls Tryz.prog F (#[.agg #[.bool b1, .slice A1 n1 c1], .agg #[.bool b2, .slice A2 n2 c2]] ++ cap) W (W3 W z z2 er)) :
    Calls Tryz.prog 91 #[.agg #[.bool b1, .slice A1 n1 c1], .agg #[.bool b2, .slice A2 n2 c2], .pointer (some ⟨g, 0, none⟩)] w (RkP w z2 er) := by
  obtain ⟨W, hW, hx, hy, hr, hb⟩ := enter2r w (.bool b1) (.slice A1 n1 c1) (.bool b2) (.slice A2 n2 c2)
  have hS0 := And.intro ((hb.cell (p := ⟨g, 0, none⟩) hg).trans hc) (And.intro hx.c0 (And.intro hx.c1 (And.intro hy.c0 hy.c1)))
  have HH := Lib.hid (And.intro H (And.intro hb (And.intro hr hW)))
  clear H hb hx hy hr hc
  obtain ⟨e0, e1, e2, e3, e4⟩ := hS0
  rw [hW] at e0 e1 e2 e3 e4
  clear hW
  go_enter Tryz.func91, Tryz.ntmps91
  go_wp2_with fail
  rw [hF, Oper.upon_enter, ← HH.out.2.2.2]
  refine (HH.out.1 _ HH.out.2.1).mono ?_
  rintro e w1 ⟨u, v, rfl, hu, hv, hb1⟩
  obtain ⟨b, xa, xn, xc, rfl, hn1⟩ := hu.opened
  obtain ⟨c, ya, yn, yc, rfl, hn2⟩ := hv.opened
  clear e0 e1 e2 e3 e4 hu hv
  have A2 : Below w1.heap.size w1 ((w1.alloc (.cells #[.bool b, .slice xa xn xc] 27)).alloc (.cells #[.bool c, .slice ya yn yc] 27)) := bnew (bnew (Below.refl _ _) _) _
  have hr := (HH.out.2.2.1.next hb1).next A2
  have hb := bnext (bnext HH.out.2.1 hb1) A2
  have hz := HH.out.2.1.size
  have hn1' := hn1.out.next A2
  have hn2' := hn2.out.next A2
  obtain ⟨q1, q2, q3, q4, q5, q6⟩ := hr.room (.bool c)
  have HX := Lib.hid (And.intro hr (And.intro hb (And.intro hz (And.intro hn1' hn2'))))
  clear HH A2 hr hb hz hn1' hn2' hb1 hn1 hn2
  go_wp2_with fail
  exact wret2t rfl rfl rfl rfl HX.out.1 (by omega) HX.out.2.2.2.2 HX.out.2.2.1 HX.out.2.1
end
end Go.Proofs.YtocnlapbkidinaaGreatDoor
namespace Go.Proofs.YtocnlapbkidinaaGreatDoor
section
open Go.RowKit
set_option maxRecDepth 100000

/-- The two numbers of a row of two data. -/
def Nums (w : World) (B o : Nat) (b1 : Bool) (A1 : Option Addr) (n1 c1 : Nat) (b2 : Bool) (A2 : Option Addr) (n2 c2 : Nat) : Prop :=
  w.cell? ⟨B, o + 1, none⟩ = some (.bool b1) ∧ w.cell? ⟨B, o + 2, none⟩ = some (.slice A1 n1 c1) ∧ w.cell? ⟨B, o + 7 + 1, none⟩ = some (.bool b2) ∧ w.cell? ⟨B, o + 7 + 2, none⟩ = some (.slice A2 n2 c2)
theorem Nums.below {w w' : World} {B o : Nat} {b1 : Bool} {A1 : Option Addr} {n1 c1 : Nat} {b2 : Bool} {A2 : Option Addr} {n2 c2 : Nat} (h : Nums w B o b1 A1 n1 c1 b2 A2 n2 c2) (hb : Below w.heap.size w w') : Nums w' B o b1 A1 n1 c1 b2 A2 n2 c2 := by
  have hlt : B < w.heap.size := World.block_lt_of_cell? w _ h.1
  exact ⟨(hb.cell (p := ⟨B, o + 1, none⟩) hlt).trans h.1, (hb.cell (p := ⟨B, o + 2, none⟩) hlt).trans h.2.1, (hb.cell (p := ⟨B, o + 7 + 1, none⟩) hlt).trans h.2.2.1, (hb.cell (p := ⟨B, o + 7 + 2, none⟩) hlt).trans h.2.2.2⟩
set_option maxHeartbeats 3200000 in
theorem compared1_any (g F : Nat) (cap : Array Value) (B o c : Nat) (b1 b2 : Bool) (A1 A2 : Option Addr) (n1 c1 n2 c2 : Nat) (z : Int) (r : Bool) (w : World) (hc : w.cell? ⟨g, 0, none⟩ = some (.func (.func F) #[] cap)) (hg : g < w.heap.size) (hF : Enters F) (hN : Nums w B o b1 A1 n1 c1 b2 A2 n2 c2)
    (HC : ∀ W, Below w.heap.size w W → Calls Tryz.prog 93 #[.agg #[.bool b1, .slice A1 n1 c1], .agg #[.bool b2, .slice A2 n2 c2]] W fun e W' => e = .returned (.int .i64 z) ∧ Below W.heap.size W W')
    (H : ∀ W, Below w.heap.size w W → Calls Tryz.prog F (#[.int .i64 z] ++ cap) W fun e W' => e = .returned (.bool r) ∧ Below W.heap.size W W') :
    Calls Tryz.prog 92 #[.slice (some ⟨B, o, none⟩) 2 c, .pointer (some ⟨g, 0, none⟩)] w (DatP w 2 false [] r ⟨#[]⟩) := by
  have hb0 : Below w.heap.size w (w.alloc (Obj.cells #[.int .i64 0, .bool false, .slice none 0 0, .bool false, .string ⟨#[]⟩, .slice none 0 0, .slice none 0 0] 29)).drew := ((Below.refl _ _).alloc (Nat.le_refl _) _).drew
  have hz0 : (w.alloc (Obj.cells #[.int .i64 0, .bool false, .slice none 0 0, .bool false, .string ⟨#[]⟩, .slice none 0 0, .slice none 0 0] 29)).drew.heap[w.heap.size]? = some (Obj.cells #[.int .i64 0, .bool false, .slice none 0 0, .bool false, .string ⟨#[]⟩, .slice none 0 0, .slice none 0 0] 29) := heap_alloc_new w (Obj.cells #[.int .i64 0, .bool false, .slice none 0 0, .bool false, .string ⟨#[]⟩, .slice none 0 0, .slice none 0 0] 29)
  have hs0 : (w.alloc (Obj.cells #[.int .i64 0, .bool false, .slice none 0 0, .bool false, .string ⟨#[]⟩, .slice none 0 0, .slice none 0 0] 29)).drew.heap.size = w.heap.size + 1 := World.size_alloc ..
  have hS0 := And.intro ((hb0.cell (p := ⟨g, 0, none⟩) hg).trans hc) (hN.below hb0)
  have HH := Lib.hid (And.intro H (And.intro hb0 (And.intro hz0 (And.intro hs0 (And.intro hN HC)))))
  clear H hz0 hs0 hN hb0 HC
  unfold Nums at hS0
  go_enter Tryz.func92, Tryz.ntmps92
  go_wp2_with fail
  go_region_held3 (fun w' => w'.cell? ⟨g, 0, none⟩ = some (.func (.func F) #[] cap) ∧ w'.cell? ⟨B, o + 1, none⟩ = some (.bool b1) ∧ w'.cell? ⟨B, o + 2, none⟩ = some (.slice A1 n1 c1) ∧ w'.cell? ⟨B, o + 7 + 1, none⟩ = some (.bool b2) ∧ w'.cell? ⟨B, o + 7 + 2, none⟩ = some (.slice A2 n2 c2))
    (first | with_reducible exact hS0 | with_reducible exact hS1 | with_reducible exact hS2 | with_reducible exact hS3 | with_reducible exact hS4 | go_keep)
    (first
    | (go_at_call 93; refine (HH.out.2.2.2.2.2 _ HH.out.2.1).mono ?_; rintro e w1 ⟨rfl, b1⟩; have hb1 := HH.out.2.1.trans (b1.mono (by rw [HH.out.2.2.2.1]; omega)); have hS1 := And.intro ((hb1.cell (p := ⟨g, 0, none⟩) hg).trans hc) (HH.out.2.2.2.2.1.below hb1); unfold Nums at hS1)
    | (rw [hF, Oper.upon_enter]; refine (HH.out.1 _ hb1).mono ?_; rintro e w2 ⟨rfl, b2⟩; have b12 := b1.trans (b2.mono b1.size); have hb2 := hb1.trans (b2.mono hb1.size); have hS2 := And.intro ((hb2.cell (p := ⟨g, 0, none⟩) hg).trans hc) (HH.out.2.2.2.2.1.below hb2); unfold Nums at hS2)
    | (go_at_call 58; refine (truth_any r w2).mono ?_; rintro e w3 ⟨A1, n1, c1, rfl, hsl, b3⟩; have hb3 := hb2.trans (b3.mono hb2.size); have hS3 := And.intro ((hb3.cell (p := ⟨g, 0, none⟩) hg).trans hc) (HH.out.2.2.2.2.1.below hb3); unfold Nums at hS3;
       have hz := ((b12.trans (b3.mono b12.size)).block w.heap.size (by rw [HH.out.2.2.2.1]; omega)).trans HH.out.2.2.1; obtain ⟨⟨d0, d1, d2, d3, d4, d5, d6⟩, f0, f1, f2, f3, f4, f5, f6⟩ := cells7 hz;
       have hb4 := below7 hb3 (Nat.le_refl _) (.int .i64 2) (.bool false) (.slice A1 n1 c1) (.bool r) (.string ⟨#[]⟩) (.slice none 0 0) (.slice none 0 0); have hS4 := And.intro ((hb4.cell (p := ⟨g, 0, none⟩) hg).trans hc) (HH.out.2.2.2.2.1.below hb4); unfold Nums at hS4))
  go_wp2_with fail
  exact dat_set rfl rfl rfl hz (Nat.le_refl _) hsl hb3
theorem WNew.sl_ {w : World} {base : Nat} {b : Bool} {A : Option Addr} {n c : Nat} {z : Int} (h : WNew w base (.agg #[.bool b, .slice A n c]) z) : Sl w A n c (limbs z.natAbs) ∧ b = decide (z < 0) := by
  obtain ⟨x, e, A', n', c', rfl, hs, _⟩ := h
  have e' : b = decide (z < 0) ∧ A = A' ∧ n = n' ∧ c = c' := by simpa using e
  obtain ⟨rfl, rfl, rfl, rfl⟩ := e'
  exact ⟨hs, rfl⟩
theorem WNew.len_ {w : World} {base : Nat} {b : Bool} {A : Option Addr} {n c : Nat} {z : Int} (h : WNew w base (.agg #[.bool b, .slice A n c]) z) : n = (limbs z.natAbs).length := h.sl_.1.len
theorem WNew.max_ {w : World} {base : Nat} {b : Bool} {A : Option Addr} {n c : Nat} {z : Int} (h : WNew w base (.agg #[.bool b, .slice A n c]) z) : n ≤ maxLen := Nat.le_trans h.sl_.1.le h.sl_.1.max
theorem WNew.farVar {w : World} {base g : Nat} {s x : Value} {b : Bool} {A : Option Addr} {n c : Nat} {z : Int} (h : WNew w base (.agg #[.bool b, .slice A n c]) z) (hv : Var w g s x) (u v : Value) : WNew ((w.setCell ⟨g, 0, none⟩ u).setCell ⟨g, 1, none⟩ v) base (.agg #[.bool b, .slice A n c]) z := by
  obtain ⟨y, e, hn⟩ := h
  exact ⟨y, e, New.farSet (hv.set0 u) (New.farSet hv hn 0 u) 1 v⟩
/-- What a reckoning comes to: an error, a number that is too long, or a number. -/
def RkAns (w : World) (z er : Int) : Ending → World → Prop :=
  if er ≠ 0 then TelP w 0 false [] false ⟨#[]⟩ er else if 64 < (limbs z.natAbs).length then TelP w 0 false [] false ⟨#[]⟩ 12 else TelP w 1 (decide (z < 0)) (limbs z.natAbs) false ⟨#[]⟩ 0
set_option maxHeartbeats 3200000 in
theorem reckoned1_any (g F : Nat) (cap : Array Value) (B o c : Nat) (b1 b2 : Bool) (A1 A2 : Option Addr) (n1 c1 n2 c2 : Nat) (z er : Int) (w : World) (hc : w.cell? ⟨g, 0, none⟩ = some (.func (.func F) #[] cap)) (hg : g < w.heap.size) (hF : Enters F) (hN : Nums w B o b1 A1 n1 c1 b2 A2 n2 c2)
    (H : ∀ W, Below w.heap.size w W → Calls Tryz.prog F (#[.agg #[.bool b1, .slice A1 n1 c1], .agg #[.bool b2, .slice A2 n2 c2]] ++ cap) W (RkP W z er)) :
    Calls Tryz.prog 80 #[.slice (some ⟨B, o, none⟩) 2 c, .pointer (some ⟨g, 0, none⟩)] w (RkAns w z er) := by
  have hb0 : Below w.heap.size w (w.alloc (Obj.cells #[.int .i64 0, .bool false, .slice none 0 0, .bool false, .string ⟨#[]⟩, .slice none 0 0, .slice none 0 0] 29)).drew := ((Below.refl _ _).alloc (Nat.le_refl _) _).drew
  have hz0 : (w.alloc (Obj.cells #[.int .i64 0, .bool false, .slice none 0 0, .bool false, .string ⟨#[]⟩, .slice none 0 0, .slice none 0 0] 29)).drew.heap[w.heap.size]? = some (Obj.cells #[.int .i64 0, .bool false, .slice none 0 0, .bool false, .string ⟨#[]⟩, .slice none 0 0, .slice none 0 0] 29) := heap_alloc_new w (Obj.cells #[.int .i64 0, .bool false, .slice none 0 0, .bool false, .string ⟨#[]⟩, .slice none 0 0, .slice none 0 0] 29)
  have hs0 : (w.alloc (Obj.cells #[.int .i64 0, .bool false, .slice none 0 0, .bool false, .string ⟨#[]⟩, .slice none 0 0, .slice none 0 0] 29)).drew.heap.size = w.heap.size + 1 := World.size_alloc ..
  have hba : Below (w.heap.size + 1) (w.alloc (Obj.cells #[.int .i64 0, .bool false, .slice none 0 0, .bool false, .string ⟨#[]⟩, .slice none 0 0, .slice none 0 0] 29)).drew ((w.alloc (Obj.cells #[.int .i64 0, .bool false, .slice none 0 0, .bool false, .string ⟨#[]⟩, .slice none 0 0, .slice none 0 0] 29)).alloc (.cells #[.bool false, .slice none 0 0] 27)).drew := by
    have h := (((Below.refl (w.heap.size + 1) (w.alloc (Obj.cells #[.int .i64 0, .bool false, .slice none 0 0, .bool false, .string ⟨#[]⟩, .slice none 0 0, .slice none 0 0] 29))).alloc (by rw [World.size_alloc]; exact Nat.le_refl _) (.cells #[.bool false, .slice none 0 0] 27)).drew)
    exact ⟨h.os, h.tape, h.output, h.size, h.block⟩
  have hva : Var ((w.alloc (Obj.cells #[.int .i64 0, .bool false, .slice none 0 0, .bool false, .string ⟨#[]⟩, .slice none 0 0, .slice none 0 0] 29)).alloc (.cells #[.bool false, .slice none 0 0] 27)).drew (w.heap.size + 1) (.bool false) (.slice none 0 0) := by
    have h := Var.mk_ (w.alloc (Obj.cells #[.int .i64 0, .bool false, .slice none 0 0, .bool false, .string ⟨#[]⟩, .slice none 0 0, .slice none 0 0] 29)) (.bool false) (.slice none 0 0)
    rw [World.size_alloc] at h
    exact h
  have hb0a := hb0.trans (hba.mono (Nat.le_succ _))
  have hza := (hba.block w.heap.size (Nat.lt_succ_self _)).trans hz0
  have hS0 := And.intro ((hb0.cell (p := ⟨g, 0, none⟩) hg).trans hc) (hN.below hb0)
  have hSa := And.intro ((hb0a.cell (p := ⟨g, 0, none⟩) hg).trans hc) (hN.below hb0a)
  have HH := Lib.hid (And.intro H (And.intro hb0 (And.intro hz0 (And.intro hs0 hN))))
  have HA := Lib.hid (And.intro hb0a (And.intro hza hva))
  clear H hz0 hs0 hN hb0 hb0a hza hva hba
  unfold Nums at hS0 hSa
  go_enter Tryz.func80, Tryz.ntmps80
  go_wp2_with fail
  go_region_held3 (fun w' => w'.cell? ⟨g, 0, none⟩ = some (.func (.func F) #[] cap) ∧ w'.cell? ⟨B, o + 1, none⟩ = some (.bool b1) ∧ w'.cell? ⟨B, o + 2, none⟩ = some (.slice A1 n1 c1) ∧ w'.cell? ⟨B, o + 7 + 1, none⟩ = some (.bool b2) ∧ w'.cell? ⟨B, o + 7 + 2, none⟩ = some (.slice A2 n2 c2))
    (first | with_reducible exact hS0 | with_reducible exact hSa | with_reducible exact hS1 | with_reducible exact hS2 | with_reducible exact hS3 | go_keep)
    (first
    | (rw [hF, Oper.upon_enter]; refine (HH.out.1 _ HH.out.2.1).mono ?_; rintro e w1 ⟨v, rfl, hv, hb1⟩; have hbb := HH.out.2.1.trans (hb1.mono (by rw [HH.out.2.2.2.1]; omega)); have hS1 := And.intro ((hbb.cell (p := ⟨g, 0, none⟩) hg).trans hc) (HH.out.2.2.2.2.below hbb); unfold Nums at hS1; obtain ⟨b, xa, xn, xc, rfl, hn⟩ := hv.opened;
       have hz := (hb1.block w.heap.size (by rw [HH.out.2.2.2.1]; omega)).trans HH.out.2.2.1; have hbb2 := hbb.alloc hbb.size (.cells #[.bool false, .slice none 0 0] 27); have hbb3 := hbb.alloc hbb.size (.cells #[.bool b, .slice xa xn xc] 27); have hS2 := And.intro ((hbb2.cell (p := ⟨g, 0, none⟩) hg).trans hc) (HH.out.2.2.2.2.below hbb2); have hS3 := And.intro ((hbb3.cell (p := ⟨g, 0, none⟩) hg).trans hc) (HH.out.2.2.2.2.below hbb3); unfold Nums at hS2 hS3)
    | (rw [hF, Oper.upon_enter]; refine (HH.out.1 _ HA.out.1).mono ?_; rintro e w1 ⟨v, rfl, hv, hb1⟩; have hbb := HA.out.1.trans (hb1.mono HA.out.1.size); have hS1 := And.intro ((hbb.cell (p := ⟨g, 0, none⟩) hg).trans hc) (HH.out.2.2.2.2.below hbb); unfold Nums at hS1; obtain ⟨b, xa, xn, xc, rfl, hn⟩ := hv.opened; have hvn := HA.out.2.2.next hb1; obtain ⟨q1, q2, q3, q4, q5, q6⟩ := hvn.room (.bool b);
       have hbb2 := (hbb.setCell (p := ⟨w.heap.size + 1, 0, none⟩) (Nat.le_succ _) (.bool b)).setCell (p := ⟨w.heap.size + 1, 1, none⟩) (Nat.le_succ _) (.slice xa xn xc); have hS2 := And.intro ((hbb2.cell (p := ⟨g, 0, none⟩) hg).trans hc) (HH.out.2.2.2.2.below hbb2); unfold Nums at hS2))
  · have hD : w.heap.size < w1.heap.size := by have := hb1.size; rw [HH.out.2.2.2.1] at this; omega
    have hv2 := Var.mk_ w1 (.bool b) (.slice xa xn xc)
    have hz2 := ((Below.heap_alloc w1 (.cells #[.bool b, .slice xa xn xc] 27) w.heap.size hD)).trans hz
    have hn2 := hn.out.next (bnew (Below.refl _ w1) (.cells #[.bool b, .slice xa xn xc] 27))
    have hlen := hn2.len_
    have hmax := hn2.max_
    generalize w1.alloc (.cells #[.bool b, .slice xa xn xc] 27) = V at *
    generalize w1.heap.size = gn at *
    have n0 := hv2.c0
    have n1 := hv2.c1
    obtain ⟨⟨d0, d1, d2, d3, d4, d5, d6⟩, f0, f1, f2, f3, f4, f5, f6⟩ := cells7 hz2
    obtain ⟨hsl, hsg⟩ := hn2.sl_
    have HX := Lib.hid (And.intro hsl (And.intro hsg (And.intro hbb3 hz2)))
    clear hS0 hSa hS1 hS2 HH HA hc hv2 hn2 hz2 hsl hsg
    by_cases he : er = 0
    · subst he
      by_cases hl : 64 < xn
      · go_wp2_with fail
        unfold RkAns
        rw [if_neg (by omega), if_pos (by omega)]
        exact tel_set rfl rfl rfl rfl HX.out.2.2.2 (Nat.le_refl _) Sl.nil HX.out.2.2.1
      · go_wp2_with fail
        unfold RkAns
        rw [if_neg (by omega), if_neg (by omega), ← HX.out.2.1]
        exact tel_set rfl rfl rfl rfl HX.out.2.2.2 (Nat.le_refl _) (by have h := HX.out.1; rw [hlen] at h; exact h) HX.out.2.2.1
    · go_wp2_with fail
      unfold RkAns
      rw [if_pos he]
      exact tel_set rfl rfl rfl rfl HX.out.2.2.2 (Nat.le_refl _) Sl.nil HX.out.2.2.1
  · have hv2 : Var ((w1.setCell ⟨w.heap.size + 1, 0, none⟩ (.bool b)).setCell ⟨w.heap.size + 1, 1, none⟩ (.slice xa xn xc)) (w.heap.size + 1) (.bool b) (.slice xa xn xc) := (hvn.set0 _).set1 _
    have hD : w.heap.size < w.heap.size + 1 := Nat.lt_succ_self _
    have hz1 := (hb1.block w.heap.size (by have := hvn.lt; have := HA.out.2.2.lt; omega)).trans HA.out.2.1
    have hz2 := (Below.heap_setCell (w1.setCell ⟨w.heap.size + 1, 0, none⟩ (.bool b)) ⟨w.heap.size + 1, 1, none⟩ (.slice xa xn xc) w.heap.size (Nat.ne_of_lt hD)).trans ((Below.heap_setCell w1 ⟨w.heap.size + 1, 0, none⟩ (.bool b) w.heap.size (Nat.ne_of_lt hD)).trans hz1)
    have hlen := hn.out.len_
    have hmax := hn.out.max_
    have hn2 := (hn.out.farVar hvn (.bool b) (.slice xa xn xc))
    generalize (w1.setCell ⟨w.heap.size + 1, 0, none⟩ (.bool b)).setCell ⟨w.heap.size + 1, 1, none⟩ (.slice xa xn xc) = V at *
    generalize w.heap.size + 1 = gn at *
    have n0 := hv2.c0
    have n1 := hv2.c1
    obtain ⟨⟨d0, d1, d2, d3, d4, d5, d6⟩, f0, f1, f2, f3, f4, f5, f6⟩ := cells7 hz2
    obtain ⟨hsl, hsg⟩ := hn2.sl_
    have HX := Lib.hid (And.intro hsl (And.intro hsg (And.intro hbb2 hz2)))
    clear hS0 hSa hS1 hS2 HH HA hc hv2 hn2 hz2 hsl hsg
    by_cases he : er = 0
    · subst he
      by_cases hl : 64 < xn
      · go_wp2_with fail
        unfold RkAns
        rw [if_neg (by omega), if_pos (by omega)]
        exact tel_set rfl rfl rfl rfl HX.out.2.2.2 (Nat.le_refl _) Sl.nil HX.out.2.2.1
      · go_wp2_with fail
        unfold RkAns
        rw [if_neg (by omega), if_neg (by omega), ← HX.out.2.1]
        exact tel_set rfl rfl rfl rfl HX.out.2.2.2 (Nat.le_refl _) (by have h := HX.out.1; rw [hlen] at h; exact h) HX.out.2.2.1
    · go_wp2_with fail
      unfold RkAns
      rw [if_pos he]
      exact tel_set rfl rfl rfl rfl HX.out.2.2.2 (Nat.le_refl _) Sl.nil HX.out.2.2.1
end
end Go.Proofs.YtocnlapbkidinaaGreatDoor
namespace Go.Proofs.YtocnlapbkidinaaGreatDoor
section
open Go.RowKit
set_option maxRecDepth 100000

theorem order_eq (z : Int) (w : World) : Calls Tryz.prog 51 #[.int .i64 z] w fun e w' => e = .returned (.bool (decide (z = 0))) ∧ Below w.heap.size w w' := by
  go_enter Tryz.func51, Tryz.ntmps51
  go_wp2_with fail
  go_ret
  exact ⟨by congr 2, Below.refl _ _⟩
theorem order_lt (z : Int) (w : World) : Calls Tryz.prog 52 #[.int .i64 z] w fun e w' => e = .returned (.bool (decide (z < 0))) ∧ Below w.heap.size w w' := by
  go_enter Tryz.func52, Tryz.ntmps52
  go_wp2_with fail
  go_ret
  exact ⟨by congr 2, Below.refl _ _⟩
set_option maxHeartbeats 3200000 in
theorem number_dat (i : Int) (w : World) (h0 : -9223372036854775808 ≤ i) (h1 : i ≤ 9223372036854775807) : Calls Tryz.prog 61 #[.int .i64 i] w (DatP w 1 (decide (i < 0)) (limbs i.natAbs) false ⟨#[]⟩) := by
  have HW := Lib.hid (fun W => wof_num i W h0 h1)
  go_enter Tryz.func61, Tryz.ntmps61
  go_wp2_with fail
  refine (HW.out _).mono ?_
  rintro e w1 ⟨v, rfl, ⟨x, rfl, A, n, c, rfl, hsl, _⟩, b1⟩
  obtain ⟨hz, hlt, hb⟩ := oldZ b1
  obtain ⟨⟨d0, d1, d2, d3, d4, d5, d6⟩, f0, f1, f2, f3, f4, f5, f6⟩ := cells7 hz
  have H2 := Lib.hid (And.intro hsl hb)
  clear hsl hb b1
  go_wp2_with fail
  exact dat_set rfl rfl rfl hz (Nat.le_refl _) H2.out.1 H2.out.2
set_option maxHeartbeats 3200000 in
theorem strlen_any (B o n c : Nat) (s : ByteArray) (w : World) (hn : 0 < n) (hs : w.cell? ⟨B, o + 4, none⟩ = some (.string s)) (hm : s.size ≤ 9223372036854775807) :
    Calls Tryz.prog 60 #[.slice (some ⟨B, o, none⟩) n c] w (DatP w 1 false (limbs s.size) false ⟨#[]⟩) := by
  have hb0 : Below w.heap.size w (w.alloc (Obj.cells #[.int .i64 0, .bool false, .slice none 0 0, .bool false, .string ⟨#[]⟩, .slice none 0 0, .slice none 0 0] 29)) := (Below.refl _ _).alloc (Nat.le_refl _) _
  have hB : B < w.heap.size := World.block_lt_of_cell? w _ hs
  have hs0 := (hb0.cell (p := ⟨B, o + 4, none⟩) hB).trans hs
  have HN := Lib.hid (fun W => number_dat (s.size : Int) W (by omega) (by omega))
  clear hb0 hs
  go_enter Tryz.func60, Tryz.ntmps60
  go_wp2_with fail
  refine (HN.out _).mono ?_
  rintro e w1 ⟨A, m, c1, rfl, hsl, b1⟩
  obtain ⟨hz, hlt, hb⟩ := oldZ b1
  obtain ⟨⟨d0, d1, d2, d3, d4, d5, d6⟩, f0, f1, f2, f3, f4, f5, f6⟩ := cells7 hz
  have H2 := Lib.hid (And.intro hsl hb)
  have e0 : decide ((s.size : Int) < 0) = false := decide_eq_false (by omega)
  rw [e0]
  clear hsl hb b1
  go_wp2_with fail
  exact dat_set rfl rfl rfl hz (Nat.le_refl _) H2.out.1 H2.out.2
set_option maxHeartbeats 3200000 in
theorem symstr_any (B o n c : Nat) (s : ByteArray) (w : World) (hn : 0 < n) (hs : w.cell? ⟨B, o + 4, none⟩ = some (.string s)) :
    Calls Tryz.prog 64 #[.slice (some ⟨B, o, none⟩) n c] w (DatP w 4 false [] false s) := by
  have hb0 : Below w.heap.size w (w.alloc (Obj.cells #[.int .i64 0, .bool false, .slice none 0 0, .bool false, .string ⟨#[]⟩, .slice none 0 0, .slice none 0 0] 29)) := (Below.refl _ _).alloc (Nat.le_refl _) _
  have hB : B < w.heap.size := World.block_lt_of_cell? w _ hs
  have hs0 := (hb0.cell (p := ⟨B, o + 4, none⟩) hB).trans hs
  clear hb0 hs
  go_enter Tryz.func64, Tryz.ntmps64
  go_wp2_with fail
  refine (texted_any s _).mono ?_
  rintro e w1 ⟨A, m, c1, rfl, hsl, b1⟩
  obtain ⟨hz, hlt, hb⟩ := oldZ b1
  obtain ⟨⟨d0, d1, d2, d3, d4, d5, d6⟩, f0, f1, f2, f3, f4, f5, f6⟩ := cells7 hz
  have H2 := Lib.hid (And.intro hsl hb)
  clear hsl hb b1
  go_wp2_with fail
  exact dat_set rfl rfl rfl hz (Nat.le_refl _) H2.out.1 H2.out.2
set_option maxHeartbeats 3200000 in
theorem numstr_any (B o n c : Nat) (g : Bool) (A : Option Addr) (m cc : Nat) (z : Int) (s : ByteArray) (w : World) (hn : 0 < n) (hg : w.cell? ⟨B, o + 1, none⟩ = some (.bool g)) (hl : w.cell? ⟨B, o + 2, none⟩ = some (.slice A m cc))
    (H : ∀ W, Below w.heap.size w W → Calls Tryz.prog 67 #[.agg #[.bool g, .slice A m cc]] W fun e w' => e = .returned (.string s) ∧ Below W.heap.size W w') :
    Calls Tryz.prog 66 #[.slice (some ⟨B, o, none⟩) n c] w (DatP w 4 false [] false s) := by
  have hb0 : Below w.heap.size w (w.alloc (Obj.cells #[.int .i64 0, .bool false, .slice none 0 0, .bool false, .string ⟨#[]⟩, .slice none 0 0, .slice none 0 0] 29)) := (Below.refl _ _).alloc (Nat.le_refl _) _
  have hB : B < w.heap.size := World.block_lt_of_cell? w _ hg
  have hg0 := (hb0.cell (p := ⟨B, o + 1, none⟩) hB).trans hg
  have hl0 := (hb0.cell (p := ⟨B, o + 2, none⟩) hB).trans hl
  have HH := Lib.hid (And.intro H hb0)
  clear hb0 hg hl H
  go_enter Tryz.func66, Tryz.ntmps66
  go_wp2_with fail
  refine (HH.out.1 _ HH.out.2).mono ?_
  rintro e w1 ⟨rfl, b1⟩
  clear hg0 hl0
  have H1 := Lib.hid b1
  clear b1
  go_wp2_with fail
  refine (texted_any s _).mono ?_
  rintro e w2 ⟨A, m, c1, rfl, hsl, b2⟩
  obtain ⟨hz, hlt, hb⟩ := oldZ (H1.out.trans (b2.mono H1.out.size))
  obtain ⟨⟨d0, d1, d2, d3, d4, d5, d6⟩, f0, f1, f2, f3, f4, f5, f6⟩ := cells7 hz
  have H2 := Lib.hid (And.intro hsl hb)
  clear hsl hb b2
  go_wp2_with fail
  exact dat_set rfl rfl rfl hz (Nat.le_refl _) H2.out.1 H2.out.2
end
end Go.Proofs.YtocnlapbkidinaaGreatDoor
namespace Go.Proofs.YtocnlapbkidinaaGreatDoor
section
open Go.RowKit
set_option maxRecDepth 100000

set_option maxHeartbeats 3200000 in
theorem streq_any (B o c : Nat) (s t : ByteArray) (r : Bool) (w : World) (hs : w.cell? ⟨B, o + 4, none⟩ = some (.string s)) (ht : w.cell? ⟨B, o + 7 + 4, none⟩ = some (.string t)) (hr : (s.toList == t.toList) = r) :
    Calls Tryz.prog 63 #[.slice (some ⟨B, o, none⟩) 2 c] w (DatP w 2 false [] r ⟨#[]⟩) := by
  have hb0 : Below w.heap.size w (w.alloc (Obj.cells #[.int .i64 0, .bool false, .slice none 0 0, .bool false, .string ⟨#[]⟩, .slice none 0 0, .slice none 0 0] 29)) := (Below.refl _ _).alloc (Nat.le_refl _) _
  have hB : B < w.heap.size := World.block_lt_of_cell? w _ hs
  have hs0 := (hb0.cell (p := ⟨B, o + 4, none⟩) hB).trans hs
  have ht0 := (hb0.cell (p := ⟨B, o + 7 + 4, none⟩) hB).trans ht
  have hz0 : (w.alloc (Obj.cells #[.int .i64 0, .bool false, .slice none 0 0, .bool false, .string ⟨#[]⟩, .slice none 0 0, .slice none 0 0] 29)).drew.heap[w.heap.size]? = some (Obj.cells #[.int .i64 0, .bool false, .slice none 0 0, .bool false, .string ⟨#[]⟩, .slice none 0 0, .slice none 0 0] 29) := heap_alloc_new w (Obj.cells #[.int .i64 0, .bool false, .slice none 0 0, .bool false, .string ⟨#[]⟩, .slice none 0 0, .slice none 0 0] 29)
  have hd0 : Below w.heap.size w (w.alloc (Obj.cells #[.int .i64 0, .bool false, .slice none 0 0, .bool false, .string ⟨#[]⟩, .slice none 0 0, .slice none 0 0] 29)).drew := hb0.drew
  have hsz : (w.alloc (Obj.cells #[.int .i64 0, .bool false, .slice none 0 0, .bool false, .string ⟨#[]⟩, .slice none 0 0, .slice none 0 0] 29)).drew.heap.size = w.heap.size + 1 := World.size_alloc ..
  have hS0 : (w.alloc (Obj.cells #[.int .i64 0, .bool false, .slice none 0 0, .bool false, .string ⟨#[]⟩, .slice none 0 0, .slice none 0 0] 29)).drew.cell? ⟨B, o + 4, none⟩ = some (.string s) ∧ (w.alloc (Obj.cells #[.int .i64 0, .bool false, .slice none 0 0, .bool false, .string ⟨#[]⟩, .slice none 0 0, .slice none 0 0] 29)).drew.cell? ⟨B, o + 7 + 4, none⟩ = some (.string t) := ⟨hs0, ht0⟩
  have HB0 := Lib.hid (And.intro hd0 (And.intro hz0 (And.intro hsz (And.intro hs ht))))
  clear hb0 hs ht hz0 hd0 hsz hs0 ht0
  go_enter Tryz.func63, Tryz.ntmps63
  go_wp2_with fail
  go_region_held3 (fun w' => w'.cell? ⟨B, o + 4, none⟩ = some (.string s) ∧ w'.cell? ⟨B, o + 7 + 4, none⟩ = some (.string t))
    (first | with_reducible exact hS0 | with_reducible exact hS3 | with_reducible exact hS4 | go_keep)
    (first
    | (go_at_call 58; refine (truth_any r _).mono ?_; rintro e w3 ⟨A1, n1, c1, rfl, hsl, b3⟩; have hb3 := HB0.out.1.trans (b3.mono (by rw [HB0.out.2.2.1]; omega)); have hS3 := And.intro ((hb3.cell (p := ⟨B, o + 4, none⟩) hB).trans HB0.out.2.2.2.1) ((hb3.cell (p := ⟨B, o + 7 + 4, none⟩) hB).trans HB0.out.2.2.2.2);
       have hz := (b3.block w.heap.size (by rw [HB0.out.2.2.1]; omega)).trans HB0.out.2.1; obtain ⟨⟨d0, d1, d2, d3, d4, d5, d6⟩, f0, f1, f2, f3, f4, f5, f6⟩ := cells7 hz;
       have hb4 := below7 hb3 (Nat.le_refl _) (.int .i64 2) (.bool false) (.slice A1 n1 c1) (.bool r) (.string ⟨#[]⟩) (.slice none 0 0) (.slice none 0 0); have hS4 := And.intro ((hb4.cell (p := ⟨B, o + 4, none⟩) hB).trans HB0.out.2.2.2.1) ((hb4.cell (p := ⟨B, o + 7 + 4, none⟩) hB).trans HB0.out.2.2.2.2)))
  go_wp2_with fail
  exact dat_set rfl rfl rfl hz (Nat.le_refl _) hsl hb3
/-- What two texts put together come to. -/
def JnAns (w : World) (s t : ByteArray) : Ending → World → Prop := if 1024 < s.size + t.size then TelP w 0 false [] false ⟨#[]⟩ 12 else TelP w 4 false [] false (s ++ t) 0
set_option maxHeartbeats 3200000 in
theorem joined_any (B o c : Nat) (s t : ByteArray) (w : World) (hs : w.cell? ⟨B, o + 4, none⟩ = some (.string s)) (ht : w.cell? ⟨B, o + 7 + 4, none⟩ = some (.string t)) (hms : s.size ≤ 140737488351232) (hmt : t.size ≤ 140737488351232) :
    Calls Tryz.prog 62 #[.slice (some ⟨B, o, none⟩) 2 c] w (JnAns w s t) := by
  have hb0 : Below w.heap.size w (w.alloc (Obj.cells #[.int .i64 0, .bool false, .slice none 0 0, .bool false, .string ⟨#[]⟩, .slice none 0 0, .slice none 0 0] 29)) := (Below.refl _ _).alloc (Nat.le_refl _) _
  have hB : B < w.heap.size := World.block_lt_of_cell? w _ hs
  have hs0 := (hb0.cell (p := ⟨B, o + 4, none⟩) hB).trans hs
  have ht0 := (hb0.cell (p := ⟨B, o + 7 + 4, none⟩) hB).trans ht
  have hz0 : (w.alloc (Obj.cells #[.int .i64 0, .bool false, .slice none 0 0, .bool false, .string ⟨#[]⟩, .slice none 0 0, .slice none 0 0] 29)).heap[w.heap.size]? = some (Obj.cells #[.int .i64 0, .bool false, .slice none 0 0, .bool false, .string ⟨#[]⟩, .slice none 0 0, .slice none 0 0] 29) := heap_alloc_new w (Obj.cells #[.int .i64 0, .bool false, .slice none 0 0, .bool false, .string ⟨#[]⟩, .slice none 0 0, .slice none 0 0] 29)
  have hwr : IntKind.i64.wrap ((s.size : Int) + (t.size : Int)) = (s.size : Int) + (t.size : Int) := IntWalk.i64_in _ (by omega)
  have HB0 := Lib.hid (And.intro hb0 (And.intro hz0 (And.intro hs ht)))
  clear hb0 hs ht hz0
  go_enter Tryz.func62, Tryz.ntmps62
  go_wp2_with fail
  go_quiet (fail)
  have hzq : ((w.alloc (Obj.cells #[.int .i64 0, .bool false, .slice none 0 0, .bool false, .string ⟨#[]⟩, .slice none 0 0, .slice none 0 0] 29)).drewN nq).heap[w.heap.size]? = some (Obj.cells #[.int .i64 0, .bool false, .slice none 0 0, .bool false, .string ⟨#[]⟩, .slice none 0 0, .slice none 0 0] 29) := HB0.out.2.1
  have hbq : Below w.heap.size w ((w.alloc (Obj.cells #[.int .i64 0, .bool false, .slice none 0 0, .bool false, .string ⟨#[]⟩, .slice none 0 0, .slice none 0 0] 29)).drewN nq) := ⟨HB0.out.1.os, HB0.out.1.tape, HB0.out.1.output, HB0.out.1.size, HB0.out.1.block⟩
  have hsq : ((w.alloc (Obj.cells #[.int .i64 0, .bool false, .slice none 0 0, .bool false, .string ⟨#[]⟩, .slice none 0 0, .slice none 0 0] 29)).drewN nq).heap.size = w.heap.size + 1 := World.size_alloc ..
  clear hs0 ht0
  generalize (w.alloc (Obj.cells #[.int .i64 0, .bool false, .slice none 0 0, .bool false, .string ⟨#[]⟩, .slice none 0 0, .slice none 0 0] 29)).drewN nq = V at *
  have HV := Lib.hid (And.intro hzq (And.intro hbq hsq))
  clear hbq hsq
  by_cases hlt : 1024 < s.size + t.size
  · have hd : decide ((1024 : Int) < (s.size : Int) + (t.size : Int)) = true := decide_eq_true (by omega)
    obtain ⟨⟨d0, d1, d2, d3, d4, d5, d6⟩, f0, f1, f2, f3, f4, f5, f6⟩ := cells7 hzq
    go_wp2_with fail
    unfold JnAns
    rw [if_pos hlt]
    exact tel_set rfl rfl rfl rfl HV.out.1 (Nat.le_refl _) Sl.nil HV.out.2.1
  · have hd : decide ((1024 : Int) < (s.size : Int) + (t.size : Int)) = false := decide_eq_false (by omega)
    have hno : ¬ (9223372036854775807 < s.size + t.size) := by omega
    have hS0 : V.drew.cell? ⟨B, o + 4, none⟩ = some (.string s) ∧ V.drew.cell? ⟨B, o + 7 + 4, none⟩ = some (.string t) := ⟨(HV.out.2.1.drew.cell (p := ⟨B, o + 4, none⟩) hB).trans HB0.out.2.2.1, (HV.out.2.1.drew.cell (p := ⟨B, o + 7 + 4, none⟩) hB).trans HB0.out.2.2.2⟩
    clear hzq
    go_wp2_with fail
    go_region_held3 (fun w' => w'.cell? ⟨B, o + 4, none⟩ = some (.string s) ∧ w'.cell? ⟨B, o + 7 + 4, none⟩ = some (.string t))
      (first | with_reducible exact hS0 | with_reducible exact hS3 | with_reducible exact hS4 | go_keep)
      (first
      | (go_at_call 65; refine (texted_any (s ++ t) _).mono ?_; rintro e w3 ⟨A1, n1, c1, rfl, hsl, b3⟩; have hb3 := HV.out.2.1.drew.trans (b3.mono HV.out.2.1.drew.size); have hS3 := And.intro ((hb3.cell (p := ⟨B, o + 4, none⟩) hB).trans HB0.out.2.2.1) ((hb3.cell (p := ⟨B, o + 7 + 4, none⟩) hB).trans HB0.out.2.2.2);
         have hz := (b3.block w.heap.size (by show w.heap.size < V.heap.size; rw [HV.out.2.2]; omega)).trans HV.out.1; obtain ⟨⟨d0, d1, d2, d3, d4, d5, d6⟩, f0, f1, f2, f3, f4, f5, f6⟩ := cells7 hz;
         have hb4 := below7 hb3 (Nat.le_refl _) (.int .i64 4) (.bool false) (.slice A1 n1 c1) (.bool false) (.string (s ++ t)) (.slice none 0 0) (.slice none 0 0); have hS4 := And.intro ((hb4.cell (p := ⟨B, o + 4, none⟩) hB).trans HB0.out.2.2.1) ((hb4.cell (p := ⟨B, o + 7 + 4, none⟩) hB).trans HB0.out.2.2.2)))
    go_wp2_with fail
    unfold JnAns
    rw [if_neg hlt]
    exact tel_set rfl rfl rfl rfl hz (Nat.le_refl _) hsl hb3
end
end Go.Proofs.YtocnlapbkidinaaGreatDoor
