/-
  Same of pavaneref03, of two data of one shape.
-/
import Derived.Test.YthdhdmmlmbkalaaGreatDoorJp12
import Derived.Test.YthdhdmmlmbkalaaGreatDoorJp8
set_option linter.unusedVariables false
set_option linter.unusedSimpArgs false
set_option linter.unusedSectionVars false
set_option linter.unnecessarySimpa false
namespace Go.Proofs.YthdhdmmlmbkalaaGreatDoor
open Go.RowKit

section
variable {a : Act} {w : World} {o : Oper} {p b off : Nat}
theorem exec_f0 (ho : o.op = .fieldAddr 27 (.tmp p) 0) (ht : a.tmps.getD p undef = .pointer (some ⟨b, 0, none⟩)) : (execOp a.eval o).run Tryz.prog w = .ok (.value (.pointer (some ⟨b, 0, none⟩))) w := by
  rw [Array.getD_eq_getD_getElem?] at ht
  simp [execOp, ho, Act.eval, ht, go_sem]
theorem exec_f1 (ho : o.op = .fieldAddr 27 (.tmp p) 1) (ht : a.tmps.getD p undef = .pointer (some ⟨b, 0, none⟩)) : (execOp a.eval o).run Tryz.prog w = .ok (.value (.pointer (some ⟨b, 1, none⟩))) w := by
  rw [Array.getD_eq_getD_getElem?] at ht
  simp [execOp, ho, Act.eval, ht, go_sem]
theorem exec_f2 (ho : o.op = .fieldAddr 27 (.tmp p) 2) (ht : a.tmps.getD p undef = .pointer (some ⟨b, 0, none⟩)) : (execOp a.eval o).run Tryz.prog w = .ok (.value (.pointer (some ⟨b, 3, none⟩))) w := by
  rw [Array.getD_eq_getD_getElem?] at ht
  simp [execOp, ho, Act.eval, ht, go_sem]
theorem exec_f3 (ho : o.op = .fieldAddr 27 (.tmp p) 3) (ht : a.tmps.getD p undef = .pointer (some ⟨b, 0, none⟩)) : (execOp a.eval o).run Tryz.prog w = .ok (.value (.pointer (some ⟨b, 4, none⟩))) w := by
  rw [Array.getD_eq_getD_getElem?] at ht
  simp [execOp, ho, Act.eval, ht, go_sem]
theorem exec_f4 (ho : o.op = .fieldAddr 27 (.tmp p) 4) (ht : a.tmps.getD p undef = .pointer (some ⟨b, 0, none⟩)) : (execOp a.eval o).run Tryz.prog w = .ok (.value (.pointer (some ⟨b, 5, none⟩))) w := exec_fld ho ht
theorem exec_f5 (ho : o.op = .fieldAddr 27 (.tmp p) 5) (ht : a.tmps.getD p undef = .pointer (some ⟨b, 0, none⟩)) : (execOp a.eval o).run Tryz.prog w = .ok (.value (.pointer (some ⟨b, 6, none⟩))) w := exec_fld5 ho ht
theorem exec_ldI {x : Int} (ho : o.op = .load 3 (.tmp p)) (ht : a.tmps.getD p undef = .pointer (some ⟨b, off, none⟩)) (hc : w.cell? ⟨b, off, none⟩ = some (.int .i64 x)) : (execOp a.eval o).run Tryz.prog w = .ok (.value (.int .i64 x)) w := by
  rw [Array.getD_eq_getD_getElem?] at ht
  simp [execOp, ho, Act.eval, ht, go_sem, hc]
theorem exec_ldB {x : Bool} (ho : o.op = .load 4 (.tmp p)) (ht : a.tmps.getD p undef = .pointer (some ⟨b, off, none⟩)) (hc : w.cell? ⟨b, off, none⟩ = some (.bool x)) : (execOp a.eval o).run Tryz.prog w = .ok (.value (.bool x)) w := by
  rw [Array.getD_eq_getD_getElem?] at ht
  simp [execOp, ho, Act.eval, ht, go_sem, hc]
theorem exec_ldT {x : ByteArray} (ho : o.op = .load 9 (.tmp p)) (ht : a.tmps.getD p undef = .pointer (some ⟨b, off, none⟩)) (hc : w.cell? ⟨b, off, none⟩ = some (.string x)) : (execOp a.eval o).run Tryz.prog w = .ok (.value (.string x)) w := by
  rw [Array.getD_eq_getD_getElem?] at ht
  simp [execOp, ho, Act.eval, ht, go_sem, hc]
theorem exec_ldS {n c : Nat} {A : Option Addr} (ho : o.op = .load 25 (.tmp p)) (ht : a.tmps.getD p undef = .pointer (some ⟨b, off, none⟩)) (hc : w.cell? ⟨b, off, none⟩ = some (.slice A n c)) : (execOp a.eval o).run Tryz.prog w = .ok (.value (.slice A n c)) w := exec_loadS ho ht hc
theorem exec_ldN {g : Bool} {n c : Nat} {A : Option Addr} (ho : o.op = .load 24 (.tmp p)) (ht : a.tmps.getD p undef = .pointer (some ⟨b, 1, none⟩)) (hc : w.cell? ⟨b, 1, none⟩ = some (.bool g)) (hd : w.cell? ⟨b, 2, none⟩ = some (.slice A n c)) : (execOp a.eval o).run Tryz.prog w = .ok (.value (.agg #[.bool g, .slice A n c])) w := by
  rw [Array.getD_eq_getD_getElem?] at ht
  simp [execOp, ho, Act.eval, ht, go_sem, hc, hd]
theorem exec_lenS {n c : Nat} {A : Option Addr} (ho : o.op = .call { callee := .builtin .len, args := #[.tmp p], argTypes := #[25] }) (ht : a.tmps.getD p undef = .slice A n c) : (execOp a.eval o).run Tryz.prog w = .ok (.value (.int .i64 n)) w := by
  rw [Array.getD_eq_getD_getElem?] at ht
  simp [execOp, ho, Act.eval, ht, go_sem]
theorem exec_neqI {q : Nat} {x : Int} (ho : o.op = .binOp .neq 3 (.tmp p) (.tmp q) 3) (hp : a.tmps.getD p undef = .int .i64 x) (hq : a.tmps.getD q undef = .int .i64 x) : (execOp a.eval o).run Tryz.prog w = .ok (.value (.bool false)) w := by
  rw [Array.getD_eq_getD_getElem?] at hp hq
  simp [execOp, ho, Act.eval, hp, hq, go_sem]
theorem exec_neqB {q : Nat} {x : Bool} (ho : o.op = .binOp .neq 4 (.tmp p) (.tmp q) 4) (hp : a.tmps.getD p undef = .bool x) (hq : a.tmps.getD q undef = .bool x) : (execOp a.eval o).run Tryz.prog w = .ok (.value (.bool false)) w := by
  rw [Array.getD_eq_getD_getElem?] at hp hq
  simp [execOp, ho, Act.eval, hp, hq, go_sem]
theorem exec_neqT {q : Nat} {x : ByteArray} (ho : o.op = .binOp .neq 9 (.tmp p) (.tmp q) 9) (hp : a.tmps.getD p undef = .string x) (hq : a.tmps.getD q undef = .string x) : (execOp a.eval o).run Tryz.prog w = .ok (.value (.bool false)) w := by
  rw [Array.getD_eq_getD_getElem?] at hp hq
  simp [execOp, ho, Act.eval, hp, hq, go_sem]
theorem exec_ixq {q i n c : Nat} (ho : o.op = .indexAddr 25 (.tmp p) (.tmp q)) (ht : a.tmps.getD p undef = .slice (some ⟨b, off, none⟩) n c) (hq : a.tmps.getD q undef = .int .i64 (i : Nat)) (hn : i < n) : (execOp a.eval o).run Tryz.prog w = .ok (.value (.pointer (some ⟨b, off + i * 7, none⟩))) w := by
  rw [Array.getD_eq_getD_getElem?] at ht hq
  simp [execOp, ho, Act.eval, ht, hq, go_sem, hn]
end
theorem cell_at {w0 W : World} {b : Nat} {cs : Array Value} {T : TypeId} {fr : Nat × Nat} (h : w0.heap[b]? = some (.cells cs T fr)) (hb : Below w0.heap.size w0 W) (j : Nat) {v : Value} (hj : cs[j]? = some v) : W.cell? ⟨b, j, none⟩ = some v := by
  rw [Lib.cell_of_heap ((hb.block b (Array.getElem?_eq_some_iff.1 h).1).trans h)]
  exact hj
theorem seven_below {w w' : World} {b o : Nat} {x : LT} (h : ∀ j v, x.cells[j]? = some v → w.cell? ⟨b, o + j, none⟩ = some v) (hlt : b < w.heap.size) (hb : Below w.heap.size w w') : Seven w' b o x := fun j v hj => (hb.cell (p := ⟨b, o + j, none⟩) hlt).trans (h j v hj)
theorem seven_keep {w w' : World} {b o : Nat} {x : LT} (h : Seven w b o x) (hb : Below w.heap.size w w') : Seven w' b o x := fun j v hj => by
  have h0 := h j v hj
  have hlt : b < w.heap.size := World.block_lt_of_cell? w _ h0
  exact (hb.cell (p := ⟨b, o + j, none⟩) hlt).trans h0
theorem same_news {W : World} {B : Nat} {x y : Value} {z : Int} (hx : New W B x (limbs z.natAbs)) (hy : New W B y (limbs z.natAbs)) (hz : (limbs z.natAbs).length ≤ 35184372087808) : Calls Tryz.prog 67 #[.agg #[.bool (decide (z < 0)), x], .agg #[.bool (decide (z < 0)), y]] W fun e W' => e = .returned (.bool true) ∧ Below W.heap.size W W' := by
  obtain ⟨A, c, rfl, h1⟩ := hx.sl
  obtain ⟨A', c', rfl, h2⟩ := hy.sl
  exact refSame2_yes ⟨_, A, c, A', c', _, _, rfl, rfl, h1, h2, by omega⟩
def SameTo (M N : Nat) : Prop := ∀ u t : LT, u.size ≤ N → shape u = shape t → Tame u → Tame t → ∀ w : World, M ≤ w.heap.size → Held w M u → Held w M t → Calls Tryz.prog 42 #[.agg #[.int .i64 u.k, .bool u.g, .slice u.la u.ln u.lc, .bool u.bb, .string u.s, .slice u.ia u.items.length u.ic, .slice u.ta u.tail.length u.tc], .agg #[.int .i64 t.k, .bool t.g, .slice t.la t.ln t.lc, .bool t.bb, .string t.s, .slice t.ia t.items.length t.ic, .slice t.ta t.tail.length t.tc]] w fun e w' => e = .returned (.bool true) ∧ Below w.heap.size w w'

set_option maxRecDepth 100000 in
set_option maxHeartbeats 12800000 in
theorem rs_walk (M N : Nat) (hN : N ≤ 1000000) (ih : SameTo M N) (k z : Int) (g bb : Bool) (s : ByteArray) (la la' ia ia' ta ta' : Option Addr) (ln ln' lc lc' n m ic ic' tc tc' : Nat) (items items' tail tail' : List LT) (w : World) (hM : M ≤ w.heap.size)
    (hn : items.length = n) (hn' : items'.length = n) (hm : tail.length = m) (hm' : tail'.length = m) (h1 : sizes items ≤ N) (h2 : sizes tail ≤ N) (hz1000 : (limbs z.natAbs).length ≤ 35184372087808)
    (hS : shapes items = shapes items' ∧ shapes tail = shapes tail') (hT : (TameR items ∧ TameR tail) ∧ (TameR items' ∧ TameR tail'))
    (hN1 : (∀ W, Below w.heap.size w W → Calls Tryz.prog 68 #[.agg #[.bool g, .slice la ln lc]] W (WGives W z)) ∧ (∀ W, Below w.heap.size w W → Calls Tryz.prog 68 #[.agg #[.bool g, .slice la' ln' lc']] W (WGives W z)))
    (hH : (Spot M ia n ic ∧ Spot M ta m tc ∧ LiesR w M items (blk ia) (ofs ia) ∧ LiesR w M tail (blk ta) (ofs ta)) ∧ (Spot M ia' n ic' ∧ Spot M ta' m tc' ∧ LiesR w M items' (blk ia') (ofs ia') ∧ LiesR w M tail' (blk ta') (ofs ta'))) :
    Calls Tryz.prog 42 #[.agg #[.int .i64 k, .bool g, .slice la ln lc, .bool bb, .string s, .slice ia n ic, .slice ta m tc], .agg #[.int .i64 k, .bool g, .slice la' ln' lc', .bool bb, .string s, .slice ia' n ic', .slice ta' m tc']] w fun e w' => e = .returned (.bool true) ∧ Below w.heap.size w w' := by
  have g1 := sizes_ge items
  have g2 := sizes_ge tail
  obtain ⟨w2, hw2, a0, a1, hz, hbel⟩ := two2 w (.cells #[.int .i64 k, .bool g, .slice la ln lc, .bool bb, .string s, .slice ia n ic, .slice ta m tc] 27) (.cells #[.int .i64 k, .bool g, .slice la' ln' lc', .bool bb, .string s, .slice ia' n ic', .slice ta' m tc'] 27)
  have HA := Lib.hid (And.intro a0 (And.intro a1 (And.intro hz hbel)))
  have HW := Lib.hid hw2
  have HN := Lib.hid hN1
  have HH := Lib.hid hH
  have HS := Lib.hid hS
  have HT := Lib.hid hT
  have IH := Lib.hid ih
  have hbw : ∀ W, Below w2.heap.size w2 W → Below w.heap.size w W := fun W hb => hbel.trans (hb.mono hbel.size)
  clear a0 a1 hz hbel hw2 hN1 hH hS hT ih
  go_enter Tryz.func42, Tryz.ntmps42
  go_wp2_with fail
  rw [← HW.out]
  refine wp_region_phases (nA := 47) (by kernel_rfl) (by kernel_rfl) (fun i => 7 + i)
    (fun i W v => match i with
      | 0 => v = .pointer (some ⟨w.heap.size, 0, none⟩)
      | 1 => v = .int .i64 k
      | 2 => v = .pointer (some ⟨w.heap.size + 1, 0, none⟩)
      | 3 => v = .int .i64 k
      | 4 => v = .bool false
      | 5 => v = .bool false
      | 6 => v = .pointer (some ⟨w.heap.size, 1, none⟩)
      | 7 => v = .agg #[.bool g, .slice la ln lc]
      | 8 => ∃ x, v = .agg #[.bool (decide (z < 0)), x] ∧ New W w2.heap.size x (limbs z.natAbs)
      | 9 => v = .pointer (some ⟨w.heap.size + 1, 1, none⟩)
      | 10 => v = .agg #[.bool g, .slice la' ln' lc']
      | 11 => ∃ x, v = .agg #[.bool (decide (z < 0)), x] ∧ New W w2.heap.size x (limbs z.natAbs)
      | 12 => v = .bool true
      | 13 => v = .bool false
      | 14 => v = .bool false
      | 15 => v = .bool false
      | 16 => v = .pointer (some ⟨w.heap.size, 3, none⟩)
      | 17 => v = .bool bb
      | 18 => v = .pointer (some ⟨w.heap.size + 1, 3, none⟩)
      | 19 => v = .bool bb
      | 20 => v = .bool false
      | 21 => v = .bool false
      | 22 => v = .bool false
      | 23 => v = .pointer (some ⟨w.heap.size, 4, none⟩)
      | 24 => v = .string s
      | 25 => v = .pointer (some ⟨w.heap.size + 1, 4, none⟩)
      | 26 => v = .string s
      | 27 => v = .bool false
      | 28 => v = .bool false
      | 29 => v = .bool false
      | 30 => v = .pointer (some ⟨w.heap.size, 5, none⟩)
      | 31 => v = .slice ia n ic
      | 32 => v = .int .i64 n
      | 33 => v = .pointer (some ⟨w.heap.size + 1, 5, none⟩)
      | 34 => v = .slice ia' n ic'
      | 35 => v = .int .i64 n
      | 36 => v = .bool false
      | 37 => v = .bool false
      | 38 => v = .bool false
      | 39 => v = .pointer (some ⟨w.heap.size, 6, none⟩)
      | 40 => v = .slice ta m tc
      | 41 => v = .int .i64 m
      | 42 => v = .pointer (some ⟨w.heap.size + 1, 6, none⟩)
      | 43 => v = .slice ta' m tc'
      | 44 => v = .int .i64 m
      | 45 => v = .bool false
      | _ => v = .bool false) (by decide) (by kernel_rfl)
    (fun i j hi hj h => by omega) (fun i hi => by simp only [List.size_toArray, List.length_cons, List.length_nil]; omega) ?_ ?_ ?_
  · intro i hi W W' v h hb
    rcases (show i = 0 ∨ i = 1 ∨ i = 2 ∨ i = 3 ∨ i = 4 ∨ i = 5 ∨ i = 6 ∨ i = 7 ∨ i = 8 ∨ i = 9 ∨ i = 10 ∨ i = 11 ∨ i = 12 ∨ i = 13 ∨ i = 14 ∨ i = 15 ∨ i = 16 ∨ i = 17 ∨ i = 18 ∨ i = 19 ∨ i = 20 ∨ i = 21 ∨ i = 22 ∨ i = 23 ∨ i = 24 ∨ i = 25 ∨ i = 26 ∨ i = 27 ∨ i = 28 ∨ i = 29 ∨ i = 30 ∨ i = 31 ∨ i = 32 ∨ i = 33 ∨ i = 34 ∨ i = 35 ∨ i = 36 ∨ i = 37 ∨ i = 38 ∨ i = 39 ∨ i = 40 ∨ i = 41 ∨ i = 42 ∨ i = 43 ∨ i = 44 ∨ i = 45 ∨ i = 46 by omega) with rfl | rfl | rfl | rfl | rfl | rfl | rfl | rfl | rfl | rfl | rfl | rfl | rfl | rfl | rfl | rfl | rfl | rfl | rfl | rfl | rfl | rfl | rfl | rfl | rfl | rfl | rfl | rfl | rfl | rfl | rfl | rfl | rfl | rfl | rfl | rfl | rfl | rfl | rfl | rfl | rfl | rfl | rfl | rfl | rfl | rfl | rfl
    · exact h
    · exact h
    · exact h
    · exact h
    · exact h
    · exact h
    · exact h
    · exact h
    · obtain ⟨x, e, h1⟩ := h; exact ⟨x, e, h1.next hb⟩
    · exact h
    · exact h
    · obtain ⟨x, e, h1⟩ := h; exact ⟨x, e, h1.next hb⟩
    · exact h
    · exact h
    · exact h
    · exact h
    · exact h
    · exact h
    · exact h
    · exact h
    · exact h
    · exact h
    · exact h
    · exact h
    · exact h
    · exact h
    · exact h
    · exact h
    · exact h
    · exact h
    · exact h
    · exact h
    · exact h
    · exact h
    · exact h
    · exact h
    · exact h
    · exact h
    · exact h
    · exact h
    · exact h
    · exact h
    · exact h
    · exact h
    · exact h
    · exact h
    · exact h
  · intro i hi l A W I hdep
    rcases (show i = 0 ∨ i = 1 ∨ i = 2 ∨ i = 3 ∨ i = 4 ∨ i = 5 ∨ i = 6 ∨ i = 7 ∨ i = 8 ∨ i = 9 ∨ i = 10 ∨ i = 11 ∨ i = 12 ∨ i = 13 ∨ i = 14 ∨ i = 15 ∨ i = 16 ∨ i = 17 ∨ i = 18 ∨ i = 19 ∨ i = 20 ∨ i = 21 ∨ i = 22 ∨ i = 23 ∨ i = 24 ∨ i = 25 ∨ i = 26 ∨ i = 27 ∨ i = 28 ∨ i = 29 ∨ i = 30 ∨ i = 31 ∨ i = 32 ∨ i = 33 ∨ i = 34 ∨ i = 35 ∨ i = 36 ∨ i = 37 ∨ i = 38 ∨ i = 39 ∨ i = 40 ∨ i = 41 ∨ i = 42 ∨ i = 43 ∨ i = 44 ∨ i = 45 ∨ i = 46 by omega) with rfl | rfl | rfl | rfl | rfl | rfl | rfl | rfl | rfl | rfl | rfl | rfl | rfl | rfl | rfl | rfl | rfl | rfl | rfl | rfl | rfl | rfl | rfl | rfl | rfl | rfl | rfl | rfl | rfl | rfl | rfl | rfl | rfl | rfl | rfl | rfl | rfl | rfl | rfl | rfl | rfl | rfl | rfl | rfl | rfl | rfl | rfl
    · exact wpOp_valW rfl (rfl) (exec_f0 rfl ((I.other 2 (by intro j hj; omega)).trans rfl)) ⟨_, rfl, rfl, Below.refl _ _⟩
    · have v0 : A.tmps.getD 7 undef = _ := I.val 0 (by decide) (hdep 0 (by kernel_rfl))
      exact wpOp_valW rfl (rfl) (exec_ldI rfl v0 (cell_at HA.out.1 I.below 0 rfl)) ⟨_, rfl, rfl, Below.refl _ _⟩
    · exact wpOp_valW rfl (rfl) (exec_f0 rfl ((I.other 3 (by intro j hj; omega)).trans rfl)) ⟨_, rfl, rfl, Below.refl _ _⟩
    · have v2 : A.tmps.getD 9 undef = _ := I.val 2 (by decide) (hdep 2 (by kernel_rfl))
      exact wpOp_valW rfl (rfl) (exec_ldI rfl v2 (cell_at HA.out.2.1 I.below 0 rfl)) ⟨_, rfl, rfl, Below.refl _ _⟩
    · have v1 : A.tmps.getD 8 undef = _ := I.val 1 (by decide) (hdep 1 (by kernel_rfl))
      have v3 : A.tmps.getD 10 undef = _ := I.val 3 (by decide) (hdep 3 (by kernel_rfl))
      exact wpOp_valW rfl (rfl) (exec_neqI rfl v1 v3) ⟨_, rfl, rfl, Below.refl _ _⟩
    · have v4 : A.tmps.getD 11 undef = _ := I.val 4 (by decide) (hdep 4 (by kernel_rfl))
      exact wpOp_valW rfl (rfl) (exec_moveV rfl v4) ⟨_, rfl, rfl, Below.refl _ _⟩
    · have g5 : A.tmps.getD 12 undef = _ := I.val 5 (by decide) (hdep 5 (by kernel_rfl))
      exact wpOp_valW rfl (wanted_yes rfl rfl rfl (by rw [I.size]; simp) g5) (exec_f1 rfl ((I.other 2 (by intro j hj; omega)).trans rfl)) ⟨_, rfl, rfl, Below.refl _ _⟩
    · have g5 : A.tmps.getD 12 undef = _ := I.val 5 (by decide) (hdep 5 (by kernel_rfl))
      have v6 : A.tmps.getD 13 undef = _ := I.val 6 (by decide) (hdep 6 (by kernel_rfl))
      exact wpOp_valW rfl (wanted_yes rfl rfl rfl (by rw [I.size]; simp) g5) (exec_ldN rfl v6 (cell_at HA.out.1 I.below 1 rfl) (cell_at HA.out.1 I.below 2 rfl)) ⟨_, rfl, rfl, Below.refl _ _⟩
    · have g5 : A.tmps.getD 12 undef = _ := I.val 5 (by decide) (hdep 5 (by kernel_rfl))
      have v7 : A.tmps.getD 14 undef = _ := I.val 7 (by decide) (hdep 7 (by kernel_rfl))
      refine wpOp_callW rfl (wanted_yes rfl rfl rfl (by rw [I.size]; simp) g5) ((exec_call rfl).trans (by rw [v7])) (by simp [go_sem]) (HN.out.1 W (hbw W I.below)) ?_
      rintro e W' ⟨x, rfl, ⟨y, rfl, h1⟩, h2⟩
      exact ⟨_, rfl, _, rfl, ⟨y, rfl, h1.from_ I.below.size⟩, h2⟩
    · have g5 : A.tmps.getD 12 undef = _ := I.val 5 (by decide) (hdep 5 (by kernel_rfl))
      exact wpOp_valW rfl (wanted_yes rfl rfl rfl (by rw [I.size]; simp) g5) (exec_f1 rfl ((I.other 3 (by intro j hj; omega)).trans rfl)) ⟨_, rfl, rfl, Below.refl _ _⟩
    · have g5 : A.tmps.getD 12 undef = _ := I.val 5 (by decide) (hdep 5 (by kernel_rfl))
      have v9 : A.tmps.getD 16 undef = _ := I.val 9 (by decide) (hdep 9 (by kernel_rfl))
      exact wpOp_valW rfl (wanted_yes rfl rfl rfl (by rw [I.size]; simp) g5) (exec_ldN rfl v9 (cell_at HA.out.2.1 I.below 1 rfl) (cell_at HA.out.2.1 I.below 2 rfl)) ⟨_, rfl, rfl, Below.refl _ _⟩
    · have g5 : A.tmps.getD 12 undef = _ := I.val 5 (by decide) (hdep 5 (by kernel_rfl))
      have v10 : A.tmps.getD 17 undef = _ := I.val 10 (by decide) (hdep 10 (by kernel_rfl))
      refine wpOp_callW rfl (wanted_yes rfl rfl rfl (by rw [I.size]; simp) g5) ((exec_call rfl).trans (by rw [v10])) (by simp [go_sem]) (HN.out.2 W (hbw W I.below)) ?_
      rintro e W' ⟨x, rfl, ⟨y, rfl, h1⟩, h2⟩
      exact ⟨_, rfl, _, rfl, ⟨y, rfl, h1.from_ I.below.size⟩, h2⟩
    · have g5 : A.tmps.getD 12 undef = _ := I.val 5 (by decide) (hdep 5 (by kernel_rfl))
      obtain ⟨x, v8, hx⟩ : ∃ x, A.tmps.getD 15 undef = .agg #[.bool (decide (z < 0)), x] ∧ New W w2.heap.size x (limbs z.natAbs) := I.val 8 (by decide) (hdep 8 (by kernel_rfl))
      obtain ⟨y, v11, hy⟩ : ∃ x, A.tmps.getD 18 undef = .agg #[.bool (decide (z < 0)), x] ∧ New W w2.heap.size x (limbs z.natAbs) := I.val 11 (by decide) (hdep 11 (by kernel_rfl))
      refine wpOp_callW rfl (wanted_yes rfl rfl rfl (by rw [I.size]; simp) g5) ((exec_call2 rfl).trans (by rw [v8, v11])) (by simp [go_sem]) (same_news hx hy hz1000) ?_
      rintro e W' ⟨rfl, b⟩
      exact ⟨_, rfl, _, rfl, rfl, b⟩
    · have g5 : A.tmps.getD 12 undef = _ := I.val 5 (by decide) (hdep 5 (by kernel_rfl))
      have v12 : A.tmps.getD 19 undef = _ := I.val 12 (by decide) (hdep 12 (by kernel_rfl))
      exact wpOp_valW rfl (wanted_yes rfl rfl rfl (by rw [I.size]; simp) g5) (exec_not rfl v12) ⟨_, rfl, rfl, Below.refl _ _⟩
    · have v5 : A.tmps.getD 12 undef = _ := I.val 5 (by decide) (hdep 5 (by kernel_rfl))
      have v13 : A.tmps.getD 20 undef = _ := I.val 13 (by decide) (hdep 13 (by kernel_rfl))
      exact wpOp_valW rfl (rfl) (exec_pickF rfl v5 v13) ⟨_, rfl, rfl, Below.refl _ _⟩
    · have v14 : A.tmps.getD 21 undef = _ := I.val 14 (by decide) (hdep 14 (by kernel_rfl))
      exact wpOp_valW rfl (rfl) (exec_moveV rfl v14) ⟨_, rfl, rfl, Below.refl _ _⟩
    · have g15 : A.tmps.getD 22 undef = _ := I.val 15 (by decide) (hdep 15 (by kernel_rfl))
      exact wpOp_valW rfl (wanted_yes rfl rfl rfl (by rw [I.size]; simp) g15) (exec_f2 rfl ((I.other 2 (by intro j hj; omega)).trans rfl)) ⟨_, rfl, rfl, Below.refl _ _⟩
    · have g15 : A.tmps.getD 22 undef = _ := I.val 15 (by decide) (hdep 15 (by kernel_rfl))
      have v16 : A.tmps.getD 23 undef = _ := I.val 16 (by decide) (hdep 16 (by kernel_rfl))
      exact wpOp_valW rfl (wanted_yes rfl rfl rfl (by rw [I.size]; simp) g15) (exec_ldB rfl v16 (cell_at HA.out.1 I.below 3 rfl)) ⟨_, rfl, rfl, Below.refl _ _⟩
    · have g15 : A.tmps.getD 22 undef = _ := I.val 15 (by decide) (hdep 15 (by kernel_rfl))
      exact wpOp_valW rfl (wanted_yes rfl rfl rfl (by rw [I.size]; simp) g15) (exec_f2 rfl ((I.other 3 (by intro j hj; omega)).trans rfl)) ⟨_, rfl, rfl, Below.refl _ _⟩
    · have g15 : A.tmps.getD 22 undef = _ := I.val 15 (by decide) (hdep 15 (by kernel_rfl))
      have v18 : A.tmps.getD 25 undef = _ := I.val 18 (by decide) (hdep 18 (by kernel_rfl))
      exact wpOp_valW rfl (wanted_yes rfl rfl rfl (by rw [I.size]; simp) g15) (exec_ldB rfl v18 (cell_at HA.out.2.1 I.below 3 rfl)) ⟨_, rfl, rfl, Below.refl _ _⟩
    · have g15 : A.tmps.getD 22 undef = _ := I.val 15 (by decide) (hdep 15 (by kernel_rfl))
      have v17 : A.tmps.getD 24 undef = _ := I.val 17 (by decide) (hdep 17 (by kernel_rfl))
      have v19 : A.tmps.getD 26 undef = _ := I.val 19 (by decide) (hdep 19 (by kernel_rfl))
      exact wpOp_valW rfl (wanted_yes rfl rfl rfl (by rw [I.size]; simp) g15) (exec_neqB rfl v17 v19) ⟨_, rfl, rfl, Below.refl _ _⟩
    · have v15 : A.tmps.getD 22 undef = _ := I.val 15 (by decide) (hdep 15 (by kernel_rfl))
      have v20 : A.tmps.getD 27 undef = _ := I.val 20 (by decide) (hdep 20 (by kernel_rfl))
      exact wpOp_valW rfl (rfl) (exec_pickF rfl v15 v20) ⟨_, rfl, rfl, Below.refl _ _⟩
    · have v21 : A.tmps.getD 28 undef = _ := I.val 21 (by decide) (hdep 21 (by kernel_rfl))
      exact wpOp_valW rfl (rfl) (exec_moveV rfl v21) ⟨_, rfl, rfl, Below.refl _ _⟩
    · have g22 : A.tmps.getD 29 undef = _ := I.val 22 (by decide) (hdep 22 (by kernel_rfl))
      exact wpOp_valW rfl (wanted_yes rfl rfl rfl (by rw [I.size]; simp) g22) (exec_f3 rfl ((I.other 2 (by intro j hj; omega)).trans rfl)) ⟨_, rfl, rfl, Below.refl _ _⟩
    · have g22 : A.tmps.getD 29 undef = _ := I.val 22 (by decide) (hdep 22 (by kernel_rfl))
      have v23 : A.tmps.getD 30 undef = _ := I.val 23 (by decide) (hdep 23 (by kernel_rfl))
      exact wpOp_valW rfl (wanted_yes rfl rfl rfl (by rw [I.size]; simp) g22) (exec_ldT rfl v23 (cell_at HA.out.1 I.below 4 rfl)) ⟨_, rfl, rfl, Below.refl _ _⟩
    · have g22 : A.tmps.getD 29 undef = _ := I.val 22 (by decide) (hdep 22 (by kernel_rfl))
      exact wpOp_valW rfl (wanted_yes rfl rfl rfl (by rw [I.size]; simp) g22) (exec_f3 rfl ((I.other 3 (by intro j hj; omega)).trans rfl)) ⟨_, rfl, rfl, Below.refl _ _⟩
    · have g22 : A.tmps.getD 29 undef = _ := I.val 22 (by decide) (hdep 22 (by kernel_rfl))
      have v25 : A.tmps.getD 32 undef = _ := I.val 25 (by decide) (hdep 25 (by kernel_rfl))
      exact wpOp_valW rfl (wanted_yes rfl rfl rfl (by rw [I.size]; simp) g22) (exec_ldT rfl v25 (cell_at HA.out.2.1 I.below 4 rfl)) ⟨_, rfl, rfl, Below.refl _ _⟩
    · have g22 : A.tmps.getD 29 undef = _ := I.val 22 (by decide) (hdep 22 (by kernel_rfl))
      have v24 : A.tmps.getD 31 undef = _ := I.val 24 (by decide) (hdep 24 (by kernel_rfl))
      have v26 : A.tmps.getD 33 undef = _ := I.val 26 (by decide) (hdep 26 (by kernel_rfl))
      exact wpOp_valW rfl (wanted_yes rfl rfl rfl (by rw [I.size]; simp) g22) (exec_neqT rfl v24 v26) ⟨_, rfl, rfl, Below.refl _ _⟩
    · have v22 : A.tmps.getD 29 undef = _ := I.val 22 (by decide) (hdep 22 (by kernel_rfl))
      have v27 : A.tmps.getD 34 undef = _ := I.val 27 (by decide) (hdep 27 (by kernel_rfl))
      exact wpOp_valW rfl (rfl) (exec_pickF rfl v22 v27) ⟨_, rfl, rfl, Below.refl _ _⟩
    · have v28 : A.tmps.getD 35 undef = _ := I.val 28 (by decide) (hdep 28 (by kernel_rfl))
      exact wpOp_valW rfl (rfl) (exec_moveV rfl v28) ⟨_, rfl, rfl, Below.refl _ _⟩
    · have g29 : A.tmps.getD 36 undef = _ := I.val 29 (by decide) (hdep 29 (by kernel_rfl))
      exact wpOp_valW rfl (wanted_yes rfl rfl rfl (by rw [I.size]; simp) g29) (exec_f4 rfl ((I.other 2 (by intro j hj; omega)).trans rfl)) ⟨_, rfl, rfl, Below.refl _ _⟩
    · have g29 : A.tmps.getD 36 undef = _ := I.val 29 (by decide) (hdep 29 (by kernel_rfl))
      have v30 : A.tmps.getD 37 undef = _ := I.val 30 (by decide) (hdep 30 (by kernel_rfl))
      exact wpOp_valW rfl (wanted_yes rfl rfl rfl (by rw [I.size]; simp) g29) (exec_ldS rfl v30 (cell_at HA.out.1 I.below 5 rfl)) ⟨_, rfl, rfl, Below.refl _ _⟩
    · have g29 : A.tmps.getD 36 undef = _ := I.val 29 (by decide) (hdep 29 (by kernel_rfl))
      have v31 : A.tmps.getD 38 undef = _ := I.val 31 (by decide) (hdep 31 (by kernel_rfl))
      exact wpOp_valW rfl (wanted_yes rfl rfl rfl (by rw [I.size]; simp) g29) (exec_lenS rfl v31) ⟨_, rfl, rfl, Below.refl _ _⟩
    · have g29 : A.tmps.getD 36 undef = _ := I.val 29 (by decide) (hdep 29 (by kernel_rfl))
      exact wpOp_valW rfl (wanted_yes rfl rfl rfl (by rw [I.size]; simp) g29) (exec_f4 rfl ((I.other 3 (by intro j hj; omega)).trans rfl)) ⟨_, rfl, rfl, Below.refl _ _⟩
    · have g29 : A.tmps.getD 36 undef = _ := I.val 29 (by decide) (hdep 29 (by kernel_rfl))
      have v33 : A.tmps.getD 40 undef = _ := I.val 33 (by decide) (hdep 33 (by kernel_rfl))
      exact wpOp_valW rfl (wanted_yes rfl rfl rfl (by rw [I.size]; simp) g29) (exec_ldS rfl v33 (cell_at HA.out.2.1 I.below 5 rfl)) ⟨_, rfl, rfl, Below.refl _ _⟩
    · have g29 : A.tmps.getD 36 undef = _ := I.val 29 (by decide) (hdep 29 (by kernel_rfl))
      have v34 : A.tmps.getD 41 undef = _ := I.val 34 (by decide) (hdep 34 (by kernel_rfl))
      exact wpOp_valW rfl (wanted_yes rfl rfl rfl (by rw [I.size]; simp) g29) (exec_lenS rfl v34) ⟨_, rfl, rfl, Below.refl _ _⟩
    · have g29 : A.tmps.getD 36 undef = _ := I.val 29 (by decide) (hdep 29 (by kernel_rfl))
      have v32 : A.tmps.getD 39 undef = _ := I.val 32 (by decide) (hdep 32 (by kernel_rfl))
      have v35 : A.tmps.getD 42 undef = _ := I.val 35 (by decide) (hdep 35 (by kernel_rfl))
      exact wpOp_valW rfl (wanted_yes rfl rfl rfl (by rw [I.size]; simp) g29) (exec_neqI rfl v32 v35) ⟨_, rfl, rfl, Below.refl _ _⟩
    · have v29 : A.tmps.getD 36 undef = _ := I.val 29 (by decide) (hdep 29 (by kernel_rfl))
      have v36 : A.tmps.getD 43 undef = _ := I.val 36 (by decide) (hdep 36 (by kernel_rfl))
      exact wpOp_valW rfl (rfl) (exec_pickF rfl v29 v36) ⟨_, rfl, rfl, Below.refl _ _⟩
    · have v37 : A.tmps.getD 44 undef = _ := I.val 37 (by decide) (hdep 37 (by kernel_rfl))
      exact wpOp_valW rfl (rfl) (exec_moveV rfl v37) ⟨_, rfl, rfl, Below.refl _ _⟩
    · have g38 : A.tmps.getD 45 undef = _ := I.val 38 (by decide) (hdep 38 (by kernel_rfl))
      exact wpOp_valW rfl (wanted_yes rfl rfl rfl (by rw [I.size]; simp) g38) (exec_f5 rfl ((I.other 2 (by intro j hj; omega)).trans rfl)) ⟨_, rfl, rfl, Below.refl _ _⟩
    · have g38 : A.tmps.getD 45 undef = _ := I.val 38 (by decide) (hdep 38 (by kernel_rfl))
      have v39 : A.tmps.getD 46 undef = _ := I.val 39 (by decide) (hdep 39 (by kernel_rfl))
      exact wpOp_valW rfl (wanted_yes rfl rfl rfl (by rw [I.size]; simp) g38) (exec_ldS rfl v39 (cell_at HA.out.1 I.below 6 rfl)) ⟨_, rfl, rfl, Below.refl _ _⟩
    · have g38 : A.tmps.getD 45 undef = _ := I.val 38 (by decide) (hdep 38 (by kernel_rfl))
      have v40 : A.tmps.getD 47 undef = _ := I.val 40 (by decide) (hdep 40 (by kernel_rfl))
      exact wpOp_valW rfl (wanted_yes rfl rfl rfl (by rw [I.size]; simp) g38) (exec_lenS rfl v40) ⟨_, rfl, rfl, Below.refl _ _⟩
    · have g38 : A.tmps.getD 45 undef = _ := I.val 38 (by decide) (hdep 38 (by kernel_rfl))
      exact wpOp_valW rfl (wanted_yes rfl rfl rfl (by rw [I.size]; simp) g38) (exec_f5 rfl ((I.other 3 (by intro j hj; omega)).trans rfl)) ⟨_, rfl, rfl, Below.refl _ _⟩
    · have g38 : A.tmps.getD 45 undef = _ := I.val 38 (by decide) (hdep 38 (by kernel_rfl))
      have v42 : A.tmps.getD 49 undef = _ := I.val 42 (by decide) (hdep 42 (by kernel_rfl))
      exact wpOp_valW rfl (wanted_yes rfl rfl rfl (by rw [I.size]; simp) g38) (exec_ldS rfl v42 (cell_at HA.out.2.1 I.below 6 rfl)) ⟨_, rfl, rfl, Below.refl _ _⟩
    · have g38 : A.tmps.getD 45 undef = _ := I.val 38 (by decide) (hdep 38 (by kernel_rfl))
      have v43 : A.tmps.getD 50 undef = _ := I.val 43 (by decide) (hdep 43 (by kernel_rfl))
      exact wpOp_valW rfl (wanted_yes rfl rfl rfl (by rw [I.size]; simp) g38) (exec_lenS rfl v43) ⟨_, rfl, rfl, Below.refl _ _⟩
    · have g38 : A.tmps.getD 45 undef = _ := I.val 38 (by decide) (hdep 38 (by kernel_rfl))
      have v41 : A.tmps.getD 48 undef = _ := I.val 41 (by decide) (hdep 41 (by kernel_rfl))
      have v44 : A.tmps.getD 51 undef = _ := I.val 44 (by decide) (hdep 44 (by kernel_rfl))
      exact wpOp_valW rfl (wanted_yes rfl rfl rfl (by rw [I.size]; simp) g38) (exec_neqI rfl v41 v44) ⟨_, rfl, rfl, Below.refl _ _⟩
    · have v38 : A.tmps.getD 45 undef = _ := I.val 38 (by decide) (hdep 38 (by kernel_rfl))
      have v45 : A.tmps.getD 52 undef = _ := I.val 45 (by decide) (hdep 45 (by kernel_rfl))
      exact wpOp_valW rfl (rfl) (exec_pickF rfl v38 v45) ⟨_, rfl, rfl, Below.refl _ _⟩
  intro A w9 hdf hsz hoth hval hb9
  have v0 : A.tmps.getD 7 undef = _ := hval 0 (by decide)
  have v1 : A.tmps.getD 8 undef = _ := hval 1 (by decide)
  have v2 : A.tmps.getD 9 undef = _ := hval 2 (by decide)
  have v3 : A.tmps.getD 10 undef = _ := hval 3 (by decide)
  have v4 : A.tmps.getD 11 undef = _ := hval 4 (by decide)
  have v5 : A.tmps.getD 12 undef = _ := hval 5 (by decide)
  have v6 : A.tmps.getD 13 undef = _ := hval 6 (by decide)
  have v7 : A.tmps.getD 14 undef = _ := hval 7 (by decide)
  obtain ⟨u8, v8⟩ : ∃ u, A.tmps.getD 15 undef = u := ⟨_, rfl⟩
  have v9 : A.tmps.getD 16 undef = _ := hval 9 (by decide)
  have v10 : A.tmps.getD 17 undef = _ := hval 10 (by decide)
  obtain ⟨u11, v11⟩ : ∃ u, A.tmps.getD 18 undef = u := ⟨_, rfl⟩
  have v12 : A.tmps.getD 19 undef = _ := hval 12 (by decide)
  have v13 : A.tmps.getD 20 undef = _ := hval 13 (by decide)
  have v14 : A.tmps.getD 21 undef = _ := hval 14 (by decide)
  have v15 : A.tmps.getD 22 undef = _ := hval 15 (by decide)
  have v16 : A.tmps.getD 23 undef = _ := hval 16 (by decide)
  have v17 : A.tmps.getD 24 undef = _ := hval 17 (by decide)
  have v18 : A.tmps.getD 25 undef = _ := hval 18 (by decide)
  have v19 : A.tmps.getD 26 undef = _ := hval 19 (by decide)
  have v20 : A.tmps.getD 27 undef = _ := hval 20 (by decide)
  have v21 : A.tmps.getD 28 undef = _ := hval 21 (by decide)
  have v22 : A.tmps.getD 29 undef = _ := hval 22 (by decide)
  have v23 : A.tmps.getD 30 undef = _ := hval 23 (by decide)
  have v24 : A.tmps.getD 31 undef = _ := hval 24 (by decide)
  have v25 : A.tmps.getD 32 undef = _ := hval 25 (by decide)
  have v26 : A.tmps.getD 33 undef = _ := hval 26 (by decide)
  have v27 : A.tmps.getD 34 undef = _ := hval 27 (by decide)
  have v28 : A.tmps.getD 35 undef = _ := hval 28 (by decide)
  have v29 : A.tmps.getD 36 undef = _ := hval 29 (by decide)
  have v30 : A.tmps.getD 37 undef = _ := hval 30 (by decide)
  have v31 : A.tmps.getD 38 undef = _ := hval 31 (by decide)
  have v32 : A.tmps.getD 39 undef = _ := hval 32 (by decide)
  have v33 : A.tmps.getD 40 undef = _ := hval 33 (by decide)
  have v34 : A.tmps.getD 41 undef = _ := hval 34 (by decide)
  have v35 : A.tmps.getD 42 undef = _ := hval 35 (by decide)
  have v36 : A.tmps.getD 43 undef = _ := hval 36 (by decide)
  have v37 : A.tmps.getD 44 undef = _ := hval 37 (by decide)
  have v38 : A.tmps.getD 45 undef = _ := hval 38 (by decide)
  have v39 : A.tmps.getD 46 undef = _ := hval 39 (by decide)
  have v40 : A.tmps.getD 47 undef = _ := hval 40 (by decide)
  have v41 : A.tmps.getD 48 undef = _ := hval 41 (by decide)
  have v42 : A.tmps.getD 49 undef = _ := hval 42 (by decide)
  have v43 : A.tmps.getD 50 undef = _ := hval 43 (by decide)
  have v44 : A.tmps.getD 51 undef = _ := hval 44 (by decide)
  have v45 : A.tmps.getD 52 undef = _ := hval 45 (by decide)
  have v46 : A.tmps.getD 53 undef = _ := hval 46 (by decide)
  have hA := tower_pairs (a := A) [(7, .pointer (some ⟨w.heap.size, 0, none⟩)), (8, .int .i64 k), (9, .pointer (some ⟨w.heap.size + 1, 0, none⟩)), (10, .int .i64 k), (11, .bool false), (12, .bool false), (13, .pointer (some ⟨w.heap.size, 1, none⟩)), (14, .agg #[.bool g, .slice la ln lc]), (15, u8), (16, .pointer (some ⟨w.heap.size + 1, 1, none⟩)), (17, .agg #[.bool g, .slice la' ln' lc']), (18, u11), (19, .bool true), (20, .bool false), (21, .bool false), (22, .bool false), (23, .pointer (some ⟨w.heap.size, 3, none⟩)), (24, .bool bb), (25, .pointer (some ⟨w.heap.size + 1, 3, none⟩)), (26, .bool bb), (27, .bool false), (28, .bool false), (29, .bool false), (30, .pointer (some ⟨w.heap.size, 4, none⟩)), (31, .string s), (32, .pointer (some ⟨w.heap.size + 1, 4, none⟩)), (33, .string s), (34, .bool false), (35, .bool false), (36, .bool false), (37, .pointer (some ⟨w.heap.size, 5, none⟩)), (38, .slice ia n ic), (39, .int .i64 n), (40, .pointer (some ⟨w.heap.size + 1, 5, none⟩)), (41, .slice ia' n ic'), (42, .int .i64 n), (43, .bool false), (44, .bool false), (45, .bool false), (46, .pointer (some ⟨w.heap.size, 6, none⟩)), (47, .slice ta m tc), (48, .int .i64 m), (49, .pointer (some ⟨w.heap.size + 1, 6, none⟩)), (50, .slice ta' m tc'), (51, .int .i64 m), (52, .bool false), (53, .bool false)] ?_ ?_ hdf hsz (fun m hm => hoth m (fun j hj => by
    simp only [List.forall_mem_cons] at hm
    obtain ⟨k0, k1, k2, k3, k4, k5, k6, k7, k8, k9, k10, k11, k12, k13, k14, k15, k16, k17, k18, k19, k20, k21, k22, k23, k24, k25, k26, k27, k28, k29, k30, k31, k32, k33, k34, k35, k36, k37, k38, k39, k40, k41, k42, k43, k44, k45, k46, -⟩ := hm
    rcases (show j = 0 ∨ j = 1 ∨ j = 2 ∨ j = 3 ∨ j = 4 ∨ j = 5 ∨ j = 6 ∨ j = 7 ∨ j = 8 ∨ j = 9 ∨ j = 10 ∨ j = 11 ∨ j = 12 ∨ j = 13 ∨ j = 14 ∨ j = 15 ∨ j = 16 ∨ j = 17 ∨ j = 18 ∨ j = 19 ∨ j = 20 ∨ j = 21 ∨ j = 22 ∨ j = 23 ∨ j = 24 ∨ j = 25 ∨ j = 26 ∨ j = 27 ∨ j = 28 ∨ j = 29 ∨ j = 30 ∨ j = 31 ∨ j = 32 ∨ j = 33 ∨ j = 34 ∨ j = 35 ∨ j = 36 ∨ j = 37 ∨ j = 38 ∨ j = 39 ∨ j = 40 ∨ j = 41 ∨ j = 42 ∨ j = 43 ∨ j = 44 ∨ j = 45 ∨ j = 46 by omega) with rfl | rfl | rfl | rfl | rfl | rfl | rfl | rfl | rfl | rfl | rfl | rfl | rfl | rfl | rfl | rfl | rfl | rfl | rfl | rfl | rfl | rfl | rfl | rfl | rfl | rfl | rfl | rfl | rfl | rfl | rfl | rfl | rfl | rfl | rfl | rfl | rfl | rfl | rfl | rfl | rfl | rfl | rfl | rfl | rfl | rfl | rfl
    · exact k0
    · exact k1
    · exact k2
    · exact k3
    · exact k4
    · exact k5
    · exact k6
    · exact k7
    · exact k8
    · exact k9
    · exact k10
    · exact k11
    · exact k12
    · exact k13
    · exact k14
    · exact k15
    · exact k16
    · exact k17
    · exact k18
    · exact k19
    · exact k20
    · exact k21
    · exact k22
    · exact k23
    · exact k24
    · exact k25
    · exact k26
    · exact k27
    · exact k28
    · exact k29
    · exact k30
    · exact k31
    · exact k32
    · exact k33
    · exact k34
    · exact k35
    · exact k36
    · exact k37
    · exact k38
    · exact k39
    · exact k40
    · exact k41
    · exact k42
    · exact k43
    · exact k44
    · exact k45
    · exact k46))
  rotate_left
  · intro p hp
    simp only [List.mem_cons, List.not_mem_nil, or_false] at hp
    rcases hp with rfl | rfl | rfl | rfl | rfl | rfl | rfl | rfl | rfl | rfl | rfl | rfl | rfl | rfl | rfl | rfl | rfl | rfl | rfl | rfl | rfl | rfl | rfl | rfl | rfl | rfl | rfl | rfl | rfl | rfl | rfl | rfl | rfl | rfl | rfl | rfl | rfl | rfl | rfl | rfl | rfl | rfl | rfl | rfl | rfl | rfl | rfl <;> simp
  · intro p hp
    simp only [List.mem_cons, List.not_mem_nil, or_false] at hp
    rcases hp with rfl | rfl | rfl | rfl | rfl | rfl | rfl | rfl | rfl | rfl | rfl | rfl | rfl | rfl | rfl | rfl | rfl | rfl | rfl | rfl | rfl | rfl | rfl | rfl | rfl | rfl | rfl | rfl | rfl | rfl | rfl | rfl | rfl | rfl | rfl | rfl | rfl | rfl | rfl | rfl | rfl | rfl | rfl | rfl | rfl | rfl | rfl
    · exact v0
    · exact v1
    · exact v2
    · exact v3
    · exact v4
    · exact v5
    · exact v6
    · exact v7
    · exact v8
    · exact v9
    · exact v10
    · exact v11
    · exact v12
    · exact v13
    · exact v14
    · exact v15
    · exact v16
    · exact v17
    · exact v18
    · exact v19
    · exact v20
    · exact v21
    · exact v22
    · exact v23
    · exact v24
    · exact v25
    · exact v26
    · exact v27
    · exact v28
    · exact v29
    · exact v30
    · exact v31
    · exact v32
    · exact v33
    · exact v34
    · exact v35
    · exact v36
    · exact v37
    · exact v38
    · exact v39
    · exact v40
    · exact v41
    · exact v42
    · exact v43
    · exact v44
    · exact v45
    · exact v46
  clear v0 v1 v2 v3 v4 v5 v6 v7 v8 v9 v10 v11 v12 v13 v14 v15 v16 v17 v18 v19 v20 v21 v22 v23 v24 v25 v26 v27 v28 v29 v30 v31 v32 v33 v34 v35 v36 v37 v38 v39 v40 v41 v42 v43 v44 v45 v46 hval hoth hsz hdf
  subst hA
  simp only [List.foldl, Act.put, List.setIfInBounds_toArray, List.set_cons_zero, List.set_cons_succ]
  show wpOps _ _ _ [] _ _
  simp only [wpOps]
  have q5 := cell_at HA.out.1 hb9 5 rfl
  have HB9 := Lib.hid hb9
  clear hb9
  go_wp2_with fail
  clear q5
  go_loopw [57] (fun i wr => ∃ q : Nat, q ≤ n ∧ i = .int .i64 q ∧ Below w2.heap.size w2 wr) (fun i _ => n - (intOf i).toNat)
  case atStart => exact ⟨0, Nat.zero_le _, rfl, HB9.out⟩
  case round =>
    obtain ⟨q, hq, rfl, hb2⟩ := hrel
    by_cases hlt : q < n
    · obtain ⟨ab, ao, hae, hR1⟩ : ∃ ab ao, ia = some ⟨ab, ao, none⟩ ∧ LiesR w M items ab ao := ⟨_, _, (HH.out.1.1.2.2.1 (by omega)).1, HH.out.1.2.2.1⟩
      subst hae
      obtain ⟨cb, co, hce, hR2⟩ : ∃ ab ao, ia' = some ⟨ab, ao, none⟩ ∧ LiesR w M items' ab ao := ⟨_, _, (HH.out.2.1.2.2.1 (by omega)).1, HH.out.2.2.2.1⟩
      subst hce
      have hq2 : q < items'.length := by omega
      have hq1 : q < items.length := by omega
      obtain ⟨_, hcx, hhx⟩ := lies_held.1 ((liesR_iff _ _ _).1 hR1 q hq1)
      obtain ⟨_, hcy, hhy⟩ := lies_held.1 ((liesR_iff _ _ _).1 hR2 q hq2)
      have hsz := size_in items q hq1
      have hsh := shapes_nth HS.out.1 q hq1 hq2
      have htx := tameR_at items q hq1 HT.out.1.1
      have hty := tameR_at items' q hq2 HT.out.2.1
      obtain ⟨x, hx⟩ : ∃ x, items[q] = x := ⟨_, rfl⟩
      obtain ⟨y, hy⟩ : ∃ y, items'[q] = y := ⟨_, rfl⟩
      rw [hx] at hcx hhx hsz hsh htx
      rw [hy] at hcy hhy hsh hty
      rw [Nat.mul_comm 7 q] at hcx hcy
      have hbw2 : Below w.heap.size w wr := HA.out.2.2.2.trans (hb2.mono HA.out.2.2.2.size)
      have HX := Lib.hid (And.intro (seven_below (w' := wr) hcx (by have := (lies_held.1 ((liesR_iff _ _ _).1 hR1 q hq1)).1; omega) hbw2) (And.intro (seven_below (w' := wr) hcy (by have := (lies_held.1 ((liesR_iff _ _ _).1 hR2 q hq2)).1; omega) hbw2) (fun W (hb : Below wr.heap.size wr W) => IH.out x y (by omega) hsh htx hty W (by have := hbw2.size; have := hb.size; omega) ((hhx.below hM hbw2).below (by have := hbw2.size; omega) hb) ((hhy.below hM hbw2).below (by have := hbw2.size; omega) hb))))
      clear hcx hhx hcy hhy hsz hsh htx hty hx hy hR1 hR2 hq1 hq2
      go_wp2_with fail
      refine wp_region_phases (nA := 12) (by kernel_rfl) (by kernel_rfl) (fun i => 60 + i)
        (fun i W v => match i with
          | 0 => v = .pointer (some ⟨w.heap.size, 5, none⟩)
          | 1 => v = .slice (some ⟨ab, ao, none⟩) n ic
          | 2 => v = .int .i64 (q : Nat)
          | 3 => v = .pointer (some ⟨ab, ao + q * 7, none⟩)
          | 4 => v = .agg #[.int .i64 x.k, .bool x.g, .slice x.la x.ln x.lc, .bool x.bb, .string x.s, .slice x.ia x.items.length x.ic, .slice x.ta x.tail.length x.tc]
          | 5 => v = .pointer (some ⟨w.heap.size + 1, 5, none⟩)
          | 6 => v = .slice (some ⟨cb, co, none⟩) n ic'
          | 7 => v = .int .i64 (q : Nat)
          | 8 => v = .pointer (some ⟨cb, co + q * 7, none⟩)
          | 9 => v = .agg #[.int .i64 y.k, .bool y.g, .slice y.la y.ln y.lc, .bool y.bb, .string y.s, .slice y.ia y.items.length y.ic, .slice y.ta y.tail.length y.tc]
          | 10 => v = .bool true
          | _ => v = .bool false) (by decide) (by kernel_rfl)
        (fun i j hi hj h => by omega) (fun i hi => by simp only [List.size_toArray, List.length_cons, List.length_nil]; omega) ?_ ?_ ?_
      · intro i hi W W' v h hb
        rcases (show i = 0 ∨ i = 1 ∨ i = 2 ∨ i = 3 ∨ i = 4 ∨ i = 5 ∨ i = 6 ∨ i = 7 ∨ i = 8 ∨ i = 9 ∨ i = 10 ∨ i = 11 by omega) with rfl | rfl | rfl | rfl | rfl | rfl | rfl | rfl | rfl | rfl | rfl | rfl
        · exact h
        · exact h
        · exact h
        · exact h
        · exact h
        · exact h
        · exact h
        · exact h
        · exact h
        · exact h
        · exact h
        · exact h
      · intro i hi l A W I hdep
        rcases (show i = 0 ∨ i = 1 ∨ i = 2 ∨ i = 3 ∨ i = 4 ∨ i = 5 ∨ i = 6 ∨ i = 7 ∨ i = 8 ∨ i = 9 ∨ i = 10 ∨ i = 11 by omega) with rfl | rfl | rfl | rfl | rfl | rfl | rfl | rfl | rfl | rfl | rfl | rfl
        · exact wpOp_valW rfl (rfl) (exec_f4 rfl ((I.other 2 (by intro j hj; omega)).trans rfl)) ⟨_, rfl, rfl, Below.refl _ _⟩
        · have v0 : A.tmps.getD 60 undef = _ := I.val 0 (by decide) (hdep 0 (by kernel_rfl))
          exact wpOp_valW rfl (rfl) (exec_ldS rfl v0 (cell_at HA.out.1 (hb2.trans (I.below.mono hb2.size)) 5 rfl)) ⟨_, rfl, rfl, Below.refl _ _⟩
        · exact wpOp_valW rfl (rfl) (exec_moveV rfl ((I.other 5 (by intro j hj; omega)).trans rfl)) ⟨_, rfl, rfl, Below.refl _ _⟩
        · have v1 : A.tmps.getD 61 undef = _ := I.val 1 (by decide) (hdep 1 (by kernel_rfl))
          have v2 : A.tmps.getD 62 undef = _ := I.val 2 (by decide) (hdep 2 (by kernel_rfl))
          exact wpOp_valW rfl (rfl) (exec_ixq rfl v1 v2 hlt) ⟨_, rfl, rfl, Below.refl _ _⟩
        · have v3 : A.tmps.getD 63 undef = _ := I.val 3 (by decide) (hdep 3 (by kernel_rfl))
          exact wpOp_valW rfl (rfl) (exec_loadD rfl v3 (seven_keep HX.out.1 I.below)) ⟨_, rfl, rfl, Below.refl _ _⟩
        · exact wpOp_valW rfl (rfl) (exec_f4 rfl ((I.other 3 (by intro j hj; omega)).trans rfl)) ⟨_, rfl, rfl, Below.refl _ _⟩
        · have v5 : A.tmps.getD 65 undef = _ := I.val 5 (by decide) (hdep 5 (by kernel_rfl))
          exact wpOp_valW rfl (rfl) (exec_ldS rfl v5 (cell_at HA.out.2.1 (hb2.trans (I.below.mono hb2.size)) 5 rfl)) ⟨_, rfl, rfl, Below.refl _ _⟩
        · exact wpOp_valW rfl (rfl) (exec_moveV rfl ((I.other 5 (by intro j hj; omega)).trans rfl)) ⟨_, rfl, rfl, Below.refl _ _⟩
        · have v6 : A.tmps.getD 66 undef = _ := I.val 6 (by decide) (hdep 6 (by kernel_rfl))
          have v7 : A.tmps.getD 67 undef = _ := I.val 7 (by decide) (hdep 7 (by kernel_rfl))
          exact wpOp_valW rfl (rfl) (exec_ixq rfl v6 v7 hlt) ⟨_, rfl, rfl, Below.refl _ _⟩
        · have v8 : A.tmps.getD 68 undef = _ := I.val 8 (by decide) (hdep 8 (by kernel_rfl))
          exact wpOp_valW rfl (rfl) (exec_loadD rfl v8 (seven_keep HX.out.2.1 I.below)) ⟨_, rfl, rfl, Below.refl _ _⟩
        · have v4 : A.tmps.getD 64 undef = _ := I.val 4 (by decide) (hdep 4 (by kernel_rfl))
          have v9 : A.tmps.getD 69 undef = _ := I.val 9 (by decide) (hdep 9 (by kernel_rfl))
          refine wpOp_callW rfl (rfl) ((exec_call2 rfl).trans (by rw [v4, v9])) (by simp [go_sem]) (HX.out.2.2 W I.below) ?_
          rintro e W' ⟨rfl, b⟩
          exact ⟨_, rfl, _, rfl, rfl, b⟩
        · have v10 : A.tmps.getD 70 undef = _ := I.val 10 (by decide) (hdep 10 (by kernel_rfl))
          exact wpOp_valW rfl (rfl) (exec_not rfl v10) ⟨_, rfl, rfl, Below.refl _ _⟩
      intro A w9 hdf hsz hoth hval hb9
      have v0 : A.tmps.getD 60 undef = _ := hval 0 (by decide)
      have v1 : A.tmps.getD 61 undef = _ := hval 1 (by decide)
      have v2 : A.tmps.getD 62 undef = _ := hval 2 (by decide)
      have v3 : A.tmps.getD 63 undef = _ := hval 3 (by decide)
      have v4 : A.tmps.getD 64 undef = _ := hval 4 (by decide)
      have v5 : A.tmps.getD 65 undef = _ := hval 5 (by decide)
      have v6 : A.tmps.getD 66 undef = _ := hval 6 (by decide)
      have v7 : A.tmps.getD 67 undef = _ := hval 7 (by decide)
      have v8 : A.tmps.getD 68 undef = _ := hval 8 (by decide)
      have v9 : A.tmps.getD 69 undef = _ := hval 9 (by decide)
      have v10 : A.tmps.getD 70 undef = _ := hval 10 (by decide)
      have v11 : A.tmps.getD 71 undef = _ := hval 11 (by decide)
      have hA := tower_pairs (a := A) [(60, .pointer (some ⟨w.heap.size, 5, none⟩)), (61, .slice (some ⟨ab, ao, none⟩) n ic), (62, .int .i64 (q : Nat)), (63, .pointer (some ⟨ab, ao + q * 7, none⟩)), (64, .agg #[.int .i64 x.k, .bool x.g, .slice x.la x.ln x.lc, .bool x.bb, .string x.s, .slice x.ia x.items.length x.ic, .slice x.ta x.tail.length x.tc]), (65, .pointer (some ⟨w.heap.size + 1, 5, none⟩)), (66, .slice (some ⟨cb, co, none⟩) n ic'), (67, .int .i64 (q : Nat)), (68, .pointer (some ⟨cb, co + q * 7, none⟩)), (69, .agg #[.int .i64 y.k, .bool y.g, .slice y.la y.ln y.lc, .bool y.bb, .string y.s, .slice y.ia y.items.length y.ic, .slice y.ta y.tail.length y.tc]), (70, .bool true), (71, .bool false)] ?_ ?_ hdf hsz (fun m hm => hoth m (fun j hj => by
        simp only [List.forall_mem_cons] at hm
        obtain ⟨k0, k1, k2, k3, k4, k5, k6, k7, k8, k9, k10, k11, -⟩ := hm
        rcases (show j = 0 ∨ j = 1 ∨ j = 2 ∨ j = 3 ∨ j = 4 ∨ j = 5 ∨ j = 6 ∨ j = 7 ∨ j = 8 ∨ j = 9 ∨ j = 10 ∨ j = 11 by omega) with rfl | rfl | rfl | rfl | rfl | rfl | rfl | rfl | rfl | rfl | rfl | rfl
        · exact k0
        · exact k1
        · exact k2
        · exact k3
        · exact k4
        · exact k5
        · exact k6
        · exact k7
        · exact k8
        · exact k9
        · exact k10
        · exact k11))
      rotate_left
      · intro p hp
        simp only [List.mem_cons, List.not_mem_nil, or_false] at hp
        rcases hp with rfl | rfl | rfl | rfl | rfl | rfl | rfl | rfl | rfl | rfl | rfl | rfl <;> simp
      · intro p hp
        simp only [List.mem_cons, List.not_mem_nil, or_false] at hp
        rcases hp with rfl | rfl | rfl | rfl | rfl | rfl | rfl | rfl | rfl | rfl | rfl | rfl
        · exact v0
        · exact v1
        · exact v2
        · exact v3
        · exact v4
        · exact v5
        · exact v6
        · exact v7
        · exact v8
        · exact v9
        · exact v10
        · exact v11
      clear v0 v1 v2 v3 v4 v5 v6 v7 v8 v9 v10 v11 hval hoth hsz hdf
      subst hA
      simp only [List.foldl, Act.put, List.setIfInBounds_toArray, List.set_cons_zero, List.set_cons_succ]
      show wpOps _ _ _ [] _ _
      simp only [wpOps]
      have hb9' := hb2.trans (hb9.mono hb2.size)
      clear hb9 hb2 hbw2
      go_wp2_with fail
      go_roundw
      case rel => exact ⟨q + 1, by omega, by go_num, hb9'⟩
      case measure => simp [intOf]; omega
    · have q6 := cell_at HA.out.1 hb2 6 rfl
      have HB2 := Lib.hid hb2
      clear hb2
      go_wp2_with fail
      clear q6 hlt
      go_loopw [76] (fun i wr => ∃ q : Nat, q ≤ m ∧ i = .int .i64 q ∧ Below w2.heap.size w2 wr) (fun i _ => m - (intOf i).toNat)
      case atStart => exact ⟨0, Nat.zero_le _, rfl, HB2.out⟩
      case round =>
        obtain ⟨q, hq, rfl, hb2⟩ := hrel
        by_cases hlt : q < m
        · obtain ⟨ab, ao, hae, hR1⟩ : ∃ ab ao, ta = some ⟨ab, ao, none⟩ ∧ LiesR w M tail ab ao := ⟨_, _, (HH.out.1.2.1.2.2.1 (by omega)).1, HH.out.1.2.2.2⟩
          subst hae
          obtain ⟨cb, co, hce, hR2⟩ : ∃ ab ao, ta' = some ⟨ab, ao, none⟩ ∧ LiesR w M tail' ab ao := ⟨_, _, (HH.out.2.2.1.2.2.1 (by omega)).1, HH.out.2.2.2.2⟩
          subst hce
          have hq2 : q < tail'.length := by omega
          have hq1 : q < tail.length := by omega
          obtain ⟨_, hcx, hhx⟩ := lies_held.1 ((liesR_iff _ _ _).1 hR1 q hq1)
          obtain ⟨_, hcy, hhy⟩ := lies_held.1 ((liesR_iff _ _ _).1 hR2 q hq2)
          have hsz := size_in tail q hq1
          have hsh := shapes_nth HS.out.2 q hq1 hq2
          have htx := tameR_at tail q hq1 HT.out.1.2
          have hty := tameR_at tail' q hq2 HT.out.2.2
          obtain ⟨x, hx⟩ : ∃ x, tail[q] = x := ⟨_, rfl⟩
          obtain ⟨y, hy⟩ : ∃ y, tail'[q] = y := ⟨_, rfl⟩
          rw [hx] at hcx hhx hsz hsh htx
          rw [hy] at hcy hhy hsh hty
          rw [Nat.mul_comm 7 q] at hcx hcy
          have hbw2 : Below w.heap.size w wr := HA.out.2.2.2.trans (hb2.mono HA.out.2.2.2.size)
          have HX := Lib.hid (And.intro (seven_below (w' := wr) hcx (by have := (lies_held.1 ((liesR_iff _ _ _).1 hR1 q hq1)).1; omega) hbw2) (And.intro (seven_below (w' := wr) hcy (by have := (lies_held.1 ((liesR_iff _ _ _).1 hR2 q hq2)).1; omega) hbw2) (fun W (hb : Below wr.heap.size wr W) => IH.out x y (by omega) hsh htx hty W (by have := hbw2.size; have := hb.size; omega) ((hhx.below hM hbw2).below (by have := hbw2.size; omega) hb) ((hhy.below hM hbw2).below (by have := hbw2.size; omega) hb))))
          clear hcx hhx hcy hhy hsz hsh htx hty hx hy hR1 hR2 hq1 hq2
          go_wp2_with fail
          refine wp_region_phases (nA := 12) (by kernel_rfl) (by kernel_rfl) (fun i => 79 + i)
            (fun i W v => match i with
              | 0 => v = .pointer (some ⟨w.heap.size, 6, none⟩)
              | 1 => v = .slice (some ⟨ab, ao, none⟩) m tc
              | 2 => v = .int .i64 (q : Nat)
              | 3 => v = .pointer (some ⟨ab, ao + q * 7, none⟩)
              | 4 => v = .agg #[.int .i64 x.k, .bool x.g, .slice x.la x.ln x.lc, .bool x.bb, .string x.s, .slice x.ia x.items.length x.ic, .slice x.ta x.tail.length x.tc]
              | 5 => v = .pointer (some ⟨w.heap.size + 1, 6, none⟩)
              | 6 => v = .slice (some ⟨cb, co, none⟩) m tc'
              | 7 => v = .int .i64 (q : Nat)
              | 8 => v = .pointer (some ⟨cb, co + q * 7, none⟩)
              | 9 => v = .agg #[.int .i64 y.k, .bool y.g, .slice y.la y.ln y.lc, .bool y.bb, .string y.s, .slice y.ia y.items.length y.ic, .slice y.ta y.tail.length y.tc]
              | 10 => v = .bool true
              | _ => v = .bool false) (by decide) (by kernel_rfl)
            (fun i j hi hj h => by omega) (fun i hi => by simp only [List.size_toArray, List.length_cons, List.length_nil]; omega) ?_ ?_ ?_
          · intro i hi W W' v h hb
            rcases (show i = 0 ∨ i = 1 ∨ i = 2 ∨ i = 3 ∨ i = 4 ∨ i = 5 ∨ i = 6 ∨ i = 7 ∨ i = 8 ∨ i = 9 ∨ i = 10 ∨ i = 11 by omega) with rfl | rfl | rfl | rfl | rfl | rfl | rfl | rfl | rfl | rfl | rfl | rfl
            · exact h
            · exact h
            · exact h
            · exact h
            · exact h
            · exact h
            · exact h
            · exact h
            · exact h
            · exact h
            · exact h
            · exact h
          · intro i hi l A W I hdep
            rcases (show i = 0 ∨ i = 1 ∨ i = 2 ∨ i = 3 ∨ i = 4 ∨ i = 5 ∨ i = 6 ∨ i = 7 ∨ i = 8 ∨ i = 9 ∨ i = 10 ∨ i = 11 by omega) with rfl | rfl | rfl | rfl | rfl | rfl | rfl | rfl | rfl | rfl | rfl | rfl
            · exact wpOp_valW rfl (rfl) (exec_f5 rfl ((I.other 2 (by intro j hj; omega)).trans rfl)) ⟨_, rfl, rfl, Below.refl _ _⟩
            · have v0 : A.tmps.getD 79 undef = _ := I.val 0 (by decide) (hdep 0 (by kernel_rfl))
              exact wpOp_valW rfl (rfl) (exec_ldS rfl v0 (cell_at HA.out.1 (hb2.trans (I.below.mono hb2.size)) 6 rfl)) ⟨_, rfl, rfl, Below.refl _ _⟩
            · exact wpOp_valW rfl (rfl) (exec_moveV rfl ((I.other 6 (by intro j hj; omega)).trans rfl)) ⟨_, rfl, rfl, Below.refl _ _⟩
            · have v1 : A.tmps.getD 80 undef = _ := I.val 1 (by decide) (hdep 1 (by kernel_rfl))
              have v2 : A.tmps.getD 81 undef = _ := I.val 2 (by decide) (hdep 2 (by kernel_rfl))
              exact wpOp_valW rfl (rfl) (exec_ixq rfl v1 v2 hlt) ⟨_, rfl, rfl, Below.refl _ _⟩
            · have v3 : A.tmps.getD 82 undef = _ := I.val 3 (by decide) (hdep 3 (by kernel_rfl))
              exact wpOp_valW rfl (rfl) (exec_loadD rfl v3 (seven_keep HX.out.1 I.below)) ⟨_, rfl, rfl, Below.refl _ _⟩
            · exact wpOp_valW rfl (rfl) (exec_f5 rfl ((I.other 3 (by intro j hj; omega)).trans rfl)) ⟨_, rfl, rfl, Below.refl _ _⟩
            · have v5 : A.tmps.getD 84 undef = _ := I.val 5 (by decide) (hdep 5 (by kernel_rfl))
              exact wpOp_valW rfl (rfl) (exec_ldS rfl v5 (cell_at HA.out.2.1 (hb2.trans (I.below.mono hb2.size)) 6 rfl)) ⟨_, rfl, rfl, Below.refl _ _⟩
            · exact wpOp_valW rfl (rfl) (exec_moveV rfl ((I.other 6 (by intro j hj; omega)).trans rfl)) ⟨_, rfl, rfl, Below.refl _ _⟩
            · have v6 : A.tmps.getD 85 undef = _ := I.val 6 (by decide) (hdep 6 (by kernel_rfl))
              have v7 : A.tmps.getD 86 undef = _ := I.val 7 (by decide) (hdep 7 (by kernel_rfl))
              exact wpOp_valW rfl (rfl) (exec_ixq rfl v6 v7 hlt) ⟨_, rfl, rfl, Below.refl _ _⟩
            · have v8 : A.tmps.getD 87 undef = _ := I.val 8 (by decide) (hdep 8 (by kernel_rfl))
              exact wpOp_valW rfl (rfl) (exec_loadD rfl v8 (seven_keep HX.out.2.1 I.below)) ⟨_, rfl, rfl, Below.refl _ _⟩
            · have v4 : A.tmps.getD 83 undef = _ := I.val 4 (by decide) (hdep 4 (by kernel_rfl))
              have v9 : A.tmps.getD 88 undef = _ := I.val 9 (by decide) (hdep 9 (by kernel_rfl))
              refine wpOp_callW rfl (rfl) ((exec_call2 rfl).trans (by rw [v4, v9])) (by simp [go_sem]) (HX.out.2.2 W I.below) ?_
              rintro e W' ⟨rfl, b⟩
              exact ⟨_, rfl, _, rfl, rfl, b⟩
            · have v10 : A.tmps.getD 89 undef = _ := I.val 10 (by decide) (hdep 10 (by kernel_rfl))
              exact wpOp_valW rfl (rfl) (exec_not rfl v10) ⟨_, rfl, rfl, Below.refl _ _⟩
          intro A w9 hdf hsz hoth hval hb9
          have v0 : A.tmps.getD 79 undef = _ := hval 0 (by decide)
          have v1 : A.tmps.getD 80 undef = _ := hval 1 (by decide)
          have v2 : A.tmps.getD 81 undef = _ := hval 2 (by decide)
          have v3 : A.tmps.getD 82 undef = _ := hval 3 (by decide)
          have v4 : A.tmps.getD 83 undef = _ := hval 4 (by decide)
          have v5 : A.tmps.getD 84 undef = _ := hval 5 (by decide)
          have v6 : A.tmps.getD 85 undef = _ := hval 6 (by decide)
          have v7 : A.tmps.getD 86 undef = _ := hval 7 (by decide)
          have v8 : A.tmps.getD 87 undef = _ := hval 8 (by decide)
          have v9 : A.tmps.getD 88 undef = _ := hval 9 (by decide)
          have v10 : A.tmps.getD 89 undef = _ := hval 10 (by decide)
          have v11 : A.tmps.getD 90 undef = _ := hval 11 (by decide)
          have hA := tower_pairs (a := A) [(79, .pointer (some ⟨w.heap.size, 6, none⟩)), (80, .slice (some ⟨ab, ao, none⟩) m tc), (81, .int .i64 (q : Nat)), (82, .pointer (some ⟨ab, ao + q * 7, none⟩)), (83, .agg #[.int .i64 x.k, .bool x.g, .slice x.la x.ln x.lc, .bool x.bb, .string x.s, .slice x.ia x.items.length x.ic, .slice x.ta x.tail.length x.tc]), (84, .pointer (some ⟨w.heap.size + 1, 6, none⟩)), (85, .slice (some ⟨cb, co, none⟩) m tc'), (86, .int .i64 (q : Nat)), (87, .pointer (some ⟨cb, co + q * 7, none⟩)), (88, .agg #[.int .i64 y.k, .bool y.g, .slice y.la y.ln y.lc, .bool y.bb, .string y.s, .slice y.ia y.items.length y.ic, .slice y.ta y.tail.length y.tc]), (89, .bool true), (90, .bool false)] ?_ ?_ hdf hsz (fun m hm => hoth m (fun j hj => by
            simp only [List.forall_mem_cons] at hm
            obtain ⟨k0, k1, k2, k3, k4, k5, k6, k7, k8, k9, k10, k11, -⟩ := hm
            rcases (show j = 0 ∨ j = 1 ∨ j = 2 ∨ j = 3 ∨ j = 4 ∨ j = 5 ∨ j = 6 ∨ j = 7 ∨ j = 8 ∨ j = 9 ∨ j = 10 ∨ j = 11 by omega) with rfl | rfl | rfl | rfl | rfl | rfl | rfl | rfl | rfl | rfl | rfl | rfl
            · exact k0
            · exact k1
            · exact k2
            · exact k3
            · exact k4
            · exact k5
            · exact k6
            · exact k7
            · exact k8
            · exact k9
            · exact k10
            · exact k11))
          rotate_left
          · intro p hp
            simp only [List.mem_cons, List.not_mem_nil, or_false] at hp
            rcases hp with rfl | rfl | rfl | rfl | rfl | rfl | rfl | rfl | rfl | rfl | rfl | rfl <;> simp
          · intro p hp
            simp only [List.mem_cons, List.not_mem_nil, or_false] at hp
            rcases hp with rfl | rfl | rfl | rfl | rfl | rfl | rfl | rfl | rfl | rfl | rfl | rfl
            · exact v0
            · exact v1
            · exact v2
            · exact v3
            · exact v4
            · exact v5
            · exact v6
            · exact v7
            · exact v8
            · exact v9
            · exact v10
            · exact v11
          clear v0 v1 v2 v3 v4 v5 v6 v7 v8 v9 v10 v11 hval hoth hsz hdf
          subst hA
          simp only [List.foldl, Act.put, List.setIfInBounds_toArray, List.set_cons_zero, List.set_cons_succ]
          show wpOps _ _ _ [] _ _
          simp only [wpOps]
          have hb9' := hb2.trans (hb9.mono hb2.size)
          clear hb9 hb2 hbw2
          go_wp2_with fail
          go_roundw
          case rel => exact ⟨q + 1, by omega, by go_num, hb9'⟩
          case measure => simp [intOf]; omega
        · go_wp2_with fail
          go_ret
          exact ⟨rfl, hbw _ hb2⟩
theorem rs_any (M : Nat) : ∀ N : Nat, N ≤ 1000000 → SameTo M N
  | 0, _, u, _, hu, _, _, _, _, _, _, _ => by rw [u.size_eq] at hu; omega
  | N + 1, hN, u, t, hu, hs, hTu, hTt, w, hM, hU, hTt' => by
    have hsu := u.size_eq
    have hs' := hs
    rw [shape_eq, shape_eq] at hs'
    injection hs' with q1 q2 q3 q4 q5 q6 q7
    have l1 : t.items.length = u.items.length := by rw [← shapes_length t.items, ← q6, shapes_length]
    have l2 : t.tail.length = u.tail.length := by rw [← shapes_length t.tail, ← q7, shapes_length]
    obtain ⟨ta1, ta2, ta3⟩ := (tame_eq u).1 hTu
    obtain ⟨tb1, tb2, tb3⟩ := (tame_eq t).1 hTt
    have hv : val u.ys = val t.ys := by rw [q3]
    have hz : (limbs (zOf u.g (val u.ys)).natAbs).length ≤ 35184372087808 := by
      rw [zOf_abs]
      have := limbs_len_val hU.1.1.ok
      have e := hU.1.1.len
      omega
    have hU2 := hU.2
    have hT2 := hTt'.2
    rw [l1, l2] at hT2
    rw [← q1, ← q2, ← q4, ← q5, l1, l2]
    refine rs_walk M N (by omega) (rs_any M N (by omega)) u.k (zOf u.g (val u.ys)) u.g u.bb u.s u.la t.la u.ia t.ia u.ta t.ta u.ln t.ln u.lc t.lc _ _ u.ic t.ic u.tc t.tc u.items t.items u.tail t.tail w hM rfl l1 rfl l2 (by omega) (by omega) hz ⟨q6, q7⟩ ⟨⟨ta2, ta3⟩, tb2, tb3⟩ ⟨fun W hb => ?_, fun W hb => ?_⟩ ⟨hU2, hT2⟩
    · exact rwnorm_num (K := 35184372087808) ⟨u.g, _, val u.ys, rfl, ⟨u.la, u.ln, u.lc, u.ys, rfl, hU.1.1.below hb, rfl, ta1⟩, rfl⟩ (by decide)
    · exact rwnorm_num (K := 35184372087808) ⟨u.g, _, val u.ys, rfl, ⟨t.la, t.ln, t.lc, t.ys, rfl, hTt'.1.1.below hb, hv.symm, tb1⟩, rfl⟩ (by decide)
end Go.Proofs.YthdhdmmlmbkalaaGreatDoor
