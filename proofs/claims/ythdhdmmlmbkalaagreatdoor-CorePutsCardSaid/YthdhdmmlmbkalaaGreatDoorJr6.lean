/-
  datum.normal and datum.Norm of any tree (the plain seat: Held.below stands in Twd). datum.alike of two data of one shape: they are. datum.twin: its loop's steps, and what is left.
-/
import Derived.Test.YthdhdmmlmbkalaaGreatDoorRNgw
import Derived.Test.YthdhdmmlmbkalaaGreatDoorJr4
import Derived.Test.YthdhdmmlmbkalaaGreatDoorJr5
set_option linter.unusedVariables false
set_option linter.unusedSimpArgs false
set_option linter.unusedSectionVars false
set_option linter.unnecessarySimpa false
namespace Go.Proofs.YthdhdmmlmbkalaaGreatDoor
section
open Go.RowKit

end
end Go.Proofs.YthdhdmmlmbkalaaGreatDoor
namespace Go.Proofs.YthdhdmmlmbkalaaGreatDoor
section
open Go.RowKit

theorem size_in : ∀ (l : List LT) (k : Nat) (h : k < l.length), l[k].size ≤ sizes l
  | t :: l, 0, h => by simp only [List.getElem_cons_zero, sizes]; omega
  | t :: l, k + 1, h => by
    have := size_in l k (by simpa using h)
    simp only [List.getElem_cons_succ, sizes]
    omega
theorem shapes_len {l m : List LT} (h : shapes l = shapes m) : m.length = l.length := by rw [← shapes_length, ← h, shapes_length]
theorem shapes_nth {l m : List LT} (h : shapes l = shapes m) (k : Nat) (hk : k < l.length) (hm : k < m.length) : shape l[k] = shape m[k] := by
  have h1 := shapes_at l k hk
  rw [h, shapes_at m k hm] at h1
  exact (Option.some.inj h1).symm
def AlikeTo (M N : Nat) : Prop := ∀ a b : LT, a.size ≤ N → shape a = shape b → Tame a → Tame b → ∀ w : World, M ≤ w.heap.size → Held w M a → Held w M b → Calls Tryz.prog 70 #[.agg #[.int .i64 a.k, .bool a.g, .slice a.la a.ln a.lc, .bool a.bb, .string a.s, .slice a.ia a.items.length a.ic, .slice a.ta a.tail.length a.tc], .agg #[.int .i64 b.k, .bool b.g, .slice b.la b.ln b.lc, .bool b.bb, .string b.s, .slice b.ia b.items.length b.ic, .slice b.ta b.tail.length b.tc]] w fun e w' => e = .returned (.bool true) ∧ Below w.heap.size w w'

theorem H_of {M N n : Nat} (H : AlikeTo M N) (hn : n ≤ N) {x y : LT} (h1 : x.size ≤ n) (h2 : shape x = shape y) (h3 : Tame x) (h4 : Tame y) {w : World} (h5 : M ≤ w.heap.size) (h6 : Held w M x) (h7 : Held w M y) : Calls Tryz.prog 70 #[.agg #[.int .i64 x.k, .bool x.g, .slice x.la x.ln x.lc, .bool x.bb, .string x.s, .slice x.ia x.items.length x.ic, .slice x.ta x.tail.length x.tc], .agg #[.int .i64 y.k, .bool y.g, .slice y.la y.ln y.lc, .bool y.bb, .string y.s, .slice y.ia y.items.length y.ic, .slice y.ta y.tail.length y.tc]] w fun e w' => e = .returned (.bool true) ∧ Below w.heap.size w w' := H x y (Nat.le_trans h1 hn) h2 h3 h4 w h5 h6 h7

set_option maxRecDepth 100000 in
set_option maxHeartbeats 6400000 in
theorem equal_rows (M N : Nat) (H : AlikeTo M N) (l m : List LT) (hs : shapes l = shapes m) (hN : sizes l ≤ N) (hn : l.length ≤ 1000000000) (hTl : TameR l) (hTm : TameR m) (a1 a2 : Option Addr) (c1 c2 : Nat) (w : World) (hM : M ≤ w.heap.size)
    (hS1 : Spot M a1 l.length c1) (hS2 : Spot M a2 m.length c2) (hL1 : LiesR w M l (blk a1) (ofs a1)) (hL2 : LiesR w M m (blk a2) (ofs a2)) :
    Calls Tryz.prog 87 #[.slice a1 l.length c1, .slice a2 l.length c2, .func (.func 70) #[] #[]] w fun e w' => e = .returned (.bool true) ∧ Below w.heap.size w w' := by
  have hlen := shapes_len hs
  obtain ⟨B1, O1, hA1, hR1⟩ : ∃ B O, (0 < l.length → a1 = some ⟨B, O, none⟩ ∧ B < M) ∧ LiesR w M l B O := ⟨blk a1, ofs a1, hS1.2.2.1, hL1⟩
  obtain ⟨B2, O2, hA2, hR2⟩ : ∃ B O, (0 < m.length → a2 = some ⟨B, O, none⟩ ∧ B < M) ∧ LiesR w M m B O := ⟨blk a2, ofs a2, hS2.2.2.1, hL2⟩
  have HS := Lib.hid (And.intro hA1 (And.intro hR1 (And.intro hA2 (And.intro hR2 (And.intro hs hlen)))))
  have HT := Lib.hid (And.intro hTl (And.intro hTm (And.intro hS1 hS2)))
  have HH := Lib.hid H
  clear hA1 hR1 hA2 hR2 hs hlen hTl hTm hS1 hS2 hL1 hL2 H
  go_enter Tryz.func87, Tryz.ntmps87
  go_wp2_with fail
  go_loopw [17] (fun i wr => ∃ k : Nat, k ≤ l.length ∧ i = .int .i64 k ∧ Below w.heap.size w wr) (fun i _ => l.length - (intOf i).toNat)
  case atStart => exact ⟨0, Nat.zero_le _, rfl, Below.refl _ _⟩
  case round =>
    obtain ⟨k, hk, rfl, hb⟩ := hrel
    by_cases hlt : k < l.length
    · have hkm : k < m.length := by rw [HS.out.2.2.2.2.2]; exact hlt
      obtain ⟨rfl, hB1⟩ := HS.out.1 (by omega)
      obtain ⟨rfl, hB2⟩ := HS.out.2.2.1 (by omega)
      obtain ⟨_, hcx, hhx⟩ := lies_held.1 ((liesR_iff _ _ _).1 HS.out.2.1 k hlt)
      obtain ⟨_, hcy, hhy⟩ := lies_held.1 ((liesR_iff _ _ _).1 HS.out.2.2.2.1 k hkm)
      have hsz := size_in l k hlt
      have hsh := shapes_nth HS.out.2.2.2.2.1 k hlt hkm
      have htx := tameR_at l k hlt HT.out.1
      have hty := tameR_at m k hkm HT.out.2.1
      obtain ⟨x, hx⟩ : ∃ x, l[k] = x := ⟨_, rfl⟩
      obtain ⟨y, hy⟩ : ∃ y, m[k] = y := ⟨_, rfl⟩
      rw [hx] at hcx hhx hsz hsh htx
      rw [hy] at hcy hhy hsh hty
      rw [Nat.mul_comm 7 k] at hcx hcy
      have hzr := hb.size
      have hc : ∀ j v, x.cells[j]? = some v → wr.cell? ⟨B1, O1 + k * 7 + j, none⟩ = some v := fun j v hj => (hb.cell (p := ⟨B1, O1 + k * 7 + j, none⟩) (by show B1 < _; omega)).trans (hcx j v hj)
      have d0 : wr.cell? ⟨B1, O1 + k * 7, none⟩ = some (.int .i64 x.k) := hc 0 _ rfl
      have d1 : wr.cell? ⟨B1, O1 + k * 7 + 1, none⟩ = some (.bool x.g) := hc 1 _ rfl
      have d2 : wr.cell? ⟨B1, O1 + k * 7 + 2, none⟩ = some (.slice x.la x.ln x.lc) := hc 2 _ rfl
      have d3 : wr.cell? ⟨B1, O1 + k * 7 + 3, none⟩ = some (.bool x.bb) := hc 3 _ rfl
      have d4 : wr.cell? ⟨B1, O1 + k * 7 + 4, none⟩ = some (.string x.s) := hc 4 _ rfl
      have d5 : wr.cell? ⟨B1, O1 + k * 7 + 5, none⟩ = some (.slice x.ia x.items.length x.ic) := hc 5 _ rfl
      have d6 : wr.cell? ⟨B1, O1 + k * 7 + 6, none⟩ = some (.slice x.ta x.tail.length x.tc) := hc 6 _ rfl
      obtain ⟨W1, hW1⟩ : ∃ W1, wr.alloc (Obj.cells #[.int .i64 x.k, .bool x.g, .slice x.la x.ln x.lc, .bool x.bb, .string x.s, .slice x.ia x.items.length x.ic, .slice x.ta x.tail.length x.tc] 27) = W1 := ⟨_, rfl⟩
      have hb1 : Below wr.heap.size wr W1 := by rw [← hW1]; exact (Below.refl _ wr).alloc (Nat.le_refl _) _
      have hz1 : W1.heap.size = wr.heap.size + 1 := by rw [← hW1, World.size_alloc]
      have hc' : ∀ j v, y.cells[j]? = some v → W1.cell? ⟨B2, O2 + k * 7 + j, none⟩ = some v := fun j v hj => (hb1.cell (p := ⟨B2, O2 + k * 7 + j, none⟩) (by show B2 < _; omega)).trans ((hb.cell (p := ⟨B2, O2 + k * 7 + j, none⟩) (by show B2 < _; omega)).trans (hcy j v hj))
      have e0 : W1.cell? ⟨B2, O2 + k * 7, none⟩ = some (.int .i64 y.k) := hc' 0 _ rfl
      have e1 : W1.cell? ⟨B2, O2 + k * 7 + 1, none⟩ = some (.bool y.g) := hc' 1 _ rfl
      have e2 : W1.cell? ⟨B2, O2 + k * 7 + 2, none⟩ = some (.slice y.la y.ln y.lc) := hc' 2 _ rfl
      have e3 : W1.cell? ⟨B2, O2 + k * 7 + 3, none⟩ = some (.bool y.bb) := hc' 3 _ rfl
      have e4 : W1.cell? ⟨B2, O2 + k * 7 + 4, none⟩ = some (.string y.s) := hc' 4 _ rfl
      have e5 : W1.cell? ⟨B2, O2 + k * 7 + 5, none⟩ = some (.slice y.ia y.items.length y.ic) := hc' 5 _ rfl
      have e6 : W1.cell? ⟨B2, O2 + k * 7 + 6, none⟩ = some (.slice y.ta y.tail.length y.tc) := hc' 6 _ rfl
      obtain ⟨W2, hW2⟩ : ∃ W2, W1.alloc (Obj.cells #[.int .i64 y.k, .bool y.g, .slice y.la y.ln y.lc, .bool y.bb, .string y.s, .slice y.ia y.items.length y.ic, .slice y.ta y.tail.length y.tc] 27) = W2 := ⟨_, rfl⟩
      have hb2 : Below wr.heap.size wr W2 := by rw [← hW2]; exact hb1.alloc hb1.size _
      have hR1 : W2.heap[wr.heap.size]? = some (Obj.cells #[.int .i64 x.k, .bool x.g, .slice x.la x.ln x.lc, .bool x.bb, .string x.s, .slice x.ia x.items.length x.ic, .slice x.ta x.tail.length x.tc] 27) := by
        rw [← hW2, Below.heap_alloc _ _ _ (by rw [hz1]; omega), ← hW1]
        exact World.alloc_heap_new _ _
      have hR2 : W2.heap[W1.heap.size]? = some (Obj.cells #[.int .i64 y.k, .bool y.g, .slice y.la y.ln y.lc, .bool y.bb, .string y.s, .slice y.ia y.items.length y.ic, .slice y.ta y.tail.length y.tc] 27) := by rw [← hW2]; exact World.alloc_heap_new _ _
      have hds := fun j => Lib.cell_of_heap hR1 j
      have r0 := hds 0; have r1 := hds 1; have r2 := hds 2; have r3 := hds 3; have r4 := hds 4; have r5 := hds 5; have r6 := hds 6
      have hes := fun j => Lib.cell_of_heap hR2 j
      have s0 := hes 0; have s1 := hes 1; have s2 := hes 2; have s3 := hes 3; have s4 := hes 4; have s5 := hes 5; have s6 := hes 6
      simp only [List.getElem?_toArray, List.getElem?_cons_zero, List.getElem?_cons_succ] at r0 r1 r2 r3 r4 r5 r6 s0 s1 s2 s3 s4 s5 s6
      have hbW : Below w.heap.size w W2 := hb.trans (hb2.mono hzr)
      have HC := Lib.hid (H_of HH.out hN hsz hsh htx hty (Nat.le_trans hM hbW.size) (hhx.below hM hbW) (hhy.below hM hbW))
      have HB := Lib.hid hbW
      clear hcx hhx hcy hhy hsz hsh htx hty hx hy hc hc' hb hb1 hz1 hb2 hR1 hR2 hds hes hbW
      go_wp2_with fail
      clear hW1 hW2 d0 d1 d2 d3 d4 d5 d6 e0 e1 e2 e3 e4 e5 e6 r0 r1 r2 r3 r4 r5 r6 s0 s1 s2 s3 s4 s5 s6
      refine HC.out.mono ?_
      rintro e w3 ⟨rfl, b3⟩
      have hb3 := HB.out.trans (b3.mono HB.out.size)
      clear b3
      go_wp2_with fail
      go_roundw
      case rel => exact ⟨k + 1, by omega, by go_num, hb3⟩
      case measure => simp [intOf]; omega
    · go_wp2_with fail
      go_ret
      exact ⟨rfl, hb⟩
theorem two2 (w : World) (A B : Obj) : ∃ w2, w2 = (w.alloc A).alloc B ∧ w2.heap[w.heap.size]? = some A ∧ w2.heap[w.heap.size + 1]? = some B ∧ w2.heap.size = w.heap.size + 2 ∧ Below w.heap.size w w2 := by
  have s1 : (w.alloc A).heap.size = w.heap.size + 1 := World.size_alloc ..
  refine ⟨_, rfl, (Below.heap_alloc _ _ _ (by omega)).trans (World.alloc_heap_new w A), ?_, by rw [World.size_alloc, s1], ((Below.refl w.heap.size w).alloc (Nat.le_refl _) _).alloc (by omega) _⟩
  have := World.alloc_heap_new (w.alloc A) B
  rwa [s1] at this
theorem cmpZ_self (z : Int) : cmpZ z z = 0 := by unfold cmpZ; rw [if_neg (by omega), if_neg (by omega)]

set_option maxRecDepth 100000 in
set_option maxHeartbeats 6400000 in
theorem alike_walk (k : Int) (g bb : Bool) (s : ByteArray) (la la' ia ia' ta ta' : Option Addr) (ln ln' lc lc' n n' ic ic' tc tc' : Nat) (w : World)
    (hC : ∀ W, Below w.heap.size w W → Calls Tryz.prog 86 #[.agg #[.bool g, .slice la ln lc], .agg #[.bool g, .slice la' ln' lc']] W fun e W' => e = .returned (.int .i64 0) ∧ Below W.heap.size W W')
    (hI : ∀ W, Below w.heap.size w W → Calls Tryz.prog 87 #[.slice ia n ic, .slice ia' n ic', .func (.func 70) #[] #[]] W fun e W' => e = .returned (.bool true) ∧ Below W.heap.size W W')
    (hT : ∀ W, Below w.heap.size w W → Calls Tryz.prog 87 #[.slice ta n' tc, .slice ta' n' tc', .func (.func 70) #[] #[]] W fun e W' => e = .returned (.bool true) ∧ Below W.heap.size W W') :
    Calls Tryz.prog 70 #[.agg #[.int .i64 k, .bool g, .slice la ln lc, .bool bb, .string s, .slice ia n ic, .slice ta n' tc], .agg #[.int .i64 k, .bool g, .slice la' ln' lc', .bool bb, .string s, .slice ia' n ic', .slice ta' n' tc']] w fun e w' => e = .returned (.bool true) ∧ Below w.heap.size w w' := by
  have HC := Lib.hid hC
  have HI := Lib.hid hI
  have HT := Lib.hid hT
  clear hC hI hT
  obtain ⟨w2, hw2, a0, a1, hz, hbel⟩ := two2 w (.cells #[.int .i64 k, .bool g, .slice la ln lc, .bool bb, .string s, .slice ia n ic, .slice ta n' tc] 27) (.cells #[.int .i64 k, .bool g, .slice la' ln' lc', .bool bb, .string s, .slice ia' n ic', .slice ta' n' tc'] 27)
  have HW := Lib.hid hw2
  have HA := Lib.hid (And.intro a0 (And.intro a1 (And.intro hz hbel)))
  clear hw2 a0 a1 hz hbel
  go_enter Tryz.func70, Tryz.ntmps70
  go_wp2_with fail
  rw [← HW.out]
  refine (HC.out w2 HA.out.2.2.2).mono ?_
  rintro e w3 ⟨rfl, b3⟩
  have x0 := (b3.block w.heap.size (by rw [HA.out.2.2.1]; omega)).trans HA.out.1
  have x1 := (b3.block (w.heap.size + 1) (by rw [HA.out.2.2.1]; omega)).trans HA.out.2.1
  have hb3 := HA.out.2.2.2.trans (b3.mono HA.out.2.2.2.size)
  have hz3 : w.heap.size + 2 ≤ w3.heap.size := by have := b3.size; rwa [HA.out.2.2.1] at this
  have c5 := Lib.cell_of_heap x0 5
  have e5 := Lib.cell_of_heap x1 5
  simp only [List.getElem?_toArray, List.getElem?_cons_zero, List.getElem?_cons_succ] at c5 e5
  have H3 := Lib.hid (And.intro x0 (And.intro x1 (And.intro hb3 hz3)))
  clear x0 x1 hb3 b3 HC HW
  go_wp2_with fail
  refine (HI.out w3 H3.out.2.2.1).mono ?_
  rintro e w4 ⟨rfl, b4⟩
  have x0 := (b4.block w.heap.size (by omega)).trans H3.out.1
  have x1 := (b4.block (w.heap.size + 1) (by omega)).trans H3.out.2.1
  have hb4 := H3.out.2.2.1.trans (b4.mono H3.out.2.2.1.size)
  have c6 := Lib.cell_of_heap x0 6
  have e6 := Lib.cell_of_heap x1 6
  simp only [List.getElem?_toArray, List.getElem?_cons_zero, List.getElem?_cons_succ] at c6 e6
  have H4 := Lib.hid hb4
  clear x0 x1 hb4 b4 c5 e5 HI
  go_wp2_with fail
  refine (HT.out w4 H4.out).mono ?_
  rintro e w5 ⟨rfl, b5⟩
  have hb5 := H4.out.trans (b5.mono H4.out.size)
  clear b5 c6 e6
  go_wp2_with fail
  go_ret
  exact ⟨rfl, hb5⟩
theorem alike_same (M : Nat) : ∀ N : Nat, N ≤ 1000000 → AlikeTo M N
  | 0, _, a, _, ha, _, _, _, _, _, _, _ => by rw [a.size_eq] at ha; omega
  | N + 1, hN, a, b, ha, hs, hTa, hTb, w, hM, hA, hB => by
    have hsa := a.size_eq
    have g1 := sizes_ge a.items
    have g2 := sizes_ge a.tail
    have hs' := hs
    rw [shape_eq, shape_eq] at hs'
    injection hs' with q1 q2 q3 q4 q5 q6 q7
    have l1 := shapes_len q6
    have l2 := shapes_len q7
    obtain ⟨ta1, ta2, ta3⟩ := (tame_eq a).1 hTa
    obtain ⟨tb1, tb2, tb3⟩ := (tame_eq b).1 hTb
    have n1 := hA.2.1
    have n2 := hA.2.2.1
    unfold Spot maxLen at n1 n2
    rw [← q1, ← q2, ← q4, ← q5, l1, l2]
    refine alike_walk _ _ _ _ _ _ _ _ _ _ _ _ _ _ _ _ _ _ _ _ w (fun W hb => ?_) (fun W hb => ?_) (fun W hb => ?_)
    · have h1 : Wh W (.agg #[.bool a.g, .slice a.la a.ln a.lc]) (zOf a.g (val a.ys)) 35184372087808 := ⟨a.g, _, val a.ys, rfl, ⟨a.la, a.ln, a.lc, a.ys, rfl, (hA.1.1.below hb), rfl, ta1⟩, rfl⟩
      have h2 : Wh W (.agg #[.bool a.g, .slice b.la b.ln b.lc]) (zOf a.g (val a.ys)) 35184372087808 := ⟨a.g, _, val a.ys, rfl, ⟨b.la, b.ln, b.lc, b.ys, rfl, (hB.1.1.below hb), by rw [q3], tb1⟩, rfl⟩
      have := wcmp_num h1 h2 (by decide) (by decide)
      rw [cmpZ_self] at this
      exact this
    · have hAW := hA.below hM hb
      have hBW := hB.below hM hb
      exact equal_rows M N (alike_same M N (by omega)) a.items b.items q6 (by omega) (by omega) ta2 tb2 _ _ _ _ W (Nat.le_trans hM hb.size) hAW.2.1 (hBW.2.1) hAW.2.2.2.1 hBW.2.2.2.1
    · have hAW := hA.below hM hb
      have hBW := hB.below hM hb
      exact equal_rows M N (alike_same M N (by omega)) a.tail b.tail q7 (by omega) (by omega) ta3 tb3 _ _ _ _ W (Nat.le_trans hM hb.size) hAW.2.2.1 (hBW.2.2.1) hAW.2.2.2.2 hBW.2.2.2.2
end
end Go.Proofs.YthdhdmmlmbkalaaGreatDoor
namespace Go.Proofs.YthdhdmmlmbkalaaGreatDoor
section
open Go.RowKit

theorem room_frozen {w : World} {R g n cap : Nat} (h : RoomAt w R g n cap) (j : Nat) : w.frozen? ⟨g, j, none⟩ = false := by
  obtain ⟨_, _, cur, h3, _⟩ := h
  exact Lib.frozen_of_heap h3 j
theorem tw_room {S : List DT} {i cap : Nat} {u : LT} (hi : i < S.length) (hb : i + sizesD (S.drop i) = cap) (hu : shape u = S[i]) : S.length + u.items.length + u.tail.length ≤ cap := by
  have h1 := List.drop_eq_getElem_cons hi
  rw [h1] at hb
  simp only [sizesD] at hb
  rw [← hu, sizeD_shape, u.size_eq] at hb
  have h2 := sizes_ge u.items
  have h3 := sizes_ge u.tail
  have h4 := sizesD_ge (S.drop (i + 1))
  rw [List.length_drop] at h4
  omega
theorem cell_keep {w w' : World} {b k o : Nat} (h : w'.heap[b]? = w.heap[b]?) : w'.cell? ⟨b, o + k, none⟩ = w.cell? ⟨b, o + k, none⟩ := World.cell?_of_block (w := w) (a := ⟨b, o + k, none⟩) h
theorem tw_step {w0 w w' : World} {M D cap i : Nat} {t u : LT} {S : List DT} (hD : D = w0.heap.size) (hMD : M ≤ D) (hcap : cap ≤ maxLen) (hi : i < S.length) (hT : w.cell? ⟨D + 4, 0, none⟩ = some (.func (.func 141) #[] #[.pointer (some ⟨D + 3, 0, none⟩)]))
    (hroot : Parted w (Lmb (D + 5) D (D + 2) (D + 3) w) (D + 2) S 0 (shape t) D 0) (hpar : ∀ j (h : j < S.length), j < i → Parted w (Lmb (D + 5) D (D + 2) (D + 3) w) (D + 2) S (j + 1) S[j] (D + 2) (j * 7)) (hsrc : ∀ j (h : j < S.length), i ≤ j → Src w0 M w S[j] (D + 2) (j * 7))
    (hb : i + sizesD (S.drop i) = cap) (hbel : Below D w0 w) (hres : w.heap[D + 1]? = some (Obj.cells #[.int .i64 0, .bool false, .slice none 0 0, .bool false, .string ⟨#[]⟩, .slice none 0 0, .slice none 0 0] 27)) (hsz : w0.heap.size + 5 ≤ w.heap.size) (hu : shape u = S[i]) (hH : Held w0 M u) (hTu : Tame u) (he : PartEff w w' (D + 2) (i * 7) (D + 3) (D + 2) S.length cap u) :
    TwRel w0 M D (D + 2) (D + 3) (D + 4) cap t (i + 1) w' := by
  have hroom := tw_room hi hb hu
  have hoth : ∀ k, k < w.heap.size → k ≠ D + 3 → k ≠ D + 2 → w'.heap[k]? = w.heap[k]? := fun k k0 k1 k2 => he.other k k0 k1 k2 k2
  have hlm : ∀ k, Lmb (D + 5) D (D + 2) (D + 3) w k → Lmb (D + 5) D (D + 2) (D + 3) w' k ∧ w'.heap[k]? = w.heap[k]? := fun k hk => by
    have e := hoth k hk.1.lt hk.2.2.2 hk.2.2.1
    exact ⟨⟨hk.1.same e, hk.2⟩, e⟩
  have hlen : (S ++ (shapes u.items ++ shapes u.tail)).length = S.length + u.items.length + u.tail.length := by rw [List.length_append, List.length_append, shapes_length, shapes_length]; omega
  refine ⟨S ++ (shapes u.items ++ shapes u.tail), by omega, by rw [hlen]; exact he.room, ?_, ?_, ?_, ?_, ?_, hbel.trans (he.below D (by omega) (by omega) (by omega) (by omega)), ?_, fun j => room_frozen he.room j, by have := he.size; omega⟩
  · exact (World.cell?_of_block (w := w) (a := ⟨D + 4, 0, none⟩) (hoth (D + 4) (by omega) (by omega) (by omega))).trans hT
  · exact hroot.next (fun j _ => cell_keep (hoth D (by omega) (by omega) (by omega))) he.size hlm
  · intro j hj hji
    by_cases h : j < i
    · have hjS : j < S.length := by omega
      rw [List.getElem_append_left hjS]
      exact (hpar j hjS h).next (fun c hc => he.low _ (by omega) (fun _ => .inl (by omega))) he.size hlm
    · obtain rfl : j = i := by omega
      rw [List.getElem_append_left hi, ← hu]
      exact he.parted (M := M) rfl (by omega) hH.1.2.2 hH.1.1.len hcap hroom (by omega) (by omega) (by omega) (by omega) (by omega)
  · intro j hj hij
    by_cases h : j < S.length
    · rw [List.getElem_append_left h]
      obtain ⟨v, v1, v2, v3, v4⟩ := hsrc j h (by omega)
      refine ⟨v, v1, v2, v3, fun c x hc => ?_⟩
      have hc7 : c < 7 := (List.getElem?_eq_some_iff.1 hc).1
      rw [he.low (j * 7 + c) (by omega) (fun _ => .inr (by omega))]
      exact v4 c x hc
    · rw [List.getElem_append_right (by omega)]
      by_cases h2 : j - S.length < u.items.length
      · rw [List.getElem_append_left (by rw [shapes_length]; exact h2)]
        have h3 := src_new (n := S.length) hH.2.2.2.1 ((tame_eq u).1 hTu).2.1 he.new1 (j - S.length) h2
        rw [show S.length + (j - S.length) = j by omega] at h3
        have h4 := shapes_at u.items (j - S.length) h2
        rw [List.getElem?_eq_getElem (by rw [shapes_length]; exact h2)] at h4
        rw [Option.some.inj h4]
        exact h3
      · rw [List.getElem_append_right (by rw [shapes_length]; omega)]
        have hq : j - S.length - u.items.length < u.tail.length := by omega
        have h3 := src_new (n := S.length + u.items.length) hH.2.2.2.2 ((tame_eq u).1 hTu).2.2 he.new2 (j - S.length - u.items.length) hq
        rw [show S.length + u.items.length + (j - S.length - u.items.length) = j by omega] at h3
        have h4 := shapes_at u.tail (j - S.length - u.items.length) hq
        rw [List.getElem?_eq_getElem (by rw [shapes_length]; exact hq)] at h4
        simp only [shapes_length]
        rw [Option.some.inj h4]
        exact h3
  · rw [List.drop_append_of_le_length (by omega), sizesD_append, sizesD_append, sizesD_shapes, sizesD_shapes]
    have h1 := List.drop_eq_getElem_cons hi
    rw [h1] at hb
    simp only [sizesD] at hb
    rw [← hu, sizeD_shape, u.size_eq] at hb
    omega
  · exact (hoth (D + 1) (by omega) (by omega) (by omega)).trans hres
theorem tw_start {w0 w w' : World} {M D cap : Nat} {t : LT} (hD : D = w0.heap.size) (hMD : M ≤ D) (hcap : cap ≤ maxLen) (hT : w.cell? ⟨D + 4, 0, none⟩ = some (.func (.func 141) #[] #[.pointer (some ⟨D + 3, 0, none⟩)]))
    (hb : t.size = cap + 1) (hbel : Below D w0 w) (hres : w.heap[D + 1]? = some (Obj.cells #[.int .i64 0, .bool false, .slice none 0 0, .bool false, .string ⟨#[]⟩, .slice none 0 0, .slice none 0 0] 27)) (hsz : w0.heap.size + 5 ≤ w.heap.size) (hH : Held w0 M t) (hTu : Tame t) (he : PartEff w w' D 0 (D + 3) (D + 2) 0 cap t) :
    TwRel w0 M D (D + 2) (D + 3) (D + 4) cap t 0 w' := by
  have hse := t.size_eq
  have g1 := sizes_ge t.items
  have g2 := sizes_ge t.tail
  have hroom : 0 + t.items.length + t.tail.length ≤ cap := by omega
  have hoth : ∀ k, k < w.heap.size → k ≠ D + 3 → k ≠ D + 2 → k ≠ D → w'.heap[k]? = w.heap[k]? := fun k k0 k1 k2 k3 => he.other k k0 k1 k2 k3
  have hlen : (shapes t.items ++ shapes t.tail).length = 0 + t.items.length + t.tail.length := by rw [List.length_append, shapes_length, shapes_length]; omega
  refine ⟨shapes t.items ++ shapes t.tail, Nat.zero_le _, by rw [hlen]; exact he.room, ?_, ?_, fun j _ h => absurd h (Nat.not_lt_zero _), ?_, ?_, hbel.trans (he.below D (by omega) (by omega) (by omega) (Nat.le_refl _)), ?_, fun j => room_frozen he.room j, by have := he.size; omega⟩
  · exact (World.cell?_of_block (w := w) (a := ⟨D + 4, 0, none⟩) (hoth (D + 4) (by omega) (by omega) (by omega) (by omega))).trans hT
  · have := he.parted (S := []) (lo := 0) (B := D + 5) (D := D) (M := M) rfl (Nat.le_refl _) hH.1.2.2 hH.1.1.len hcap hroom (by omega) (by omega) (by omega) (by omega) (by omega)
    simpa using this
  · intro j hj _
    by_cases h2 : j < t.items.length
    · rw [List.getElem_append_left (by rw [shapes_length]; exact h2)]
      have h3 := src_new (n := 0) hH.2.2.2.1 ((tame_eq t).1 hTu).2.1 he.new1 j h2
      rw [Nat.zero_add] at h3
      have h4 := shapes_at t.items j h2
      rw [List.getElem?_eq_getElem (by rw [shapes_length]; exact h2)] at h4
      rw [Option.some.inj h4]
      exact h3
    · rw [List.getElem_append_right (by rw [shapes_length]; omega)]
      have hq : j - t.items.length < t.tail.length := by omega
      have h3 := src_new (n := 0 + t.items.length) hH.2.2.2.2 ((tame_eq t).1 hTu).2.2 he.new2 (j - t.items.length) hq
      rw [show 0 + t.items.length + (j - t.items.length) = j by omega] at h3
      have h4 := shapes_at t.tail (j - t.items.length) hq
      rw [List.getElem?_eq_getElem (by rw [shapes_length]; exact hq)] at h4
      simp only [shapes_length]
      rw [Option.some.inj h4]
      exact h3
  · rw [List.drop_zero, sizesD_append, sizesD_shapes, sizesD_shapes]
    omega
  · exact (hoth (D + 1) (by omega) (by omega) (by omega) (by omega)).trans hres
theorem Parted.mono {w : World} {P Q : Nat → Prop} {g : Nat} {S : List DT} {lo : Nat} {d : DT} {b o : Nat} (h : Parted w P g S lo d b o) (hk : ∀ k, P k → Q k) : Parted w Q g S lo d b o := by
  have := h.next (X := []) (w' := w) (Q := Q) (fun _ _ => rfl) (Nat.le_refl _) fun k hp => ⟨hk k hp, rfl⟩
  rwa [List.append_nil] at this
/-- When all is copied, the root is a tree in blocks of the call's own. -/
theorem tw_end {w : World} {D i : Nat} {t : LT} {S : List DT} (hi : S.length ≤ i) (hg : Fresh w (D + 2) (D + 2)) (hroot : Parted w (Lmb (D + 5) D (D + 2) (D + 3) w) (D + 2) S 0 (shape t) D 0) (hpar : ∀ j (h : j < S.length), j < i → Parted w (Lmb (D + 5) D (D + 2) (D + 3) w) (D + 2) S (j + 1) S[j] (D + 2) (j * 7)) :
    ∃ u : LT, shape u = shape t ∧ (∀ j v, u.cells[j]? = some v → w.cell? ⟨D, 0 + j, none⟩ = some v) ∧ HeldP w (Fresh w (D + 2)) u := by
  have hm : ∀ k, Lmb (D + 5) D (D + 2) (D + 3) w k → Fresh w (D + 2) k := fun k hk => hk.1.low (by omega)
  refine parted_tree hg (hroot.mono hm) fun j x _ hx => ?_
  exact room_trees hg S (fun j hj => (hpar j hj (by omega)).mono hm) (S.length - j) j x (Nat.le_refl _) hx
end
end Go.Proofs.YthdhdmmlmbkalaaGreatDoor
