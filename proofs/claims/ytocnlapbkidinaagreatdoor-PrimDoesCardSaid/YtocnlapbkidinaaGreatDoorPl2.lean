/-
  datum.alike and datum.Same of any two data. pavaneref03.Same of any two data: put together.
-/
import Derived.Test.YtocnlapbkidinaaGreatDoorQPca
import Derived.Test.YtocnlapbkidinaaGreatDoorQPcc
set_option linter.unusedVariables false
set_option linter.unusedSimpArgs false
set_option linter.unusedSectionVars false
set_option linter.unnecessarySimpa false
namespace Go.Proofs.YtocnlapbkidinaaGreatDoor
section
open Go.RowKit
set_option maxRecDepth 100000

section
variable {w : World} {k k' cz : Int} {g g' bb bb' : Bool} {s s' : ByteArray} {la la' ia ia' ta ta' : Option Addr} {ln ln' lc lc' n n' m m' ic ic' tc tc' : Nat}
def alikeC (la ia ta : Option Addr) (ln lc n m ic tc : Nat) (k : Int) (g bb : Bool) (s : ByteArray) : Array Value := #[.int .i64 k, .bool g, .slice la ln lc, .bool bb, .string s, .slice ia n ic, .slice ta m tc]
set_option maxHeartbeats 3200000 in
theorem alike_no0 (hne : (k == k') = false) (hd : decide (k = k') = false) : Calls Tryz.prog 78 #[.agg #[.int .i64 k, .bool g, .slice la ln lc, .bool bb, .string s, .slice ia n ic, .slice ta m tc], .agg #[.int .i64 k', .bool g', .slice la' ln' lc', .bool bb', .string s', .slice ia' n' ic', .slice ta' m' tc']] w fun e w' => e = .returned (.bool false) ∧ Below w.heap.size w w' := by
  obtain ⟨w2, hw2, -, -, -, hbel⟩ := two2 w (.cells #[.int .i64 k, .bool g, .slice la ln lc, .bool bb, .string s, .slice ia n ic, .slice ta m tc] 29) (.cells #[.int .i64 k', .bool g', .slice la' ln' lc', .bool bb', .string s', .slice ia' n' ic', .slice ta' m' tc'] 29)
  have HB := Lib.hid (And.intro hw2 hbel)
  clear hw2 hbel
  go_enter Tryz.func78, Tryz.ntmps78
  go_wp2_with fail
  go_ret
  exact ⟨rfl, HB.out.1 ▸ HB.out.2⟩
set_option maxHeartbeats 3200000 in
theorem alike_no2 (hne : bb ≠ bb') : Calls Tryz.prog 78 #[.agg #[.int .i64 k, .bool g, .slice la ln lc, .bool bb, .string s, .slice ia n ic, .slice ta m tc], .agg #[.int .i64 k, .bool g', .slice la' ln' lc', .bool bb', .string s', .slice ia' n' ic', .slice ta' m' tc']] w fun e w' => e = .returned (.bool false) ∧ Below w.heap.size w w' := by
  obtain ⟨w2, hw2, -, -, -, hbel⟩ := two2 w (.cells #[.int .i64 k, .bool g, .slice la ln lc, .bool bb, .string s, .slice ia n ic, .slice ta m tc] 29) (.cells #[.int .i64 k, .bool g', .slice la' ln' lc', .bool bb', .string s', .slice ia' n' ic', .slice ta' m' tc'] 29)
  have HB := Lib.hid (And.intro hw2 hbel)
  clear hw2 hbel
  cases bb <;> cases bb' <;> first
    | exact absurd rfl hne
    | (clear hne
       go_enter Tryz.func78, Tryz.ntmps78
       go_wp2_with fail
       go_ret
       exact ⟨rfl, HB.out.1 ▸ HB.out.2⟩)
set_option maxHeartbeats 3200000 in
theorem alike_no3 (hne : (s.toList == s'.toList) = false) : Calls Tryz.prog 78 #[.agg #[.int .i64 k, .bool g, .slice la ln lc, .bool bb, .string s, .slice ia n ic, .slice ta m tc], .agg #[.int .i64 k, .bool g', .slice la' ln' lc', .bool bb, .string s', .slice ia' n' ic', .slice ta' m' tc']] w fun e w' => e = .returned (.bool false) ∧ Below w.heap.size w w' := by
  obtain ⟨w2, hw2, -, -, -, hbel⟩ := two2 w (.cells #[.int .i64 k, .bool g, .slice la ln lc, .bool bb, .string s, .slice ia n ic, .slice ta m tc] 29) (.cells #[.int .i64 k, .bool g', .slice la' ln' lc', .bool bb, .string s', .slice ia' n' ic', .slice ta' m' tc'] 29)
  have HB := Lib.hid (And.intro hw2 hbel)
  clear hw2 hbel
  go_enter Tryz.func78, Tryz.ntmps78
  go_wp2_with fail
  go_ret
  exact ⟨rfl, HB.out.1 ▸ HB.out.2⟩
set_option maxHeartbeats 6400000 in
theorem alike_rest (rI rT : Bool)
    (hC : ∀ W, Below w.heap.size w W → Calls Tryz.prog 93 #[.agg #[.bool g, .slice la ln lc], .agg #[.bool g', .slice la' ln' lc']] W fun e W' => e = .returned (.int .i64 cz) ∧ Below W.heap.size W W')
    (hI : ∀ W, Below w.heap.size w W → Calls Tryz.prog 109 #[.slice ia n ic, .slice ia' n' ic', .func (.func 78) #[] #[]] W fun e W' => e = .returned (.bool rI) ∧ Below W.heap.size W W')
    (hT : ∀ W, Below w.heap.size w W → Calls Tryz.prog 109 #[.slice ta m tc, .slice ta' m' tc', .func (.func 78) #[] #[]] W fun e W' => e = .returned (.bool rT) ∧ Below W.heap.size W W') :
    Calls Tryz.prog 78 #[.agg #[.int .i64 k, .bool g, .slice la ln lc, .bool bb, .string s, .slice ia n ic, .slice ta m tc], .agg #[.int .i64 k, .bool g', .slice la' ln' lc', .bool bb, .string s, .slice ia' n' ic', .slice ta' m' tc']] w fun e w' => e = .returned (.bool (decide (cz = 0) && rI && rT)) ∧ Below w.heap.size w w' := by
  have HC := Lib.hid hC
  have HI := Lib.hid hI
  have HT := Lib.hid hT
  clear hC hI hT
  obtain ⟨w2, hw2, a0, a1, hz, hbel⟩ := two2 w (.cells #[.int .i64 k, .bool g, .slice la ln lc, .bool bb, .string s, .slice ia n ic, .slice ta m tc] 29) (.cells #[.int .i64 k, .bool g', .slice la' ln' lc', .bool bb, .string s, .slice ia' n' ic', .slice ta' m' tc'] 29)
  have HW := Lib.hid hw2
  have HA := Lib.hid (And.intro a0 (And.intro a1 (And.intro hz hbel)))
  clear hw2 a0 a1 hz hbel
  go_enter Tryz.func78, Tryz.ntmps78
  go_wp2_with fail
  rw [← HW.out]
  refine (HC.out w2 HA.out.2.2.2).mono ?_
  rintro e w3 ⟨rfl, b3⟩
  have x0 := (b3.block w.heap.size (by rw [HA.out.2.2.1]; omega)).trans HA.out.1
  have x1 := (b3.block (w.heap.size + 1) (by rw [HA.out.2.2.1]; omega)).trans HA.out.2.1
  have hb3 := HA.out.2.2.2.trans (b3.mono HA.out.2.2.2.size)
  have hz3 : w.heap.size + 2 ≤ w3.heap.size := by have := b3.size; rwa [HA.out.2.2.1] at this
  have c5 := Lib.cell_of_heap x0 5
  have e5 := Lib.cell_of_heap x1 5
  simp only [List.getElem?_toArray, List.getElem?_cons_zero, List.getElem?_cons_succ] at c5 e5
  have H3 := Lib.hid (And.intro x0 (And.intro x1 (And.intro hb3 hz3)))
  clear x0 x1 hb3 b3 HC HW
  by_cases hc : cz = 0
  · subst hc
    rcases rI with _ | _
    · go_wp2_with fail
      refine (HI.out w3 H3.out.2.2.1).mono ?_
      rintro e w4 ⟨rfl, b4⟩
      have hb4 := Lib.hid (H3.out.2.2.1.trans (b4.mono H3.out.2.2.1.size))
      clear b4 c5 e5 HI
      go_wp2_with fail
      go_ret
      exact ⟨rfl, hb4.out⟩
    · go_wp2_with fail
      refine (HI.out w3 H3.out.2.2.1).mono ?_
      rintro e w4 ⟨rfl, b4⟩
      have x0 := (b4.block w.heap.size (by omega)).trans H3.out.1
      have x1 := (b4.block (w.heap.size + 1) (by omega)).trans H3.out.2.1
      have hb4 := H3.out.2.2.1.trans (b4.mono H3.out.2.2.1.size)
      have c6 := Lib.cell_of_heap x0 6
      have e6 := Lib.cell_of_heap x1 6
      simp only [List.getElem?_toArray, List.getElem?_cons_zero, List.getElem?_cons_succ] at c6 e6
      have H4 := Lib.hid hb4
      clear x0 x1 hb4 b4 c5 e5 HI
      go_wp2_with fail
      refine (HT.out w4 H4.out).mono ?_
      rintro e w5 ⟨rfl, b5⟩
      have hb5 := H4.out.trans (b5.mono H4.out.size)
      clear b5 c6 e6
      go_wp2_with fail
      go_ret
      exact ⟨by simp, hb5⟩
  · have hd : decide (cz = 0) = false := decide_eq_false hc
    have hd2 : (cz == 0) = false := beq_eq_false_iff_ne.2 hc
    clear hc c5 e5
    go_wp2_with fail
    go_ret
    exact ⟨by rw [hd]; simp, H3.out.2.2.1⟩
end
theorem cmpZ_zero' (a b : Int) : cmpZ a b = 0 ↔ a = b := by unfold cmpZ; split <;> (try split) <;> omega
theorem bytes_ne {s t : ByteArray} (h : s ≠ t) : (s.toList == t.toList) = false := by
  rw [beq_eq_false_iff_ne]
  intro e
  apply h
  have e2 : s.data.toList = t.data.toList := by rw [← Lib.toList_data, ← Lib.toList_data, e]
  exact ByteArray.ext (Array.toList_inj.1 e2)
theorem rowsG {M N : Nat} (H : AlikeG M N) (l m : List LT) (hN : sizes l ≤ N) (hn : l.length ≤ 1000000000) (hTl : TameR l) (hTm : TameR m) (a1 a2 : Option Addr) (c1 c2 : Nat) (w : World) (hM : M ≤ w.heap.size)
    (hS1 : Spot M a1 l.length c1) (hS2 : Spot M a2 m.length c2) (hL1 : LiesR w M l (blk a1) (ofs a1)) (hL2 : LiesR w M m (blk a2) (ofs a2)) :
    Calls Tryz.prog 109 #[.slice a1 l.length c1, .slice a2 m.length c2, .func (.func 78) #[] #[]] w fun e w' => e = .returned (.bool (samesB l m)) ∧ Below w.heap.size w w' := by
  by_cases hl : l.length = m.length
  · rw [← hl]
    exact equal_rowsG M N H l m hl.symm hN hn hTl hTm a1 a2 c1 c2 w hM hS1 hS2 hL1 hL2
  · exact equal_len l m hl _ _ _ _ w
theorem sameB_rest {a b : LT} (hk : a.k = b.k) (hbb : a.bb = b.bb) (hs : a.s = b.s) : sameB a b = (decide (cmpZ (zOf a.g (val a.ys)) (zOf b.g (val b.ys)) = 0) && samesB a.items b.items && samesB a.tail b.tail) := by
  rw [Bool.eq_iff_iff, sameB_iff, same_parts, Bool.and_eq_true, Bool.and_eq_true, samesB_iff, samesB_iff, decide_eq_true_iff, cmpZ_zero']
  exact ⟨fun h => ⟨⟨h.2.1, h.2.2.2.2.1⟩, h.2.2.2.2.2⟩, fun h => ⟨hk, h.1.1, hbb, hs, h.1.2, h.2⟩⟩
theorem alike_cmp {a b : LT} {M : Nat} {w : World} (hA : Held w M a) (hB : Held w M b) (hTa : Tame a) (hTb : Tame b) (W : World) (hb : Below w.heap.size w W) : Calls Tryz.prog 93 #[.agg #[.bool a.g, .slice a.la a.ln a.lc], .agg #[.bool b.g, .slice b.la b.ln b.lc]] W fun e W' => e = .returned (.int .i64 (cmpZ (zOf a.g (val a.ys)) (zOf b.g (val b.ys)))) ∧ Below W.heap.size W W' := by
  have h1 : Wh W (.agg #[.bool a.g, .slice a.la a.ln a.lc]) (zOf a.g (val a.ys)) 35184372087808 := ⟨a.g, _, val a.ys, rfl, ⟨a.la, a.ln, a.lc, a.ys, rfl, (hA.1.1.below hb), rfl, ((tame_eq a).1 hTa).1⟩, rfl⟩
  have h2 : Wh W (.agg #[.bool b.g, .slice b.la b.ln b.lc]) (zOf b.g (val b.ys)) 35184372087808 := ⟨b.g, _, val b.ys, rfl, ⟨b.la, b.ln, b.lc, b.ys, rfl, (hB.1.1.below hb), rfl, ((tame_eq b).1 hTb).1⟩, rfl⟩
  exact wcmp_num h1 h2 (by omega) (by omega)
set_option maxHeartbeats 1600000 in
theorem alike_step (M N : Nat) (hN : N ≤ 1000000) (H : AlikeG M N) : AlikeG M (N + 1) := by
  intro a b ha hTa hTb w hM hA hB
  have hsa := a.size_eq
  have g1 := sizes_ge a.items
  have g2 := sizes_ge a.tail
  obtain ⟨ta1, ta2, ta3⟩ := (tame_eq a).1 hTa
  obtain ⟨tb1, tb2, tb3⟩ := (tame_eq b).1 hTb
  have hI := fun W (hb : Below w.heap.size w W) => rowsG H a.items b.items (by omega) (by omega) ta2 tb2 a.ia b.ia a.ic b.ic W (Nat.le_trans hM hb.size) (hA.below hM hb).2.1 (hB.below hM hb).2.1 (hA.below hM hb).2.2.2.1 (hB.below hM hb).2.2.2.1
  have hT := fun W (hb : Below w.heap.size w W) => rowsG H a.tail b.tail (by omega) (by omega) ta3 tb3 a.ta b.ta a.tc b.tc W (Nat.le_trans hM hb.size) (hA.below hM hb).2.2.1 (hB.below hM hb).2.2.1 (hA.below hM hb).2.2.2.2 (hB.below hM hb).2.2.2.2
  by_cases hk : a.k = b.k
  · by_cases hbb : a.bb = b.bb
    · by_cases hs : a.s = b.s
      · rw [sameB_rest hk hbb hs, ← hk, ← hbb, ← hs]
        exact alike_rest _ _ (alike_cmp hA hB hTa hTb) hI hT
      · rw [← hk, ← hbb, sameB_no fun h => hs (same_parts.1 h).2.2.2.1]
        exact alike_no3 (bytes_ne hs)
    · rw [← hk, sameB_no fun h => hbb (same_parts.1 h).2.2.1]
      exact alike_no2 hbb
  · rw [sameB_no fun h => hk (same_parts.1 h).1]
    exact alike_no0 (beq_eq_false_iff_ne.2 hk) (decide_eq_false hk)
theorem alikeG_all (M : Nat) (N : Nat) (hN : N ≤ 1000000) : AlikeG M N := by
  induction N with
  | zero => intro a _ ha; rw [a.size_eq] at ha; omega
  | succ N ih => exact alike_step M N (by omega) (ih (by omega))
set_option maxHeartbeats 6400000 in
theorem same_any (M : Nat) (a b : LT) (h1 : a.size ≤ 100000) (h2 : a.depth ≤ 10000) (h3 : b.size ≤ 100000) (h4 : b.depth ≤ 10000) (hTa : Tame a) (hTb : Tame b) (w : World) (hM : M ≤ w.heap.size) (hA : Held w M a) (hB : Held w M b) :
    Calls Tryz.prog 36 #[.agg #[.int .i64 a.k, .bool a.g, .slice a.la a.ln a.lc, .bool a.bb, .string a.s, .slice a.ia a.items.length a.ic, .slice a.ta a.tail.length a.tc], .agg #[.int .i64 b.k, .bool b.g, .slice b.la b.ln b.lc, .bool b.bb, .string b.s, .slice b.ia b.items.length b.ic, .slice b.ta b.tail.length b.tc]] w fun e w' => e = .returned (.bool (sameB a b)) ∧ Below w.heap.size w w' := by
  obtain ⟨w2, hw2, a0, a1, hz, hbel⟩ := two2 w (Obj.cells #[.int .i64 a.k, .bool a.g, .slice a.la a.ln a.lc, .bool a.bb, .string a.s, .slice a.ia a.items.length a.ic, .slice a.ta a.tail.length a.tc] 29) (Obj.cells #[.int .i64 b.k, .bool b.g, .slice b.la b.ln b.lc, .bool b.bb, .string b.s, .slice b.ia b.items.length b.ic, .slice b.ta b.tail.length b.tc] 29)
  have hla := fun W (hb : Below w.heap.size w W) => isLooked_any a M W (hA.below hM hb) (Nat.le_trans hM hb.size) h1 h2
  have hlb := fun W (hb : Below w.heap.size w W) => isLooked_any b M W (hB.below hM hb) (Nat.le_trans hM hb.size) h3 h4
  have hal := fun W (hb : Below w.heap.size w W) => alikeG_all M 100000 (by decide) a b h1 hTa hTb W (Nat.le_trans hM hb.size) (hA.below hM hb) (hB.below hM hb)
  unfold LT.cells at hla hlb
  have HL := Lib.hid (And.intro hla (And.intro hlb hal))
  have HW := Lib.hid (And.intro hw2 (And.intro a0 (And.intro a1 (And.intro hz hbel))))
  clear hla hlb hal hw2 a0 a1 hz hbel hA hB hTa hTb
  go_enter Tryz.func36, Tryz.ntmps36
  go_wp2_with fail
  rw [← HW.out.1]
  refine (HL.out.1 w2 HW.out.2.2.2.2).mono ?_
  rintro e w3 ⟨rfl, b3⟩
  have x0 := (b3.block w.heap.size (by rw [HW.out.2.2.2.1]; omega)).trans HW.out.2.1
  have x1 := (b3.block (w.heap.size + 1) (by rw [HW.out.2.2.2.1]; omega)).trans HW.out.2.2.1
  have hb3 := HW.out.2.2.2.2.trans (b3.mono HW.out.2.2.2.2.size)
  have hz3 : w.heap.size + 2 ≤ w3.heap.size := by have := b3.size; rwa [HW.out.2.2.2.1] at this
  have hes := fun j => Lib.cell_of_heap x1 j
  have s0 := hes 0; have s1 := hes 1; have s2 := hes 2; have s3 := hes 3; have s4 := hes 4; have s5 := hes 5; have s6 := hes 6
  simp only [List.getElem?_toArray, List.getElem?_cons_zero, List.getElem?_cons_succ] at s0 s1 s2 s3 s4 s5 s6
  have H3 := Lib.hid (And.intro x0 (And.intro x1 (And.intro hb3 hz3)))
  clear x0 x1 hb3 hz3 b3 hes
  go_wp2_with fail
  refine (HL.out.2.1 w3 H3.out.2.2.1).mono ?_
  rintro e w4 ⟨rfl, b4⟩
  clear s0 s1 s2 s3 s4 s5 s6
  have x0 := (b4.block w.heap.size (by have := H3.out.2.2.2; omega)).trans H3.out.1
  have x1 := (b4.block (w.heap.size + 1) (by have := H3.out.2.2.2; omega)).trans H3.out.2.1
  have hb4 := H3.out.2.2.1.trans (b4.mono H3.out.2.2.1.size)
  have hds := fun j => Lib.cell_of_heap x0 j
  have r0 := hds 0; have r1 := hds 1; have r2 := hds 2; have r3 := hds 3; have r4 := hds 4; have r5 := hds 5; have r6 := hds 6
  have hes := fun j => Lib.cell_of_heap x1 j
  have s0 := hes 0; have s1 := hes 1; have s2 := hes 2; have s3 := hes 3; have s4 := hes 4; have s5 := hes 5; have s6 := hes 6
  simp only [List.getElem?_toArray, List.getElem?_cons_zero, List.getElem?_cons_succ] at r0 r1 r2 r3 r4 r5 r6 s0 s1 s2 s3 s4 s5 s6
  have H4 := Lib.hid hb4
  clear x0 x1 hb4 b4 hds hes
  go_wp2_with fail
  refine (HL.out.2.2 w4 H4.out).mono ?_
  rintro e w5 ⟨rfl, b5⟩
  have hb5 := H4.out.trans (b5.mono H4.out.size)
  clear b5
  go_wp2_with fail
  go_ret
  exact ⟨rfl, hb5⟩
end
end Go.Proofs.YtocnlapbkidinaaGreatDoor
namespace Go.Proofs.YtocnlapbkidinaaGreatDoor
section
open Go.RowKit
set_option maxRecDepth 100000

theorem ref_norm {a : LT} {M : Nat} {w : World} (hA : Held w M a) (hTa : Tame a) (W : World) (hb : Below w.heap.size w W) : Calls Tryz.prog 33 #[.agg #[.bool a.g, .slice a.la a.ln a.lc]] W (WGives W (zOf a.g (val a.ys))) := by
  have h1 : Wh W (.agg #[.bool a.g, .slice a.la a.ln a.lc]) (zOf a.g (val a.ys)) 35184372087808 := ⟨a.g, _, val a.ys, rfl, ⟨a.la, a.ln, a.lc, a.ys, rfl, (hA.1.1.below hb), rfl, ((tame_eq a).1 hTa).1⟩, rfl⟩
  exact rwnorm_num h1 (by omega)
theorem ref_bound {a : LT} {M K : Nat} {w : World} (hA : Held w M a) (hTa : Tame a) (hK : K = 35184372087808) : (zOf a.g (val a.ys)).natAbs < 4294967296 ^ K := by
  rw [zOf_abs]
  have h1 := val_lt hA.1.1.ok
  have h2 := hA.1.1.len
  have h3 := ((tame_eq a).1 hTa).1
  exact Nat.lt_of_lt_of_le h1 (Nat.pow_le_pow_right (by decide) (by omega))
set_option maxHeartbeats 1600000 in
theorem same_step (M N : Nat) (hN : N ≤ 1000000) (H : SameG M N) : SameG M (N + 1) := by
  intro a b ha hTa hTb w hM hA hB
  have hsa := a.size_eq
  have g1 := sizes_ge a.items
  have g2 := sizes_ge a.tail
  obtain ⟨ta1, ta2, ta3⟩ := (tame_eq a).1 hTa
  obtain ⟨tb1, tb2, tb3⟩ := (tame_eq b).1 hTb
  obtain ⟨K, hK⟩ : ∃ K, K = 35184372087808 := ⟨_, rfl⟩
  have hna := ref_norm hA hTa
  have hnb := ref_norm hB hTb
  have hka := ref_bound hA hTa hK
  have hkb := ref_bound hB hTb hK
  by_cases hk : a.k = b.k
  · by_cases hz : zOf a.g (val a.ys) = zOf b.g (val b.ys)
    · by_cases hbb : a.bb = b.bb
      · by_cases hs : a.s = b.s
        · by_cases hl : a.items.length = b.items.length
          · by_cases hm : a.tail.length = b.tail.length
            · have e : sameB a b = (samesB a.items b.items && samesB a.tail b.tail) := by
                rw [Bool.eq_iff_iff, sameB_iff, same_parts, Bool.and_eq_true, samesB_iff, samesB_iff]
                exact ⟨fun h => ⟨h.2.2.2.2.1, h.2.2.2.2.2⟩, fun h => ⟨hk, hz, hbb, hs, h.1, h.2⟩⟩
              have hB2 := hB.2
              rw [← hl, ← hm] at hB2
              rw [e, ← hk, ← hbb, ← hs, ← hl, ← hm]
              rw [← hz] at hnb hkb
              exact rs_walkG M N hN H a.k (zOf a.g (val a.ys)) a.g b.g a.bb a.s a.la b.la a.ia b.ia a.ta b.ta a.ln b.ln a.lc b.lc _ _ a.ic b.ic a.tc b.tc a.items b.items a.tail b.tail K (by omega) w hM rfl hl.symm rfl hm.symm (by omega) (by omega) ⟨⟨ta2, ta3⟩, tb2, tb3⟩ ⟨hna, hnb⟩ ⟨hka, hkb⟩ ⟨hA.2, hB2⟩
            · rw [← hk, ← hbb, ← hs, ← hl, sameB_no fun h => hm (cans_len (same_parts.1 h).2.2.2.2.2)]
              rw [← hz] at hnb hkb
              exact rs_no5 a.k b.k (zOf a.g (val a.ys)) (zOf b.g (val b.ys)) a.g b.g a.bb b.bb a.s b.s a.la b.la a.ia b.ia a.ta b.ta a.ln b.ln a.lc b.lc a.items.length b.items.length a.tail.length b.tail.length a.ic b.ic a.tc b.tc K (by omega) w ⟨hna, hnb⟩ ⟨hka, hkb⟩ (by omega)
          · rw [← hk, ← hbb, ← hs, sameB_no fun h => hl (cans_len (same_parts.1 h).2.2.2.2.1)]
            rw [← hz] at hnb hkb
            exact rs_no4 a.k b.k (zOf a.g (val a.ys)) (zOf b.g (val b.ys)) a.g b.g a.bb b.bb a.s b.s a.la b.la a.ia b.ia a.ta b.ta a.ln b.ln a.lc b.lc a.items.length b.items.length a.tail.length b.tail.length a.ic b.ic a.tc b.tc K (by omega) w ⟨hna, hnb⟩ ⟨hka, hkb⟩ (by omega)
        · rw [← hk, ← hbb, sameB_no fun h => hs (same_parts.1 h).2.2.2.1]
          rw [← hz] at hnb hkb
          exact rs_no3 a.k b.k (zOf a.g (val a.ys)) (zOf b.g (val b.ys)) a.g b.g a.bb b.bb a.s b.s a.la b.la a.ia b.ia a.ta b.ta a.ln b.ln a.lc b.lc a.items.length b.items.length a.tail.length b.tail.length a.ic b.ic a.tc b.tc K (by omega) w ⟨hna, hnb⟩ ⟨hka, hkb⟩ (bytes_ne hs)
      · rw [← hk, sameB_no fun h => hbb (same_parts.1 h).2.2.1]
        rw [← hz] at hnb hkb
        exact rs_no2 a.k b.k (zOf a.g (val a.ys)) (zOf b.g (val b.ys)) a.g b.g a.bb b.bb a.s b.s a.la b.la a.ia b.ia a.ta b.ta a.ln b.ln a.lc b.lc a.items.length b.items.length a.tail.length b.tail.length a.ic b.ic a.tc b.tc K (by omega) w ⟨hna, hnb⟩ ⟨hka, hkb⟩ hbb
    · rw [← hk, sameB_no fun h => hz (same_parts.1 h).2.1]
      exact rs_no1 a.k b.k (zOf a.g (val a.ys)) (zOf b.g (val b.ys)) a.g b.g a.bb b.bb a.s b.s a.la b.la a.ia b.ia a.ta b.ta a.ln b.ln a.lc b.lc a.items.length b.items.length a.tail.length b.tail.length a.ic b.ic a.tc b.tc K (by omega) w ⟨hna, hnb⟩ ⟨hka, hkb⟩ hz
  · rw [sameB_no fun h => hk (same_parts.1 h).1]
    exact rs_no0 a.k b.k (zOf a.g (val a.ys)) (zOf b.g (val b.ys)) a.g b.g a.bb b.bb a.s b.s a.la b.la a.ia b.ia a.ta b.ta a.ln b.ln a.lc b.lc a.items.length b.items.length a.tail.length b.tail.length a.ic b.ic a.tc b.tc K (by omega) w ⟨hna, hnb⟩ ⟨hka, hkb⟩ hk
theorem sameG_all (M : Nat) (N : Nat) (hN : N ≤ 1000000) : SameG M N := by
  induction N with
  | zero => intro a _ ha; rw [a.size_eq] at ha; omega
  | succ N ih => exact same_step M N (by omega) (ih (by omega))
end
end Go.Proofs.YtocnlapbkidinaaGreatDoor
