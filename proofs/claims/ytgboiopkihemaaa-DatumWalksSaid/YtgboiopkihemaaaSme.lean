/-
  datum.Same of two data of one shape.
-/
import Derived.Test.YtgboiopkihemaaaAlk
import Derived.Test.YtgboiopkihemaaaTmd
namespace Go.Proofs.Ytgboiopkihemaaa
open Go.RowKit

set_option maxRecDepth 100000 in
set_option maxHeartbeats 6400000 in
theorem same_yes (M : Nat) (a b : LT) (hs : shape a = shape b) (h1 : a.size ≤ 100000) (h2 : a.depth ≤ 10000) (hTa : Tame a) (hTb : Tame b) (w : World) (hM : M ≤ w.heap.size) (hA : Held w M a) (hB : Held w M b) :
    Calls Try.prog 15 #[.agg #[.int .i64 a.k, .bool a.g, .slice a.la a.ln a.lc, .bool a.bb, .string a.s, .slice a.ia a.items.length a.ic, .slice a.ta a.tail.length a.tc], .agg #[.int .i64 b.k, .bool b.g, .slice b.la b.ln b.lc, .bool b.bb, .string b.s, .slice b.ia b.items.length b.ic, .slice b.ta b.tail.length b.tc]] w fun e w' => e = .returned (.bool true) ∧ Below w.heap.size w w' := by
  obtain ⟨w2, hw2, a0, a1, hz, hbel⟩ := two2 w (Obj.cells #[.int .i64 a.k, .bool a.g, .slice a.la a.ln a.lc, .bool a.bb, .string a.s, .slice a.ia a.items.length a.ic, .slice a.ta a.tail.length a.tc] 27) (Obj.cells #[.int .i64 b.k, .bool b.g, .slice b.la b.ln b.lc, .bool b.bb, .string b.s, .slice b.ia b.items.length b.ic, .slice b.ta b.tail.length b.tc] 27)
  have hla := fun W (hb : Below w.heap.size w W) => isLooked_any a M W (hA.below hM hb) (Nat.le_trans hM hb.size) h1 h2
  have hlb := fun W (hb : Below w.heap.size w W) => isLooked_any b M W (hB.below hM hb) (Nat.le_trans hM hb.size) (by rw [← size_same hs]; exact h1) (by rw [← depth_same hs]; exact h2)
  have hal := fun W (hb : Below w.heap.size w W) => alike_same M 100000 (by decide) a b h1 hs hTa hTb W (Nat.le_trans hM hb.size) (hA.below hM hb) (hB.below hM hb)
  unfold LT.cells at hla hlb
  have HL := Lib.hid (And.intro hla (And.intro hlb hal))
  have HW := Lib.hid (And.intro hw2 (And.intro a0 (And.intro a1 (And.intro hz hbel))))
  clear hla hlb hal hw2 a0 a1 hz hbel hA hB hTa hTb hs
  go_enter Try.func15, Try.ntmps15
  go_wp2_with fail
  rw [← HW.out.1]
  refine (HL.out.1 w2 HW.out.2.2.2.2).mono ?_
  rintro e w3 ⟨rfl, b3⟩
  have x0 := (b3.block w.heap.size (by rw [HW.out.2.2.2.1]; omega)).trans HW.out.2.1
  have x1 := (b3.block (w.heap.size + 1) (by rw [HW.out.2.2.2.1]; omega)).trans HW.out.2.2.1
  have hb3 := HW.out.2.2.2.2.trans (b3.mono HW.out.2.2.2.2.size)
  have hz3 : w.heap.size + 2 ≤ w3.heap.size := by have := b3.size; rwa [HW.out.2.2.2.1] at this
  have hes := fun j => Lib.cell_of_heap x1 j
  have s0 := hes 0; have s1 := hes 1; have s2 := hes 2; have s3 := hes 3; have s4 := hes 4; have s5 := hes 5; have s6 := hes 6
  simp only [List.getElem?_toArray, List.getElem?_cons_zero, List.getElem?_cons_succ] at s0 s1 s2 s3 s4 s5 s6
  have H3 := Lib.hid (And.intro x0 (And.intro x1 (And.intro hb3 hz3)))
  clear x0 x1 hb3 hz3 b3 hes
  go_wp2_with fail
  refine (HL.out.2.1 w3 H3.out.2.2.1).mono ?_
  rintro e w4 ⟨rfl, b4⟩
  clear s0 s1 s2 s3 s4 s5 s6
  have x0 := (b4.block w.heap.size (by have := H3.out.2.2.2; omega)).trans H3.out.1
  have x1 := (b4.block (w.heap.size + 1) (by have := H3.out.2.2.2; omega)).trans H3.out.2.1
  have hb4 := H3.out.2.2.1.trans (b4.mono H3.out.2.2.1.size)
  have hds := fun j => Lib.cell_of_heap x0 j
  have r0 := hds 0; have r1 := hds 1; have r2 := hds 2; have r3 := hds 3; have r4 := hds 4; have r5 := hds 5; have r6 := hds 6
  have hes := fun j => Lib.cell_of_heap x1 j
  have s0 := hes 0; have s1 := hes 1; have s2 := hes 2; have s3 := hes 3; have s4 := hes 4; have s5 := hes 5; have s6 := hes 6
  simp only [List.getElem?_toArray, List.getElem?_cons_zero, List.getElem?_cons_succ] at r0 r1 r2 r3 r4 r5 r6 s0 s1 s2 s3 s4 s5 s6
  have H4 := Lib.hid hb4
  clear x0 x1 hb4 b4 hds hes
  go_wp2_with fail
  refine (HL.out.2.2 w4 H4.out).mono ?_
  rintro e w5 ⟨rfl, b5⟩
  have hb5 := H4.out.trans (b5.mono H4.out.size)
  clear b5
  go_wp2_with fail
  go_ret
  exact ⟨rfl, hb5⟩
end Go.Proofs.Ytgboiopkihemaaa
