/-
  datum.goodAlone, walked.
-/
import Derived.Test.YtgboiopkihemaaaGda
import Derived.Test.YtgboiopkihemaaaAlk
import Derived.Deep.RegionLaw
namespace Go.Proofs.Ytgboiopkihemaaa
open Go.RowKit

theorem two2d (w : World) (A B : Obj) : ∃ w2, w2 = ((w.alloc A).alloc B).drew ∧ w2.heap[w.heap.size]? = some A ∧ w2.heap[w.heap.size + 1]? = some B ∧ w2.heap.size = w.heap.size + 2 ∧ Below w.heap.size w w2 := by
  obtain ⟨w2, rfl, h1, h2, h3, h4⟩ := two2 w A B
  exact ⟨_, rfl, h1, h2, h3, h4.drew⟩

set_option maxRecDepth 100000 in
set_option maxHeartbeats 3200000 in
theorem alone_0 (g bb : Bool) (s : ByteArray) (la ia ta : Option Addr) (ln lc n ic n' tc : Nat) (w : World) :
    Calls Try.prog 46 #[.agg #[.int .i64 0, .bool g, .slice la ln lc, .bool bb, .string s, .slice ia n ic, .slice ta n' tc]] w fun e w' => ∃ r : Bool, e = .returned (.bool r) ∧ (r = true → g = false ∧ ln = 0 ∧ bb = false ∧ s = ⟨#[]⟩ ∧ n = 0 ∧ n' = 0) ∧ Below w.heap.size w w' := by
  obtain ⟨w2, hw2, _, _, _, hbel⟩ := two2d w (.cells #[.int .i64 0, .bool g, .slice la ln lc, .bool bb, .string s, .slice ia n ic, .slice ta n' tc] 27) (.cells #[.int .i64 0, .bool g, .slice la ln lc, .bool bb, .string s, .slice ia n ic, .slice ta n' tc] 27)
  have HZ := Lib.hid (isZero_any 0 g bb s la ia ta ln lc n ic n' tc)
  have HW := Lib.hid hw2
  have HB := Lib.hid hbel
  clear hw2 hbel
  go_enter Try.func46, Try.ntmps46
  go_wp2_with fail
  go_region
  go_wp2_with fail
  rw [← HW.out]
  refine (HZ.out w2).mono ?_
  rintro e w3 ⟨r, rfl, hr, b3⟩
  have hb3 := HB.out.trans (b3.mono HB.out.size)
  have HR := Lib.hid hr
  clear hr b3
  go_wp2_with fail
  go_ret
  exact ⟨r, rfl, fun h => (by obtain ⟨x1, x2, x3, x4, x5, x6⟩ := HR.out h; simp_all), hb3⟩

set_option maxRecDepth 100000 in
set_option maxHeartbeats 3200000 in
theorem alone_2 (g bb : Bool) (s : ByteArray) (la ia ta : Option Addr) (ln lc n ic n' tc : Nat) (w : World) :
    Calls Try.prog 46 #[.agg #[.int .i64 2, .bool g, .slice la ln lc, .bool bb, .string s, .slice ia n ic, .slice ta n' tc]] w fun e w' => ∃ r : Bool, e = .returned (.bool r) ∧ (r = true → g = false ∧ ln = 0 ∧ s = ⟨#[]⟩ ∧ n = 0 ∧ n' = 0) ∧ Below w.heap.size w w' := by
  obtain ⟨w2, hw2, _, _, _, hbel⟩ := two2d w (.cells #[.int .i64 2, .bool g, .slice la ln lc, .bool bb, .string s, .slice ia n ic, .slice ta n' tc] 27) (.cells #[.int .i64 2, .bool g, .slice la ln lc, .bool false, .string s, .slice ia n ic, .slice ta n' tc] 27)
  have HZ := Lib.hid (isZero_any 2 g false s la ia ta ln lc n ic n' tc)
  have HW := Lib.hid hw2
  have HB := Lib.hid hbel
  clear hw2 hbel
  go_enter Try.func46, Try.ntmps46
  go_wp2_with fail
  go_region
  go_wp2_with fail
  rw [← HW.out]
  refine (HZ.out w2).mono ?_
  rintro e w3 ⟨r, rfl, hr, b3⟩
  have hb3 := HB.out.trans (b3.mono HB.out.size)
  have HR := Lib.hid hr
  clear hr b3
  go_wp2_with fail
  go_ret
  exact ⟨r, rfl, fun h => (by obtain ⟨x1, x2, x3, x4, x5, x6⟩ := HR.out h; simp_all), hb3⟩

set_option maxRecDepth 100000 in
set_option maxHeartbeats 3200000 in
theorem alone_3y (g bb : Bool) (s : ByteArray) (la ia ta : Option Addr) (ln lc n ic n' tc : Nat) (w : World) (q1 : ¬ s.toList = []) (q2 : decide ((s.size : Int) ≤ 64) = true) :
    Calls Try.prog 46 #[.agg #[.int .i64 3, .bool g, .slice la ln lc, .bool bb, .string s, .slice ia n ic, .slice ta n' tc]] w fun e w' => ∃ r : Bool, e = .returned (.bool r) ∧ (r = true → g = false ∧ ln = 0 ∧ bb = false ∧ n = 0 ∧ n' = 0) ∧ Below w.heap.size w w' := by
  obtain ⟨w2, hw2, _, _, _, hbel⟩ := two2d w (.cells #[.int .i64 3, .bool g, .slice la ln lc, .bool bb, .string s, .slice ia n ic, .slice ta n' tc] 27) (.cells #[.int .i64 3, .bool g, .slice la ln lc, .bool bb, .string ⟨#[]⟩, .slice ia n ic, .slice ta n' tc] 27)
  have HZ := Lib.hid (isZero_any 3 g bb ⟨#[]⟩ la ia ta ln lc n ic n' tc)
  have HW := Lib.hid hw2
  have HB := Lib.hid hbel
  clear hw2 hbel
  go_enter Try.func46, Try.ntmps46
  go_wp2_with fail
  go_region
  go_wp2_with fail
  rw [← HW.out]
  refine (HZ.out w2).mono ?_
  rintro e w3 ⟨r, rfl, hr, b3⟩
  have hb3 := HB.out.trans (b3.mono HB.out.size)
  have HR := Lib.hid hr
  clear hr b3
  go_wp2_with fail
  go_ret
  exact ⟨r, (by first | rfl | (show Ending.returned (Value.bool (!s.toList.isEmpty && r)) = _; rw [show s.toList.isEmpty = false by simpa using q1]; simp)), fun h => (by obtain ⟨x1, x2, x3, x4, x5, x6⟩ := HR.out h; simp_all), hb3⟩

set_option maxRecDepth 100000 in
set_option maxHeartbeats 3200000 in
theorem alone_3n (g bb : Bool) (s : ByteArray) (la ia ta : Option Addr) (ln lc n ic n' tc : Nat) (w : World) (q1 : ¬ s.toList = []) (q2 : decide ((s.size : Int) ≤ 64) = false) :
    Calls Try.prog 46 #[.agg #[.int .i64 3, .bool g, .slice la ln lc, .bool bb, .string s, .slice ia n ic, .slice ta n' tc]] w fun e w' => ∃ r : Bool, e = .returned (.bool r) ∧ (r = true → g = false ∧ ln = 0 ∧ bb = false ∧ n = 0 ∧ n' = 0) ∧ Below w.heap.size w w' := by
  obtain ⟨w2, hw2, _, _, _, hbel⟩ := two2d w (.cells #[.int .i64 3, .bool g, .slice la ln lc, .bool bb, .string s, .slice ia n ic, .slice ta n' tc] 27) (.cells #[.int .i64 3, .bool g, .slice la ln lc, .bool bb, .string ⟨#[]⟩, .slice ia n ic, .slice ta n' tc] 27)
  have HW := Lib.hid hw2
  have HB := Lib.hid hbel
  clear hw2 hbel
  go_enter Try.func46, Try.ntmps46
  go_wp2_with fail
  go_region
  go_wp2_with fail
  go_ret
  exact ⟨false, rfl, fun h => (by cases h), by rw [← HW.out]; exact HB.out⟩

set_option maxRecDepth 100000 in
set_option maxHeartbeats 3200000 in
theorem alone_4y (g bb : Bool) (s : ByteArray) (la ia ta : Option Addr) (ln lc n ic n' tc : Nat) (w : World) (q2 : decide ((s.size : Int) ≤ 1024) = true) :
    Calls Try.prog 46 #[.agg #[.int .i64 4, .bool g, .slice la ln lc, .bool bb, .string s, .slice ia n ic, .slice ta n' tc]] w fun e w' => ∃ r : Bool, e = .returned (.bool r) ∧ (r = true → g = false ∧ ln = 0 ∧ bb = false ∧ n = 0 ∧ n' = 0) ∧ Below w.heap.size w w' := by
  obtain ⟨w2, hw2, _, _, _, hbel⟩ := two2d w (.cells #[.int .i64 4, .bool g, .slice la ln lc, .bool bb, .string s, .slice ia n ic, .slice ta n' tc] 27) (.cells #[.int .i64 4, .bool g, .slice la ln lc, .bool bb, .string ⟨#[]⟩, .slice ia n ic, .slice ta n' tc] 27)
  have HZ := Lib.hid (isZero_any 4 g bb ⟨#[]⟩ la ia ta ln lc n ic n' tc)
  have HW := Lib.hid hw2
  have HB := Lib.hid hbel
  clear hw2 hbel
  go_enter Try.func46, Try.ntmps46
  go_wp2_with fail
  go_region
  go_wp2_with fail
  rw [← HW.out]
  refine (HZ.out w2).mono ?_
  rintro e w3 ⟨r, rfl, hr, b3⟩
  have hb3 := HB.out.trans (b3.mono HB.out.size)
  have HR := Lib.hid hr
  clear hr b3
  go_wp2_with fail
  go_ret
  exact ⟨r, rfl, fun h => (by obtain ⟨x1, x2, x3, x4, x5, x6⟩ := HR.out h; simp_all), hb3⟩

set_option maxRecDepth 100000 in
set_option maxHeartbeats 3200000 in
theorem alone_4n (g bb : Bool) (s : ByteArray) (la ia ta : Option Addr) (ln lc n ic n' tc : Nat) (w : World) (q2 : decide ((s.size : Int) ≤ 1024) = false) :
    Calls Try.prog 46 #[.agg #[.int .i64 4, .bool g, .slice la ln lc, .bool bb, .string s, .slice ia n ic, .slice ta n' tc]] w fun e w' => ∃ r : Bool, e = .returned (.bool r) ∧ (r = true → g = false ∧ ln = 0 ∧ bb = false ∧ n = 0 ∧ n' = 0) ∧ Below w.heap.size w w' := by
  obtain ⟨w2, hw2, _, _, _, hbel⟩ := two2d w (.cells #[.int .i64 4, .bool g, .slice la ln lc, .bool bb, .string s, .slice ia n ic, .slice ta n' tc] 27) (.cells #[.int .i64 4, .bool g, .slice la ln lc, .bool bb, .string ⟨#[]⟩, .slice ia n ic, .slice ta n' tc] 27)
  have HW := Lib.hid hw2
  have HB := Lib.hid hbel
  clear hw2 hbel
  go_enter Try.func46, Try.ntmps46
  go_wp2_with fail
  go_region
  go_wp2_with fail
  go_ret
  exact ⟨false, rfl, fun h => (by cases h), by rw [← HW.out]; exact HB.out⟩

set_option maxRecDepth 100000 in
set_option maxHeartbeats 3200000 in
theorem alone_3e (g bb : Bool) (la ia ta : Option Addr) (ln lc n ic n' tc : Nat) (w : World) :
    Calls Try.prog 46 #[.agg #[.int .i64 3, .bool g, .slice la ln lc, .bool bb, .string ⟨#[]⟩, .slice ia n ic, .slice ta n' tc]] w fun e w' => ∃ r : Bool, e = .returned (.bool r) ∧ (r = true → g = false ∧ ln = 0 ∧ bb = false ∧ n = 0 ∧ n' = 0) ∧ Below w.heap.size w w' := by
  obtain ⟨w2, hw2, _, _, _, hbel⟩ := two2d w (.cells #[.int .i64 3, .bool g, .slice la ln lc, .bool bb, .string ⟨#[]⟩, .slice ia n ic, .slice ta n' tc] 27) (.cells #[.int .i64 3, .bool g, .slice la ln lc, .bool bb, .string ⟨#[]⟩, .slice ia n ic, .slice ta n' tc] 27)
  have HW := Lib.hid hw2
  have HB := Lib.hid hbel
  clear hw2 hbel
  go_enter Try.func46, Try.ntmps46
  go_wp2_with fail
  go_region
  go_wp2_with fail
  go_ret
  exact ⟨false, rfl, fun h => (by cases h), by rw [← HW.out]; exact HB.out⟩

set_option maxRecDepth 100000 in
set_option maxHeartbeats 3200000 in
theorem alone_x (k : Int) (g bb : Bool) (s : ByteArray) (la ia ta : Option Addr) (ln lc n ic n' tc : Nat) (w : World) (e0 : (k == 0) = false) (e1 : (k == 1) = false) (e2 : (k == 2) = false) (e3 : (k == 3) = false) (e4 : (k == 4) = false) (e5 : (k == 5) = false) :
    Calls Try.prog 46 #[.agg #[.int .i64 k, .bool g, .slice la ln lc, .bool bb, .string s, .slice ia n ic, .slice ta n' tc]] w fun e w' => ∃ r : Bool, e = .returned (.bool r) ∧ (r = true → g = false ∧ ln = 0 ∧ bb = false ∧ s = ⟨#[]⟩ ∧ n = 0 ∧ n' = 0) ∧ Below w.heap.size w w' := by
  obtain ⟨w2, hw2, _, _, _, hbel⟩ := two2d w (.cells #[.int .i64 k, .bool g, .slice la ln lc, .bool bb, .string s, .slice ia n ic, .slice ta n' tc] 27) (.cells #[.int .i64 k, .bool g, .slice la ln lc, .bool bb, .string s, .slice ia n ic, .slice ta n' tc] 27)
  have HW := Lib.hid hw2
  have HB := Lib.hid hbel
  clear hw2 hbel
  go_enter Try.func46, Try.ntmps46
  go_wp2_with fail
  go_region
  go_wp2_with fail
  go_ret
  exact ⟨false, rfl, fun h => (by cases h), by rw [← HW.out]; exact HB.out⟩

set_option maxRecDepth 100000 in
set_option maxHeartbeats 6400000 in
theorem alone_1y (g bb : Bool) (s : ByteArray) (la ia ta : Option Addr) (ln lc n ic n' tc : Nat) (w : World) (hC : ∀ W, Below w.heap.size w W → Calls Try.prog 72 #[.agg #[.bool g, .slice la ln lc]] W fun e W' => e = .returned (.bool true) ∧ Below W.heap.size W W') (q : decide ((ln : Int) ≤ 64) = true) :
    Calls Try.prog 46 #[.agg #[.int .i64 1, .bool g, .slice la ln lc, .bool bb, .string s, .slice ia n ic, .slice ta n' tc]] w fun e w' => ∃ r : Bool, e = .returned (.bool r) ∧ (r = true → bb = false ∧ s = ⟨#[]⟩ ∧ n = 0 ∧ n' = 0) ∧ Below w.heap.size w w' := by
  obtain ⟨w2, hw2, a0, a1, hz, hbel⟩ := two2d w (.cells #[.int .i64 1, .bool g, .slice la ln lc, .bool bb, .string s, .slice ia n ic, .slice ta n' tc] 27) (.cells #[.int .i64 1, .bool g, .slice la ln lc, .bool bb, .string s, .slice ia n ic, .slice ta n' tc] 27)
  have HW := Lib.hid hw2
  have HC := Lib.hid hC
  have HB := Lib.hid (And.intro a0 (And.intro a1 (And.intro hz hbel)))
  clear hw2 hbel a0 a1 hz hC
  go_enter Try.func46, Try.ntmps46
  go_wp2_with fail
  go_region
  go_wp2_with fail
  rw [← HW.out]
  refine (HC.out w2 HB.out.2.2.2).mono ?_
  rintro e w3 ⟨rfl, b3⟩
  have x0 := (b3.block w.heap.size (by rw [HB.out.2.2.1]; omega)).trans HB.out.1
  have x1 := (b3.block (w.heap.size + 1) (by rw [HB.out.2.2.1]; omega)).trans HB.out.2.1
  have hb3 := HB.out.2.2.2.trans (b3.mono HB.out.2.2.2.size)
  have hds := fun j => Lib.cell_of_heap x1 j
  have c0 := hds 0; have c1 := hds 1; have c2 := hds 2; have c3 := hds 3; have c4 := hds 4; have c5 := hds 5; have c6 := hds 6
  have hfs := fun j => Lib.frozen_of_heap x1 j
  have f1 := hfs 1; have f2 := hfs 2; have f5 := hfs 5; have f6 := hfs 6
  have e2 := Lib.cell_of_heap x0 2
  simp only [List.getElem?_toArray, List.getElem?_cons_zero, List.getElem?_cons_succ] at c0 c1 c2 c3 c4 c5 c6 e2
  have H3 := Lib.hid (And.intro hb3 (show w.heap.size + 2 ≤ w3.heap.size by have := b3.size; rwa [HB.out.2.2.1] at this))
  clear x0 x1 hb3 b3 hds hfs HW HC
  have HZ := Lib.hid (isZero_any 1 false bb s none ia ta 0 0 n ic n' tc)
  go_wp2_with fail
  refine (HZ.out _).mono ?_
  rintro e w4 ⟨r, rfl, hr, b4⟩
  have hb4 : Below w.heap.size w w4 := by
    refine Below.trans ?_ (b4.mono (by simp only [setCell_size]; exact Nat.le_trans (by omega) H3.out.2))
    exact (H3.out.1.setCell (p := ⟨w.heap.size + 1, 1, none⟩) (by show w.heap.size ≤ w.heap.size + 1; omega) _).setCell (p := ⟨w.heap.size + 1, 2, none⟩) (by show w.heap.size ≤ w.heap.size + 1; omega) _
  have HR := Lib.hid hr
  clear hr b4
  go_wp2_with fail
  go_ret
  exact ⟨r, rfl, fun h => (by obtain ⟨x1, x2, x3, x4, x5, x6⟩ := HR.out h; simp_all), hb4⟩

set_option maxRecDepth 100000 in
set_option maxHeartbeats 6400000 in
theorem alone_1m (g bb : Bool) (s : ByteArray) (la ia ta : Option Addr) (ln lc n ic n' tc : Nat) (w : World) (hC : ∀ W, Below w.heap.size w W → Calls Try.prog 72 #[.agg #[.bool g, .slice la ln lc]] W fun e W' => e = .returned (.bool true) ∧ Below W.heap.size W W') (q : decide ((ln : Int) ≤ 64) = false) :
    Calls Try.prog 46 #[.agg #[.int .i64 1, .bool g, .slice la ln lc, .bool bb, .string s, .slice ia n ic, .slice ta n' tc]] w fun e w' => ∃ r : Bool, e = .returned (.bool r) ∧ (r = true → bb = false ∧ s = ⟨#[]⟩ ∧ n = 0 ∧ n' = 0) ∧ Below w.heap.size w w' := by
  obtain ⟨w2, hw2, a0, a1, hz, hbel⟩ := two2d w (.cells #[.int .i64 1, .bool g, .slice la ln lc, .bool bb, .string s, .slice ia n ic, .slice ta n' tc] 27) (.cells #[.int .i64 1, .bool g, .slice la ln lc, .bool bb, .string s, .slice ia n ic, .slice ta n' tc] 27)
  have HW := Lib.hid hw2
  have HC := Lib.hid hC
  have HB := Lib.hid (And.intro a0 (And.intro a1 (And.intro hz hbel)))
  clear hw2 hbel a0 a1 hz hC
  go_enter Try.func46, Try.ntmps46
  go_wp2_with fail
  go_region
  go_wp2_with fail
  rw [← HW.out]
  refine (HC.out w2 HB.out.2.2.2).mono ?_
  rintro e w3 ⟨rfl, b3⟩
  have x0 := (b3.block w.heap.size (by rw [HB.out.2.2.1]; omega)).trans HB.out.1
  have x1 := (b3.block (w.heap.size + 1) (by rw [HB.out.2.2.1]; omega)).trans HB.out.2.1
  have hb3 := HB.out.2.2.2.trans (b3.mono HB.out.2.2.2.size)
  have hds := fun j => Lib.cell_of_heap x1 j
  have c0 := hds 0; have c1 := hds 1; have c2 := hds 2; have c3 := hds 3; have c4 := hds 4; have c5 := hds 5; have c6 := hds 6
  have hfs := fun j => Lib.frozen_of_heap x1 j
  have f1 := hfs 1; have f2 := hfs 2; have f5 := hfs 5; have f6 := hfs 6
  have e2 := Lib.cell_of_heap x0 2
  simp only [List.getElem?_toArray, List.getElem?_cons_zero, List.getElem?_cons_succ] at c0 c1 c2 c3 c4 c5 c6 e2
  have H3 := Lib.hid (And.intro hb3 (show w.heap.size + 2 ≤ w3.heap.size by have := b3.size; rwa [HB.out.2.2.1] at this))
  clear x0 x1 hb3 b3 hds hfs HW HC
  go_wp2_with fail
  go_ret
  exact ⟨false, rfl, fun h => (by cases h), (H3.out.1.setCell (p := ⟨w.heap.size + 1, 1, none⟩) (by show w.heap.size ≤ w.heap.size + 1; omega) _).setCell (p := ⟨w.heap.size + 1, 2, none⟩) (by show w.heap.size ≤ w.heap.size + 1; omega) _⟩

set_option maxRecDepth 100000 in
set_option maxHeartbeats 6400000 in
theorem alone_1n (g bb : Bool) (s : ByteArray) (la ia ta : Option Addr) (ln lc n ic n' tc : Nat) (w : World) (hC : ∀ W, Below w.heap.size w W → Calls Try.prog 72 #[.agg #[.bool g, .slice la ln lc]] W fun e W' => e = .returned (.bool false) ∧ Below W.heap.size W W') :
    Calls Try.prog 46 #[.agg #[.int .i64 1, .bool g, .slice la ln lc, .bool bb, .string s, .slice ia n ic, .slice ta n' tc]] w fun e w' => e = .returned (.bool false) ∧ Below w.heap.size w w' := by
  obtain ⟨w2, hw2, a0, a1, hz, hbel⟩ := two2d w (.cells #[.int .i64 1, .bool g, .slice la ln lc, .bool bb, .string s, .slice ia n ic, .slice ta n' tc] 27) (.cells #[.int .i64 1, .bool g, .slice la ln lc, .bool bb, .string s, .slice ia n ic, .slice ta n' tc] 27)
  have HW := Lib.hid hw2
  have HC := Lib.hid hC
  have HB := Lib.hid (And.intro a0 (And.intro a1 (And.intro hz hbel)))
  clear hw2 hbel a0 a1 hz hC
  go_enter Try.func46, Try.ntmps46
  go_wp2_with fail
  go_region
  go_wp2_with fail
  rw [← HW.out]
  refine (HC.out w2 HB.out.2.2.2).mono ?_
  rintro e w3 ⟨rfl, b3⟩
  have x0 := (b3.block w.heap.size (by rw [HB.out.2.2.1]; omega)).trans HB.out.1
  have x1 := (b3.block (w.heap.size + 1) (by rw [HB.out.2.2.1]; omega)).trans HB.out.2.1
  have hb3 := HB.out.2.2.2.trans (b3.mono HB.out.2.2.2.size)
  have hds := fun j => Lib.cell_of_heap x1 j
  have c0 := hds 0; have c1 := hds 1; have c2 := hds 2; have c3 := hds 3; have c4 := hds 4; have c5 := hds 5; have c6 := hds 6
  have hfs := fun j => Lib.frozen_of_heap x1 j
  have f1 := hfs 1; have f2 := hfs 2; have f5 := hfs 5; have f6 := hfs 6
  have e2 := Lib.cell_of_heap x0 2
  simp only [List.getElem?_toArray, List.getElem?_cons_zero, List.getElem?_cons_succ] at c0 c1 c2 c3 c4 c5 c6 e2
  have H3 := Lib.hid (And.intro hb3 (show w.heap.size + 2 ≤ w3.heap.size by have := b3.size; rwa [HB.out.2.2.1] at this))
  clear x0 x1 hb3 b3 hds hfs HW HC
  go_wp2_with fail
  go_ret
  exact ⟨rfl, (H3.out.1.setCell (p := ⟨w.heap.size + 1, 1, none⟩) (by show w.heap.size ≤ w.heap.size + 1; omega) _).setCell (p := ⟨w.heap.size + 1, 2, none⟩) (by show w.heap.size ≤ w.heap.size + 1; omega) _⟩

set_option maxRecDepth 100000 in
set_option maxHeartbeats 6400000 in
theorem alone_5 (g bb : Bool) (s : ByteArray) (la ia ta : Option Addr) (ln lc n ic n' tc : Nat) (w : World) (Q : Prop) (hC : ∀ W, Below w.heap.size w W → Calls Try.prog 73 #[.agg #[.int .i64 5, .bool g, .slice la ln lc, .bool bb, .string s, .slice ia n ic, .slice ta n' tc]] W fun e W' => ∃ r : Bool, e = .returned (.bool r) ∧ (r = true → Q) ∧ Below W.heap.size W W') :
    Calls Try.prog 46 #[.agg #[.int .i64 5, .bool g, .slice la ln lc, .bool bb, .string s, .slice ia n ic, .slice ta n' tc]] w fun e w' => ∃ r : Bool, e = .returned (.bool r) ∧ (r = true → Q ∧ g = false ∧ ln = 0 ∧ bb = false ∧ s = ⟨#[]⟩) ∧ Below w.heap.size w w' := by
  obtain ⟨w2, hw2, a0, a1, hz, hbel⟩ := two2d w (.cells #[.int .i64 5, .bool g, .slice la ln lc, .bool bb, .string s, .slice ia n ic, .slice ta n' tc] 27) (.cells #[.int .i64 5, .bool g, .slice la ln lc, .bool bb, .string s, .slice ia n ic, .slice ta n' tc] 27)
  have HW := Lib.hid hw2
  have HC := Lib.hid hC
  have HB := Lib.hid (And.intro a0 (And.intro a1 (And.intro hz hbel)))
  clear hw2 hbel a0 a1 hz hC
  go_enter Try.func46, Try.ntmps46
  go_wp2_with fail
  go_region
  go_wp2_with fail
  rw [← HW.out]
  refine (HC.out w2 HB.out.2.2.2).mono ?_
  rintro e w3 ⟨q, rfl, hq, b3⟩
  have x0 := (b3.block w.heap.size (by rw [HB.out.2.2.1]; omega)).trans HB.out.1
  have x1 := (b3.block (w.heap.size + 1) (by rw [HB.out.2.2.1]; omega)).trans HB.out.2.1
  have hb3 := HB.out.2.2.2.trans (b3.mono HB.out.2.2.2.size)
  have hds := fun j => Lib.cell_of_heap x1 j
  have c0 := hds 0; have c1 := hds 1; have c2 := hds 2; have c3 := hds 3; have c4 := hds 4; have c5 := hds 5; have c6 := hds 6
  have hfs := fun j => Lib.frozen_of_heap x1 j
  have f1 := hfs 1; have f2 := hfs 2; have f5 := hfs 5; have f6 := hfs 6
  have e2 := Lib.cell_of_heap x0 2
  simp only [List.getElem?_toArray, List.getElem?_cons_zero, List.getElem?_cons_succ] at c0 c1 c2 c3 c4 c5 c6 e2
  have H3 := Lib.hid (And.intro hb3 (show w.heap.size + 2 ≤ w3.heap.size by have := b3.size; rwa [HB.out.2.2.1] at this))
  clear x0 x1 hb3 b3 hds hfs HW HC
  have HZ := Lib.hid (isZero_any 5 g bb s la none none ln lc 0 0 0 0)
  have HQ := Lib.hid hq
  clear hq
  cases q
  case false =>
    go_wp2_with fail
    go_ret
    exact ⟨false, rfl, fun h => (by cases h), (H3.out.1.setCell (p := ⟨w.heap.size + 1, 5, none⟩) (by show w.heap.size ≤ w.heap.size + 1; omega) _).setCell (p := ⟨w.heap.size + 1, 6, none⟩) (by show w.heap.size ≤ w.heap.size + 1; omega) _⟩
  case true =>
    go_wp2_with fail
    refine (HZ.out _).mono ?_
    rintro e w4 ⟨r, rfl, hr, b4⟩
    have hb4 : Below w.heap.size w w4 := by
      refine Below.trans ?_ (b4.mono (by simp only [setCell_size]; exact Nat.le_trans (by omega) H3.out.2))
      exact (H3.out.1.setCell (p := ⟨w.heap.size + 1, 5, none⟩) (by show w.heap.size ≤ w.heap.size + 1; omega) _).setCell (p := ⟨w.heap.size + 1, 6, none⟩) (by show w.heap.size ≤ w.heap.size + 1; omega) _
    have HR := Lib.hid hr
    clear hr b4
    go_wp2_with fail
    go_ret
    exact ⟨r, rfl, fun h => (by obtain ⟨x1, x2, x3, x4, x5, x6⟩ := HR.out h; exact ⟨HQ.out (by trivial), x1, x2, x3, x4⟩), hb4⟩

end Go.Proofs.Ytgboiopkihemaaa
