/-
  The laws' lives: the document's examples are as it says.
-/
import Derived.Test.YtabdnlhehickoaaDoorWhS
import Derived.Test.YtabdnlhehickoaaDoorWhT
namespace Go.Proofs.YtabdnlhehickoaaDoor
open Go.RowKit
theorem twoVars (w : World) (s x t y : Value) : ∃ W, W = (w.alloc (.cells #[s, x] 36)).alloc (.cells #[t, y] 36) ∧ Var W w.heap.size s x ∧ Var W (w.heap.size + 1) t y ∧ Below w.heap.size w W := enter2 w s x t y
theorem txm3 : wtxt (-3) = [45, 51] := by decide +kernel
theorem txm1 : wtxt (-1) = [45, 49] := by decide +kernel
theorem txm4 : wtxt (-4) = [45, 52] := by decide +kernel
theorem tx1 : wtxt 1 = [49] := by decide +kernel
theorem tx4 : wtxt 4 = [52] := by decide +kernel
set_option maxHeartbeats 3200000 in
theorem wlives_yes (w : World) : Calls Tryd.prog 22 #[] w fun e w' => e = .returned (.bool true) ∧ Below w.heap.size w w' := by
  have hb : Below w.heap.size w w := Below.refl _ _
  go_enter Tryd.func22, Tryd.ntmps22
  go_wp2_with fail
  refine (wof_num (-7) _ (by decide) (by decide)).mono ?_
  rintro e w1 ⟨o1, rfl, ho1, b1⟩
  replace hb := bnext hb b1
  clear b1
  go_wp2_with fail
  refine (wof_num (2) _ (by decide) (by decide)).mono ?_
  rintro e w2 ⟨o2, rfl, ho2, b2⟩
  replace hb := bnext hb b2
  replace ho1 := ho1.next b2
  clear b2
  go_wp2_with fail
  refine (wquo_num (ho1.wh 1 (by decide)) (ho2.wh 1 (by decide)) (by decide) (by decide)).mono ?_
  rintro e w3 ⟨x3, y3, rfl, hx3, hy3, b3⟩
  replace hb := bnext hb b3
  clear b3 ho1 ho2
  rw [show quoQ (-7) 2 = -3 by decide] at hx3
  rw [show quoR (-7) 2 = -1 by decide] at hy3
  obtain ⟨s3, A3, n3, c3, rfl, gx3⟩ := hx3.opened
  obtain ⟨t3, B3, m3, d3, rfl, gy3⟩ := hy3.opened
  obtain ⟨W0, hW0, vx3, vy3, bb0⟩ := twoVars w3 (.bool s3) (.slice A3 n3 c3) (.bool t3) (.slice B3 m3 d3)
  have zx3 := gx3.out.next bb0
  have zy3 := gy3.out.next bb0
  replace hb := bnext hb bb0
  clear hx3 hy3 gx3 gy3 bb0
  go_wp2_with fail
  rw [← hW0]
  refine (wof_num (-7) _ (by decide) (by decide)).mono ?_
  rintro e w4 ⟨o4, rfl, ho4, b4⟩
  replace hb := bnext hb b4
  replace vx3 := vx3.next b4
  replace vy3 := vy3.next b4
  replace zx3 := zx3.next b4
  replace zy3 := zy3.next b4
  clear b4
  clear hW0
  go_wp2_with fail
  refine (wof_num (2) _ (by decide) (by decide)).mono ?_
  rintro e w5 ⟨o5, rfl, ho5, b5⟩
  replace hb := bnext hb b5
  replace vx3 := vx3.next b5
  replace vy3 := vy3.next b5
  replace zx3 := zx3.next b5
  replace zy3 := zy3.next b5
  replace ho4 := ho4.next b5
  clear b5
  go_wp2_with fail
  refine (wfloor_num (ho4.wh 1 (by decide)) (ho5.wh 1 (by decide)) (by decide) (by decide)).mono ?_
  rintro e w6 ⟨x6, y6, rfl, hx6, hy6, b6⟩
  replace hb := bnext hb b6
  replace vx3 := vx3.next b6
  replace vy3 := vy3.next b6
  replace zx3 := zx3.next b6
  replace zy3 := zy3.next b6
  clear b6 ho4 ho5
  rw [show flQ (-7) 2 = -4 by decide] at hx6
  rw [show flR (-7) 2 = 1 by decide] at hy6
  obtain ⟨s6, A6, n6, c6, rfl, gx6⟩ := hx6.opened
  obtain ⟨t6, B6, m6, d6, rfl, gy6⟩ := hy6.opened
  obtain ⟨W1, hW1, vx6, vy6, bb1⟩ := twoVars w6 (.bool s6) (.slice A6 n6 c6) (.bool t6) (.slice B6 m6 d6)
  have zx6 := gx6.out.next bb1
  have zy6 := gy6.out.next bb1
  replace vx3 := vx3.next bb1
  replace vy3 := vy3.next bb1
  replace zx3 := zx3.next bb1
  replace zy3 := zy3.next bb1
  replace hb := bnext hb bb1
  clear hx6 hy6 gx6 gy6 bb1
  go_wp2_with fail
  rw [← hW1]
  refine (wof_num (17) _ (by decide) (by decide)).mono ?_
  rintro e w7 ⟨o7, rfl, ho7, b7⟩
  replace hb := bnext hb b7
  replace vx3 := vx3.next b7
  replace vy3 := vy3.next b7
  replace zx3 := zx3.next b7
  replace zy3 := zy3.next b7
  replace vx6 := vx6.next b7
  replace vy6 := vy6.next b7
  replace zx6 := zx6.next b7
  replace zy6 := zy6.next b7
  clear b7
  clear hW1
  go_wp2_with fail
  refine (wroot_num (ho7.wh 1 (by decide)) (by decide)).mono ?_
  rintro e w8 ⟨x8, y8, rfl, hx8, hy8, b8⟩
  replace hb := bnext hb b8
  replace vx3 := vx3.next b8
  replace vy3 := vy3.next b8
  replace zx3 := zx3.next b8
  replace zy3 := zy3.next b8
  replace vx6 := vx6.next b8
  replace vy6 := vy6.next b8
  replace zx6 := zx6.next b8
  replace zy6 := zy6.next b8
  clear b8 ho7
  rw [show rtQ 17 = 4 by decide] at hx8
  rw [show rtR 17 = 1 by decide] at hy8
  obtain ⟨s8, A8, n8, c8, rfl, gx8⟩ := hx8.opened
  obtain ⟨t8, B8, m8, d8, rfl, gy8⟩ := hy8.opened
  obtain ⟨W2, hW2, vx8, vy8, bb2⟩ := twoVars w8 (.bool s8) (.slice A8 n8 c8) (.bool t8) (.slice B8 m8 d8)
  have zx8 := gx8.out.next bb2
  have zy8 := gy8.out.next bb2
  replace vx3 := vx3.next bb2
  replace vy3 := vy3.next bb2
  replace zx3 := zx3.next bb2
  replace zy3 := zy3.next bb2
  replace vx6 := vx6.next bb2
  replace vy6 := vy6.next bb2
  replace zx6 := zx6.next bb2
  replace zy6 := zy6.next bb2
  replace hb := bnext hb bb2
  clear hx8 hy8 gx8 gy8 bb2
  rw [hW2] at vx3
  have c0 := vx3.c0
  have c1 := vx3.c1
  go_wp2_with fail
  rw [← hW2]
  rw [← hW2] at vx3
  clear hW2
  refine (wtext_num (zx3.wh 1 (by decide)) (by decide)).mono ?_
  rintro e w9 ⟨r9, rfl, hr9, b9⟩
  replace hb := bnext hb b9
  clear c0 c1 vx3 zx3
  replace vy3 := vy3.next b9
  replace zy3 := zy3.next b9
  replace vx6 := vx6.next b9
  replace vy6 := vy6.next b9
  replace zx6 := zx6.next b9
  replace zy6 := zy6.next b9
  replace vx8 := vx8.next b9
  replace vy8 := vy8.next b9
  replace zx8 := zx8.next b9
  replace zy8 := zy8.next b9
  clear b9
  rw [txm3] at hr9
  have e9 : (r9.toList == [45, 51]) = true := by rw [ByteArray.toList_eq, hr9]; decide
  clear hr9
  have c0 := vy3.c0
  have c1 := vy3.c1
  go_wp2_with fail
  refine (wtext_num (zy3.wh 1 (by decide)) (by decide)).mono ?_
  rintro e w10 ⟨r10, rfl, hr10, b10⟩
  replace hb := bnext hb b10
  clear c0 c1 vy3 zy3
  replace vx6 := vx6.next b10
  replace vy6 := vy6.next b10
  replace zx6 := zx6.next b10
  replace zy6 := zy6.next b10
  replace vx8 := vx8.next b10
  replace vy8 := vy8.next b10
  replace zx8 := zx8.next b10
  replace zy8 := zy8.next b10
  clear b10
  rw [txm1] at hr10
  have e10 : (r10.toList == [45, 49]) = true := by rw [ByteArray.toList_eq, hr10]; decide
  clear hr10
  have c0 := vx6.c0
  have c1 := vx6.c1
  go_wp2_with fail
  refine (wtext_num (zx6.wh 1 (by decide)) (by decide)).mono ?_
  rintro e w11 ⟨r11, rfl, hr11, b11⟩
  replace hb := bnext hb b11
  clear c0 c1 vx6 zx6
  replace vy6 := vy6.next b11
  replace zy6 := zy6.next b11
  replace vx8 := vx8.next b11
  replace vy8 := vy8.next b11
  replace zx8 := zx8.next b11
  replace zy8 := zy8.next b11
  clear b11
  rw [txm4] at hr11
  have e11 : (r11.toList == [45, 52]) = true := by rw [ByteArray.toList_eq, hr11]; decide
  clear hr11
  have c0 := vy6.c0
  have c1 := vy6.c1
  go_wp2_with fail
  refine (wtext_num (zy6.wh 1 (by decide)) (by decide)).mono ?_
  rintro e w12 ⟨r12, rfl, hr12, b12⟩
  replace hb := bnext hb b12
  clear c0 c1 vy6 zy6
  replace vx8 := vx8.next b12
  replace vy8 := vy8.next b12
  replace zx8 := zx8.next b12
  replace zy8 := zy8.next b12
  clear b12
  rw [tx1] at hr12
  have e12 : (r12.toList == [49]) = true := by rw [ByteArray.toList_eq, hr12]; decide
  clear hr12
  have c0 := vx8.c0
  have c1 := vx8.c1
  go_wp2_with fail
  refine (wtext_num (zx8.wh 1 (by decide)) (by decide)).mono ?_
  rintro e w13 ⟨r13, rfl, hr13, b13⟩
  replace hb := bnext hb b13
  clear c0 c1 vx8 zx8
  replace vy8 := vy8.next b13
  replace zy8 := zy8.next b13
  clear b13
  rw [tx4] at hr13
  have e13 : (r13.toList == [52]) = true := by rw [ByteArray.toList_eq, hr13]; decide
  clear hr13
  have c0 := vy8.c0
  have c1 := vy8.c1
  go_wp2_with fail
  refine (wtext_num (zy8.wh 1 (by decide)) (by decide)).mono ?_
  rintro e w14 ⟨r14, rfl, hr14, b14⟩
  replace hb := bnext hb b14
  clear c0 c1 vy8 zy8
  clear b14
  rw [tx1] at hr14
  have e14 : (r14.toList == [49]) = true := by rw [ByteArray.toList_eq, hr14]; decide
  clear hr14
  go_wp2_with fail
  go_ret
  exact ⟨rfl, hb⟩
end Go.Proofs.YtabdnlhehickoaaDoor
