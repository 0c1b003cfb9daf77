/-
  whole.divisions: the second closure's contracts.
-/
import Derived.Test.YtabdnlhehickoaaDoorWhF
namespace Go.Proofs.YtabdnlhehickoaaDoor
open Go.RowKit
set_option maxHeartbeats 1600000 in
theorem div2_same {w : World} {gu gq ga gl gt gb base1 base2 m1 m2 : Nat} {un s : Bool} {x y : Value} (hS : Cells w w.heap.size [(⟨gu, 0, none⟩, .bool un), (⟨gq, 0, none⟩, x), (⟨ga, 0, none⟩, .bool s), (⟨gl, 0, none⟩, y)])
    (hT : w.cell? ⟨gt, 0, none⟩ = some (.func (.func 95) #[] #[.pointer (some ⟨gu, 0, none⟩), .pointer (some ⟨gq, 0, none⟩), .pointer (some ⟨ga, 0, none⟩), .pointer (some ⟨gl, 0, none⟩)]) ∧ gt < w.heap.size)
    (n1 : New w base1 x (limbs m1)) (n2 : New w base2 y (limbs m2)) (hor : un = false ∨ m2 = 0) :
    Calls Tryd.prog 96 #[.pointer (some ⟨gu, 0, none⟩), .pointer (some ⟨gl, 0, none⟩), .pointer (some ⟨gt, 0, none⟩), .pointer (some ⟨gq, 0, none⟩), .pointer (some ⟨gb, 0, none⟩)] w (W2 base1 base2 w (zOf un m1) (zOf s m2)) := by
  obtain ⟨W, hW, hr, ht, hb, hsz⟩ := enter00s w
  have hS0 := hS.next (Nat.le_refl _) hb
  have hT0 := (hb.cell (p := ⟨gt, 0, none⟩) hT.2).trans hT.1
  replace n1 := n1.next hb
  replace n2 := n2.next hb
  obtain ⟨cu, cq, ca, cl⟩ := hS0.four
  have HD := Lib.hid (div1_any (fun p hp => ⟨(hS0 p hp).1, Nat.lt_of_lt_of_le (hS0 p hp).2 hsz⟩) n1 n2)
  obtain ⟨A, n, c, rfl, hmax, hnm⟩ := n2.nought
  have hnil : (un = false) ∨ (n = 0) := hor.imp id hnm.2
  have HR := Lib.hid (And.intro hr (And.intro ht hb))
  dsimp only at cu cl
  clear hS hT hor hnm hS0 hr ht hb n1 n2 ca cq hsz
  have hcase : un = false ∨ un = true ∧ n = 0 := by cases un; exact .inl rfl; exact .inr ⟨rfl, hnil.resolve_left (by decide)⟩
  clear hnil
  rcases hcase with rfl | ⟨rfl, rfl⟩
  all_goals
    subst hW
    go_enter Tryd.func96, Tryd.ntmps96
    go_wp2_with fail
    refine HD.out.mono ?_
    rintro e w1 ⟨u, v, rfl, hu, hv, hb1⟩
    obtain ⟨hr, ht, hb⟩ := HR.out
    obtain ⟨b, xa, xn, xc, rfl, hn1⟩ := hu.opened
    obtain ⟨c, ya, yn, yc, rfl, hn2⟩ := hv.opened
    have hr2 := hr.next hb1
    have ht2 := ht.next hb1
    obtain ⟨q1, q2, q3, q4, q5, q6⟩ := hr2.room (.bool b)
    obtain ⟨p1, p2, p3, p4, p5, p6⟩ := hr2.room2 ht2 (Nat.succ_ne_self _) (.bool b) (.slice xa xn xc) (.bool c)
    clear HD cu cl hT0
    go_wp2_with fail
    exact wret2 rfl rfl rfl rfl hr2 ht2 (by omega) hn1.out hn2.out (Nat.le_refl _) (by omega) (bnext hb hb1)

set_option maxHeartbeats 3200000 in
theorem div2_down {w : World} {gu gq gl gt gb base1 base2 m1 m2 n K L M : Nat} {t : Bool} {x y z : Value} (hS : Cells w w.heap.size [(⟨gu, 0, none⟩, .bool true), (⟨gl, 0, none⟩, y), (⟨gq, 0, none⟩, x), (⟨gb, 0, none⟩, .bool t), (⟨gb, 1, none⟩, z)])
    (n1 : New w base1 x (limbs m1)) (n2 : New w base2 y (limbs m2)) (n3 : Num w z n M) (hm : m2 ≠ 0) (l1 : m1 < 4294967296 ^ K) (l2 : m2 < 4294967296 ^ L) (hK : K ≤ 1000000) (hL : L ≤ 1000000) (hM : M ≤ 1000000) :
    Calls Tryd.prog 96 #[.pointer (some ⟨gu, 0, none⟩), .pointer (some ⟨gl, 0, none⟩), .pointer (some ⟨gt, 0, none⟩), .pointer (some ⟨gq, 0, none⟩), .pointer (some ⟨gb, 0, none⟩)] w (W2 w.heap.size w.heap.size w (zOf true (m1 + 1)) (zOf t (n - m2))) := by
  obtain ⟨W, hW, hr, ht, hb, hsz⟩ := enter00s w
  have hS0 := hS.next (Nat.le_refl _) hb
  replace n1 := ((n1.next hb).num K l1).drew
  obtain ⟨cu, cl, cq, cb, cz⟩ := hS0.five
  obtain ⟨A, k, c, rfl, hmax, hnm⟩ := n2.nought
  replace n2 := ((n2.next hb).num L l2).drew
  replace n3 := (n3.below hb).drew
  have hk : 0 < k := by omega
  replace hS0 := hS0.next hsz (Below.refl _ _).drew
  replace hr := hr.drew
  replace ht := ht.drew
  replace hb := hb.drew
  have HR := Lib.hid (And.intro hr (And.intro ht (And.intro hb (And.intro hsz (And.intro hS0 (And.intro n1 (And.intro n2 n3)))))))
  dsimp only at cu cl cq cb cz
  clear hS hr ht hb hsz hS0 n1 n2 n3 hnm hm
  rw [hW] at cu cl cq cb cz
  go_enter Tryd.func96, Tryd.ntmps96
  go_wp2_with fail
  rw [← hW]
  rw [← hW] at cu cl cq cb cz
  clear hW
  obtain ⟨hr, ht, hb, hsz, hS0, n1, n2, n3⟩ := HR.out
  clear HR
  replace cu := hS0.five
  obtain ⟨cu, cl, cq, cb, cz⟩ := cu
  go_region_held3 (fun w' => w'.cell? ⟨gl, 0, none⟩ = some (.slice A k c) ∧ w'.cell? ⟨gq, 0, none⟩ = some x ∧ w'.cell? ⟨gb, 0, none⟩ = some (.bool t) ∧ w'.cell? ⟨gb, 1, none⟩ = some z)
    (first | exact hS1.five.2 | exact hS2.five.2 | exact hS3.five.2 | exact hS4.five.2 | exact hS5.five.2 | exact hS6.five.2 | exact hS7.five.2 | go_keep)
    (first
    | (go_at_call 66; refine (one_any _).mono ?_; rintro e w1 ⟨v1, rfl, o1, hb1⟩; have hS1 := hS0.next hsz hb1; have z1 := Nat.le_trans hsz hb1.size; have hr1 := hr.next hb1; have ht1 := ht.next hb1; have k1 := o1.num 1 (by decide); have n11 := n1.below hb1; have n21 := n2.below hb1; have n31 := n3.below hb1; clear n1 n2 n3 hr ht o1)
    | (go_at_call 16; refine (add_num n11 k1 (by omega) (by decide)).mono ?_; rintro e w2 ⟨v2, rfl, o2, hb2⟩; have hS2 := hS1.next z1 hb2; have z2 := Nat.le_trans z1 hb2.size; have hr2 := hr1.next hb2; have ht2 := ht1.next hb2; have n22 := n21.below hb2; have n32 := n31.below hb2; clear n11 n21 n31 hr1 ht1 k1)
    | (go_at_call 69; (fail_if_success (have hh := hb3)); refine (signed_w true o2).mono ?_; rintro e w3 ⟨b, xa, xn, xc, rfl, hn1, hb3⟩; have hS3 := hS2.next z2 hb3; have z3 := Nat.le_trans z2 hb3.size; have hr3 := hr2.next hb3; have ht3 := ht2.next hb3; have n23 := n22.below hb3; have n33 := n32.below hb3; clear n22 n32 hr2 ht2 o2)
    | (go_at_call 17; refine (sub_num n33 n23 (by omega) (by omega)).mono ?_; rintro e w4 ⟨v4, rfl, o4, hb4⟩; have hS4 := hS3.next z3 hb4; have z4 := Nat.le_trans z3 hb4.size; have hr4 := hr3.next hb4; have ht4 := ht3.next hb4; clear n23 n33 hr3 ht3)
    | (go_at_call 69; refine (signed_w t o4).mono ?_; rintro e w5 ⟨d, ya, yn, yc, rfl, hn2, hb5⟩; have hS5 := hS4.next z4 hb5; have hr5 := hr4.next hb5; have ht5 := ht4.next hb5; clear hr4 ht4 o4;
       obtain ⟨q1, q2, q3, q4, q5, q6⟩ := hr5.room (.bool b); obtain ⟨p1, p2, p3, p4, p5, p6⟩ := hr5.room2 ht5 (Nat.succ_ne_self _) (.bool b) (.slice xa xn xc) (.bool d);
       have hS6 := hS5.far2 w.heap.size (Nat.le_refl _) (.bool b) (.slice xa xn xc);
       have hS7 := hS6.far2 (w.heap.size + 1) (Nat.le_succ _) (.bool d) (.slice ya yn yc)))
  go_wp2_with fail
  have hn1' := ((hn1.out.next hb4).next hb5).from_ (base' := w.heap.size) z1
  have hn2' := hn2.out.from_ (base' := w.heap.size) z3
  exact wret2 rfl rfl rfl rfl hr5 ht5 (by omega) hn1' hn2' (Nat.le_refl _) (by omega) (bnext (bnext (bnext (bnext (bnext hb hb1) hb2) hb3) hb4) hb5)
end Go.Proofs.YtabdnlhehickoaaDoor
