/-
  whole.Sub, Cmp: their contracts.
-/
import Derived.Test.YtabdnlhehickoaaDoorWhB
namespace Go.Proofs.YtabdnlhehickoaaDoor
open Go.RowKit
section
variable {w : World} {u v : Value} {a b : Int} {K L : Nat}
set_option maxHeartbeats 1600000 in
theorem wsub_num (hu : Wh w u a K) (hv : Wh w v b L) (hK : K ≤ 1000000) (hL : L ≤ 1000000) : Calls Tryd.prog 32 #[u, v] w (WGives w (a - b)) := by
  have lb := lt_negZ hv.lt
  rw [Int.sub_eq_add_neg]
  obtain ⟨s, xA, xN, xC, rfl, hx⟩ := hu.opened
  obtain ⟨t, yA, yN, yC, rfl, hy⟩ := hv.opened
  clear hu hv
  obtain ⟨W, hW, hp, hq, hr, hb⟩ := enter2r w (.bool s) (.slice xA xN xC) (.bool t) (.slice yA yN yC)
  have hx1 := Lib.hid (hx.out.below hb).drew
  have hy1 := Lib.hid (hy.out.below hb).drew
  go_enter Tryd.func32, Tryd.ntmps32
  go_wp2_with fail
  rw [← hW]
  clear hW
  replace hp := hp.drew
  have hp0 := hp.c0
  have hp1 := hp.c1
  replace hq := hq.drew
  have hq0 := hq.c0
  have hq1 := hq.c1
  replace hr := hr.drew
  go_region_held3 (fun w' => w'.cell? ⟨w.heap.size, 0, none⟩ = some (.bool s) ∧ w'.cell? ⟨w.heap.size, 1, none⟩ = some (.slice xA xN xC) ∧ w'.cell? ⟨w.heap.size + 1, 0, none⟩ = some (.bool t) ∧ w'.cell? ⟨w.heap.size + 1, 1, none⟩ = some (.slice yA yN yC))
    (first | exact ⟨hp1.c0, hp1.c1, hq1.c0, hq1.c1⟩ | exact ⟨hp2.c0, hp2.c1, hq2.c0, hq2.c1⟩ | exact ⟨((hp2.far (by dsimp only; omega) _).far (by dsimp only; omega) _).c0, ((hp2.far (by dsimp only; omega) _).far (by dsimp only; omega) _).c1, ((hq2.far (by dsimp only; omega) _).far (by dsimp only; omega) _).c0, ((hq2.far (by dsimp only; omega) _).far (by dsimp only; omega) _).c1⟩ | go_keep)
    (first
    | (go_at_call 36; refine (wneg_num hy1.out hL).mono ?_; rintro e w1 ⟨v, rfl, hv, hb1⟩; have hp1 := hp.next hb1; have hq1 := hq.next hb1; have hr1 := hr.next hb1)
    | (go_at_call 30; refine (wadd_num (hx1.out.below hb1) (hv.wh L lb) hK hL).mono ?_; rintro e w2 ⟨u, rfl, hu, hb2⟩; obtain ⟨b, xa, xn, xc, rfl, hnew⟩ := hu.opened; have hp2 := hp1.next hb2; have hq2 := hq1.next hb2; have hr2 := hr1.next hb2; obtain ⟨q1, q2, q3, q4, q5, q6⟩ := hr2.room (.bool b)))
  go_wp2_with fail
  exact wret rfl rfl rfl hr2 hnew.out (Nat.le_trans hb.drew.size hb1.size) (by omega) (bnext (bnext hb.drew hb1) hb2)

theorem cmpZ_nn (m n : Nat) : cmpZ (zOf true m) (zOf true n) = cmpN n m := by simp only [cmpZ, cmpN, zOf, if_true]; split <;> split <;> (try split) <;> omega
theorem cmpZ_pp {s t : Bool} {m n : Nat} (hs : ¬ zOf s m < 0) (ht : ¬ zOf t n < 0) : cmpZ (zOf s m) (zOf t n) = cmpN m n := by
  cases s <;> cases t <;> simp only [cmpZ, cmpN, zOf, if_true, if_false, Bool.false_eq_true] at * <;> split <;> split <;> (try split) <;> (try split) <;> omega
theorem cmpZ_np {a b : Int} (hs : a < 0) (ht : ¬ b < 0) : cmpZ a b = -1 := by unfold cmpZ; rw [if_pos (by omega)]
theorem cmpZ_pn {a b : Int} (hs : ¬ a < 0) (ht : b < 0) : cmpZ a b = 1 := by unfold cmpZ; rw [if_neg (by omega), if_pos (by omega)]
theorem neg_true {s : Bool} {m : Nat} (h : zOf s m < 0) : s = true := by cases s; simp [zOf] at h; omega; rfl
set_option maxRecDepth 20000 in
set_option maxHeartbeats 3200000 in
theorem wcmp_num (hu : Wh w u a K) (hv : Wh w v b L) (hK : K ≤ 1000000) (hL : L ≤ 1000000) : Calls Tryd.prog 38 #[u, v] w fun e w' => e = .returned (.int .i64 (cmpZ a b)) ∧ Below w.heap.size w w' := by
  obtain ⟨s, x, m, rfl, hx, rfl⟩ := hu
  obtain ⟨t, y, n, rfl, hy, rfl⟩ := hv
  obtain ⟨d1, hd1⟩ : ∃ d, d = decide (zOf s m < 0) := ⟨_, rfl⟩
  obtain ⟨d2, hd2⟩ : ∃ d, d = decide (zOf t n < 0) := ⟨_, rfl⟩
  have B1 : ∀ w', Num w' x m K → Calls Tryd.prog 64 #[.agg #[.bool s, x]] w' fun e w'' => e = .returned (.bool d1) ∧ Below w'.heap.size w' w'' := fun w' h => by rw [hd1]; exact below_any h hK
  have B2 : ∀ w', Num w' y n L → Calls Tryd.prog 64 #[.agg #[.bool t, y]] w' fun e w'' => e = .returned (.bool d2) ∧ Below w'.heap.size w' w'' := fun w' h => by rw [hd2]; exact below_any h hL
  have HB := Lib.hid (And.intro B1 B2)
  clear B1 B2
  obtain ⟨W, hW, hp, hq, hb⟩ := enter2 w (.bool s) x (.bool t) y
  replace hx := (hx.below hb).drew
  replace hy := (hy.below hb).drew
  replace hp := hp.drew
  replace hq := hq.drew
  cases d1 <;> cases d2
  · rw [cmpZ_pp (of_decide_eq_false hd1.symm) (of_decide_eq_false hd2.symm)]
    clear hd1 hd2
    go_enter Tryd.func38, Tryd.ntmps38
    go_wp2_with fail
    rw [← hW]
    clear hW
    have hp0 := hp.c0
    have hp1 := hp.c1
    have hq0 := hq.c0
    have hq1 := hq.c1
    go_region_held3 (fun w' => w'.cell? ⟨w.heap.size, 0, none⟩ = some (.bool s) ∧ w'.cell? ⟨w.heap.size, 1, none⟩ = some (x) ∧ w'.cell? ⟨w.heap.size + 1, 0, none⟩ = some (.bool t) ∧ w'.cell? ⟨w.heap.size + 1, 1, none⟩ = some (y))
      (first | exact ⟨hp1.c0, hp1.c1, hq1.c0, hq1.c1⟩ | exact ⟨hp2.c0, hp2.c1, hq2.c0, hq2.c1⟩ | go_keep)
      (first
      | (go_at_call 64; (fail_if_success (have hh := hy1)); refine (HB.out.1 _ hx).mono ?_; rintro e w1 ⟨rfl, hb1⟩; have hp1 := hp.next hb1; have hq1 := hq.next hb1; have hy1 := hy.below hb1)
      | (go_at_call 64; refine (HB.out.2 _ hy1).mono ?_; rintro e w2 ⟨rfl, hb2⟩; have hp2 := hp1.next hb2; have hq2 := hq1.next hb2; have hx2 := (hx.below hb1).below hb2; have hy2 := hy1.below hb2))
    have e1 := hp2.c1
    have e2 := hq2.c1
    clear HB hp0 hp1 hq0 hq1
    go_wp2_with fail
    refine (cmp_num hx2 hy2 (by omega) (by omega)).mono ?_
    rintro e w3 ⟨rfl, rfl⟩
    go_wp2_with fail
    go_ret
    exact ⟨rfl, bnext (bnext hb.drew hb1) hb2⟩
  · rw [cmpZ_pn (of_decide_eq_false hd1.symm) (of_decide_eq_true hd2.symm)]
    clear hd1 hd2
    go_enter Tryd.func38, Tryd.ntmps38
    go_wp2_with fail
    rw [← hW]
    clear hW
    have hp0 := hp.c0
    have hp1 := hp.c1
    have hq0 := hq.c0
    have hq1 := hq.c1
    go_region_held3 (fun w' => w'.cell? ⟨w.heap.size, 0, none⟩ = some (.bool s) ∧ w'.cell? ⟨w.heap.size, 1, none⟩ = some (x) ∧ w'.cell? ⟨w.heap.size + 1, 0, none⟩ = some (.bool t) ∧ w'.cell? ⟨w.heap.size + 1, 1, none⟩ = some (y))
      (first | exact ⟨hp1.c0, hp1.c1, hq1.c0, hq1.c1⟩ | exact ⟨hp2.c0, hp2.c1, hq2.c0, hq2.c1⟩ | go_keep)
      (first
      | (go_at_call 64; (fail_if_success (have hh := hy1)); refine (HB.out.1 _ hx).mono ?_; rintro e w1 ⟨rfl, hb1⟩; have hp1 := hp.next hb1; have hq1 := hq.next hb1; have hy1 := hy.below hb1)
      | (go_at_call 64; refine (HB.out.2 _ hy1).mono ?_; rintro e w2 ⟨rfl, hb2⟩; have hp2 := hp1.next hb2; have hq2 := hq1.next hb2; have hx2 := (hx.below hb1).below hb2; have hy2 := hy1.below hb2))
    have e1 := hp2.c1
    have e2 := hq2.c1
    clear HB hp0 hp1 hq0 hq1
    go_wp2_with fail
    go_ret
    exact ⟨rfl, bnext (bnext hb.drew hb1) hb2⟩
  · rw [cmpZ_np (of_decide_eq_true hd1.symm) (of_decide_eq_false hd2.symm)]
    clear hd1 hd2
    go_enter Tryd.func38, Tryd.ntmps38
    go_wp2_with fail
    rw [← hW]
    clear hW
    have hp0 := hp.c0
    have hp1 := hp.c1
    have hq0 := hq.c0
    have hq1 := hq.c1
    go_region_held3 (fun w' => w'.cell? ⟨w.heap.size, 0, none⟩ = some (.bool s) ∧ w'.cell? ⟨w.heap.size, 1, none⟩ = some (x) ∧ w'.cell? ⟨w.heap.size + 1, 0, none⟩ = some (.bool t) ∧ w'.cell? ⟨w.heap.size + 1, 1, none⟩ = some (y))
      (first | exact ⟨hp1.c0, hp1.c1, hq1.c0, hq1.c1⟩ | exact ⟨hp2.c0, hp2.c1, hq2.c0, hq2.c1⟩ | go_keep)
      (first
      | (go_at_call 64; (fail_if_success (have hh := hy1)); refine (HB.out.1 _ hx).mono ?_; rintro e w1 ⟨rfl, hb1⟩; have hp1 := hp.next hb1; have hq1 := hq.next hb1; have hy1 := hy.below hb1)
      | (go_at_call 64; refine (HB.out.2 _ hy1).mono ?_; rintro e w2 ⟨rfl, hb2⟩; have hp2 := hp1.next hb2; have hq2 := hq1.next hb2; have hx2 := (hx.below hb1).below hb2; have hy2 := hy1.below hb2))
    have e1 := hp2.c1
    have e2 := hq2.c1
    clear HB hp0 hp1 hq0 hq1
    go_wp2_with fail
    go_ret
    exact ⟨rfl, bnext (bnext hb.drew hb1) hb2⟩
  · obtain rfl := neg_true (of_decide_eq_true hd1.symm)
    obtain rfl := neg_true (of_decide_eq_true hd2.symm)
    rw [cmpZ_nn]
    clear hd1 hd2
    go_enter Tryd.func38, Tryd.ntmps38
    go_wp2_with fail
    rw [← hW]
    clear hW
    have hp0 := hp.c0
    have hp1 := hp.c1
    have hq0 := hq.c0
    have hq1 := hq.c1
    go_region_held3 (fun w' => w'.cell? ⟨w.heap.size, 0, none⟩ = some (.bool true) ∧ w'.cell? ⟨w.heap.size, 1, none⟩ = some (x) ∧ w'.cell? ⟨w.heap.size + 1, 0, none⟩ = some (.bool true) ∧ w'.cell? ⟨w.heap.size + 1, 1, none⟩ = some (y))
      (first | exact ⟨hp1.c0, hp1.c1, hq1.c0, hq1.c1⟩ | exact ⟨hp2.c0, hp2.c1, hq2.c0, hq2.c1⟩ | go_keep)
      (first
      | (go_at_call 64; (fail_if_success (have hh := hy1)); refine (HB.out.1 _ hx).mono ?_; rintro e w1 ⟨rfl, hb1⟩; have hp1 := hp.next hb1; have hq1 := hq.next hb1; have hy1 := hy.below hb1)
      | (go_at_call 64; refine (HB.out.2 _ hy1).mono ?_; rintro e w2 ⟨rfl, hb2⟩; have hp2 := hp1.next hb2; have hq2 := hq1.next hb2; have hx2 := (hx.below hb1).below hb2; have hy2 := hy1.below hb2))
    have e1 := hp2.c1
    have e2 := hq2.c1
    clear HB hp0 hp1 hq0 hq1
    go_wp2_with fail
    refine (cmp_num hy2 hx2 (by omega) (by omega)).mono ?_
    rintro e w3 ⟨rfl, rfl⟩
    go_wp2_with fail
    go_ret
    exact ⟨rfl, bnext (bnext hb.drew hb1) hb2⟩
end
end Go.Proofs.YtabdnlhehickoaaDoor
