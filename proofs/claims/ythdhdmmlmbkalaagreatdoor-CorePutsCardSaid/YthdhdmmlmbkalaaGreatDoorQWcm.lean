/-
  whole.Cmp.
-/
import Derived.Test.YthdhdmmlmbkalaaGreatDoorQNw
import Derived.Test.YthdhdmmlmbkalaaGreatDoorJc0
import Derived.Test.YthdhdmmlmbkalaaGreatDoorChecked
import Derived.Outline
import Derived.Deep.RegionHeld3
set_option linter.unusedVariables false
set_option linter.unusedSimpArgs false
set_option linter.unusedSectionVars false
set_option linter.unnecessarySimpa false
namespace Go.Proofs.YthdhdmmlmbkalaaGreatDoor
open Go.RowKit

set_option maxHeartbeats 400000 in
theorem limbAt_any (A : Option Addr) (n cap : Nat) (xs : List Nat) (i : Int) (w : World) (h : Sl w A n cap xs) (h0 : 0 ≤ i) :
    Calls Tryz.prog 128 #[.slice A n cap, .int .i64 i] w fun e w' => e = .returned (.int .u64 ((lim xs i.toNat : Nat) : Int)) ∧ w = w' := by
  obtain ⟨k, rfl⟩ := Int.eq_ofNat_of_zero_le h0
  rw [Int.toNat_natCast]
  have hm := h.max
  have hl := h.le
  unfold maxLen at hm
  by_cases hk : k < n
  · obtain ⟨b, off, rfl, hb, hc⟩ := h.here (by omega)
    have hck := hc k hk
    have hx := h.ok.getD k
    clear hc
    generalize lim xs k = x at *
    go_enter Tryz.func128, Tryz.ntmps128
    go_wp2
    go_ret
    exact ⟨rfl, rfl⟩
  · have hx : lim xs k = 0 := by
      rw [lim_eq, List.getElem?_eq_none (by have := h.len; omega)]; rfl
    rw [hx]
    go_enter Tryz.func128, Tryz.ntmps128
    go_wp2
    go_ret
    exact ⟨rfl, rfl⟩
set_option maxHeartbeats 800000 in
theorem cmp_any (A1 : Option Addr) (n1 c1 : Nat) (xs : List Nat) (A2 : Option Addr) (n2 c2 : Nat) (ys : List Nat) (w : World) (h1 : Sl w A1 n1 c1 xs) (h2 : Sl w A2 n2 c2 ys) (b1 : n1 ≤ 35184372087808) (b2 : n2 ≤ 35184372087808) :
    Calls Tryz.prog 108 #[.slice A1 n1 c1, .slice A2 n2 c2] w fun e w' => e = .returned (.int .i64 (cmpN (val xs) (val ys))) ∧ w = w' := by
  obtain ⟨m, hm⟩ : ∃ m, n1 < n2 ∧ m = n2 ∨ n2 ≤ n1 ∧ m = n1 := by
    rcases Nat.lt_or_ge n1 n2 with h | h
    · exact ⟨_, .inl ⟨h, rfl⟩⟩
    · exact ⟨_, .inr ⟨h, rfl⟩⟩
  have l1 : xs.length ≤ m := by have := h1.len; omega
  have l2 : ys.length ≤ m := by have := h2.len; omega
  rcases hm with ⟨hlt, rfl⟩ | ⟨hlt, rfl⟩
  all_goals
    go_enter Tryz.func108, Tryz.ntmps108
    go_wp2_with fail
    go_loop [5] (fun i => ∃ k : Nat, k ≤ m ∧ i = .int .i64 ((k : Int) - 1) ∧ Hid (cmpN (val (xs.take k)) (val (ys.take k)) = cmpN (val xs) (val ys))) (fun i => (intOf i + 1).toNat)
    case atStart => exact ⟨m, Nat.le_refl _, by (first | rfl | rw [Int.max_eq_right (by omega)] | rw [Int.max_eq_left (by omega)]), by rw [List.take_of_length_le l1, List.take_of_length_le l2]; exact rfl⟩
    case round =>
      obtain ⟨k, hk, rfl, hr⟩ := hrel
      rcases k with _ | k
      · go_wp2_with fail
        go_ret
        exact ⟨by rw [← hr.out]; rfl, rfl⟩
      · rw [show (((k + 1 : Nat) : Int) - 1) = (k : Int) by omega]
        rcases Nat.lt_trichotomy (lim xs k) (lim ys k) with hx | hx | hx
        · have hd := Lib.hid (cmp_down_lt h1.ok hx)
          go_wp2_with (go_at_call 128; refine (limbAt_any _ _ _ _ _ _ (by assumption) (by omega)).mono ?_; rintro e w' ⟨rfl, rfl⟩)
          go_ret
          exact ⟨by rw [← hr.out, hd.out]; rfl, rfl⟩
        · have hd := Lib.hid (cmp_down_eq hx)
          have hx1 : ¬ lim xs k < lim ys k := by omega
          have hx2 : ¬ lim ys k < lim xs k := by omega
          clear hx
          go_wp2_with (go_at_call 128; refine (limbAt_any _ _ _ _ _ _ (by assumption) (by omega)).mono ?_; rintro e w' ⟨rfl, rfl⟩)
          go_round
          case rel => exact ⟨k, by omega, by go_num, by rw [← hr.out, hd.out]; exact rfl⟩
          case measure => simp [intOf]
        · have hd := Lib.hid (cmp_down_gt h2.ok hx)
          have hx1 : ¬ lim xs k < lim ys k := by omega
          go_wp2_with (go_at_call 128; refine (limbAt_any _ _ _ _ _ _ (by assumption) (by omega)).mono ?_; rintro e w' ⟨rfl, rfl⟩)
          go_ret
          exact ⟨by rw [← hr.out, hd.out]; rfl, rfl⟩
section
variable {w : World} {u v : Value} {a b K L : Nat}
theorem cmp_num (hu : Num w u a K) (hv : Num w v b L) (hK : K ≤ 35184372087808) (hL : L ≤ 35184372087808) : Calls Tryz.prog 108 #[u, v] w fun e w' => e = .returned (.int .i64 (cmpN a b)) ∧ w = w' := by
  obtain ⟨A1, n1, c1, xs, rfl, s1, rfl, k1⟩ := hu
  obtain ⟨A2, n2, c2, ys, rfl, s2, rfl, k2⟩ := hv
  exact cmp_any _ _ _ _ _ _ _ _ _ s1 s2 (by omega) (by omega)
end
section
variable {w w' : World} {g : Nat} {s x : Value}
end
theorem enter2 (w : World) (s x t y : Value) : ∃ W, W = (w.alloc (.cells #[s, x] 24)).alloc (.cells #[t, y] 24) ∧ Var W w.heap.size s x ∧ Var W (w.heap.size + 1) t y ∧ Below w.heap.size w W := by
  refine ⟨_, rfl, (Var.mk_ _ _ _).alloc _, ?_, bnew (bnew (Below.refl _ _) _) _⟩
  have := Var.mk_ (w.alloc (.cells #[s, x] 24)) t y
  simpa using this
section
variable {w : World} {u v : Value} {a b : Int} {K L : Nat}
end
/-- What Cmp tells. -/
def cmpZ (a b : Int) : Int := if a < b then -1 else if b < a then 1 else 0
section
variable {w : World} {u v : Value} {a b : Int} {K L : Nat}
end
section
variable {w : World} {u v : Value} {a b : Int} {K L : Nat}
theorem cmpZ_nn (m n : Nat) : cmpZ (zOf true m) (zOf true n) = cmpN n m := by simp only [cmpZ, cmpN, zOf, if_true]; split <;> split <;> (try split) <;> omega
theorem cmpZ_pp {s t : Bool} {m n : Nat} (hs : ¬ zOf s m < 0) (ht : ¬ zOf t n < 0) : cmpZ (zOf s m) (zOf t n) = cmpN m n := by
  cases s <;> cases t <;> simp only [cmpZ, cmpN, zOf, if_true, if_false, Bool.false_eq_true] at * <;> split <;> split <;> (try split) <;> (try split) <;> omega
theorem cmpZ_np {a b : Int} (hs : a < 0) (ht : ¬ b < 0) : cmpZ a b = -1 := by unfold cmpZ; rw [if_pos (by omega)]
theorem cmpZ_pn {a b : Int} (hs : ¬ a < 0) (ht : b < 0) : cmpZ a b = 1 := by unfold cmpZ; rw [if_neg (by omega), if_pos (by omega)]
theorem neg_true {s : Bool} {m : Nat} (h : zOf s m < 0) : s = true := by cases s; simp [zOf] at h; omega; rfl
set_option maxRecDepth 20000 in
set_option maxHeartbeats 3200000 in
theorem wcmp_num (hu : Wh w u a K) (hv : Wh w v b L) (hK : K ≤ 35184372087808) (hL : L ≤ 35184372087808) : Calls Tryz.prog 86 #[u, v] w fun e w' => e = .returned (.int .i64 (cmpZ a b)) ∧ Below w.heap.size w w' := by
  obtain ⟨s, x, m, rfl, hx, rfl⟩ := hu
  obtain ⟨t, y, n, rfl, hy, rfl⟩ := hv
  obtain ⟨d1, hd1⟩ : ∃ d, d = decide (zOf s m < 0) := ⟨_, rfl⟩
  obtain ⟨d2, hd2⟩ : ∃ d, d = decide (zOf t n < 0) := ⟨_, rfl⟩
  have B1 : ∀ w', Num w' x m K → Calls Tryz.prog 107 #[.agg #[.bool s, x]] w' fun e w'' => e = .returned (.bool d1) ∧ Below w'.heap.size w' w'' := fun w' h => by rw [hd1]; exact below_any h hK
  have B2 : ∀ w', Num w' y n L → Calls Tryz.prog 107 #[.agg #[.bool t, y]] w' fun e w'' => e = .returned (.bool d2) ∧ Below w'.heap.size w' w'' := fun w' h => by rw [hd2]; exact below_any h hL
  have HB := Lib.hid (And.intro B1 B2)
  clear B1 B2
  obtain ⟨W, hW, hp, hq, hb⟩ := enter2 w (.bool s) x (.bool t) y
  replace hx := (hx.below hb).drew
  replace hy := (hy.below hb).drew
  replace hp := hp.drew
  replace hq := hq.drew
  cases d1 <;> cases d2
  · rw [cmpZ_pp (of_decide_eq_false hd1.symm) (of_decide_eq_false hd2.symm)]
    clear hd1 hd2
    go_enter Tryz.func86, Tryz.ntmps86
    go_wp2_with fail
    rw [← hW]
    clear hW
    have hp0 := hp.c0
    have hp1 := hp.c1
    have hq0 := hq.c0
    have hq1 := hq.c1
    go_region_held3 (fun w' => w'.cell? ⟨w.heap.size, 0, none⟩ = some (.bool s) ∧ w'.cell? ⟨w.heap.size, 1, none⟩ = some (x) ∧ w'.cell? ⟨w.heap.size + 1, 0, none⟩ = some (.bool t) ∧ w'.cell? ⟨w.heap.size + 1, 1, none⟩ = some (y))
      (first | exact ⟨hp1.c0, hp1.c1, hq1.c0, hq1.c1⟩ | exact ⟨hp2.c0, hp2.c1, hq2.c0, hq2.c1⟩ | go_keep)
      (first
      | (go_at_call 107; (fail_if_success (have hh := hy1)); refine (HB.out.1 _ hx).mono ?_; rintro e w1 ⟨rfl, hb1⟩; have hp1 := hp.next hb1; have hq1 := hq.next hb1; have hy1 := hy.below hb1)
      | (go_at_call 107; refine (HB.out.2 _ hy1).mono ?_; rintro e w2 ⟨rfl, hb2⟩; have hp2 := hp1.next hb2; have hq2 := hq1.next hb2; have hx2 := (hx.below hb1).below hb2; have hy2 := hy1.below hb2))
    have e1 := hp2.c1
    have e2 := hq2.c1
    clear HB hp0 hp1 hq0 hq1
    go_wp2_with fail
    refine (cmp_num hx2 hy2 (by omega) (by omega)).mono ?_
    rintro e w3 ⟨rfl, rfl⟩
    go_wp2_with fail
    go_ret
    exact ⟨rfl, bnext (bnext hb.drew hb1) hb2⟩
  · rw [cmpZ_pn (of_decide_eq_false hd1.symm) (of_decide_eq_true hd2.symm)]
    clear hd1 hd2
    go_enter Tryz.func86, Tryz.ntmps86
    go_wp2_with fail
    rw [← hW]
    clear hW
    have hp0 := hp.c0
    have hp1 := hp.c1
    have hq0 := hq.c0
    have hq1 := hq.c1
    go_region_held3 (fun w' => w'.cell? ⟨w.heap.size, 0, none⟩ = some (.bool s) ∧ w'.cell? ⟨w.heap.size, 1, none⟩ = some (x) ∧ w'.cell? ⟨w.heap.size + 1, 0, none⟩ = some (.bool t) ∧ w'.cell? ⟨w.heap.size + 1, 1, none⟩ = some (y))
      (first | exact ⟨hp1.c0, hp1.c1, hq1.c0, hq1.c1⟩ | exact ⟨hp2.c0, hp2.c1, hq2.c0, hq2.c1⟩ | go_keep)
      (first
      | (go_at_call 107; (fail_if_success (have hh := hy1)); refine (HB.out.1 _ hx).mono ?_; rintro e w1 ⟨rfl, hb1⟩; have hp1 := hp.next hb1; have hq1 := hq.next hb1; have hy1 := hy.below hb1)
      | (go_at_call 107; refine (HB.out.2 _ hy1).mono ?_; rintro e w2 ⟨rfl, hb2⟩; have hp2 := hp1.next hb2; have hq2 := hq1.next hb2; have hx2 := (hx.below hb1).below hb2; have hy2 := hy1.below hb2))
    have e1 := hp2.c1
    have e2 := hq2.c1
    clear HB hp0 hp1 hq0 hq1
    go_wp2_with fail
    go_ret
    exact ⟨rfl, bnext (bnext hb.drew hb1) hb2⟩
  · rw [cmpZ_np (of_decide_eq_true hd1.symm) (of_decide_eq_false hd2.symm)]
    clear hd1 hd2
    go_enter Tryz.func86, Tryz.ntmps86
    go_wp2_with fail
    rw [← hW]
    clear hW
    have hp0 := hp.c0
    have hp1 := hp.c1
    have hq0 := hq.c0
    have hq1 := hq.c1
    go_region_held3 (fun w' => w'.cell? ⟨w.heap.size, 0, none⟩ = some (.bool s) ∧ w'.cell? ⟨w.heap.size, 1, none⟩ = some (x) ∧ w'.cell? ⟨w.heap.size + 1, 0, none⟩ = some (.bool t) ∧ w'.cell? ⟨w.heap.size + 1, 1, none⟩ = some (y))
      (first | exact ⟨hp1.c0, hp1.c1, hq1.c0, hq1.c1⟩ | exact ⟨hp2.c0, hp2.c1, hq2.c0, hq2.c1⟩ | go_keep)
      (first
      | (go_at_call 107; (fail_if_success (have hh := hy1)); refine (HB.out.1 _ hx).mono ?_; rintro e w1 ⟨rfl, hb1⟩; have hp1 := hp.next hb1; have hq1 := hq.next hb1; have hy1 := hy.below hb1)
      | (go_at_call 107; refine (HB.out.2 _ hy1).mono ?_; rintro e w2 ⟨rfl, hb2⟩; have hp2 := hp1.next hb2; have hq2 := hq1.next hb2; have hx2 := (hx.below hb1).below hb2; have hy2 := hy1.below hb2))
    have e1 := hp2.c1
    have e2 := hq2.c1
    clear HB hp0 hp1 hq0 hq1
    go_wp2_with fail
    go_ret
    exact ⟨rfl, bnext (bnext hb.drew hb1) hb2⟩
  · obtain rfl := neg_true (of_decide_eq_true hd1.symm)
    obtain rfl := neg_true (of_decide_eq_true hd2.symm)
    rw [cmpZ_nn]
    clear hd1 hd2
    go_enter Tryz.func86, Tryz.ntmps86
    go_wp2_with fail
    rw [← hW]
    clear hW
    have hp0 := hp.c0
    have hp1 := hp.c1
    have hq0 := hq.c0
    have hq1 := hq.c1
    go_region_held3 (fun w' => w'.cell? ⟨w.heap.size, 0, none⟩ = some (.bool true) ∧ w'.cell? ⟨w.heap.size, 1, none⟩ = some (x) ∧ w'.cell? ⟨w.heap.size + 1, 0, none⟩ = some (.bool true) ∧ w'.cell? ⟨w.heap.size + 1, 1, none⟩ = some (y))
      (first | exact ⟨hp1.c0, hp1.c1, hq1.c0, hq1.c1⟩ | exact ⟨hp2.c0, hp2.c1, hq2.c0, hq2.c1⟩ | go_keep)
      (first
      | (go_at_call 107; (fail_if_success (have hh := hy1)); refine (HB.out.1 _ hx).mono ?_; rintro e w1 ⟨rfl, hb1⟩; have hp1 := hp.next hb1; have hq1 := hq.next hb1; have hy1 := hy.below hb1)
      | (go_at_call 107; refine (HB.out.2 _ hy1).mono ?_; rintro e w2 ⟨rfl, hb2⟩; have hp2 := hp1.next hb2; have hq2 := hq1.next hb2; have hx2 := (hx.below hb1).below hb2; have hy2 := hy1.below hb2))
    have e1 := hp2.c1
    have e2 := hq2.c1
    clear HB hp0 hp1 hq0 hq1
    go_wp2_with fail
    refine (cmp_num hy2 hx2 (by omega) (by omega)).mono ?_
    rintro e w3 ⟨rfl, rfl⟩
    go_wp2_with fail
    go_ret
    exact ⟨rfl, bnext (bnext hb.drew hb1) hb2⟩
end
section
variable {w : World} {u v : Value} {a b : Int} {K L : Nat}
end
section
variable {w : World} {u v : Value} {a b : Int} {K L : Nat}
end
end Go.Proofs.YthdhdmmlmbkalaaGreatDoor
