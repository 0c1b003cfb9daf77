/-
  whole.Add, Sub, Mul, Cmp: their contracts.
-/
import Derived.Test.YtabdnlhehickoaaDoorWhA
namespace Go.Proofs.YtabdnlhehickoaaDoor
open Go.RowKit
/-- What Cmp tells. -/
def cmpZ (a b : Int) : Int := if a < b then -1 else if b < a then 1 else 0
theorem zOf_add_same (s : Bool) (m n : Nat) : zOf s m + zOf s n = zOf s (m + n) := by cases s <;> simp [zOf] <;> omega
theorem zOf_add_less {s t : Bool} {m n : Nat} (h : s ≠ t) (hl : m < n) : zOf s m + zOf t n = zOf t (n - m) := by cases s <;> cases t <;> simp [zOf] at * <;> omega
theorem zOf_add_more {s t : Bool} {m n : Nat} (h : s ≠ t) (hl : ¬ m < n) : zOf s m + zOf t n = zOf s (m - n) := by cases s <;> cases t <;> simp [zOf] at * <;> omega
theorem zOf_mul (s t : Bool) (m n : Nat) : zOf s m * zOf t n = zOf (s != t) (m * n) := by cases s <;> cases t <;> simp [zOf, Int.neg_mul, Int.mul_neg]
theorem abs_add (a b : Int) : (a + b).natAbs ≤ a.natAbs + b.natAbs := Int.natAbs_add_le a b
theorem lt_addZ {a b : Int} {K L : Nat} (ha : a.natAbs < 4294967296 ^ K) (hb : b.natAbs < 4294967296 ^ L) : (a + b).natAbs < 4294967296 ^ (max K L + 1) := Nat.lt_of_le_of_lt (abs_add a b) (lt_add ha hb)
theorem lt_subZ {a b : Int} {K L : Nat} (ha : a.natAbs < 4294967296 ^ K) (hb : b.natAbs < 4294967296 ^ L) : (a - b).natAbs < 4294967296 ^ (max K L + 1) := by
  rw [Int.sub_eq_add_neg]
  exact lt_addZ ha (by rw [Int.natAbs_neg]; exact hb)
theorem lt_mulZ {a b : Int} {K L : Nat} (ha : a.natAbs < 4294967296 ^ K) (hb : b.natAbs < 4294967296 ^ L) : (a * b).natAbs < 4294967296 ^ (K + L) := by
  rw [Int.natAbs_mul]; exact lt_mul ha hb
theorem lt_negZ {a : Int} {K : Nat} (ha : a.natAbs < 4294967296 ^ K) : (-a).natAbs < 4294967296 ^ K := by rw [Int.natAbs_neg]; exact ha
section
variable {w : World} {u v : Value} {a b : Int} {K L : Nat}

set_option maxHeartbeats 1600000 in
theorem wadd_num (hu : Wh w u a K) (hv : Wh w v b L) (hK : K ≤ 1000000) (hL : L ≤ 1000000) : Calls Tryd.prog 30 #[u, v] w (WGives w (a + b)) := by
  obtain ⟨s, x, m, rfl, hx, rfl⟩ := hu
  obtain ⟨t, y, n, rfl, hy, rfl⟩ := hv
  by_cases hst : s = t
  · subst hst
    rw [zOf_add_same]
    obtain ⟨W, hW, hp, hq, hr, hb⟩ := enter2r w (.bool s) x (.bool s) y
    replace hx := (hx.below hb).drew
    replace hy := (hy.below hb).drew
    have hss : (s == s) = true := by cases s <;> rfl
    go_enter Tryd.func30, Tryd.ntmps30
    go_wp2_with fail
    rw [← hW]
    clear hW
    replace hp := hp.drew
    have hpd0 := hp.c0
    have hpd1 := hp.c1
    replace hq := hq.drew
    have hqd0 := hq.c0
    have hqd1 := hq.c1
    replace hr := hr.drew
    go_region_held3 (fun w' => w'.cell? ⟨w.heap.size, 0, none⟩ = some (.bool s) ∧ w'.cell? ⟨w.heap.size, 1, none⟩ = some (x) ∧ w'.cell? ⟨w.heap.size + 1, 0, none⟩ = some (.bool s) ∧ w'.cell? ⟨w.heap.size + 1, 1, none⟩ = some (y))
      (first | exact ⟨hp1.c0, hp1.c1, hq1.c0, hq1.c1⟩ | exact ⟨hp2.c0, hp2.c1, hq2.c0, hq2.c1⟩ | exact ⟨((hp2.far (by dsimp only; omega) _).far (by dsimp only; omega) _).c0, ((hp2.far (by dsimp only; omega) _).far (by dsimp only; omega) _).c1, ((hq2.far (by dsimp only; omega) _).far (by dsimp only; omega) _).c0, ((hq2.far (by dsimp only; omega) _).far (by dsimp only; omega) _).c1⟩ | go_keep)
      (first
      | (go_at_call 16; refine (add_num hx hy (by omega) (by omega)).mono ?_; rintro e w1 ⟨v, rfl, hv, hb1⟩; have hp1 := hp.next hb1; have hq1 := hq.next hb1; have hr1 := hr.next hb1)
      | (go_at_call 69; refine (signed_w s hv).mono ?_; rintro e w2 ⟨b, xa, xn, xc, rfl, hnew, hb2⟩; have hp2 := hp1.next hb2; have hq2 := hq1.next hb2; have hr2 := hr1.next hb2; obtain ⟨q1, q2, q3, q4, q5, q6⟩ := hr2.room (.bool b)))
    go_wp2_with fail
    exact wret rfl rfl rfl hr2 hnew.out hb.drew.size (by omega) (bnext (bnext hb.drew hb1) hb2)
  · by_cases hlt : m < n
    · rw [zOf_add_less hst hlt]
      have hc : cmpN m n < 0 := by exact (cmpN_neg_iff _ _).2 hlt
      have hne : (s == t) = false := by cases s <;> cases t <;> simp at *
      obtain ⟨W, hW, hp, hq, hr, hb⟩ := enter2r w (.bool s) x (.bool t) y
      replace hx := hx.below hb
      replace hy := hy.below hb
      have HC := Lib.hid (cmp_num hx hy (by omega) (by omega))
      replace hx := hx.drew
      replace hy := hy.drew
      go_enter Tryd.func30, Tryd.ntmps30
      go_wp2_with fail
      rw [← hW]
      clear hW
      refine HC.out.mono ?_
      rintro e w0 ⟨rfl, rfl⟩
      have hp0 := hp.c0
      have hp1 := hp.c1
      have hq0 := hq.c0
      have hq1 := hq.c1
      go_wp2_with fail
      clear hp0 hp1 hq0 hq1
      replace hp := hp.drew
      have hpd0 := hp.c0
      have hpd1 := hp.c1
      replace hq := hq.drew
      have hqd0 := hq.c0
      have hqd1 := hq.c1
      replace hr := hr.drew
      go_region_held3 (fun w' => w'.cell? ⟨w.heap.size, 0, none⟩ = some (.bool s) ∧ w'.cell? ⟨w.heap.size, 1, none⟩ = some (x) ∧ w'.cell? ⟨w.heap.size + 1, 0, none⟩ = some (.bool t) ∧ w'.cell? ⟨w.heap.size + 1, 1, none⟩ = some (y))
        (first | exact ⟨hp1.c0, hp1.c1, hq1.c0, hq1.c1⟩ | exact ⟨hp2.c0, hp2.c1, hq2.c0, hq2.c1⟩ | exact ⟨((hp2.far (by dsimp only; omega) _).far (by dsimp only; omega) _).c0, ((hp2.far (by dsimp only; omega) _).far (by dsimp only; omega) _).c1, ((hq2.far (by dsimp only; omega) _).far (by dsimp only; omega) _).c0, ((hq2.far (by dsimp only; omega) _).far (by dsimp only; omega) _).c1⟩ | go_keep)
        (first
        | (go_at_call 17; refine (sub_num hy hx (by omega) (by omega)).mono ?_; rintro e w1 ⟨v, rfl, hv, hb1⟩; have hp1 := hp.next hb1; have hq1 := hq.next hb1; have hr1 := hr.next hb1)
        | (go_at_call 69; refine (signed_w t hv).mono ?_; rintro e w2 ⟨b, xa, xn, xc, rfl, hnew, hb2⟩; have hp2 := hp1.next hb2; have hq2 := hq1.next hb2; have hr2 := hr1.next hb2; obtain ⟨q1, q2, q3, q4, q5, q6⟩ := hr2.room (.bool b)))
      go_wp2_with fail
      exact wret rfl rfl rfl hr2 hnew.out hb.drew.size (by omega) (bnext (bnext hb.drew hb1) hb2)
    · rw [zOf_add_more hst hlt]
      have hc : ¬ cmpN m n < 0 := by intro h; exact hlt ((cmpN_neg_iff _ _).1 h)
      have hne : (s == t) = false := by cases s <;> cases t <;> simp at *
      obtain ⟨W, hW, hp, hq, hr, hb⟩ := enter2r w (.bool s) x (.bool t) y
      replace hx := hx.below hb
      replace hy := hy.below hb
      have HC := Lib.hid (cmp_num hx hy (by omega) (by omega))
      replace hx := hx.drew
      replace hy := hy.drew
      go_enter Tryd.func30, Tryd.ntmps30
      go_wp2_with fail
      rw [← hW]
      clear hW
      refine HC.out.mono ?_
      rintro e w0 ⟨rfl, rfl⟩
      have hp0 := hp.c0
      have hp1 := hp.c1
      have hq0 := hq.c0
      have hq1 := hq.c1
      go_wp2_with fail
      clear hp0 hp1 hq0 hq1
      replace hp := hp.drew
      have hpd0 := hp.c0
      have hpd1 := hp.c1
      replace hq := hq.drew
      have hqd0 := hq.c0
      have hqd1 := hq.c1
      replace hr := hr.drew
      go_region_held3 (fun w' => w'.cell? ⟨w.heap.size, 0, none⟩ = some (.bool s) ∧ w'.cell? ⟨w.heap.size, 1, none⟩ = some (x) ∧ w'.cell? ⟨w.heap.size + 1, 0, none⟩ = some (.bool t) ∧ w'.cell? ⟨w.heap.size + 1, 1, none⟩ = some (y))
        (first | exact ⟨hp1.c0, hp1.c1, hq1.c0, hq1.c1⟩ | exact ⟨hp2.c0, hp2.c1, hq2.c0, hq2.c1⟩ | exact ⟨((hp2.far (by dsimp only; omega) _).far (by dsimp only; omega) _).c0, ((hp2.far (by dsimp only; omega) _).far (by dsimp only; omega) _).c1, ((hq2.far (by dsimp only; omega) _).far (by dsimp only; omega) _).c0, ((hq2.far (by dsimp only; omega) _).far (by dsimp only; omega) _).c1⟩ | go_keep)
        (first
        | (go_at_call 17; refine (sub_num hx hy (by omega) (by omega)).mono ?_; rintro e w1 ⟨v, rfl, hv, hb1⟩; have hp1 := hp.next hb1; have hq1 := hq.next hb1; have hr1 := hr.next hb1)
        | (go_at_call 69; refine (signed_w s hv).mono ?_; rintro e w2 ⟨b, xa, xn, xc, rfl, hnew, hb2⟩; have hp2 := hp1.next hb2; have hq2 := hq1.next hb2; have hr2 := hr1.next hb2; obtain ⟨q1, q2, q3, q4, q5, q6⟩ := hr2.room (.bool b)))
      go_wp2_with fail
      exact wret rfl rfl rfl hr2 hnew.out hb.drew.size (by omega) (bnext (bnext hb.drew hb1) hb2)

set_option maxHeartbeats 1600000 in
theorem wmul_num (hu : Wh w u a K) (hv : Wh w v b L) (hK : K ≤ 1000000) (hL : L ≤ 1000000) : Calls Tryd.prog 34 #[u, v] w (WGives w (a * b)) := by
  obtain ⟨s, x, m, rfl, hx, rfl⟩ := hu
  obtain ⟨t, y, n, rfl, hy, rfl⟩ := hv
  rw [zOf_mul]
  obtain ⟨W, hW, hp, hq, hr, hb⟩ := enter2r w (.bool s) x (.bool t) y
  replace hx := (hx.below hb).drew
  replace hy := (hy.below hb).drew
  go_enter Tryd.func34, Tryd.ntmps34
  go_wp2_with fail
  rw [← hW]
  clear hW
  replace hp := hp.drew
  have hpd0 := hp.c0
  have hpd1 := hp.c1
  replace hq := hq.drew
  have hqd0 := hq.c0
  have hqd1 := hq.c1
  replace hr := hr.drew
  go_region_held3 (fun w' => w'.cell? ⟨w.heap.size, 0, none⟩ = some (.bool s) ∧ w'.cell? ⟨w.heap.size, 1, none⟩ = some (x) ∧ w'.cell? ⟨w.heap.size + 1, 0, none⟩ = some (.bool t) ∧ w'.cell? ⟨w.heap.size + 1, 1, none⟩ = some (y))
    (first | exact ⟨hp1.c0, hp1.c1, hq1.c0, hq1.c1⟩ | exact ⟨hp2.c0, hp2.c1, hq2.c0, hq2.c1⟩ | exact ⟨((hp2.far (by dsimp only; omega) _).far (by dsimp only; omega) _).c0, ((hp2.far (by dsimp only; omega) _).far (by dsimp only; omega) _).c1, ((hq2.far (by dsimp only; omega) _).far (by dsimp only; omega) _).c0, ((hq2.far (by dsimp only; omega) _).far (by dsimp only; omega) _).c1⟩ | go_keep)
    (first
    | (go_at_call 18; refine (mul_num' hx hy (by omega) (by omega)).mono ?_; rintro e w1 ⟨v, rfl, hv, hb1⟩; have hp1 := hp.next hb1; have hq1 := hq.next hb1; have hr1 := hr.next hb1)
    | (go_at_call 69; refine (signed_w _ hv).mono ?_; rintro e w2 ⟨b, xa, xn, xc, rfl, hnew, hb2⟩; have hp2 := hp1.next hb2; have hq2 := hq1.next hb2; have hr2 := hr1.next hb2; obtain ⟨q1, q2, q3, q4, q5, q6⟩ := hr2.room (.bool b)))
  go_wp2_with fail
  exact wret rfl rfl rfl hr2 hnew.out hb.drew.size (by omega) (bnext (bnext hb.drew hb1) hb2)
end
end Go.Proofs.YtabdnlhehickoaaDoor
