/-
  nat.Mul: what it answers.
-/
import Derived.Test.YtjildimhflondaaDoorSub
namespace Go.Proofs.YtjildimhflondaaDoor
open Go.RowKit

/-- What holds at the head of Mul's outer round. -/
def MulInv (w : World) (X Y : List Nat) (N k : Nat) (M : List Nat) (wr : World) : Prop :=
  M.length = N ∧ Ok M ∧ (∀ t, k + Y.length ≤ t → lim M t = 0) ∧ val M = val (X.take k) * val Y ∧ Blk wr w.heap.size M ∧ Below w.heap.size w wr
/-- ... and of its inner one. -/
def MulIn (w : World) (X Y : List Nat) (N k j c : Nat) (M0 M : List Nat) (wr : World) : Prop :=
  M.length = N ∧ Ok M ∧ (∀ t, k + j ≤ t → lim M t = lim M0 t) ∧ val M + 4294967296 ^ (k + j) * c = val M0 + 4294967296 ^ k * (lim X k * val (Y.take j)) ∧ Blk wr w.heap.size M ∧ Below w.heap.size w wr

theorem mul_bd (x y : Nat) (hx : x < 4294967296) (hy : y < 4294967296) : x * y ≤ 18446744065119617025 := by
  have := Nat.mul_le_mul (show x ≤ 4294967295 by omega) (show y ≤ 4294967295 by omega)
  omega
theorem mul_sum (v v' p q l r c c' s xy m e : Nat) (hs : s = c + (xy + l)) (hr : r = s % 4294967296) (hc : c' = s / 4294967296) (hset : v' + p * l = v + p * r) (h : v + p * c = m + e) (hq : q = p * 4294967296) :
    v' + q * c' = m + (e + p * xy) := by
  have e1 : r + 4294967296 * c' = s := by omega
  have e2 : p * r + p * (4294967296 * c') = p * c + (p * xy + p * l) := by rw [← Nat.mul_add, e1, hs, Nat.mul_add, Nat.mul_add]
  rw [hq, Nat.mul_assoc]
  omega
theorem mul_in_step {w : World} {X Y : List Nat} {N k j c : Nat} {M0 M : List Nat} {wr : World} (h : MulIn w X Y N k j c M0 M wr) (hN : X.length + Y.length ≤ N) (hk : k < X.length) (hj : j < Y.length) {z : Int}
    (hz : z = (((c + (lim X k * lim Y j + lim M (k + j))) % 4294967296 : Nat) : Int)) :
    MulIn w X Y N k (j + 1) ((c + (lim X k * lim Y j + lim M (k + j))) / 4294967296) M0 (M.set (k + j) ((c + (lim X k * lim Y j + lim M (k + j))) % 4294967296)) (wr.setCell ⟨w.heap.size, k + j, none⟩ (.int .u32 z)) := by
  obtain ⟨hl, ok, hu, hv, hb, hbel⟩ := h
  refine ⟨by rw [List.length_set, hl], ok.set _ _ (Nat.mod_lt _ (by decide)), fun t ht => by rw [lim_set_other _ _ _ _ (by omega)]; exact hu t (by omega), ?_, by subst hz; exact hb.set_ _ _, hbel.setCell (Nat.le_refl _) _⟩
  have hset := val_set M (k + j) ((c + (lim X k * lim Y j + lim M (k + j))) % 4294967296) (by omega)
  rw [val_take_succ, Nat.mul_add (lim X k), Nat.mul_add, show lim X k * (4294967296 ^ j * lim Y j) = 4294967296 ^ j * (lim X k * lim Y j) by rw [Nat.mul_left_comm], ← Nat.mul_assoc (4294967296 ^ k) (4294967296 ^ j), ← Nat.pow_add, ← Nat.add_assoc k j 1]
  exact mul_sum _ _ _ _ _ _ _ _ _ _ _ _ rfl rfl rfl hset hv (Nat.pow_succ ..)
/-- Behind the inner loop the carry goes where nought stands. -/
theorem mul_out_step {w : World} {X Y : List Nat} {N k c : Nat} {M0 M : List Nat} {wr : World} (h0 : M0.length = N ∧ (∀ t, k + Y.length ≤ t → lim M0 t = 0) ∧ val M0 = val (X.take k) * val Y)
    (h : MulIn w X Y N k Y.length c M0 M wr) (hN : X.length + Y.length ≤ N) (hk : k < X.length) (hc : c < 4294967296) {z : Int} (hz : z = (c : Int)) :
    MulInv w X Y N (k + 1) (M.set (k + Y.length) c) (wr.setCell ⟨w.heap.size, k + Y.length, none⟩ (.int .u32 z)) := by
  obtain ⟨hl, ok, hu, hv, hb, hbel⟩ := h
  refine ⟨by rw [List.length_set, hl], ok.set _ _ hc, fun t ht => by rw [lim_set_other _ _ _ _ (by omega), hu t (by omega)]; exact h0.2.1 t (by omega), ?_, by subst hz; exact hb.set_ _ _, hbel.setCell (Nat.le_refl _) _⟩
  have hset := val_set M (k + Y.length) c (by omega)
  rw [hu _ (Nat.le_refl _), h0.2.1 _ (Nat.le_refl _), Nat.mul_zero, Nat.add_zero] at hset
  rw [hset, hv, List.take_length, h0.2.2, val_take_succ, Nat.add_mul, Nat.mul_assoc]
theorem mul_out_zero {w : World} {X Y : List Nat} {N k : Nat} {M0 M : List Nat} {wr : World} (h0 : M0.length = N ∧ (∀ t, k + Y.length ≤ t → lim M0 t = 0) ∧ val M0 = val (X.take k) * val Y) (h : MulIn w X Y N k Y.length 0 M0 M wr) : MulInv w X Y N (k + 1) M wr := by
  obtain ⟨hl, ok, hu, hv, hb, hbel⟩ := h
  refine ⟨hl, ok, fun t ht => by rw [hu t (by omega)]; exact h0.2.1 t (by omega), ?_, hb, hbel⟩
  rw [Nat.mul_zero, Nat.add_zero] at hv
  rw [hv, List.take_length, h0.2.2, val_take_succ, Nat.add_mul, Nat.mul_assoc]
theorem mul_c_lt (c x y l : Nat) (hc : c < 4294967296) (hx : x * y ≤ 18446744065119617025) (hl : l < 4294967296) : (c + (x * y + l)) / 4294967296 < 4294967296 := by omega

theorem mul_num (c x y l : Nat) : Value.int .u64 (((c : Int) + ((x : Int) * (y : Int) + (l : Int))) / 4294967296) = Value.int .u64 (((c + (x * y + l)) / 4294967296 : Nat) : Int) := by
  rw [← Int.natCast_mul]
  exact congrArg _ (by omega)

set_option maxHeartbeats 1600000 in
theorem mul_any (A1 : Option Addr) (n1 c1 : Nat) (xs : List Nat) (A2 : Option Addr) (n2 c2 : Nat) (ys : List Nat) (w : World) (h1 : Sl w A1 n1 c1 xs) (h2 : Sl w A2 n2 c2 ys) (b1 : n1 ≤ 1000000000) (b2 : n2 ≤ 1000000000) :
    Calls Tryd.prog 13 #[.slice A1 n1 c1, .slice A2 n2 c2] w (Gives w (val xs * val ys)) := by
  have t1 := h1.trim
  have t2 := h2.trim
  have k1 := limbs_len_val h1.ok
  have k2 := limbs_len_val h2.ok
  have k3 := h1.len
  have k4 := h2.len
  have hvx := Lib.hid (limbs_val (val xs))
  have hvy := Lib.hid (limbs_val (val ys))
  obtain ⟨X, HX⟩ : ∃ X, Hid (X = limbs (val xs)) := ⟨_, rfl⟩
  obtain ⟨Y, HY⟩ : ∃ Y, Hid (Y = limbs (val ys)) := ⟨_, rfl⟩
  rw [← HX.out] at t1 k1 hvx
  rw [← HY.out] at t2 k2 hvy
  obtain ⟨m1, M1⟩ : ∃ m, Hid (m = X.length) := ⟨_, rfl⟩
  obtain ⟨m2, M2⟩ : ∃ m, Hid (m = Y.length) := ⟨_, rfl⟩
  rw [← M1.out] at t1 k1
  rw [← M2.out] at t2 k2
  have e1 : Hid (m1 = (limbs (val xs)).length) := by rw [← HX.out]; exact M1
  have e2 : Hid (m2 = (limbs (val ys)).length) := by rw [← HY.out]; exact M2
  have bm1 : m1 ≤ 1000000000 := by omega
  have bm2 : m2 ≤ 1000000000 := by omega
  clear k1 k2 k3 k4
  have hmk := fun W => make32 ((m1 : Int) + (m2 : Int)) (m1 + m2) (by omega) (by omega) W
  go_enter Tryd.func13, Tryd.ntmps13
  go_wp2_with fail
  refine (trim_at _ _ _ _ _ h1 m1 e1).mono ?_
  rintro e w' ⟨rfl, rfl⟩
  go_wp2_with fail
  refine (trim_at _ _ _ _ _ h2 m2 e2).mono ?_
  rintro e w' ⟨rfl, rfl⟩
  go_wp2_with fail
  clear hmk
  go_loopw [23] (fun i wr => ∃ k : Nat, k ≤ m1 ∧ i = .int .i64 k ∧ ∃ M, MulInv w X Y (X.length + Y.length) k M wr) (fun i _ => m1 - (intOf i).toNat)
  case atStart =>
    refine ⟨0, by omega, rfl, List.replicate (m1 + m2) 0, by simp [M1.out, M2.out], Ok.replicate _, fun t _ => ?_, by simp [val_replicate, val], Blk.made w (m1 + m2), (Below.refl _ _).alloc (Nat.le_refl _) _⟩
    rw [lim_eq, List.getElem?_replicate]; split <;> rfl
  case round =>
    obtain ⟨k, hk, rfl, M0, hinv⟩ := hrel
    obtain ⟨wo, rfl⟩ : ∃ wo : World, wo = wr := ⟨_, rfl⟩
    by_cases hkm : k < m1
    · obtain ⟨hl0, ok0, hz0, hv0, hB0, hbel0⟩ := hinv
      have s1 := t1.below hbel0
      obtain ⟨b, off, rfl, hb, hc⟩ := s1.here (by omega)
      have hck := hc k hkm
      have x1 := t1.ok.getD k
      have H0 := Lib.hid (And.intro hl0 (And.intro hz0 hv0))
      clear hc hl0 hz0 hv0
      go_wp2_with fail
      go_loopw [8, 30] (fun c i wr => ∃ j cy : Nat, j ≤ m2 ∧ i = .int .i64 j ∧ c = .int .u64 cy ∧ cy < 4294967296 ∧ ∃ M, MulIn w X Y (X.length + Y.length) k j cy M0 M wr) (fun _ i _ => m2 - (intOf i).toNat)
      case atStart => exact ⟨0, 0, by omega, rfl, rfl, by omega, M0, H0.out.1, ok0, fun _ _ => rfl, by simp [val], hB0, hbel0⟩
      case round =>
        obtain ⟨j, cy, hj, rfl, rfl, hcy, M, hin⟩ := hrel
        by_cases hjm : j < m2
        · obtain ⟨hl, ok, hu, hv, hB, hbel⟩ := id hin
          have s2 := t2.below hbel
          obtain ⟨b', off', rfl, hb', hc'⟩ := s2.here (by omega)
          have hcj := hc' j hjm
          have y1 := t2.ok.getD j
          have hf := hB.frozen (k + j)
          have hcl := hB.cell (k + j) (by have := M1.out; have := M2.out; omega)
          have z1 := ok.getD (k + j)
          have hm := mul_bd _ _ x1 y1
          have hm' : (lim X k : Int) * (lim Y j : Int) ≤ 18446744065119617025 := by rw [← Int.natCast_mul]; omega
          have hm0 : 0 ≤ (lim X k : Int) * (lim Y j : Int) := by rw [← Int.natCast_mul]; omega
          clear hc' hl hu hv
          go_wp2_with fail
          go_roundw
          case rel => exact ⟨j + 1, _, by omega, by go_num, mul_num _ _ _ _, mul_c_lt _ _ _ _ hcy hm z1, _, mul_in_step hin (Nat.le_refl _) (by have := M1.out; omega) (by have := M2.out; omega) (by rw [← Int.natCast_mul]; omega)⟩
          case measure => simp [intOf]; omega
        · obtain rfl : j = m2 := by omega
          obtain ⟨hl, ok, hu, hv, hB, hbel⟩ := id hin
          have hf := hB.frozen (k + j)
          have hcl := hB.cell (k + j) (by have := M1.out; have := M2.out; omega)
          clear hl hu hv
          have HIN := Lib.hid hin
          clear hin
          go_wp2_with fail
          go_roundw
          case rel =>
            have hin := HIN.out
            rw [M2.out] at hin ⊢
            exact ⟨k + 1, by omega, by go_num, _, mul_out_step H0.out hin (Nat.le_refl _) (by have := M1.out; omega) hcy (by omega)⟩
          case measure => simp [intOf]; omega
    · obtain rfl : k = m1 := by omega
      obtain ⟨hl, ok, hz, hv, hB, hbel⟩ := hinv
      have hsl := hB.slAll ok (by have := M1.out; have := M2.out; unfold maxLen; omega)
      rw [hl, ← M1.out, ← M2.out] at hsl
      have hnew := Lib.hid (hB.new (base := w.heap.size) ok (by have := M1.out; have := M2.out; unfold maxLen; omega) (Nat.le_refl _))
      have HL := Lib.hid (And.intro hl hv)
      clear hl hv hz
      go_wp2_with (go_at_call 51; refine (trim_any _ _ _ _ _ hsl).mono ?_; rintro e w' ⟨rfl, rfl⟩)
      go_ret
      obtain ⟨hl, hv⟩ := HL.out
      rw [List.take_of_length_le (by have := M1.out; omega), hvx.out, hvy.out] at hv
      exact ⟨_, rfl, by rw [← hv, M1.out, M2.out, ← hl]; exact hnew.out, hbel⟩
end Go.Proofs.YtjildimhflondaaDoor
