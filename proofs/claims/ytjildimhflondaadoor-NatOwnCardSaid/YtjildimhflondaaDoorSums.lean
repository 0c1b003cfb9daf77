/-
  nat.Norm, Cmp, Add, Sub: what they answer.
-/
import Derived.Test.YtjildimhflondaaDoorTrim
import Derived.Outline
namespace Go.Proofs.YtjildimhflondaaDoor
open Go.RowKit

theorem info32 : (Tryd.prog.info? 32).map (fun i => (i.zero, i.size, i.bytes)) = some (some (.int .u32 0), 1, 4) := by kernel_rfl
theorem make32 (c : Int) (n : Nat) (hc : c = (n : Int)) (hn : n ≤ 10000000000) (w : World) :
    (Instr.makeSlice 22 (.int .i64 c) (.int .i64 c)).run Tryd.prog w = .ok (.slice (some ⟨w.heap.size, 0, none⟩) n n) (w.alloc (.cells (madeCells #[Value.int .u32 0] n) 32)) := by
  obtain ⟨i, hi, hz, hs, hb⟩ := info_parts info32
  subst hc
  exact run_make_limbs Tryd.underlying22 hi hz hs hb n hn w

/-- What holds at the head of Add's round. -/
def AddInv (w : World) (xs ys : List Nat) (n k cy : Nat) (wr : World) : Prop :=
  ∃ S : List Nat, S.length = k ∧ val S + 4294967296 ^ k * cy = val (xs.take k) + val (ys.take k) ∧ Part wr w.heap.size n S ∧ Below w.heap.size w wr
theorem add_sum (p v x y s cy c' r a b q : Nat) (hs : s = cy + (x + y)) (hc : c' = s / 4294967296) (hr : r = s % 4294967296) (h : v + p * cy = a + b) (hq : q = p * 4294967296) :
    v + p * r + q * c' = a + p * x + (b + p * y) := by
  have e : r + 4294967296 * c' = s := by omega
  subst hq
  rw [Nat.mul_assoc, Nat.add_assoc, ← Nat.mul_add, e, hs, Nat.mul_add, Nat.mul_add]
  omega
theorem add_step {w : World} {xs ys : List Nat} {n k cy : Nat} {wr : World} (h : AddInv w xs ys n k cy wr) (hk : k < n) {z : Int} (hz : z = (((cy + (lim xs k + lim ys k)) % 4294967296 : Nat) : Int)) :
    AddInv w xs ys n (k + 1) ((cy + (lim xs k + lim ys k)) / 4294967296) (wr.setCell ⟨w.heap.size, k, none⟩ (.int .u32 z)) := by
  obtain ⟨S, hS, hv, hp, hb⟩ := h
  refine ⟨S ++ [(cy + (lim xs k + lim ys k)) % 4294967296], by simp [hS], ?_, hp.push hS hk (Nat.mod_lt _ (by decide)) hz, hb.setCell (Nat.le_refl _) _⟩
  rw [val_snoc, hS, val_take_succ, val_take_succ]
  exact add_sum _ _ _ _ _ _ _ _ _ _ _ rfl rfl rfl hv (Nat.pow_succ ..)
/-- The last limb of a sum is the last carry: there is none behind it. -/
theorem add_end {w : World} {xs ys : List Nat} {n : Nat} {cy : Nat} {wr : World} (h : AddInv w xs ys n n cy wr) (ox : Ok xs) (oy : Ok ys) (hx : xs.length < n) (hy : ys.length < n) :
    ∃ S : List Nat, S.length = n ∧ Ok S ∧ val S = val xs + val ys ∧ Blk wr w.heap.size S ∧ Below w.heap.size w wr := by
  obtain ⟨S, hS, hv, hp, hb⟩ := h
  rw [List.take_of_length_le (by omega), List.take_of_length_le (by omega)] at hv
  obtain ⟨j, rfl⟩ : ∃ j, n = j + 1 := ⟨n - 1, by omega⟩
  have h1 := Nat.lt_of_lt_of_le (val_lt ox) (Nat.pow_le_pow_right (by decide) (show xs.length ≤ j by omega))
  have h2 := Nat.lt_of_lt_of_le (val_lt oy) (Nat.pow_le_pow_right (by decide) (show ys.length ≤ j by omega))
  rw [Nat.pow_succ] at hv
  have hcy : cy = 0 := by
    rcases Nat.eq_zero_or_pos cy with h0 | h0
    · exact h0
    · exfalso
      have : 4294967296 ^ j * 4294967296 ≤ 4294967296 ^ j * 4294967296 * cy := Nat.le_mul_of_pos_right _ h0
      omega
  subst hcy
  rw [Nat.mul_zero, Nat.add_zero] at hv
  exact ⟨S, hS, hp.ok, hv, hp.all hS, hb⟩

set_option maxHeartbeats 800000 in
theorem add_any (A1 : Option Addr) (n1 c1 : Nat) (xs : List Nat) (A2 : Option Addr) (n2 c2 : Nat) (ys : List Nat) (w : World) (h1 : Sl w A1 n1 c1 xs) (h2 : Sl w A2 n2 c2 ys) (b1 : n1 ≤ 1000000000) (b2 : n2 ≤ 1000000000) :
    Calls Tryd.prog 11 #[.slice A1 n1 c1, .slice A2 n2 c2] w (Gives w (val xs + val ys)) := by
  obtain ⟨m, hm⟩ : ∃ m, n1 < n2 ∧ m = n2 ∨ n2 ≤ n1 ∧ m = n1 := by
    rcases Nat.lt_or_ge n1 n2 with h | h
    · exact ⟨_, .inl ⟨h, rfl⟩⟩
    · exact ⟨_, .inr ⟨h, rfl⟩⟩
  have l1 : xs.length ≤ m := by have := h1.len; omega
  have l2 : ys.length ≤ m := by have := h2.len; omega
  rcases hm with ⟨hlt, rfl⟩ | ⟨hlt, rfl⟩
  all_goals
    have hmk := fun W => make32 ((m : Int) + 1) (m + 1) (by omega) (by omega) W
    go_enter Tryd.func11, Tryd.ntmps11
    go_wp2_with fail
    clear hmk
    go_loopw [6, 17] (fun c i wr => ∃ k cy : Nat, k ≤ m + 1 ∧ i = .int .i64 k ∧ c = .int .u64 cy ∧ cy ≤ 1 ∧ AddInv w xs ys (m + 1) k cy wr) (fun _ i _ => m + 1 - (intOf i).toNat)
    case atStart => exact ⟨0, 0, by omega, rfl, rfl, by omega, [], rfl, by simp [val], Part.made w (m + 1), (Below.refl _ _).alloc (Nat.le_refl _) _⟩
    case round =>
      obtain ⟨k, cy, hk, rfl, rfl, hcy, hinv⟩ := hrel
      by_cases hkm : k < m + 1
      · obtain ⟨S, hS, hv, hB, hbel⟩ := id hinv
        have hf := hB.frozen k
        have hc := hB.cell hS hkm
        have s1 := h1.below hbel
        have s2 := h2.below hbel
        have x1 := h1.ok.getD k
        have x2 := h2.ok.getD k
        clear hS hv hB
        go_wp2_with (go_at_call 54; refine (limbAt_any _ _ _ _ _ _ (by assumption) (by omega)).mono ?_; rintro e w' ⟨rfl, rfl⟩)
        go_roundw
        case rel => exact ⟨k + 1, _, by omega, by go_num, by go_num, by omega, add_step hinv hkm (by omega)⟩
        case measure => simp [intOf]; omega
      · obtain rfl : k = m + 1 := by omega
        obtain ⟨S, hS, oS, hv, hB, hbel⟩ := add_end hinv h1.ok h2.ok (by omega) (by omega)
        have hsl := hB.slAll oS (by unfold maxLen; omega)
        rw [hS] at hsl
        have hnew := Lib.hid (hB.new (base := w.heap.size) oS (by unfold maxLen; omega) (Nat.le_refl _))
        have HS := Lib.hid hS
        have HV := Lib.hid hv
        clear hS hv hinv
        go_wp2_with (go_at_call 51; refine (trim_any _ _ _ _ _ hsl).mono ?_; rintro e w' ⟨rfl, rfl⟩)
        go_ret
        exact ⟨_, rfl, by rw [← HV.out, ← HS.out]; exact hnew.out, hbel⟩

set_option maxHeartbeats 800000 in
theorem cmp_any (A1 : Option Addr) (n1 c1 : Nat) (xs : List Nat) (A2 : Option Addr) (n2 c2 : Nat) (ys : List Nat) (w : World) (h1 : Sl w A1 n1 c1 xs) (h2 : Sl w A2 n2 c2 ys) (b1 : n1 ≤ 1000000000) (b2 : n2 ≤ 1000000000) :
    Calls Tryd.prog 55 #[.slice A1 n1 c1, .slice A2 n2 c2] w fun e w' => e = .returned (.int .i64 (cmpN (val xs) (val ys))) ∧ w = w' := by
  obtain ⟨m, hm⟩ : ∃ m, n1 < n2 ∧ m = n2 ∨ n2 ≤ n1 ∧ m = n1 := by
    rcases Nat.lt_or_ge n1 n2 with h | h
    · exact ⟨_, .inl ⟨h, rfl⟩⟩
    · exact ⟨_, .inr ⟨h, rfl⟩⟩
  have l1 : xs.length ≤ m := by have := h1.len; omega
  have l2 : ys.length ≤ m := by have := h2.len; omega
  rcases hm with ⟨hlt, rfl⟩ | ⟨hlt, rfl⟩
  all_goals
    go_enter Tryd.func55, Tryd.ntmps55
    go_wp2_with fail
    go_loop [5] (fun i => ∃ k : Nat, k ≤ m ∧ i = .int .i64 ((k : Int) - 1) ∧ Hid (cmpN (val (xs.take k)) (val (ys.take k)) = cmpN (val xs) (val ys))) (fun i => (intOf i + 1).toNat)
    case atStart => exact ⟨m, Nat.le_refl _, rfl, by rw [List.take_of_length_le l1, List.take_of_length_le l2]; exact rfl⟩
    case round =>
      obtain ⟨k, hk, rfl, hr⟩ := hrel
      rcases k with _ | k
      · go_wp2_with fail
        go_ret
        exact ⟨by rw [← hr.out]; rfl, rfl⟩
      · rw [show (((k + 1 : Nat) : Int) - 1) = (k : Int) by omega]
        rcases Nat.lt_trichotomy (lim xs k) (lim ys k) with hx | hx | hx
        · have hd := Lib.hid (cmp_down_lt h1.ok hx)
          go_wp2_with (go_at_call 54; refine (limbAt_any _ _ _ _ _ _ (by assumption) (by omega)).mono ?_; rintro e w' ⟨rfl, rfl⟩)
          go_ret
          exact ⟨by rw [← hr.out, hd.out]; rfl, rfl⟩
        · have hd := Lib.hid (cmp_down_eq hx)
          have hx1 : ¬ lim xs k < lim ys k := by omega
          have hx2 : ¬ lim ys k < lim xs k := by omega
          clear hx
          go_wp2_with (go_at_call 54; refine (limbAt_any _ _ _ _ _ _ (by assumption) (by omega)).mono ?_; rintro e w' ⟨rfl, rfl⟩)
          go_round
          case rel => exact ⟨k, by omega, by go_num, by rw [← hr.out, hd.out]; exact rfl⟩
          case measure => simp [intOf]
        · have hd := Lib.hid (cmp_down_gt h2.ok hx)
          have hx1 : ¬ lim xs k < lim ys k := by omega
          go_wp2_with (go_at_call 54; refine (limbAt_any _ _ _ _ _ _ (by assumption) (by omega)).mono ?_; rintro e w' ⟨rfl, rfl⟩)
          go_ret
          exact ⟨by rw [← hr.out, hd.out]; rfl, rfl⟩
end Go.Proofs.YtjildimhflondaaDoor
