/-
  nat.Sub: what it answers.
-/
import Derived.Test.YtjildimhflondaaDoorNorm
namespace Go.Proofs.YtjildimhflondaaDoor
open Go.RowKit

/-- What holds at the head of Sub's round. -/
def SubInv (w : World) (xs ys : List Nat) (n k bo : Nat) (wr : World) : Prop :=
  ∃ S : List Nat, S.length = k ∧ val S + val (ys.take k) = val (xs.take k) + 4294967296 ^ k * bo ∧ Part wr w.heap.size n S ∧ Below w.heap.size w wr
theorem sub_sum (p v x y d bo b' r a b q : Nat) (hd : d = 4294967296 + x - y - bo) (hy : y < 4294967296) (hb : bo ≤ 1) (hx : x < 4294967296) (hb' : b' = 1 - d / 4294967296) (hr : r = d % 4294967296) (h : v + b = a + p * bo) (hq : q = p * 4294967296) :
    v + p * r + (b + p * y) = a + p * x + q * b' := by
  have e : r + y + bo = x + 4294967296 * b' := by omega
  have e2 : p * r + p * y + p * bo = p * x + p * 4294967296 * b' := by
    rw [← Nat.mul_add, ← Nat.mul_add, e, Nat.mul_add, Nat.mul_assoc]
  rw [hq]
  omega
theorem sub_step {w : World} {xs ys : List Nat} {n k bo : Nat} {wr : World} (h : SubInv w xs ys n k bo wr) (hk : k < n) (hb : bo ≤ 1) (hx : lim xs k < 4294967296) (hy : lim ys k < 4294967296) {z : Int} (hz : z = (((4294967296 + lim xs k - lim ys k - bo) % 4294967296 : Nat) : Int)) :
    SubInv w xs ys n (k + 1) (1 - (4294967296 + lim xs k - lim ys k - bo) / 4294967296) (wr.setCell ⟨w.heap.size, k, none⟩ (.int .u32 z)) := by
  obtain ⟨S, hS, hv, hp, hbel⟩ := h
  refine ⟨S ++ [(4294967296 + lim xs k - lim ys k - bo) % 4294967296], by simp [hS], ?_, hp.push hS hk (Nat.mod_lt _ (by decide)) hz, hbel.setCell (Nat.le_refl _) _⟩
  rw [val_snoc, hS, val_take_succ, val_take_succ]
  exact sub_sum _ _ _ _ _ _ _ _ _ _ _ rfl hy hb hx rfl rfl hv (Nat.pow_succ ..)
theorem sub_end {w : World} {xs ys : List Nat} {n bo : Nat} {wr : World} (h : SubInv w xs ys n n bo wr) (ox : Ok xs) (hx : xs.length = n) (hlt : val ys < val xs) :
    ∃ S : List Nat, S.length = n ∧ Ok S ∧ val S = val xs - val ys ∧ Blk wr w.heap.size S ∧ Below w.heap.size w wr := by
  obtain ⟨S, hS, hv, hp, hb⟩ := h
  rw [List.take_of_length_le (l := xs) (by omega)] at hv
  have h1 := val_lt ox
  have h2 := val_lt hp.ok
  rw [hx] at h1
  rw [hS] at h2
  have hy : val (ys.take n) = val ys := by
    rcases Nat.lt_or_ge n ys.length with hn | hn
    · have e := val_take_drop ys n (by omega)
      rcases Nat.eq_zero_or_pos (val (ys.drop n)) with h0 | h0
      · rw [h0, Nat.mul_zero, Nat.add_zero] at e
        exact e.symm
      · exfalso
        have : 4294967296 ^ n ≤ 4294967296 ^ n * val (ys.drop n) := Nat.le_mul_of_pos_right _ h0
        omega
    · rw [List.take_of_length_le hn]
  rw [hy] at hv
  have hbo : bo = 0 := by
    rcases Nat.eq_zero_or_pos bo with h0 | h0
    · exact h0
    · exfalso
      have : 4294967296 ^ n ≤ 4294967296 ^ n * bo := Nat.le_mul_of_pos_right _ h0
      omega
  subst hbo
  rw [Nat.mul_zero, Nat.add_zero] at hv
  exact ⟨S, hS, hp.ok, by omega, hp.all hS, hb⟩

set_option maxHeartbeats 800000 in
theorem sub_any (A1 : Option Addr) (n1 c1 : Nat) (xs : List Nat) (A2 : Option Addr) (n2 c2 : Nat) (ys : List Nat) (w : World) (h1 : Sl w A1 n1 c1 xs) (h2 : Sl w A2 n2 c2 ys) (b1 : n1 ≤ 1000000000) (b2 : n2 ≤ 1000000000) :
    Calls Tryd.prog 12 #[.slice A1 n1 c1, .slice A2 n2 c2] w (Gives w (val xs - val ys)) := by
  have hcb := cmpN_bd (val xs) (val ys)
  by_cases hle : val xs ≤ val ys
  · have hc : cmpN (val xs) (val ys) ≤ 0 := (cmpN_le_zero _ _).2 hle
    have HZ := Lib.hid (show val xs - val ys = 0 by omega)
    clear hle
    go_enter Tryd.func12, Tryd.ntmps12
    go_wp2_with (go_at_call 55; refine (cmp_any _ _ _ _ _ _ _ _ _ h1 h2 b1 b2).mono ?_; rintro e w' ⟨rfl, rfl⟩)
    go_ret
    exact ⟨_, rfl, by rw [HZ.out]; exact New.nil _ _, Below.refl _ _⟩
  · have hc : ¬ cmpN (val xs) (val ys) ≤ 0 := fun h => hle ((cmpN_le_zero _ _).1 h)
    have HL := Lib.hid h1.len
    have HLT := Lib.hid (show val ys < val xs by omega)
    have hmk := fun W => make32 (n1 : Int) n1 rfl (by omega) W
    clear hle
    go_enter Tryd.func12, Tryd.ntmps12
    go_wp2_with (go_at_call 55; refine (cmp_any _ _ _ _ _ _ _ _ _ h1 h2 b1 b2).mono ?_; rintro e w' ⟨rfl, rfl⟩)
    clear hmk
    go_loopw [6, 18] (fun c i wr => ∃ k bo : Nat, k ≤ n1 ∧ i = .int .i64 k ∧ c = .int .u64 bo ∧ bo ≤ 1 ∧ SubInv w xs ys n1 k bo wr) (fun _ i _ => n1 - (intOf i).toNat)
    case atStart => exact ⟨0, 0, by omega, rfl, rfl, by omega, [], rfl, by simp [val], Part.made w n1, (Below.refl _ _).alloc (Nat.le_refl _) _⟩
    case round =>
      obtain ⟨k, bo, hk, rfl, rfl, hbo, hinv⟩ := hrel
      by_cases hkm : k < n1
      · obtain ⟨S, hS, hv, hB, hbel⟩ := id hinv
        have hf := hB.frozen k
        have hcl := hB.cell hS hkm
        have s1 := h1.below hbel
        have s2 := h2.below hbel
        have x1 := h1.ok.getD k
        have x2 := h2.ok.getD k
        clear hS hv hB
        go_wp2_with (go_at_call 54; refine (limbAt_any _ _ _ _ _ _ (by assumption) (by omega)).mono ?_; rintro e w' ⟨rfl, rfl⟩)
        go_roundw
        case rel => exact ⟨k + 1, _, by omega, by go_num, by go_num, by omega, sub_step hinv hkm hbo x1 x2 (by omega)⟩
        case measure => simp [intOf]; omega
      · obtain rfl : k = n1 := by omega
        obtain ⟨S, hS, oS, hv, hB, hbel⟩ := sub_end hinv h1.ok HL.out.symm HLT.out
        have hsl := hB.slAll oS (by unfold maxLen; omega)
        rw [hS] at hsl
        have hnew := Lib.hid (hB.new (base := w.heap.size) oS (by unfold maxLen; omega) (Nat.le_refl _))
        have HS := Lib.hid hS
        have HV := Lib.hid hv
        clear hS hv hinv
        go_wp2_with (go_at_call 51; refine (trim_any _ _ _ _ _ hsl).mono ?_; rintro e w' ⟨rfl, rfl⟩)
        go_ret
        exact ⟨_, rfl, by rw [← HV.out, ← HS.out]; exact hnew.out, hbel⟩
end Go.Proofs.YtjildimhflondaaDoor
