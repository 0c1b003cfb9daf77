/-
  nat.trim and nat.limbAt: what they answer. nat.Norm, Cmp, Add, Sub: what they answer. nat.Norm: what it answers. nat.Sub: what it answers. nat.Mul: what it answers.
-/
import Derived.Test.YtocnlapbkidinaaGreatDoorQMem
import Derived.Test.YtocnlapbkidinaaGreatDoorChecked
import Derived.Outline
set_option linter.unusedVariables false
set_option linter.unusedSimpArgs false
set_option linter.unusedSectionVars false
set_option linter.unnecessarySimpa false
namespace Go.Proofs.YtocnlapbkidinaaGreatDoor
section
open Go.RowKit

theorem trimL_take_zero (xs : List Nat) (n : Nat) (h : n + 1 ≤ xs.length) (h0 : lim xs n = 0) : trimL (xs.take (n + 1)) = trimL (xs.take n) := by
  rw [take_snoc xs n (by omega), h0, trimL_snoc_zero]
theorem trimL_take_stop (xs : List Nat) (n : Nat) (h : n + 1 ≤ xs.length) (h0 : lim xs n ≠ 0) : trimL (xs.take (n + 1)) = xs.take (n + 1) := by
  rw [take_snoc xs n (by omega), trimL_snoc _ _ h0]

set_option maxHeartbeats 400000 in
theorem limbAt_any (A : Option Addr) (n cap : Nat) (xs : List Nat) (i : Int) (w : World) (h : Sl w A n cap xs) (h0 : 0 ≤ i) :
    Calls Tryz.prog 110 #[.slice A n cap, .int .i64 i] w fun e w' => e = .returned (.int .u64 ((lim xs i.toNat : Nat) : Int)) ∧ w = w' := by
  obtain ⟨k, rfl⟩ := Int.eq_ofNat_of_zero_le h0
  rw [Int.toNat_natCast]
  have hm := h.max
  have hl := h.le
  unfold maxLen at hm
  by_cases hk : k < n
  · obtain ⟨b, off, rfl, hb, hc⟩ := h.here (by omega)
    have hck := hc k hk
    have hx := h.ok.getD k
    clear hc
    generalize lim xs k = x at *
    go_enter Tryz.func110, Tryz.ntmps110
    go_wp2
    go_ret
    exact ⟨rfl, rfl⟩
  · have hx : lim xs k = 0 := by
      rw [lim_eq, List.getElem?_eq_none (by have := h.len; omega)]; rfl
    rw [hx]
    go_enter Tryz.func110, Tryz.ntmps110
    go_wp2
    go_ret
    exact ⟨rfl, rfl⟩

set_option maxHeartbeats 400000 in
theorem trim_any (A : Option Addr) (n cap : Nat) (xs : List Nat) (w : World) (h : Sl w A n cap xs) :
    Calls Tryz.prog 111 #[.slice A n cap] w fun e w' => e = .returned (.slice A (limbs (val xs)).length cap) ∧ w = w' := by
  have hm := h.max
  have hl := h.le
  unfold maxLen at hm
  have H := Lib.hid h
  clear h
  go_enter Tryz.func111, Tryz.ntmps111
  go_wp2
  go_loop [3] (fun t => ∃ k : Nat, k ≤ n ∧ t = .int .i64 k ∧ Hid (trimL (xs.take k) = trimL xs)) (fun t => (intOf t).toNat)
  case atStart => exact ⟨n, Nat.le_refl _, rfl, by rw [H.out.len, List.take_length]; exact rfl⟩
  case round =>
    obtain ⟨k, hk, rfl, hr⟩ := hrel
    rcases k with _ | k
    · go_wp2
      go_ret
      refine ⟨?_, rfl⟩
      have : limbs (val xs) = [] := by rw [← trimL_limbs H.out.ok, ← hr.out]; rfl
      rw [this]; rfl
    · obtain ⟨b, off, rfl, hb, hc⟩ := H.out.here (by omega)
      have hck := hc k (by omega)
      have hx := H.out.ok.getD k
      by_cases h0 : lim xs k = 0
      · rw [h0] at hck
        clear hc
        go_wp2
        go_round
        case rel => exact ⟨k, by omega, by go_num, by rw [← hr.out, trimL_take_zero xs k (by have := H.out.len; omega) h0]; exact rfl⟩
        case measure => simp [intOf]
      · have hs := Lib.hid (trimL_take_stop xs k (by have := H.out.len; omega) h0)
        generalize lim xs k = x at *
        clear hc
        go_wp2
        go_ret
        refine ⟨?_, rfl⟩
        have : limbs (val xs) = xs.take (k + 1) := by rw [← trimL_limbs H.out.ok, ← hr.out, hs.out]
        rw [this, List.length_take, Nat.min_eq_left (by have := H.out.len; omega)]
        simp
/-- The same, the length under a name of one's own. -/
theorem trim_at (A : Option Addr) (n cap : Nat) (xs : List Nat) (w : World) (h : Sl w A n cap xs) (m : Nat) (hm : Hid (m = (limbs (val xs)).length)) :
    Calls Tryz.prog 111 #[.slice A n cap] w fun e w' => e = .returned (.slice A m cap) ∧ w = w' := by
  rw [hm.out]; exact trim_any A n cap xs w h
end
end Go.Proofs.YtocnlapbkidinaaGreatDoor
namespace Go.Proofs.YtocnlapbkidinaaGreatDoor
section
open Go.RowKit

theorem info32 : (Tryz.prog.info? 78).map (fun i => (i.zero, i.size, i.bytes)) = some (some (.int .u32 0), 1, 4) := by kernel_rfl
theorem make32 (c : Int) (n : Nat) (hc : c = (n : Int)) (hn : n ≤ 35184372087808) (w : World) :
    (Instr.makeSlice 25 (.int .i64 c) (.int .i64 c)).run Tryz.prog w = .ok (.slice (some ⟨w.heap.size, 0, none⟩) n n) (w.alloc (.cells (madeCells #[Value.int .u32 0] n) 78)) := by
  obtain ⟨i, hi, hz, hs, hb⟩ := info_parts info32
  subst hc
  exact run_make_limbs Tryz.underlying25 hi hz hs hb n hn w

/-- What holds at the head of Add's round. -/
def AddInv (w : World) (xs ys : List Nat) (n k cy : Nat) (wr : World) : Prop :=
  ∃ S : List Nat, S.length = k ∧ val S + 4294967296 ^ k * cy = val (xs.take k) + val (ys.take k) ∧ Part wr w.heap.size n S ∧ Below w.heap.size w wr
theorem add_sum (p v x y s cy c' r a b q : Nat) (hs : s = cy + (x + y)) (hc : c' = s / 4294967296) (hr : r = s % 4294967296) (h : v + p * cy = a + b) (hq : q = p * 4294967296) :
    v + p * r + q * c' = a + p * x + (b + p * y) := by
  have e : r + 4294967296 * c' = s := by omega
  subst hq
  rw [Nat.mul_assoc, Nat.add_assoc, ← Nat.mul_add, e, hs, Nat.mul_add, Nat.mul_add]
  omega
theorem add_step {w : World} {xs ys : List Nat} {n k cy : Nat} {wr : World} (h : AddInv w xs ys n k cy wr) (hk : k < n) {z : Int} (hz : z = (((cy + (lim xs k + lim ys k)) % 4294967296 : Nat) : Int)) :
    AddInv w xs ys n (k + 1) ((cy + (lim xs k + lim ys k)) / 4294967296) (wr.setCell ⟨w.heap.size, k, none⟩ (.int .u32 z)) := by
  obtain ⟨S, hS, hv, hp, hb⟩ := h
  refine ⟨S ++ [(cy + (lim xs k + lim ys k)) % 4294967296], by simp [hS], ?_, hp.push hS hk (Nat.mod_lt _ (by decide)) hz, hb.setCell (Nat.le_refl _) _⟩
  rw [val_snoc, hS, val_take_succ, val_take_succ]
  exact add_sum _ _ _ _ _ _ _ _ _ _ _ rfl rfl rfl hv (Nat.pow_succ ..)
/-- The last limb of a sum is the last carry: there is none behind it. -/
theorem add_end {w : World} {xs ys : List Nat} {n : Nat} {cy : Nat} {wr : World} (h : AddInv w xs ys n n cy wr) (ox : Ok xs) (oy : Ok ys) (hx : xs.length < n) (hy : ys.length < n) :
    ∃ S : List Nat, S.length = n ∧ Ok S ∧ val S = val xs + val ys ∧ Blk wr w.heap.size S ∧ Below w.heap.size w wr := by
  obtain ⟨S, hS, hv, hp, hb⟩ := h
  rw [List.take_of_length_le (by omega), List.take_of_length_le (by omega)] at hv
  obtain ⟨j, rfl⟩ : ∃ j, n = j + 1 := ⟨n - 1, by omega⟩
  have h1 := Nat.lt_of_lt_of_le (val_lt ox) (Nat.pow_le_pow_right (by decide) (show xs.length ≤ j by omega))
  have h2 := Nat.lt_of_lt_of_le (val_lt oy) (Nat.pow_le_pow_right (by decide) (show ys.length ≤ j by omega))
  rw [Nat.pow_succ] at hv
  have hcy : cy = 0 := by
    rcases Nat.eq_zero_or_pos cy with h0 | h0
    · exact h0
    · exfalso
      have : 4294967296 ^ j * 4294967296 ≤ 4294967296 ^ j * 4294967296 * cy := Nat.le_mul_of_pos_right _ h0
      omega
  subst hcy
  rw [Nat.mul_zero, Nat.add_zero] at hv
  exact ⟨S, hS, hp.ok, hv, hp.all hS, hb⟩

set_option maxHeartbeats 800000 in
theorem add_any (A1 : Option Addr) (n1 c1 : Nat) (xs : List Nat) (A2 : Option Addr) (n2 c2 : Nat) (ys : List Nat) (w : World) (h1 : Sl w A1 n1 c1 xs) (h2 : Sl w A2 n2 c2 ys) (b1 : n1 ≤ 1000000000) (b2 : n2 ≤ 1000000000) :
    Calls Tryz.prog 83 #[.slice A1 n1 c1, .slice A2 n2 c2] w (Gives w (val xs + val ys)) := by
  obtain ⟨m, hm⟩ : ∃ m, n1 < n2 ∧ m = n2 ∨ n2 ≤ n1 ∧ m = n1 := by
    rcases Nat.lt_or_ge n1 n2 with h | h
    · exact ⟨_, .inl ⟨h, rfl⟩⟩
    · exact ⟨_, .inr ⟨h, rfl⟩⟩
  have l1 : xs.length ≤ m := by have := h1.len; omega
  have l2 : ys.length ≤ m := by have := h2.len; omega
  rcases hm with ⟨hlt, rfl⟩ | ⟨hlt, rfl⟩
  all_goals
    have hmk := fun W => make32 ((m : Int) + 1) (m + 1) (by omega) (by omega) W
    go_enter Tryz.func83, Tryz.ntmps83
    go_wp2_with fail
    clear hmk
    go_loopw [6, 17] (fun c i wr => ∃ k cy : Nat, k ≤ m + 1 ∧ i = .int .i64 k ∧ c = .int .u64 cy ∧ cy ≤ 1 ∧ AddInv w xs ys (m + 1) k cy wr) (fun _ i _ => m + 1 - (intOf i).toNat)
    case atStart => exact ⟨0, 0, by omega, rfl, rfl, by omega, [], rfl, by simp [val], Part.made w (m + 1), (Below.refl _ _).alloc (Nat.le_refl _) _⟩
    case round =>
      obtain ⟨k, cy, hk, rfl, rfl, hcy, hinv⟩ := hrel
      by_cases hkm : k < m + 1
      · obtain ⟨S, hS, hv, hB, hbel⟩ := id hinv
        have hf := hB.frozen k
        have hc := hB.cell hS hkm
        have s1 := h1.below hbel
        have s2 := h2.below hbel
        have x1 := h1.ok.getD k
        have x2 := h2.ok.getD k
        clear hS hv hB
        go_wp2_with (go_at_call 110; refine (limbAt_any _ _ _ _ _ _ (by assumption) (by omega)).mono ?_; rintro e w' ⟨rfl, rfl⟩)
        go_roundw
        case rel => exact ⟨k + 1, _, by omega, by go_num, by go_num, by omega, add_step hinv hkm (by omega)⟩
        case measure => simp [intOf]; omega
      · obtain rfl : k = m + 1 := by omega
        obtain ⟨S, hS, oS, hv, hB, hbel⟩ := add_end hinv h1.ok h2.ok (by omega) (by omega)
        have hsl := hB.slAll oS (by unfold maxLen; omega)
        rw [hS] at hsl
        have hnew := Lib.hid (hB.new (base := w.heap.size) oS (by unfold maxLen; omega) (Nat.le_refl _))
        have HS := Lib.hid hS
        have HV := Lib.hid hv
        clear hS hv hinv
        go_wp2_with (go_at_call 111; refine (trim_any _ _ _ _ _ hsl).mono ?_; rintro e w' ⟨rfl, rfl⟩)
        go_ret
        exact ⟨_, rfl, by rw [← HV.out, ← HS.out]; exact hnew.out, hbel⟩

set_option maxHeartbeats 800000 in
theorem cmp_any (A1 : Option Addr) (n1 c1 : Nat) (xs : List Nat) (A2 : Option Addr) (n2 c2 : Nat) (ys : List Nat) (w : World) (h1 : Sl w A1 n1 c1 xs) (h2 : Sl w A2 n2 c2 ys) (b1 : n1 ≤ 35184372087808) (b2 : n2 ≤ 35184372087808) :
    Calls Tryz.prog 84 #[.slice A1 n1 c1, .slice A2 n2 c2] w fun e w' => e = .returned (.int .i64 (cmpN (val xs) (val ys))) ∧ w = w' := by
  obtain ⟨m, hm⟩ : ∃ m, n1 < n2 ∧ m = n2 ∨ n2 ≤ n1 ∧ m = n1 := by
    rcases Nat.lt_or_ge n1 n2 with h | h
    · exact ⟨_, .inl ⟨h, rfl⟩⟩
    · exact ⟨_, .inr ⟨h, rfl⟩⟩
  have l1 : xs.length ≤ m := by have := h1.len; omega
  have l2 : ys.length ≤ m := by have := h2.len; omega
  rcases hm with ⟨hlt, rfl⟩ | ⟨hlt, rfl⟩
  all_goals
    go_enter Tryz.func84, Tryz.ntmps84
    go_wp2_with fail
    go_loop [5] (fun i => ∃ k : Nat, k ≤ m ∧ i = .int .i64 ((k : Int) - 1) ∧ Hid (cmpN (val (xs.take k)) (val (ys.take k)) = cmpN (val xs) (val ys))) (fun i => (intOf i + 1).toNat)
    case atStart => exact ⟨m, Nat.le_refl _, by (first | rfl | rw [Int.max_eq_right (by omega)] | rw [Int.max_eq_left (by omega)]), by rw [List.take_of_length_le l1, List.take_of_length_le l2]; exact rfl⟩
    case round =>
      obtain ⟨k, hk, rfl, hr⟩ := hrel
      rcases k with _ | k
      · go_wp2_with fail
        go_ret
        exact ⟨by rw [← hr.out]; rfl, rfl⟩
      · rw [show (((k + 1 : Nat) : Int) - 1) = (k : Int) by omega]
        rcases Nat.lt_trichotomy (lim xs k) (lim ys k) with hx | hx | hx
        · have hd := Lib.hid (cmp_down_lt h1.ok hx)
          go_wp2_with (go_at_call 110; refine (limbAt_any _ _ _ _ _ _ (by assumption) (by omega)).mono ?_; rintro e w' ⟨rfl, rfl⟩)
          go_ret
          exact ⟨by rw [← hr.out, hd.out]; rfl, rfl⟩
        · have hd := Lib.hid (cmp_down_eq hx)
          have hx1 : ¬ lim xs k < lim ys k := by omega
          have hx2 : ¬ lim ys k < lim xs k := by omega
          clear hx
          go_wp2_with (go_at_call 110; refine (limbAt_any _ _ _ _ _ _ (by assumption) (by omega)).mono ?_; rintro e w' ⟨rfl, rfl⟩)
          go_round
          case rel => exact ⟨k, by omega, by go_num, by rw [← hr.out, hd.out]; exact rfl⟩
          case measure => simp [intOf]
        · have hd := Lib.hid (cmp_down_gt h2.ok hx)
          have hx1 : ¬ lim xs k < lim ys k := by omega
          go_wp2_with (go_at_call 110; refine (limbAt_any _ _ _ _ _ _ (by assumption) (by omega)).mono ?_; rintro e w' ⟨rfl, rfl⟩)
          go_ret
          exact ⟨by rw [← hr.out, hd.out]; rfl, rfl⟩
end
end Go.Proofs.YtocnlapbkidinaaGreatDoor
namespace Go.Proofs.YtocnlapbkidinaaGreatDoor
section
open Go.RowKit

set_option maxHeartbeats 400000 in
theorem norm_exact (A1 : Option Addr) (n1 c1 : Nat) (xs : List Nat) (w : World) (h1 : Sl w A1 n1 c1 xs) (b1 : n1 ≤ 35184372087808) (n : Nat) (HN : Hid (n = (limbs (val xs)).length)) :
    Calls Tryz.prog 112 #[.slice A1 n1 c1] w fun e w' => e = .returned (.slice (some ⟨w.heap.size, 0, none⟩) n n) ∧ Blk w' w.heap.size (limbs (val xs)) ∧ Below w.heap.size w w' := by
  have ht := h1.trim
  have hl := limbs_len_val h1.ok
  have hlen := h1.len
  rw [← HN.out] at ht hl
  have hmk := fun W => make32 (n : Int) n rfl (by omega) W
  have HLen := Lib.hid hlen
  clear hlen
  go_enter Tryz.func112, Tryz.ntmps112
  have HB := Lib.hid (Blk.made w n)
  have hs := ht.alloc (.cells (madeCells #[Value.int .u32 0] n) 78)
  go_wp2_with (first | (go_at_call 111; refine (trim_at _ _ _ _ _ h1 n HN).mono ?_; rintro e w' ⟨rfl, rfl⟩) | (with_reducible refine wpList_copy_limbs rfl (.tmp 9) (.tmp 10) rfl Tryz.underlying25 (by kernel_rfl) _ _ _ _ _ _ rfl rfl w.heap.size 0 (List.replicate n 0) _ HB.out hs (fun _ => rfl) (Nat.le_refl _) (by simp) ?_; intro w2 hg2 ho2))
  go_ret
  rw [splice_all _ _ (by simp [← HN.out])] at hg2
  exact ⟨rfl, hg2, ((Below.refl _ _).alloc (Nat.le_refl _) _).trans (ho2.below (Nat.le_refl _))⟩
theorem norm_any (A1 : Option Addr) (n1 c1 : Nat) (xs : List Nat) (w : World) (h1 : Sl w A1 n1 c1 xs) (b1 : n1 ≤ 35184372087808) :
    Calls Tryz.prog 112 #[.slice A1 n1 c1] w (Gives w (val xs)) := by
  refine (norm_exact A1 n1 c1 xs w h1 b1 _ rfl).mono fun e w' ⟨he, hb, hbel⟩ => ⟨_, he, ?_, hbel⟩
  have := hb.newAll (base := w.heap.size) (limbs_ok _) (limbs_trim _) (by have := limbs_len_val h1.ok; have := h1.len; unfold maxLen; omega) (Nat.le_refl _)
  rwa [limbs_val] at this
end
end Go.Proofs.YtocnlapbkidinaaGreatDoor
namespace Go.Proofs.YtocnlapbkidinaaGreatDoor
section
open Go.RowKit

/-- What holds at the head of Sub's round. -/
def SubInv (w : World) (xs ys : List Nat) (n k bo : Nat) (wr : World) : Prop :=
  ∃ S : List Nat, S.length = k ∧ val S + val (ys.take k) = val (xs.take k) + 4294967296 ^ k * bo ∧ Part wr w.heap.size n S ∧ Below w.heap.size w wr
theorem sub_sum (p v x y d bo b' r a b q : Nat) (hd : d = 4294967296 + x - y - bo) (hy : y < 4294967296) (hb : bo ≤ 1) (hx : x < 4294967296) (hb' : b' = 1 - d / 4294967296) (hr : r = d % 4294967296) (h : v + b = a + p * bo) (hq : q = p * 4294967296) :
    v + p * r + (b + p * y) = a + p * x + q * b' := by
  have e : r + y + bo = x + 4294967296 * b' := by omega
  have e2 : p * r + p * y + p * bo = p * x + p * 4294967296 * b' := by
    rw [← Nat.mul_add, ← Nat.mul_add, e, Nat.mul_add, Nat.mul_assoc]
  rw [hq]
  omega
theorem sub_step {w : World} {xs ys : List Nat} {n k bo : Nat} {wr : World} (h : SubInv w xs ys n k bo wr) (hk : k < n) (hb : bo ≤ 1) (hx : lim xs k < 4294967296) (hy : lim ys k < 4294967296) {z : Int} (hz : z = (((4294967296 + lim xs k - lim ys k - bo) % 4294967296 : Nat) : Int)) :
    SubInv w xs ys n (k + 1) (1 - (4294967296 + lim xs k - lim ys k - bo) / 4294967296) (wr.setCell ⟨w.heap.size, k, none⟩ (.int .u32 z)) := by
  obtain ⟨S, hS, hv, hp, hbel⟩ := h
  refine ⟨S ++ [(4294967296 + lim xs k - lim ys k - bo) % 4294967296], by simp [hS], ?_, hp.push hS hk (Nat.mod_lt _ (by decide)) hz, hbel.setCell (Nat.le_refl _) _⟩
  rw [val_snoc, hS, val_take_succ, val_take_succ]
  exact sub_sum _ _ _ _ _ _ _ _ _ _ _ rfl hy hb hx rfl rfl hv (Nat.pow_succ ..)
theorem sub_end {w : World} {xs ys : List Nat} {n bo : Nat} {wr : World} (h : SubInv w xs ys n n bo wr) (ox : Ok xs) (hx : xs.length = n) (hlt : val ys < val xs) :
    ∃ S : List Nat, S.length = n ∧ Ok S ∧ val S = val xs - val ys ∧ Blk wr w.heap.size S ∧ Below w.heap.size w wr := by
  obtain ⟨S, hS, hv, hp, hb⟩ := h
  rw [List.take_of_length_le (l := xs) (by omega)] at hv
  have h1 := val_lt ox
  have h2 := val_lt hp.ok
  rw [hx] at h1
  rw [hS] at h2
  have hy : val (ys.take n) = val ys := by
    rcases Nat.lt_or_ge n ys.length with hn | hn
    · have e := val_take_drop ys n (by omega)
      rcases Nat.eq_zero_or_pos (val (ys.drop n)) with h0 | h0
      · rw [h0, Nat.mul_zero, Nat.add_zero] at e
        exact e.symm
      · exfalso
        have : 4294967296 ^ n ≤ 4294967296 ^ n * val (ys.drop n) := Nat.le_mul_of_pos_right _ h0
        omega
    · rw [List.take_of_length_le hn]
  rw [hy] at hv
  have hbo : bo = 0 := by
    rcases Nat.eq_zero_or_pos bo with h0 | h0
    · exact h0
    · exfalso
      have : 4294967296 ^ n ≤ 4294967296 ^ n * bo := Nat.le_mul_of_pos_right _ h0
      omega
  subst hbo
  rw [Nat.mul_zero, Nat.add_zero] at hv
  exact ⟨S, hS, hp.ok, by omega, hp.all hS, hb⟩

set_option maxHeartbeats 800000 in
theorem sub_any (A1 : Option Addr) (n1 c1 : Nat) (xs : List Nat) (A2 : Option Addr) (n2 c2 : Nat) (ys : List Nat) (w : World) (h1 : Sl w A1 n1 c1 xs) (h2 : Sl w A2 n2 c2 ys) (b1 : n1 ≤ 1000000000) (b2 : n2 ≤ 1000000000) :
    Calls Tryz.prog 85 #[.slice A1 n1 c1, .slice A2 n2 c2] w (Gives w (val xs - val ys)) := by
  have hcb := cmpN_bd (val xs) (val ys)
  by_cases hle : val xs ≤ val ys
  · have hc : cmpN (val xs) (val ys) ≤ 0 := (cmpN_le_zero _ _).2 hle
    have HZ := Lib.hid (show val xs - val ys = 0 by omega)
    clear hle
    go_enter Tryz.func85, Tryz.ntmps85
    go_wp2_with (go_at_call 84; refine (cmp_any _ _ _ _ _ _ _ _ _ h1 h2 (by omega) (by omega)).mono ?_; rintro e w' ⟨rfl, rfl⟩)
    go_ret
    exact ⟨_, rfl, by rw [HZ.out]; exact New.nil _ _, Below.refl _ _⟩
  · have hc : ¬ cmpN (val xs) (val ys) ≤ 0 := fun h => hle ((cmpN_le_zero _ _).1 h)
    have HL := Lib.hid h1.len
    have HLT := Lib.hid (show val ys < val xs by omega)
    have hmk := fun W => make32 (n1 : Int) n1 rfl (by omega) W
    clear hle
    go_enter Tryz.func85, Tryz.ntmps85
    go_wp2_with (go_at_call 84; refine (cmp_any _ _ _ _ _ _ _ _ _ h1 h2 (by omega) (by omega)).mono ?_; rintro e w' ⟨rfl, rfl⟩)
    clear hmk
    go_loopw [6, 18] (fun c i wr => ∃ k bo : Nat, k ≤ n1 ∧ i = .int .i64 k ∧ c = .int .u64 bo ∧ bo ≤ 1 ∧ SubInv w xs ys n1 k bo wr) (fun _ i _ => n1 - (intOf i).toNat)
    case atStart => exact ⟨0, 0, by omega, rfl, rfl, by omega, [], rfl, by simp [val], Part.made w n1, (Below.refl _ _).alloc (Nat.le_refl _) _⟩
    case round =>
      obtain ⟨k, bo, hk, rfl, rfl, hbo, hinv⟩ := hrel
      by_cases hkm : k < n1
      · obtain ⟨S, hS, hv, hB, hbel⟩ := id hinv
        have hf := hB.frozen k
        have hcl := hB.cell hS hkm
        have s1 := h1.below hbel
        have s2 := h2.below hbel
        have x1 := h1.ok.getD k
        have x2 := h2.ok.getD k
        clear hS hv hB
        go_wp2_with (go_at_call 110; refine (limbAt_any _ _ _ _ _ _ (by assumption) (by omega)).mono ?_; rintro e w' ⟨rfl, rfl⟩)
        go_roundw
        case rel => exact ⟨k + 1, _, by omega, by go_num, by go_num, by omega, sub_step hinv hkm hbo x1 x2 (by omega)⟩
        case measure => simp [intOf]; omega
      · obtain rfl : k = n1 := by omega
        obtain ⟨S, hS, oS, hv, hB, hbel⟩ := sub_end hinv h1.ok HL.out.symm HLT.out
        have hsl := hB.slAll oS (by unfold maxLen; omega)
        rw [hS] at hsl
        have hnew := Lib.hid (hB.new (base := w.heap.size) oS (by unfold maxLen; omega) (Nat.le_refl _))
        have HS := Lib.hid hS
        have HV := Lib.hid hv
        clear hS hv hinv
        go_wp2_with (go_at_call 111; refine (trim_any _ _ _ _ _ hsl).mono ?_; rintro e w' ⟨rfl, rfl⟩)
        go_ret
        exact ⟨_, rfl, by rw [← HV.out, ← HS.out]; exact hnew.out, hbel⟩
end
end Go.Proofs.YtocnlapbkidinaaGreatDoor
namespace Go.Proofs.YtocnlapbkidinaaGreatDoor
section
open Go.RowKit

/-- What holds at the head of Mul's outer round. -/
def MulInv (w : World) (X Y : List Nat) (N k : Nat) (M : List Nat) (wr : World) : Prop :=
  M.length = N ∧ Ok M ∧ (∀ t, k + Y.length ≤ t → lim M t = 0) ∧ val M = val (X.take k) * val Y ∧ Blk wr w.heap.size M ∧ Below w.heap.size w wr
/-- ... and of its inner one. -/
def MulIn (w : World) (X Y : List Nat) (N k j c : Nat) (M0 M : List Nat) (wr : World) : Prop :=
  M.length = N ∧ Ok M ∧ (∀ t, k + j ≤ t → lim M t = lim M0 t) ∧ val M + 4294967296 ^ (k + j) * c = val M0 + 4294967296 ^ k * (lim X k * val (Y.take j)) ∧ Blk wr w.heap.size M ∧ Below w.heap.size w wr

theorem mul_bd (x y : Nat) (hx : x < 4294967296) (hy : y < 4294967296) : x * y ≤ 18446744065119617025 := by
  have := Nat.mul_le_mul (show x ≤ 4294967295 by omega) (show y ≤ 4294967295 by omega)
  omega
theorem mul_sum (v v' p q l r c c' s xy m e : Nat) (hs : s = c + (xy + l)) (hr : r = s % 4294967296) (hc : c' = s / 4294967296) (hset : v' + p * l = v + p * r) (h : v + p * c = m + e) (hq : q = p * 4294967296) :
    v' + q * c' = m + (e + p * xy) := by
  have e1 : r + 4294967296 * c' = s := by omega
  have e2 : p * r + p * (4294967296 * c') = p * c + (p * xy + p * l) := by rw [← Nat.mul_add, e1, hs, Nat.mul_add, Nat.mul_add]
  rw [hq, Nat.mul_assoc]
  omega
theorem mul_in_step {w : World} {X Y : List Nat} {N k j c : Nat} {M0 M : List Nat} {wr : World} (h : MulIn w X Y N k j c M0 M wr) (hN : X.length + Y.length ≤ N) (hk : k < X.length) (hj : j < Y.length) {z : Int}
    (hz : z = (((c + (lim X k * lim Y j + lim M (k + j))) % 4294967296 : Nat) : Int)) :
    MulIn w X Y N k (j + 1) ((c + (lim X k * lim Y j + lim M (k + j))) / 4294967296) M0 (M.set (k + j) ((c + (lim X k * lim Y j + lim M (k + j))) % 4294967296)) (wr.setCell ⟨w.heap.size, k + j, none⟩ (.int .u32 z)) := by
  obtain ⟨hl, ok, hu, hv, hb, hbel⟩ := h
  refine ⟨by rw [List.length_set, hl], ok.set _ _ (Nat.mod_lt _ (by decide)), fun t ht => by rw [lim_set_other _ _ _ _ (by omega)]; exact hu t (by omega), ?_, by subst hz; exact hb.set_ _ _, hbel.setCell (Nat.le_refl _) _⟩
  have hset := val_set M (k + j) ((c + (lim X k * lim Y j + lim M (k + j))) % 4294967296) (by omega)
  rw [val_take_succ, Nat.mul_add (lim X k), Nat.mul_add, show lim X k * (4294967296 ^ j * lim Y j) = 4294967296 ^ j * (lim X k * lim Y j) by rw [Nat.mul_left_comm], ← Nat.mul_assoc (4294967296 ^ k) (4294967296 ^ j), ← Nat.pow_add, ← Nat.add_assoc k j 1]
  exact mul_sum _ _ _ _ _ _ _ _ _ _ _ _ rfl rfl rfl hset hv (Nat.pow_succ ..)
/-- Behind the inner loop the carry goes where nought stands. -/
theorem mul_out_step {w : World} {X Y : List Nat} {N k c : Nat} {M0 M : List Nat} {wr : World} (h0 : M0.length = N ∧ (∀ t, k + Y.length ≤ t → lim M0 t = 0) ∧ val M0 = val (X.take k) * val Y)
    (h : MulIn w X Y N k Y.length c M0 M wr) (hN : X.length + Y.length ≤ N) (hk : k < X.length) (hc : c < 4294967296) {z : Int} (hz : z = (c : Int)) :
    MulInv w X Y N (k + 1) (M.set (k + Y.length) c) (wr.setCell ⟨w.heap.size, k + Y.length, none⟩ (.int .u32 z)) := by
  obtain ⟨hl, ok, hu, hv, hb, hbel⟩ := h
  refine ⟨by rw [List.length_set, hl], ok.set _ _ hc, fun t ht => by rw [lim_set_other _ _ _ _ (by omega), hu t (by omega)]; exact h0.2.1 t (by omega), ?_, by subst hz; exact hb.set_ _ _, hbel.setCell (Nat.le_refl _) _⟩
  have hset := val_set M (k + Y.length) c (by omega)
  rw [hu _ (Nat.le_refl _), h0.2.1 _ (Nat.le_refl _), Nat.mul_zero, Nat.add_zero] at hset
  rw [hset, hv, List.take_length, h0.2.2, val_take_succ, Nat.add_mul, Nat.mul_assoc]
theorem mul_out_zero {w : World} {X Y : List Nat} {N k : Nat} {M0 M : List Nat} {wr : World} (h0 : M0.length = N ∧ (∀ t, k + Y.length ≤ t → lim M0 t = 0) ∧ val M0 = val (X.take k) * val Y) (h : MulIn w X Y N k Y.length 0 M0 M wr) : MulInv w X Y N (k + 1) M wr := by
  obtain ⟨hl, ok, hu, hv, hb, hbel⟩ := h
  refine ⟨hl, ok, fun t ht => by rw [hu t (by omega)]; exact h0.2.1 t (by omega), ?_, hb, hbel⟩
  rw [Nat.mul_zero, Nat.add_zero] at hv
  rw [hv, List.take_length, h0.2.2, val_take_succ, Nat.add_mul, Nat.mul_assoc]
theorem mul_c_lt (c x y l : Nat) (hc : c < 4294967296) (hx : x * y ≤ 18446744065119617025) (hl : l < 4294967296) : (c + (x * y + l)) / 4294967296 < 4294967296 := by omega

theorem mul_num (c x y l : Nat) : Value.int .u64 (((c : Int) + ((x : Int) * (y : Int) + (l : Int))) / 4294967296) = Value.int .u64 (((c + (x * y + l)) / 4294967296 : Nat) : Int) := by
  rw [← Int.natCast_mul]
  exact congrArg _ (by omega)

set_option maxHeartbeats 1600000 in
theorem mul_any (A1 : Option Addr) (n1 c1 : Nat) (xs : List Nat) (A2 : Option Addr) (n2 c2 : Nat) (ys : List Nat) (w : World) (h1 : Sl w A1 n1 c1 xs) (h2 : Sl w A2 n2 c2 ys) (b1 : n1 ≤ 1000000000) (b2 : n2 ≤ 1000000000) :
    Calls Tryz.prog 87 #[.slice A1 n1 c1, .slice A2 n2 c2] w (Gives w (val xs * val ys)) := by
  have t1 := h1.trim
  have t2 := h2.trim
  have k1 := limbs_len_val h1.ok
  have k2 := limbs_len_val h2.ok
  have k3 := h1.len
  have k4 := h2.len
  have hvx := Lib.hid (limbs_val (val xs))
  have hvy := Lib.hid (limbs_val (val ys))
  obtain ⟨X, HX⟩ : ∃ X, Hid (X = limbs (val xs)) := ⟨_, rfl⟩
  obtain ⟨Y, HY⟩ : ∃ Y, Hid (Y = limbs (val ys)) := ⟨_, rfl⟩
  rw [← HX.out] at t1 k1 hvx
  rw [← HY.out] at t2 k2 hvy
  obtain ⟨m1, M1⟩ : ∃ m, Hid (m = X.length) := ⟨_, rfl⟩
  obtain ⟨m2, M2⟩ : ∃ m, Hid (m = Y.length) := ⟨_, rfl⟩
  rw [← M1.out] at t1 k1
  rw [← M2.out] at t2 k2
  have e1 : Hid (m1 = (limbs (val xs)).length) := by rw [← HX.out]; exact M1
  have e2 : Hid (m2 = (limbs (val ys)).length) := by rw [← HY.out]; exact M2
  have bm1 : m1 ≤ 1000000000 := by omega
  have bm2 : m2 ≤ 1000000000 := by omega
  clear k1 k2 k3 k4
  have hmk := fun W => make32 ((m1 : Int) + (m2 : Int)) (m1 + m2) (by omega) (by omega) W
  go_enter Tryz.func87, Tryz.ntmps87
  go_wp2_with fail
  refine (trim_at _ _ _ _ _ h1 m1 e1).mono ?_
  rintro e w' ⟨rfl, rfl⟩
  go_wp2_with fail
  refine (trim_at _ _ _ _ _ h2 m2 e2).mono ?_
  rintro e w' ⟨rfl, rfl⟩
  go_wp2_with fail
  clear hmk
  go_loopw [23] (fun i wr => ∃ k : Nat, k ≤ m1 ∧ i = .int .i64 k ∧ ∃ M, MulInv w X Y (X.length + Y.length) k M wr) (fun i _ => m1 - (intOf i).toNat)
  case atStart =>
    refine ⟨0, by omega, rfl, List.replicate (m1 + m2) 0, by simp [M1.out, M2.out], Ok.replicate _, fun t _ => ?_, by simp [val_replicate, val], Blk.made w (m1 + m2), (Below.refl _ _).alloc (Nat.le_refl _) _⟩
    rw [lim_eq, List.getElem?_replicate]; split <;> rfl
  case round =>
    obtain ⟨k, hk, rfl, M0, hinv⟩ := hrel
    obtain ⟨wo, rfl⟩ : ∃ wo : World, wo = wr := ⟨_, rfl⟩
    by_cases hkm : k < m1
    · obtain ⟨hl0, ok0, hz0, hv0, hB0, hbel0⟩ := hinv
      have s1 := t1.below hbel0
      obtain ⟨b, off, rfl, hb, hc⟩ := s1.here (by omega)
      have hck := hc k hkm
      have x1 := t1.ok.getD k
      have H0 := Lib.hid (And.intro hl0 (And.intro hz0 hv0))
      clear hc hl0 hz0 hv0
      go_wp2_with fail
      go_loopw [8, 30] (fun c i wr => ∃ j cy : Nat, j ≤ m2 ∧ i = .int .i64 j ∧ c = .int .u64 cy ∧ cy < 4294967296 ∧ ∃ M, MulIn w X Y (X.length + Y.length) k j cy M0 M wr) (fun _ i _ => m2 - (intOf i).toNat)
      case atStart => exact ⟨0, 0, by omega, rfl, rfl, by omega, M0, H0.out.1, ok0, fun _ _ => rfl, by simp [val], hB0, hbel0⟩
      case round =>
        obtain ⟨j, cy, hj, rfl, rfl, hcy, M, hin⟩ := hrel
        by_cases hjm : j < m2
        · obtain ⟨hl, ok, hu, hv, hB, hbel⟩ := id hin
          have s2 := t2.below hbel
          obtain ⟨b', off', rfl, hb', hc'⟩ := s2.here (by omega)
          have hcj := hc' j hjm
          have y1 := t2.ok.getD j
          have hf := hB.frozen (k + j)
          have hcl := hB.cell (k + j) (by have := M1.out; have := M2.out; omega)
          have z1 := ok.getD (k + j)
          have hm := mul_bd _ _ x1 y1
          have hm' : (lim X k : Int) * (lim Y j : Int) ≤ 18446744065119617025 := by rw [← Int.natCast_mul]; omega
          have hm0 : 0 ≤ (lim X k : Int) * (lim Y j : Int) := by rw [← Int.natCast_mul]; omega
          clear hc' hl hu hv
          go_wp2_with fail
          go_roundw
          case rel => exact ⟨j + 1, _, by omega, by go_num, mul_num _ _ _ _, mul_c_lt _ _ _ _ hcy hm z1, _, mul_in_step hin (Nat.le_refl _) (by have := M1.out; omega) (by have := M2.out; omega) (by rw [← Int.natCast_mul]; omega)⟩
          case measure => simp [intOf]; omega
        · obtain rfl : j = m2 := by omega
          obtain ⟨hl, ok, hu, hv, hB, hbel⟩ := id hin
          have hf := hB.frozen (k + j)
          have hcl := hB.cell (k + j) (by have := M1.out; have := M2.out; omega)
          clear hl hu hv
          have HIN := Lib.hid hin
          clear hin
          go_wp2_with fail
          go_roundw
          case rel =>
            have hin := HIN.out
            rw [M2.out] at hin ⊢
            exact ⟨k + 1, by omega, by go_num, _, mul_out_step H0.out hin (Nat.le_refl _) (by have := M1.out; omega) hcy (by omega)⟩
          case measure => simp [intOf]; omega
    · obtain rfl : k = m1 := by omega
      obtain ⟨hl, ok, hz, hv, hB, hbel⟩ := hinv
      have hsl := hB.slAll ok (by have := M1.out; have := M2.out; unfold maxLen; omega)
      rw [hl, ← M1.out, ← M2.out] at hsl
      have hnew := Lib.hid (hB.new (base := w.heap.size) ok (by have := M1.out; have := M2.out; unfold maxLen; omega) (Nat.le_refl _))
      have HL := Lib.hid (And.intro hl hv)
      clear hl hv hz
      go_wp2_with (go_at_call 111; refine (trim_any _ _ _ _ _ hsl).mono ?_; rintro e w' ⟨rfl, rfl⟩)
      go_ret
      obtain ⟨hl, hv⟩ := HL.out
      rw [List.take_of_length_le (by have := M1.out; omega), hvx.out, hvy.out] at hv
      exact ⟨_, rfl, by rw [← hv, M1.out, M2.out, ← hl]; exact hnew.out, hbel⟩
end
end Go.Proofs.YtocnlapbkidinaaGreatDoor
