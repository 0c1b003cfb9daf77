/-
  nat.shiftUp, shiftDown, Shift: what they answer. nat.Shift over values of which the number alone is known; bits of a shifted number.
-/
import Derived.Test.YtocnlapbkidinaaGreatDoorPn3
set_option linter.unusedVariables false
set_option linter.unusedSimpArgs false
set_option linter.unusedSectionVars false
set_option linter.unnecessarySimpa false
namespace Go.Proofs.YtocnlapbkidinaaGreatDoor
section
open Go.RowKit

theorem two_pow_split (s : Nat) : 2 ^ s = 4294967296 ^ (s / 32) * 2 ^ (s % 32) := by
  have h : 4294967296 ^ (s / 32) = 2 ^ (32 * (s / 32)) := (Nat.pow_mul 2 32 (s / 32)).symm
  rw [h, ← Nat.pow_add, Nat.div_add_mod]
theorem val_zeros (q : Nat) (S : List Nat) : val (List.replicate q 0 ++ S) = 4294967296 ^ q * val S := by
  rw [val_append, val_replicate, List.length_replicate, Nat.zero_add]
theorem or_carry (c x r : Nat) (hc : c < 2 ^ r) (hr : r < 32) (hx : x < 4294967296) : bits .or .u64 (c : Int) (IntKind.u64.wrap ((x : Int) * 2 ^ r)) = ((c + x * 2 ^ r : Nat) : Int) := by
  have h1 : 2 ^ r ≤ 2 ^ 31 := Nat.pow_le_pow_right (by decide) (by omega)
  have h2 : x * 2 ^ r ≤ 4294967295 * 2 ^ 31 := Nat.mul_le_mul (by omega) h1
  have e : ((x : Int) * 2 ^ r) = ((x * 2 ^ r : Nat) : Int) := by rw [Int.natCast_mul, Int.natCast_pow]; rfl
  rw [e]
  have hw : IntKind.u64.wrap ((x * 2 ^ r : Nat) : Int) = ((x * 2 ^ r : Nat) : Int) := by rw [IntKind.wrap_u64]; omega
  rw [hw, u64_or_nat _ _ (by omega) (by omega), Nat.or_comm, nat_join r _ _ (Nat.mul_mod_left _ _) hc, Nat.add_comm]

/-- What holds at the head of shiftUp's round. -/
def UpInv (w : World) (xs : List Nat) (r q N k c : Nat) (S : List Nat) (wr : World) : Prop :=
  S.length = k ∧ val S + 4294967296 ^ k * c = val (xs.take k) * 2 ^ r ∧ Part wr w.heap.size N (List.replicate q 0 ++ S) ∧ Below w.heap.size w wr
theorem up_sum (v p q' r' c c' t x f a m : Nat) (ht : t = c + x * f) (hr : r' = t % 4294967296) (hc : c' = t / 4294967296) (h : v + p * c = a * f) (hq : q' = p * 4294967296) (hm : m = a + p * x) : v + p * r' + q' * c' = m * f := by
  have e1 : r' + 4294967296 * c' = t := by omega
  have e2 : p * r' + p * (4294967296 * c') = p * c + p * (x * f) := by rw [← Nat.mul_add, e1, ht, Nat.mul_add]
  rw [hq, Nat.mul_assoc, hm, Nat.add_mul, Nat.mul_assoc]
  omega
theorem up_step {w : World} {xs : List Nat} {r q N k c t : Nat} {S : List Nat} {wr : World} (h : UpInv w xs r q N k c S wr) (hk : k + q < N) (ht : t = c + lim xs k * 2 ^ r) {z : Int} (hz : z = ((t % 4294967296 : Nat) : Int)) :
    UpInv w xs r q N (k + 1) (t / 4294967296) (S ++ [t % 4294967296]) (wr.setCell ⟨w.heap.size, k + q, none⟩ (.int .u32 z)) := by
  obtain ⟨hS, hv, hp, hb⟩ := h
  have hl : (List.replicate q 0 ++ S).length = k + q := by simp [hS]; omega
  refine ⟨by simp [hS], ?_, ?_, hb.setCell (Nat.le_refl _) _⟩
  · rw [val_snoc, hS]
    exact up_sum _ _ _ _ _ _ t _ _ _ _ ht rfl rfl hv (Nat.pow_succ ..) (val_take_succ ..)
  · have := hp.push hl hk (Nat.mod_lt t (show 0 < 4294967296 by decide)) hz
    rwa [List.append_assoc] at this
theorem up_c_lt (c x r t : Nat) (hc : c < 2 ^ r) (hx : x < 4294967296) (ht : t = c + x * 2 ^ r) : t / 4294967296 < 2 ^ r := by
  rw [Nat.div_lt_iff_lt_mul (by decide)]
  have : (x + 1) * 2 ^ r ≤ 4294967296 * 2 ^ r := Nat.mul_le_mul_right _ hx
  rw [Nat.add_mul, Nat.one_mul] at this
  rw [Nat.mul_comm (2 ^ r)]
  omega

set_option maxHeartbeats 1600000 in
theorem shiftUp_any (A : Option Addr) (n c : Nat) (xs : List Nat) (s : Nat) (w : World) (h : Sl w A n c xs) (hn : n ≤ 1000000000) (hs : s ≤ 4096) :
    Calls Tryz.prog 145 #[.slice A n c, .int .i64 (s : Int)] w (Gives w (val xs * 2 ^ s)) := by
  have HL := Lib.hid h.len
  obtain ⟨q, Hq⟩ : ∃ q, q = s / 32 := ⟨_, rfl⟩
  obtain ⟨r, Hr⟩ : ∃ r, r = s % 32 := ⟨_, rfl⟩
  have hq : (s : Int) / 32 = (q : Int) := by omega
  have hr : (s : Int) % 32 = (r : Int) := by omega
  have hr32 : r < 32 := by omega
  have hq128 : q ≤ 128 := by omega
  have h31 : 2 ^ r ≤ 2 ^ 31 := Nat.pow_le_pow_right (by decide) (by omega)
  have HQ := Lib.hid (And.intro Hq Hr)
  have H31 := Lib.hid h31
  clear Hq Hr h31
  have hmk := fun W => make32 ((n : Int) + (q : Int) + 1) (n + q + 1) (by omega) (by omega) W
  go_enter Tryz.func145, Tryz.ntmps145
  go_wp2_with fail
  simp only [hr]
  clear hmk hq hr
  go_loopw [8, 23] (fun cy i wr => ∃ k cc : Nat, k ≤ n ∧ i = .int .i64 k ∧ cy = .int .u64 cc ∧ cc < 2147483648 ∧ Hid (cc < 2 ^ r) ∧ ∃ S, UpInv w xs r q (n + q + 1) k cc S wr) (fun _ i _ => n - (intOf i).toNat)
  case atStart =>
    refine ⟨0, 0, by omega, rfl, rfl, by omega, Nat.pow_pos (by decide), [], rfl, by simp [val], ?_, (Below.refl _ _).alloc (Nat.le_refl _) _⟩
    have hp := Part.made w (n + q + 1)
    refine ⟨by simp; omega, by simpa using Ok.replicate q, ?_⟩
    have hb := hp.blk
    have e : (List.replicate q 0 ++ []) ++ List.replicate (n + q + 1 - (List.replicate q 0 ++ ([] : List Nat)).length) 0 = [] ++ List.replicate (n + q + 1 - ([] : List Nat).length) 0 := by
      simp [List.replicate_append_replicate]
      omega
    rw [e]
    exact hb
  case round =>
    obtain ⟨k, cc, hk, rfl, rfl, hcc, HC, S, hinv⟩ := hrel
    by_cases hkn : k < n
    · obtain ⟨hS, hv, hp, hbel⟩ := id hinv
      obtain ⟨b, off, rfl, _, hc⟩ := (h.below hbel).here (by omega)
      have hck := hc k hkn
      have x1 := h.ok.getD k
      have hf := hp.frozen (k + q)
      have hcl := hp.cell (k := k + q) (by simp [hS]; omega) (by omega)
      obtain ⟨T, HT⟩ : ∃ T, Hid (T = cc + lim xs k * 2 ^ r) := ⟨_, rfl⟩
      have hor : bits .or .u64 (cc : Int) (IntKind.u64.wrap ((lim xs k : Int) * 2 ^ r)) = (T : Int) := by rw [or_carry _ _ _ HC.out hr32 x1, HT.out]
      have hTc := up_c_lt cc (lim xs k) r T HC.out x1 HT.out
      have HTC := Lib.hid hTc
      have hT31 : T / 4294967296 < 2147483648 := by have := H31.out; omega
      clear hc hS hv hp hTc
      go_wp2_with fail
      go_roundw
      case rel => exact ⟨k + 1, T / 4294967296, by omega, by go_num, by go_num, hT31, HTC.out, _, up_step hinv (by omega) HT.out (by omega)⟩
      case measure => simp [intOf]; omega
    · obtain rfl : k = n := by omega
      obtain ⟨hS, hv, hp, hbel⟩ := id hinv
      have hf := hp.frozen (k + q)
      have hcl := hp.cell (k := k + q) (by simp [hS]; omega) (by omega)
      have hl : (List.replicate q 0 ++ S).length = k + q := by simp [hS]; omega
      have hp2 := hp.push (z := (cc : Int)) hl (by omega) (show cc < 4294967296 by omega) rfl
      have hall := hp2.all (by simp [hS]; omega)
      have hok := hp2.ok
      have hval : val (List.replicate q 0 ++ S ++ [cc]) = val xs * 2 ^ s := by
        rw [List.append_assoc, val_zeros, val_snoc, hS, hv, List.take_of_length_le (by have := HL.out; omega), two_pow_split s, ← HQ.out.1, ← HQ.out.2, Nat.mul_left_comm]
      have hlen : (List.replicate q 0 ++ S ++ [cc]).length = k + q + 1 := by simp [hS]; omega
      have hbel2 := hbel.setCell (p := ⟨w.heap.size, k + q, none⟩) (Nat.le_refl _) (.int .u32 (cc : Int))
      have hsl := hall.slAll hok (by rw [hlen]; unfold maxLen; omega)
      have hnew := hall.new (base := w.heap.size) hok (by rw [hlen]; unfold maxLen; omega) (Nat.le_refl _)
      rw [hlen] at hsl hnew
      rw [hval] at hnew
      generalize List.replicate q 0 ++ S ++ [cc] = L at hsl hval
      have HV := Lib.hid hval
      have HNEW := Lib.hid hnew
      clear hS hv hp hp2 hall hval hlen hl hinv hnew
      go_wp2_with (go_at_call 111; refine (trim_any _ _ _ _ _ hsl).mono ?_; rintro e w' ⟨rfl, rfl⟩)
      go_ret
      rw [HV.out]
      exact ⟨_, rfl, HNEW.out, hbel2⟩

/-- A number's limbs, one by one. -/
theorem val_mod (V : Nat) (S : List Nat) (k : Nat) (hS : S.length = k) (h : val S = V % 4294967296 ^ k) (z : Nat) (hz : z = V / 4294967296 ^ k % 4294967296) : val (S ++ [z]) = V % 4294967296 ^ (k + 1) := by
  rw [val_snoc, hS, h, hz, Nat.pow_succ, Nat.mod_mul]
theorem shift_limb (V y0 y1 z r : Nat) (hr : r ≤ 32) (hV : V = y0 + 4294967296 * (y1 + 4294967296 * z)) : V / 2 ^ r % 4294967296 = (y1 * 4294967296 + y0) / 2 ^ r % 4294967296 := by
  obtain ⟨d, hd⟩ : ∃ d, 2 ^ r * d = 4294967296 := ⟨2 ^ (32 - r), by rw [← Nat.pow_add, show r + (32 - r) = 32 by omega]⟩
  have e : V = (y1 * 4294967296 + y0) + 2 ^ r * (4294967296 * (d * z)) := by
    rw [hV]
    have : 2 ^ r * (4294967296 * (d * z)) = 4294967296 * (4294967296 * z) := by
      rw [Nat.mul_left_comm, ← Nat.mul_assoc (2 ^ r) d z, hd]
    rw [this]
    omega
  rw [e, Nat.add_mul_div_left _ _ (Nat.pow_pos (by decide)), Nat.add_mul_mod_self_left]
theorem drop_two (Y : List Nat) (i : Nat) : val (Y.drop i) = lim Y i + 4294967296 * (lim Y (i + 1) + 4294967296 * val (Y.drop (i + 2))) := by
  rcases Nat.lt_or_ge i Y.length with h | h
  · rw [val_drop Y i h]
    rcases Nat.lt_or_ge (i + 1) Y.length with h1 | h1
    · rw [val_drop Y (i + 1) h1]
    · rw [List.drop_eq_nil_of_le h1, List.drop_eq_nil_of_le (by omega), lim_ge Y (i + 1) h1, val_nil]
  · rw [List.drop_eq_nil_of_le h, List.drop_eq_nil_of_le (by omega), lim_ge Y i h, lim_ge Y (i + 1) (by omega), val_nil]
theorem val_div_pow {Y : List Nat} (h : Ok Y) (i : Nat) : val Y / 4294967296 ^ i = val (Y.drop i) := by
  rcases Nat.lt_or_ge Y.length i with hi | hi
  · rw [List.drop_eq_nil_of_le (by omega), val_nil, Nat.div_eq_of_lt]
    exact Nat.lt_of_lt_of_le (val_lt h) (Nat.pow_le_pow_right (by decide) (by omega))
  · rw [val_take_drop Y i hi, Nat.add_mul_div_left _ _ (pow_pos' i), Nat.div_eq_of_lt (val_take_lt h i), Nat.zero_add]
theorem lim_drop (xs : List Nat) (q i : Nat) : lim (xs.drop q) i = lim xs (q + i) := by rw [lim_eq, lim_eq, List.getElem?_drop]
def DownInv (w : World) (V N k : Nat) (S : List Nat) (wr : World) : Prop := S.length = k ∧ val S = V % 4294967296 ^ k ∧ Part wr w.heap.size N S ∧ Below w.heap.size w wr
theorem down_limb {xs : List Nat} (ok : Ok xs) (q r k : Nat) (hr : r < 32) : (val (xs.drop q) / 2 ^ r) / 4294967296 ^ k % 4294967296 = (lim xs (k + q + 1) * 4294967296 + lim xs (k + q)) / 2 ^ r % 4294967296 := by
  rw [Nat.div_div_eq_div_mul, Nat.mul_comm, ← Nat.div_div_eq_div_mul, val_div_pow (ok.drop q)]
  have := drop_two (xs.drop q) k
  rw [lim_drop, lim_drop] at this
  rw [shift_limb _ _ _ _ r (by omega) this, show q + (k + 1) = k + q + 1 by omega, show q + k = k + q by omega]
theorem down_step {w : World} {xs : List Nat} {q r N k : Nat} {S : List Nat} {wr : World} (h : DownInv w (val (xs.drop q) / 2 ^ r) N k S wr) (ok : Ok xs) (hr : r < 32) (hk : k < N) {T : Nat} (hT : T = lim xs (k + q + 1) * 4294967296 + lim xs (k + q)) {z : Int} (hz : z = ((T / 2 ^ r % 4294967296 : Nat) : Int)) :
    DownInv w (val (xs.drop q) / 2 ^ r) N (k + 1) (S ++ [T / 2 ^ r % 4294967296]) (wr.setCell ⟨w.heap.size, k, none⟩ (.int .u32 z)) := by
  obtain ⟨hS, hv, hp, hb⟩ := h
  exact ⟨by simp [hS], val_mod _ S k hS hv _ (by rw [down_limb ok q r k hr, hT]), hp.push hS hk (Nat.mod_lt _ (by decide)) hz, hb.setCell (Nat.le_refl _) _⟩
theorem down_value {xs : List Nat} (ok : Ok xs) (s : Nat) : val (xs.drop (s / 32)) / 2 ^ (s % 32) = val xs / 2 ^ s := by
  rw [two_pow_split s, ← Nat.div_div_eq_div_mul, val_div_pow ok]

set_option maxHeartbeats 1600000 in
theorem shiftDown_any (A : Option Addr) (n c : Nat) (xs : List Nat) (s : Nat) (w : World) (h : Sl w A n c xs) (hn : n ≤ 1000000000) (hs : s ≤ 4096) :
    Calls Tryz.prog 144 #[.slice A n c, .int .i64 (s : Int)] w (Gives w (val xs / 2 ^ s)) := by
  have HL := Lib.hid h.len
  have HV := Lib.hid (down_value h.ok s)
  obtain ⟨q, Hq⟩ : ∃ q, q = s / 32 := ⟨_, rfl⟩
  obtain ⟨r, Hr⟩ : ∃ r, r = s % 32 := ⟨_, rfl⟩
  have HV2 : Hid (val (xs.drop q) / 2 ^ r = val xs / 2 ^ s) := by rw [Hq, Hr]; exact HV
  have hq : (s : Int) / 32 = (q : Int) := by omega
  have hr : (s : Int) % 32 = (r : Int) := by omega
  have hr32 : r < 32 := by omega
  have hq128 : q ≤ 128 := by omega
  clear Hq Hr HV
  by_cases hqn : q < n
  · obtain ⟨m, hm⟩ : ∃ m, m + q = n := ⟨n - q, by omega⟩
    have hmi : (n : Int) - (q : Int) = (m : Int) := by omega
    have hmk := fun W => make32 (m : Int) m rfl (by omega) W
    have hm0 : 0 < m := by omega
    have hmb : m ≤ 1000000000 := by omega
    have HM := Lib.hid hm
    clear hm
    go_enter Tryz.func144, Tryz.ntmps144
    go_wp2_with fail
    simp only [hr]
    clear hmk hmi hq hr
    go_loopw [22] (fun i wr => ∃ k : Nat, k ≤ m ∧ i = .int .i64 k ∧ ∃ S, DownInv w (val (xs.drop q) / 2 ^ r) m k S wr) (fun i _ => m - (intOf i).toNat)
    case atStart => exact ⟨0, by omega, rfl, [], rfl, by simp [val, Nat.mod_one], Part.made w m, (Below.refl _ _).alloc (Nat.le_refl _) _⟩
    case round =>
      obtain ⟨k, hk, rfl, S, hinv⟩ := hrel
      by_cases hkn : k < m
      · obtain ⟨hS, hv, hp, hbel⟩ := id hinv
        have s1 := h.below hbel
        have x1 := h.ok.getD (k + q)
        have x2 := h.ok.getD (k + q + 1)
        have hf := hp.frozen k
        have hcl := hp.cell hS hkn
        obtain ⟨T, HT⟩ : ∃ T, Hid (T = (lim xs (k + q + 1) * 4294967296 + lim xs (k + q))) := ⟨_, rfl⟩
        have hor : bits .or .u64 ((lim xs (k + q + 1) : Int) * 4294967296) (lim xs (k + q) : Int) = (T : Int) := by rw [or_join _ _ x2 x1, HT.out]; omega
        clear hS hv hp
        go_wp2_with (go_at_call 110; refine (limbAt_any _ _ _ _ _ _ s1 (by omega)).mono ?_; rintro e w' ⟨rfl, rfl⟩)
        go_roundw
        case rel => exact ⟨k + 1, by omega, by go_num, _, down_step hinv h.ok hr32 hkn HT.out (by rw [Int.natCast_emod, Int.natCast_ediv, Int.natCast_pow]; rfl)⟩
        case measure => simp [intOf]; omega
      · obtain rfl : k = m := by omega
        obtain ⟨hS, hv, hp, hbel⟩ := hinv
        have hall := hp.all hS
        have hok := hp.ok
        have hlt : val (xs.drop q) / 2 ^ r < 4294967296 ^ k := by
          have h1 := val_lt (h.ok.drop q)
          rw [List.length_drop, ← HL.out, show n - q = k by have := HM.out; omega] at h1
          exact Nat.lt_of_le_of_lt (Nat.div_le_self _ _) h1
        rw [Nat.mod_eq_of_lt hlt, HV2.out] at hv
        have hsl := hall.slAll hok (by rw [hS]; unfold maxLen; omega)
        have hnew := hall.new (base := w.heap.size) hok (by rw [hS]; unfold maxLen; omega) (Nat.le_refl _)
        rw [hS] at hsl hnew
        rw [hv] at hnew
        have HVV := Lib.hid hv
        have HNEW := Lib.hid hnew
        clear hS hv hp hall hnew hlt
        go_wp2_with (go_at_call 111; refine (trim_any _ _ _ _ _ hsl).mono ?_; rintro e w' ⟨rfl, rfl⟩)
        go_ret
        rw [HVV.out]
        exact ⟨_, rfl, HNEW.out, hbel⟩
  · have hz : val xs / 2 ^ s = 0 := by
      rw [← HV2.out, List.drop_eq_nil_of_le (by have := HL.out; omega), val_nil, Nat.zero_div]
    have HZ := Lib.hid hz
    have hmk := fun W => make32 0 0 rfl (by omega) W
    clear hz
    by_cases hqe : q = n
    · subst hqe
      have hmi : (q : Int) - (q : Int) = 0 := by omega
      go_enter Tryz.func144, Tryz.ntmps144
      go_wp2_with fail
      refine wp_loop_rounds 1 ?_
      rw [rounds_succ]
      have hB := Blk.made w 0
      have hsl := hB.slAll Ok.nil (by unfold maxLen; simp)
      have hnew := Lib.hid (hB.new (base := w.heap.size) Ok.nil (by unfold maxLen; simp) (Nat.le_refl _))
      go_wp2_with (go_at_call 111; refine (trim_any _ _ _ _ _ hsl).mono ?_; rintro e w' ⟨rfl, rfl⟩)
      go_ret
      exact ⟨_, rfl, by rw [HZ.out]; exact hnew.out, (Below.refl _ _).alloc (Nat.le_refl _) _⟩
    · have hmx : max ((n : Int) - (q : Int)) 0 = 0 := by omega
      go_enter Tryz.func144, Tryz.ntmps144
      go_wp2_with fail
      refine wp_loop_rounds 1 ?_
      rw [rounds_succ]
      have hB := Blk.made w 0
      have hsl := hB.slAll Ok.nil (by unfold maxLen; simp)
      have hnew := Lib.hid (hB.new (base := w.heap.size) Ok.nil (by unfold maxLen; simp) (Nat.le_refl _))
      go_wp2_with (go_at_call 111; refine (trim_any _ _ _ _ _ hsl).mono ?_; rintro e w' ⟨rfl, rfl⟩)
      go_ret
      exact ⟨_, rfl, by rw [HZ.out]; exact hnew.out, (Below.refl _ _).alloc (Nat.le_refl _) _⟩

set_option maxHeartbeats 800000 in
theorem shift_up_any (A : Option Addr) (n c : Nat) (xs : List Nat) (s : Nat) (w : World) (h : Sl w A n c xs) (hn : n ≤ 1000000000) (hs : s ≤ 4096) :
    Calls Tryz.prog 138 #[.slice A n c, .int .i64 (s : Int)] w (Gives w (val xs * 2 ^ s)) := by
  have ht := h.trim
  have hl := limbs_len_val h.ok
  have hlen := h.len
  have hv := Lib.hid (limbs_val (val xs))
  obtain ⟨m, HM⟩ : ∃ m, Hid (m = (limbs (val xs)).length) := ⟨_, rfl⟩
  rw [← HM.out] at ht hl
  have hm : m ≤ 1000000000 := by omega
  have m1 : max (s : Int) (-4096) = (s : Int) := by omega
  have m2 : min (s : Int) 4096 = (s : Int) := by omega
  clear hl hlen
  go_enter Tryz.func138, Tryz.ntmps138
  go_wp2_with (first | (go_at_call 111; refine (trim_at _ _ _ _ _ h m HM).mono ?_; rintro e w' ⟨rfl, rfl⟩) | (go_at_call 145; refine (shiftUp_any _ _ _ _ s _ ht hm hs).mono ?_; rintro e w1 ⟨v, rfl, hnew, hb⟩))
  go_ret
  rw [hv.out] at hnew
  exact ⟨v, rfl, hnew, hb⟩
set_option maxHeartbeats 800000 in
theorem shift_down_any (A : Option Addr) (n c : Nat) (xs : List Nat) (s : Nat) (w : World) (h : Sl w A n c xs) (hn : n ≤ 1000000000) (hs0 : 0 < s) (hs : s ≤ 4096) :
    Calls Tryz.prog 138 #[.slice A n c, .int .i64 (-(s : Int))] w (Gives w (val xs / 2 ^ s)) := by
  have ht := h.trim
  have hl := limbs_len_val h.ok
  have hlen := h.len
  have hv := Lib.hid (limbs_val (val xs))
  obtain ⟨m, HM⟩ : ∃ m, Hid (m = (limbs (val xs)).length) := ⟨_, rfl⟩
  rw [← HM.out] at ht hl
  have hm : m ≤ 1000000000 := by omega
  have m1 : max (-(s : Int)) (-4096) = -(s : Int) := by omega
  have m2 : min (-(s : Int)) 4096 = -(s : Int) := by omega
  have hneg : -(s : Int) < 0 := by omega
  clear hl hlen
  go_enter Tryz.func138, Tryz.ntmps138
  go_wp2_with (first | (go_at_call 111; refine (trim_at _ _ _ _ _ h m HM).mono ?_; rintro e w' ⟨rfl, rfl⟩) | (go_at_call 144; refine (shiftDown_any _ _ _ _ s _ ht hm hs).mono ?_; rintro e w1 ⟨v, rfl, hnew, hb⟩))
  go_ret
  rw [hv.out] at hnew
  exact ⟨v, rfl, hnew, hb⟩
end
end Go.Proofs.YtocnlapbkidinaaGreatDoor
namespace Go.Proofs.YtocnlapbkidinaaGreatDoor
section
open Go.RowKit

theorem shl_num {w : World} {u : Value} {a K s : Nat} (hu : Num w u a K) (hK : K ≤ 1000000000) (hs : s ≤ 4096) : Calls Tryz.prog 138 #[u, .int .i64 (s : Int)] w (Gives w (a * 2 ^ s)) := by
  obtain ⟨A1, n1, c1, xs, rfl, s1, rfl, k1⟩ := hu
  exact shift_up_any _ _ _ _ _ _ s1 (by omega) hs
theorem shr_num {w : World} {u : Value} {a K s : Nat} (hu : Num w u a K) (hK : K ≤ 1000000000) (hs0 : 0 < s) (hs : s ≤ 4096) : Calls Tryz.prog 138 #[u, .int .i64 (-(s : Int))] w (Gives w (a / 2 ^ s)) := by
  obtain ⟨A1, n1, c1, xs, rfl, s1, rfl, k1⟩ := hu
  exact shift_down_any _ _ _ _ _ _ s1 (by omega) hs0 hs
theorem shl0_num {w : World} {u : Value} {a K : Nat} (hu : Num w u a K) (hK : K ≤ 1000000000) : Calls Tryz.prog 138 #[u, .int .i64 0] w (Gives w a) := by
  have := shl_num (s := 0) hu hK (by omega)
  rwa [Nat.pow_zero, Nat.mul_one] at this
theorem lt_shl {a K s j : Nat} (ha : a < 4294967296 ^ K) (hs : s ≤ 32 * j) : a * 2 ^ s < 4294967296 ^ (K + j) := by
  rw [Nat.pow_add]
  have h : 2 ^ s ≤ 4294967296 ^ j := by
    rw [show (4294967296 : Nat) = 2 ^ 32 by decide, ← Nat.pow_mul]
    exact Nat.pow_le_pow_right (by decide) hs
  exact Nat.lt_of_lt_of_le (Nat.mul_lt_mul_of_pos_right ha (Nat.pow_pos (by decide))) (Nat.mul_le_mul_left _ h)
theorem bl_shl (a s : Nat) (h : a ≠ 0) : bl (a * 2 ^ s) = bl a + s := by
  have h1 := bl_lt a
  have h2 := bl_le a h
  have h3 := bl_pos a h
  have hp : 0 < 2 ^ s := Nat.pow_pos (by decide)
  refine (bl_unique (Nat.mul_ne_zero h (by omega)) ?_ ?_ (by omega)).symm
  · rw [Nat.pow_add]; exact Nat.mul_lt_mul_of_pos_right h1 hp
  · rw [show bl a + s - 1 = bl a - 1 + s by omega, Nat.pow_add]; exact Nat.mul_le_mul_right _ h2
theorem bl_bd {a K : Nat} (h : a < 4294967296 ^ K) : bl a ≤ 32 * K := by
  rcases Nat.eq_zero_or_pos a with h0 | h0
  · subst h0; rw [bl_zero]; omega
  · have h2 := bl_le a (by omega)
    have h3 : 2 ^ (bl a - 1) < 2 ^ (32 * K) := by
      rw [Nat.pow_mul]; exact Nat.lt_of_le_of_lt h2 h
    have := (Nat.pow_lt_pow_iff_right (by decide : 1 < 2)).1 h3
    omega
end
end Go.Proofs.YtocnlapbkidinaaGreatDoor
