/-
  The document's own Bits, bit, Shift (pavaneref01): what they answer.
-/
import Derived.Test.YtjildimhflondaaDoorShiftN
import Derived.Test.YtjildimhflondaaDoorRefCmp
namespace Go.Proofs.YtjildimhflondaaDoor
open Go.RowKit

set_option maxHeartbeats 1600000 in
theorem rbits_num {w : World} {u : Value} {a K : Nat} (hu : Num w u a K) (hK : K ≤ 100000000) : Calls Tryd.prog 75 #[u] w (Signs w (bl a : Int)) := by
  have la := limbs_len_le hu.lt
  go_enter Tryd.func75, Tryd.ntmps75
  go_wp2_with fail
  refine (rnorm_num hu (by omega)).mono ?_
  rintro e w1 ⟨x, rfl, hx, hb1⟩
  obtain ⟨A1, c1, rfl, s1⟩ := hx.sl
  clear hx hu
  rcases hm : (limbs a).length with _ | m
  · have e0 : a = 0 := (limbs_nil_iff _).1 (List.eq_nil_of_length_eq_zero hm)
    have H0 := Lib.hid e0
    clear e0 s1 la hm
    go_wp2_with fail
    go_ret
    exact ⟨by rw [H0.out]; rfl, hb1⟩
  · have HB := Lib.hid (bl_limbs a m hm)
    rw [hm] at s1 la
    obtain ⟨b, off, rfl, _, hc⟩ := s1.here (by omega)
    have hck := hc m (by omega)
    have hx := (limbs_ok a).getD m
    generalize lim (limbs a) m = t at hck hx HB
    have hne : (((m : Int) + 1) == 0) = false := beq_eq_false_iff_ne.2 (by omega)
    have hblt : bl t ≤ 32 := by
      have := bl_bd (a := t) (K := 1) (by omega)
      omega
    clear hc s1 hm
    go_wp2_with fail
    go_loopg [4, 5] t (fun q n i wr => ∃ (d : Nat), i = .int .u32 (q : Int) ∧ n = .int .i64 (d : Int) ∧ d ≤ 10000000000 ∧ q < 4294967296 ∧ Hid (d + bl q = bl a) ∧ wr = w1)
    case atStart => exact ⟨m * 32, rfl, (by first | go_num | exact congrArg (Value.int .i64) (by omega)), by omega, hx, by rw [HB.out]; exact rfl, rfl⟩
    case round =>
      obtain ⟨d, rfl, rfl, hd, hq, HE, rfl⟩ := hrel
      by_cases h0 : gk = 0
      · subst h0
        go_wp2_with fail
        go_ret
        refine ⟨?_, hb1⟩
        have := HE.out
        rw [bl_zero, Nat.add_zero] at this
        rw [← this]; rfl
      · have hp : 0 < gk := by omega
        have hh := bl_half gk h0
        have hpos := bl_pos gk h0
        have HH := Lib.hid hh
        have hd2 : d + 1 ≤ 10000000000 := by
          have h1 := HE.out
          have h2 := HB.out
          omega
        clear hh h0
        go_wp2_with fail
        go_roundg (gk / 2)
        case measure => omega
        case rel => exact ⟨d + 1, by go_num, by go_num, hd2, by omega, by have h1 := HE.out; have h2 := HH.out; show d + 1 + bl (gk / 2) = bl a; omega, rfl⟩

/-- A bit of a number. -/
def bitN (v i : Nat) : Nat := v / 2 ^ i % 2
theorem bitN_lim {xs : List Nat} (ok : Ok xs) (i : Nat) : bitN (val xs) i = lim xs (i / 32) / 2 ^ (i % 32) % 2 := by
  unfold bitN
  rw [two_pow_split i, ← Nat.div_div_eq_div_mul, val_div_pow ok]
  have e := drop_two xs (i / 32)
  obtain ⟨d, hd⟩ : ∃ d, 2 ^ (i % 32) * (2 * d) = 4294967296 := ⟨2 ^ (31 - i % 32), by rw [← Nat.mul_assoc, ← Nat.pow_succ, ← Nat.pow_add, show i % 32 + 1 + (31 - i % 32) = 32 by omega]⟩
  rw [e, ← hd, Nat.mul_assoc, Nat.add_mul_div_left _ _ (Nat.pow_pos (by decide)), Nat.mul_assoc, Nat.add_mul_mod_self_left]
theorem bitN_ge {v i k : Nat} (h : v < 2 ^ k) (hi : k ≤ i) : bitN v i = 0 := by
  unfold bitN
  rw [Nat.div_eq_of_lt (Nat.lt_of_lt_of_le h (Nat.pow_le_pow_right (by decide) hi))]
theorem and_one (X : Nat) (h : X < 4294967296) : bits .and .u32 (X : Int) 1 = ((X % 2 : Nat) : Int) := by
  have := u32_and_nat X 1 h (by decide)
  rw [nat_mask1] at this
  exact this

set_option maxHeartbeats 1600000 in
theorem rbit_any (A : Option Addr) (n c : Nat) (xs : List Nat) (i : Nat) (w : World) (h : Sl w A n c xs) (hn : n ≤ 100000000) (hi : i ≤ 100000000000) :
    Calls Tryd.prog 92 #[.slice A n c, .int .i64 (i : Int)] w fun e w' => e = .returned (.bool (bitN (val xs) i == 1)) ∧ w = w' := by
  have HB := Lib.hid (bitN_lim h.ok i)
  obtain ⟨q, Hq⟩ : ∃ q, q = i / 32 := ⟨_, rfl⟩
  obtain ⟨r, Hr⟩ : ∃ r, r = i % 32 := ⟨_, rfl⟩
  rw [← Hq, ← Hr] at HB
  have hq : (i : Int) / 32 = (q : Int) := by omega
  have hr : (i : Int) % 32 = (r : Int) := by omega
  have hr32 : r < 32 := by omega
  clear Hq Hr
  by_cases hqn : q < n
  · obtain ⟨b, off, rfl, _, hc⟩ := h.here (by omega)
    have hck := hc q hqn
    have hx := h.ok.getD q
    obtain ⟨T, HT⟩ : ∃ T, Hid (T = lim xs q / 2 ^ r) := ⟨_, rfl⟩
    have hTi : (lim xs q : Int) / 2 ^ r = (T : Int) := by rw [HT.out, Int.natCast_ediv, Int.natCast_pow]; rfl
    have hTb : T < 4294967296 := by rw [HT.out]; exact Nat.lt_of_le_of_lt (Nat.div_le_self _ _) hx
    have hand := and_one T hTb
    have HB2 : Hid (bitN (val xs) i = T % 2) := by rw [HB.out, HT.out]; exact rfl
    have i1 : (q : Int) < (n : Int) := by omega
    clear hc
    go_enter Tryd.func92, Tryd.ntmps92
    go_wp2_with fail
    go_ret
    refine ⟨congrArg (fun b => Ending.returned (Value.bool b)) ?_, rfl⟩
    rw [HB2.out]
    have : (T : Int) % 2 = ((T % 2 : Nat) : Int) := by omega
    rw [this, Bool.eq_iff_iff, beq_iff_eq, beq_iff_eq]
    omega
  · have hz : bitN (val xs) i = 0 := by rw [HB.out, lim_ge xs q (by have := h.len; omega), Nat.zero_div]
    have HZ := Lib.hid hz
    have i1 : ¬ (q : Int) < (n : Int) := by omega
    clear hz
    go_enter Tryd.func92, Tryd.ntmps92
    go_wp2_with fail
    go_ret
    exact ⟨by rw [HZ.out]; rfl, rfl⟩
theorem rbit_num {w : World} {u : Value} {a K : Nat} (hu : Num w u a K) (hK : K ≤ 100000000) (i : Nat) (hi : i ≤ 100000000000) :
    Calls Tryd.prog 92 #[u, .int .i64 (i : Int)] w fun e w' => e = .returned (.bool (bitN a i == 1)) ∧ w = w' := by
  obtain ⟨A1, n1, c1, xs, rfl, s1, rfl, k1⟩ := hu
  exact rbit_any _ _ _ _ _ _ s1 (by omega) hi
theorem bitN_shl (a s i : Nat) : bitN (a * 2 ^ s) i = if i < s then 0 else bitN a (i - s) := by
  unfold bitN
  by_cases h : i < s
  · rw [if_pos h, show s = i + (s - i - 1 + 1) by omega, Nat.pow_add, Nat.pow_succ, Nat.mul_comm (2 ^ i), ← Nat.mul_assoc, Nat.mul_div_cancel _ (Nat.pow_pos (by decide)), ← Nat.mul_assoc, Nat.mul_mod_left]
  · rw [if_neg h]
    have e : 2 ^ i = 2 ^ s * 2 ^ (i - s) := by rw [← Nat.pow_add, show s + (i - s) = i by omega]
    rw [e, ← Nat.div_div_eq_div_mul, Nat.mul_div_cancel _ (Nat.pow_pos (by decide))]
theorem bitN_shr (a s i : Nat) : bitN (a / 2 ^ s) i = bitN a (i + s) := by
  unfold bitN
  rw [Nat.div_div_eq_div_mul, ← Nat.pow_add, Nat.add_comm]
theorem bitN_mod (R i : Nat) : R % 2 ^ (i + 1) = R % 2 ^ i + 2 ^ i * bitN R i := by
  unfold bitN
  rw [Nat.pow_succ, Nat.mod_mul]
theorem or_bit_up (L r : Nat) (h : L < 2 ^ r) (hr : r < 32) : bits .or .u32 (L : Int) ((2 ^ r : Nat) : Int) = ((L + 2 ^ r : Nat) : Int) := by
  have h1 : 2 ^ r ≤ 2 ^ 31 := Nat.pow_le_pow_right (by decide) (by omega)
  rw [u32_or_nat _ _ (by omega) (by omega), Nat.or_comm, nat_join r _ _ (Nat.mod_self _) h, Nat.add_comm]
theorem or_bit_down (L r : Nat) (h : L % 2 ^ (r + 1) = 0) (hL : L < 4294967296) (hr : r < 32) : bits .or .u32 (L : Int) ((2 ^ r : Nat) : Int) = ((L + 2 ^ r : Nat) : Int) := by
  have h1 : 2 ^ r ≤ 2 ^ 31 := Nat.pow_le_pow_right (by decide) (by omega)
  rw [u32_or_nat _ _ (by omega) (by omega), nat_join (r + 1) _ _ h (by rw [Nat.pow_succ]; have := Nat.pow_pos (n := r) (show 0 < 2 by decide); omega)]

/-- What holds while bits are set one by one, from below. -/
def BitInv (w : World) (R N i : Nat) (M : List Nat) (wr : World) : Prop := M.length = N ∧ Ok M ∧ val M = R % 2 ^ i ∧ Blk wr w.heap.size M ∧ Below w.heap.size w wr
theorem BitInv.lim_lt {w : World} {R N i : Nat} {M : List Nat} {wr : World} (h : BitInv w R N i M wr) : lim M (i / 32) < 2 ^ (i % 32) := by
  have h1 : val M < 2 ^ i := by rw [h.2.2.1]; exact Nat.mod_lt _ (Nat.pow_pos (by decide))
  rw [two_pow_split i] at h1
  have h2 : val M / 4294967296 ^ (i / 32) < 2 ^ (i % 32) := Nat.div_lt_of_lt_mul h1
  rw [val_div_pow h.2.1, drop_two] at h2
  omega
theorem BitInv.zero {w : World} {R N i : Nat} {M : List Nat} {wr : World} (h : BitInv w R N i M wr) (hb : bitN R i = 0) : BitInv w R N (i + 1) M wr :=
  ⟨h.1, h.2.1, by rw [h.2.2.1, bitN_mod, hb, Nat.mul_zero, Nat.add_zero], h.2.2.2⟩
theorem BitInv.one {w : World} {R N i : Nat} {M : List Nat} {wr : World} (h : BitInv w R N i M wr) (hb : bitN R i = 1) (hN : i / 32 < N) {z : Int} (hz : z = ((lim M (i / 32) + 2 ^ (i % 32) : Nat) : Int)) :
    BitInv w R N (i + 1) (M.set (i / 32) (lim M (i / 32) + 2 ^ (i % 32))) (wr.setCell ⟨w.heap.size, i / 32, none⟩ (.int .u32 z)) := by
  subst hz
  have hl := h.lim_lt
  have h1 : 2 ^ (i % 32) ≤ 2 ^ 31 := Nat.pow_le_pow_right (by decide) (by omega)
  refine ⟨by rw [List.length_set]; exact h.1, h.2.1.set _ _ (by omega), ?_, h.2.2.2.1.set_ _ _, h.2.2.2.2.setCell (Nat.le_refl _) _⟩
  have hs := val_set M (i / 32) (lim M (i / 32) + 2 ^ (i % 32)) (by rw [h.1]; exact hN)
  rw [Nat.mul_add, ← two_pow_split] at hs
  rw [bitN_mod, hb, Nat.mul_one, ← h.2.2.1]
  omega

set_option maxHeartbeats 3200000 in
theorem rshift_core {w : World} {u : Value} {a K : Nat} (hu : Num w u a K) (hK : K ≤ 1000000) (n : Int) (k R : Nat) (hn1 : -4096 ≤ n) (hn2 : n ≤ 4096) (hk : (bl a : Int) + n = (k : Int)) (hk0 : 0 < k) (ha : 0 < bl a) (hR : R < 2 ^ k)
    (HB : Hid (∀ i : Nat, bitN R i = if (i : Int) - n < 0 then 0 else bitN a ((i : Int) - n).toNat)) : Calls Tryd.prog 76 #[u, .int .i64 n] w (Gives w R) := by
  have hbl := bl_bd hu.lt
  have HBN := Lib.hid (fun W (hW : Num W u a K) => rbits_num hW (by omega))
  generalize bl a = m at *
  obtain ⟨q, Hq⟩ : ∃ q, q = k / 32 := ⟨_, rfl⟩
  have hq : (k : Int) / 32 = (q : Int) := by omega
  have hkb : k ≤ 40000000 := by omega
  have hqb : q ≤ 40000000 := by omega
  have HQ := Lib.hid Hq
  have HR := Lib.hid hR
  have hmk := fun W => make32 ((q : Int) + 1) (q + 1) (by omega) (by omega) W
  have hm0 : ((m : Int) == 0) = false := beq_eq_false_iff_ne.2 (by omega)
  clear Hq hR
  go_enter Tryd.func76, Tryd.ntmps76
  go_wp2_with fail
  refine (HBN.out w hu).mono ?_
  rintro e w1 ⟨rfl, hb1⟩
  have hu1 := hu.below hb1
  go_wp2_with fail
  refine (HBN.out w1 hu1).mono ?_
  rintro e w2 ⟨rfl, hb2⟩
  have hu2 := hu1.below hb2
  have hb12 := bnext hb1 hb2
  clear hb1 hb2 hu1
  go_wp2_with fail
  clear hmk
  go_loopw [7] (fun i wr => ∃ j : Nat, j ≤ k ∧ i = .int .i64 j ∧ ∃ M, BitInv w2 R (q + 1) j M wr) (fun i _ => k - (intOf i).toNat)
  case atStart =>
    refine ⟨0, by omega, rfl, List.replicate (q + 1) 0, by simp, Ok.replicate _, by simp [val_replicate, Nat.mod_one], Blk.made w2 (q + 1), (Below.refl _ _).alloc (Nat.le_refl _) _⟩
  case round =>
    obtain ⟨j, hj, rfl, M, hinv⟩ := hrel
    by_cases hjk : j < k
    · have hbit := HB.out j
      have hu3 := hu2.below hinv.2.2.2.2
      by_cases hneg : (j : Int) - n < 0
      · rw [if_pos hneg] at hbit
        have HI := Lib.hid (hinv.zero hbit)
        clear hbit hinv
        go_wp2_with fail
        go_roundw
        case rel => exact ⟨j + 1, by omega, by go_num, _, HI.out⟩
        case measure => simp [intOf]; omega
      · obtain ⟨t, ht⟩ : ∃ t : Nat, (j : Int) - n = (t : Int) := ⟨((j : Int) - n).toNat, by omega⟩
        rw [if_neg hneg, ht, Int.toNat_natCast] at hbit
        have htb : t ≤ 100000000 := by omega
        by_cases hone : bitN a t = 1
        · rw [hone] at hbit
          have hlt := hinv.lim_lt
          have hone' : (bitN a t == 1) = true := beq_iff_eq.2 hone
          have hor := or_bit_up _ _ hlt (Nat.mod_lt j (by decide))
          have HI := Lib.hid (hinv.one hbit (by have := HQ.out; omega) rfl)
          have hf := hinv.2.2.2.1.frozen (j / 32)
          have hcl := hinv.2.2.2.1.cell (j / 32) (by rw [hinv.1]; have := HQ.out; omega)
          have h31 : 2 ^ (j % 32) ≤ 2 ^ 31 := Nat.pow_le_pow_right (by decide) (by omega)
          have hL : lim M (j / 32) + 2 ^ (j % 32) < 4294967296 := by omega
          have hjx : j / 32 < q + 1 := by have := HQ.out; omega
          have e1 : (j : Int) / 32 = ((j / 32 : Nat) : Int) := by omega
          have e2 : (j : Int) % 32 = ((j % 32 : Nat) : Int) := by omega
          have hr : j % 32 < 32 := by omega
          generalize j / 32 = x at *
          generalize j % 32 = r at *
          have hxi : (x : Int) < (q : Int) + 1 := by omega
          have e3 : IntKind.u32.wrap (2 ^ r) = ((2 ^ r : Nat) : Int) := by
            rw [show (2 ^ r : Int) = ((2 ^ r : Nat) : Int) by rw [Int.natCast_pow]; rfl, IntKind.wrap_u32]; omega
          generalize hP : (2 : Nat) ^ r = P at *
          clear hbit hinv hlt hone h31 hP
          go_wp2_with fail
          refine (rbit_num hu3 (by omega) t (by omega)).mono ?_
          rintro e w' ⟨rfl, rfl⟩
          simp only [hone']
          go_wp2_with fail
          go_roundw
          case rel => exact ⟨j + 1, by omega, by go_num, _, HI.out⟩
          case measure => simp [intOf]; omega
        · have h0 : bitN a t = 0 := by have := Nat.mod_lt (a / 2 ^ t) (show 0 < 2 by decide); unfold bitN at hone ⊢; omega
          rw [h0] at hbit
          have hone' : (bitN a t == 1) = false := beq_eq_false_iff_ne.2 hone
          have HI := Lib.hid (hinv.zero hbit)
          clear hbit hinv hone h0
          go_wp2_with fail
          refine (rbit_num hu3 (by omega) t (by omega)).mono ?_
          rintro e w' ⟨rfl, rfl⟩
          simp only [hone']
          go_wp2_with fail
          go_roundw
          case rel => exact ⟨j + 1, by omega, by go_num, _, HI.out⟩
          case measure => simp [intOf]; omega
    · obtain rfl : j = k := by omega
      obtain ⟨hl, ok, hv, hB, hbel⟩ := hinv
      have hsl := hB.slAll ok (by rw [hl]; unfold maxLen; omega)
      rw [hl] at hsl
      rw [Nat.mod_eq_of_lt HR.out] at hv
      have hn := Num.of_sl hsl (Nat.le_refl _)
      rw [hv] at hn
      clear hl hv
      go_wp2_with fail
      refine (rnorm_num hn (by omega)).mono ?_
      rintro e w3 ⟨v', rfl, hnew, hb3⟩
      go_wp2_with fail
      go_ret
      exact ⟨v', rfl, hnew.from_ (Nat.le_trans hb12.size hbel.size), bnext (bnext hb12 hbel) hb3⟩
set_option maxHeartbeats 1600000 in
theorem rshift_none {w : World} {u : Value} {a K : Nat} (hu : Num w u a K) (hK : K ≤ 1000000) (n : Int) (hn1 : -4096 ≤ n) (hn2 : n ≤ 4096) (h : (bl a : Int) + n ≤ 0 ∨ bl a = 0) : Calls Tryd.prog 76 #[u, .int .i64 n] w (Gives w 0) := by
  have hbl := bl_bd hu.lt
  have HBN := Lib.hid (fun W (hW : Num W u a K) => rbits_num hW (by omega))
  generalize bl a = m at *
  by_cases h1 : (m : Int) + n ≤ 0
  · clear h
    go_enter Tryd.func76, Tryd.ntmps76
    go_wp2_with fail
    refine (HBN.out w hu).mono ?_
    rintro e w1 ⟨rfl, hb1⟩
    go_wp2_with fail
    go_ret
    exact ⟨_, rfl, (own_lit0 w1 w.heap.size hb1.size).new, bnew hb1 _⟩
  · obtain rfl : m = 0 := by omega
    clear h
    go_enter Tryd.func76, Tryd.ntmps76
    go_wp2_with fail
    refine (HBN.out w hu).mono ?_
    rintro e w1 ⟨rfl, hb1⟩
    go_wp2_with fail
    refine (HBN.out w1 (hu.below hb1)).mono ?_
    rintro e w2 ⟨rfl, hb2⟩
    have hb12 := bnext hb1 hb2
    go_wp2_with fail
    go_ret
    exact ⟨_, rfl, (own_lit0 w2 w.heap.size hb12.size).new, bnew hb12 _⟩
set_option maxHeartbeats 1600000 in
theorem rshift_low {w : World} {u : Value} {a K : Nat} (hu : Num w u a K) (hK : K ≤ 100) (n : Int) (hn0 : -9223372036854775808 ≤ n) (hn1 : n < -4096) : Calls Tryd.prog 76 #[u, .int .i64 n] w (Gives w 0) := by
  have hbl := bl_bd hu.lt
  have HBN := Lib.hid (fun W (hW : Num W u a K) => rbits_num hW (by omega))
  generalize bl a = m at *
  have h2 : (m : Int) - 4096 ≤ 0 := by omega
  have h3 : (m : Int) + -4096 ≤ 0 := by omega
  have h4 : ¬ 4096 < n := by omega
  go_enter Tryd.func76, Tryd.ntmps76
  go_wp2_with fail
  refine (HBN.out w hu).mono ?_
  rintro e w1 ⟨rfl, hb1⟩
  go_wp2_with fail
  go_ret
  exact ⟨_, rfl, (own_lit0 w1 w.heap.size hb1.size).new, bnew hb1 _⟩
theorem rshl_num {w : World} {u : Value} {a K s : Nat} (hu : Num w u a K) (hK : K ≤ 1000000) (hs : s ≤ 4096) : Calls Tryd.prog 76 #[u, .int .i64 (s : Int)] w (Gives w (a * 2 ^ s)) := by
  rcases Nat.eq_zero_or_pos a with h0 | h0
  · subst h0
    rw [Nat.zero_mul]
    exact rshift_none hu hK s (by omega) (by omega) (.inr rfl)
  · have hp := bl_pos a (by omega)
    refine rshift_core hu hK s (bl a + s) (a * 2 ^ s) (by omega) (by omega) (by omega) (by omega) hp ?_ ?_
    · rw [Nat.pow_add]; exact Nat.mul_lt_mul_of_pos_right (bl_lt a) (Nat.pow_pos (by decide))
    · intro i
      rw [bitN_shl]
      by_cases h : i < s
      · rw [if_pos h, if_pos (by omega)]
      · rw [if_neg h, if_neg (by omega), show ((i : Int) - (s : Int)).toNat = i - s by omega]
theorem rshr_num {w : World} {u : Value} {a K s : Nat} (hu : Num w u a K) (hK : K ≤ 1000000) (hs : s ≤ 4096) : Calls Tryd.prog 76 #[u, .int .i64 (-(s : Int))] w (Gives w (a / 2 ^ s)) := by
  have hl := bl_lt a
  by_cases h0 : bl a ≤ s
  · rw [Nat.div_eq_of_lt (Nat.lt_of_lt_of_le hl (Nat.pow_le_pow_right (by decide) h0))]
    exact rshift_none hu hK _ (by omega) (by omega) (.inl (by omega))
  · refine rshift_core hu hK _ (bl a - s) (a / 2 ^ s) (by omega) (by omega) (by omega) (by omega) (by omega) ?_ ?_
    · refine Nat.div_lt_of_lt_mul ?_
      rw [← Nat.pow_add, show s + (bl a - s) = bl a by omega]
      exact hl
    · intro i
      rw [bitN_shr, if_neg (by omega), show ((i : Int) - -(s : Int)).toNat = i + s by omega]
end Go.Proofs.YtjildimhflondaaDoor
