/-
  The document's own Div and DivSmall (pavaneref01): what they answer.
-/
import Derived.Test.YtjildimhflondaaDoorRefBits
import Derived.Test.YtjildimhflondaaDoorRefMul
import Derived.Test.YtjildimhflondaaDoorDivAll
namespace Go.Proofs.YtjildimhflondaaDoor
open Go.RowKit

theorem New.only {w w' : World} {g base : Nat} {v : Value} {xs : List Nat} (h : New w base v xs) (ho : Only g w w') (hg : g < base) : New w' base v xs := by
  obtain ⟨A, n, cap, rfl, hs, hc⟩ := h
  rcases hc with ⟨rfl, rfl⟩ | ⟨b, cur, rfl, hb, hh, hz⟩
  · exact ⟨none, n, 0, rfl, ⟨hs.len, hs.le, hs.max, hs.ok, fun hn => absurd hs.le (by omega), hs.nil_⟩, .inl ⟨rfl, rfl⟩⟩
  · refine ⟨_, n, cap, rfl, ⟨hs.len, hs.le, hs.max, hs.ok, fun hn => ?_, hs.nil_⟩, .inr ⟨b, cur, rfl, hb, (ho.block b (by omega)).trans hh, hz⟩⟩
    obtain ⟨b', off, e, hb', hcell⟩ := hs.here hn
    have e1 : b = b' := congrArg Addr.block (Option.some.inj e)
    exact ⟨b', off, e, by rw [ho.size]; exact hb', fun i hi => (World.cell?_of_block (w := w) (a := ⟨b', off + i, none⟩) (ho.block b' (by omega))).trans (hcell i hi)⟩

theorem half_bit (a t : Nat) : a / 2 ^ t = 2 * (a / 2 ^ (t + 1)) + bitN a t := by
  unfold bitN
  rw [Nat.pow_succ, ← Nat.div_div_eq_div_mul]
  omega
theorem rdiv_split (X b B r : Nat) (hB : B ≤ 1) (hb : 0 < b) (hr : r = X % b * 2 ^ 1 + B) : (2 * X + B) / b = r / b + 2 * (X / b) ∧ (2 * X + B) % b = r % b ∧ r < 2 * b := by
  have h1 := Nat.div_add_mod X b
  have h2 := Nat.mod_lt X hb
  have e : 2 * X + B = r + b * (2 * (X / b)) := by
    rw [Nat.mul_left_comm]
    omega
  exact ⟨by rw [e, Nat.add_mul_div_left _ _ hb], by rw [e, Nat.add_mul_mod_self_left], by omega⟩
theorem rdiv_ge (X b B r : Nat) (hB : B ≤ 1) (hb : 0 < b) (hr : r = X % b * 2 ^ 1 + B) (h : b ≤ r) : (2 * X + B) / b = 2 * (X / b) + 1 ∧ (2 * X + B) % b = r - b := by
  obtain ⟨h1, h2, h3⟩ := rdiv_split X b B r hB hb hr
  rw [h1, h2]
  refine ⟨?_, ?_⟩
  · rw [Nat.div_eq_of_lt_le (k := 1) (by omega) (by omega), Nat.add_comm]
  · rw [Nat.mod_eq_sub_mod h, Nat.mod_eq_of_lt (by omega)]
theorem rdiv_lt (X b B r : Nat) (hB : B ≤ 1) (hb : 0 < b) (hr : r = X % b * 2 ^ 1 + B) (h : r < b) : (2 * X + B) / b = 2 * (X / b) ∧ (2 * X + B) % b = r := by
  obtain ⟨h1, h2, h3⟩ := rdiv_split X b B r hB hb hr
  rw [h1, h2, Nat.div_eq_of_lt h, Nat.mod_eq_of_lt h, Nat.zero_add]
  exact ⟨rfl, rfl⟩

/-- The limb in which the next bit below is set. -/
theorem low_limb {Q : List Nat} (ok : Ok Q) {Y t : Nat} (hv : val Q = Y * 2 ^ (t + 1)) : lim Q (t / 32) % 2 ^ (t % 32 + 1) = 0 := by
  have e : 2 ^ (t + 1) = 4294967296 ^ (t / 32) * 2 ^ (t % 32 + 1) := by rw [Nat.pow_succ, two_pow_split t, Nat.mul_assoc, ← Nat.pow_succ]
  have h1 : val (Q.drop (t / 32)) = Y * 2 ^ (t % 32 + 1) := by
    rw [← val_div_pow ok, hv, e, Nat.mul_left_comm, Nat.mul_div_cancel_left _ (pow_pos' _)]
  rw [drop_two] at h1
  obtain ⟨d, hd⟩ : ∃ d, 2 ^ (t % 32 + 1) * d = 4294967296 := ⟨2 ^ (31 - t % 32), by rw [← Nat.pow_add, show t % 32 + 1 + (31 - t % 32) = 32 by omega]⟩
  have h2 : (lim Q (t / 32) + 4294967296 * (lim Q (t / 32 + 1) + 4294967296 * val (Q.drop (t / 32 + 2)))) % 2 ^ (t % 32 + 1) = lim Q (t / 32) % 2 ^ (t % 32 + 1) := by
    rw [← hd, Nat.mul_assoc, Nat.add_mul_mod_self_left]
  rw [← h2, h1, Nat.mul_mod_left]
theorem low_limb_lt {L r : Nat} (h : L % 2 ^ (r + 1) = 0) (hL : L < 4294967296) (hr : r < 32) : L + 2 ^ r < 4294967296 := by
  obtain ⟨d, hd⟩ : ∃ d, 2 ^ (r + 1) * d = 4294967296 := ⟨2 ^ (31 - r), by rw [← Nat.pow_add, show r + 1 + (31 - r) = 32 by omega]⟩
  have h1 := Nat.div_add_mod L (2 ^ (r + 1))
  rw [h, Nat.add_zero] at h1
  have h2 : L / 2 ^ (r + 1) < d := by
    refine Nat.lt_of_mul_lt_mul_left (a := 2 ^ (r + 1)) ?_
    omega
  have h3 : 2 ^ (r + 1) * (L / 2 ^ (r + 1) + 1) ≤ 2 ^ (r + 1) * d := Nat.mul_le_mul_left _ h2
  rw [Nat.mul_add, Nat.mul_one] at h3
  have h4 : 2 ^ (r + 1) = 2 * 2 ^ r := by rw [Nat.pow_succ, Nat.mul_comm]
  have h5 : 0 < 2 ^ r := Nat.pow_pos (by decide)
  omega

/-- What holds at the head of Div's round: the quotient's upper bits, and what is left of the number's upper bits. -/
def RDiv (w : World) (a b N j : Nat) (Q : List Nat) (v : Value) (wr : World) : Prop :=
  Q.length = N ∧ Ok Q ∧ val Q = a / 2 ^ j / b * 2 ^ j ∧ Blk wr w.heap.size Q ∧ New wr (w.heap.size + 1) v (limbs (a / 2 ^ j % b)) ∧ Below w.heap.size w wr
theorem RDiv.skip {w : World} {a b N t R : Nat} {Q : List Nat} {v v' : Value} {wr w' : World} (h : RDiv w a b N (t + 1) Q v wr) (hb : 0 < b) (hR : R = a / 2 ^ (t + 1) % b * 2 ^ 1 + bitN a t) (hlt : R < b) (hw : Below wr.heap.size wr w') (hv : New w' (w.heap.size + 1) v' (limbs R)) : RDiv w a b N t Q v' w' := by
  obtain ⟨h1, h2, h3, h4, h5, h6⟩ := h
  have hbit : bitN a t ≤ 1 := by unfold bitN; omega
  obtain ⟨e1, e2⟩ := rdiv_lt _ b _ R hbit hb hR hlt
  rw [← half_bit] at e1 e2
  refine ⟨h1, h2, ?_, h4.below hw h4.lt, by rw [e2]; exact hv, bnext h6 hw⟩
  rw [h3, e1]
  generalize a / 2 ^ (t + 1) / b = Y
  rw [Nat.pow_succ, Nat.mul_comm (2 ^ t) 2, ← Nat.mul_assoc, Nat.mul_comm Y 2]
theorem RDiv.set {w : World} {a b N t R : Nat} {Q : List Nat} {v v' : Value} {wr w' : World} (h : RDiv w a b N (t + 1) Q v wr) (hb : 0 < b) (hR : R = a / 2 ^ (t + 1) % b * 2 ^ 1 + bitN a t) (hge : b ≤ R) (hw : Below wr.heap.size wr w') (hv : New w' (w.heap.size + 1) v' (limbs (R - b))) (hN : t / 32 < N) {z : Int} (hz : z = ((lim Q (t / 32) + 2 ^ (t % 32) : Nat) : Int)) :
    RDiv w a b N t (Q.set (t / 32) (lim Q (t / 32) + 2 ^ (t % 32))) v' (w'.setCell ⟨w.heap.size, t / 32, none⟩ (.int .u32 z)) := by
  subst hz
  obtain ⟨h1, h2, h3, h4, h5, h6⟩ := h
  have hbit : bitN a t ≤ 1 := by unfold bitN; omega
  obtain ⟨e1, e2⟩ := rdiv_ge _ b _ R hbit hb hR hge
  rw [← half_bit] at e1 e2
  have hlt := low_limb_lt (low_limb h2 h3) (h2.getD _) (Nat.mod_lt t (by decide))
  refine ⟨by rw [List.length_set]; exact h1, h2.set _ _ hlt, ?_, (h4.below hw h4.lt).set_ _ _, ?_, (bnext h6 hw).setCell (Nat.le_refl _) _⟩
  · have hs := val_set Q (t / 32) (lim Q (t / 32) + 2 ^ (t % 32)) (by rw [h1]; exact hN)
    rw [Nat.mul_add, ← two_pow_split] at hs
    rw [e1]
    generalize a / 2 ^ (t + 1) / b = Y at h3
    have e3 : (2 * Y + 1) * 2 ^ t = Y * 2 ^ (t + 1) + 2 ^ t := by rw [Nat.add_mul, Nat.one_mul, Nat.pow_succ, Nat.mul_comm (2 ^ t) 2, ← Nat.mul_assoc, Nat.mul_comm Y 2]
    omega
  · rw [e2]; exact hv.only (Only.setCell _ _ _ _) (by omega)

theorem lit1_num (w : World) (x : Nat) (hx : x < 4294967296) : Num (w.alloc (.cells #[Value.int .u32 (x : Int)] 32)) (.slice (some ⟨w.heap.size, 0, none⟩) 1 1) x 1 := by
  have := (Blk.lit1 w x).slAll (Ok.cons hx Ok.nil) (by unfold maxLen; simp)
  have h := Num.of_sl this (Nat.le_refl _)
  have e : val [x] = x := by simp [val]
  rwa [e] at h

set_option maxHeartbeats 3200000 in
theorem rdiv_pos {w : World} {u v : Value} {a b K L : Nat} (hu : Num w u a K) (hv : Num w v b L) (hK : K ≤ 100000) (hL : L ≤ 100000) (hb0 : 0 < b) : Calls Tryd.prog 73 #[u, v] w (Gives2 w (a / b) (a % b)) := by
  have hbb := bl_bd hv.lt
  have hbp := bl_pos b (by omega)
  have hlb := hv.lt
  have HBB := Lib.hid (rbits_num hv (by omega))
  have HBA := Lib.hid (fun W (hW : Num W u a K) => rbits_num hW (by omega))
  obtain ⟨A1, n1, c1, xs, rfl, s1, hx, k1⟩ := hu
  have hla : a < 4294967296 ^ n1 := by rw [← hx, s1.len]; exact val_lt s1.ok
  have hba := bl_bd hla
  have ha0 := bl_lt a
  have HX := Lib.hid hx
  have hmk := fun W => make32 (n1 : Int) n1 rfl (by omega) W
  have HZ : Hid (a / 2 ^ bl a = 0) := Nat.div_eq_of_lt ha0
  generalize bl b = mb at *
  generalize bl a = ma at *
  have hm0 : ((mb : Int) == 0) = false := beq_eq_false_iff_ne.2 (by omega)
  clear hla ha0 hx
  go_enter Tryd.func73, Tryd.ntmps73
  go_wp2_with fail
  refine HBB.out.mono ?_
  rintro e w1 ⟨rfl, hb1⟩
  have s2 := s1.below hb1
  have hv2 := hv.below hb1
  go_wp2_with fail
  have hr0 := own_lit0 (w1.alloc (.cells (madeCells #[Value.int .u32 0] n1) 32)) (w1.heap.size + 1) (by simp)
  have hq0 := (Blk.made w1 n1).alloc (.cells #[] 32)
  have hb2 : Below w1.heap.size w1 ((w1.alloc (.cells (madeCells #[Value.int .u32 0] n1) 32)).alloc (.cells #[] 32)) := bnew (bnew (Below.refl _ _) _) _
  have hua : Num _ (.slice A1 n1 c1) a K := ⟨_, _, _, xs, rfl, s2.below hb2, HX.out, k1⟩
  refine (HBA.out _ hua).mono ?_
  rintro e w2 ⟨rfl, hb3⟩
  have HR0 := Lib.hid (hr0.new.below hb3 (Nat.le_refl _))
  have HQ0 := Lib.hid (hq0.below hb3 hq0.lt)
  have hb12 := bnext hb2 hb3
  clear hr0 hq0 hb2 hb3 hua hmk
  go_wp2_with fail
  go_loopw [7, 8] (fun r i wr => ∃ (j : Nat) (z : Int), j ≤ ma ∧ i = .int .i64 z ∧ z + 1 = (j : Int) ∧ ∃ Q, RDiv w1 a b n1 j Q r wr) (fun _ i _ => (intOf i + 1).toNat)
  case atStart =>
    refine ⟨ma, (ma : Int) - 1, Nat.le_refl _, by go_num, by omega, List.replicate n1 0, by simp, Ok.replicate _, ?_, HQ0.out, ?_, hb12⟩
    · rw [HZ.out]; simp [val_replicate]
    · rw [HZ.out, Nat.zero_mod, limbs_zero]; simpa using HR0.out
  case round =>
    obtain ⟨j, z, hj, rfl, hz, Q, hinv⟩ := hrel
    rcases j with _ | t
    · obtain rfl : z = -1 := by omega
      obtain ⟨hl, ok, hv', hB, hr, hbel⟩ := hinv
      rw [Nat.pow_zero, Nat.div_one] at hr
      rw [Nat.pow_zero, Nat.div_one, Nat.mul_one] at hv'
      have hsl := hB.slAll ok (by rw [hl]; unfold maxLen; omega)
      rw [hl] at hsl
      have hn := Num.of_sl hsl (Nat.le_refl _)
      rw [hv'] at hn
      clear hl hv'
      go_wp2_with fail
      refine (rnorm_num hn (by omega)).mono ?_
      rintro e w3 ⟨v', rfl, hnew, hb3⟩
      have hr3 := (hr.below hb3 (Nat.le_refl _)).from_ (base' := w.heap.size) (by have := hb1.size; omega)
      have hbe := bnext (bnext hb1 hbel) hb3
      have hq3 := hnew.from_ (base' := w.heap.size) (Nat.le_trans hb1.size hbel.size)
      have HF := Lib.hid (And.intro hq3 (And.intro hr3 hbe))
      clear hr3 hbe hq3 hr hnew
      go_wp2_with fail
      go_ret2
      exact ⟨_, _, rfl, HF.out.1, HF.out.2.1, HF.out.2.2⟩
    · obtain rfl : z = (t : Int) := by omega
      have htb : t < ma := by omega
      have htq : t / 32 < n1 := by omega
      have hvr := hv2.below hinv.2.2.2.2.2
      have sr := s2.below hinv.2.2.2.2.2
      have hur : Num wr (.slice A1 n1 c1) a K := ⟨_, _, _, xs, rfl, sr, HX.out, k1⟩
      have hml := Nat.mod_lt (a / 2 ^ (t + 1)) hb0
      have hr := hinv.2.2.2.2.1
      have l0 : a / 2 ^ (t + 1) % b < 4294967296 ^ L := Nat.lt_trans hml hlb
      have l1 : a / 2 ^ (t + 1) % b * 2 ^ 1 < 4294967296 ^ (L + 1) := lt_shl (j := 1) l0 (by omega)
      have hrn := hr.num L l0
      have hok := hinv.2.1
      have hlow := low_limb hok hinv.2.2.1
      have hblk := hinv.2.2.2.1
      have hlen := hinv.1
      have hwg : w1.heap.size + 1 ≤ wr.heap.size := hblk.lt
      have HI := Lib.hid hinv
      clear hr sr hz hml
      obtain ⟨R0, HR⟩ : ∃ R0, Hid (R0 = a / 2 ^ (t + 1) % b) := ⟨_, rfl⟩
      rw [← HR.out, show R0 * 2 ^ 1 = R0 * 2 by omega] at l1
      rw [← HR.out] at hrn
      have hrb := Nat.mod_lt (a / 2 ^ t) (show 0 < 2 by decide)
      by_cases hone : bitN a t = 1
      · by_cases hge : b ≤ R0 * 2 + 1
        · skip
          have hbv : (bitN a t == 1) = true := beq_iff_eq.2 hone
          have HRR : Hid (R0 * 2 + 1 = a / 2 ^ (t + 1) % b * 2 ^ 1 + bitN a t) := by rw [hone, HR.out]; exact rfl
          have hcb := cmpN_bd (R0 * 2 + 1) b
          have hcm : 0 ≤ cmpN (R0 * 2 + 1) b := by have := cmpN_neg_iff (R0 * 2 + 1) b; omega
          have hor := or_bit_down _ _ hlow (hok.getD _) (Nat.mod_lt t (by decide))
          have hL2 := low_limb_lt hlow (hok.getD _) (Nat.mod_lt t (by decide))
          clear hone 
          go_wp2_with fail
          refine (rshl_num (s := 1) hrn (by omega) (by omega)).mono ?_
          rintro e w3 ⟨v3, rfl, x3, b3⟩
          rw [show R0 * 2 ^ 1 = R0 * 2 by omega] at x3
          have hu3 := hur.below b3
          have hv3 := hvr.below b3
          have hB3 := hblk.below b3 hblk.lt
          have n3 := x3.num (L + 1) l1
          have hbw := b3
          have x5 := x3.from_ (base' := w1.heap.size + 1) hwg
          go_wp2_with fail
          refine (rbit_num hu3 (by omega) t (by omega)).mono ?_
          rintro e w' ⟨rfl, rfl⟩
          simp only [hbv]
          have hone3 : Num (w3.alloc (.cells #[Value.int .u32 1] 32)) (.slice (some ⟨w3.heap.size, 0, none⟩) 1 1) 1 1 := lit1_num w3 1 (by decide)
          have l4 : R0 * 2 + 1 < 4294967296 ^ (L + 2) := lt_up (lt_add l1 (show 1 < 4294967296 ^ (L + 1) from lt_up (K := 1) (by decide) (by omega))) (by omega)
          go_wp2_with fail
          refine (radd_num (n3.alloc _) hone3 (by omega) (by omega)).mono ?_
          rintro e w4 ⟨v4, rfl, x4, b4⟩
          have b34 : Below w3.heap.size w3 w4 := bnext ((Below.refl _ _).alloc (Nat.le_refl _) _) b4
          replace hbw := bnext hbw b34
          have hv4 := hv3.below b34
          replace hB3 := hB3.below b34 hB3.lt
          have n4 := x4.num (L + 2) l4
          replace x5 := x4.from_ (base' := w1.heap.size + 1) (Nat.le_trans hwg (Nat.le_trans b3.size (by simp)))
          go_wp2_with fail
          refine (rcmp_num n4 hv4 (by omega) (by omega)).mono ?_
          rintro e w5 ⟨rfl, b5⟩
          replace hbw := bnext hbw b5
          replace x5 := x5.below b5 (Nat.le_refl _)
          replace hB3 := hB3.below b5 hB3.lt
          have n5 := n4.below b5
          have v5 := hv4.below b5
          go_wp2_with fail
          refine (rsub_num n5 v5 (by omega) (by omega)).mono ?_
          rintro e w6 ⟨v6, rfl, x6, b6⟩
          have hs5 := hbw.size
          replace hbw := bnext hbw b6
          replace hB3 := hB3.below b6 hB3.lt
          have x7 := x6.from_ (base' := w1.heap.size + 1) (Nat.le_trans hblk.lt hs5)
          have HI2 := Lib.hid (RDiv.set HI.out hb0 HRR.out hge hbw x7 htq rfl)
          have hf := hB3.frozen (t / 32)
          have hcl := hB3.cell (t / 32) (by rw [hlen]; exact htq)
          have e1 : (t : Int) / 32 = ((t / 32 : Nat) : Int) := by omega
          have e2 : (t : Int) % 32 = ((t % 32 : Nat) : Int) := by omega
          have hr32 : t % 32 < 32 := by omega
          have hp0 : 0 < 2 ^ (t % 32) := Nat.pow_pos (by decide)
          have h31 : 2 ^ (t % 32) ≤ 2 ^ 31 := Nat.pow_le_pow_right (by decide) (by omega)
          clear hlow
          generalize t / 32 = x at *
          generalize t % 32 = rr at *
          have hxi : (x : Int) < (n1 : Int) := by omega
          have e3 : IntKind.u32.wrap (2 ^ rr) = ((2 ^ rr : Nat) : Int) := by
            rw [show (2 ^ rr : Int) = ((2 ^ rr : Nat) : Int) by rw [Int.natCast_pow]; rfl, IntKind.wrap_u32]; omega
          generalize hP : (2 : Nat) ^ rr = PP at *
          clear hP h31 hp0
          go_wp2_with fail
          go_roundw
          case rel => exact ⟨t, (t : Int) - 1, by omega, by go_num, by omega, _, HI2.out⟩
          case measure => simp [intOf]
        · skip
          have hbv : (bitN a t == 1) = true := beq_iff_eq.2 hone
          have HRR : Hid (R0 * 2 + 1 = a / 2 ^ (t + 1) % b * 2 ^ 1 + bitN a t) := by rw [hone, HR.out]; exact rfl
          have hcb := cmpN_bd (R0 * 2 + 1) b
          have hcm : cmpN (R0 * 2 + 1) b < 0 := (cmpN_neg_iff _ _).2 (by omega)
          clear hone 
          go_wp2_with fail
          refine (rshl_num (s := 1) hrn (by omega) (by omega)).mono ?_
          rintro e w3 ⟨v3, rfl, x3, b3⟩
          rw [show R0 * 2 ^ 1 = R0 * 2 by omega] at x3
          have hu3 := hur.below b3
          have hv3 := hvr.below b3
          have hB3 := hblk.below b3 hblk.lt
          have n3 := x3.num (L + 1) l1
          have hbw := b3
          have x5 := x3.from_ (base' := w1.heap.size + 1) hwg
          go_wp2_with fail
          refine (rbit_num hu3 (by omega) t (by omega)).mono ?_
          rintro e w' ⟨rfl, rfl⟩
          simp only [hbv]
          have hone3 : Num (w3.alloc (.cells #[Value.int .u32 1] 32)) (.slice (some ⟨w3.heap.size, 0, none⟩) 1 1) 1 1 := lit1_num w3 1 (by decide)
          have l4 : R0 * 2 + 1 < 4294967296 ^ (L + 2) := lt_up (lt_add l1 (show 1 < 4294967296 ^ (L + 1) from lt_up (K := 1) (by decide) (by omega))) (by omega)
          go_wp2_with fail
          refine (radd_num (n3.alloc _) hone3 (by omega) (by omega)).mono ?_
          rintro e w4 ⟨v4, rfl, x4, b4⟩
          have b34 : Below w3.heap.size w3 w4 := bnext ((Below.refl _ _).alloc (Nat.le_refl _) _) b4
          replace hbw := bnext hbw b34
          have hv4 := hv3.below b34
          replace hB3 := hB3.below b34 hB3.lt
          have n4 := x4.num (L + 2) l4
          replace x5 := x4.from_ (base' := w1.heap.size + 1) (Nat.le_trans hwg (Nat.le_trans b3.size (by simp)))
          go_wp2_with fail
          refine (rcmp_num n4 hv4 (by omega) (by omega)).mono ?_
          rintro e w5 ⟨rfl, b5⟩
          replace hbw := bnext hbw b5
          replace x5 := x5.below b5 (Nat.le_refl _)
          replace hB3 := hB3.below b5 hB3.lt
          have HI2 := Lib.hid (RDiv.skip HI.out hb0 HRR.out (by omega) hbw x5)
          go_wp2_with fail
          go_roundw
          case rel => exact ⟨t, (t : Int) - 1, by omega, by go_num, by omega, _, HI2.out⟩
          case measure => simp [intOf]
      · have h0 : bitN a t = 0 := by unfold bitN at hone ⊢; omega
        by_cases hge : b ≤ R0 * 2
        · skip
          have hbv : (bitN a t == 1) = false := beq_eq_false_iff_ne.2 hone
          have HRR : Hid (R0 * 2 = a / 2 ^ (t + 1) % b * 2 ^ 1 + bitN a t) := by rw [h0, HR.out]; exact rfl
          have hcb := cmpN_bd (R0 * 2) b
          have hcm : 0 ≤ cmpN (R0 * 2) b := by have := cmpN_neg_iff (R0 * 2) b; omega
          have hor := or_bit_down _ _ hlow (hok.getD _) (Nat.mod_lt t (by decide))
          have hL2 := low_limb_lt hlow (hok.getD _) (Nat.mod_lt t (by decide))
          clear hone h0
          go_wp2_with fail
          refine (rshl_num (s := 1) hrn (by omega) (by omega)).mono ?_
          rintro e w3 ⟨v3, rfl, x3, b3⟩
          rw [show R0 * 2 ^ 1 = R0 * 2 by omega] at x3
          have hu3 := hur.below b3
          have hv3 := hvr.below b3
          have hB3 := hblk.below b3 hblk.lt
          have n3 := x3.num (L + 1) l1
          have hbw := b3
          have x5 := x3.from_ (base' := w1.heap.size + 1) hwg
          go_wp2_with fail
          refine (rbit_num hu3 (by omega) t (by omega)).mono ?_
          rintro e w' ⟨rfl, rfl⟩
          simp only [hbv]
          go_wp2_with fail
          refine (rcmp_num n3 hv3 (by omega) (by omega)).mono ?_
          rintro e w5 ⟨rfl, b5⟩
          replace hbw := bnext hbw b5
          replace x5 := x5.below b5 (Nat.le_refl _)
          replace hB3 := hB3.below b5 hB3.lt
          have n5 := n3.below b5
          have v5 := hv3.below b5
          go_wp2_with fail
          refine (rsub_num n5 v5 (by omega) (by omega)).mono ?_
          rintro e w6 ⟨v6, rfl, x6, b6⟩
          have hs5 := hbw.size
          replace hbw := bnext hbw b6
          replace hB3 := hB3.below b6 hB3.lt
          have x7 := x6.from_ (base' := w1.heap.size + 1) (Nat.le_trans hblk.lt hs5)
          have HI2 := Lib.hid (RDiv.set HI.out hb0 HRR.out hge hbw x7 htq rfl)
          have hf := hB3.frozen (t / 32)
          have hcl := hB3.cell (t / 32) (by rw [hlen]; exact htq)
          have e1 : (t : Int) / 32 = ((t / 32 : Nat) : Int) := by omega
          have e2 : (t : Int) % 32 = ((t % 32 : Nat) : Int) := by omega
          have hr32 : t % 32 < 32 := by omega
          have hp0 : 0 < 2 ^ (t % 32) := Nat.pow_pos (by decide)
          have h31 : 2 ^ (t % 32) ≤ 2 ^ 31 := Nat.pow_le_pow_right (by decide) (by omega)
          clear hlow
          generalize t / 32 = x at *
          generalize t % 32 = rr at *
          have hxi : (x : Int) < (n1 : Int) := by omega
          have e3 : IntKind.u32.wrap (2 ^ rr) = ((2 ^ rr : Nat) : Int) := by
            rw [show (2 ^ rr : Int) = ((2 ^ rr : Nat) : Int) by rw [Int.natCast_pow]; rfl, IntKind.wrap_u32]; omega
          generalize hP : (2 : Nat) ^ rr = PP at *
          clear hP h31 hp0
          go_wp2_with fail
          go_roundw
          case rel => exact ⟨t, (t : Int) - 1, by omega, by go_num, by omega, _, HI2.out⟩
          case measure => simp [intOf]
        · skip
          have hbv : (bitN a t == 1) = false := beq_eq_false_iff_ne.2 hone
          have HRR : Hid (R0 * 2 = a / 2 ^ (t + 1) % b * 2 ^ 1 + bitN a t) := by rw [h0, HR.out]; exact rfl
          have hcb := cmpN_bd (R0 * 2) b
          have hcm : cmpN (R0 * 2) b < 0 := (cmpN_neg_iff _ _).2 (by omega)
          clear hone h0
          go_wp2_with fail
          refine (rshl_num (s := 1) hrn (by omega) (by omega)).mono ?_
          rintro e w3 ⟨v3, rfl, x3, b3⟩
          rw [show R0 * 2 ^ 1 = R0 * 2 by omega] at x3
          have hu3 := hur.below b3
          have hv3 := hvr.below b3
          have hB3 := hblk.below b3 hblk.lt
          have n3 := x3.num (L + 1) l1
          have hbw := b3
          have x5 := x3.from_ (base' := w1.heap.size + 1) hwg
          go_wp2_with fail
          refine (rbit_num hu3 (by omega) t (by omega)).mono ?_
          rintro e w' ⟨rfl, rfl⟩
          simp only [hbv]
          go_wp2_with fail
          refine (rcmp_num n3 hv3 (by omega) (by omega)).mono ?_
          rintro e w5 ⟨rfl, b5⟩
          replace hbw := bnext hbw b5
          replace x5 := x5.below b5 (Nat.le_refl _)
          replace hB3 := hB3.below b5 hB3.lt
          have HI2 := Lib.hid (RDiv.skip HI.out hb0 HRR.out (by omega) hbw x5)
          go_wp2_with fail
          go_roundw
          case rel => exact ⟨t, (t : Int) - 1, by omega, by go_num, by omega, _, HI2.out⟩
          case measure => simp [intOf]
end Go.Proofs.YtjildimhflondaaDoor
