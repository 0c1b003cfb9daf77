/-
  The document's own Div and DivSmall (pavaneref01): what they answer. nat.Div's two answers, told as by two calls one behind the other: they lie apart. Answers that lie apart: what a write to one leaves of the others. whole.Parse: its contracts; whole.Good of a number that is good. The document's own digit and Parse (pavaneref01): what they answer. Parse on both sides, of a text of any length.
-/
import Derived.Test.YtocnlapbkidinaaGreatDoorPn5
import Derived.Test.YtocnlapbkidinaaGreatDoorPn6
import Derived.Test.YtocnlapbkidinaaGreatDoorPn11
import Derived.WalkMore
import Derived.Deep.LoopGhost
import Derived.Outline
import Derived.Test.YtocnlapbkidinaaGreatDoorPn4
import Derived.Test.YtocnlapbkidinaaGreatDoorQWc
set_option linter.unusedVariables false
set_option linter.unusedSimpArgs false
set_option linter.unusedSectionVars false
set_option linter.unnecessarySimpa false
namespace Go.Proofs.YtocnlapbkidinaaGreatDoor
section
open Go.RowKit

theorem New.only {w w' : World} {g base : Nat} {v : Value} {xs : List Nat} (h : New w base v xs) (ho : Only g w w') (hg : g < base) : New w' base v xs := by
  obtain ⟨A, n, cap, rfl, hs, hc⟩ := h
  rcases hc with ⟨rfl, rfl⟩ | ⟨b, cur, rfl, hb, hh, hz⟩
  · exact ⟨none, n, 0, rfl, ⟨hs.len, hs.le, hs.max, hs.ok, fun hn => absurd hs.le (by omega), hs.nil_⟩, .inl ⟨rfl, rfl⟩⟩
  · refine ⟨_, n, cap, rfl, ⟨hs.len, hs.le, hs.max, hs.ok, fun hn => ?_, hs.nil_⟩, .inr ⟨b, cur, rfl, hb, (ho.block b (by omega)).trans hh, hz⟩⟩
    obtain ⟨b', off, e, hb', hcell⟩ := hs.here hn
    have e1 : b = b' := congrArg Addr.block (Option.some.inj e)
    exact ⟨b', off, e, by rw [ho.size]; exact hb', fun i hi => (World.cell?_of_block (w := w) (a := ⟨b', off + i, none⟩) (ho.block b' (by omega))).trans (hcell i hi)⟩

theorem half_bit (a t : Nat) : a / 2 ^ t = 2 * (a / 2 ^ (t + 1)) + bitN a t := by
  unfold bitN
  rw [Nat.pow_succ, ← Nat.div_div_eq_div_mul]
  omega
theorem rdiv_split (X b B r : Nat) (hB : B ≤ 1) (hb : 0 < b) (hr : r = X % b * 2 ^ 1 + B) : (2 * X + B) / b = r / b + 2 * (X / b) ∧ (2 * X + B) % b = r % b ∧ r < 2 * b := by
  have h1 := Nat.div_add_mod X b
  have h2 := Nat.mod_lt X hb
  have e : 2 * X + B = r + b * (2 * (X / b)) := by
    rw [Nat.mul_left_comm]
    omega
  exact ⟨by rw [e, Nat.add_mul_div_left _ _ hb], by rw [e, Nat.add_mul_mod_self_left], by omega⟩
theorem rdiv_ge (X b B r : Nat) (hB : B ≤ 1) (hb : 0 < b) (hr : r = X % b * 2 ^ 1 + B) (h : b ≤ r) : (2 * X + B) / b = 2 * (X / b) + 1 ∧ (2 * X + B) % b = r - b := by
  obtain ⟨h1, h2, h3⟩ := rdiv_split X b B r hB hb hr
  rw [h1, h2]
  refine ⟨?_, ?_⟩
  · rw [Nat.div_eq_of_lt_le (k := 1) (by omega) (by omega), Nat.add_comm]
  · rw [Nat.mod_eq_sub_mod h, Nat.mod_eq_of_lt (by omega)]
theorem rdiv_lt (X b B r : Nat) (hB : B ≤ 1) (hb : 0 < b) (hr : r = X % b * 2 ^ 1 + B) (h : r < b) : (2 * X + B) / b = 2 * (X / b) ∧ (2 * X + B) % b = r := by
  obtain ⟨h1, h2, h3⟩ := rdiv_split X b B r hB hb hr
  rw [h1, h2, Nat.div_eq_of_lt h, Nat.mod_eq_of_lt h, Nat.zero_add]
  exact ⟨rfl, rfl⟩

/-- The limb in which the next bit below is set. -/
theorem low_limb {Q : List Nat} (ok : Ok Q) {Y t : Nat} (hv : val Q = Y * 2 ^ (t + 1)) : lim Q (t / 32) % 2 ^ (t % 32 + 1) = 0 := by
  have e : 2 ^ (t + 1) = 4294967296 ^ (t / 32) * 2 ^ (t % 32 + 1) := by rw [Nat.pow_succ, two_pow_split t, Nat.mul_assoc, ← Nat.pow_succ]
  have h1 : val (Q.drop (t / 32)) = Y * 2 ^ (t % 32 + 1) := by
    rw [← val_div_pow ok, hv, e, Nat.mul_left_comm, Nat.mul_div_cancel_left _ (pow_pos' _)]
  rw [drop_two] at h1
  obtain ⟨d, hd⟩ : ∃ d, 2 ^ (t % 32 + 1) * d = 4294967296 := ⟨2 ^ (31 - t % 32), by rw [← Nat.pow_add, show t % 32 + 1 + (31 - t % 32) = 32 by omega]⟩
  have h2 : (lim Q (t / 32) + 4294967296 * (lim Q (t / 32 + 1) + 4294967296 * val (Q.drop (t / 32 + 2)))) % 2 ^ (t % 32 + 1) = lim Q (t / 32) % 2 ^ (t % 32 + 1) := by
    rw [← hd, Nat.mul_assoc, Nat.add_mul_mod_self_left]
  rw [← h2, h1, Nat.mul_mod_left]
theorem low_limb_lt {L r : Nat} (h : L % 2 ^ (r + 1) = 0) (hL : L < 4294967296) (hr : r < 32) : L + 2 ^ r < 4294967296 := by
  obtain ⟨d, hd⟩ : ∃ d, 2 ^ (r + 1) * d = 4294967296 := ⟨2 ^ (31 - r), by rw [← Nat.pow_add, show r + 1 + (31 - r) = 32 by omega]⟩
  have h1 := Nat.div_add_mod L (2 ^ (r + 1))
  rw [h, Nat.add_zero] at h1
  have h2 : L / 2 ^ (r + 1) < d := by
    refine Nat.lt_of_mul_lt_mul_left (a := 2 ^ (r + 1)) ?_
    omega
  have h3 : 2 ^ (r + 1) * (L / 2 ^ (r + 1) + 1) ≤ 2 ^ (r + 1) * d := Nat.mul_le_mul_left _ h2
  rw [Nat.mul_add, Nat.mul_one] at h3
  have h4 : 2 ^ (r + 1) = 2 * 2 ^ r := by rw [Nat.pow_succ, Nat.mul_comm]
  have h5 : 0 < 2 ^ r := Nat.pow_pos (by decide)
  omega

/-- What holds at the head of Div's round: the quotient's upper bits, and what is left of the number's upper bits. -/
def RDiv (w : World) (a b N j : Nat) (Q : List Nat) (v : Value) (wr : World) : Prop :=
  Q.length = N ∧ Ok Q ∧ val Q = a / 2 ^ j / b * 2 ^ j ∧ Blk wr w.heap.size Q ∧ New wr (w.heap.size + 1) v (limbs (a / 2 ^ j % b)) ∧ Below w.heap.size w wr
theorem RDiv.skip {w : World} {a b N t R : Nat} {Q : List Nat} {v v' : Value} {wr w' : World} (h : RDiv w a b N (t + 1) Q v wr) (hb : 0 < b) (hR : R = a / 2 ^ (t + 1) % b * 2 ^ 1 + bitN a t) (hlt : R < b) (hw : Below wr.heap.size wr w') (hv : New w' (w.heap.size + 1) v' (limbs R)) : RDiv w a b N t Q v' w' := by
  obtain ⟨h1, h2, h3, h4, h5, h6⟩ := h
  have hbit : bitN a t ≤ 1 := by unfold bitN; omega
  obtain ⟨e1, e2⟩ := rdiv_lt _ b _ R hbit hb hR hlt
  rw [← half_bit] at e1 e2
  refine ⟨h1, h2, ?_, h4.below hw h4.lt, by rw [e2]; exact hv, bnext h6 hw⟩
  rw [h3, e1]
  generalize a / 2 ^ (t + 1) / b = Y
  rw [Nat.pow_succ, Nat.mul_comm (2 ^ t) 2, ← Nat.mul_assoc, Nat.mul_comm Y 2]
theorem RDiv.set {w : World} {a b N t R : Nat} {Q : List Nat} {v v' : Value} {wr w' : World} (h : RDiv w a b N (t + 1) Q v wr) (hb : 0 < b) (hR : R = a / 2 ^ (t + 1) % b * 2 ^ 1 + bitN a t) (hge : b ≤ R) (hw : Below wr.heap.size wr w') (hv : New w' (w.heap.size + 1) v' (limbs (R - b))) (hN : t / 32 < N) {z : Int} (hz : z = ((lim Q (t / 32) + 2 ^ (t % 32) : Nat) : Int)) :
    RDiv w a b N t (Q.set (t / 32) (lim Q (t / 32) + 2 ^ (t % 32))) v' (w'.setCell ⟨w.heap.size, t / 32, none⟩ (.int .u32 z)) := by
  subst hz
  obtain ⟨h1, h2, h3, h4, h5, h6⟩ := h
  have hbit : bitN a t ≤ 1 := by unfold bitN; omega
  obtain ⟨e1, e2⟩ := rdiv_ge _ b _ R hbit hb hR hge
  rw [← half_bit] at e1 e2
  have hlt := low_limb_lt (low_limb h2 h3) (h2.getD _) (Nat.mod_lt t (by decide))
  refine ⟨by rw [List.length_set]; exact h1, h2.set _ _ hlt, ?_, (h4.below hw h4.lt).set_ _ _, ?_, (bnext h6 hw).setCell (Nat.le_refl _) _⟩
  · have hs := val_set Q (t / 32) (lim Q (t / 32) + 2 ^ (t % 32)) (by rw [h1]; exact hN)
    rw [Nat.mul_add, ← two_pow_split] at hs
    rw [e1]
    generalize a / 2 ^ (t + 1) / b = Y at h3
    have e3 : (2 * Y + 1) * 2 ^ t = Y * 2 ^ (t + 1) + 2 ^ t := by rw [Nat.add_mul, Nat.one_mul, Nat.pow_succ, Nat.mul_comm (2 ^ t) 2, ← Nat.mul_assoc, Nat.mul_comm Y 2]
    omega
  · rw [e2]; exact hv.only (Only.setCell _ _ _ _) (by omega)

theorem lit1_num (w : World) (x : Nat) (hx : x < 4294967296) : Num (w.alloc (.cells #[Value.int .u32 (x : Int)] 78)) (.slice (some ⟨w.heap.size, 0, none⟩) 1 1) x 1 := by
  have := (Blk.lit1 w x).slAll (Ok.cons hx Ok.nil) (by unfold maxLen; simp)
  have h := Num.of_sl this (Nat.le_refl _)
  have e : val [x] = x := by simp [val]
  rwa [e] at h

set_option maxHeartbeats 3200000 in
theorem rdiv_pos {w : World} {u v : Value} {a b K L : Nat} (hu : Num w u a K) (hv : Num w v b L) (hK : K ≤ 100000) (hL : L ≤ 100000) (hb0 : 0 < b) : Calls Tryz.prog 106 #[u, v] w (Gives2 w (a / b) (a % b)) := by
  have hbb := bl_bd hv.lt
  have hbp := bl_pos b (by omega)
  have hlb := hv.lt
  have HBB := Lib.hid (rbits_num hv (by omega))
  have HBA := Lib.hid (fun W (hW : Num W u a K) => rbits_num hW (by omega))
  obtain ⟨A1, n1, c1, xs, rfl, s1, hx, k1⟩ := hu
  have hla : a < 4294967296 ^ n1 := by rw [← hx, s1.len]; exact val_lt s1.ok
  have hba := bl_bd hla
  have ha0 := bl_lt a
  have HX := Lib.hid hx
  have hmk := fun W => make32 (n1 : Int) n1 rfl (by omega) W
  have HZ : Hid (a / 2 ^ bl a = 0) := Nat.div_eq_of_lt ha0
  generalize bl b = mb at *
  generalize bl a = ma at *
  have hm0 : ((mb : Int) == 0) = false := beq_eq_false_iff_ne.2 (by omega)
  clear hla ha0 hx
  go_enter Tryz.func106, Tryz.ntmps106
  go_wp2_with fail
  refine HBB.out.mono ?_
  rintro e w1 ⟨rfl, hb1⟩
  have s2 := s1.below hb1
  have hv2 := hv.below hb1
  go_wp2_with fail
  have hr0 := own_lit0 (w1.alloc (.cells (madeCells #[Value.int .u32 0] n1) 78)) (w1.heap.size + 1) (by simp)
  have hq0 := (Blk.made w1 n1).alloc (.cells #[] 78)
  have hb2 : Below w1.heap.size w1 ((w1.alloc (.cells (madeCells #[Value.int .u32 0] n1) 78)).alloc (.cells #[] 78)) := bnew (bnew (Below.refl _ _) _) _
  have hua : Num _ (.slice A1 n1 c1) a K := ⟨_, _, _, xs, rfl, s2.below hb2, HX.out, k1⟩
  refine (HBA.out _ hua).mono ?_
  rintro e w2 ⟨rfl, hb3⟩
  have HR0 := Lib.hid (hr0.new.below hb3 (Nat.le_refl _))
  have HQ0 := Lib.hid (hq0.below hb3 hq0.lt)
  have hb12 := bnext hb2 hb3
  clear hr0 hq0 hb2 hb3 hua hmk
  go_wp2_with fail
  go_loopw [7, 8] (fun r i wr => ∃ (j : Nat) (z : Int), j ≤ ma ∧ i = .int .i64 z ∧ z + 1 = (j : Int) ∧ ∃ Q, RDiv w1 a b n1 j Q r wr) (fun _ i _ => (intOf i + 1).toNat)
  case atStart =>
    refine ⟨ma, (ma : Int) - 1, Nat.le_refl _, by go_num, by omega, List.replicate n1 0, by simp, Ok.replicate _, ?_, HQ0.out, ?_, hb12⟩
    · rw [HZ.out]; simp [val_replicate]
    · rw [HZ.out, Nat.zero_mod, limbs_zero]; simpa using HR0.out
  case round =>
    obtain ⟨j, z, hj, rfl, hz, Q, hinv⟩ := hrel
    rcases j with _ | t
    · obtain rfl : z = -1 := by omega
      obtain ⟨hl, ok, hv', hB, hr, hbel⟩ := hinv
      rw [Nat.pow_zero, Nat.div_one] at hr
      rw [Nat.pow_zero, Nat.div_one, Nat.mul_one] at hv'
      have hsl := hB.slAll ok (by rw [hl]; unfold maxLen; omega)
      rw [hl] at hsl
      have hn := Num.of_sl hsl (Nat.le_refl _)
      rw [hv'] at hn
      clear hl hv'
      go_wp2_with fail
      refine (rnorm_num hn (by omega)).mono ?_
      rintro e w3 ⟨v', rfl, hnew, hb3⟩
      have hr3 := (hr.below hb3 (Nat.le_refl _)).from_ (base' := w.heap.size) (by have := hb1.size; omega)
      have hbe := bnext (bnext hb1 hbel) hb3
      have hq3 := hnew.from_ (base' := w.heap.size) (Nat.le_trans hb1.size hbel.size)
      have HF := Lib.hid (And.intro hq3 (And.intro hr3 hbe))
      clear hr3 hbe hq3 hr hnew
      go_wp2_with fail
      go_ret2
      exact ⟨_, _, rfl, HF.out.1, HF.out.2.1, HF.out.2.2⟩
    · obtain rfl : z = (t : Int) := by omega
      have htb : t < ma := by omega
      have htq : t / 32 < n1 := by omega
      have hvr := hv2.below hinv.2.2.2.2.2
      have sr := s2.below hinv.2.2.2.2.2
      have hur : Num wr (.slice A1 n1 c1) a K := ⟨_, _, _, xs, rfl, sr, HX.out, k1⟩
      have hml := Nat.mod_lt (a / 2 ^ (t + 1)) hb0
      have hr := hinv.2.2.2.2.1
      have l0 : a / 2 ^ (t + 1) % b < 4294967296 ^ L := Nat.lt_trans hml hlb
      have l1 : a / 2 ^ (t + 1) % b * 2 ^ 1 < 4294967296 ^ (L + 1) := lt_shl (j := 1) l0 (by omega)
      have hrn := hr.num L l0
      have hok := hinv.2.1
      have hlow := low_limb hok hinv.2.2.1
      have hblk := hinv.2.2.2.1
      have hlen := hinv.1
      have hwg : w1.heap.size + 1 ≤ wr.heap.size := hblk.lt
      have HI := Lib.hid hinv
      clear hr sr hz hml
      obtain ⟨R0, HR⟩ : ∃ R0, Hid (R0 = a / 2 ^ (t + 1) % b) := ⟨_, rfl⟩
      rw [← HR.out, show R0 * 2 ^ 1 = R0 * 2 by omega] at l1
      rw [← HR.out] at hrn
      have hrb := Nat.mod_lt (a / 2 ^ t) (show 0 < 2 by decide)
      by_cases hone : bitN a t = 1
      · by_cases hge : b ≤ R0 * 2 + 1
        · skip
          have hbv : (bitN a t == 1) = true := beq_iff_eq.2 hone
          have HRR : Hid (R0 * 2 + 1 = a / 2 ^ (t + 1) % b * 2 ^ 1 + bitN a t) := by rw [hone, HR.out]; exact rfl
          have hcb := cmpN_bd (R0 * 2 + 1) b
          have hcm : 0 ≤ cmpN (R0 * 2 + 1) b := by have := cmpN_neg_iff (R0 * 2 + 1) b; omega
          have hor := or_bit_down _ _ hlow (hok.getD _) (Nat.mod_lt t (by decide))
          have hL2 := low_limb_lt hlow (hok.getD _) (Nat.mod_lt t (by decide))
          clear hone 
          go_wp2_with fail
          refine (rshl_num (s := 1) hrn (by omega) (by omega)).mono ?_
          rintro e w3 ⟨v3, rfl, x3, b3⟩
          rw [show R0 * 2 ^ 1 = R0 * 2 by omega] at x3
          have hu3 := hur.below b3
          have hv3 := hvr.below b3
          have hB3 := hblk.below b3 hblk.lt
          have n3 := x3.num (L + 1) l1
          have hbw := b3
          have x5 := x3.from_ (base' := w1.heap.size + 1) hwg
          go_wp2_with fail
          refine (rbit_num hu3 (by omega) t (by omega)).mono ?_
          rintro e w' ⟨rfl, rfl⟩
          simp only [hbv]
          have hone3 : Num (w3.alloc (.cells #[Value.int .u32 1] 78)) (.slice (some ⟨w3.heap.size, 0, none⟩) 1 1) 1 1 := lit1_num w3 1 (by decide)
          have l4 : R0 * 2 + 1 < 4294967296 ^ (L + 2) := lt_up (lt_add l1 (show 1 < 4294967296 ^ (L + 1) from lt_up (K := 1) (by decide) (by omega))) (by omega)
          go_wp2_with fail
          refine (radd_num (n3.alloc _) hone3 (by omega) (by omega)).mono ?_
          rintro e w4 ⟨v4, rfl, x4, b4⟩
          have b34 : Below w3.heap.size w3 w4 := bnext ((Below.refl _ _).alloc (Nat.le_refl _) _) b4
          replace hbw := bnext hbw b34
          have hv4 := hv3.below b34
          replace hB3 := hB3.below b34 hB3.lt
          have n4 := x4.num (L + 2) l4
          replace x5 := x4.from_ (base' := w1.heap.size + 1) (Nat.le_trans hwg (Nat.le_trans b3.size (by simp)))
          go_wp2_with fail
          refine (rcmp_num n4 hv4 (by omega) (by omega)).mono ?_
          rintro e w5 ⟨rfl, b5⟩
          replace hbw := bnext hbw b5
          replace x5 := x5.below b5 (Nat.le_refl _)
          replace hB3 := hB3.below b5 hB3.lt
          have n5 := n4.below b5
          have v5 := hv4.below b5
          go_wp2_with fail
          refine (rsub_num n5 v5 (by omega) (by omega)).mono ?_
          rintro e w6 ⟨v6, rfl, x6, b6⟩
          have hs5 := hbw.size
          replace hbw := bnext hbw b6
          replace hB3 := hB3.below b6 hB3.lt
          have x7 := x6.from_ (base' := w1.heap.size + 1) (Nat.le_trans hblk.lt hs5)
          have HI2 := Lib.hid (RDiv.set HI.out hb0 HRR.out hge hbw x7 htq rfl)
          have hf := hB3.frozen (t / 32)
          have hcl := hB3.cell (t / 32) (by rw [hlen]; exact htq)
          have e1 : (t : Int) / 32 = ((t / 32 : Nat) : Int) := by omega
          have e2 : (t : Int) % 32 = ((t % 32 : Nat) : Int) := by omega
          have hr32 : t % 32 < 32 := by omega
          have hp0 : 0 < 2 ^ (t % 32) := Nat.pow_pos (by decide)
          have h31 : 2 ^ (t % 32) ≤ 2 ^ 31 := Nat.pow_le_pow_right (by decide) (by omega)
          clear hlow
          generalize t / 32 = x at *
          generalize t % 32 = rr at *
          have hxi : (x : Int) < (n1 : Int) := by omega
          have e3 : IntKind.u32.wrap (2 ^ rr) = ((2 ^ rr : Nat) : Int) := by
            rw [show (2 ^ rr : Int) = ((2 ^ rr : Nat) : Int) by rw [Int.natCast_pow]; rfl, IntKind.wrap_u32]; omega
          generalize hP : (2 : Nat) ^ rr = PP at *
          clear hP h31 hp0
          go_wp2_with fail
          go_roundw
          case rel => exact ⟨t, (t : Int) - 1, by omega, by go_num, by omega, _, HI2.out⟩
          case measure => simp [intOf]
        · skip
          have hbv : (bitN a t == 1) = true := beq_iff_eq.2 hone
          have HRR : Hid (R0 * 2 + 1 = a / 2 ^ (t + 1) % b * 2 ^ 1 + bitN a t) := by rw [hone, HR.out]; exact rfl
          have hcb := cmpN_bd (R0 * 2 + 1) b
          have hcm : cmpN (R0 * 2 + 1) b < 0 := (cmpN_neg_iff _ _).2 (by omega)
          clear hone 
          go_wp2_with fail
          refine (rshl_num (s := 1) hrn (by omega) (by omega)).mono ?_
          rintro e w3 ⟨v3, rfl, x3, b3⟩
          rw [show R0 * 2 ^ 1 = R0 * 2 by omega] at x3
          have hu3 := hur.below b3
          have hv3 := hvr.below b3
          have hB3 := hblk.below b3 hblk.lt
          have n3 := x3.num (L + 1) l1
          have hbw := b3
          have x5 := x3.from_ (base' := w1.heap.size + 1) hwg
          go_wp2_with fail
          refine (rbit_num hu3 (by omega) t (by omega)).mono ?_
          rintro e w' ⟨rfl, rfl⟩
          simp only [hbv]
          have hone3 : Num (w3.alloc (.cells #[Value.int .u32 1] 78)) (.slice (some ⟨w3.heap.size, 0, none⟩) 1 1) 1 1 := lit1_num w3 1 (by decide)
          have l4 : R0 * 2 + 1 < 4294967296 ^ (L + 2) := lt_up (lt_add l1 (show 1 < 4294967296 ^ (L + 1) from lt_up (K := 1) (by decide) (by omega))) (by omega)
          go_wp2_with fail
          refine (radd_num (n3.alloc _) hone3 (by omega) (by omega)).mono ?_
          rintro e w4 ⟨v4, rfl, x4, b4⟩
          have b34 : Below w3.heap.size w3 w4 := bnext ((Below.refl _ _).alloc (Nat.le_refl _) _) b4
          replace hbw := bnext hbw b34
          have hv4 := hv3.below b34
          replace hB3 := hB3.below b34 hB3.lt
          have n4 := x4.num (L + 2) l4
          replace x5 := x4.from_ (base' := w1.heap.size + 1) (Nat.le_trans hwg (Nat.le_trans b3.size (by simp)))
          go_wp2_with fail
          refine (rcmp_num n4 hv4 (by omega) (by omega)).mono ?_
          rintro e w5 ⟨rfl, b5⟩
          replace hbw := bnext hbw b5
          replace x5 := x5.below b5 (Nat.le_refl _)
          replace hB3 := hB3.below b5 hB3.lt
          have HI2 := Lib.hid (RDiv.skip HI.out hb0 HRR.out (by omega) hbw x5)
          go_wp2_with fail
          go_roundw
          case rel => exact ⟨t, (t : Int) - 1, by omega, by go_num, by omega, _, HI2.out⟩
          case measure => simp [intOf]
      · have h0 : bitN a t = 0 := by unfold bitN at hone ⊢; omega
        by_cases hge : b ≤ R0 * 2
        · skip
          have hbv : (bitN a t == 1) = false := beq_eq_false_iff_ne.2 hone
          have HRR : Hid (R0 * 2 = a / 2 ^ (t + 1) % b * 2 ^ 1 + bitN a t) := by rw [h0, HR.out]; exact rfl
          have hcb := cmpN_bd (R0 * 2) b
          have hcm : 0 ≤ cmpN (R0 * 2) b := by have := cmpN_neg_iff (R0 * 2) b; omega
          have hor := or_bit_down _ _ hlow (hok.getD _) (Nat.mod_lt t (by decide))
          have hL2 := low_limb_lt hlow (hok.getD _) (Nat.mod_lt t (by decide))
          clear hone h0
          go_wp2_with fail
          refine (rshl_num (s := 1) hrn (by omega) (by omega)).mono ?_
          rintro e w3 ⟨v3, rfl, x3, b3⟩
          rw [show R0 * 2 ^ 1 = R0 * 2 by omega] at x3
          have hu3 := hur.below b3
          have hv3 := hvr.below b3
          have hB3 := hblk.below b3 hblk.lt
          have n3 := x3.num (L + 1) l1
          have hbw := b3
          have x5 := x3.from_ (base' := w1.heap.size + 1) hwg
          go_wp2_with fail
          refine (rbit_num hu3 (by omega) t (by omega)).mono ?_
          rintro e w' ⟨rfl, rfl⟩
          simp only [hbv]
          go_wp2_with fail
          refine (rcmp_num n3 hv3 (by omega) (by omega)).mono ?_
          rintro e w5 ⟨rfl, b5⟩
          replace hbw := bnext hbw b5
          replace x5 := x5.below b5 (Nat.le_refl _)
          replace hB3 := hB3.below b5 hB3.lt
          have n5 := n3.below b5
          have v5 := hv3.below b5
          go_wp2_with fail
          refine (rsub_num n5 v5 (by omega) (by omega)).mono ?_
          rintro e w6 ⟨v6, rfl, x6, b6⟩
          have hs5 := hbw.size
          replace hbw := bnext hbw b6
          replace hB3 := hB3.below b6 hB3.lt
          have x7 := x6.from_ (base' := w1.heap.size + 1) (Nat.le_trans hblk.lt hs5)
          have HI2 := Lib.hid (RDiv.set HI.out hb0 HRR.out hge hbw x7 htq rfl)
          have hf := hB3.frozen (t / 32)
          have hcl := hB3.cell (t / 32) (by rw [hlen]; exact htq)
          have e1 : (t : Int) / 32 = ((t / 32 : Nat) : Int) := by omega
          have e2 : (t : Int) % 32 = ((t % 32 : Nat) : Int) := by omega
          have hr32 : t % 32 < 32 := by omega
          have hp0 : 0 < 2 ^ (t % 32) := Nat.pow_pos (by decide)
          have h31 : 2 ^ (t % 32) ≤ 2 ^ 31 := Nat.pow_le_pow_right (by decide) (by omega)
          clear hlow
          generalize t / 32 = x at *
          generalize t % 32 = rr at *
          have hxi : (x : Int) < (n1 : Int) := by omega
          have e3 : IntKind.u32.wrap (2 ^ rr) = ((2 ^ rr : Nat) : Int) := by
            rw [show (2 ^ rr : Int) = ((2 ^ rr : Nat) : Int) by rw [Int.natCast_pow]; rfl, IntKind.wrap_u32]; omega
          generalize hP : (2 : Nat) ^ rr = PP at *
          clear hP h31 hp0
          go_wp2_with fail
          go_roundw
          case rel => exact ⟨t, (t : Int) - 1, by omega, by go_num, by omega, _, HI2.out⟩
          case measure => simp [intOf]
        · skip
          have hbv : (bitN a t == 1) = false := beq_eq_false_iff_ne.2 hone
          have HRR : Hid (R0 * 2 = a / 2 ^ (t + 1) % b * 2 ^ 1 + bitN a t) := by rw [h0, HR.out]; exact rfl
          have hcb := cmpN_bd (R0 * 2) b
          have hcm : cmpN (R0 * 2) b < 0 := (cmpN_neg_iff _ _).2 (by omega)
          clear hone h0
          go_wp2_with fail
          refine (rshl_num (s := 1) hrn (by omega) (by omega)).mono ?_
          rintro e w3 ⟨v3, rfl, x3, b3⟩
          rw [show R0 * 2 ^ 1 = R0 * 2 by omega] at x3
          have hu3 := hur.below b3
          have hv3 := hvr.below b3
          have hB3 := hblk.below b3 hblk.lt
          have n3 := x3.num (L + 1) l1
          have hbw := b3
          have x5 := x3.from_ (base' := w1.heap.size + 1) hwg
          go_wp2_with fail
          refine (rbit_num hu3 (by omega) t (by omega)).mono ?_
          rintro e w' ⟨rfl, rfl⟩
          simp only [hbv]
          go_wp2_with fail
          refine (rcmp_num n3 hv3 (by omega) (by omega)).mono ?_
          rintro e w5 ⟨rfl, b5⟩
          replace hbw := bnext hbw b5
          replace x5 := x5.below b5 (Nat.le_refl _)
          replace hB3 := hB3.below b5 hB3.lt
          have HI2 := Lib.hid (RDiv.skip HI.out hb0 HRR.out (by omega) hbw x5)
          go_wp2_with fail
          go_roundw
          case rel => exact ⟨t, (t : Int) - 1, by omega, by go_num, by omega, _, HI2.out⟩
          case measure => simp [intOf]
end
end Go.Proofs.YtocnlapbkidinaaGreatDoor
namespace Go.Proofs.YtocnlapbkidinaaGreatDoor
section
open Go.RowKit

def Gives2A (w : World) (m n : Nat) (e : Ending) (w' : World) : Prop := ∃ u v wm, e = .returned (.tuple #[u, v]) ∧ New wm w.heap.size u (limbs m) ∧ Below w.heap.size w wm ∧ New w' wm.heap.size v (limbs n) ∧ Below wm.heap.size wm w'

set_option maxHeartbeats 800000 in
theorem div_zero_a (A1 : Option Addr) (n1 c1 : Nat) (xs : List Nat) (A2 : Option Addr) (n2 c2 : Nat) (ys : List Nat) (w : World) (h1 : Sl w A1 n1 c1 xs) (h2 : Sl w A2 n2 c2 ys) (hz : val ys = 0) :
    Calls Tryz.prog 114 #[.slice A1 n1 c1, .slice A2 n2 c2] w (Gives2A w 0 0) := by
  have e2 : Hid (0 = (limbs (val ys)).length) := by rw [hz]; exact rfl
  clear hz
  go_enter Tryz.func114, Tryz.ntmps114
  go_wp2_with fail
  refine (trim_any _ _ _ _ _ h1).mono ?_
  rintro e w' ⟨rfl, rfl⟩
  go_wp2_with fail
  refine (trim_at _ _ _ _ _ h2 0 e2).mono ?_
  rintro e w' ⟨rfl, rfl⟩
  go_wp2_with fail
  go_ret2
  exact ⟨_, _, w, rfl, New.nil _ _, Below.refl _ _, New.nil _ _, Below.refl _ _⟩

set_option maxHeartbeats 800000 in
theorem div_one_a (A1 : Option Addr) (n1 c1 : Nat) (xs : List Nat) (A2 : Option Addr) (n2 c2 : Nat) (ys : List Nat) (w : World) (h1 : Sl w A1 n1 c1 xs) (h2 : Sl w A2 n2 c2 ys) (b1 : n1 ≤ 1000000000) (hone : (limbs (val ys)).length = 1) :
    Calls Tryz.prog 114 #[.slice A1 n1 c1, .slice A2 n2 c2] w (Gives2A w (val xs / val ys) (val xs % val ys)) := by
  have t1 := h1.trim
  have t2 := h2.trim
  have k1 := limbs_len_val h1.ok
  have k3 := h1.len
  have hvx := Lib.hid (limbs_val (val xs))
  have hd : val ys = lim (limbs (val ys)) 0 := by rw [← val_one _ hone, limbs_val]
  have hd2 := (limbs_ok (val ys)).getD 0
  rw [← hd] at hd2
  have hd0 : 0 < val ys := by
    rcases Nat.eq_zero_or_pos (val ys) with h | h
    · rw [h] at hone; simp [limbs_zero] at hone
    · exact h
  rw [hone] at t2
  obtain ⟨b, off, rfl, hb, hc⟩ := t2.here (by omega)
  have hc0 := hc 0 (by omega)
  rw [← hd, Nat.add_zero] at hc0
  clear hc
  obtain ⟨m1, M1⟩ : ∃ m, Hid (m = (limbs (val xs)).length) := ⟨_, rfl⟩
  rw [← M1.out] at t1 k1
  have bm1 : m1 ≤ 1000000000 := by omega
  have e2 := Lib.hid hone.symm
  have hrd : val xs % val ys < val ys := Nat.mod_lt _ hd0
  clear k1 k3 hone hd
  obtain ⟨D, HD⟩ : ∃ D, Hid (D = val ys) := ⟨_, rfl⟩
  rw [← HD.out] at hc0 hd2 hd0 hrd ⊢
  obtain ⟨R, HR⟩ : ∃ R, Hid (R = val xs % D) := ⟨_, rfl⟩
  rw [← HR.out] at hrd
  go_enter Tryz.func114, Tryz.ntmps114
  go_wp2_with fail
  refine (trim_at _ _ _ _ _ h1 m1 M1).mono ?_
  rintro e w' ⟨rfl, rfl⟩
  go_wp2_with fail
  refine (trim_at _ _ _ _ _ h2 1 e2).mono ?_
  rintro e w' ⟨rfl, rfl⟩
  go_wp2_with fail
  refine (divSmall_any _ _ _ _ D _ t1 hd0 hd2 bm1).mono ?_
  rintro e w1 ⟨v, rfl, hnew, hbel⟩
  rw [hvx.out, ← HR.out]
  rw [hvx.out] at hnew
  have HNW := Lib.hid hnew
  clear hnew
  have hB := Blk.lit1 w1 R
  have oR : Ok [R] := Ok.cons (by omega) Ok.nil
  have hsl := hB.slAll oR (by unfold maxLen; simp)
  have hn2 := Lib.hid (hB.new (base := w1.heap.size) oR (by unfold maxLen; simp) (Nat.le_refl _))
  go_wp2_with fail
  refine (trim_any _ _ _ _ _ hsl).mono ?_
  rintro e w' ⟨rfl, rfl⟩
  go_wp2_with fail
  go_ret2
  have hR : val [R] = R := by rw [val_cons, val_nil, Nat.mul_zero, Nat.add_zero]
  have hnn := hn2.out
  rw [hR] at hnn ⊢
  exact ⟨_, _, w1, rfl, HNW.out, hbel, by rw [← HR.out]; exact hnn, (Below.refl _ _).alloc (Nat.le_refl _) _⟩
set_option maxHeartbeats 800000 in
theorem div_less_a (A1 : Option Addr) (n1 c1 : Nat) (xs : List Nat) (A2 : Option Addr) (n2 c2 : Nat) (ys : List Nat) (w : World) (h1 : Sl w A1 n1 c1 xs) (h2 : Sl w A2 n2 c2 ys) (b1 : n1 ≤ 1000000000) (hlt : (limbs (val xs)).length < (limbs (val ys)).length) (hone : 1 < (limbs (val ys)).length) :
    Calls Tryz.prog 114 #[.slice A1 n1 c1, .slice A2 n2 c2] w (Gives2A w 0 (val xs)) := by
  have t1 := h1.trim
  have k1 := limbs_len_val h1.ok
  have k3 := h1.len
  have t2 := h2.trim
  have k4 := t2.le
  have k5 := t2.max
  unfold maxLen at k5
  have hvx := Lib.hid (limbs_val (val xs))
  obtain ⟨m1, M1⟩ : ∃ m, Hid (m = (limbs (val xs)).length) := ⟨_, rfl⟩
  obtain ⟨m2, M2⟩ : ∃ m, Hid (m = (limbs (val ys)).length) := ⟨_, rfl⟩
  rw [← M1.out] at t1 k1 hlt
  rw [← M2.out] at hlt hone k4
  have bm1 : m1 ≤ 1000000000 := by omega
  have e0 : ((m2 : Int) == 0) = false := by simp; omega
  have e1 : ((m2 : Int) == 1) = false := by simp; omega
  clear t2 k1 k3
  go_enter Tryz.func114, Tryz.ntmps114
  go_wp2_with fail
  refine (trim_at _ _ _ _ _ h1 m1 M1).mono ?_
  rintro e w' ⟨rfl, rfl⟩
  go_wp2_with fail
  refine (trim_at _ _ _ _ _ h2 m2 M2).mono ?_
  rintro e w' ⟨rfl, rfl⟩
  go_wp2_with fail
  refine (norm_any _ _ _ _ _ t1 (by omega)).mono ?_
  rintro e w1 ⟨v, rfl, hnew, hbel⟩
  rw [hvx.out] at hnew
  go_wp2_with fail
  go_ret2
  exact ⟨_, _, w, rfl, New.nil _ _, Below.refl _ _, hnew, hbel⟩
set_option maxHeartbeats 6400000 in
theorem divLong_a (A1 : Option Addr) (n c1 : Nat) (xs : List Nat) (A2 : Option Addr) (m c2 : Nat) (ys : List Nat) (w : World) (h1 : Sl w A1 n c1 xs) (h2 : Sl w A2 (m + 1) c2 ys) (hy : (limbs (val ys)).length = m + 1) (hmn : m + 1 ≤ n) (hn : n ≤ 100000000) :
    Calls Tryz.prog 131 #[.slice A1 n c1, .slice A2 (m + 1) c2] w (Gives2A w (val xs / val ys) (val xs % val ys)) := by
  obtain ⟨up, hup, hbl, hD1, hD2, hDl, hDtop⟩ := up_facts (val ys) m hy
  have hupi : ((m : Int) + 1) * 32 - (bl (val ys) : Int) = (up : Int) := by omega
  obtain ⟨D, HD⟩ : ∃ D, Hid (D = val ys * 2 ^ up) := ⟨_, rfl⟩
  rw [← HD.out] at hD1 hD2 hDl hDtop
  have hblb : bl (val ys) ≤ 100000000000 := by omega
  obtain ⟨R0, HR0⟩ : ∃ R0, Hid (R0 = val xs * 2 ^ up) := ⟨_, rfl⟩
  have hR0lt : R0 < 4294967296 ^ (n + 1) := by
    rw [HR0.out]
    have h3 := val_lt h1.ok
    rw [← h1.len] at h3
    rw [Nat.pow_succ]
    have h4 : 2 ^ up ≤ 2 ^ 31 := Nat.pow_le_pow_right (by decide) hup
    exact Nat.mul_lt_mul'' h3 (by omega)
  have hlR0 := limbs_len_le hR0lt
  have hR0D : R0 < D * 4294967296 ^ (n - (m + 1) + 1) := by
    have h3 := val_lt h1.ok
    rw [← h1.len] at h3
    have h4 : 2 ^ up ≤ 2 ^ 31 := Nat.pow_le_pow_right (by decide) hup
    have h5 : R0 < 4294967296 ^ n * 2147483648 := by
      rw [HR0.out]
      exact Nat.lt_of_lt_of_le (Nat.mul_lt_mul_of_pos_right h3 (Nat.pow_pos (by decide))) (Nat.mul_le_mul_left _ (by omega))
    have h6 : 4294967296 ^ (m + 1) * 4294967296 ^ (n - (m + 1) + 1) ≤ 2 * D * 4294967296 ^ (n - (m + 1) + 1) := Nat.mul_le_mul_right _ hD2
    rw [← Nat.pow_add, show m + 1 + (n - (m + 1) + 1) = n + 1 by omega, Nat.pow_succ, Nat.mul_assoc 2] at h6
    omega
  obtain ⟨p, hp⟩ : ∃ p, p + (m + 1) = n := ⟨n - (m + 1), by omega⟩
  rw [show n - (m + 1) + 1 = p + 1 by omega] at hR0D
  have hpi : (n : Int) - ((m : Int) + 1) + 1 = ((p + 1 : Nat) : Int) := by omega
  have hmkR := fun W => make32 ((n : Int) + 1) (n + 1) (by omega) (by omega) W
  have hmkQ := fun W => make32 ((n : Int) - ((m : Int) + 1) + 1) (p + 1) hpi (by omega) W
  have hmkL := fun W => make32 ((m : Int) + 1 + 1) (m + 2) (by omega) (by omega) W
  have HH := Lib.hid (And.intro hy (And.intro hbl hDl))
  have HP := Lib.hid hp
  have hpb : p ≤ 100000000 := by omega
  clear hy hbl hDl hpi hp
  go_enter Tryz.func131, Tryz.ntmps131
  go_wp2_with fail
  go_step3
  go_wp2_with fail
  refine (bits_any _ _ _ _ _ h2 (by omega)).mono ?_
  rintro e w' ⟨rfl, rfl⟩
  go_wp2_with fail
  refine (shift_up_any _ _ _ _ up _ h2 (by omega) (by omega)).mono ?_
  rintro e w1 ⟨vb, rfl, hnb, hb1⟩
  rw [← HD.out] at hnb
  obtain ⟨Ab, mb, cb, rfl, hsb, hAb⟩ := hnb
  obtain rfl : mb = m + 1 := hsb.len.trans HH.out.2.2
  have hAb' : ∀ b off, Ab = some ⟨b, off, none⟩ → b < w1.heap.size := by
    intro b off e
    obtain ⟨b', off', e', hb', _⟩ := hsb.here (by omega)
    rw [e] at e'
    simp only [Option.some.injEq, Addr.mk.injEq] at e'
    omega
  have HAB := Lib.hid hAb'
  clear hAb hAb'
  have s1 := (h1.below hb1).alloc (.cells (madeCells #[Value.int .u32 0] (n + 1)) 78)
  go_wp2_with fail
  refine (shift_up_any _ _ _ _ up _ s1 (by omega) (by omega)).mono ?_
  rintro e w2 ⟨va, rfl, hna, hb2⟩
  rw [← HR0.out] at hna
  obtain ⟨Aa, ca, rfl, hsa⟩ := hna.sl
  have hBR : Blk w2 w1.heap.size (List.replicate (n + 1) 0) := (Blk.made w1 (n + 1)).below hb2 (by simp)
  have HBR := Lib.hid hBR
  clear hna hBR
  obtain ⟨la, HLA⟩ : ∃ l, Hid (l = (limbs R0).length) := ⟨_, rfl⟩
  rw [← HLA.out] at hsa hlR0 ⊢
  go_wp2_with (with_reducible refine wpList_copy_limbs rfl (.tmp 27) (.tmp 30) rfl Tryz.underlying25 (by kernel_rfl) _ _ _ _ _ _ rfl rfl w1.heap.size 0 (List.replicate (n + 1) 0) _ HBR.out hsa (fun _ => rfl) hlR0 (by simp) ?_; intro w3 hB3 ho3)
  have hsz : w1.heap.size < w3.heap.size := by have := hb2.size; have := ho3.size; simp at *; omega
  have hsz0 := hb1.size
  have hbel3 : Below w.heap.size w w3 := (bnext (bnew hb1 _) hb2).trans (ho3.below hb1.size)
  have hsb3 : Sl w3 Ab (m + 1) cb (limbs D) := ((hsb.alloc _).below hb2).only ho3 fun b off e => by have := HAB.out b off e; omega
  have hstart : Long w w1.heap.size w3.heap.size (w3.heap.size + 1) (n + 1) (p + 1) (m + 1) Ab cb D R0 (p + 1) (splice (List.replicate (n + 1) 0) 0 (limbs R0)) (List.replicate (p + 1) 0) (List.replicate (m + 2) 0)
      ((w3.alloc (.cells (madeCells #[Value.int .u32 0] (p + 1)) 78)).alloc (.cells (madeCells #[Value.int .u32 0] (m + 2)) 78)) := by
    have hlen : (splice (List.replicate (n + 1) 0) 0 (limbs R0)).length = n + 1 := by rw [length_splice _ _ _ (by have := HLA.out; simp; omega)]; simp
    have hv : val (splice (List.replicate (n + 1) 0) 0 (limbs R0)) = R0 := by
      have e := splice_val (R := List.replicate (n + 1) 0) (L := limbs R0) (s := 0) HLA.out.symm (by simp; omega)
      rw [val_replicate, limbs_val, List.drop_zero, Nat.pow_zero, Nat.one_mul, Nat.one_mul, Nat.zero_add, List.take_replicate, val_replicate, Nat.add_zero] at e
      exact e
    refine ⟨hlen, splice_ok (Ok.replicate _) (limbs_ok _) 0, by simp, Ok.replicate _, ?_, by simp, Ok.replicate _, ?_, ?_, (hB3.alloc _).alloc _, (Blk.made w3 (p + 1)).alloc _, ?_, (hsb3.alloc _).alloc _, bnew (bnew hbel3 _) _⟩
    · intro i _
      rw [lim_eq, List.getElem?_replicate]; split <;> rfl
    · rw [val_replicate, Nat.mul_zero, Nat.zero_add, hv]
    · rw [hv]; exact hR0D
    · have := Blk.made (w3.alloc (.cells (madeCells #[Value.int .u32 0] (p + 1)) 78)) (m + 2)
      simpa using this
  have HST := Lib.hid hstart
  clear hstart hB3 hsb3 hmkR hmkQ hmkL hupi
  go_step3
  go_wp2_with fail
  go_loopg [11] (p + 1) (fun t i wr => ∃ R Q L, i = .int .i64 ((t : Int) - 1) ∧ t ≤ p + 1 ∧ Long w w1.heap.size w3.heap.size (w3.heap.size + 1) (n + 1) (p + 1) (m + 1) Ab cb D R0 t R Q L wr)
  case atStart => exact ⟨_, _, _, (by first | go_num | exact congrArg (Value.int .i64) (by have := HP.out; omega)), Nat.le_refl _, HST.out⟩
  case round =>
    obtain ⟨R, Q, L, rfl, ht, hlong⟩ := hrel
    obtain ⟨wo, rfl⟩ : ∃ wo : World, wo = wr := ⟨_, rfl⟩
    rcases gk with _ | t
    · have hnum := hlong.num
      have hlt := hlong.lt
      rw [Nat.pow_zero, Nat.mul_one, HD.out] at hlt
      rw [HR0.out, HD.out] at hnum
      obtain ⟨eq1, eq2⟩ := div_final hnum hlt (Nat.pow_pos (by decide))
      have hslQ := hlong.blkQ.slAll hlong.okQ (by rw [hlong.lenQ]; unfold maxLen; omega)
      have hnewQ := hlong.blkQ.new (base := w.heap.size) hlong.okQ (by rw [hlong.lenQ]; unfold maxLen; omega) (by omega)
      rw [hlong.lenQ] at hslQ hnewQ
      have hslR := hlong.blkR.slAll hlong.okR (by rw [hlong.lenR]; unfold maxLen; omega)
      rw [hlong.lenR] at hslR
      have hbel := hlong.bel
      have HE := Lib.hid (And.intro eq1 eq2)
      have HNQ := Lib.hid hnewQ
      clear hnum hlt eq1 eq2 hnewQ hlong
      by_cases hu0 : up = 0
      · subst hu0
        go_wp2_with fail
        refine (trim_any _ _ _ _ _ hslQ).mono ?_
        rintro e w' ⟨rfl, rfl⟩
        go_wp2_with fail
        refine (shift_up_any _ _ _ _ 0 _ hslR (by omega) (by omega)).mono ?_
        rintro e w6 ⟨v6, rfl, hn6, hb6⟩
        go_wp2_with fail
        try rw [Exit.noGoto_ret]
        go_ret2
        rw [Nat.pow_zero, Nat.mul_one] at hn6
        have e2 := HE.out.2
        rw [Nat.pow_zero, Nat.div_one] at e2
        rw [e2] at hn6
        have e1 := HE.out.1
        refine ⟨_, _, wo, rfl, ?_, hbel, hn6, hb6⟩
        rw [← e1]
        exact HNQ.out
      · have hu1 : 0 < up := by omega
        go_wp2_with fail
        refine (trim_any _ _ _ _ _ hslQ).mono ?_
        rintro e w' ⟨rfl, rfl⟩
        go_wp2_with fail
        refine (shift_down_any _ _ _ _ up _ hslR (by omega) hu1 (by omega)).mono ?_
        rintro e w6 ⟨v6, rfl, hn6, hb6⟩
        go_wp2_with fail
        try rw [Exit.noGoto_ret]
        go_ret2
        rw [HE.out.2] at hn6
        have e1 := HE.out.1
        refine ⟨_, _, wo, rfl, ?_, hbel, hn6, hb6⟩
        rw [← e1]
        exact HNQ.out
    · rw [show (((t + 1 : Nat) : Int) - 1) = (t : Int) by omega]
      have hN := hlong.lenR
      have hmax : R.length ≤ maxLen := by rw [hN]; unfold maxLen; omega
      have hwin := hlong.blkR.window hlong.okR hmax t (m + 1 + 1) (by have := HP.out; omega)
      rw [hN] at hwin
      clear hN hmax
      have i1 : (t : Int) + ((m : Int) + 2) ≤ (n : Int) + 1 := by have := HP.out; omega
      have i2 : t < n + 1 := by have := HP.out; omega
      have hDB : D * 4294967296 ≤ 4294967296 ^ (m + 1 + 1) := by rw [Nat.pow_succ]; exact Nat.mul_le_mul_right _ (Nat.le_of_lt hD1)
      have hD0 : 0 < D := by have := pow_pos' (m + 1); omega
      obtain ⟨_, hPlt⟩ := window_val hlong.okR (s := t) (k := m + 1 + 1) (D := D * 4294967296) (by have := hlong.lenR; have := HP.out; omega) (by rw [Nat.mul_assoc, Nat.mul_comm 4294967296, ← Nat.pow_succ]; exact hlong.lt) hDB
      have hqB : val ((R.drop t).take (m + 1 + 1)) / D ≤ 4294967295 := by
        have : val ((R.drop t).take (m + 1 + 1)) / D < 4294967296 := by rw [Nat.div_lt_iff_lt_mul hD0, Nat.mul_comm]; exact hPlt
        omega
      have hgq := guess_ge (ps := (R.drop t).take (m + 1 + 1)) (ds := limbs D) (m := m + 1) hwin.ok hwin.len.symm HH.out.2.2 (by omega) hDtop (q := val ((R.drop t).take (m + 1 + 1)) / D) (by rw [limbs_val]; exact Nat.div_mul_le_self _ _) hqB
      have hgB : Guess ((R.drop t).take (m + 1 + 1)) (limbs D) (m + 1) ≤ 4294967295 := Nat.min_le_right _ _
      go_wp2_with fail
      refine (guess_any _ _ _ _ (m + 1) _ _ _ hwin hlong.by_ (by omega) hDtop (by omega)).mono ?_
      rintro e w' ⟨rfl, nq, rfl⟩
      simp only [show t + (m + 2) - t = m + 2 by omega]
      generalize Guess ((R.drop t).take (m + 1 + 1)) (limbs D) (m + 1) = G at hgq hgB ⊢
      have hlong2 := long_drewN hlong nq
      obtain ⟨P, HPv⟩ : ∃ P, Hid (P = val ((R.drop t).take (m + 1 + 1))) := ⟨_, rfl⟩
      rw [← HPv.out] at hgq hPlt
      have HLG := Lib.hid hlong2
      clear hlong hlong2 hwin hqB
      go_wp2_with fail
      go_loopg [13] G (fun g i ws => ∃ L, i = .int .u64 g ∧ P / D ≤ g ∧ g ≤ 4294967295 ∧ Long w w1.heap.size w3.heap.size (w3.heap.size + 1) (n + 1) (p + 1) (m + 1) Ab cb D R0 (t + 1) R Q L ws)
      case atStart => exact ⟨_, rfl, hgq, hgB, HLG.out⟩
      case round =>
        obtain ⟨L2, rfl, hg1, hg2, hl2⟩ := hrel
        rcases gk with _ | g
        · have hP0 : P < D := by
            have := Nat.lt_mul_div_succ P hD0
            rw [Nat.le_zero.1 hg1, Nat.zero_add, Nat.mul_one] at this
            exact this
          have hmiss := long_miss hl2 (by have := HP.out; omega) hDB (by rw [← HPv.out]; exact hP0)
          have HM := Lib.hid hmiss
          clear hmiss hl2
          go_wp2_with fail
          go_roundg t
          case measure => omega
          case rel => exact ⟨_, _, _, by go_num, by omega, HM.out⟩
        · have hN := hl2.lenR
          have hwin := hl2.blkR.window hl2.okR (by rw [hN]; unfold maxLen; omega) t (m + 1 + 1) (by have := HP.out; omega)
          rw [hN] at hwin
          have hLl := hl2.lenL
          have d1 : ∀ b off, (some ⟨w1.heap.size, t, none⟩ : Option Addr) = some ⟨b, off, none⟩ → b ≠ w3.heap.size + 1 := by
            intro b off e
            simp only [Option.some.injEq, Addr.mk.injEq] at e
            omega
          have d2 : ∀ b off, Ab = some ⟨b, off, none⟩ → b ≠ w3.heap.size + 1 := fun b off e => by have := HAB.out b off e; omega
          have hAb3 : ∀ b off, Ab = some ⟨b, off, none⟩ → b ≠ w1.heap.size ∧ b ≠ w3.heap.size ∧ b ≠ w3.heap.size + 1 := fun b off e => by have := HAB.out b off e; omega
          have htake := takeAway_any (w3.heap.size + 1) (m + 2) (m + 1 + 1) _ (n + 1 - t) _ Ab (m + 1) cb (limbs D) L2 (g + 1) wr hl2.blkL hLl hl2.okL hwin hl2.by_ (by omega) (by omega) d1 d2 (by omega)
          rw [limbs_val, ← HPv.out] at htake
          have HTK := Lib.hid htake
          have HAB3 := Lib.hid hAb3
          have HL2 := Lib.hid hl2
          clear htake d1 d2 hAb3 hN hLl hwin hl2
          go_wp2_with fail
          refine HTK.out.mono ?_
          rintro e w4 ⟨rfl, ⟨L3, hL3, oL3, bL3, hv3⟩, o4⟩
          clear HTK
          by_cases hle : (g + 1) * D ≤ P
          · have hdec : decide ((g + 1) * D ≤ P) = true := decide_eq_true hle
            rw [hdec]
            have hsl3 := bL3.slAll oL3 (by rw [hL3]; unfold maxLen; omega)
            rw [hL3] at hsl3
            have bR4 := HL2.out.blkR.only o4 (by omega)
            have bQ4 := HL2.out.blkQ.only o4 (by omega)
            have HV := Lib.hid (hv3 hle)
            have HB4 := Lib.hid (And.intro bR4 bQ4)
            have HLE := Lib.hid (And.intro hle hL3)
            have hRl := Lib.hid HL2.out.lenR
            clear hv3 bR4 bQ4 hdec hle hL3
            go_wp2_with (with_reducible refine wpList_copy_limbs rfl (.tmp 69) (.tmp 70) rfl Tryz.underlying25 (by kernel_rfl) _ _ _ _ _ _ rfl rfl w1.heap.size t R _ HB4.out.1 hsl3 (fun _ => rfl) (Nat.le_refl _) (by rw [hRl.out]; have := HP.out; omega) ?_; intro w5 hB5 ho5; have hf5 := (HB4.out.2.only ho5 (by omega)).frozen t; have hc5 := (HB4.out.2.only ho5 (by omega)).cell t (by rw [HL2.out.lenQ]; omega))
            have hhit := long_hit (z := (g : Int) + 1) HL2.out (by have := HP.out; omega) (by omega) hDB (by rw [← HPv.out]; exact HLE.out.1) (by omega) (by rw [← HPv.out]; exact hg1) hD0 HLE.out.2 oL3 (by rw [← HPv.out]; exact HV.out) bL3 o4 hB5 ho5 (by omega) (by omega) (by omega) HAB3.out ⟨by omega, by omega, by omega⟩ (by omega)
            go_roundg t
            case measure => omega
            case rel => exact ⟨_, _, _, by go_num, by omega, hhit⟩
          · have hdec : decide ((g + 1) * D ≤ P) = false := decide_eq_false hle
            rw [hdec]
            have hgt : P / D ≤ g := by
              have h9 : P < (g + 1) * D := by omega
              have : P / D < g + 1 := by rw [Nat.div_lt_iff_lt_mul hD0]; exact h9
              omega
            have hleft := long_left HL2.out hL3 oL3 bL3 o4 (by omega) (by omega) HAB3.out (by omega)
            have HLF := Lib.hid hleft
            clear hleft hv3 hL3 hdec hle
            go_wp2_with fail
            go_roundg g
            case measure => omega
            case rel => exact ⟨_, by go_num, hgt, by omega, HLF.out⟩
set_option maxHeartbeats 800000 in
theorem div_long_a (A1 : Option Addr) (n1 c1 : Nat) (xs : List Nat) (A2 : Option Addr) (n2 c2 : Nat) (ys : List Nat) (w : World) (h1 : Sl w A1 n1 c1 xs) (h2 : Sl w A2 n2 c2 ys) (b1 : n1 ≤ 100000000) (hle : (limbs (val ys)).length ≤ (limbs (val xs)).length) (hone : 1 < (limbs (val ys)).length) :
    Calls Tryz.prog 114 #[.slice A1 n1 c1, .slice A2 n2 c2] w (Gives2A w (val xs / val ys) (val xs % val ys)) := by
  have t1 := h1.trim
  have t2 := h2.trim
  have k1 := limbs_len_val h1.ok
  have k3 := h1.len
  have hvx := limbs_val (val xs)
  have hvy := limbs_val (val ys)
  obtain ⟨m1, M1⟩ : ∃ m, Hid (m = (limbs (val xs)).length) := ⟨_, rfl⟩
  obtain ⟨m, hm⟩ : ∃ m, (limbs (val ys)).length = m + 1 := ⟨(limbs (val ys)).length - 1, by omega⟩
  have M2 : Hid (m + 1 = (limbs (val ys)).length) := hm.symm
  rw [← M1.out] at t1 k1 hle
  rw [hm] at t2 hle hone
  have bm1 : m1 ≤ 100000000 := by omega
  have e0 : (((m : Int) + 1) == 0) = false := beq_eq_false_iff_ne.2 (by omega)
  have e1 : (((m : Int) + 1) == 1) = false := beq_eq_false_iff_ne.2 (by omega)
  have hdiv := divLong_a A1 m1 c1 _ A2 m c2 _ w t1 t2 (by rw [hvy, hm]) hle bm1
  rw [hvx, hvy] at hdiv
  have HDV := Lib.hid hdiv
  clear k1 k3 hvx hvy hm hdiv
  go_enter Tryz.func114, Tryz.ntmps114
  go_wp2_with fail
  refine (trim_at _ _ _ _ _ h1 m1 M1).mono ?_
  rintro e w' ⟨rfl, rfl⟩
  go_wp2_with fail
  refine (trim_at _ _ _ _ _ h2 (m + 1) M2).mono ?_
  rintro e w' ⟨rfl, rfl⟩
  go_wp2_with fail
  refine HDV.out.mono ?_
  rintro e w1 ⟨u, v, wm, rfl, hu, hb, hv, hb2⟩
  go_wp2_with fail
  go_ret2
  exact ⟨u, v, wm, rfl, hu, hb, hv, hb2⟩

theorem div_numA {w : World} {u v : Value} {a b K L : Nat} (hu : Num w u a K) (hv : Num w v b L) (hK : K ≤ 100000000) : Calls Tryz.prog 114 #[u, v] w (Gives2A w (a / b) (remZ a b)) := by
  obtain ⟨A1, n1, c1, xs, rfl, s1, rfl, k1⟩ := hu
  obtain ⟨A2, n2, c2, ys, rfl, s2, rfl, k2⟩ := hv
  unfold remZ
  by_cases h0 : val ys = 0
  · rw [if_pos h0, h0, Nat.div_zero]
    exact div_zero_a _ _ _ _ _ _ _ _ _ s1 s2 h0
  · rw [if_neg h0]
    have hl0 : (limbs (val ys)).length ≠ 0 := by
      intro h
      exact h0 ((limbs_nil_iff _).1 (List.eq_nil_of_length_eq_zero h))
    by_cases h1 : (limbs (val ys)).length = 1
    · exact div_one_a _ _ _ _ _ _ _ _ _ s1 s2 (by omega) h1
    · by_cases h2 : (limbs (val xs)).length < (limbs (val ys)).length
      · have hlt := lt_of_len h2
        rw [Nat.div_eq_of_lt hlt, Nat.mod_eq_of_lt hlt]
        exact div_less_a _ _ _ _ _ _ _ _ _ s1 s2 (by omega) h2 (by omega)
      · exact div_long_a _ _ _ _ _ _ _ _ _ s1 s2 (by omega) (by omega) (by omega)
end
end Go.Proofs.YtocnlapbkidinaaGreatDoor
namespace Go.Proofs.YtocnlapbkidinaaGreatDoor
section
open Go.RowKit

theorem limbs_top (n m : Nat) (h : (limbs n).length = m + 1) : lim (limbs n) m ≠ 0 := by
  have ht := limbs_trim n
  have e : limbs n = (limbs n).take m ++ [lim (limbs n) m] := by
    rw [← take_snoc _ _ (by omega), ← h, List.take_length]
  intro h0
  rw [h0] at e
  rw [e, trimL_snoc_zero] at ht
  have := trimL_len ((limbs n).take m)
  rw [ht] at this
  simp [h] at this
  omega
theorem New.apart {w w' : World} {g base : Nat} {v : Value} {xs : List Nat} (h : New w base v xs) (ho : Only g w w') (hg : v.ownBlock ≠ some g) : New w' base v xs := by
  obtain ⟨A, n, cap, rfl, hs, hc⟩ := h
  rcases hc with ⟨rfl, rfl⟩ | ⟨b, cur, rfl, hb, hh, hz⟩
  · exact ⟨none, n, 0, rfl, ⟨hs.len, hs.le, hs.max, hs.ok, fun hn => absurd hs.le (by omega), hs.nil_⟩, .inl ⟨rfl, rfl⟩⟩
  · have hbg : b ≠ g := fun e => hg (by rw [e]; rfl)
    refine ⟨_, n, cap, rfl, ⟨hs.len, hs.le, hs.max, hs.ok, fun hn => ?_, hs.nil_⟩, .inr ⟨b, cur, rfl, hb, (ho.block b hbg).trans hh, hz⟩⟩
    obtain ⟨b', off, e, hb', hcell⟩ := hs.here hn
    have e1 : b = b' := congrArg Addr.block (Option.some.inj e)
    exact ⟨b', off, e, by rw [ho.size]; exact hb', fun i hi => (World.cell?_of_block (w := w) (a := ⟨b', off + i, none⟩) (ho.block b' (by omega))).trans (hcell i hi)⟩
/-- An answer's block lies from lo on, below hi. -/
def Tier (lo hi : Nat) (v : Value) : Prop := ∀ g, v.ownBlock = some g → lo ≤ g ∧ g < hi
theorem New.tier {w : World} {base : Nat} {v : Value} {xs : List Nat} (h : New w base v xs) : Tier base w.heap.size v := by
  obtain ⟨A, n, cap, rfl, hs, hc⟩ := h
  intro g hg
  rcases hc with ⟨rfl, rfl⟩ | ⟨b, cur, rfl, hb, hh, hz⟩
  · cases hg
  · have e : b = g := Option.some.inj hg
    subst e
    refine ⟨hb, ?_⟩
    rcases Nat.lt_or_ge b w.heap.size with hlt | hge
    · exact hlt
    · rw [Array.getElem?_eq_none hge] at hh; cases hh
/-- A block of which the first n cells hold limbs. -/
def NRow (w : World) (g n : Nat) : Prop := ∃ cur : Array Value, w.heap[g]? = some (.cells cur 78 (0, 0)) ∧ ∀ i, i < n → ∃ x : Nat, x < 4294967296 ∧ cur[i]? = some (.int .u32 (x : Int))
theorem NRow.frozen {w : World} {g n : Nat} (h : NRow w g n) (i : Nat) : w.frozen? ⟨g, i, none⟩ = false := by
  obtain ⟨cur, hh, _⟩ := h
  simp [World.frozen?, hh]
theorem NRow.cell {w : World} {g n : Nat} (h : NRow w g n) (i : Nat) (hi : i < n) : ∃ x : Nat, x < 4294967296 ∧ w.cell? ⟨g, i, none⟩ = some (.int .u32 (x : Int)) := by
  obtain ⟨cur, hh, hc⟩ := h
  obtain ⟨x, hx, e⟩ := hc i hi
  exact ⟨x, hx, by rw [cell_of_row w g i _ _ (0, 0) hh, e]⟩
theorem NRow.set_ {w : World} {g n : Nat} (h : NRow w g n) (i z : Nat) (hz : z < 4294967296) {zi : Int} (e : zi = (z : Int)) : NRow (w.setCell ⟨g, i, none⟩ (.int .u32 zi)) g n := by
  subst e
  obtain ⟨cur, hh, hc⟩ := h
  refine ⟨cur.setIfInBounds i (.int .u32 (z : Int)), ?_, fun j hj => ?_⟩
  · simp [World.setCell, Array.getElem?_modify, hh]
  · obtain ⟨x, hx, ex⟩ := hc j hj
    by_cases hij : i = j
    · subst hij
      refine ⟨z, hz, ?_⟩
      have : i < cur.size := by
        rcases Nat.lt_or_ge i cur.size with h | h
        · exact h
        · rw [Array.getElem?_eq_none h] at ex; cases ex
      simp [this]
    · exact ⟨x, hx, by rw [Array.getElem?_setIfInBounds_ne hij]; exact ex⟩
theorem new_row {w : World} {base g n c : Nat} {xs : List Nat} (h : New w base (.slice (some ⟨g, 0, none⟩) n c) xs) : NRow w g n := by
  obtain ⟨A, n', cap, e, hs, hc⟩ := h
  simp only [Value.slice.injEq] at e
  obtain ⟨rfl, rfl, rfl⟩ := e
  rcases hc with ⟨h0, _⟩ | ⟨b, cur, e, hb, hh, hz⟩
  · cases h0
  · simp only [Option.some.injEq, Addr.mk.injEq] at e
    obtain ⟨rfl, _⟩ := e
    refine ⟨cur, hh, fun i hi => ⟨lim xs i, hs.ok.getD i, ?_⟩⟩
    obtain ⟨b', off, e, hb', hcell⟩ := hs.here (by omega)
    simp only [Option.some.injEq, Addr.mk.injEq] at e
    obtain ⟨rfl, rfl, _⟩ := e
    have := hcell i hi
    rw [Nat.zero_add, cell_of_row w g i _ _ (0, 0) hh] at this
    exact this
theorem shr0_num {w : World} {u : Value} {a K s : Nat} (hu : Num w u a K) (hK : K ≤ 1000000000) (hs : s ≤ 4096) : Calls Tryz.prog 138 #[u, .int .i64 (-(s : Int))] w (Gives w (a / 2 ^ s)) := by
  rcases Nat.eq_zero_or_pos s with h | h
  · subst h
    have := shl0_num hu hK
    rwa [Nat.pow_zero, Nat.div_one]
  · exact shr_num hu hK h hs
theorem below_append {w w1 : World} {o : Obj} {n c : Nat} (h : (w.alloc o).grownBy w1 (Value.slice (some ⟨w.heap.size, 0, none⟩) n c).ownBlock) : Below w.heap.size w w1 :=
  ((Below.refl _ _).alloc (Nat.le_refl _) _).grown h (by simp) (fun j hj => by have e : w.heap.size = j := Option.some.inj hj; omega)
theorem Own.sl {w : World} {base : Nat} {v : Value} {xs : List Nat} (h : Own w base v xs) : ∃ A c, v = .slice A xs.length c ∧ Sl w A xs.length c xs := by
  obtain ⟨A, n, c, e, hs, _⟩ := h.new
  have := hs.len
  subst this
  exact ⟨A, c, e, hs⟩
def pickV (v0 v1 v2 v3 v4 v5 v6 v7 : Value) : Nat → Value
  | 0 => v0
  | 1 => v1
  | 2 => v2
  | 3 => v3
  | 4 => v4
  | 5 => v5
  | 6 => v6
  | _ => v7
def pickN (s0 s1 s2 s3 s4 s5 s6 s7 s8 : Nat) : Nat → Nat
  | 0 => s0
  | 1 => s1
  | 2 => s2
  | 3 => s3
  | 4 => s4
  | 5 => s5
  | 6 => s6
  | 7 => s7
  | _ => s8
theorem mono_le (T : Nat → Nat) (hT : ∀ r, T r ≤ T (r + 1)) {r s : Nat} (h : r ≤ s) : T r ≤ T s := by
  induction h with
  | refl => exact Nat.le_refl _
  | step _ ih => exact Nat.le_trans ih (hT _)
theorem tier_unique (T : Nat → Nat) (hT : ∀ r, T r ≤ T (r + 1)) {g r s : Nat} (h1 : T r ≤ g ∧ g < T (r + 1)) (h2 : T s ≤ g ∧ g < T (s + 1)) : r = s := by
  rcases Nat.lt_trichotomy r s with h | h | h
  · have := mono_le T hT (show r + 1 ≤ s from h); omega
  · exact h
  · have := mono_le T hT (show s + 1 ≤ r from h); omega
def rankV (i : Nat) : Nat := if i < 4 then i + 2 else if i < 6 then i - 4 else i
theorem own_apart (v0 v1 v2 v3 v4 v5 v6 v7 : Value) (s0 s1 s2 s3 s4 s5 s6 s7 s8 : Nat) (hT : ∀ r, pickN s0 s1 s2 s3 s4 s5 s6 s7 s8 r ≤ pickN s0 s1 s2 s3 s4 s5 s6 s7 s8 (r + 1))
    (h : ∀ i, i < 8 → Tier (pickN s0 s1 s2 s3 s4 s5 s6 s7 s8 (rankV i)) (pickN s0 s1 s2 s3 s4 s5 s6 s7 s8 (rankV i + 1)) (pickV v0 v1 v2 v3 v4 v5 v6 v7 i)) :
    ∀ i k, i < 8 → k < 8 → i ≠ k → ∀ g, (pickV v0 v1 v2 v3 v4 v5 v6 v7 i).ownBlock = some g → (pickV v0 v1 v2 v3 v4 v5 v6 v7 k).ownBlock ≠ some g := by
  intro i k hi hk hne g h1 h2
  have := tier_unique _ hT (h i hi g h1) (h k hk g h2)
  unfold rankV at this
  apply hne
  split at this <;> split at this <;> (try split at this) <;> (try split at this) <;> omega
theorem all8 {P : Nat → Prop} (h0 : P 0) (h1 : P 1) (h2 : P 2) (h3 : P 3) (h4 : P 4) (h5 : P 5) (h6 : P 6) (h7 : P 7) : ∀ i, i < 8 → P i := by
  intro i hi
  rcases (show i = 0 ∨ i = 1 ∨ i = 2 ∨ i = 3 ∨ i = 4 ∨ i = 5 ∨ i = 6 ∨ i = 7 by omega) with rfl | rfl | rfl | rfl | rfl | rfl | rfl | rfl <;> assumption
theorem own_mono (s0 s1 s2 s3 s4 s5 s6 s7 s8 : Nat) (z0 : s0 ≤ s1) (z1 : s1 ≤ s2) (z2 : s2 ≤ s3) (z3 : s3 ≤ s4) (z4 : s4 ≤ s5) (z5 : s5 ≤ s6) (z6 : s6 ≤ s7) (z7 : s7 ≤ s8) : ∀ r, pickN s0 s1 s2 s3 s4 s5 s6 s7 s8 r ≤ pickN s0 s1 s2 s3 s4 s5 s6 s7 s8 (r + 1) := by
  intro r
  rcases (show r = 0 ∨ r = 1 ∨ r = 2 ∨ r = 3 ∨ r = 4 ∨ r = 5 ∨ r = 6 ∨ r = 7 ∨ 8 ≤ r by omega) with rfl | rfl | rfl | rfl | rfl | rfl | rfl | rfl | h
  · exact z0
  · exact z1
  · exact z2
  · exact z3
  · exact z4
  · exact z5
  · exact z6
  · exact z7
  · obtain ⟨t, rfl⟩ : ∃ t, r = t + 8 := ⟨r - 8, by omega⟩
    exact Nat.le_refl _
theorem Tier.mono {lo hi lo' hi' : Nat} {v : Value} (h : Tier lo hi v) (h1 : lo' ≤ lo) (h2 : hi ≤ hi') : Tier lo' hi' v := fun g hg => by have := h g hg; omega
/-- What holds at the head of the round over the eight answers. -/
structure OwnAt (w2 : World) (gl : Nat) (O : Obj) (V : Nat → Value) (M : Nat → Nat) (j : Nat) (wr : World) : Prop where
  new : ∀ i, j ≤ i → i < 8 → New wr w2.heap.size (V i) (limbs (M i))
  list : wr.heap[gl]? = some O
  bel : Below w2.heap.size w2 wr
end
end Go.Proofs.YtocnlapbkidinaaGreatDoor
namespace Go.Proofs.YtocnlapbkidinaaGreatDoor
section
open Go.RowKit
/-- What nat's Parse tells. -/
def PG (w : World) (ok : Bool) (m : Nat) (e : Ending) (w' : World) : Prop := ∃ v, e = .returned (.tuple #[v, .bool ok]) ∧ New w' w.heap.size v (limbs m) ∧ Below w.heap.size w w'
def WP (w : World) (ok : Bool) (z : Int) (e : Ending) (w' : World) : Prop := ∃ v, e = .returned (.tuple #[v, .bool ok]) ∧ WNew w' w.heap.size v z ∧ Below w.heap.size w w'
theorem wretp {fn : Func} {a : Act} {t t2 : Tmp} {w w2 : World} {g base : Nat} {s0 x0 : Value} {b ok : Bool} {A : Option Addr} {n c : Nat} {z : Int} (h : fn.results = #[.cell t 27, .tmp t2]) (ht : a.tmps.getD t undef = .pointer (some ⟨g, 0, none⟩)) (ht2 : a.tmps.getD t2 undef = .bool ok) (hd : a.defers = [])
    (hv : Var w2 g s0 x0) (hn : WNew w2 base (.agg #[.bool b, .slice A n c]) z) (hbase : w.heap.size ≤ base) (hg : w.heap.size ≤ g) (hb : Below w.heap.size w w2) :
    bodyPost Tryz.prog fn (WP w ok z) .ret a ((w2.setCell ⟨g, 0, none⟩ (.bool b)).setCell ⟨g, 1, none⟩ (.slice A n c)) := by
  have h1 := (hv.set0 (.bool b)).set1 (.slice A n c)
  refine bodyPost_ret (results_wt h ht h1.c0 h1.c1) hd ⟨_, by rw [ht2], ?_, (hb.setCell hg _).setCell hg _⟩
  exact (WNew.farSet (hv.set0 (.bool b)) (WNew.farSet hv hn 0 (.bool b)) 1 (.slice A n c)).from_ hbase

theorem zero_first {t : ByteArray} {c : UInt8} {r : List UInt8} (h : t.data.toList = c :: r) : ∃ h0 : 0 < t.size, t[0] = c ∧ (t.extract 1 t.size).data.toList = r ∧ t.size = r.length + 1 := by
  have hs : t.size = r.length + 1 := by
    have : t.size = t.data.toList.length := (Array.length_toList (xs := t.data)).symm
    rw [this, h]; rfl
  have h0 : 0 < t.size := by omega
  refine ⟨h0, ?_, ?_, hs⟩
  · have := head_drop t h0
    rw [h] at this
    exact (List.cons.inj this).1.symm
  · rw [extract_one, h]; rfl
theorem first_digit (m : Nat) : ∃ c r, txt 10 m = c :: r ∧ c ≠ 45 ∧ c ≠ 43 := by
  have hp := txt_pos 10 m (by decide)
  have hg := good_txt 10 m (by decide) (by decide)
  cases ht : txt 10 m with
  | nil => rw [ht] at hp; simp at hp
  | cons c r =>
    have h1 := hg c (by rw [ht]; simp)
    refine ⟨c, r, rfl, ?_, ?_⟩
    · rintro rfl; exact absurd h1 (by decide)
    · rintro rfl; exact absurd h1 (by decide)
end
end Go.Proofs.YtocnlapbkidinaaGreatDoor
namespace Go.Proofs.YtocnlapbkidinaaGreatDoor
section
open Go.RowKit

/-- A digit's number; -1: it is none. -/
def rdg (c : Nat) : Int := if digN c = 36 then -1 else (digN c : Int)
theorem numB_bd (b : Nat) (hb : b ≤ 36) (s : ByteArray) (k : Nat) (hk : k ≤ s.size) : numB b (s.data.toList.take k) < 4294967296 ^ s.size := Nat.lt_of_lt_of_le (numB_lt b hb s k hk) (Nat.pow_le_pow_right (by decide) hk)

end
end Go.Proofs.YtocnlapbkidinaaGreatDoor
namespace Go.Proofs.YtocnlapbkidinaaGreatDoor
section
open Go.RowKit
theorem str_ne {s : ByteArray} (h : 0 < s.size) : ¬ s.toList = [] ∧ (s.toList.isEmpty) = false := by
  have h1 : s.data.toList.length = s.size := Array.length_toList
  rw [ByteArray.toList_eq]
  cases he : s.data.toList with
  | nil => rw [he] at h1; simp at h1; omega
  | cons a l => exact ⟨by simp, rfl⟩
theorem nil_of_size {s : ByteArray} (h : s.size = 0) : s = ⟨#[]⟩ := by
  obtain ⟨d⟩ := s
  have : d.size = 0 := h
  rw [Array.eq_empty_of_size_eq_zero this]
end
end Go.Proofs.YtocnlapbkidinaaGreatDoor
