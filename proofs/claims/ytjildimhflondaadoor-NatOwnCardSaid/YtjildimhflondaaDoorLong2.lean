/-
  nat.divLong: what it answers.
-/
import Derived.Test.YtjildimhflondaaDoorLong
import Derived.WalkMore
import Derived.Deep.LoopGhost
import Derived.Outline
namespace Go.Proofs.YtjildimhflondaaDoor
open Go.RowKit

/-- The shift that brings the highest bit to its limb's top. -/
theorem up_facts (n m : Nat) (h : (limbs n).length = m + 1) : ∃ up, up ≤ 31 ∧ bl n + up = (m + 1) * 32 ∧ n * 2 ^ up < 4294967296 ^ (m + 1) ∧ 4294967296 ^ (m + 1) ≤ 2 * (n * 2 ^ up) ∧ (limbs (n * 2 ^ up)).length = m + 1 ∧ 0 < lim (limbs (n * 2 ^ up)) m := by
  have hb := bl_limbs n m h
  have ht := (limbs_ok n).getD m
  have hn0 : n ≠ 0 := by intro h0; subst h0; simp [limbs_zero] at h
  have htop : lim (limbs n) m ≠ 0 := by
    intro h0
    rw [h0, bl_zero, Nat.add_zero] at hb
    have h1 := bl_lt n
    rw [hb, Nat.mul_comm, Nat.pow_mul] at h1
    have := limbs_len_le (n := n) (k := m) h1
    omega
  have h1 := bl_pos _ htop
  have h2 : bl (lim (limbs n) m) ≤ 32 := by
    rcases Nat.lt_or_ge 32 (bl (lim (limbs n) m)) with h3 | h3
    · exfalso
      have h4 := bl_le _ htop
      have h5 : 2 ^ 32 ≤ 2 ^ (bl (lim (limbs n) m) - 1) := Nat.pow_le_pow_right (by decide) (by omega)
      omega
    · exact h3
  obtain ⟨up, hup⟩ : ∃ up, bl n + up = (m + 1) * 32 := ⟨(m + 1) * 32 - bl n, by omega⟩
  have hp : 4294967296 ^ (m + 1) = 2 ^ (bl n + up) := by rw [hup, Nat.mul_comm (m + 1), Nat.pow_mul]
  have h6 : n * 2 ^ up < 4294967296 ^ (m + 1) := by
    rw [hp, Nat.pow_add]; exact Nat.mul_lt_mul_of_pos_right (bl_lt n) (Nat.pow_pos (by decide))
  have h7 : 4294967296 ^ (m + 1) ≤ 2 * (n * 2 ^ up) := by
    rw [hp, show bl n + up = 1 + ((bl n - 1) + up) by have := bl_pos n hn0; omega, Nat.pow_add, Nat.pow_one, Nat.pow_add]
    exact Nat.mul_le_mul_left _ (Nat.mul_le_mul_right _ (bl_le n hn0))
  have h8 : (limbs (n * 2 ^ up)).length = m + 1 := by
    have h9 := limbs_len_le h6
    rcases Nat.lt_or_ge (limbs (n * 2 ^ up)).length (m + 1) with h10 | h10
    · exfalso
      have h11 := val_lt (limbs_ok (n * 2 ^ up))
      rw [limbs_val] at h11
      have h12 : 4294967296 ^ (limbs (n * 2 ^ up)).length ≤ 4294967296 ^ m := Nat.pow_le_pow_right (by decide) (by omega)
      rw [Nat.pow_succ] at h7
      have := pow_pos' m
      omega
    · omega
  refine ⟨up, by omega, hup, h6, h7, h8, ?_⟩
  rcases Nat.eq_zero_or_pos (lim (limbs (n * 2 ^ up)) m) with h0 | h0
  · exfalso
    have hv := limbs_val (n * 2 ^ up)
    have e := val_take_succ (limbs (n * 2 ^ up)) m
    rw [h0, Nat.mul_zero, ← h8, List.take_length, hv] at e
    rw [Nat.add_zero] at e
    have := val_take_lt (limbs_ok (n * 2 ^ up)) m
    rw [← e] at this
    have := limbs_len_le this
    omega
  · exact h0

set_option maxHeartbeats 6400000 in
theorem divLong_any (A1 : Option Addr) (n c1 : Nat) (xs : List Nat) (A2 : Option Addr) (m c2 : Nat) (ys : List Nat) (w : World) (h1 : Sl w A1 n c1 xs) (h2 : Sl w A2 (m + 1) c2 ys) (hy : (limbs (val ys)).length = m + 1) (hmn : m + 1 ≤ n) (hn : n ≤ 100000000) :
    Calls Tryd.prog 53 #[.slice A1 n c1, .slice A2 (m + 1) c2] w (Gives2 w (val xs / val ys) (val xs % val ys)) := by
  obtain ⟨up, hup, hbl, hD1, hD2, hDl, hDtop⟩ := up_facts (val ys) m hy
  have hupi : ((m : Int) + 1) * 32 - (bl (val ys) : Int) = (up : Int) := by omega
  obtain ⟨D, HD⟩ : ∃ D, Hid (D = val ys * 2 ^ up) := ⟨_, rfl⟩
  rw [← HD.out] at hD1 hD2 hDl hDtop
  have hblb : bl (val ys) ≤ 100000000000 := by omega
  obtain ⟨R0, HR0⟩ : ∃ R0, Hid (R0 = val xs * 2 ^ up) := ⟨_, rfl⟩
  have hR0lt : R0 < 4294967296 ^ (n + 1) := by
    rw [HR0.out]
    have h3 := val_lt h1.ok
    rw [← h1.len] at h3
    rw [Nat.pow_succ]
    have h4 : 2 ^ up ≤ 2 ^ 31 := Nat.pow_le_pow_right (by decide) hup
    exact Nat.mul_lt_mul'' h3 (by omega)
  have hlR0 := limbs_len_le hR0lt
  have hR0D : R0 < D * 4294967296 ^ (n - (m + 1) + 1) := by
    have h3 := val_lt h1.ok
    rw [← h1.len] at h3
    have h4 : 2 ^ up ≤ 2 ^ 31 := Nat.pow_le_pow_right (by decide) hup
    have h5 : R0 < 4294967296 ^ n * 2147483648 := by
      rw [HR0.out]
      exact Nat.lt_of_lt_of_le (Nat.mul_lt_mul_of_pos_right h3 (Nat.pow_pos (by decide))) (Nat.mul_le_mul_left _ (by omega))
    have h6 : 4294967296 ^ (m + 1) * 4294967296 ^ (n - (m + 1) + 1) ≤ 2 * D * 4294967296 ^ (n - (m + 1) + 1) := Nat.mul_le_mul_right _ hD2
    rw [← Nat.pow_add, show m + 1 + (n - (m + 1) + 1) = n + 1 by omega, Nat.pow_succ, Nat.mul_assoc 2] at h6
    omega
  obtain ⟨p, hp⟩ : ∃ p, p + (m + 1) = n := ⟨n - (m + 1), by omega⟩
  rw [show n - (m + 1) + 1 = p + 1 by omega] at hR0D
  have hpi : (n : Int) - ((m : Int) + 1) + 1 = ((p + 1 : Nat) : Int) := by omega
  have hmkR := fun W => make32 ((n : Int) + 1) (n + 1) (by omega) (by omega) W
  have hmkQ := fun W => make32 ((n : Int) - ((m : Int) + 1) + 1) (p + 1) hpi (by omega) W
  have hmkL := fun W => make32 ((m : Int) + 1 + 1) (m + 2) (by omega) (by omega) W
  have HH := Lib.hid (And.intro hy (And.intro hbl hDl))
  have HP := Lib.hid hp
  have hpb : p ≤ 100000000 := by omega
  clear hy hbl hDl hpi hp
  go_enter Tryd.func53, Tryd.ntmps53
  go_wp2_with fail
  go_step3
  go_wp2_with fail
  refine (bits_any _ _ _ _ _ h2 (by omega)).mono ?_
  rintro e w' ⟨rfl, rfl⟩
  go_wp2_with fail
  refine (shift_up_any _ _ _ _ up _ h2 (by omega) (by omega)).mono ?_
  rintro e w1 ⟨vb, rfl, hnb, hb1⟩
  rw [← HD.out] at hnb
  obtain ⟨Ab, mb, cb, rfl, hsb, hAb⟩ := hnb
  obtain rfl : mb = m + 1 := hsb.len.trans HH.out.2.2
  have hAb' : ∀ b off, Ab = some ⟨b, off, none⟩ → b < w1.heap.size := by
    intro b off e
    obtain ⟨b', off', e', hb', _⟩ := hsb.here (by omega)
    rw [e] at e'
    simp only [Option.some.injEq, Addr.mk.injEq] at e'
    omega
  have HAB := Lib.hid hAb'
  clear hAb hAb'
  have s1 := (h1.below hb1).alloc (.cells (madeCells #[Value.int .u32 0] (n + 1)) 32)
  go_wp2_with fail
  refine (shift_up_any _ _ _ _ up _ s1 (by omega) (by omega)).mono ?_
  rintro e w2 ⟨va, rfl, hna, hb2⟩
  rw [← HR0.out] at hna
  obtain ⟨Aa, ca, rfl, hsa⟩ := hna.sl
  have hBR : Blk w2 w1.heap.size (List.replicate (n + 1) 0) := (Blk.made w1 (n + 1)).below hb2 (by simp)
  have HBR := Lib.hid hBR
  clear hna hBR
  obtain ⟨la, HLA⟩ : ∃ l, Hid (l = (limbs R0).length) := ⟨_, rfl⟩
  rw [← HLA.out] at hsa hlR0 ⊢
  go_wp2_with (with_reducible refine wpList_copy_limbs rfl (.tmp 27) (.tmp 30) rfl Tryd.underlying22 (by kernel_rfl) _ _ _ _ _ _ rfl rfl w1.heap.size 0 (List.replicate (n + 1) 0) _ HBR.out hsa (fun _ => rfl) hlR0 (by simp) ?_; intro w3 hB3 ho3)
  have hsz : w1.heap.size < w3.heap.size := by have := hb2.size; have := ho3.size; simp at *; omega
  have hsz0 := hb1.size
  have hbel3 : Below w.heap.size w w3 := (bnext (bnew hb1 _) hb2).trans (ho3.below hb1.size)
  have hsb3 : Sl w3 Ab (m + 1) cb (limbs D) := ((hsb.alloc _).below hb2).only ho3 fun b off e => by have := HAB.out b off e; omega
  have hstart : Long w w1.heap.size w3.heap.size (w3.heap.size + 1) (n + 1) (p + 1) (m + 1) Ab cb D R0 (p + 1) (splice (List.replicate (n + 1) 0) 0 (limbs R0)) (List.replicate (p + 1) 0) (List.replicate (m + 2) 0)
      ((w3.alloc (.cells (madeCells #[Value.int .u32 0] (p + 1)) 32)).alloc (.cells (madeCells #[Value.int .u32 0] (m + 2)) 32)) := by
    have hlen : (splice (List.replicate (n + 1) 0) 0 (limbs R0)).length = n + 1 := by rw [length_splice _ _ _ (by have := HLA.out; simp; omega)]; simp
    have hv : val (splice (List.replicate (n + 1) 0) 0 (limbs R0)) = R0 := by
      have e := splice_val (R := List.replicate (n + 1) 0) (L := limbs R0) (s := 0) HLA.out.symm (by simp; omega)
      rw [val_replicate, limbs_val, List.drop_zero, Nat.pow_zero, Nat.one_mul, Nat.one_mul, Nat.zero_add, List.take_replicate, val_replicate, Nat.add_zero] at e
      exact e
    refine ⟨hlen, splice_ok (Ok.replicate _) (limbs_ok _) 0, by simp, Ok.replicate _, ?_, by simp, Ok.replicate _, ?_, ?_, (hB3.alloc _).alloc _, (Blk.made w3 (p + 1)).alloc _, ?_, (hsb3.alloc _).alloc _, bnew (bnew hbel3 _) _⟩
    · intro i _
      rw [lim_eq, List.getElem?_replicate]; split <;> rfl
    · rw [val_replicate, Nat.mul_zero, Nat.zero_add, hv]
    · rw [hv]; exact hR0D
    · have := Blk.made (w3.alloc (.cells (madeCells #[Value.int .u32 0] (p + 1)) 32)) (m + 2)
      simpa using this
  have HST := Lib.hid hstart
  clear hstart hB3 hsb3 hmkR hmkQ hmkL hupi
  go_step3
  go_wp2_with fail
  go_loopg [11] (p + 1) (fun t i wr => ∃ R Q L, i = .int .i64 ((t : Int) - 1) ∧ t ≤ p + 1 ∧ Long w w1.heap.size w3.heap.size (w3.heap.size + 1) (n + 1) (p + 1) (m + 1) Ab cb D R0 t R Q L wr)
  case atStart => exact ⟨_, _, _, (by first | go_num | exact congrArg (Value.int .i64) (by have := HP.out; omega)), Nat.le_refl _, HST.out⟩
  case round =>
    obtain ⟨R, Q, L, rfl, ht, hlong⟩ := hrel
    obtain ⟨wo, rfl⟩ : ∃ wo : World, wo = wr := ⟨_, rfl⟩
    rcases gk with _ | t
    · have hnum := hlong.num
      have hlt := hlong.lt
      rw [Nat.pow_zero, Nat.mul_one, HD.out] at hlt
      rw [HR0.out, HD.out] at hnum
      obtain ⟨eq1, eq2⟩ := div_final hnum hlt (Nat.pow_pos (by decide))
      have hslQ := hlong.blkQ.slAll hlong.okQ (by rw [hlong.lenQ]; unfold maxLen; omega)
      have hnewQ := hlong.blkQ.new (base := w.heap.size) hlong.okQ (by rw [hlong.lenQ]; unfold maxLen; omega) (by omega)
      rw [hlong.lenQ] at hslQ hnewQ
      have hslR := hlong.blkR.slAll hlong.okR (by rw [hlong.lenR]; unfold maxLen; omega)
      rw [hlong.lenR] at hslR
      have hbel := hlong.bel
      have HE := Lib.hid (And.intro eq1 eq2)
      have HNQ := Lib.hid hnewQ
      clear hnum hlt eq1 eq2 hnewQ hlong
      by_cases hu0 : up = 0
      · subst hu0
        go_wp2_with fail
        refine (trim_any _ _ _ _ _ hslQ).mono ?_
        rintro e w' ⟨rfl, rfl⟩
        go_wp2_with fail
        refine (shift_up_any _ _ _ _ 0 _ hslR (by omega) (by omega)).mono ?_
        rintro e w6 ⟨v6, rfl, hn6, hb6⟩
        go_wp2_with fail
        try rw [Exit.noGoto_ret]
        go_ret2
        rw [Nat.pow_zero, Nat.mul_one] at hn6
        have e2 := HE.out.2
        rw [Nat.pow_zero, Nat.div_one] at e2
        rw [e2] at hn6
        have e1 := HE.out.1
        refine ⟨_, _, rfl, ?_, hn6.from_ hbel.size, bnext hbel hb6⟩
        rw [← e1]
        exact HNQ.out.next hb6
      · have hu1 : 0 < up := by omega
        go_wp2_with fail
        refine (trim_any _ _ _ _ _ hslQ).mono ?_
        rintro e w' ⟨rfl, rfl⟩
        go_wp2_with fail
        refine (shift_down_any _ _ _ _ up _ hslR (by omega) hu1 (by omega)).mono ?_
        rintro e w6 ⟨v6, rfl, hn6, hb6⟩
        go_wp2_with fail
        try rw [Exit.noGoto_ret]
        go_ret2
        rw [HE.out.2] at hn6
        have e1 := HE.out.1
        refine ⟨_, _, rfl, ?_, hn6.from_ hbel.size, bnext hbel hb6⟩
        rw [← e1]
        exact HNQ.out.next hb6
    · rw [show (((t + 1 : Nat) : Int) - 1) = (t : Int) by omega]
      have hN := hlong.lenR
      have hmax : R.length ≤ maxLen := by rw [hN]; unfold maxLen; omega
      have hwin := hlong.blkR.window hlong.okR hmax t (m + 1 + 1) (by have := HP.out; omega)
      rw [hN] at hwin
      clear hN hmax
      have i1 : (t : Int) + ((m : Int) + 2) ≤ (n : Int) + 1 := by have := HP.out; omega
      have i2 : t < n + 1 := by have := HP.out; omega
      have hDB : D * 4294967296 ≤ 4294967296 ^ (m + 1 + 1) := by rw [Nat.pow_succ]; exact Nat.mul_le_mul_right _ (Nat.le_of_lt hD1)
      have hD0 : 0 < D := by have := pow_pos' (m + 1); omega
      obtain ⟨_, hPlt⟩ := window_val hlong.okR (s := t) (k := m + 1 + 1) (D := D * 4294967296) (by have := hlong.lenR; have := HP.out; omega) (by rw [Nat.mul_assoc, Nat.mul_comm 4294967296, ← Nat.pow_succ]; exact hlong.lt) hDB
      have hqB : val ((R.drop t).take (m + 1 + 1)) / D ≤ 4294967295 := by
        have : val ((R.drop t).take (m + 1 + 1)) / D < 4294967296 := by rw [Nat.div_lt_iff_lt_mul hD0, Nat.mul_comm]; exact hPlt
        omega
      have hgq := guess_ge (ps := (R.drop t).take (m + 1 + 1)) (ds := limbs D) (m := m + 1) hwin.ok hwin.len.symm HH.out.2.2 (by omega) hDtop (q := val ((R.drop t).take (m + 1 + 1)) / D) (by rw [limbs_val]; exact Nat.div_mul_le_self _ _) hqB
      have hgB : Guess ((R.drop t).take (m + 1 + 1)) (limbs D) (m + 1) ≤ 4294967295 := Nat.min_le_right _ _
      go_wp2_with fail
      refine (guess_any _ _ _ _ (m + 1) _ _ _ hwin hlong.by_ (by omega) hDtop (by omega)).mono ?_
      rintro e w' ⟨rfl, nq, rfl⟩
      simp only [show t + (m + 2) - t = m + 2 by omega]
      generalize Guess ((R.drop t).take (m + 1 + 1)) (limbs D) (m + 1) = G at hgq hgB ⊢
      have hlong2 := long_drewN hlong nq
      obtain ⟨P, HPv⟩ : ∃ P, Hid (P = val ((R.drop t).take (m + 1 + 1))) := ⟨_, rfl⟩
      rw [← HPv.out] at hgq hPlt
      have HLG := Lib.hid hlong2
      clear hlong hlong2 hwin hqB
      go_wp2_with fail
      go_loopg [13] G (fun g i ws => ∃ L, i = .int .u64 g ∧ P / D ≤ g ∧ g ≤ 4294967295 ∧ Long w w1.heap.size w3.heap.size (w3.heap.size + 1) (n + 1) (p + 1) (m + 1) Ab cb D R0 (t + 1) R Q L ws)
      case atStart => exact ⟨_, rfl, hgq, hgB, HLG.out⟩
      case round =>
        obtain ⟨L2, rfl, hg1, hg2, hl2⟩ := hrel
        rcases gk with _ | g
        · have hP0 : P < D := by
            have := Nat.lt_mul_div_succ P hD0
            rw [Nat.le_zero.1 hg1, Nat.zero_add, Nat.mul_one] at this
            exact this
          have hmiss := long_miss hl2 (by have := HP.out; omega) hDB (by rw [← HPv.out]; exact hP0)
          have HM := Lib.hid hmiss
          clear hmiss hl2
          go_wp2_with fail
          go_roundg t
          case measure => omega
          case rel => exact ⟨_, _, _, by go_num, by omega, HM.out⟩
        · have hN := hl2.lenR
          have hwin := hl2.blkR.window hl2.okR (by rw [hN]; unfold maxLen; omega) t (m + 1 + 1) (by have := HP.out; omega)
          rw [hN] at hwin
          have hLl := hl2.lenL
          have d1 : ∀ b off, (some ⟨w1.heap.size, t, none⟩ : Option Addr) = some ⟨b, off, none⟩ → b ≠ w3.heap.size + 1 := by
            intro b off e
            simp only [Option.some.injEq, Addr.mk.injEq] at e
            omega
          have d2 : ∀ b off, Ab = some ⟨b, off, none⟩ → b ≠ w3.heap.size + 1 := fun b off e => by have := HAB.out b off e; omega
          have hAb3 : ∀ b off, Ab = some ⟨b, off, none⟩ → b ≠ w1.heap.size ∧ b ≠ w3.heap.size ∧ b ≠ w3.heap.size + 1 := fun b off e => by have := HAB.out b off e; omega
          have htake := takeAway_any (w3.heap.size + 1) (m + 2) (m + 1 + 1) _ (n + 1 - t) _ Ab (m + 1) cb (limbs D) L2 (g + 1) wr hl2.blkL hLl hl2.okL hwin hl2.by_ (by omega) (by omega) d1 d2 (by omega)
          rw [limbs_val, ← HPv.out] at htake
          have HTK := Lib.hid htake
          have HAB3 := Lib.hid hAb3
          have HL2 := Lib.hid hl2
          clear htake d1 d2 hAb3 hN hLl hwin hl2
          go_wp2_with fail
          refine HTK.out.mono ?_
          rintro e w4 ⟨rfl, ⟨L3, hL3, oL3, bL3, hv3⟩, o4⟩
          clear HTK
          by_cases hle : (g + 1) * D ≤ P
          · have hdec : decide ((g + 1) * D ≤ P) = true := decide_eq_true hle
            rw [hdec]
            have hsl3 := bL3.slAll oL3 (by rw [hL3]; unfold maxLen; omega)
            rw [hL3] at hsl3
            have bR4 := HL2.out.blkR.only o4 (by omega)
            have bQ4 := HL2.out.blkQ.only o4 (by omega)
            have HV := Lib.hid (hv3 hle)
            have HB4 := Lib.hid (And.intro bR4 bQ4)
            have HLE := Lib.hid (And.intro hle hL3)
            have hRl := Lib.hid HL2.out.lenR
            clear hv3 bR4 bQ4 hdec hle hL3
            go_wp2_with (with_reducible refine wpList_copy_limbs rfl (.tmp 69) (.tmp 70) rfl Tryd.underlying22 (by kernel_rfl) _ _ _ _ _ _ rfl rfl w1.heap.size t R _ HB4.out.1 hsl3 (fun _ => rfl) (Nat.le_refl _) (by rw [hRl.out]; have := HP.out; omega) ?_; intro w5 hB5 ho5; have hf5 := (HB4.out.2.only ho5 (by omega)).frozen t; have hc5 := (HB4.out.2.only ho5 (by omega)).cell t (by rw [HL2.out.lenQ]; omega))
            have hhit := long_hit (z := (g : Int) + 1) HL2.out (by have := HP.out; omega) (by omega) hDB (by rw [← HPv.out]; exact HLE.out.1) (by omega) (by rw [← HPv.out]; exact hg1) hD0 HLE.out.2 oL3 (by rw [← HPv.out]; exact HV.out) bL3 o4 hB5 ho5 (by omega) (by omega) (by omega) HAB3.out ⟨by omega, by omega, by omega⟩ (by omega)
            go_roundg t
            case measure => omega
            case rel => exact ⟨_, _, _, by go_num, by omega, hhit⟩
          · have hdec : decide ((g + 1) * D ≤ P) = false := decide_eq_false hle
            rw [hdec]
            have hgt : P / D ≤ g := by
              have h9 : P < (g + 1) * D := by omega
              have : P / D < g + 1 := by rw [Nat.div_lt_iff_lt_mul hD0]; exact h9
              omega
            have hleft := long_left HL2.out hL3 oL3 bL3 o4 (by omega) (by omega) HAB3.out (by omega)
            have HLF := Lib.hid hleft
            clear hleft hv3 hL3 hdec hle
            go_wp2_with fail
            go_roundg g
            case measure => omega
            case rel => exact ⟨_, by go_num, hgt, by omega, HLF.out⟩
end Go.Proofs.YtjildimhflondaaDoor
