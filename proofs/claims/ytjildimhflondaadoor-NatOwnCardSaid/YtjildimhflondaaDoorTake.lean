/-
  nat.takeAway, guessDigit: what they answer and write.
-/
import Derived.Test.YtjildimhflondaaDoorShiftN
import Derived.Deep.QuietTactic
import Derived.BigQuiet
namespace Go.Proofs.YtjildimhflondaaDoor
open Go.RowKit

theorem Sl.only {w w' : World} {A : Option Addr} {n c g : Nat} {xs : List Nat} (h : Sl w A n c xs) (ho : Only g w w') (hne : ∀ b off, A = some ⟨b, off, none⟩ → b ≠ g) : Sl w' A n c xs :=
  ⟨h.len, h.le, h.max, h.ok, fun hn => by
    obtain ⟨b, off, e, hb, hc⟩ := h.here hn
    exact ⟨b, off, e, by rw [ho.size]; exact hb, fun i hi => (World.cell?_of_block (w := w) (a := ⟨b, off + i, none⟩) (ho.block b (hne b off e))).trans (hc i hi)⟩, h.nil_⟩

def TakeInv (w : World) (g : Nat) (ps ds : List Nat) (q N k c bo : Nat) (S : List Nat) (wr : World) : Prop :=
  S.length = k ∧ Ok S ∧ val S + q * val (ds.take k) = val (ps.take k) + 4294967296 ^ k * (c + bo) ∧ (∃ L, L.length = N ∧ Ok L ∧ L.take k = S ∧ Blk wr g L) ∧ Only g w wr
theorem take_sum (p v a b q y x z c bo c' bo' p' : Nat) (e : z + (c + q * y + bo) = x + 4294967296 * (c' + bo')) (h : v + q * b = a + p * (c + bo)) (hp : p' = p * 4294967296) : v + p * z + q * (b + p * y) = a + p * x + p' * (c' + bo') := by
  have e2 : p * z + (p * c + p * (q * y) + p * bo) = p * x + p * (4294967296 * (c' + bo')) := by
    rw [← Nat.mul_add, ← Nat.mul_add, ← Nat.mul_add, e, Nat.mul_add]
  rw [hp, Nat.mul_assoc p, Nat.mul_add q, Nat.mul_left_comm q p y]
  rw [Nat.mul_add] at h
  omega
theorem take_step {w : World} {g : Nat} {ps ds : List Nat} {q N k c bo c' bo' z : Nat} {S : List Nat} {wr : World} (h : TakeInv w g ps ds q N k c bo S wr) (hk : k < N) (hz : z < 4294967296) (e : z + (c + q * lim ds k + bo) = lim ps k + 4294967296 * (c' + bo')) {zi : Int} (hzi : zi = (z : Int)) :
    TakeInv w g ps ds q N (k + 1) c' bo' (S ++ [z]) (wr.setCell ⟨g, k, none⟩ (.int .u32 zi)) := by
  subst hzi
  obtain ⟨hS, ok, hv, ⟨L, hL, oL, hLt, hB⟩, ho⟩ := h
  refine ⟨by simp [hS], ok.snoc hz, ?_, ⟨L.set k z, by simp [hL], oL.set _ _ hz, ?_, hB.set_ k z⟩, ho.trans (Only.setCell g k wr _)⟩
  · rw [val_snoc, hS, val_take_succ, val_take_succ]
    exact take_sum _ _ _ _ _ _ _ _ _ _ _ _ _ e hv (Nat.pow_succ ..)
  · rw [take_snoc _ _ (by simp; omega), lim_set_self _ _ _ (by omega), List.take_set_of_le (Nat.le_refl _), hLt]
theorem and_mask (c : Nat) (h : c < 18446744073709551616) : bits .and .u64 (c : Int) 4294967295 = ((c % 4294967296 : Nat) : Int) := by
  have := u64_and_nat c 4294967295 h (by decide)
  rw [show (4294967295 : Nat) = 2 ^ 32 - 1 by decide, Nat.and_two_pow_sub_one_eq_mod] at this
  exact this

/-- What takeAway gives. -/
def Takes (w : World) (g N P D q : Nat) (e : Ending) (w' : World) : Prop :=
  e = .returned (.bool (decide (q * D ≤ P))) ∧ (∃ L, L.length = N ∧ Ok L ∧ Blk w' g L ∧ (q * D ≤ P → val L = P - q * D)) ∧ Only g w w'

set_option maxHeartbeats 1600000 in
theorem takeAway_any (g cl N : Nat) (A : Option Addr) (cp : Nat) (ps : List Nat) (A2 : Option Addr) (n2 c2 : Nat) (ds L0 : List Nat) (q : Nat) (w : World) (hB : Blk w g L0) (hL0 : L0.length = N) (oL0 : Ok L0) (h1 : Sl w A N cp ps) (h2 : Sl w A2 n2 c2 ds) (hn : n2 < N) (hq : q < 4294967296)
    (d1 : ∀ b off, A = some ⟨b, off, none⟩ → b ≠ g) (d2 : ∀ b off, A2 = some ⟨b, off, none⟩ → b ≠ g) (hN : N ≤ 1000000000) :
    Calls Tryd.prog 88 #[.slice (some ⟨g, 0, none⟩) N cl, .slice A N cp, .slice A2 n2 c2, .int .u64 (q : Int)] w (Takes w g N (val ps) (val ds) q) := by
  have L1 := Lib.hid h1.len
  have L2 := Lib.hid h2.len
  have D1 := Lib.hid d1
  have D2 := Lib.hid d2
  have HB := Lib.hid (And.intro hB (And.intro hL0 oL0))
  clear d1 d2 hB hL0 oL0
  go_enter Tryd.func88, Tryd.ntmps88
  go_wp2_with fail
  go_loopw [9, 10, 16] (fun cc bb i wr => ∃ k c bo : Nat, k ≤ N ∧ i = .int .i64 k ∧ cc = .int .u64 c ∧ bb = .int .u64 bo ∧ c < 4294967296 ∧ bo ≤ 1 ∧ (n2 < k → c = 0) ∧ ∃ S, TakeInv w g ps ds q N k c bo S wr) (fun _ _ i _ => N - (intOf i).toNat)
  case atStart => exact ⟨0, 0, 0, by omega, rfl, rfl, rfl, by omega, by omega, fun _ => rfl, [], rfl, Ok.nil, by simp [val], ⟨L0, HB.out.2.1, HB.out.2.2, rfl, HB.out.1⟩, Only.refl _ _⟩
  case round =>
    obtain ⟨k, c, bo, hk, rfl, rfl, rfl, hc, hbo, hz, S, hinv⟩ := hrel
    have HZ := Lib.hid hz
    clear hz
    by_cases hkN : k < N
    · obtain ⟨hS, ok, hv, ⟨L, hL, oL, hLt, hBr⟩, ho⟩ := id hinv
      have s2 := h2.only ho D2.out
      obtain ⟨b, off, rfl, _, hcc⟩ := (h1.only ho D1.out).here (by omega)
      have hck := hcc k hkN
      have x1 := h1.ok.getD k
      have y1 := h2.ok.getD k
      have hf := hBr.frozen k
      have hcl := hBr.cell k (by omega)
      have hm := mul_bd _ _ y1 hq
      have hm' : (lim ds k : Int) * (q : Int) ≤ 18446744065119617025 := by rw [← Int.natCast_mul]; omega
      have hm0 : 0 ≤ (lim ds k : Int) * (q : Int) := by rw [← Int.natCast_mul]; omega
      obtain ⟨T, HT⟩ : ∃ T, Hid (T = c + lim ds k * q) := ⟨_, rfl⟩
      have hT : (c : Int) + (lim ds k : Int) * (q : Int) = (T : Int) := by rw [← Int.natCast_mul, HT.out]; omega
      have hTb : T ≤ 18446744069414584320 := by have := HT.out; omega
      have hand := and_mask T (by omega)
      obtain ⟨u, Hu⟩ : ∃ u, u = T % 4294967296 := ⟨_, rfl⟩
      rw [← Hu] at hand
      have hu : u < 4294967296 := by omega
      have HU := Lib.hid Hu
      clear hcc hS hv hL hLt hm Hu
      go_wp2_with (go_at_call 54; refine (limbAt_any _ _ _ _ _ _ s2 (by omega)).mono ?_; rintro e w' ⟨rfl, rfl⟩)
      go_roundw
      case rel =>
        have hT2 := HT.out
        have hU := HU.out
        have e : (4294967296 + lim ps k - u - bo) % 4294967296 + (c + q * lim ds k + bo) = lim ps k + 4294967296 * (T / 4294967296 + (1 - (4294967296 + lim ps k - u - bo) / 4294967296)) := by
          rw [Nat.mul_comm q, ← hT2]; omega
        have h0 : n2 < k + 1 → T / 4294967296 = 0 := by
          intro hlt
          have : lim ds k = 0 := lim_ge ds k (by have := L2.out; omega)
          rw [this, Nat.zero_mul] at hT2
          omega
        exact ⟨k + 1, T / 4294967296, 1 - (4294967296 + lim ps k - u - bo) / 4294967296, by omega, by go_num, by go_num, by go_num, by omega, by omega, h0, _, take_step hinv hkN (Nat.mod_lt _ (by decide)) e (by omega)⟩
      case measure => simp [intOf]; omega
    · obtain rfl : k = N := by omega
      have hc0 : c = 0 := HZ.out hn
      subst hc0
      obtain ⟨hS, ok, hv, ⟨L, hL, oL, hLt, hBr⟩, ho⟩ := hinv
      have eS : L = S := by rw [← hLt, ← hL, List.take_length]
      subst eS
      rw [List.take_of_length_le (l := ds) (by have := L2.out; omega), List.take_of_length_le (l := ps) (by have := L1.out; omega), Nat.zero_add] at hv
      have hlt := val_lt oL
      rw [hL] at hlt
      by_cases hb : bo = 0
      · subst hb
        rw [Nat.mul_zero, Nat.add_zero] at hv
        have HF := Lib.hid (show decide (q * val ds ≤ val ps) = true by rw [decide_eq_true_iff]; omega)
        have HV := Lib.hid (show val L = val ps - q * val ds by omega)
        have HL := Lib.hid hL
        clear hv hlt hS hL hLt
        go_wp2_with fail
        go_ret
        exact ⟨by rw [HF.out]; rfl, ⟨L, HL.out, oL, hBr, fun _ => HV.out⟩, ho⟩
      · have hb1 : bo = 1 := by omega
        subst hb1
        rw [Nat.mul_one] at hv
        have hgt : ¬ q * val ds ≤ val ps := by omega
        have HF := Lib.hid (show decide (q * val ds ≤ val ps) = false by rw [decide_eq_false_iff_not]; exact hgt)
        have HG := Lib.hid hgt
        have HL := Lib.hid hL
        clear hv hlt hS hL hLt hb hgt
        go_wp2_with fail
        go_ret
        exact ⟨by rw [HF.out]; rfl, ⟨L, HL.out, oL, hBr, fun h => absurd h HG.out⟩, ho⟩

/-- guessDigit: never below the digit that is sought. -/
def Guess (ps ds : List Nat) (m : Nat) : Nat := min ((lim ps m * 4294967296 + lim ps (m - 1)) / lim ds (m - 1)) 4294967295
theorem guess_ge {ps ds : List Nat} {m q : Nat} (op : Ok ps) (hp : ps.length = m + 1) (hd : ds.length = m) (hm : 0 < m) (hd0 : 0 < lim ds (m - 1)) (hq : q * val ds ≤ val ps) (hqB : q ≤ 4294967295) : q ≤ Guess ps ds m := by
  unfold Guess
  refine Nat.le_min.2 ⟨?_, hqB⟩
  obtain ⟨j, rfl⟩ : ∃ j, m = j + 1 := ⟨m - 1, by omega⟩
  rw [show j + 1 - 1 = j by omega] at hd0 ⊢
  have e1 : val ps = val (ps.take j) + 4294967296 ^ j * (lim ps (j + 1) * 4294967296 + lim ps j) := by
    have h2 : val ps = val (ps.take (j + 1 + 1)) := by rw [List.take_of_length_le (by omega)]
    rw [h2, val_take_succ, val_take_succ, Nat.pow_succ, Nat.mul_add, Nat.mul_assoc, Nat.mul_comm 4294967296 (lim ps (j + 1))]
    omega
  have e2 : 4294967296 ^ j * lim ds j ≤ val ds := by
    have h2 : val ds = val (ds.take (j + 1)) := by rw [List.take_of_length_le (by omega)]
    rw [h2, val_take_succ]
    omega
  have h3 := val_take_lt op j
  have h4 : q * (4294967296 ^ j * lim ds j) ≤ q * val ds := Nat.mul_le_mul_left _ e2
  have h5 : 4294967296 ^ j * (q * lim ds j) < 4294967296 ^ j * (lim ps (j + 1) * 4294967296 + lim ps j + 1) := by
    rw [← Nat.mul_left_comm, Nat.mul_add (4294967296 ^ j) _ 1, Nat.mul_one]
    omega
  have h6 := Nat.lt_of_mul_lt_mul_left h5
  rw [Nat.le_div_iff_mul_le hd0]
  omega

set_option maxHeartbeats 1600000 in
theorem guess_any (A : Option Addr) (cp : Nat) (ps : List Nat) (A2 : Option Addr) (m c2 : Nat) (ds : List Nat) (w : World) (h1 : Sl w A (m + 1) cp ps) (h2 : Sl w A2 m c2 ds) (hm : 0 < m) (hd0 : 0 < lim ds (m - 1)) (hN : m ≤ 1000000000) :
    Calls Tryd.prog 87 #[.slice A (m + 1) cp, .slice A2 m c2] w fun e w' => e = .returned (.int .u64 (Guess ps ds m : Int)) ∧ ∃ nq, w' = w.drewN nq := by
  obtain ⟨b, off, rfl, _, hc⟩ := h1.here (by omega)
  obtain ⟨b', off', rfl, _, hc'⟩ := h2.here (by omega)
  obtain ⟨j, rfl⟩ : ∃ j, m = j + 1 := ⟨m - 1, by omega⟩
  rw [show j + 1 - 1 = j by omega] at hd0
  have g1 := hc (j + 1) (by omega)
  have g2 := hc j (by omega)
  have g3 := hc' j (by omega)
  have x1 := h1.ok.getD (j + 1)
  have x2 := h1.ok.getD j
  have x3 := h2.ok.getD j
  obtain ⟨T, HT⟩ : ∃ T, Hid (T = (lim ps (j + 1) * 4294967296 + lim ps j)) := ⟨_, rfl⟩
  have hor : bits .or .u64 ((lim ps (j + 1) : Int) * 4294967296) (lim ps j : Int) = (T : Int) := by rw [or_join _ _ x1 x2, HT.out]; omega
  have HG : Hid (Guess ps ds (j + 1) = min (T / lim ds j) 4294967295) := by rw [HT.out]; exact rfl
  have i1 : (j : Int) + 1 < (j : Int) + 1 + 1 := by omega
  have i2 : (j : Int) < (j : Int) + 1 + 1 := by omega
  have hdne : ((lim ds j : Nat) : Int) ≠ 0 := by omega
  clear hc hc'
  go_enter Tryd.func87, Tryd.ntmps87
  go_wp2_with fail
  go_quiet (fail)
  go_wp2_with fail
  go_ret
  refine ⟨?_, nq, rfl⟩
  rw [HG.out]
  refine congrArg (fun x => Ending.returned (.int .u64 x)) ?_
  show min (IntKind.u64.wrap ((T : Int) / ((lim ds j : Nat) : Int))) 4294967295 = _
  have hTb : T < 18446744073709551616 := by have := HT.out; omega
  have hle : T / lim ds j ≤ T := Nat.div_le_self _ _
  rw [← Int.natCast_ediv, IntKind.wrap_u64]
  generalize T / lim ds j = t at hle ⊢
  omega
end Go.Proofs.YtjildimhflondaaDoor
