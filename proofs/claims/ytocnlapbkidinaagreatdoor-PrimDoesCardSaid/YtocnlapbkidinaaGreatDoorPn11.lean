/-
  nat.takeAway, guessDigit: what they answer and write. nat.divLong: the plain part, and what holds round by round. nat.divLong: what it answers. nat.Div: what it answers, of any two numbers. A number's text, read again: plain.
-/
import Derived.Test.YtocnlapbkidinaaGreatDoorPn4
import Derived.Deep.QuietTactic
import Derived.BigQuiet
import Derived.WalkMore
import Derived.Deep.LoopGhost
import Derived.Outline
import Derived.Test.YtocnlapbkidinaaGreatDoorPn5
import Derived.Test.YtocnlapbkidinaaGreatDoorPn2
set_option linter.unusedVariables false
set_option linter.unusedSimpArgs false
set_option linter.unusedSectionVars false
set_option linter.unnecessarySimpa false
namespace Go.Proofs.YtocnlapbkidinaaGreatDoor
section
open Go.RowKit

theorem Sl.only {w w' : World} {A : Option Addr} {n c g : Nat} {xs : List Nat} (h : Sl w A n c xs) (ho : Only g w w') (hne : ∀ b off, A = some ⟨b, off, none⟩ → b ≠ g) : Sl w' A n c xs :=
  ⟨h.len, h.le, h.max, h.ok, fun hn => by
    obtain ⟨b, off, e, hb, hc⟩ := h.here hn
    exact ⟨b, off, e, by rw [ho.size]; exact hb, fun i hi => (World.cell?_of_block (w := w) (a := ⟨b, off + i, none⟩) (ho.block b (hne b off e))).trans (hc i hi)⟩, h.nil_⟩

def TakeInv (w : World) (g : Nat) (ps ds : List Nat) (q N k c bo : Nat) (S : List Nat) (wr : World) : Prop :=
  S.length = k ∧ Ok S ∧ val S + q * val (ds.take k) = val (ps.take k) + 4294967296 ^ k * (c + bo) ∧ (∃ L, L.length = N ∧ Ok L ∧ L.take k = S ∧ Blk wr g L) ∧ Only g w wr
theorem take_sum (p v a b q y x z c bo c' bo' p' : Nat) (e : z + (c + q * y + bo) = x + 4294967296 * (c' + bo')) (h : v + q * b = a + p * (c + bo)) (hp : p' = p * 4294967296) : v + p * z + q * (b + p * y) = a + p * x + p' * (c' + bo') := by
  have e2 : p * z + (p * c + p * (q * y) + p * bo) = p * x + p * (4294967296 * (c' + bo')) := by
    rw [← Nat.mul_add, ← Nat.mul_add, ← Nat.mul_add, e, Nat.mul_add]
  rw [hp, Nat.mul_assoc p, Nat.mul_add q, Nat.mul_left_comm q p y]
  rw [Nat.mul_add] at h
  omega
theorem take_step {w : World} {g : Nat} {ps ds : List Nat} {q N k c bo c' bo' z : Nat} {S : List Nat} {wr : World} (h : TakeInv w g ps ds q N k c bo S wr) (hk : k < N) (hz : z < 4294967296) (e : z + (c + q * lim ds k + bo) = lim ps k + 4294967296 * (c' + bo')) {zi : Int} (hzi : zi = (z : Int)) :
    TakeInv w g ps ds q N (k + 1) c' bo' (S ++ [z]) (wr.setCell ⟨g, k, none⟩ (.int .u32 zi)) := by
  subst hzi
  obtain ⟨hS, ok, hv, ⟨L, hL, oL, hLt, hB⟩, ho⟩ := h
  refine ⟨by simp [hS], ok.snoc hz, ?_, ⟨L.set k z, by simp [hL], oL.set _ _ hz, ?_, hB.set_ k z⟩, ho.trans (Only.setCell g k wr _)⟩
  · rw [val_snoc, hS, val_take_succ, val_take_succ]
    exact take_sum _ _ _ _ _ _ _ _ _ _ _ _ _ e hv (Nat.pow_succ ..)
  · rw [take_snoc _ _ (by simp; omega), lim_set_self _ _ _ (by omega), List.take_set_of_le (Nat.le_refl _), hLt]
theorem and_mask (c : Nat) (h : c < 18446744073709551616) : bits .and .u64 (c : Int) 4294967295 = ((c % 4294967296 : Nat) : Int) := by
  have := u64_and_nat c 4294967295 h (by decide)
  rw [show (4294967295 : Nat) = 2 ^ 32 - 1 by decide, Nat.and_two_pow_sub_one_eq_mod] at this
  exact this

/-- What takeAway gives. -/
def Takes (w : World) (g N P D q : Nat) (e : Ending) (w' : World) : Prop :=
  e = .returned (.bool (decide (q * D ≤ P))) ∧ (∃ L, L.length = N ∧ Ok L ∧ Blk w' g L ∧ (q * D ≤ P → val L = P - q * D)) ∧ Only g w w'

set_option maxHeartbeats 1600000 in
theorem takeAway_any (g cl N : Nat) (A : Option Addr) (cp : Nat) (ps : List Nat) (A2 : Option Addr) (n2 c2 : Nat) (ds L0 : List Nat) (q : Nat) (w : World) (hB : Blk w g L0) (hL0 : L0.length = N) (oL0 : Ok L0) (h1 : Sl w A N cp ps) (h2 : Sl w A2 n2 c2 ds) (hn : n2 < N) (hq : q < 4294967296)
    (d1 : ∀ b off, A = some ⟨b, off, none⟩ → b ≠ g) (d2 : ∀ b off, A2 = some ⟨b, off, none⟩ → b ≠ g) (hN : N ≤ 1000000000) :
    Calls Tryz.prog 140 #[.slice (some ⟨g, 0, none⟩) N cl, .slice A N cp, .slice A2 n2 c2, .int .u64 (q : Int)] w (Takes w g N (val ps) (val ds) q) := by
  have L1 := Lib.hid h1.len
  have L2 := Lib.hid h2.len
  have D1 := Lib.hid d1
  have D2 := Lib.hid d2
  have HB := Lib.hid (And.intro hB (And.intro hL0 oL0))
  clear d1 d2 hB hL0 oL0
  go_enter Tryz.func140, Tryz.ntmps140
  go_wp2_with fail
  go_loopw [9, 10, 16] (fun cc bb i wr => ∃ k c bo : Nat, k ≤ N ∧ i = .int .i64 k ∧ cc = .int .u64 c ∧ bb = .int .u64 bo ∧ c < 4294967296 ∧ bo ≤ 1 ∧ (n2 < k → c = 0) ∧ ∃ S, TakeInv w g ps ds q N k c bo S wr) (fun _ _ i _ => N - (intOf i).toNat)
  case atStart => exact ⟨0, 0, 0, by omega, rfl, rfl, rfl, by omega, by omega, fun _ => rfl, [], rfl, Ok.nil, by simp [val], ⟨L0, HB.out.2.1, HB.out.2.2, rfl, HB.out.1⟩, Only.refl _ _⟩
  case round =>
    obtain ⟨k, c, bo, hk, rfl, rfl, rfl, hc, hbo, hz, S, hinv⟩ := hrel
    have HZ := Lib.hid hz
    clear hz
    by_cases hkN : k < N
    · obtain ⟨hS, ok, hv, ⟨L, hL, oL, hLt, hBr⟩, ho⟩ := id hinv
      have s2 := h2.only ho D2.out
      obtain ⟨b, off, rfl, _, hcc⟩ := (h1.only ho D1.out).here (by omega)
      have hck := hcc k hkN
      have x1 := h1.ok.getD k
      have y1 := h2.ok.getD k
      have hf := hBr.frozen k
      have hcl := hBr.cell k (by omega)
      have hm := mul_bd _ _ y1 hq
      have hm' : (lim ds k : Int) * (q : Int) ≤ 18446744065119617025 := by rw [← Int.natCast_mul]; omega
      have hm0 : 0 ≤ (lim ds k : Int) * (q : Int) := by rw [← Int.natCast_mul]; omega
      obtain ⟨T, HT⟩ : ∃ T, Hid (T = c + lim ds k * q) := ⟨_, rfl⟩
      have hT : (c : Int) + (lim ds k : Int) * (q : Int) = (T : Int) := by rw [← Int.natCast_mul, HT.out]; omega
      have hTb : T ≤ 18446744069414584320 := by have := HT.out; omega
      have hand := and_mask T (by omega)
      obtain ⟨u, Hu⟩ : ∃ u, u = T % 4294967296 := ⟨_, rfl⟩
      rw [← Hu] at hand
      have hu : u < 4294967296 := by omega
      have HU := Lib.hid Hu
      clear hcc hS hv hL hLt hm Hu
      go_wp2_with (go_at_call 110; refine (limbAt_any _ _ _ _ _ _ s2 (by omega)).mono ?_; rintro e w' ⟨rfl, rfl⟩)
      go_roundw
      case rel =>
        have hT2 := HT.out
        have hU := HU.out
        have e : (4294967296 + lim ps k - u - bo) % 4294967296 + (c + q * lim ds k + bo) = lim ps k + 4294967296 * (T / 4294967296 + (1 - (4294967296 + lim ps k - u - bo) / 4294967296)) := by
          rw [Nat.mul_comm q, ← hT2]; omega
        have h0 : n2 < k + 1 → T / 4294967296 = 0 := by
          intro hlt
          have : lim ds k = 0 := lim_ge ds k (by have := L2.out; omega)
          rw [this, Nat.zero_mul] at hT2
          omega
        exact ⟨k + 1, T / 4294967296, 1 - (4294967296 + lim ps k - u - bo) / 4294967296, by omega, by go_num, by go_num, by go_num, by omega, by omega, h0, _, take_step hinv hkN (Nat.mod_lt _ (by decide)) e (by omega)⟩
      case measure => simp [intOf]; omega
    · obtain rfl : k = N := by omega
      have hc0 : c = 0 := HZ.out hn
      subst hc0
      obtain ⟨hS, ok, hv, ⟨L, hL, oL, hLt, hBr⟩, ho⟩ := hinv
      have eS : L = S := by rw [← hLt, ← hL, List.take_length]
      subst eS
      rw [List.take_of_length_le (l := ds) (by have := L2.out; omega), List.take_of_length_le (l := ps) (by have := L1.out; omega), Nat.zero_add] at hv
      have hlt := val_lt oL
      rw [hL] at hlt
      by_cases hb : bo = 0
      · subst hb
        rw [Nat.mul_zero, Nat.add_zero] at hv
        have HF := Lib.hid (show decide (q * val ds ≤ val ps) = true by rw [decide_eq_true_iff]; omega)
        have HV := Lib.hid (show val L = val ps - q * val ds by omega)
        have HL := Lib.hid hL
        clear hv hlt hS hL hLt
        go_wp2_with fail
        go_ret
        exact ⟨by rw [HF.out]; rfl, ⟨L, HL.out, oL, hBr, fun _ => HV.out⟩, ho⟩
      · have hb1 : bo = 1 := by omega
        subst hb1
        rw [Nat.mul_one] at hv
        have hgt : ¬ q * val ds ≤ val ps := by omega
        have HF := Lib.hid (show decide (q * val ds ≤ val ps) = false by rw [decide_eq_false_iff_not]; exact hgt)
        have HG := Lib.hid hgt
        have HL := Lib.hid hL
        clear hv hlt hS hL hLt hb hgt
        go_wp2_with fail
        go_ret
        exact ⟨by rw [HF.out]; rfl, ⟨L, HL.out, oL, hBr, fun h => absurd h HG.out⟩, ho⟩

/-- guessDigit: never below the digit that is sought. -/
def Guess (ps ds : List Nat) (m : Nat) : Nat := min ((lim ps m * 4294967296 + lim ps (m - 1)) / lim ds (m - 1)) 4294967295
theorem guess_ge {ps ds : List Nat} {m q : Nat} (op : Ok ps) (hp : ps.length = m + 1) (hd : ds.length = m) (hm : 0 < m) (hd0 : 0 < lim ds (m - 1)) (hq : q * val ds ≤ val ps) (hqB : q ≤ 4294967295) : q ≤ Guess ps ds m := by
  unfold Guess
  refine Nat.le_min.2 ⟨?_, hqB⟩
  obtain ⟨j, rfl⟩ : ∃ j, m = j + 1 := ⟨m - 1, by omega⟩
  rw [show j + 1 - 1 = j by omega] at hd0 ⊢
  have e1 : val ps = val (ps.take j) + 4294967296 ^ j * (lim ps (j + 1) * 4294967296 + lim ps j) := by
    have h2 : val ps = val (ps.take (j + 1 + 1)) := by rw [List.take_of_length_le (by omega)]
    rw [h2, val_take_succ, val_take_succ, Nat.pow_succ, Nat.mul_add, Nat.mul_assoc, Nat.mul_comm 4294967296 (lim ps (j + 1))]
    omega
  have e2 : 4294967296 ^ j * lim ds j ≤ val ds := by
    have h2 : val ds = val (ds.take (j + 1)) := by rw [List.take_of_length_le (by omega)]
    rw [h2, val_take_succ]
    omega
  have h3 := val_take_lt op j
  have h4 : q * (4294967296 ^ j * lim ds j) ≤ q * val ds := Nat.mul_le_mul_left _ e2
  have h5 : 4294967296 ^ j * (q * lim ds j) < 4294967296 ^ j * (lim ps (j + 1) * 4294967296 + lim ps j + 1) := by
    rw [← Nat.mul_left_comm, Nat.mul_add (4294967296 ^ j) _ 1, Nat.mul_one]
    omega
  have h6 := Nat.lt_of_mul_lt_mul_left h5
  rw [Nat.le_div_iff_mul_le hd0]
  omega

set_option maxHeartbeats 1600000 in
theorem guess_any (A : Option Addr) (cp : Nat) (ps : List Nat) (A2 : Option Addr) (m c2 : Nat) (ds : List Nat) (w : World) (h1 : Sl w A (m + 1) cp ps) (h2 : Sl w A2 m c2 ds) (hm : 0 < m) (hd0 : 0 < lim ds (m - 1)) (hN : m ≤ 1000000000) :
    Calls Tryz.prog 139 #[.slice A (m + 1) cp, .slice A2 m c2] w fun e w' => e = .returned (.int .u64 (Guess ps ds m : Int)) ∧ ∃ nq, w' = w.drewN nq := by
  obtain ⟨b, off, rfl, _, hc⟩ := h1.here (by omega)
  obtain ⟨b', off', rfl, _, hc'⟩ := h2.here (by omega)
  obtain ⟨j, rfl⟩ : ∃ j, m = j + 1 := ⟨m - 1, by omega⟩
  rw [show j + 1 - 1 = j by omega] at hd0
  have g1 := hc (j + 1) (by omega)
  have g2 := hc j (by omega)
  have g3 := hc' j (by omega)
  have x1 := h1.ok.getD (j + 1)
  have x2 := h1.ok.getD j
  have x3 := h2.ok.getD j
  obtain ⟨T, HT⟩ : ∃ T, Hid (T = (lim ps (j + 1) * 4294967296 + lim ps j)) := ⟨_, rfl⟩
  have hor : bits .or .u64 ((lim ps (j + 1) : Int) * 4294967296) (lim ps j : Int) = (T : Int) := by rw [or_join _ _ x1 x2, HT.out]; omega
  have HG : Hid (Guess ps ds (j + 1) = min (T / lim ds j) 4294967295) := by rw [HT.out]; exact rfl
  have i1 : (j : Int) + 1 < (j : Int) + 1 + 1 := by omega
  have i2 : (j : Int) < (j : Int) + 1 + 1 := by omega
  have hdne : ((lim ds j : Nat) : Int) ≠ 0 := by omega
  clear hc hc'
  go_enter Tryz.func139, Tryz.ntmps139
  go_wp2_with fail
  go_quiet (fail)
  go_wp2_with fail
  go_ret
  refine ⟨?_, nq, rfl⟩
  rw [HG.out]
  refine congrArg (fun x => Ending.returned (.int .u64 x)) ?_
  show min (IntKind.u64.wrap ((T : Int) / ((lim ds j : Nat) : Int))) 4294967295 = _
  have hTb : T < 18446744073709551616 := by have := HT.out; omega
  have hle : T / lim ds j ≤ T := Nat.div_le_self _ _
  rw [← Int.natCast_ediv, IntKind.wrap_u64]
  generalize T / lim ds j = t at hle ⊢
  omega
end
end Go.Proofs.YtocnlapbkidinaaGreatDoor
namespace Go.Proofs.YtocnlapbkidinaaGreatDoor
section
open Go.RowKit

theorem div_final {X Y F q R : Nat} (h : X * F = Y * F * q + R) (hR : R < Y * F) (hF : 0 < F) : q = X / Y ∧ R / F = X % Y := by
  have hY : 0 < Y := by
    rcases Nat.eq_zero_or_pos Y with h0 | h0
    · subst h0; rw [Nat.zero_mul] at hR; omega
    · exact h0
  have h1 : X * F / F = X := Nat.mul_div_cancel _ hF
  have h2 : X = Y * q + R / F := by
    rw [← h1, h, Nat.mul_right_comm, Nat.mul_comm (Y * q) F, Nat.mul_add_div hF]
  have h3 : R / F < Y := by rw [Nat.div_lt_iff_lt_mul hF]; exact hR
  constructor
  · rw [h2, Nat.mul_add_div hY, Nat.div_eq_of_lt h3, Nat.add_zero]
  · rw [h2, Nat.mul_add_mod, Nat.mod_eq_of_lt h3]
/-- The number behind a window of limbs: nothing stands above it. -/
theorem window_val {R : List Nat} (_ok : Ok R) {s k D : Nat} (hlen : s + k ≤ R.length) (hlt : val R < D * 4294967296 ^ s) (hD : D ≤ 4294967296 ^ k) : val R = val (R.take s) + 4294967296 ^ s * val ((R.drop s).take k) ∧ val ((R.drop s).take k) < D := by
  have e1 := val_take_drop R s (by omega)
  have e2 := val_take_drop (R.drop s) k (by rw [List.length_drop]; omega)
  have hp := pow_pos' s
  have h0 : val ((R.drop s).drop k) = 0 := by
    rcases Nat.eq_zero_or_pos (val ((R.drop s).drop k)) with h | h
    · exact h
    · exfalso
      have h1 : 4294967296 ^ k ≤ 4294967296 ^ k * val ((R.drop s).drop k) := Nat.le_mul_of_pos_right _ h
      have h2 : D ≤ val (R.drop s) := by omega
      have h3 : 4294967296 ^ s * D ≤ 4294967296 ^ s * val (R.drop s) := Nat.mul_le_mul_left _ h2
      rw [Nat.mul_comm D] at hlt
      omega
  rw [h0, Nat.mul_zero, Nat.add_zero] at e2
  rw [e2] at e1
  refine ⟨e1, ?_⟩
  rcases Nat.lt_or_ge (val ((R.drop s).take k)) D with h | h
  · exact h
  · exfalso
    have h3 : 4294967296 ^ s * D ≤ 4294967296 ^ s * val ((R.drop s).take k) := Nat.mul_le_mul_left _ h
    rw [Nat.mul_comm D] at hlt
    omega
theorem splice_take {α : Type} (R L : List α) (s : Nat) (h : s + L.length ≤ R.length) : (splice R s L).take s = R.take s := by
  unfold splice
  rw [List.take_append_of_le_length (by rw [List.length_take]; omega), List.take_take, Nat.min_self]
theorem splice_val {R L : List Nat} {s k : Nat} (hL : L.length = k) (hlen : s + k ≤ R.length) : val (splice R s L) + 4294967296 ^ s * val ((R.drop s).take k) = val R + 4294967296 ^ s * val L := by
  have e1 := val_take_drop R s (by omega)
  have e2 := val_take_drop (R.drop s) k (by rw [List.length_drop]; omega)
  unfold splice
  rw [val_append, List.length_take, Nat.min_eq_left (by omega), val_append, hL, e1, e2, List.drop_drop, Nat.mul_add, Nat.mul_add]
  omega
theorem splice_ok {R L : List Nat} (oR : Ok R) (oL : Ok L) (s : Nat) : Ok (splice R s L) := (oR.take s).append (oL.append (oR.drop _))
theorem Blk.window {w : World} {g : Nat} {L : List Nat} (h : Blk w g L) (ok : Ok L) (hm : L.length ≤ maxLen) (s k : Nat) (hk : s + k ≤ L.length) : Sl w (some ⟨g, s, none⟩) k (L.length - s) ((L.drop s).take k) :=
  ⟨by rw [List.length_take, List.length_drop]; omega, by omega, by omega, (ok.drop s).take k, fun _ => ⟨g, s, rfl, h.lt, fun i hi => by
    rw [h.cell (s + i) (by omega), lim_eq, lim_eq, List.getElem?_take_of_lt hi, List.getElem?_drop]⟩, fun e => by cases e⟩

/-- What holds at the head of divLong's round: t places are still to come. -/
structure Long (w : World) (gR gQ gL N M m : Nat) (Ab : Option Addr) (cb : Nat) (D R0 t : Nat) (R Q L : List Nat) (wr : World) : Prop where
  lenR : R.length = N
  okR : Ok R
  lenQ : Q.length = M
  okQ : Ok Q
  lowQ : ∀ i, i < t → lim Q i = 0
  lenL : L.length = m + 1
  okL : Ok L
  num : R0 = D * val Q + val R
  lt : val R < D * 4294967296 ^ t
  blkR : Blk wr gR R
  blkQ : Blk wr gQ Q
  blkL : Blk wr gL L
  by_ : Sl wr Ab m cb (limbs D)
  bel : Below w.heap.size w wr

/-- The digit is found: what is left is written back, the digit is put. -/
theorem long_hit {w : World} {gR gQ gL N M m : Nat} {Ab : Option Addr} {cb D R0 s : Nat} {R Q L L' : List Nat} {wr w1 w2 : World} {g : Nat} (h : Long w gR gQ gL N M m Ab cb D R0 (s + 1) R Q L wr)
    (hsN : s + (m + 1) ≤ N) (hsM : s < M) (hD : D * 4294967296 ≤ 4294967296 ^ (m + 1)) (hg : g * D ≤ val ((R.drop s).take (m + 1))) (hgB : g < 4294967296) (hmax : val ((R.drop s).take (m + 1)) / D ≤ g) (hD0 : 0 < D)
    (hL' : L'.length = m + 1) (oL' : Ok L') (hvL : val L' = val ((R.drop s).take (m + 1)) - g * D) (bL : Blk w1 gL L') (o1 : Only gL wr w1) (bR : Blk w2 gR (splice R s L')) (o2 : Only gR w1 w2)
    (nRQ : gR ≠ gQ) (nRL : gR ≠ gL) (nQL : gQ ≠ gL) (hAb : ∀ b off, Ab = some ⟨b, off, none⟩ → b ≠ gR ∧ b ≠ gQ ∧ b ≠ gL) (hw : w.heap.size ≤ gR ∧ w.heap.size ≤ gQ ∧ w.heap.size ≤ gL) {z : Int} (hz : z = (g : Int)) :
    Long w gR gQ gL N M m Ab cb D R0 s (splice R s L') (Q.set s g) L' (w2.setCell ⟨gQ, s, none⟩ (.int .u32 z)) := by
  have hR := h.lenR
  have hQ := h.lenQ
  obtain ⟨e1, e2⟩ := window_val h.okR (s := s) (k := m + 1) (D := D * 4294967296) (by omega) (by rw [Nat.mul_assoc, Nat.mul_comm 4294967296, ← Nat.pow_succ]; exact h.lt) hD
  have e3 := splice_val (R := R) (L := L') (s := s) hL' (by omega)
  have e4 := val_set Q s g (by omega)
  rw [h.lowQ s (by omega), Nat.mul_zero, Nat.add_zero] at e4
  have h5 : val ((R.drop s).take (m + 1)) - g * D < D := by
    have := Nat.lt_mul_div_succ (val ((R.drop s).take (m + 1))) hD0
    have h6 : D * (val ((R.drop s).take (m + 1)) / D + 1) ≤ D * (g + 1) := Nat.mul_le_mul_left _ (by omega)
    rw [Nat.mul_add D g 1, Nat.mul_one, Nat.mul_comm D g] at h6
    omega
  have h7 := val_take_lt h.okR s
  have o3 := Only.setCell gQ s w2 (.int .u32 z)
  refine ⟨?_, splice_ok h.okR oL' s, by simp [hQ], h.okQ.set _ _ hgB, ?_, hL', oL', ?_, ?_, bR.only o3 nRQ, ?_, ?_, ?_, ?_⟩
  · rw [length_splice _ _ _ (by omega), hR]
  · intro i hi
    rw [lim_set_other _ _ _ _ (by omega)]
    exact h.lowQ i (by omega)
  · have hn := h.num
    rw [e4, Nat.mul_add, Nat.mul_left_comm D]
    rw [hvL, Nat.mul_sub, Nat.mul_comm g D] at e3
    have h8 : 4294967296 ^ s * (D * g) ≤ 4294967296 ^ s * val ((R.drop s).take (m + 1)) := Nat.mul_le_mul_left _ (by rw [Nat.mul_comm]; exact hg)
    omega
  · have h9 : 4294967296 ^ s * (val L' + 1) ≤ 4294967296 ^ s * D := Nat.mul_le_mul_left _ (by omega)
    rw [Nat.mul_add, Nat.mul_one] at h9
    rw [Nat.mul_comm D]
    omega
  · subst hz
    exact ((h.blkQ.only o1 nQL).only o2 nRQ.symm).set_ s g
  · exact (bL.only o2 nRL.symm).only o3 nQL.symm
  · exact ((h.by_.only o1 fun b off e => (hAb b off e).2.2).only o2 fun b off e => (hAb b off e).1).only o3 fun b off e => (hAb b off e).2.1
  · exact ((h.bel.trans (o1.below hw.2.2)).trans (o2.below hw.1)).trans (o3.below hw.2.1)
/-- The digit is 0: all stays. -/
theorem long_miss {w : World} {gR gQ gL N M m : Nat} {Ab : Option Addr} {cb D R0 s : Nat} {R Q L : List Nat} {wr : World} (h : Long w gR gQ gL N M m Ab cb D R0 (s + 1) R Q L wr)
    (hsN : s + (m + 1) ≤ N) (hD : D * 4294967296 ≤ 4294967296 ^ (m + 1)) (hP : val ((R.drop s).take (m + 1)) < D) : Long w gR gQ gL N M m Ab cb D R0 s R Q L wr := by
  have hR := h.lenR
  obtain ⟨e1, e2⟩ := window_val h.okR (s := s) (k := m + 1) (D := D * 4294967296) (by omega) (by rw [Nat.mul_assoc, Nat.mul_comm 4294967296, ← Nat.pow_succ]; exact h.lt) hD
  have h7 := val_take_lt h.okR s
  refine ⟨h.lenR, h.okR, h.lenQ, h.okQ, fun i hi => h.lowQ i (by omega), h.lenL, h.okL, h.num, ?_, h.blkR, h.blkQ, h.blkL, h.by_, h.bel⟩
  have h9 : 4294967296 ^ s * (val ((R.drop s).take (m + 1)) + 1) ≤ 4294967296 ^ s * D := Nat.mul_le_mul_left _ hP
  rw [Nat.mul_add, Nat.mul_one] at h9
  rw [Nat.mul_comm D]
  omega
/-- What is left may be written to, and draws change nothing. -/
theorem long_left {w : World} {gR gQ gL N M m : Nat} {Ab : Option Addr} {cb D R0 t : Nat} {R Q L L' : List Nat} {wr w1 : World} (h : Long w gR gQ gL N M m Ab cb D R0 t R Q L wr) (hL' : L'.length = m + 1) (oL' : Ok L') (bL : Blk w1 gL L') (o1 : Only gL wr w1)
    (nRL : gR ≠ gL) (nQL : gQ ≠ gL) (hAb : ∀ b off, Ab = some ⟨b, off, none⟩ → b ≠ gR ∧ b ≠ gQ ∧ b ≠ gL) (hw : w.heap.size ≤ gL) : Long w gR gQ gL N M m Ab cb D R0 t R Q L' w1 :=
  ⟨h.lenR, h.okR, h.lenQ, h.okQ, h.lowQ, hL', oL', h.num, h.lt, h.blkR.only o1 nRL, h.blkQ.only o1 nQL, bL, h.by_.only o1 fun b off e => (hAb b off e).2.2, h.bel.trans (o1.below hw)⟩
theorem long_drewN {w : World} {gR gQ gL N M m : Nat} {Ab : Option Addr} {cb D R0 t : Nat} {R Q L : List Nat} {wr : World} (h : Long w gR gQ gL N M m Ab cb D R0 t R Q L wr) (n : Nat) : Long w gR gQ gL N M m Ab cb D R0 t R Q L (wr.drewN n) :=
  ⟨h.lenR, h.okR, h.lenQ, h.okQ, h.lowQ, h.lenL, h.okL, h.num, h.lt, h.blkR, h.blkQ, h.blkL, h.by_.keep (Nat.le_refl _) fun _ _ => rfl, ⟨h.bel.os, h.bel.tape, h.bel.output, h.bel.size, h.bel.block⟩⟩
end
end Go.Proofs.YtocnlapbkidinaaGreatDoor
namespace Go.Proofs.YtocnlapbkidinaaGreatDoor
section
open Go.RowKit

/-- The shift that brings the highest bit to its limb's top. -/
theorem up_facts (n m : Nat) (h : (limbs n).length = m + 1) : ∃ up, up ≤ 31 ∧ bl n + up = (m + 1) * 32 ∧ n * 2 ^ up < 4294967296 ^ (m + 1) ∧ 4294967296 ^ (m + 1) ≤ 2 * (n * 2 ^ up) ∧ (limbs (n * 2 ^ up)).length = m + 1 ∧ 0 < lim (limbs (n * 2 ^ up)) m := by
  have hb := bl_limbs n m h
  have ht := (limbs_ok n).getD m
  have hn0 : n ≠ 0 := by intro h0; subst h0; simp [limbs_zero] at h
  have htop : lim (limbs n) m ≠ 0 := by
    intro h0
    rw [h0, bl_zero, Nat.add_zero] at hb
    have h1 := bl_lt n
    rw [hb, Nat.mul_comm, Nat.pow_mul] at h1
    have := limbs_len_le (n := n) (k := m) h1
    omega
  have h1 := bl_pos _ htop
  have h2 : bl (lim (limbs n) m) ≤ 32 := by
    rcases Nat.lt_or_ge 32 (bl (lim (limbs n) m)) with h3 | h3
    · exfalso
      have h4 := bl_le _ htop
      have h5 : 2 ^ 32 ≤ 2 ^ (bl (lim (limbs n) m) - 1) := Nat.pow_le_pow_right (by decide) (by omega)
      omega
    · exact h3
  obtain ⟨up, hup⟩ : ∃ up, bl n + up = (m + 1) * 32 := ⟨(m + 1) * 32 - bl n, by omega⟩
  have hp : 4294967296 ^ (m + 1) = 2 ^ (bl n + up) := by rw [hup, Nat.mul_comm (m + 1), Nat.pow_mul]
  have h6 : n * 2 ^ up < 4294967296 ^ (m + 1) := by
    rw [hp, Nat.pow_add]; exact Nat.mul_lt_mul_of_pos_right (bl_lt n) (Nat.pow_pos (by decide))
  have h7 : 4294967296 ^ (m + 1) ≤ 2 * (n * 2 ^ up) := by
    rw [hp, show bl n + up = 1 + ((bl n - 1) + up) by have := bl_pos n hn0; omega, Nat.pow_add, Nat.pow_one, Nat.pow_add]
    exact Nat.mul_le_mul_left _ (Nat.mul_le_mul_right _ (bl_le n hn0))
  have h8 : (limbs (n * 2 ^ up)).length = m + 1 := by
    have h9 := limbs_len_le h6
    rcases Nat.lt_or_ge (limbs (n * 2 ^ up)).length (m + 1) with h10 | h10
    · exfalso
      have h11 := val_lt (limbs_ok (n * 2 ^ up))
      rw [limbs_val] at h11
      have h12 : 4294967296 ^ (limbs (n * 2 ^ up)).length ≤ 4294967296 ^ m := Nat.pow_le_pow_right (by decide) (by omega)
      rw [Nat.pow_succ] at h7
      have := pow_pos' m
      omega
    · omega
  refine ⟨up, by omega, hup, h6, h7, h8, ?_⟩
  rcases Nat.eq_zero_or_pos (lim (limbs (n * 2 ^ up)) m) with h0 | h0
  · exfalso
    have hv := limbs_val (n * 2 ^ up)
    have e := val_take_succ (limbs (n * 2 ^ up)) m
    rw [h0, Nat.mul_zero, ← h8, List.take_length, hv] at e
    rw [Nat.add_zero] at e
    have := val_take_lt (limbs_ok (n * 2 ^ up)) m
    rw [← e] at this
    have := limbs_len_le this
    omega
  · exact h0

set_option maxHeartbeats 6400000 in
theorem divLong_any (A1 : Option Addr) (n c1 : Nat) (xs : List Nat) (A2 : Option Addr) (m c2 : Nat) (ys : List Nat) (w : World) (h1 : Sl w A1 n c1 xs) (h2 : Sl w A2 (m + 1) c2 ys) (hy : (limbs (val ys)).length = m + 1) (hmn : m + 1 ≤ n) (hn : n ≤ 100000000) :
    Calls Tryz.prog 131 #[.slice A1 n c1, .slice A2 (m + 1) c2] w (Gives2 w (val xs / val ys) (val xs % val ys)) := by
  obtain ⟨up, hup, hbl, hD1, hD2, hDl, hDtop⟩ := up_facts (val ys) m hy
  have hupi : ((m : Int) + 1) * 32 - (bl (val ys) : Int) = (up : Int) := by omega
  obtain ⟨D, HD⟩ : ∃ D, Hid (D = val ys * 2 ^ up) := ⟨_, rfl⟩
  rw [← HD.out] at hD1 hD2 hDl hDtop
  have hblb : bl (val ys) ≤ 100000000000 := by omega
  obtain ⟨R0, HR0⟩ : ∃ R0, Hid (R0 = val xs * 2 ^ up) := ⟨_, rfl⟩
  have hR0lt : R0 < 4294967296 ^ (n + 1) := by
    rw [HR0.out]
    have h3 := val_lt h1.ok
    rw [← h1.len] at h3
    rw [Nat.pow_succ]
    have h4 : 2 ^ up ≤ 2 ^ 31 := Nat.pow_le_pow_right (by decide) hup
    exact Nat.mul_lt_mul'' h3 (by omega)
  have hlR0 := limbs_len_le hR0lt
  have hR0D : R0 < D * 4294967296 ^ (n - (m + 1) + 1) := by
    have h3 := val_lt h1.ok
    rw [← h1.len] at h3
    have h4 : 2 ^ up ≤ 2 ^ 31 := Nat.pow_le_pow_right (by decide) hup
    have h5 : R0 < 4294967296 ^ n * 2147483648 := by
      rw [HR0.out]
      exact Nat.lt_of_lt_of_le (Nat.mul_lt_mul_of_pos_right h3 (Nat.pow_pos (by decide))) (Nat.mul_le_mul_left _ (by omega))
    have h6 : 4294967296 ^ (m + 1) * 4294967296 ^ (n - (m + 1) + 1) ≤ 2 * D * 4294967296 ^ (n - (m + 1) + 1) := Nat.mul_le_mul_right _ hD2
    rw [← Nat.pow_add, show m + 1 + (n - (m + 1) + 1) = n + 1 by omega, Nat.pow_succ, Nat.mul_assoc 2] at h6
    omega
  obtain ⟨p, hp⟩ : ∃ p, p + (m + 1) = n := ⟨n - (m + 1), by omega⟩
  rw [show n - (m + 1) + 1 = p + 1 by omega] at hR0D
  have hpi : (n : Int) - ((m : Int) + 1) + 1 = ((p + 1 : Nat) : Int) := by omega
  have hmkR := fun W => make32 ((n : Int) + 1) (n + 1) (by omega) (by omega) W
  have hmkQ := fun W => make32 ((n : Int) - ((m : Int) + 1) + 1) (p + 1) hpi (by omega) W
  have hmkL := fun W => make32 ((m : Int) + 1 + 1) (m + 2) (by omega) (by omega) W
  have HH := Lib.hid (And.intro hy (And.intro hbl hDl))
  have HP := Lib.hid hp
  have hpb : p ≤ 100000000 := by omega
  clear hy hbl hDl hpi hp
  go_enter Tryz.func131, Tryz.ntmps131
  go_wp2_with fail
  go_step3
  go_wp2_with fail
  refine (bits_any _ _ _ _ _ h2 (by omega)).mono ?_
  rintro e w' ⟨rfl, rfl⟩
  go_wp2_with fail
  refine (shift_up_any _ _ _ _ up _ h2 (by omega) (by omega)).mono ?_
  rintro e w1 ⟨vb, rfl, hnb, hb1⟩
  rw [← HD.out] at hnb
  obtain ⟨Ab, mb, cb, rfl, hsb, hAb⟩ := hnb
  obtain rfl : mb = m + 1 := hsb.len.trans HH.out.2.2
  have hAb' : ∀ b off, Ab = some ⟨b, off, none⟩ → b < w1.heap.size := by
    intro b off e
    obtain ⟨b', off', e', hb', _⟩ := hsb.here (by omega)
    rw [e] at e'
    simp only [Option.some.injEq, Addr.mk.injEq] at e'
    omega
  have HAB := Lib.hid hAb'
  clear hAb hAb'
  have s1 := (h1.below hb1).alloc (.cells (madeCells #[Value.int .u32 0] (n + 1)) 78)
  go_wp2_with fail
  refine (shift_up_any _ _ _ _ up _ s1 (by omega) (by omega)).mono ?_
  rintro e w2 ⟨va, rfl, hna, hb2⟩
  rw [← HR0.out] at hna
  obtain ⟨Aa, ca, rfl, hsa⟩ := hna.sl
  have hBR : Blk w2 w1.heap.size (List.replicate (n + 1) 0) := (Blk.made w1 (n + 1)).below hb2 (by simp)
  have HBR := Lib.hid hBR
  clear hna hBR
  obtain ⟨la, HLA⟩ : ∃ l, Hid (l = (limbs R0).length) := ⟨_, rfl⟩
  rw [← HLA.out] at hsa hlR0 ⊢
  go_wp2_with (with_reducible refine wpList_copy_limbs rfl (.tmp 27) (.tmp 30) rfl Tryz.underlying25 (by kernel_rfl) _ _ _ _ _ _ rfl rfl w1.heap.size 0 (List.replicate (n + 1) 0) _ HBR.out hsa (fun _ => rfl) hlR0 (by simp) ?_; intro w3 hB3 ho3)
  have hsz : w1.heap.size < w3.heap.size := by have := hb2.size; have := ho3.size; simp at *; omega
  have hsz0 := hb1.size
  have hbel3 : Below w.heap.size w w3 := (bnext (bnew hb1 _) hb2).trans (ho3.below hb1.size)
  have hsb3 : Sl w3 Ab (m + 1) cb (limbs D) := ((hsb.alloc _).below hb2).only ho3 fun b off e => by have := HAB.out b off e; omega
  have hstart : Long w w1.heap.size w3.heap.size (w3.heap.size + 1) (n + 1) (p + 1) (m + 1) Ab cb D R0 (p + 1) (splice (List.replicate (n + 1) 0) 0 (limbs R0)) (List.replicate (p + 1) 0) (List.replicate (m + 2) 0)
      ((w3.alloc (.cells (madeCells #[Value.int .u32 0] (p + 1)) 78)).alloc (.cells (madeCells #[Value.int .u32 0] (m + 2)) 78)) := by
    have hlen : (splice (List.replicate (n + 1) 0) 0 (limbs R0)).length = n + 1 := by rw [length_splice _ _ _ (by have := HLA.out; simp; omega)]; simp
    have hv : val (splice (List.replicate (n + 1) 0) 0 (limbs R0)) = R0 := by
      have e := splice_val (R := List.replicate (n + 1) 0) (L := limbs R0) (s := 0) HLA.out.symm (by simp; omega)
      rw [val_replicate, limbs_val, List.drop_zero, Nat.pow_zero, Nat.one_mul, Nat.one_mul, Nat.zero_add, List.take_replicate, val_replicate, Nat.add_zero] at e
      exact e
    refine ⟨hlen, splice_ok (Ok.replicate _) (limbs_ok _) 0, by simp, Ok.replicate _, ?_, by simp, Ok.replicate _, ?_, ?_, (hB3.alloc _).alloc _, (Blk.made w3 (p + 1)).alloc _, ?_, (hsb3.alloc _).alloc _, bnew (bnew hbel3 _) _⟩
    · intro i _
      rw [lim_eq, List.getElem?_replicate]; split <;> rfl
    · rw [val_replicate, Nat.mul_zero, Nat.zero_add, hv]
    · rw [hv]; exact hR0D
    · have := Blk.made (w3.alloc (.cells (madeCells #[Value.int .u32 0] (p + 1)) 78)) (m + 2)
      simpa using this
  have HST := Lib.hid hstart
  clear hstart hB3 hsb3 hmkR hmkQ hmkL hupi
  go_step3
  go_wp2_with fail
  go_loopg [11] (p + 1) (fun t i wr => ∃ R Q L, i = .int .i64 ((t : Int) - 1) ∧ t ≤ p + 1 ∧ Long w w1.heap.size w3.heap.size (w3.heap.size + 1) (n + 1) (p + 1) (m + 1) Ab cb D R0 t R Q L wr)
  case atStart => exact ⟨_, _, _, (by first | go_num | exact congrArg (Value.int .i64) (by have := HP.out; omega)), Nat.le_refl _, HST.out⟩
  case round =>
    obtain ⟨R, Q, L, rfl, ht, hlong⟩ := hrel
    obtain ⟨wo, rfl⟩ : ∃ wo : World, wo = wr := ⟨_, rfl⟩
    rcases gk with _ | t
    · have hnum := hlong.num
      have hlt := hlong.lt
      rw [Nat.pow_zero, Nat.mul_one, HD.out] at hlt
      rw [HR0.out, HD.out] at hnum
      obtain ⟨eq1, eq2⟩ := div_final hnum hlt (Nat.pow_pos (by decide))
      have hslQ := hlong.blkQ.slAll hlong.okQ (by rw [hlong.lenQ]; unfold maxLen; omega)
      have hnewQ := hlong.blkQ.new (base := w.heap.size) hlong.okQ (by rw [hlong.lenQ]; unfold maxLen; omega) (by omega)
      rw [hlong.lenQ] at hslQ hnewQ
      have hslR := hlong.blkR.slAll hlong.okR (by rw [hlong.lenR]; unfold maxLen; omega)
      rw [hlong.lenR] at hslR
      have hbel := hlong.bel
      have HE := Lib.hid (And.intro eq1 eq2)
      have HNQ := Lib.hid hnewQ
      clear hnum hlt eq1 eq2 hnewQ hlong
      by_cases hu0 : up = 0
      · subst hu0
        go_wp2_with fail
        refine (trim_any _ _ _ _ _ hslQ).mono ?_
        rintro e w' ⟨rfl, rfl⟩
        go_wp2_with fail
        refine (shift_up_any _ _ _ _ 0 _ hslR (by omega) (by omega)).mono ?_
        rintro e w6 ⟨v6, rfl, hn6, hb6⟩
        go_wp2_with fail
        try rw [Exit.noGoto_ret]
        go_ret2
        rw [Nat.pow_zero, Nat.mul_one] at hn6
        have e2 := HE.out.2
        rw [Nat.pow_zero, Nat.div_one] at e2
        rw [e2] at hn6
        have e1 := HE.out.1
        refine ⟨_, _, rfl, ?_, hn6.from_ hbel.size, bnext hbel hb6⟩
        rw [← e1]
        exact HNQ.out.next hb6
      · have hu1 : 0 < up := by omega
        go_wp2_with fail
        refine (trim_any _ _ _ _ _ hslQ).mono ?_
        rintro e w' ⟨rfl, rfl⟩
        go_wp2_with fail
        refine (shift_down_any _ _ _ _ up _ hslR (by omega) hu1 (by omega)).mono ?_
        rintro e w6 ⟨v6, rfl, hn6, hb6⟩
        go_wp2_with fail
        try rw [Exit.noGoto_ret]
        go_ret2
        rw [HE.out.2] at hn6
        have e1 := HE.out.1
        refine ⟨_, _, rfl, ?_, hn6.from_ hbel.size, bnext hbel hb6⟩
        rw [← e1]
        exact HNQ.out.next hb6
    · rw [show (((t + 1 : Nat) : Int) - 1) = (t : Int) by omega]
      have hN := hlong.lenR
      have hmax : R.length ≤ maxLen := by rw [hN]; unfold maxLen; omega
      have hwin := hlong.blkR.window hlong.okR hmax t (m + 1 + 1) (by have := HP.out; omega)
      rw [hN] at hwin
      clear hN hmax
      have i1 : (t : Int) + ((m : Int) + 2) ≤ (n : Int) + 1 := by have := HP.out; omega
      have i2 : t < n + 1 := by have := HP.out; omega
      have hDB : D * 4294967296 ≤ 4294967296 ^ (m + 1 + 1) := by rw [Nat.pow_succ]; exact Nat.mul_le_mul_right _ (Nat.le_of_lt hD1)
      have hD0 : 0 < D := by have := pow_pos' (m + 1); omega
      obtain ⟨_, hPlt⟩ := window_val hlong.okR (s := t) (k := m + 1 + 1) (D := D * 4294967296) (by have := hlong.lenR; have := HP.out; omega) (by rw [Nat.mul_assoc, Nat.mul_comm 4294967296, ← Nat.pow_succ]; exact hlong.lt) hDB
      have hqB : val ((R.drop t).take (m + 1 + 1)) / D ≤ 4294967295 := by
        have : val ((R.drop t).take (m + 1 + 1)) / D < 4294967296 := by rw [Nat.div_lt_iff_lt_mul hD0, Nat.mul_comm]; exact hPlt
        omega
      have hgq := guess_ge (ps := (R.drop t).take (m + 1 + 1)) (ds := limbs D) (m := m + 1) hwin.ok hwin.len.symm HH.out.2.2 (by omega) hDtop (q := val ((R.drop t).take (m + 1 + 1)) / D) (by rw [limbs_val]; exact Nat.div_mul_le_self _ _) hqB
      have hgB : Guess ((R.drop t).take (m + 1 + 1)) (limbs D) (m + 1) ≤ 4294967295 := Nat.min_le_right _ _
      go_wp2_with fail
      refine (guess_any _ _ _ _ (m + 1) _ _ _ hwin hlong.by_ (by omega) hDtop (by omega)).mono ?_
      rintro e w' ⟨rfl, nq, rfl⟩
      simp only [show t + (m + 2) - t = m + 2 by omega]
      generalize Guess ((R.drop t).take (m + 1 + 1)) (limbs D) (m + 1) = G at hgq hgB ⊢
      have hlong2 := long_drewN hlong nq
      obtain ⟨P, HPv⟩ : ∃ P, Hid (P = val ((R.drop t).take (m + 1 + 1))) := ⟨_, rfl⟩
      rw [← HPv.out] at hgq hPlt
      have HLG := Lib.hid hlong2
      clear hlong hlong2 hwin hqB
      go_wp2_with fail
      go_loopg [13] G (fun g i ws => ∃ L, i = .int .u64 g ∧ P / D ≤ g ∧ g ≤ 4294967295 ∧ Long w w1.heap.size w3.heap.size (w3.heap.size + 1) (n + 1) (p + 1) (m + 1) Ab cb D R0 (t + 1) R Q L ws)
      case atStart => exact ⟨_, rfl, hgq, hgB, HLG.out⟩
      case round =>
        obtain ⟨L2, rfl, hg1, hg2, hl2⟩ := hrel
        rcases gk with _ | g
        · have hP0 : P < D := by
            have := Nat.lt_mul_div_succ P hD0
            rw [Nat.le_zero.1 hg1, Nat.zero_add, Nat.mul_one] at this
            exact this
          have hmiss := long_miss hl2 (by have := HP.out; omega) hDB (by rw [← HPv.out]; exact hP0)
          have HM := Lib.hid hmiss
          clear hmiss hl2
          go_wp2_with fail
          go_roundg t
          case measure => omega
          case rel => exact ⟨_, _, _, by go_num, by omega, HM.out⟩
        · have hN := hl2.lenR
          have hwin := hl2.blkR.window hl2.okR (by rw [hN]; unfold maxLen; omega) t (m + 1 + 1) (by have := HP.out; omega)
          rw [hN] at hwin
          have hLl := hl2.lenL
          have d1 : ∀ b off, (some ⟨w1.heap.size, t, none⟩ : Option Addr) = some ⟨b, off, none⟩ → b ≠ w3.heap.size + 1 := by
            intro b off e
            simp only [Option.some.injEq, Addr.mk.injEq] at e
            omega
          have d2 : ∀ b off, Ab = some ⟨b, off, none⟩ → b ≠ w3.heap.size + 1 := fun b off e => by have := HAB.out b off e; omega
          have hAb3 : ∀ b off, Ab = some ⟨b, off, none⟩ → b ≠ w1.heap.size ∧ b ≠ w3.heap.size ∧ b ≠ w3.heap.size + 1 := fun b off e => by have := HAB.out b off e; omega
          have htake := takeAway_any (w3.heap.size + 1) (m + 2) (m + 1 + 1) _ (n + 1 - t) _ Ab (m + 1) cb (limbs D) L2 (g + 1) wr hl2.blkL hLl hl2.okL hwin hl2.by_ (by omega) (by omega) d1 d2 (by omega)
          rw [limbs_val, ← HPv.out] at htake
          have HTK := Lib.hid htake
          have HAB3 := Lib.hid hAb3
          have HL2 := Lib.hid hl2
          clear htake d1 d2 hAb3 hN hLl hwin hl2
          go_wp2_with fail
          refine HTK.out.mono ?_
          rintro e w4 ⟨rfl, ⟨L3, hL3, oL3, bL3, hv3⟩, o4⟩
          clear HTK
          by_cases hle : (g + 1) * D ≤ P
          · have hdec : decide ((g + 1) * D ≤ P) = true := decide_eq_true hle
            rw [hdec]
            have hsl3 := bL3.slAll oL3 (by rw [hL3]; unfold maxLen; omega)
            rw [hL3] at hsl3
            have bR4 := HL2.out.blkR.only o4 (by omega)
            have bQ4 := HL2.out.blkQ.only o4 (by omega)
            have HV := Lib.hid (hv3 hle)
            have HB4 := Lib.hid (And.intro bR4 bQ4)
            have HLE := Lib.hid (And.intro hle hL3)
            have hRl := Lib.hid HL2.out.lenR
            clear hv3 bR4 bQ4 hdec hle hL3
            go_wp2_with (with_reducible refine wpList_copy_limbs rfl (.tmp 69) (.tmp 70) rfl Tryz.underlying25 (by kernel_rfl) _ _ _ _ _ _ rfl rfl w1.heap.size t R _ HB4.out.1 hsl3 (fun _ => rfl) (Nat.le_refl _) (by rw [hRl.out]; have := HP.out; omega) ?_; intro w5 hB5 ho5; have hf5 := (HB4.out.2.only ho5 (by omega)).frozen t; have hc5 := (HB4.out.2.only ho5 (by omega)).cell t (by rw [HL2.out.lenQ]; omega))
            have hhit := long_hit (z := (g : Int) + 1) HL2.out (by have := HP.out; omega) (by omega) hDB (by rw [← HPv.out]; exact HLE.out.1) (by omega) (by rw [← HPv.out]; exact hg1) hD0 HLE.out.2 oL3 (by rw [← HPv.out]; exact HV.out) bL3 o4 hB5 ho5 (by omega) (by omega) (by omega) HAB3.out ⟨by omega, by omega, by omega⟩ (by omega)
            go_roundg t
            case measure => omega
            case rel => exact ⟨_, _, _, by go_num, by omega, hhit⟩
          · have hdec : decide ((g + 1) * D ≤ P) = false := decide_eq_false hle
            rw [hdec]
            have hgt : P / D ≤ g := by
              have h9 : P < (g + 1) * D := by omega
              have : P / D < g + 1 := by rw [Nat.div_lt_iff_lt_mul hD0]; exact h9
              omega
            have hleft := long_left HL2.out hL3 oL3 bL3 o4 (by omega) (by omega) HAB3.out (by omega)
            have HLF := Lib.hid hleft
            clear hleft hv3 hL3 hdec hle
            go_wp2_with fail
            go_roundg g
            case measure => omega
            case rel => exact ⟨_, by go_num, hgt, by omega, HLF.out⟩
end
end Go.Proofs.YtocnlapbkidinaaGreatDoor
namespace Go.Proofs.YtocnlapbkidinaaGreatDoor
section
open Go.RowKit

set_option maxHeartbeats 800000 in
theorem div_long_any (A1 : Option Addr) (n1 c1 : Nat) (xs : List Nat) (A2 : Option Addr) (n2 c2 : Nat) (ys : List Nat) (w : World) (h1 : Sl w A1 n1 c1 xs) (h2 : Sl w A2 n2 c2 ys) (b1 : n1 ≤ 100000000) (hle : (limbs (val ys)).length ≤ (limbs (val xs)).length) (hone : 1 < (limbs (val ys)).length) :
    Calls Tryz.prog 114 #[.slice A1 n1 c1, .slice A2 n2 c2] w (Gives2 w (val xs / val ys) (val xs % val ys)) := by
  have t1 := h1.trim
  have t2 := h2.trim
  have k1 := limbs_len_val h1.ok
  have k3 := h1.len
  have hvx := limbs_val (val xs)
  have hvy := limbs_val (val ys)
  obtain ⟨m1, M1⟩ : ∃ m, Hid (m = (limbs (val xs)).length) := ⟨_, rfl⟩
  obtain ⟨m, hm⟩ : ∃ m, (limbs (val ys)).length = m + 1 := ⟨(limbs (val ys)).length - 1, by omega⟩
  have M2 : Hid (m + 1 = (limbs (val ys)).length) := hm.symm
  rw [← M1.out] at t1 k1 hle
  rw [hm] at t2 hle hone
  have bm1 : m1 ≤ 100000000 := by omega
  have e0 : (((m : Int) + 1) == 0) = false := beq_eq_false_iff_ne.2 (by omega)
  have e1 : (((m : Int) + 1) == 1) = false := beq_eq_false_iff_ne.2 (by omega)
  have hdiv := divLong_any A1 m1 c1 _ A2 m c2 _ w t1 t2 (by rw [hvy, hm]) hle bm1
  rw [hvx, hvy] at hdiv
  have HDV := Lib.hid hdiv
  clear k1 k3 hvx hvy hm hdiv
  go_enter Tryz.func114, Tryz.ntmps114
  go_wp2_with fail
  refine (trim_at _ _ _ _ _ h1 m1 M1).mono ?_
  rintro e w' ⟨rfl, rfl⟩
  go_wp2_with fail
  refine (trim_at _ _ _ _ _ h2 (m + 1) M2).mono ?_
  rintro e w' ⟨rfl, rfl⟩
  go_wp2_with fail
  refine HDV.out.mono ?_
  rintro e w1 ⟨u, v, rfl, hu, hv, hb⟩
  go_wp2_with fail
  go_ret2
  exact ⟨u, v, rfl, hu, hv, hb⟩

/-- What is left: nothing of b nought. -/
def remZ (a b : Nat) : Nat := if b = 0 then 0 else a % b
theorem div_num {w : World} {u v : Value} {a b K L : Nat} (hu : Num w u a K) (hv : Num w v b L) (hK : K ≤ 100000000) : Calls Tryz.prog 114 #[u, v] w (Gives2 w (a / b) (remZ a b)) := by
  obtain ⟨A1, n1, c1, xs, rfl, s1, rfl, k1⟩ := hu
  obtain ⟨A2, n2, c2, ys, rfl, s2, rfl, k2⟩ := hv
  unfold remZ
  by_cases h0 : val ys = 0
  · rw [if_pos h0, h0, Nat.div_zero]
    exact div_zero_any _ _ _ _ _ _ _ _ _ s1 s2 h0
  · rw [if_neg h0]
    have hl0 : (limbs (val ys)).length ≠ 0 := by
      intro h
      exact h0 ((limbs_nil_iff _).1 (List.eq_nil_of_length_eq_zero h))
    by_cases h1 : (limbs (val ys)).length = 1
    · exact div_one_any _ _ _ _ _ _ _ _ _ s1 s2 (by omega) h1
    · by_cases h2 : (limbs (val xs)).length < (limbs (val ys)).length
      · have hlt := lt_of_len h2
        rw [Nat.div_eq_of_lt hlt, Nat.mod_eq_of_lt hlt]
        exact div_less_any _ _ _ _ _ _ _ _ _ s1 s2 (by omega) h2 (by omega)
      · exact div_long_any _ _ _ _ _ _ _ _ _ s1 s2 (by omega) (by omega) (by omega)
end
end Go.Proofs.YtocnlapbkidinaaGreatDoor
namespace Go.Proofs.YtocnlapbkidinaaGreatDoor
section
open Go.RowKit

/-- A byte's digit. -/
def dig (c : UInt8) : Nat := digN c.toNat
theorem dig_chr (d : Nat) (h : d < 36) : dig (chr d) = d := by
  have : ∀ d : Fin 36, dig (chr d.1) = d.1 := by decide
  exact this ⟨d, h⟩
theorem numB_map (b : Nat) (l : List UInt8) : numB b l = (l.map dig).foldl (fun a d => a * b + d) 0 := by
  rw [numB, List.foldl_map]; rfl
theorem numB_congr (b : Nat) {l l' : List UInt8} (h : l.map dig = l'.map dig) : numB b l = numB b l' := by rw [numB_map, numB_map, h]
theorem foldl_zeros (b : Nat) (z : Nat) (l : List Nat) : (List.replicate z 0 ++ l).foldl (fun a d => a * b + d) 0 = l.foldl (fun a d => a * b + d) 0 := by
  induction z with
  | zero => rfl
  | succ z ih => rw [List.replicate_succ, List.cons_append, List.foldl_cons, Nat.zero_mul, Nat.add_zero]; exact ih
theorem numB_zeros (b z : Nat) {l l' : List UInt8} (h : l.map dig = List.replicate z 0 ++ l'.map dig) : numB b l = numB b l' := by
  rw [numB_map, h, foldl_zeros, ← numB_map]
theorem numB_digits (b : Nat) (hb : b ≤ 36) (ds : List Nat) (h : Okb b ds) : numB b (ds.reverse.map chr) = valb b ds := by
  induction ds with
  | nil => rfl
  | cons x xs ih =>
    rw [List.reverse_cons, List.map_append, List.map_singleton, numB_snoc, ih h.tail, valb_cons]
    have : digN (chr x).toNat = x := dig_chr x (by have := h.head; omega)
    rw [this, Nat.mul_comm, Nat.add_comm]
theorem numB_txt (b n : Nat) (hb : 2 ≤ b) (hb2 : b ≤ 36) : numB b (txt b n) = n := by
  unfold txt
  split
  · rename_i h; subst h; simp [numB, digN]
  · rw [numB_digits b hb2 _ (digs_ok b n (by omega)), digs_val b n hb]
theorem good_txt (b n : Nat) (hb : 2 ≤ b) (hb2 : b ≤ 36) : ∀ c ∈ txt b n, dig c < b := by
  unfold txt
  split
  · intro c hc
    simp at hc
    subst hc
    simp [dig, digN]; omega
  · intro c hc
    obtain ⟨d, hd, rfl⟩ := List.mem_map.1 hc
    have := digs_ok b n (by omega) d (List.mem_reverse.1 hd)
    rw [dig_chr d (by omega)]
    exact this
theorem txt_pos (b n : Nat) (hb : 2 ≤ b) : 1 ≤ (txt b n).length := by
  unfold txt
  split
  · simp
  · rename_i h
    rw [List.length_map, List.length_reverse]
    rcases Nat.eq_zero_or_pos (digs b n).length with h0 | h0
    · exact absurd ((digs_nil_iff b n hb).1 (List.eq_nil_of_length_eq_zero h0)) h
    · exact h0
theorem digs_len (b n : Nat) (hb : 2 ≤ b) (m : Nat) (h : (digs b n).length = m + 1) : b ^ m ≤ n := by
  have ht : trimL (digs b n) = digs b n := trimL_idem _
  have e : digs b n = (digs b n).take m ++ [lim (digs b n) m] := by
    rw [← take_snoc _ _ (by omega), ← h, List.take_length]
  have hne : lim (digs b n) m ≠ 0 := by
    intro h0
    rw [h0] at e
    rw [e, trimL_snoc_zero] at ht
    have := trimL_len ((digs b n).take m)
    rw [ht] at this
    simp [h] at this
    omega
  have hv := digs_val b n hb
  rw [e, valb_snoc, List.length_take, Nat.min_eq_left (by omega)] at hv
  have : b ^ m ≤ b ^ m * lim (digs b n) m := Nat.le_mul_of_pos_right _ (by omega)
  omega
theorem txt_len (b n K : Nat) (hb : 2 ≤ b) (h : n < 4294967296 ^ K) : (txt b n).length ≤ 32 * K + 1 := by
  unfold txt
  split
  · simp
  · rw [List.length_map, List.length_reverse]
    rcases hm : (digs b n).length with _ | m
    · omega
    · have h1 := digs_len b n hb m hm
      have h2 : 2 ^ m ≤ b ^ m := Nat.pow_le_pow_left hb m
      have h3 : 2 ^ m < 2 ^ (32 * K) := by
        rw [Nat.pow_mul]; exact Nat.lt_of_le_of_lt (Nat.le_trans h2 h1) h
      have := (Nat.pow_lt_pow_iff_right (by decide : 1 < 2)).1 h3
      omega
theorem good_of_list {s : ByteArray} {b : Nat} (h : ∀ c ∈ s.data.toList, dig c < b) : ∀ k (hk : k < s.size), digN s[k].toNat < b := by
  intro k hk
  exact h s[k] (by
    have : s[k] = s.data.toList[k]'(by simpa using hk) := rfl
    rw [this]; exact List.getElem_mem _)
theorem good_of_dig {l l' : List UInt8} {b z : Nat} (hb : 0 < b) (h : l.map dig = List.replicate z 0 ++ l'.map dig) (hg : ∀ c ∈ l', dig c < b) : ∀ c ∈ l, dig c < b := by
  intro c hc
  have : dig c ∈ l.map dig := List.mem_map.2 ⟨c, hc, rfl⟩
  rw [h, List.mem_append] at this
  rcases this with h1 | h1
  · rw [List.eq_of_mem_replicate h1]; exact hb
  · obtain ⟨d, hd, e⟩ := List.mem_map.1 h1
    rw [← e]; exact hg d hd
/-- A letter's capital has its digit. -/
theorem dig_capital (c : Nat) (h1 : 97 ≤ c) (h2 : c ≤ 122) : digN (c - 32) = digN c := by
  unfold digN
  rw [if_neg (by omega), if_neg (by omega), if_pos (by omega), if_neg (by omega), if_pos (by omega)]
  omega
theorem digN_36 (c : Nat) (h : 122 < c) : digN c = 36 := by
  unfold digN
  rw [if_neg (by omega), if_neg (by omega), if_neg (by omega)]
end
end Go.Proofs.YtocnlapbkidinaaGreatDoor
