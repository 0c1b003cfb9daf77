/-
  nat.divLong: the plain part, and what holds round by round.
-/
import Derived.Test.YtjildimhflondaaDoorTake
namespace Go.Proofs.YtjildimhflondaaDoor
open Go.RowKit

theorem div_final {X Y F q R : Nat} (h : X * F = Y * F * q + R) (hR : R < Y * F) (hF : 0 < F) : q = X / Y ∧ R / F = X % Y := by
  have hY : 0 < Y := by
    rcases Nat.eq_zero_or_pos Y with h0 | h0
    · subst h0; rw [Nat.zero_mul] at hR; omega
    · exact h0
  have h1 : X * F / F = X := Nat.mul_div_cancel _ hF
  have h2 : X = Y * q + R / F := by
    rw [← h1, h, Nat.mul_right_comm, Nat.mul_comm (Y * q) F, Nat.mul_add_div hF]
  have h3 : R / F < Y := by rw [Nat.div_lt_iff_lt_mul hF]; exact hR
  constructor
  · rw [h2, Nat.mul_add_div hY, Nat.div_eq_of_lt h3, Nat.add_zero]
  · rw [h2, Nat.mul_add_mod, Nat.mod_eq_of_lt h3]
/-- The number behind a window of limbs: nothing stands above it. -/
theorem window_val {R : List Nat} (_ok : Ok R) {s k D : Nat} (hlen : s + k ≤ R.length) (hlt : val R < D * 4294967296 ^ s) (hD : D ≤ 4294967296 ^ k) : val R = val (R.take s) + 4294967296 ^ s * val ((R.drop s).take k) ∧ val ((R.drop s).take k) < D := by
  have e1 := val_take_drop R s (by omega)
  have e2 := val_take_drop (R.drop s) k (by rw [List.length_drop]; omega)
  have hp := pow_pos' s
  have h0 : val ((R.drop s).drop k) = 0 := by
    rcases Nat.eq_zero_or_pos (val ((R.drop s).drop k)) with h | h
    · exact h
    · exfalso
      have h1 : 4294967296 ^ k ≤ 4294967296 ^ k * val ((R.drop s).drop k) := Nat.le_mul_of_pos_right _ h
      have h2 : D ≤ val (R.drop s) := by omega
      have h3 : 4294967296 ^ s * D ≤ 4294967296 ^ s * val (R.drop s) := Nat.mul_le_mul_left _ h2
      rw [Nat.mul_comm D] at hlt
      omega
  rw [h0, Nat.mul_zero, Nat.add_zero] at e2
  rw [e2] at e1
  refine ⟨e1, ?_⟩
  rcases Nat.lt_or_ge (val ((R.drop s).take k)) D with h | h
  · exact h
  · exfalso
    have h3 : 4294967296 ^ s * D ≤ 4294967296 ^ s * val ((R.drop s).take k) := Nat.mul_le_mul_left _ h
    rw [Nat.mul_comm D] at hlt
    omega
theorem splice_take {α : Type} (R L : List α) (s : Nat) (h : s + L.length ≤ R.length) : (splice R s L).take s = R.take s := by
  unfold splice
  rw [List.take_append_of_le_length (by rw [List.length_take]; omega), List.take_take, Nat.min_self]
theorem splice_val {R L : List Nat} {s k : Nat} (hL : L.length = k) (hlen : s + k ≤ R.length) : val (splice R s L) + 4294967296 ^ s * val ((R.drop s).take k) = val R + 4294967296 ^ s * val L := by
  have e1 := val_take_drop R s (by omega)
  have e2 := val_take_drop (R.drop s) k (by rw [List.length_drop]; omega)
  unfold splice
  rw [val_append, List.length_take, Nat.min_eq_left (by omega), val_append, hL, e1, e2, List.drop_drop, Nat.mul_add, Nat.mul_add]
  omega
theorem splice_ok {R L : List Nat} (oR : Ok R) (oL : Ok L) (s : Nat) : Ok (splice R s L) := (oR.take s).append (oL.append (oR.drop _))
theorem Blk.window {w : World} {g : Nat} {L : List Nat} (h : Blk w g L) (ok : Ok L) (hm : L.length ≤ maxLen) (s k : Nat) (hk : s + k ≤ L.length) : Sl w (some ⟨g, s, none⟩) k (L.length - s) ((L.drop s).take k) :=
  ⟨by rw [List.length_take, List.length_drop]; omega, by omega, by omega, (ok.drop s).take k, fun _ => ⟨g, s, rfl, h.lt, fun i hi => by
    rw [h.cell (s + i) (by omega), lim_eq, lim_eq, List.getElem?_take_of_lt hi, List.getElem?_drop]⟩, fun e => by cases e⟩

/-- What holds at the head of divLong's round: t places are still to come. -/
structure Long (w : World) (gR gQ gL N M m : Nat) (Ab : Option Addr) (cb : Nat) (D R0 t : Nat) (R Q L : List Nat) (wr : World) : Prop where
  lenR : R.length = N
  okR : Ok R
  lenQ : Q.length = M
  okQ : Ok Q
  lowQ : ∀ i, i < t → lim Q i = 0
  lenL : L.length = m + 1
  okL : Ok L
  num : R0 = D * val Q + val R
  lt : val R < D * 4294967296 ^ t
  blkR : Blk wr gR R
  blkQ : Blk wr gQ Q
  blkL : Blk wr gL L
  by_ : Sl wr Ab m cb (limbs D)
  bel : Below w.heap.size w wr

/-- The digit is found: what is left is written back, the digit is put. -/
theorem long_hit {w : World} {gR gQ gL N M m : Nat} {Ab : Option Addr} {cb D R0 s : Nat} {R Q L L' : List Nat} {wr w1 w2 : World} {g : Nat} (h : Long w gR gQ gL N M m Ab cb D R0 (s + 1) R Q L wr)
    (hsN : s + (m + 1) ≤ N) (hsM : s < M) (hD : D * 4294967296 ≤ 4294967296 ^ (m + 1)) (hg : g * D ≤ val ((R.drop s).take (m + 1))) (hgB : g < 4294967296) (hmax : val ((R.drop s).take (m + 1)) / D ≤ g) (hD0 : 0 < D)
    (hL' : L'.length = m + 1) (oL' : Ok L') (hvL : val L' = val ((R.drop s).take (m + 1)) - g * D) (bL : Blk w1 gL L') (o1 : Only gL wr w1) (bR : Blk w2 gR (splice R s L')) (o2 : Only gR w1 w2)
    (nRQ : gR ≠ gQ) (nRL : gR ≠ gL) (nQL : gQ ≠ gL) (hAb : ∀ b off, Ab = some ⟨b, off, none⟩ → b ≠ gR ∧ b ≠ gQ ∧ b ≠ gL) (hw : w.heap.size ≤ gR ∧ w.heap.size ≤ gQ ∧ w.heap.size ≤ gL) {z : Int} (hz : z = (g : Int)) :
    Long w gR gQ gL N M m Ab cb D R0 s (splice R s L') (Q.set s g) L' (w2.setCell ⟨gQ, s, none⟩ (.int .u32 z)) := by
  have hR := h.lenR
  have hQ := h.lenQ
  obtain ⟨e1, e2⟩ := window_val h.okR (s := s) (k := m + 1) (D := D * 4294967296) (by omega) (by rw [Nat.mul_assoc, Nat.mul_comm 4294967296, ← Nat.pow_succ]; exact h.lt) hD
  have e3 := splice_val (R := R) (L := L') (s := s) hL' (by omega)
  have e4 := val_set Q s g (by omega)
  rw [h.lowQ s (by omega), Nat.mul_zero, Nat.add_zero] at e4
  have h5 : val ((R.drop s).take (m + 1)) - g * D < D := by
    have := Nat.lt_mul_div_succ (val ((R.drop s).take (m + 1))) hD0
    have h6 : D * (val ((R.drop s).take (m + 1)) / D + 1) ≤ D * (g + 1) := Nat.mul_le_mul_left _ (by omega)
    rw [Nat.mul_add D g 1, Nat.mul_one, Nat.mul_comm D g] at h6
    omega
  have h7 := val_take_lt h.okR s
  have o3 := Only.setCell gQ s w2 (.int .u32 z)
  refine ⟨?_, splice_ok h.okR oL' s, by simp [hQ], h.okQ.set _ _ hgB, ?_, hL', oL', ?_, ?_, bR.only o3 nRQ, ?_, ?_, ?_, ?_⟩
  · rw [length_splice _ _ _ (by omega), hR]
  · intro i hi
    rw [lim_set_other _ _ _ _ (by omega)]
    exact h.lowQ i (by omega)
  · have hn := h.num
    rw [e4, Nat.mul_add, Nat.mul_left_comm D]
    rw [hvL, Nat.mul_sub, Nat.mul_comm g D] at e3
    have h8 : 4294967296 ^ s * (D * g) ≤ 4294967296 ^ s * val ((R.drop s).take (m + 1)) := Nat.mul_le_mul_left _ (by rw [Nat.mul_comm]; exact hg)
    omega
  · have h9 : 4294967296 ^ s * (val L' + 1) ≤ 4294967296 ^ s * D := Nat.mul_le_mul_left _ (by omega)
    rw [Nat.mul_add, Nat.mul_one] at h9
    rw [Nat.mul_comm D]
    omega
  · subst hz
    exact ((h.blkQ.only o1 nQL).only o2 nRQ.symm).set_ s g
  · exact (bL.only o2 nRL.symm).only o3 nQL.symm
  · exact ((h.by_.only o1 fun b off e => (hAb b off e).2.2).only o2 fun b off e => (hAb b off e).1).only o3 fun b off e => (hAb b off e).2.1
  · exact ((h.bel.trans (o1.below hw.2.2)).trans (o2.below hw.1)).trans (o3.below hw.2.1)
/-- The digit is 0: all stays. -/
theorem long_miss {w : World} {gR gQ gL N M m : Nat} {Ab : Option Addr} {cb D R0 s : Nat} {R Q L : List Nat} {wr : World} (h : Long w gR gQ gL N M m Ab cb D R0 (s + 1) R Q L wr)
    (hsN : s + (m + 1) ≤ N) (hD : D * 4294967296 ≤ 4294967296 ^ (m + 1)) (hP : val ((R.drop s).take (m + 1)) < D) : Long w gR gQ gL N M m Ab cb D R0 s R Q L wr := by
  have hR := h.lenR
  obtain ⟨e1, e2⟩ := window_val h.okR (s := s) (k := m + 1) (D := D * 4294967296) (by omega) (by rw [Nat.mul_assoc, Nat.mul_comm 4294967296, ← Nat.pow_succ]; exact h.lt) hD
  have h7 := val_take_lt h.okR s
  refine ⟨h.lenR, h.okR, h.lenQ, h.okQ, fun i hi => h.lowQ i (by omega), h.lenL, h.okL, h.num, ?_, h.blkR, h.blkQ, h.blkL, h.by_, h.bel⟩
  have h9 : 4294967296 ^ s * (val ((R.drop s).take (m + 1)) + 1) ≤ 4294967296 ^ s * D := Nat.mul_le_mul_left _ hP
  rw [Nat.mul_add, Nat.mul_one] at h9
  rw [Nat.mul_comm D]
  omega
/-- What is left may be written to, and draws change nothing. -/
theorem long_left {w : World} {gR gQ gL N M m : Nat} {Ab : Option Addr} {cb D R0 t : Nat} {R Q L L' : List Nat} {wr w1 : World} (h : Long w gR gQ gL N M m Ab cb D R0 t R Q L wr) (hL' : L'.length = m + 1) (oL' : Ok L') (bL : Blk w1 gL L') (o1 : Only gL wr w1)
    (nRL : gR ≠ gL) (nQL : gQ ≠ gL) (hAb : ∀ b off, Ab = some ⟨b, off, none⟩ → b ≠ gR ∧ b ≠ gQ ∧ b ≠ gL) (hw : w.heap.size ≤ gL) : Long w gR gQ gL N M m Ab cb D R0 t R Q L' w1 :=
  ⟨h.lenR, h.okR, h.lenQ, h.okQ, h.lowQ, hL', oL', h.num, h.lt, h.blkR.only o1 nRL, h.blkQ.only o1 nQL, bL, h.by_.only o1 fun b off e => (hAb b off e).2.2, h.bel.trans (o1.below hw)⟩
theorem long_drewN {w : World} {gR gQ gL N M m : Nat} {Ab : Option Addr} {cb D R0 t : Nat} {R Q L : List Nat} {wr : World} (h : Long w gR gQ gL N M m Ab cb D R0 t R Q L wr) (n : Nat) : Long w gR gQ gL N M m Ab cb D R0 t R Q L (wr.drewN n) :=
  ⟨h.lenR, h.okR, h.lenQ, h.okQ, h.lowQ, h.lenL, h.okL, h.num, h.lt, h.blkR, h.blkQ, h.blkL, h.by_.keep (Nat.le_refl _) fun _ _ => rfl, ⟨h.bel.os, h.bel.tape, h.bel.output, h.bel.size, h.bel.block⟩⟩
end Go.Proofs.YtjildimhflondaaDoor
