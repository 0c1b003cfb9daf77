/-
  nat.divInto, DivSmall: what they answer and write. nat.Div by nought, by one limb, and of a smaller number. nat.Parse and what it calls: what they answer. nat.Parse: what it answers. strings.TrimLeft of a text by "0". Plain mathematics of digits to a base, the lowest first, and of a number's text. No program is imported. nat.pieceOf, slices.Reverse of bytes: what they answer and write. nat.Text: what it answers.
-/
import Derived.Test.YtocnlapbkidinaaGreatDoorPn1
import Derived.Laws.BitsAllLaws
import Derived.Deep.LoopGhost
import Derived.Test.YtocnlapbkidinaaGreatDoorQNum
import Derived.BigRegion
import Derived.Laws.IdiomStrings
import Derived.Lib.BufferRead
set_option linter.unusedVariables false
set_option linter.unusedSimpArgs false
set_option linter.unusedSectionVars false
set_option linter.unnecessarySimpa false
namespace Go.Proofs.YtocnlapbkidinaaGreatDoor
section
open Go.RowKit

/-- 'r << 32 | x': both side by side. -/
theorem or_join (r x : Nat) (hr : r < 4294967296) (hx : x < 4294967296) : bits .or .u64 ((r : Int) * 4294967296) (x : Int) = (r : Int) * 4294967296 + (x : Int) := by
  have e : ((r : Int) * 4294967296) = ((r * 4294967296 : Nat) : Int) := by omega
  rw [e, u64_or_nat _ _ (by omega) (by omega), nat_join 32 _ _ (by omega) (by omega)]
  omega

/-- What holds at the head of divInto's round: the limbs from k on are divided. -/
def DivIn (w : World) (g : Nat) (xs L : List Nat) (d k r : Nat) (wr : World) : Prop :=
  ∃ Q : List Nat, Q.length + k = xs.length ∧ Ok Q ∧ val (xs.drop k) = val Q * d + r ∧ Blk wr g (L.take k ++ Q ++ L.drop xs.length) ∧ Only g w wr
theorem div_sum (x q r r' d v B t : Nat) (ht : t = r * B + x) (hq : q = t / d) (hr : r' = t % d) : x + B * (v * d + r) = (q + B * v) * d + r' := by
  have e := Nat.div_add_mod t d
  rw [Nat.add_mul, Nat.mul_add, Nat.mul_assoc, hq, hr]
  rw [Nat.mul_comm (t / d) d, Nat.mul_comm B r]
  omega
theorem div_lt_base (r x d : Nat) (hd : 0 < d) (hr : r < d) (hx : x < 4294967296) : (r * 4294967296 + x) / d < 4294967296 := by
  rw [Nat.div_lt_iff_lt_mul hd]
  have : (r + 1) * 4294967296 ≤ d * 4294967296 := Nat.mul_le_mul_right _ hr
  rw [Nat.mul_comm 4294967296 d]
  omega
theorem div_step {w : World} {g : Nat} {xs L : List Nat} {d k r : Nat} {wr : World} (h : DivIn w g xs L d (k + 1) r wr) (hL : xs.length ≤ L.length) (hd : 0 < d) (hr : r < d) (hx : lim xs k < 4294967296) {z : Int}
    (hz : z = (((r * 4294967296 + lim xs k) / d : Nat) : Int)) :
    DivIn w g xs L d k ((r * 4294967296 + lim xs k) % d) (wr.setCell ⟨g, k, none⟩ (.int .u32 z)) := by
  obtain ⟨Q, hl, ok, hv, hb, ho⟩ := h
  have hq := div_lt_base r _ d hd hr hx
  refine ⟨(r * 4294967296 + lim xs k) / d :: Q, by simp; omega, Ok.cons hq ok, ?_, ?_, ho.trans (Only.setCell g k wr _)⟩
  · rw [val_drop xs k (by omega), hv, val_cons]
    exact div_sum _ _ _ _ _ _ _ _ rfl rfl rfl
  · subst hz
    have := hb.set_ k ((r * 4294967296 + lim xs k) / d)
    have e : (L.take (k + 1) ++ Q ++ L.drop xs.length).set k ((r * 4294967296 + lim xs k) / d) = L.take k ++ ((r * 4294967296 + lim xs k) / d :: Q) ++ L.drop xs.length := by
      rw [take_snoc L k (by omega)]
      rw [List.append_assoc, List.append_assoc, List.set_append_right _ _ (by rw [List.length_take]; omega), List.length_take, Nat.min_eq_left (by omega), Nat.sub_self]
      simp
    rwa [e] at this

theorem two_cast (r x : Nat) : ((r : Int) * 4294967296 + (x : Int)) = ((r * 4294967296 + x : Nat) : Int) := by omega
theorem quo_num (r x d : Nat) (hd : 0 < d) (hr : r < d) (hx : x < 4294967296) : ((r : Int) * 4294967296 + (x : Int)) / (d : Int) % 4294967296 = (((r * 4294967296 + x) / d : Nat) : Int) := by
  have h := div_lt_base r x d hd hr hx
  rw [two_cast, ← Int.natCast_ediv]
  generalize (r * 4294967296 + x) / d = q at h ⊢
  omega
theorem rem_num (r x d : Nat) : Value.int .u64 (((r : Int) * 4294967296 + (x : Int)) % (d : Int)) = Value.int .u64 (((r * 4294967296 + x) % d : Nat) : Int) := by
  rw [two_cast, ← Int.natCast_emod]

set_option maxHeartbeats 800000 in
/-- divInto: what stands in block g from its head on becomes the quotient; the rest of the block stays. What is divided may lie at that very place. -/
theorem divInto_any (g n cq : Nat) (A : Option Addr) (ca : Nat) (xs L : List Nat) (d : Nat) (w : World) (hB : Blk w g L) (hL : n ≤ L.length) (h : Sl w A n ca xs) (hal : ∀ b off, A = some ⟨b, off, none⟩ → 0 < n → b ≠ g ∨ off = 0) (hd : 0 < d) (hd2 : d < 4294967296) (hn : n ≤ 1000000000) (_hcq : n ≤ cq) :
    Calls Tryz.prog 121 #[.slice (some ⟨g, 0, none⟩) n cq, .slice A n ca, .int .u32 (d : Int)] w fun e w' =>
      e = .returned (.int .u32 ((val xs % d : Nat) : Int)) ∧ (∃ Q : List Nat, Q.length = n ∧ Ok Q ∧ val Q = val xs / d ∧ Blk w' g (Q ++ L.drop n)) ∧ Only g w w' := by
  have HN := Lib.hid h.len
  go_enter Tryz.func121, Tryz.ntmps121
  go_wp2_with fail
  go_loopw [7, 8] (fun l i wr => ∃ k r : Nat, k ≤ n ∧ i = .int .i64 ((k : Int) - 1) ∧ l = .int .u64 r ∧ r < d ∧ DivIn w g xs L d k r wr) (fun _ i _ => (intOf i + 1).toNat)
  case atStart =>
    refine ⟨n, 0, Nat.le_refl _, rfl, rfl, hd, [], by simp [HN.out], Ok.nil, ?_, ?_, Only.refl g w⟩
    · rw [HN.out, List.drop_length]; simp [val]
    · rw [← HN.out]; simpa using hB
  case round =>
    obtain ⟨k, r, hk, rfl, rfl, hr, hinv⟩ := hrel
    rcases k with _ | k
    · have HI := Lib.hid hinv
      clear hinv
      go_wp2_with fail
      go_ret
      obtain ⟨Q, hl, ok, hv, hb, ho⟩ := HI.out
      rw [List.drop_zero] at hv
      have e1 : val xs % d = r := by rw [hv, Nat.add_comm, Nat.mul_comm, Nat.add_mul_mod_self_left, Nat.mod_eq_of_lt hr]
      have e2 : val xs / d = val Q := by rw [hv, Nat.add_comm, Nat.mul_comm, Nat.add_mul_div_left _ _ hd, Nat.div_eq_of_lt hr, Nat.zero_add]
      refine ⟨?_, ⟨Q, by have := HN.out; omega, ok, e2.symm, ?_⟩, ho⟩
      · rw [e1]; rfl
      · rw [List.take_zero, List.nil_append, ← HN.out] at hb; exact hb
    · rw [show (((k + 1 : Nat) : Int) - 1) = (k : Int) by omega]
      obtain ⟨Q, hl, ok, hv, hb, ho⟩ := id hinv
      obtain ⟨b, off, rfl, hbl, hc⟩ := h.here (by omega)
      have hf := hb.frozen k
      have hcl := hb.cell k (by have := HN.out; simp; omega)
      have hck : wr.cell? ⟨b, off + k, none⟩ = some (.int .u32 ((lim xs k : Nat) : Int)) := by
        rcases hal b off rfl (by omega) with hne | h0
        · exact (World.cell?_of_block (w := w) (a := ⟨b, off + k, none⟩) (ho.block b hne)).trans (hc k (by omega))
        · by_cases hbg : b = g
          · subst hbg; subst h0
            have h1 := hc k (by omega)
            rw [Nat.zero_add, hB.cell k (by omega)] at h1
            rw [Nat.zero_add, ← h1, hcl]
            congr 2
            rw [lim_eq, lim_eq, List.append_assoc, List.getElem?_append_left (by rw [List.length_take]; omega), List.getElem?_take_of_lt (by omega)]
          · exact (World.cell?_of_block (w := w) (a := ⟨b, off + k, none⟩) (ho.block b hbg)).trans (hc k (by omega))
      have x1 := h.ok.getD k
      have hor := or_join r (lim xs k) (by omega) x1
      clear hc hl hv
      go_wp2_with fail
      go_roundw
      case rel => exact ⟨k, _, by omega, by go_num, rem_num _ _ _, Nat.mod_lt _ hd, div_step hinv (by have := HN.out; omega) hd hr x1 (quo_num _ _ _ hd hr x1)⟩
      case measure => simp [intOf]

/-- The same, what is left under a name of one's own. -/
theorem divInto_at (g n cq : Nat) (A : Option Addr) (ca : Nat) (xs L : List Nat) (d : Nat) (w : World) (hB : Blk w g L) (hL : n ≤ L.length) (h : Sl w A n ca xs) (hal : ∀ b off, A = some ⟨b, off, none⟩ → 0 < n → b ≠ g ∨ off = 0) (hd : 0 < d) (hd2 : d < 4294967296) (hn : n ≤ 1000000000) (hcq : n ≤ cq)
    (r : Nat) (hr : Hid (r = val xs % d)) :
    Calls Tryz.prog 121 #[.slice (some ⟨g, 0, none⟩) n cq, .slice A n ca, .int .u32 (d : Int)] w fun e w' =>
      e = .returned (.int .u32 (r : Int)) ∧ (∃ Q : List Nat, Q.length = n ∧ Ok Q ∧ val Q = val xs / d ∧ Blk w' g (Q ++ L.drop n)) ∧ Only g w w' := by
  rw [hr.out]; exact divInto_any g n cq A ca xs L d w hB hL h hal hd hd2 hn hcq

set_option maxHeartbeats 800000 in
theorem divSmall_any (A : Option Addr) (n c : Nat) (xs : List Nat) (d : Nat) (w : World) (h : Sl w A n c xs) (hd : 0 < d) (hd2 : d < 4294967296) (hn : n ≤ 1000000000) :
    Calls Tryz.prog 130 #[.slice A n c, .int .u32 (d : Int)] w fun e w' =>
      ∃ v, e = .returned (.tuple #[v, .int .u32 ((val xs % d : Nat) : Int)]) ∧ New w' w.heap.size v (limbs (val xs / d)) ∧ Below w.heap.size w w' := by
  have hne : ((d : Int) == 0) = false := by simp; omega
  have hmk := fun W => make32 (n : Int) n rfl (by omega) W
  have hB := Blk.made w n
  have hs := h.alloc (.cells (madeCells #[Value.int .u32 0] n) 78)
  have hal : ∀ b off, A = some ⟨b, off, none⟩ → 0 < n → b ≠ w.heap.size ∨ off = 0 := by
    intro b off e hp
    obtain ⟨b', off', e', hb, _⟩ := h.here hp
    rw [e] at e'
    simp only [Option.some.injEq, Addr.mk.injEq] at e'
    exact .inl (by omega)
  have HH := Lib.hid (And.intro hB hal)
  clear hB hal
  go_enter Tryz.func130, Tryz.ntmps130
  go_wp2_with fail
  refine (divInto_any w.heap.size n n A c xs (List.replicate n 0) d _ HH.out.1 (by simp) hs HH.out.2 hd hd2 hn (Nat.le_refl _)).mono ?_
  rintro e w1 ⟨rfl, ⟨Q, hl, ok, hv, hb⟩, ho⟩
  have hdr : List.drop n (List.replicate n 0) = ([] : List Nat) := by simp
  rw [hdr, List.append_nil] at hb
  have hsl := hb.slAll ok (by unfold maxLen; omega)
  rw [hl] at hsl
  have hnew := Lib.hid (hb.new (base := w.heap.size) ok (by unfold maxLen; omega) (Nat.le_refl _))
  have HV := Lib.hid (And.intro hl hv)
  clear hl hv hdr hmk
  go_wp2_with (go_at_call 111; refine (trim_any _ _ _ _ _ hsl).mono ?_; rintro e w' ⟨rfl, rfl⟩)
  go_ret2
  exact ⟨_, rfl, by rw [← HV.out.2, ← HV.out.1]; exact hnew.out, ((Below.refl _ _).alloc (Nat.le_refl _) _).trans (ho.below (Nat.le_refl _))⟩
end
end Go.Proofs.YtocnlapbkidinaaGreatDoor
namespace Go.Proofs.YtocnlapbkidinaaGreatDoor
section
open Go.RowKit

theorem val_one (xs : List Nat) (h : xs.length = 1) : val xs = lim xs 0 := by
  match xs, h with
  | [x], _ => rw [val_cons, val_nil, lim_cons_zero, Nat.mul_zero, Nat.add_zero]
theorem limbs_one (x : Nat) (h : x < 4294967296) : trimL [x] = limbs x := by
  have := trimL_limbs (xs := [x]) (Ok.cons h Ok.nil)
  rwa [val_cons, val_nil, Nat.mul_zero, Nat.add_zero] at this

set_option maxHeartbeats 800000 in
theorem div_zero_any (A1 : Option Addr) (n1 c1 : Nat) (xs : List Nat) (A2 : Option Addr) (n2 c2 : Nat) (ys : List Nat) (w : World) (h1 : Sl w A1 n1 c1 xs) (h2 : Sl w A2 n2 c2 ys) (hz : val ys = 0) :
    Calls Tryz.prog 114 #[.slice A1 n1 c1, .slice A2 n2 c2] w (Gives2 w 0 0) := by
  have e2 : Hid (0 = (limbs (val ys)).length) := by rw [hz]; exact rfl
  clear hz
  go_enter Tryz.func114, Tryz.ntmps114
  go_wp2_with fail
  refine (trim_any _ _ _ _ _ h1).mono ?_
  rintro e w' ⟨rfl, rfl⟩
  go_wp2_with fail
  refine (trim_at _ _ _ _ _ h2 0 e2).mono ?_
  rintro e w' ⟨rfl, rfl⟩
  go_wp2_with fail
  go_ret2
  exact ⟨_, _, rfl, New.nil _ _, New.nil _ _, Below.refl _ _⟩

set_option maxHeartbeats 800000 in
theorem div_one_any (A1 : Option Addr) (n1 c1 : Nat) (xs : List Nat) (A2 : Option Addr) (n2 c2 : Nat) (ys : List Nat) (w : World) (h1 : Sl w A1 n1 c1 xs) (h2 : Sl w A2 n2 c2 ys) (b1 : n1 ≤ 1000000000) (hone : (limbs (val ys)).length = 1) :
    Calls Tryz.prog 114 #[.slice A1 n1 c1, .slice A2 n2 c2] w (Gives2 w (val xs / val ys) (val xs % val ys)) := by
  have t1 := h1.trim
  have t2 := h2.trim
  have k1 := limbs_len_val h1.ok
  have k3 := h1.len
  have hvx := Lib.hid (limbs_val (val xs))
  have hd : val ys = lim (limbs (val ys)) 0 := by rw [← val_one _ hone, limbs_val]
  have hd2 := (limbs_ok (val ys)).getD 0
  rw [← hd] at hd2
  have hd0 : 0 < val ys := by
    rcases Nat.eq_zero_or_pos (val ys) with h | h
    · rw [h] at hone; simp [limbs_zero] at hone
    · exact h
  rw [hone] at t2
  obtain ⟨b, off, rfl, hb, hc⟩ := t2.here (by omega)
  have hc0 := hc 0 (by omega)
  rw [← hd, Nat.add_zero] at hc0
  clear hc
  obtain ⟨m1, M1⟩ : ∃ m, Hid (m = (limbs (val xs)).length) := ⟨_, rfl⟩
  rw [← M1.out] at t1 k1
  have bm1 : m1 ≤ 1000000000 := by omega
  have e2 := Lib.hid hone.symm
  have hrd : val xs % val ys < val ys := Nat.mod_lt _ hd0
  clear k1 k3 hone hd
  obtain ⟨D, HD⟩ : ∃ D, Hid (D = val ys) := ⟨_, rfl⟩
  rw [← HD.out] at hc0 hd2 hd0 hrd ⊢
  obtain ⟨R, HR⟩ : ∃ R, Hid (R = val xs % D) := ⟨_, rfl⟩
  rw [← HR.out] at hrd
  go_enter Tryz.func114, Tryz.ntmps114
  go_wp2_with fail
  refine (trim_at _ _ _ _ _ h1 m1 M1).mono ?_
  rintro e w' ⟨rfl, rfl⟩
  go_wp2_with fail
  refine (trim_at _ _ _ _ _ h2 1 e2).mono ?_
  rintro e w' ⟨rfl, rfl⟩
  go_wp2_with fail
  refine (divSmall_any _ _ _ _ D _ t1 hd0 hd2 bm1).mono ?_
  rintro e w1 ⟨v, rfl, hnew, hbel⟩
  rw [hvx.out, ← HR.out]
  rw [hvx.out] at hnew
  have HNW := Lib.hid hnew
  clear hnew
  have hB := Blk.lit1 w1 R
  have oR : Ok [R] := Ok.cons (by omega) Ok.nil
  have hsl := hB.slAll oR (by unfold maxLen; simp)
  have hn2 := Lib.hid (hB.new (base := w.heap.size) oR (by unfold maxLen; simp) hbel.size)
  go_wp2_with fail
  refine (trim_any _ _ _ _ _ hsl).mono ?_
  rintro e w' ⟨rfl, rfl⟩
  go_wp2_with fail
  go_ret2
  have hR : val [R] = R := by rw [val_cons, val_nil, Nat.mul_zero, Nat.add_zero]
  have hnn := hn2.out
  rw [hR] at hnn ⊢
  exact ⟨_, _, rfl, HNW.out.below ((Below.refl _ _).alloc (Nat.le_refl _) _) (Nat.le_refl _), by rw [← HR.out]; exact hnn, hbel.trans (((Below.refl _ _).alloc (Nat.le_refl _) _).mono hbel.size)⟩

set_option maxHeartbeats 800000 in
theorem div_less_any (A1 : Option Addr) (n1 c1 : Nat) (xs : List Nat) (A2 : Option Addr) (n2 c2 : Nat) (ys : List Nat) (w : World) (h1 : Sl w A1 n1 c1 xs) (h2 : Sl w A2 n2 c2 ys) (b1 : n1 ≤ 1000000000) (hlt : (limbs (val xs)).length < (limbs (val ys)).length) (hone : 1 < (limbs (val ys)).length) :
    Calls Tryz.prog 114 #[.slice A1 n1 c1, .slice A2 n2 c2] w (Gives2 w 0 (val xs)) := by
  have t1 := h1.trim
  have k1 := limbs_len_val h1.ok
  have k3 := h1.len
  have t2 := h2.trim
  have k4 := t2.le
  have k5 := t2.max
  unfold maxLen at k5
  have hvx := Lib.hid (limbs_val (val xs))
  obtain ⟨m1, M1⟩ : ∃ m, Hid (m = (limbs (val xs)).length) := ⟨_, rfl⟩
  obtain ⟨m2, M2⟩ : ∃ m, Hid (m = (limbs (val ys)).length) := ⟨_, rfl⟩
  rw [← M1.out] at t1 k1 hlt
  rw [← M2.out] at hlt hone k4
  have bm1 : m1 ≤ 1000000000 := by omega
  have e0 : ((m2 : Int) == 0) = false := by simp; omega
  have e1 : ((m2 : Int) == 1) = false := by simp; omega
  clear t2 k1 k3
  go_enter Tryz.func114, Tryz.ntmps114
  go_wp2_with fail
  refine (trim_at _ _ _ _ _ h1 m1 M1).mono ?_
  rintro e w' ⟨rfl, rfl⟩
  go_wp2_with fail
  refine (trim_at _ _ _ _ _ h2 m2 M2).mono ?_
  rintro e w' ⟨rfl, rfl⟩
  go_wp2_with fail
  refine (norm_any _ _ _ _ _ t1 (by omega)).mono ?_
  rintro e w1 ⟨v, rfl, hnew, hbel⟩
  rw [hvx.out] at hnew
  go_wp2_with fail
  go_ret2
  exact ⟨_, _, rfl, New.nil _ _, hnew, hbel⟩
end
end Go.Proofs.YtocnlapbkidinaaGreatDoor
namespace Go.Proofs.YtocnlapbkidinaaGreatDoor
section
open Go.RowKit

/-- A digit's number; 36: it is none. -/
def digN (c : Nat) : Nat := if 48 ≤ c ∧ c ≤ 57 then c - 48 else if 97 ≤ c ∧ c ≤ 122 then c - 87 else if 65 ≤ c ∧ c ≤ 90 then c - 55 else 36
theorem digN_le (c : Nat) : digN c ≤ 36 := by unfold digN; split <;> (try split) <;> (try split) <;> omega

theorem isBase_yes (b : Int) (h1 : 2 ≤ b) (h2 : b ≤ 36) (w : World) : Calls Tryz.prog 119 #[.int .i64 b] w fun e w' => e = .returned (.bool true) ∧ w = w' := by
  go_enter Tryz.func119, Tryz.ntmps119
  go_wp2_with fail
  go_ret
  exact ⟨rfl, rfl⟩
theorem isBase_no (b : Int) (h : b < 2 ∨ 36 < b) (w : World) : Calls Tryz.prog 119 #[.int .i64 b] w fun e w' => e = .returned (.bool false) ∧ w = w' := by
  by_cases h2 : b < 2
  · go_enter Tryz.func119, Tryz.ntmps119
    go_wp2_with fail
    go_ret
    exact ⟨rfl, rfl⟩
  · have hd : decide (b ≤ 36) = false := by simp; omega
    go_enter Tryz.func119, Tryz.ntmps119
    go_wp2_with fail
    go_ret
    exact ⟨by rw [← hd]; rfl, rfl⟩

/-- The limbs of m * b + d, limb by limb. -/
theorem put_sum (v p q r c c' s x b m dg vx : Nat) (hs : s = c + x * b) (hr : r = s % 4294967296) (hc : c' = s / 4294967296) (h : v + p * c = vx * b + dg) (hq : q = p * 4294967296) (hm : m = vx + p * x) : v + p * r + q * c' = m * b + dg := by
  have e1 : r + 4294967296 * c' = s := by omega
  have e2 : p * r + p * (4294967296 * c') = p * c + p * (x * b) := by rw [← Nat.mul_add, e1, hs, Nat.mul_add]
  rw [hq, Nat.mul_assoc, hm, Nat.add_mul, Nat.mul_assoc]
  omega

theorem cellsOf_set (L : List Nat) (k y : Nat) : (cellsOf L).set k (.int .u32 (y : Int)) = cellsOf (L.set k y) := by simp [cellsOf, List.map_set]
theorem set_append_drop (S xs : List Nat) (k y : Nat) (hS : S.length = k) (hk : k < xs.length) : (S ++ xs.drop k).set k y = S ++ [y] ++ xs.drop (k + 1) := by
  rw [List.drop_eq_getElem_cons hk, List.set_append_right _ _ (by omega), hS, Nat.sub_self, List.set_cons_zero, List.append_assoc]; rfl

def PutInv (w : World) (base g n cap : Nat) (xs : List Nat) (b dg k c : Nat) (wr : World) : Prop :=
  ∃ S : List Nat, S.length = k ∧ Ok S ∧ val S + 4294967296 ^ k * c = val (xs.take k) * b + dg ∧ wr.ownsRow base 78 1 (.slice (some ⟨g, 0, none⟩) n cap) n (cellsOf (S ++ xs.drop k)) ∧ w.grownBy wr (some g)
theorem put_step {w : World} {base g n cap : Nat} {xs : List Nat} {b dg k c : Nat} {wr : World} (h : PutInv w base g n cap xs b dg k c wr) (hk : k < xs.length) {z : Int} (hz : z = (((c + lim xs k * b) % 4294967296 : Nat) : Int)) :
    PutInv w base g n cap xs b dg (k + 1) ((c + lim xs k * b) / 4294967296) (wr.setCell ⟨g, k, none⟩ (.int .u32 z)) := by
  obtain ⟨S, hS, ok, hv, ho, hg⟩ := h
  obtain ⟨h1, h2⟩ := ho.stored k (.int .u32 z)
  refine ⟨S ++ [(c + lim xs k * b) % 4294967296], by simp [hS], ok.snoc (Nat.mod_lt _ (by decide)), ?_, ?_, ?_⟩
  · rw [val_snoc, hS]
    exact put_sum _ _ _ _ _ _ _ _ _ _ _ _ rfl rfl rfl hv (Nat.pow_succ ..) (val_take_succ ..)
  · subst hz
    have e : (cellsOf (S ++ xs.drop k)).set k (.int .u32 (((c + lim xs k * b) % 4294967296 : Nat) : Int)) = cellsOf (S ++ [(c + lim xs k * b) % 4294967296] ++ xs.drop (k + 1)) := by
      generalize (c + lim xs k * b) % 4294967296 = y
      rw [cellsOf_set, ← set_append_drop S xs k y hS hk]
    rwa [e] at h1
  · exact ⟨h2.os.trans hg.os, h2.tape.trans hg.tape, h2.output.trans hg.output, Nat.le_trans hg.size h2.size, fun i hi hne => (h2.block i (by have := hg.size; omega) hne).trans (hg.block i hi hne)⟩

/-- Behind the loop: nothing is carried, or one limb more. -/
theorem put_end0 {xs S : List Nat} {m b dg : Nat} (hx : xs = limbs m) (hS : S.length = xs.length) (ok : Ok S) (hv : val S = val xs * b + dg) (hb : 2 ≤ b) : S = limbs (m * b + dg) := by
  subst hx
  rw [limbs_val] at hv
  rw [← hv]
  refine (limbs_of ok ?_).symm
  rcases Nat.eq_zero_or_pos S.length with h0 | h0
  · rw [List.eq_nil_of_length_eq_zero h0]; rfl
  · obtain ⟨j, hj⟩ : ∃ j, S.length = j + 1 := ⟨S.length - 1, by omega⟩
    have e : S = S.take j ++ [lim S j] := by rw [← take_snoc S j (by omega), ← hj, List.take_length]
    by_cases hz : lim S j = 0
    · exfalso
      have h1 : val S < 4294967296 ^ j := by
        rw [e, hz, val_snoc, Nat.mul_zero, Nat.add_zero]
        exact val_take_lt ok j
      have h2 : (limbs m).length ≤ j := limbs_len_le (by
        have : m ≤ m * b := Nat.le_mul_of_pos_right _ (by omega)
        omega)
      omega
    · rw [e]; exact trimL_snoc _ _ hz
theorem put_end1 {xs S : List Nat} {m b dg c : Nat} (hx : xs = limbs m) (hS : S.length = xs.length) (ok : Ok S) (hv : val S + 4294967296 ^ xs.length * c = val xs * b + dg) (hc : c ≠ 0) (hc2 : c < 4294967296) : S ++ [c] = limbs (m * b + dg) := by
  subst hx
  rw [limbs_val, ← hS, ← val_snoc] at hv
  rw [← hv]
  exact (limbs_of (ok.snoc hc2) (trimL_snoc _ _ hc)).symm

theorem put_num (c x b : Nat) : Value.int .u64 (((c : Int) + (x : Int) * (b : Int)) / 4294967296) = Value.int .u64 (((c + x * b) / 4294967296 : Nat) : Int) := by
  rw [← Int.natCast_mul]
  exact congrArg _ (by omega)
theorem put_c_lt (c x b : Nat) (hc : c < b) (hx : x < 4294967296) : (c + x * b) / 4294967296 < b := by
  rw [Nat.div_lt_iff_lt_mul (by decide)]
  have : (x + 1) * b ≤ 4294967296 * b := Nat.mul_le_mul_right _ hx
  rw [Nat.add_mul, Nat.one_mul] at this
  rw [Nat.mul_comm b]
  omega

end
end Go.Proofs.YtocnlapbkidinaaGreatDoor
namespace Go.Proofs.YtocnlapbkidinaaGreatDoor
section
open Go.RowKit

/-- The number of digits. -/
def numB (b : Nat) (l : List UInt8) : Nat := l.foldl (fun a c => a * b + digN c.toNat) 0
theorem numB_snoc (b : Nat) (l : List UInt8) (c : UInt8) : numB b (l ++ [c]) = numB b l * b + digN c.toNat := by simp [numB]
theorem bytes_snoc (s : ByteArray) (k : Nat) (h : k < s.size) : s.data.toList.take (k + 1) = s.data.toList.take k ++ [s[k]] := by
  rw [List.take_succ_eq_append_getElem (by simpa using h)]; rfl
theorem numB_lt (b : Nat) (hb : b ≤ 36) (s : ByteArray) (k : Nat) (hk : k ≤ s.size) : numB b (s.data.toList.take k) < 4294967296 ^ k := by
  induction k with
  | zero => simp [numB]
  | succ k ih =>
    rw [bytes_snoc s k (by omega), numB_snoc, Nat.pow_succ]
    have h1 := ih (by omega)
    have h2 := digN_le s[k].toNat
    have h3 : numB b (s.data.toList.take k) * b ≤ numB b (s.data.toList.take k) * 36 := Nat.mul_le_mul_left _ hb
    omega

end
end Go.Proofs.YtocnlapbkidinaaGreatDoor
namespace Go.Proofs.YtocnlapbkidinaaGreatDoor
section
open Go.RowKit

theorem extract_one (t : ByteArray) : (t.extract 1 t.size).data.toList = t.data.toList.drop 1 := by
  simp [ByteArray.data_extract, List.take_of_length_le]
theorem head_drop (t : ByteArray) (h : 0 < t.size) : t.data.toList = t[0] :: t.data.toList.drop 1 := by
  have := List.drop_eq_getElem_cons (i := 0) (l := t.data.toList) (by simpa using h)
  rw [List.drop_zero] at this
  exact this

set_option maxHeartbeats 800000 in
theorem trimLeftByte_any (s : ByteArray) (w : World) :
    Calls Tryz.prog 132 #[.string s, .int .u8 48] w fun e w' => ∃ t : ByteArray, e = .returned (.string t) ∧ t.data.toList = s.data.toList.dropWhile (· == 48) ∧ w = w' := by
  go_enter Tryz.func132, Tryz.ntmps132
  go_wp2_with fail
  go_loopg [0] s.size (fun k v wr => ∃ t : ByteArray, v = .string t ∧ t.size = k ∧ k ≤ s.size ∧ Hid (t.data.toList.dropWhile (· == 48) = s.data.toList.dropWhile (· == 48)) ∧ wr = w)
  case atStart => exact ⟨s, rfl, rfl, Nat.le_refl _, rfl, rfl⟩
  case round =>
    obtain ⟨t, rfl, hk, hle, hd, rfl⟩ := hrel
    subst hk
    by_cases h0 : 0 < t.size
    · by_cases hc : t[0] = 48
      · have hcc : (((t[0].toNat : Nat) : Int) == 48) = true := by simp [hc]
        have hz : (t.extract 1 t.size).size < t.size := by simp; omega
        have HD := Lib.hid (show (t.extract 1 t.size).data.toList.dropWhile (· == 48) = s.data.toList.dropWhile (· == 48) by
          rw [← hd.out, extract_one t, head_drop t h0, List.dropWhile_cons_of_pos (by simp [hc])]; simp)
        have HC := Lib.hid hc
        clear hc
        go_wp2_with fail
        go_roundg (t.extract 1 t.size).size
        case measure => exact hz
        case rel => exact ⟨_, rfl, rfl, by omega, HD, rfl⟩
      · have hcc : (((t[0].toNat : Nat) : Int) == 48) = false := by
          rw [beq_eq_false_iff_ne]
          intro h
          exact hc (by
            have : t[0].toNat = 48 := by omega
            exact UInt8.toNat_inj.1 this)
        have HC := Lib.hid hc
        clear hc
        go_wp2_with fail
        go_ret
        refine ⟨t, rfl, ?_, rfl⟩
        rw [← hd.out, head_drop t h0, List.dropWhile_cons_of_neg (by simpa using HC.out)]
    · have he : t.size = 0 := by omega
      have H0 := Lib.hid he
      have h0' : ¬ (0 : Int) < (t.size : Int) := by omega
      clear he
      go_wp2_with fail
      go_ret
      refine ⟨t, rfl, ?_, rfl⟩
      have : t.data.toList = [] := by apply List.eq_nil_of_length_eq_zero; simpa using H0.out
      rw [← hd.out, this]; rfl

set_option maxRecDepth 100000 in
set_option maxHeartbeats 800000 in
theorem trimLeft_any (s : ByteArray) (w : World) :
    Calls Tryz.prog 123 #[.string s, .string ⟨#[48]⟩] w fun e w' => ∃ t : ByteArray, e = .returned (.string t) ∧ t.data.toList = s.data.toList.dropWhile (· == 48) ∧ w = w' := by
  by_cases h0 : s.size = 0
  · have hl : s.data.toList = [] := by apply List.eq_nil_of_length_eq_zero; simpa using h0
    have he : s.toList.isEmpty = true := by
      rw [ByteArray.toList_eq]; simp [hl]
    have HL := Lib.hid hl
    clear h0 hl
    go_enter Tryz.func123, Tryz.ntmps123
    go_wp2_with fail
    go_ret
    exact ⟨s, rfl, by rw [HL.out]; rfl, rfl⟩
  · have hl : s.data.toList ≠ [] := by
      intro h; apply h0; have := congrArg List.length h; simpa using this
    have he : s.toList.isEmpty = false := by
      rw [ByteArray.toList_eq]; simpa using hl
    clear h0 hl
    go_enter Tryz.func123, Tryz.ntmps123
    go_wp2_with (go_at_call 132; refine (trimLeftByte_any s _).mono ?_; rintro e w' ⟨t, rfl, ht, rfl⟩)
    go_ret
    exact ⟨t, rfl, ht, rfl⟩
end
end Go.Proofs.YtocnlapbkidinaaGreatDoor
namespace Go.Proofs.YtocnlapbkidinaaGreatDoor
section

/-- The number of a list of digits, the lowest first. -/
def valb (b : Nat) : List Nat → Nat
  | [] => 0
  | x :: xs => x + b * valb b xs
def Okb (b : Nat) (xs : List Nat) : Prop := ∀ x ∈ xs, x < b
section
variable {b : Nat}
theorem Okb.nil : Okb b [] := fun _ h => by cases h
theorem Okb.cons {x : Nat} {xs : List Nat} (h : x < b) (hx : Okb b xs) : Okb b (x :: xs) := by
  intro y hy
  rcases List.mem_cons.1 hy with rfl | hy
  · exact h
  · exact hx y hy
theorem Okb.head {x : Nat} {xs : List Nat} (h : Okb b (x :: xs)) : x < b := h x (List.mem_cons_self ..)
theorem Okb.tail {x : Nat} {xs : List Nat} (h : Okb b (x :: xs)) : Okb b xs := fun y hy => h y (List.mem_cons_of_mem _ hy)
theorem Okb.append {xs ys : List Nat} (h : Okb b xs) (k : Okb b ys) : Okb b (xs ++ ys) := by
  intro y hy
  rcases List.mem_append.1 hy with hy | hy
  · exact h y hy
  · exact k y hy
theorem Okb.take {xs : List Nat} (h : Okb b xs) (k : Nat) : Okb b (xs.take k) := fun y hy => h y (List.mem_of_mem_take hy)
theorem Okb.trim {xs : List Nat} (h : Okb b xs) : Okb b (trimL xs) := by rw [trimL_take]; exact h.take _
theorem valb_cons (x : Nat) (xs : List Nat) : valb b (x :: xs) = x + b * valb b xs := rfl
theorem valb_append (xs ys : List Nat) : valb b (xs ++ ys) = valb b xs + b ^ xs.length * valb b ys := by
  induction xs with
  | nil => simp [valb]
  | cons x xs ih =>
    rw [List.cons_append, valb_cons, valb_cons, ih, List.length_cons, Nat.pow_succ, Nat.mul_add, Nat.mul_comm (b ^ xs.length) b, Nat.mul_assoc]
    omega
theorem valb_snoc (xs : List Nat) (x : Nat) : valb b (xs ++ [x]) = valb b xs + b ^ xs.length * x := by
  rw [valb_append, valb_cons, valb, Nat.mul_zero, Nat.add_zero]
theorem valb_trimL (xs : List Nat) : valb b (trimL xs) = valb b xs := by
  induction xs with
  | nil => rfl
  | cons x xs ih =>
    unfold trimL
    split
    · rename_i h
      rw [h.2] at ih
      rw [valb_cons, ← ih, h.1]
      simp [valb]
    · rw [valb_cons, valb_cons, ih]
theorem split_unique {x y u v : Nat} (hx : x < b) (hy : y < b) (h : x + b * u = y + b * v) : x = y ∧ u = v := by
  have h1 : (x + b * u) % b = (y + b * v) % b := by rw [h]
  rw [Nat.add_mul_mod_self_left, Nat.add_mul_mod_self_left, Nat.mod_eq_of_lt hx, Nat.mod_eq_of_lt hy] at h1
  have h2 : (x + b * u) / b = (y + b * v) / b := by rw [h]
  rw [Nat.add_mul_div_left _ _ (by omega), Nat.add_mul_div_left _ _ (by omega), Nat.div_eq_of_lt hx, Nat.div_eq_of_lt hy] at h2
  omega
theorem valb_zero_trim (hb : 0 < b) (zs : List Nat) : valb b zs = 0 → trimL zs = [] := by
  induction zs with
  | nil => intro _; rfl
  | cons z zs ih =>
    intro hz
    rw [valb_cons] at hz
    have h2 : b * valb b zs = 0 := by omega
    have h3 : valb b zs = 0 := by
      rcases Nat.mul_eq_zero.1 h2 with h | h
      · omega
      · exact h
    rw [trimL, if_pos ⟨by omega, ih h3⟩]
theorem valb_inj (hb : 0 < b) {xs ys : List Nat} (hx : Okb b xs) (hy : Okb b ys) (tx : trimL xs = xs) (ty : trimL ys = ys) (h : valb b xs = valb b ys) : xs = ys := by
  induction xs generalizing ys with
  | nil =>
    have := valb_zero_trim hb ys (by rw [← h]; rfl)
    rw [← ty, this]
  | cons x xs ih =>
    cases ys with
    | nil =>
      have := valb_zero_trim hb (x :: xs) (by rw [h]; rfl)
      rw [← tx, this]
    | cons y ys =>
      rw [valb_cons, valb_cons] at h
      obtain ⟨e0, e1⟩ := split_unique hx.head hy.head h
      have txs : trimL xs = xs := by
        rw [trimL] at tx
        split at tx
        · cases tx
        · injection tx
      have tys : trimL ys = ys := by
        rw [trimL] at ty
        split at ty
        · cases ty
        · injection ty
      rw [e0, ih hx.tail hy.tail txs tys e1]
end
def digsF : Nat → Nat → Nat → List Nat
  | 0, _, _ => []
  | f + 1, b, n => n % b :: digsF f b (n / b)
/-- A number's digits, the lowest first, without noughts at their end. -/
def digs (b n : Nat) : List Nat := trimL (digsF n b n)
theorem digsF_ok (b f n : Nat) (hb : 0 < b) : Okb b (digsF f b n) := by
  induction f generalizing n with
  | zero => exact Okb.nil
  | succ f ih => exact Okb.cons (Nat.mod_lt _ hb) (ih _)
theorem digsF_val (b f n : Nat) (hb : 2 ≤ b) (h : n ≤ f) : valb b (digsF f b n) = n := by
  induction f generalizing n with
  | zero => rw [digsF, valb]; omega
  | succ f ih =>
    have h1 : n / b ≤ f := by
      rcases Nat.eq_zero_or_pos n with h0 | h0
      · subst h0; simp
      · have := Nat.div_lt_self h0 hb; omega
    rw [digsF, valb_cons, ih _ h1]
    exact Nat.mod_add_div n b
theorem digs_ok (b n : Nat) (hb : 0 < b) : Okb b (digs b n) := (digsF_ok b n n hb).trim
theorem digs_val (b n : Nat) (hb : 2 ≤ b) : valb b (digs b n) = n := by rw [digs, valb_trimL, digsF_val b n n hb (Nat.le_refl _)]
theorem trimL_digs {b : Nat} (hb : 2 ≤ b) {xs : List Nat} (h : Okb b xs) : trimL xs = digs b (valb b xs) :=
  valb_inj (by omega) h.trim (digs_ok b _ (by omega)) (trimL_idem _) (trimL_idem _) (by rw [valb_trimL, digs_val b _ hb])
theorem digs_zero (b : Nat) : digs b 0 = [] := rfl
theorem digs_nil_iff (b n : Nat) (hb : 2 ≤ b) : digs b n = [] ↔ n = 0 := by
  constructor
  · intro h; rw [← digs_val b n hb, h]; rfl
  · rintro rfl; rfl

/-- A digit's letter. -/
def chr (d : Nat) : UInt8 := if d < 10 then UInt8.ofNat (48 + d) else UInt8.ofNat (87 + d)
/-- A number's text. -/
def txt (b n : Nat) : List UInt8 := if n = 0 then [48] else (digs b n).reverse.map chr
theorem chr_zero_iff (d : Nat) (h : d < 36) : chr d = 48 ↔ d = 0 := by
  have : ∀ d : Fin 36, chr d.1 = 48 ↔ d.1 = 0 := by decide
  exact this ⟨d, h⟩

/-- The trimmed reverse: what TrimLeft leaves of digits' letters, the highest first. -/
theorem dropWhile_chr (b : Nat) (hb2 : b ≤ 36) (ds : List Nat) (h : Okb b ds) : (ds.reverse.map chr).dropWhile (· == 48) = (trimL ds).reverse.map chr := by
  generalize hn : ds.length = n
  induction n generalizing ds with
  | zero => obtain rfl := List.eq_nil_of_length_eq_zero hn; rfl
  | succ n ih =>
    obtain ⟨ys, y, rfl⟩ : ∃ ys y, ds = ys ++ [y] := ⟨ds.dropLast, ds.getLast (by intro h0; rw [h0] at hn; cases hn), (List.dropLast_concat_getLast _).symm⟩
    have hy : y < b := h y (by simp)
    have hys : Okb b ys := fun z hz => h z (by simp [hz])
    rw [List.reverse_append, List.reverse_singleton, List.singleton_append, List.map_cons]
    by_cases h0 : y = 0
    · subst h0
      rw [List.dropWhile_cons_of_pos (by simp [chr]), ih ys hys (by simpa using hn), trimL_snoc_zero]
    · rw [List.dropWhile_cons_of_neg (by simp [chr_zero_iff y (by omega), h0]), trimL_snoc _ _ h0, List.reverse_append]
      rfl
/-- ... and with "0" for nothing: the number's text. -/
theorem txt_of (b : Nat) (hb : 2 ≤ b) (hb2 : b ≤ 36) (ds : List Nat) (h : Okb b ds) :
    txt b (valb b ds) = if ((ds.reverse.map chr).dropWhile (· == 48)) = [] then [48] else (ds.reverse.map chr).dropWhile (· == 48) := by
  rw [dropWhile_chr b hb2 ds h, trimL_digs hb h]
  unfold txt
  by_cases h0 : valb b ds = 0
  · rw [if_pos h0, h0, digs_zero]; rfl
  · rw [if_neg h0, if_neg]
    intro he
    rw [List.map_eq_nil_iff, List.reverse_eq_nil_iff] at he
    exact h0 ((digs_nil_iff b _ hb).1 he)
end
end Go.Proofs.YtocnlapbkidinaaGreatDoor
namespace Go.Proofs.YtocnlapbkidinaaGreatDoor
section
open Go.RowKit

/-- What pieceOf answers: a power of the base that is a limb. -/
def Piece (b : Nat) (w : World) (e : Ending) (w' : World) : Prop := ∃ t q : Nat, 1 ≤ t ∧ t ≤ 32 ∧ q < 4294967296 ∧ Hid (q = b ^ t) ∧ e = .returned (.tuple #[.int .u32 (q : Int), .int .i64 (t : Int)]) ∧ w = w'

set_option maxHeartbeats 800000 in
theorem pieceOf_any (b : Nat) (hb : 2 ≤ b) (hb2 : b ≤ 36) (w : World) : Calls Tryz.prog 120 #[.int .i64 (b : Int)] w (Piece b w) := by
  go_enter Tryz.func120, Tryz.ntmps120
  go_wp2_with fail
  go_loop [4, 5] (fun p t => ∃ k q : Nat, 1 ≤ k ∧ k ≤ 32 ∧ p = .int .u64 q ∧ t = .int .i64 k ∧ q < 4294967296 ∧ Hid (q = b ^ k)) (fun _ t => 33 - (intOf t).toNat)
  case atStart => exact ⟨1, b, by omega, by omega, rfl, rfl, by omega, (Nat.pow_one b).symm⟩
  case round =>
    obtain ⟨k, q, hk1, hk2, rfl, rfl, hq, HQ⟩ := hrel
    have hk3 : k < 32 := by
      rcases Nat.lt_or_ge k 32 with h | h
      · exact h
      · exfalso
        have h1 : 2 ^ 32 ≤ 2 ^ k := Nat.pow_le_pow_right (by decide) h
        have h2 : 2 ^ k ≤ b ^ k := Nat.pow_le_pow_left hb k
        have h3 := HQ.out
        omega
    have hm := Nat.mul_le_mul (show q ≤ 4294967295 by omega) hb2
    have hm' : (q : Int) * (b : Int) ≤ 154618822620 := by rw [← Int.natCast_mul]; omega
    have hm0 : 0 ≤ (q : Int) * (b : Int) := by rw [← Int.natCast_mul]; omega
    clear hm
    by_cases hle : (q : Int) * (b : Int) ≤ 4294967295
    · go_wp2_with fail
      go_round
      case rel => exact ⟨k + 1, q * b, by omega, by omega, by rw [Int.natCast_mul], by go_num, by rw [← Int.natCast_mul] at hle; omega, by rw [HQ.out, ← Nat.pow_succ]; exact rfl⟩
      case measure => simp [intOf]; omega
    · go_wp2_with fail
      go_ret2
      exact ⟨k, q, hk1, hk2, hq, HQ, rfl, rfl⟩

/-- The cells of bytes. -/
def bcells (l : List UInt8) : List Value := l.map fun c : UInt8 => Value.int .u8 ((c.toNat : Nat) : Int)
theorem bcells_length (l : List UInt8) : (bcells l).length = l.length := by simp [bcells]
theorem bcells_getElem? (l : List UInt8) (i : Nat) (h : i < l.length) : (bcells l)[i]? = some (.int .u8 (((l.getD i 0).toNat : Nat) : Int)) := by
  simp [bcells, List.getElem?_eq_getElem h, List.getD_eq_getElem?_getD]
theorem bcells_set (l : List UInt8) (i : Nat) (c : UInt8) : (bcells l).set i (.int .u8 ((c.toNat : Nat) : Int)) = bcells (l.set i c) := by simp [bcells, List.map_set]

/-- The first k and the last k are exchanged. -/
def RevTo (l : List UInt8) (k : Nat) (M : List UInt8) : Prop :=
  M.length = l.length ∧ ∀ t, t < l.length → M.getD t 0 = if t < k ∨ l.length - 1 - t < k then l.getD (l.length - 1 - t) 0 else l.getD t 0
theorem revTo_zero (l : List UInt8) : RevTo l 0 l := ⟨rfl, fun t _ => by simp⟩
theorem revTo_step {l M : List UInt8} {k : Nat} (h : RevTo l k M) (hk : k < l.length - 1 - k) :
    RevTo l (k + 1) ((M.set k (M.getD (l.length - 1 - k) 0)).set (l.length - 1 - k) (M.getD k 0)) := by
  obtain ⟨hl, hm⟩ := h
  refine ⟨by simp [hl], fun t ht => ?_⟩
  have e1 := hm k (by omega)
  have e2 := hm (l.length - 1 - k) (by omega)
  rw [if_neg (by omega)] at e1 e2
  rw [e1, e2]
  by_cases h1 : t = l.length - 1 - k
  · rw [h1, List.getD_eq_getElem?_getD, List.getElem?_set_self (by simp [hl]; omega), if_pos (by omega)]
    rw [show l.length - 1 - (l.length - 1 - k) = k by omega]; rfl
  · by_cases h2 : t = k
    · rw [h2, List.getD_eq_getElem?_getD, List.getElem?_set_ne (by omega), List.getElem?_set_self (by omega), if_pos (by omega)]; rfl
    · rw [List.getD_eq_getElem?_getD, List.getElem?_set_ne (by omega), List.getElem?_set_ne (by omega), ← List.getD_eq_getElem?_getD, hm t ht]
      by_cases h3 : t < k ∨ l.length - 1 - t < k
      · rw [if_pos h3, if_pos (by omega)]
      · rw [if_neg h3, if_neg (by omega)]
theorem revTo_end {l M : List UInt8} {k : Nat} (h : RevTo l k M) (hk : l.length ≤ k + k + 1) : M = l.reverse := by
  obtain ⟨hl, hm⟩ := h
  apply List.ext_getElem?
  intro t
  rcases Nat.lt_or_ge t l.length with ht | ht
  · have e := hm t ht
    have e2 : M.getD t 0 = l.getD (l.length - 1 - t) 0 := by
      rw [e]
      split
      · rfl
      · rw [show l.length - 1 - t = t by omega]
    rw [List.getElem?_reverse ht]
    rw [List.getD_eq_getElem?_getD, List.getD_eq_getElem?_getD, List.getElem?_eq_getElem (by omega), List.getElem?_eq_getElem (by omega)] at e2
    rw [List.getElem?_eq_getElem (by omega), List.getElem?_eq_getElem (by omega)]
    exact congrArg some e2
  · rw [List.getElem?_eq_none (by omega), List.getElem?_eq_none (by simp; omega)]

theorem grown_trans {a b c : World} {r : Option Nat} (h : a.grownBy b r) (k : b.grownBy c r) : a.grownBy c r :=
  ⟨k.os.trans h.os, k.tape.trans h.tape, k.output.trans h.output, Nat.le_trans h.size k.size, fun i hi hne => (k.block i (by have := h.size; omega) hne).trans (h.block i hi hne)⟩
theorem grown_drew {a b : World} {r : Option Nat} (h : a.grownBy b r) : a.grownBy b.drew r := ⟨h.os, h.tape, h.output, h.size, h.block⟩

theorem bytes_nil_rev (w : World) : Calls Tryz.prog 122 #[.slice none 0 0] w fun e w' => e = .returned (.tuple #[]) ∧ w = w' := by
  go_enter Tryz.func122, Tryz.ntmps122
  go_wp2_with fail
  refine wp_loop_rounds 1 ?_
  rw [rounds_succ]
  go_wp2_with fail
  go_end0
  exact ⟨rfl, rfl⟩

set_option maxHeartbeats 800000 in
theorem reverse_any (base g n cap : Nat) (l : List UInt8) (hn : n = l.length) (w : World) (h : w.ownsRow base 5 1 (.slice (some ⟨g, 0, none⟩) n cap) n (bcells l)) (hm : n ≤ 1000000000000) :
    Calls Tryz.prog 122 #[.slice (some ⟨g, 0, none⟩) n cap] w fun e w' =>
      e = .returned (.tuple #[]) ∧ w'.ownsRow base 5 1 (.slice (some ⟨g, 0, none⟩) n cap) n (bcells l.reverse) ∧ w.grownBy w' (some g) := by
  have HN := Lib.hid hn
  have H := Lib.hid h
  clear hn h
  go_enter Tryz.func122, Tryz.ntmps122
  go_wp2_with fail
  go_loopw [2, 3] (fun i j wr => ∃ k : Nat, k ≤ n ∧ i = .int .i64 k ∧ j = .int .i64 ((n : Int) - 1 - k) ∧ ∃ M, Hid (RevTo l k M) ∧ wr.ownsRow base 5 1 (.slice (some ⟨g, 0, none⟩) n cap) n (bcells M) ∧ w.grownBy wr (some g)) (fun i _ _ => n - (intOf i).toNat)
  case atStart => exact ⟨0, by omega, rfl, by go_num, l, revTo_zero l, H.out, World.grownBy.refl _ _⟩
  case round =>
    obtain ⟨k, hk, rfl, rfl, M, HM, ho, hg⟩ := hrel
    by_cases hlt : k + k + 1 < n
    · obtain ⟨j, hj⟩ : ∃ j : Nat, j + k + 1 = n := ⟨n - 1 - k, by omega⟩
      have ej : ((n : Int) - 1 - (k : Int)) = (j : Int) := by omega
      rw [ej]
      have hkj : k < j := by omega
      have hkjI : (k : Int) < (j : Int) := by omega
      have hjn : (j : Int) < (n : Int) := by omega
      have hkn : (k : Int) < (n : Int) := by omega
      have f1 := ho.frozenAt k
      have f2 := ho.frozenAt j
      have c1 := ho.cellAt k (by omega)
      have c2 := ho.cellAt j (by omega)
      have hML := HM.out.1
      rw [bcells_getElem? M k (by have := HN.out; omega)] at c1
      rw [bcells_getElem? M j (by have := HN.out; omega)] at c2
      have HJ := Lib.hid (And.intro hj (And.intro ej hML))
      clear hj ej hML
      generalize hx : M.getD k 0 = x at *
      generalize hy : M.getD j 0 = y at *
      have HXY := Lib.hid (And.intro hx hy)
      clear hx hy
      go_wp2_with fail
      go_region
      all_goals
        go_wp2_with fail
        go_roundw
        case rel =>
          obtain ⟨hj, ej, hML⟩ := HJ.out
          obtain ⟨hx, hy⟩ := HXY.out
          have ejl : l.length - 1 - k = j := by have := HN.out; omega
          obtain ⟨o1, g1⟩ := ho.stored k (.int .u8 ((y.toNat : Nat) : Int))
          obtain ⟨o2, g2⟩ := o1.stored j (.int .u8 ((x.toNat : Nat) : Int))
          rw [bcells_set, bcells_set] at o2
          have hr := revTo_step HM.out (by omega)
          rw [ejl, hx, hy] at hr
          exact ⟨k + 1, by omega, by go_num, by go_num, _, hr, o2.drew, grown_trans hg (grown_trans g1 (grown_drew g2))⟩
        case measure => simp [intOf]; omega
    · have hle : ¬ (k : Int) < (n : Int) - 1 - (k : Int) := by omega
      go_wp2_with fail
      go_end0
      have e := revTo_end HM.out (by have := HN.out; omega)
      rw [← e]
      exact ⟨rfl, ho, hg⟩
end
end Go.Proofs.YtocnlapbkidinaaGreatDoor
namespace Go.Proofs.YtocnlapbkidinaaGreatDoor
section
open Go.RowKit

theorem info8 : (Tryz.prog.info? 5).map (fun i => (i.zero, i.size, i.bytes)) = some (some (.int .u8 0), 1, 1) := by kernel_rfl

/-- A letter of the constant text of digits. -/
theorem digit_at (k : Nat) (hk : k < 36) (w : World) : (Instr.index 9 (.string ⟨#[48, 49, 50, 51, 52, 53, 54, 55, 56, 57, 97, 98, 99, 100, 101, 102, 103, 104, 105, 106, 107, 108, 109, 110, 111, 112, 113, 114, 115, 116, 117, 118, 119, 120, 121, 122]⟩) (.int .u32 (k : Int))).run Tryz.prog w = .ok (.int .u8 (((chr k).toNat : Nat) : Int)) w := by
  rcases (show k = 0 ∨ k = 1 ∨ k = 2 ∨ k = 3 ∨ k = 4 ∨ k = 5 ∨ k = 6 ∨ k = 7 ∨ k = 8 ∨ k = 9 ∨ k = 10 ∨ k = 11 ∨ k = 12 ∨ k = 13 ∨ k = 14 ∨ k = 15 ∨ k = 16 ∨ k = 17 ∨ k = 18 ∨ k = 19 ∨ k = 20 ∨ k = 21 ∨ k = 22 ∨ k = 23 ∨ k = 24 ∨ k = 25 ∨ k = 26 ∨ k = 27 ∨ k = 28 ∨ k = 29 ∨ k = 30 ∨ k = 31 ∨ k = 32 ∨ k = 33 ∨ k = 34 ∨ k = 35 by omega) with rfl | rfl | rfl | rfl | rfl | rfl | rfl | rfl | rfl | rfl | rfl | rfl | rfl | rfl | rfl | rfl | rfl | rfl | rfl | rfl | rfl | rfl | rfl | rfl | rfl | rfl | rfl | rfl | rfl | rfl | rfl | rfl | rfl | rfl | rfl | rfl
  all_goals kernel_rfl

/-- A row of bytes of the call's own. -/
def BOwn (w : World) (base : Nat) (v : Value) (l : List UInt8) : Prop := w.ownsRow base 5 1 v l.length (bcells l)
theorem Only.grown {g : Nat} {w w' : World} (h : Only g w w') : w.grownBy w' (some g) := ⟨h.os, h.tape, h.output, by rw [h.size]; exact Nat.le_refl _, fun k _ hne => h.block k (fun e => hne (by rw [e]))⟩
/-- A row of bytes is no block of limbs. -/
theorem BOwn.ne {w : World} {base g : Nat} {v : Value} {l : List UInt8} {L : List Nat} (h : BOwn w base v l) (hb : Blk w g L) : v.ownBlock ≠ some g := by
  rcases h.2 with ⟨rfl, _⟩ | ⟨g', cap, cur, rfl, _, hh, _⟩
  · simp [Value.ownBlock]
  · intro he
    have : g' = g := by simpa [Value.ownBlock] using he
    subst this
    unfold Blk at hb
    rw [hb] at hh
    simp at hh
theorem BOwn.only {w w' : World} {base g : Nat} {v : Value} {l : List UInt8} {L : List Nat} (h : BOwn w base v l) (hb : Blk w g L) (ho : Only g w w') : BOwn w' base v l :=
  World.ownsRow.kept h ho.grown (.inr (h.ne hb))
theorem Blk.grownB {w w' : World} {g : Nat} {L : List Nat} {row : Option Nat} (hb : Blk w g L) (hg : w.grownBy w' row) (hne : row ≠ some g) : Blk w' g L := (hg.block g hb.lt (fun e => hne e.symm)).trans hb

/-- What Text has made so far of the number n: digits, and what is left to be told. -/
structure TextInv (w : World) (b n n0 r m : Nat) (v : Value) (wr : World) (O : List Nat) (L : List Nat) : Prop where
  len : m = (limbs r).length
  lenL : L.length = n0
  take : L.take m = limbs r
  okL : Ok L
  blk : Blk wr w.heap.size L
  own : BOwn wr w.heap.size v (O.map chr)
  okO : Okb b O
  num : n = valb b O + b ^ O.length * r
  bel : Below w.heap.size w wr
  lenO : O.length ≤ 50000000000

/-- ... and inside a round: the digits of what divInto left. -/
structure TextIn (w : World) (b low j lo : Nat) (v : Value) (wr : World) (O D L : List Nat) : Prop where
  lenD : D.length = j
  okD : Okb b D
  num : low = valb b D + b ^ j * lo
  blk : Blk wr w.heap.size L
  own : BOwn wr w.heap.size v ((O ++ D).map chr)
  bel : Below w.heap.size w wr

/-- There are not more digits than bits. -/
theorem text_len {w : World} {b n0 r m : Nat} {xs : List Nat} {v : Value} {wr : World} {O L : List Nat} {n1 : Nat} (h : TextInv w b (val xs) n0 r m v wr O L) (hb : 2 ≤ b) (ok : Ok xs) (hl : n1 = xs.length) (hn : n1 ≤ 1000000000) (hr : r ≠ 0) : O.length ≤ 40000000000 := by
  have h1 := val_lt ok
  have h2 : b ^ O.length ≤ b ^ O.length * r := Nat.le_mul_of_pos_right _ (by omega)
  have h3 : 2 ^ O.length ≤ b ^ O.length := Nat.pow_le_pow_left hb _
  have h4 := h.num
  have h5 : 2 ^ O.length < 2 ^ (32 * xs.length) := by
    rw [Nat.pow_mul]
    show _ < 4294967296 ^ xs.length
    omega
  have h6 := (Nat.pow_lt_pow_iff_right (by decide : 1 < 2)).1 h5
  omega

theorem low_num (lo b : Nat) (h : lo < 4294967296) : Value.int .u32 ((lo : Int) / (b : Int) % 4294967296) = Value.int .u32 ((lo / b : Nat) : Int) := by
  have : lo / b ≤ lo := Nat.div_le_self _ _
  rw [← Int.natCast_ediv]
  generalize lo / b = q at this ⊢
  exact congrArg _ (by omega)
theorem bcells_snoc (l : List UInt8) (c : UInt8) : bcells l ++ [Value.int .u8 ((c.toNat : Nat) : Int)] = bcells (l ++ [c]) := by simp [bcells]
theorem text_in_step {w : World} {b low j lo : Nat} {v v' : Value} {wr w3 : World} {O D L : List Nat} {o : Obj} (h : TextIn w b low j lo v wr O D L) (hb : 2 ≤ b)
    (hown : w3.ownsRow w.heap.size 5 1 v' (((O ++ D).map chr).length + 1) (bcells ((O ++ D).map chr) ++ [Value.int .u8 (((chr (lo % b)).toNat : Nat) : Int)])) (hg : (wr.alloc o).grownBy w3 v.ownBlock) :
    TextIn w b low (j + 1) (lo / b) v' w3 O (D ++ [lo % b]) L := by
  have hsz := h.bel.size
  have e : (O ++ (D ++ [lo % b])).map chr = (O ++ D).map chr ++ [chr (lo % b)] := by simp
  refine ⟨by simp [h.lenD], h.okD.append (Okb.cons (Nat.mod_lt _ (by omega)) Okb.nil), ?_, (h.blk.alloc o).grownB hg (h.own.ne h.blk), ?_, ?_⟩
  · rw [valb_snoc, h.lenD, h.num, Nat.pow_succ, Nat.mul_assoc, Nat.add_assoc, ← Nat.mul_add, Nat.mod_add_div]
  · unfold BOwn
    rw [e, ← bcells_snoc, List.length_append]
    exact hown
  · refine (h.bel.alloc (by omega) o).grown hg (by simp; omega) (fun k hk => ?_)
    exact (World.ownsRow.lt h.own k hk).1
theorem text_low_zero {b low t lo : Nat} {D : List Nat} (h : low = valb b D + b ^ t * lo) (hl : low < b ^ t) : lo = 0 := by
  rcases Nat.eq_zero_or_pos lo with h0 | h0
  · exact h0
  · have : b ^ t ≤ b ^ t * lo := Nat.le_mul_of_pos_right _ h0
    omega
theorem text_out_step {w : World} {b n n0 r m t low lo : Nat} {v v' : Value} {wr wr' : World} {O D L Q : List Nat} {m' : Nat} (h : TextInv w b n n0 r m v wr O L) (hin : TextIn w b low t lo v' wr' O D (Q ++ List.drop m L))
    (hnum : low = valb b D) (hlow : low = r % b ^ t) (hQ : val Q = r / b ^ t) (hOD : O.length + t ≤ 50000000000) (hQo : Ok Q) (hm' : m' = (limbs (val Q)).length) (hlen : (Q ++ List.drop m L).length = n0) (okL : Ok (Q ++ List.drop m L)) :
    TextInv w b n n0 (r / b ^ t) m' v' wr' (O ++ D) (Q ++ List.drop m L) := by
  refine ⟨by rw [hm', hQ], hlen, ?_, okL, hin.blk, hin.own, h.okO.append hin.okD, ?_, hin.bel, by rw [List.length_append, hin.lenD]; exact hOD⟩
  · have hle : m' ≤ Q.length := by rw [hm']; exact limbs_len_val hQo
    rw [List.take_append_of_le_length hle, ← hQ, hm', ← trimL_limbs hQo]
    exact (trimL_take Q).symm
  · rw [h.num, valb_append, List.length_append, Nat.pow_add, ← hnum, hin.lenD, hlow, Nat.add_assoc, Nat.mul_assoc, ← Nat.mul_add, Nat.mod_add_div]

set_option maxHeartbeats 1600000 in
theorem text_any (A : Option Addr) (n1 c1 : Nat) (xs : List Nat) (b : Nat) (w : World) (h : Sl w A n1 c1 xs) (hb : 2 ≤ b) (hb2 : b ≤ 36) (hn1 : n1 ≤ 1000000000) :
    Calls Tryz.prog 99 #[.slice A n1 c1, .int .i64 (b : Int)] w fun e w' => ∃ t : ByteArray, e = .returned (.string t) ∧ t.data.toList = txt b (val xs) ∧ Below w.heap.size w w' := by
  obtain ⟨n0, HN⟩ : ∃ n, Hid (n = (limbs (val xs)).length) := ⟨_, rfl⟩
  have hn0 : n0 ≤ 1000000000 := by have := HN.out; have := limbs_len_val h.ok; have := h.len; omega
  obtain ⟨i0, hi, hz0, hz1, hz2⟩ := info_parts info8
  go_enter Tryz.func99, Tryz.ntmps99
  go_wp2_with (first | (go_at_call 119; refine (isBase_yes _ (by omega) (by omega) _).mono ?_; rintro e w' ⟨rfl, rfl⟩) | (go_at_call 120; refine (pieceOf_any b hb hb2 _).mono ?_; rintro e w' ⟨t, pc, ht1, ht2, ht3, HPC, rfl, rfl⟩) | (go_at_call 112; refine (norm_exact _ _ _ _ _ h (by omega) n0 HN).mono ?_; rintro e w1 ⟨rfl, hB1, hbel1⟩))
  go_loopg [7, 8] (val xs) (fun r v rs wr => ∃ (O : List Nat) (m : Nat) (L : List Nat), rs = .slice (some ⟨w.heap.size, 0, none⟩) m n0 ∧ m ≤ n0 ∧ TextInv w b (val xs) n0 r m v wr O L)
  case atStart =>
    refine ⟨[], n0, limbs (val xs), rfl, Nat.le_refl _, HN.out, HN.out.symm, by rw [HN.out, List.take_length], limbs_ok _, hB1, World.ownsRow_nil _ _ _ _, Okb.nil, by simp [valb], hbel1, by simp⟩
  case round =>
    obtain ⟨O, m, L, rfl, hm0, hinv⟩ := hrel
    by_cases hm : 0 < m
    · obtain ⟨r, HR⟩ : ∃ r, r = gk := ⟨_, rfl⟩
      subst HR
      have hpc1 : 0 < pc := by rw [HPC.out]; exact Nat.pow_pos (by omega)
      have hsl : Sl wr (some ⟨w.heap.size, 0, none⟩) m n0 (limbs r) := by
        have := hinv.blk.sl hinv.okL (by rw [hinv.lenL]; unfold maxLen; omega) m (by rw [hinv.lenL]; exact hm0)
        rwa [hinv.lenL, hinv.take] at this
      have hLm : m ≤ L.length := by rw [hinv.lenL]; exact hm0
      obtain ⟨low, HLOW⟩ : ∃ q, Hid (q = val (limbs r) % pc) := ⟨_, rfl⟩
      have hlow : low < pc := by rw [HLOW.out]; exact Nat.mod_lt _ hpc1
      have hOl := text_len hinv hb h.ok h.len hn1 (by have := hinv.len; intro h0; rw [h0, limbs_zero] at this; simp at this; omega)
      go_wp2_with (go_at_call 121; refine (divInto_at w.heap.size m n0 _ n0 (limbs r) L pc _ hinv.blk hLm hsl (fun b off e _ => by simp at e; exact .inr e.2.symm) hpc1 ht3 (by omega) hm0 low HLOW).mono ?_; rintro e w2 ⟨rfl, ⟨Q, hQl, hQo, hQv, hQb⟩, ho2⟩)
      have HQ := Lib.hid (And.intro hQl hQv)
      have hbel2 := hinv.bel.trans (ho2.below (Nat.le_refl _))
      have hown2 := hinv.own.only hinv.blk ho2
      clear hQl hQv
      go_loopw [7, 9, 31] (fun v lw i ws => ∃ (j lo : Nat) (D : List Nat), j ≤ t ∧ i = .int .i64 j ∧ lw = .int .u32 lo ∧ lo < 4294967296 ∧ TextIn w b low j lo v ws O D (Q ++ List.drop m L)) (fun _ _ i _ => t - (intOf i).toNat)
      case atStart => exact ⟨0, low, [], by omega, rfl, rfl, by omega, rfl, Okb.nil, by simp [valb], hQb, by simpa using hown2, hbel2⟩
      case round =>
        obtain ⟨j, lo, D, hj, rfl, rfl, hlo, hin⟩ := hrel
        by_cases hjt : j < t
        · have hmod : lo % b < b := Nat.mod_lt _ (by omega)
          have hix : ∀ W, (Instr.index 9 (.string ⟨#[48, 49, 50, 51, 52, 53, 54, 55, 56, 57, 97, 98, 99, 100, 101, 102, 103, 104, 105, 106, 107, 108, 109, 110, 111, 112, 113, 114, 115, 116, 117, 118, 119, 120, 121, 122]⟩) (.int .u32 ((lo : Int) % (b : Int)))).run Tryz.prog W = .ok (.int .u8 (((chr (lo % b)).toNat : Nat) : Int)) W := by
            intro W
            rw [← Int.natCast_emod]
            exact digit_at _ (by omega) W
          have hown := hin.own
          have hsz := hin.bel.size
          have hDl : ((O ++ D).map chr).length ≤ 50000000000 := by have := hin.lenD; simp; omega
          go_wp2_with (at_builtin; refine wpList_append_own _ rfl (.tmp 33) (.tmp 39) 110 rfl w.heap.size 5 i0 (.int .u8 0) 1 1 Tryz.underlying110 hi hz0 hz1 hz2 rfl (by decide) _ _ _ rfl (World.ownsRow.alloc hown _) ⟨_, 0, none⟩ 1 1 [.int .u8 (((chr (lo % b)).toNat : Nat) : Int)] rfl rfl (cell_one_new _ _ _) (fun u hu => by simp at hu; subst hu; rfl) (by unfold maxLen; omega) (by omega) (by simp; omega) ?_; intro v' w3 hown3 hgrow3 _)
          have hstep := text_in_step (v := u7) hin hb hown3 hgrow3
          clear hown3 hgrow3 hix
          go_wp2_with fail
          go_roundw
          case rel => exact ⟨j + 1, lo / b, _, by omega, by go_num, low_num lo b hlo, Nat.lt_of_le_of_lt (Nat.div_le_self _ _) hlo, hstep⟩
          case measure => simp [intOf]; omega
        · obtain rfl : j = t := by omega
          have hlo0 : lo = 0 := text_low_zero hin.num (by rw [← HPC.out]; exact hlow)
          subst hlo0
          have hnum := hin.num
          rw [Nat.mul_zero, Nat.add_zero] at hnum
          obtain ⟨m', HM'⟩ : ∃ m', Hid (m' = (limbs (val Q)).length) := ⟨_, rfl⟩
          have hm' : m' ≤ m := by rw [HM'.out, ← HQ.out.1]; exact limbs_len_val hQo
          have hLlen : (Q ++ List.drop m L).length = n0 := by have h1 := HQ.out.1; have h2 := hinv.lenL; simp; omega
          have okL1 : Ok (Q ++ List.drop m L) := hQo.append (hinv.okL.drop m)
          have hsl2 : Sl wr (some ⟨w.heap.size, 0, none⟩) m n0 Q := by
            have := hin.blk.sl okL1 (by rw [hLlen]; unfold maxLen; omega) m (by rw [hLlen]; exact hm0)
            rwa [hLlen, List.take_left' HQ.out.1] at this
          have HNUM := Lib.hid hnum
          clear hnum
          have hfin := text_out_step hinv hin HNUM.out (by rw [HLOW.out, limbs_val, HPC.out]) (by rw [HQ.out.2, limbs_val, HPC.out]) (by omega) hQo HM'.out hLlen okL1
          have hrlt : r / b ^ j < r := by
            have hr0 : 0 < r := by
              rcases Nat.eq_zero_or_pos r with h0 | h0
              · have := hinv.len; rw [h0, limbs_zero] at this; simp at this; omega
              · exact h0
            exact Nat.div_lt_self hr0 (Nat.lt_of_lt_of_le (by omega) (Nat.le_self_pow (by omega) b))
          have HF := Lib.hid (And.intro hfin hrlt)
          clear hfin hrlt hLlen
          go_wp2_with (go_at_call 111; refine (trim_at _ _ _ _ _ hsl2 m' HM').mono ?_; rintro e w' ⟨rfl, rfl⟩)
          go_roundg (r / b ^ j)
          case measure => exact HF.out.2
          case rel => exact ⟨_, m', _, rfl, by omega, HF.out.1⟩
    · have hm00 : m = 0 := by omega
      have hr0 : gk = 0 := by
        have := hinv.len
        rw [hm00] at this
        exact (limbs_nil_iff gk).1 (List.eq_nil_of_length_eq_zero this.symm)
      have hv : val xs = valb b O := by
        have := hinv.num
        rw [hr0, Nat.mul_zero, Nat.add_zero] at this
        exact this
      have htx := txt_of b hb hb2 O hinv.okO
      rw [← hv] at htx
      have hl50 := hinv.lenO
      have hown := hinv.own
      have hbel := hinv.bel
      have HT := Lib.hid htx
      clear htx hv hr0 hinv
      subst hm00
      rcases id hown.2 with ⟨hvn, h0⟩ | ⟨g', cap, cur, hvn, hg, hh, hnc, hcm, hcs, htk⟩
      · have hO : O = [] := by
          have := List.eq_nil_of_length_eq_zero h0
          simpa using this
        subst hO
        rw [hvn]
        have hcv := fun W => Lib.run_convert_nil_bytes (P := Tryz.prog) W 110 9 5 0 Tryz.underlying110 Tryz.underlying5 Tryz.underlying9
        clear hown hvn h0
        go_wp2_with (first | (go_at_call 122; refine (bytes_nil_rev _).mono ?_; rintro e w' ⟨rfl, rfl⟩) | (go_at_call 123; refine (trimLeft_any _ _).mono ?_; rintro e w' ⟨t', rfl, ht', rfl⟩; have het : t'.toList.isEmpty = true := (by rw [ByteArray.toList_eq, ht']; rfl); clear ht'))
        go_ret
        exact ⟨_, rfl, by rw [HT.out]; rfl, hbel⟩
      · rw [hvn] at hown ⊢
        clear hh hcs htk hvn
        obtain ⟨n, HNL⟩ : ∃ n, Hid (n = (O.map chr).length) := ⟨_, rfl⟩
        have hnl : n ≤ 1000000000000 := by have := HNL.out; simp at this; omega
        have hown' : wr.ownsRow w.heap.size 5 1 (.slice (some ⟨g', 0, none⟩) n cap) n (bcells (O.map chr)) := by rw [HNL.out]; exact hown
        rw [← HNL.out]
        clear hown
        go_wp2_with fail
        refine (reverse_any w.heap.size g' n cap _ HNL.out _ hown' hnl).mono ?_
        rintro e w4 ⟨rfl, hown4, hg4⟩
        have hbel4 : Below w.heap.size w w4 := hbel.grown hg4 hbel.size (fun k hk => by injection hk with hk; omega)
        have hcv : (convert 110 9 (.slice (some ⟨g', 0, none⟩) n cap)).run Tryz.prog w4 = .ok (.string ⟨(O.map chr).reverse.toArray⟩) w4 := by
          have hnr : n = (O.map chr).reverse.length := by rw [List.length_reverse]; exact HNL.out
          have := run_convert_bytes_back (P := Tryz.prog) w4 110 9 5 ⟨g', 0, none⟩ cap (O.map chr).reverse Tryz.underlying110 Tryz.underlying5 Tryz.underlying9 (fun j hj => by
            rw [cell_add, Nat.zero_add, hown4.cellAt j (by omega), bcells_getElem? _ j hj, List.getD_eq_getElem?_getD, List.getElem?_eq_getElem hj]; rfl)
          rw [← hnr] at this
          exact this
        generalize hS : (⟨(O.map chr).reverse.toArray⟩ : ByteArray) = S at hcv
        have hSl : S.data.toList = O.reverse.map chr := by rw [← hS]; simp
        have HSL := Lib.hid hSl
        clear hSl hS hown4 hg4
        go_wp2_with fail
        refine (trimLeft_any _ _).mono ?_
        rintro e w' ⟨t', rfl, ht', rfl⟩
        rw [HSL.out] at ht'
        clear hcv
        by_cases hE : (O.reverse.map chr).dropWhile (· == 48) = []
        · have het : t'.toList.isEmpty = true := by rw [ByteArray.toList_eq, ht', hE]; rfl
          have HT2 := Lib.hid (HT.out.trans (if_pos hE))
          clear ht' hE
          go_wp2_with fail
          go_ret
          exact ⟨_, rfl, by rw [HT2.out], hbel4⟩
        · have het : t'.toList.isEmpty = false := by rw [ByteArray.toList_eq, ht']; simpa using hE
          have HT2 := Lib.hid ((HT.out.trans (if_neg hE)).trans ht'.symm)
          clear ht' hE
          go_wp2_with fail
          go_ret
          exact ⟨_, rfl, HT2.out.symm, hbel4⟩

set_option maxHeartbeats 400000 in
theorem text_no (A : Option Addr) (n1 c1 : Nat) (b : Int) (w : World) (hb : b < 2 ∨ 36 < b) :
    Calls Tryz.prog 99 #[.slice A n1 c1, .int .i64 b] w fun e w' => e = .returned (.string ⟨#[]⟩) ∧ w = w' := by
  go_enter Tryz.func99, Tryz.ntmps99
  go_wp2_with (go_at_call 119; refine (isBase_no _ hb _).mono ?_; rintro e w' ⟨rfl, rfl⟩)
  go_ret
  exact ⟨rfl, rfl⟩
end
end Go.Proofs.YtocnlapbkidinaaGreatDoor
