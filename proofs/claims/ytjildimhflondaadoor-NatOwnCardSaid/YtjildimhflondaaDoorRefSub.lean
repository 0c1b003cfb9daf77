/-
  The document's own Sub (pavaneref01): what it answers.
-/
import Derived.Test.YtjildimhflondaaDoorRefCmp
namespace Go.Proofs.YtjildimhflondaaDoor
open Go.RowKit

def RSub (w : World) (xs ys : List Nat) (k bo : Nat) (S : List Nat) (v : Value) (wr : World) : Prop :=
  S.length = k ∧ val S + val (ys.take k) = val (xs.take k) + 4294967296 ^ k * bo ∧ Own wr w.heap.size v S ∧ Below w.heap.size w wr
theorem rsub_sum (p v x y bo b' r a b q : Nat) (e : r + (y + bo) = x + 4294967296 * b') (h : v + b = a + p * bo) (hq : q = p * 4294967296) : v + p * r + (b + p * y) = a + p * x + q * b' := by
  have e2 : p * r + (p * y + p * bo) = p * x + p * 4294967296 * b' := by
    rw [← Nat.mul_add, ← Nat.mul_add, e, Nat.mul_add, Nat.mul_assoc]
  rw [hq]
  omega
theorem rsub_step {w : World} {xs ys : List Nat} {k bo b' z : Nat} {u v' : Value} {wr w1 : World} {S : List Nat} {o : Obj} (h : RSub w xs ys k bo S u wr) (hz : z + (lim ys k + bo) = lim xs k + 4294967296 * b') (ho : Own w1 w.heap.size v' (S ++ [z])) (hg : (wr.alloc o).grownBy w1 u.ownBlock) :
    RSub w xs ys (k + 1) b' (S ++ [z]) v' w1 := by
  obtain ⟨hS, hv, hown, hbel⟩ := h
  refine ⟨by simp [hS], ?_, ho, ?_⟩
  · rw [val_snoc, hS, val_take_succ, val_take_succ]
    exact rsub_sum _ _ _ _ _ _ _ _ _ _ hz hv (Nat.pow_succ ..)
  · exact (hbel.alloc hbel.size o).grown hg (by have := hbel.size; simp; omega) (own_row_ge hown)
theorem rsub_end {xs ys S : List Nat} {n bo : Nat} (hS : S.length = n) (oS : Ok S) (hv : val S + val (ys.take n) = val (xs.take n) + 4294967296 ^ n * bo) (ox : Ok xs) (hx : xs.length = n) (hle : val ys ≤ val xs) : val S = val xs - val ys := by
  rw [List.take_of_length_le (l := xs) (by omega)] at hv
  have h1 := val_lt ox
  have h2 := val_lt oS
  rw [hx] at h1
  rw [hS] at h2
  have hy : val (ys.take n) = val ys := by
    rcases Nat.lt_or_ge n ys.length with hn | hn
    · have e := val_take_drop ys n (by omega)
      rcases Nat.eq_zero_or_pos (val (ys.drop n)) with h0 | h0
      · rw [h0, Nat.mul_zero, Nat.add_zero] at e
        exact e.symm
      · exfalso
        have : 4294967296 ^ n ≤ 4294967296 ^ n * val (ys.drop n) := Nat.le_mul_of_pos_right _ h0
        omega
    · rw [List.take_of_length_le hn]
  rw [hy] at hv
  have hbo : bo = 0 := by
    rcases Nat.eq_zero_or_pos bo with h0 | h0
    · exact h0
    · exfalso
      have : 4294967296 ^ n ≤ 4294967296 ^ n * bo := Nat.le_mul_of_pos_right _ h0
      omega
  subst hbo
  rw [Nat.mul_zero, Nat.add_zero] at hv
  omega

set_option maxRecDepth 20000 in
set_option maxHeartbeats 1600000 in
theorem rsub_any (A1 : Option Addr) (n1 c1 : Nat) (xs : List Nat) (v2 : Value) (A2 : Option Addr) (n2 c2 : Nat) (ys : List Nat) (w : World) (h1 : Sl w A1 n1 c1 xs) (h2 : Sl w A2 n2 c2 ys) (hv2 : v2 = .slice A2 n2 c2) (b1 : n1 ≤ 1000000000) (b2 : n2 ≤ 1000000000) :
    Calls Tryd.prog 68 #[.slice A1 n1 c1, v2] w (Gives w (val xs - val ys)) := by
  subst hv2
  have u1 := Num.of_sl h1 (Nat.le_refl _)
  have u2 := Num.of_sl h2 (Nat.le_refl _)
  obtain ⟨i0, hi, hz0, hz1, hz2⟩ := info_parts info32
  have hcb := cmpN_bd (val xs) (val ys)
  by_cases hlt : val xs < val ys
  · have hc : cmpN (val xs) (val ys) < 0 := (cmpN_neg_iff _ _).2 hlt
    have HZ := Lib.hid (show val xs - val ys = 0 by omega)
    clear hlt
    go_enter Tryd.func68, Tryd.ntmps68
    go_wp2_with (go_at_call 67; refine (rcmp_num u1 u2 b1 b2).mono ?_; rintro e w1 ⟨rfl, hb1⟩)
    go_ret
    exact ⟨_, rfl, by rw [HZ.out]; exact (own_lit0 w1 w.heap.size hb1.size).new, bnew hb1 _⟩
  · have hc : ¬ cmpN (val xs) (val ys) < 0 := fun h => hlt ((cmpN_neg_iff _ _).1 h)
    have HL := Lib.hid h1.len
    have HLE := Lib.hid (show val ys ≤ val xs by omega)
    clear hlt
    go_enter Tryd.func68, Tryd.ntmps68
    go_wp2_with (go_at_call 67; refine (rcmp_num u1 u2 b1 b2).mono ?_; rintro e w1 ⟨rfl, hb1⟩)
    go_loopw [5, 6, 17] (fun v c i wr => ∃ k bo : Nat, k ≤ n1 ∧ i = .int .i64 k ∧ c = .int .u64 bo ∧ bo ≤ 1 ∧ ∃ S, RSub w xs ys k bo S v wr) (fun _ _ i _ => n1 - (intOf i).toNat)
    case atStart => exact ⟨0, 0, by omega, rfl, rfl, by omega, [], rfl, by simp [val], Own.nil _ _, hb1⟩
    case round =>
      obtain ⟨k, bo, hk, rfl, rfl, hbo, S, hinv⟩ := hrel
      by_cases hkn : k < n1
      · obtain ⟨hS, hv, hown, hbel⟩ := id hinv
        have s1 := h1.below hbel
        have s2 := h2.below hbel
        obtain ⟨p1, o1, rfl, _, q1⟩ := s1.here (by omega)
        have g1 := q1 k hkn
        have x1 := h1.ok.getD k
        have x2 := h2.ok.getD k
        have hsz := hbel.size
        have HS := Lib.hid hS
        clear hv hS q1
        have hlen : S.length + 1 ≤ 10000000000 := by rw [HS.out]; omega
        by_cases hxy : lim xs k < lim ys k + bo
        · obtain ⟨z, hz⟩ : ∃ z, z + (lim ys k + bo) = lim xs k + 4294967296 := ⟨lim xs k + 4294967296 - (lim ys k + bo), by omega⟩
          have hzb : z < 4294967296 := by omega
          have hlit := (Blk.lit1 wr z).slAll (Ok.cons hzb Ok.nil) (by unfold maxLen; simp)
          have hown' : Own (wr.alloc (.cells #[Value.int .u32 (z : Int)] 32)) w.heap.size u5 S := ⟨hown.1, hown.2.alloc _⟩
          have hzi : (lim xs k : Int) + 4294967296 - ((lim ys k : Int) + (bo : Int)) = (z : Int) := by omega
          have HZ := Lib.hid hz
          clear hz
          go_wp2_with (first | (go_at_call 89; refine (rlimb_any _ _ _ _ _ _ s2 (by omega)).mono ?_; rintro e w' ⟨rfl, rfl⟩) | (at_builtin; refine wpList_append_limbs rfl (.tmp 35) (.tmp 40) rfl i0 Tryd.underlying22 hi hz0 hz1 hz2 w.heap.size _ S rfl hown' _ _ _ _ rfl hlit hlen (by simp; omega) ?_; intro v' w2 hown1 hg1))
          clear hzi
          go_roundw
          case rel => exact ⟨k + 1, 1, by omega, by go_num, rfl, by omega, _, rsub_step hinv (by rw [HZ.out, Nat.mul_one]) hown1 hg1⟩
          case measure => simp [intOf]; omega
        · obtain ⟨z, hz⟩ : ∃ z, z + (lim ys k + bo) = lim xs k := ⟨lim xs k - (lim ys k + bo), by omega⟩
          have hzb : z < 4294967296 := by omega
          have hlit := (Blk.lit1 wr z).slAll (Ok.cons hzb Ok.nil) (by unfold maxLen; simp)
          have hown' : Own (wr.alloc (.cells #[Value.int .u32 (z : Int)] 32)) w.heap.size u5 S := ⟨hown.1, hown.2.alloc _⟩
          have hzi : (lim xs k : Int) - ((lim ys k : Int) + (bo : Int)) = (z : Int) := by omega
          have HZ := Lib.hid hz
          clear hz
          go_wp2_with (first | (go_at_call 89; refine (rlimb_any _ _ _ _ _ _ s2 (by omega)).mono ?_; rintro e w' ⟨rfl, rfl⟩) | (at_builtin; refine wpList_append_limbs rfl (.tmp 35) (.tmp 40) rfl i0 Tryd.underlying22 hi hz0 hz1 hz2 w.heap.size _ S rfl hown' _ _ _ _ rfl hlit hlen (by simp; omega) ?_; intro v' w2 hown1 hg1))
          clear hzi
          go_roundw
          case rel => exact ⟨k + 1, 0, by omega, by go_num, rfl, by omega, _, rsub_step hinv (by rw [HZ.out, Nat.mul_zero, Nat.add_zero]) hown1 hg1⟩
          case measure => simp [intOf]; omega
      · obtain rfl : k = n1 := by omega
        obtain ⟨hS, hv, hown, hbel⟩ := hinv
        have e := rsub_end hS hown.1 hv h1.ok HL.out.symm HLE.out
        have hn := hown.new.num'
        have HE := Lib.hid e
        have hle : S.length ≤ 1000000000 := by omega
        clear hS hv e
        go_wp2_with (go_at_call 65; refine (rnorm_num hn hle).mono ?_; rintro e w2 ⟨v', rfl, hnew, hb2⟩)
        go_ret
        rw [HE.out] at hnew
        exact ⟨v', rfl, hnew.from_ hbel.size, bnext hbel hb2⟩
theorem rsub_num {w : World} {u v : Value} {a b K L : Nat} (hu : Num w u a K) (hv : Num w v b L) (hK : K ≤ 1000000000) (hL : L ≤ 1000000000) : Calls Tryd.prog 68 #[u, v] w (Gives w (a - b)) := by
  obtain ⟨A1, n1, c1, xs, rfl, s1, rfl, k1⟩ := hu
  obtain ⟨A2, n2, c2, ys, rfl, s2, rfl, k2⟩ := hv
  exact rsub_any _ _ _ _ _ _ _ _ _ _ s1 s2 rfl (by omega) (by omega)
end Go.Proofs.YtjildimhflondaaDoor
