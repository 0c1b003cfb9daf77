/-
  The document's own Sub (pavaneref01): what it answers. The document's own Mul (pavaneref01): what it answers. The document's own whole numbers: Norm, Neg, Sub, Mul, Add, Cmp.
-/
import Derived.Test.YtocnlapbkidinaaGreatDoorPn5
import Derived.Deep.QuietTactic
import Derived.BigQuiet
import Derived.Test.YtocnlapbkidinaaGreatDoorQWc
set_option linter.unusedVariables false
set_option linter.unusedSimpArgs false
set_option linter.unusedSectionVars false
set_option linter.unnecessarySimpa false
namespace Go.Proofs.YtocnlapbkidinaaGreatDoor
section
open Go.RowKit

def RSub (w : World) (xs ys : List Nat) (k bo : Nat) (S : List Nat) (v : Value) (wr : World) : Prop :=
  S.length = k ∧ val S + val (ys.take k) = val (xs.take k) + 4294967296 ^ k * bo ∧ Own wr w.heap.size v S ∧ Below w.heap.size w wr
theorem rsub_sum (p v x y bo b' r a b q : Nat) (e : r + (y + bo) = x + 4294967296 * b') (h : v + b = a + p * bo) (hq : q = p * 4294967296) : v + p * r + (b + p * y) = a + p * x + q * b' := by
  have e2 : p * r + (p * y + p * bo) = p * x + p * 4294967296 * b' := by
    rw [← Nat.mul_add, ← Nat.mul_add, e, Nat.mul_add, Nat.mul_assoc]
  rw [hq]
  omega
theorem rsub_step {w : World} {xs ys : List Nat} {k bo b' z : Nat} {u v' : Value} {wr w1 : World} {S : List Nat} {o : Obj} (h : RSub w xs ys k bo S u wr) (hz : z + (lim ys k + bo) = lim xs k + 4294967296 * b') (ho : Own w1 w.heap.size v' (S ++ [z])) (hg : (wr.alloc o).grownBy w1 u.ownBlock) :
    RSub w xs ys (k + 1) b' (S ++ [z]) v' w1 := by
  obtain ⟨hS, hv, hown, hbel⟩ := h
  refine ⟨by simp [hS], ?_, ho, ?_⟩
  · rw [val_snoc, hS, val_take_succ, val_take_succ]
    exact rsub_sum _ _ _ _ _ _ _ _ _ _ hz hv (Nat.pow_succ ..)
  · exact (hbel.alloc hbel.size o).grown hg (by have := hbel.size; simp; omega) (own_row_ge hown)
theorem rsub_end {xs ys S : List Nat} {n bo : Nat} (hS : S.length = n) (oS : Ok S) (hv : val S + val (ys.take n) = val (xs.take n) + 4294967296 ^ n * bo) (ox : Ok xs) (hx : xs.length = n) (hle : val ys ≤ val xs) : val S = val xs - val ys := by
  rw [List.take_of_length_le (l := xs) (by omega)] at hv
  have h1 := val_lt ox
  have h2 := val_lt oS
  rw [hx] at h1
  rw [hS] at h2
  have hy : val (ys.take n) = val ys := by
    rcases Nat.lt_or_ge n ys.length with hn | hn
    · have e := val_take_drop ys n (by omega)
      rcases Nat.eq_zero_or_pos (val (ys.drop n)) with h0 | h0
      · rw [h0, Nat.mul_zero, Nat.add_zero] at e
        exact e.symm
      · exfalso
        have : 4294967296 ^ n ≤ 4294967296 ^ n * val (ys.drop n) := Nat.le_mul_of_pos_right _ h0
        omega
    · rw [List.take_of_length_le hn]
  rw [hy] at hv
  have hbo : bo = 0 := by
    rcases Nat.eq_zero_or_pos bo with h0 | h0
    · exact h0
    · exfalso
      have : 4294967296 ^ n ≤ 4294967296 ^ n * bo := Nat.le_mul_of_pos_right _ h0
      omega
  subst hbo
  rw [Nat.mul_zero, Nat.add_zero] at hv
  omega

set_option maxRecDepth 20000 in
set_option maxHeartbeats 1600000 in
theorem rsub_any (A1 : Option Addr) (n1 c1 : Nat) (xs : List Nat) (v2 : Value) (A2 : Option Addr) (n2 c2 : Nat) (ys : List Nat) (w : World) (h1 : Sl w A1 n1 c1 xs) (h2 : Sl w A2 n2 c2 ys) (hv2 : v2 = .slice A2 n2 c2) (b1 : n1 ≤ 1000000000) (b2 : n2 ≤ 1000000000) :
    Calls Tryz.prog 103 #[.slice A1 n1 c1, v2] w (Gives w (val xs - val ys)) := by
  subst hv2
  have u1 := Num.of_sl h1 (Nat.le_refl _)
  have u2 := Num.of_sl h2 (Nat.le_refl _)
  obtain ⟨i0, hi, hz0, hz1, hz2⟩ := info_parts info32
  have hcb := cmpN_bd (val xs) (val ys)
  by_cases hlt : val xs < val ys
  · have hc : cmpN (val xs) (val ys) < 0 := (cmpN_neg_iff _ _).2 hlt
    have HZ := Lib.hid (show val xs - val ys = 0 by omega)
    clear hlt
    go_enter Tryz.func103, Tryz.ntmps103
    go_wp2_with (go_at_call 102; refine (rcmp_num u1 u2 b1 b2).mono ?_; rintro e w1 ⟨rfl, hb1⟩)
    go_ret
    exact ⟨_, rfl, by rw [HZ.out]; exact (own_lit0 w1 w.heap.size hb1.size).new, bnew hb1 _⟩
  · have hc : ¬ cmpN (val xs) (val ys) < 0 := fun h => hlt ((cmpN_neg_iff _ _).1 h)
    have HL := Lib.hid h1.len
    have HLE := Lib.hid (show val ys ≤ val xs by omega)
    clear hlt
    go_enter Tryz.func103, Tryz.ntmps103
    go_wp2_with (go_at_call 102; refine (rcmp_num u1 u2 b1 b2).mono ?_; rintro e w1 ⟨rfl, hb1⟩)
    go_loopw [5, 6, 17] (fun v c i wr => ∃ k bo : Nat, k ≤ n1 ∧ i = .int .i64 k ∧ c = .int .u64 bo ∧ bo ≤ 1 ∧ ∃ S, RSub w xs ys k bo S v wr) (fun _ _ i _ => n1 - (intOf i).toNat)
    case atStart => exact ⟨0, 0, by omega, rfl, rfl, by omega, [], rfl, by simp [val], Own.nil _ _, hb1⟩
    case round =>
      obtain ⟨k, bo, hk, rfl, rfl, hbo, S, hinv⟩ := hrel
      by_cases hkn : k < n1
      · obtain ⟨hS, hv, hown, hbel⟩ := id hinv
        have s1 := h1.below hbel
        have s2 := h2.below hbel
        obtain ⟨p1, o1, rfl, _, q1⟩ := s1.here (by omega)
        have g1 := q1 k hkn
        have x1 := h1.ok.getD k
        have x2 := h2.ok.getD k
        have hsz := hbel.size
        have HS := Lib.hid hS
        clear hv hS q1
        have hlen : S.length + 1 ≤ 35184372087808 := by rw [HS.out]; omega
        by_cases hxy : lim xs k < lim ys k + bo
        · obtain ⟨z, hz⟩ : ∃ z, z + (lim ys k + bo) = lim xs k + 4294967296 := ⟨lim xs k + 4294967296 - (lim ys k + bo), by omega⟩
          have hzb : z < 4294967296 := by omega
          have hlit := (Blk.lit1 wr z).slAll (Ok.cons hzb Ok.nil) (by unfold maxLen; simp)
          have hown' : Own (wr.alloc (.cells #[Value.int .u32 (z : Int)] 78)) w.heap.size u5 S := ⟨hown.1, hown.2.alloc _⟩
          have hzi : (lim xs k : Int) + 4294967296 - ((lim ys k : Int) + (bo : Int)) = (z : Int) := by omega
          have HZ := Lib.hid hz
          clear hz
          go_wp2_with (first | (go_at_call 124; refine (rlimb_any _ _ _ _ _ _ s2 (by omega)).mono ?_; rintro e w' ⟨rfl, rfl⟩) | (at_builtin; refine wpList_append_limbs rfl (.tmp 35) (.tmp 40) rfl i0 Tryz.underlying25 hi hz0 hz1 hz2 w.heap.size _ S rfl hown' _ _ _ _ rfl hlit hlen (by simp; omega) ?_; intro v' w2 hown1 hg1))
          clear hzi
          go_roundw
          case rel => exact ⟨k + 1, 1, by omega, by go_num, rfl, by omega, _, rsub_step hinv (by rw [HZ.out, Nat.mul_one]) hown1 hg1⟩
          case measure => simp [intOf]; omega
        · obtain ⟨z, hz⟩ : ∃ z, z + (lim ys k + bo) = lim xs k := ⟨lim xs k - (lim ys k + bo), by omega⟩
          have hzb : z < 4294967296 := by omega
          have hlit := (Blk.lit1 wr z).slAll (Ok.cons hzb Ok.nil) (by unfold maxLen; simp)
          have hown' : Own (wr.alloc (.cells #[Value.int .u32 (z : Int)] 78)) w.heap.size u5 S := ⟨hown.1, hown.2.alloc _⟩
          have hzi : (lim xs k : Int) - ((lim ys k : Int) + (bo : Int)) = (z : Int) := by omega
          have HZ := Lib.hid hz
          clear hz
          go_wp2_with (first | (go_at_call 124; refine (rlimb_any _ _ _ _ _ _ s2 (by omega)).mono ?_; rintro e w' ⟨rfl, rfl⟩) | (at_builtin; refine wpList_append_limbs rfl (.tmp 35) (.tmp 40) rfl i0 Tryz.underlying25 hi hz0 hz1 hz2 w.heap.size _ S rfl hown' _ _ _ _ rfl hlit hlen (by simp; omega) ?_; intro v' w2 hown1 hg1))
          clear hzi
          go_roundw
          case rel => exact ⟨k + 1, 0, by omega, by go_num, rfl, by omega, _, rsub_step hinv (by rw [HZ.out, Nat.mul_zero, Nat.add_zero]) hown1 hg1⟩
          case measure => simp [intOf]; omega
      · obtain rfl : k = n1 := by omega
        obtain ⟨hS, hv, hown, hbel⟩ := hinv
        have e := rsub_end hS hown.1 hv h1.ok HL.out.symm HLE.out
        have hn := hown.new.num'
        have HE := Lib.hid e
        have hle : S.length ≤ 1000000000 := by omega
        clear hS hv e
        go_wp2_with (go_at_call 76; refine (rnorm_num hn (by omega)).mono ?_; rintro e w2 ⟨v', rfl, hnew, hb2⟩)
        go_ret
        rw [HE.out] at hnew
        exact ⟨v', rfl, hnew.from_ hbel.size, bnext hbel hb2⟩
theorem rsub_num {w : World} {u v : Value} {a b K L : Nat} (hu : Num w u a K) (hv : Num w v b L) (hK : K ≤ 1000000000) (hL : L ≤ 1000000000) : Calls Tryz.prog 103 #[u, v] w (Gives w (a - b)) := by
  obtain ⟨A1, n1, c1, xs, rfl, s1, rfl, k1⟩ := hu
  obtain ⟨A2, n2, c2, ys, rfl, s2, rfl, k2⟩ := hv
  exact rsub_any _ _ _ _ _ _ _ _ _ _ s1 s2 rfl (by omega) (by omega)
end
end Go.Proofs.YtocnlapbkidinaaGreatDoor
namespace Go.Proofs.YtocnlapbkidinaaGreatDoor
section
open Go.RowKit

theorem rmul_num_c (l x y c : Nat) : Value.int .u64 (((l : Int) + (x : Int) * (y : Int) + (c : Int)) / 4294967296) = Value.int .u64 (((c + (x * y + l)) / 4294967296 : Nat) : Int) := by
  rw [← Int.natCast_mul]
  exact congrArg _ (by omega)

theorem mul_out_at {w : World} {X Y : List Nat} {N k j c : Nat} {M0 M : List Nat} {wr : World} (hj : j = Y.length) (h0 : M0.length = N ∧ (∀ t, k + Y.length ≤ t → lim M0 t = 0) ∧ val M0 = val (X.take k) * val Y)
    (h : MulIn w X Y N k j c M0 M wr) (hN : X.length + Y.length ≤ N) (hk : k < X.length) (hc : c < 4294967296) {z : Int} (hz : z = (c : Int)) : MulInv w X Y N (k + 1) (M.set (k + j) c) (wr.setCell ⟨w.heap.size, k + j, none⟩ (.int .u32 z)) := by
  subst hj; exact mul_out_step h0 h hN hk hc hz
theorem mul_zero_at {w : World} {X Y : List Nat} {N k j : Nat} {M0 M : List Nat} {wr : World} (hj : j = Y.length) (h0 : M0.length = N ∧ (∀ t, k + Y.length ≤ t → lim M0 t = 0) ∧ val M0 = val (X.take k) * val Y)
    (h : MulIn w X Y N k j 0 M0 M wr) : MulInv w X Y N (k + 1) M wr := by
  subst hj; exact mul_out_zero h0 h
theorem below_drewN {B : Nat} {a w : World} (h : Below B a w) (n : Nat) : Below B a (w.drewN n) := ⟨h.os, h.tape, h.output, h.size, h.block⟩
theorem mulIn_drewN {w : World} {X Y : List Nat} {N k j c : Nat} {M0 M : List Nat} {wr : World} (h : MulIn w X Y N k j c M0 M wr) (n : Nat) : MulIn w X Y N k j c M0 M (wr.drewN n) :=
  ⟨h.1, h.2.1, h.2.2.1, h.2.2.2.1, h.2.2.2.2.1, below_drewN h.2.2.2.2.2 n⟩

set_option maxHeartbeats 3200000 in
theorem rmul_any (A1 : Option Addr) (n1 c1 : Nat) (X : List Nat) (A2 : Option Addr) (n2 c2 : Nat) (Y : List Nat) (w : World) (t1 : Sl w A1 n1 c1 X) (t2 : Sl w A2 n2 c2 Y) (b1 : n1 ≤ 100000000) (b2 : n2 ≤ 100000000) :
    Calls Tryz.prog 105 #[.slice A1 n1 c1, .slice A2 n2 c2] w (Gives w (val X * val Y)) := by
  have M1 := Lib.hid t1.len
  have M2 := Lib.hid t2.len
  have HN : Hid (X.length + Y.length + 1 = n1 + n2 + 1) := by rw [← M1.out, ← M2.out]; exact rfl
  have hmk := fun W => make32 ((n1 : Int) + (n2 : Int) + 1) (n1 + n2 + 1) (by omega) (by omega) W
  go_enter Tryz.func105, Tryz.ntmps105
  go_wp2_with fail
  clear hmk
  go_loopw [21] (fun i wr => ∃ k : Nat, k ≤ n1 ∧ i = .int .i64 k ∧ ∃ M, MulInv w X Y (n1 + n2 + 1) k M wr) (fun i _ => n1 - (intOf i).toNat)
  case atStart =>
    refine ⟨0, by omega, rfl, List.replicate (n1 + n2 + 1) 0, by simp, Ok.replicate _, fun t _ => ?_, by simp [val_replicate, val], Blk.made w (n1 + n2 + 1), (Below.refl _ _).alloc (Nat.le_refl _) _⟩
    rw [lim_eq, List.getElem?_replicate]; split <;> rfl
  case round =>
    obtain ⟨k, hk, rfl, M0, hinv⟩ := hrel
    obtain ⟨wo, rfl⟩ : ∃ wo : World, wo = wr := ⟨_, rfl⟩
    by_cases hkm : k < n1
    · obtain ⟨hl0, ok0, hz0, hv0, hB0, hbel0⟩ := hinv
      have x1 := t1.ok.getD k
      have H0 := Lib.hid (And.intro hl0 (And.intro hz0 hv0))
      clear hl0 hz0 hv0
      go_wp2_with fail
      go_loopw [7, 26] (fun c i wr => ∃ j cy : Nat, j ≤ n2 ∧ i = .int .i64 j ∧ c = .int .u64 cy ∧ cy < 4294967296 ∧ ∃ M, MulIn w X Y (n1 + n2 + 1) k j cy M0 M wr) (fun _ i _ => n2 - (intOf i).toNat)
      case atStart => exact ⟨0, 0, by omega, rfl, rfl, by omega, M0, H0.out.1, ok0, fun _ _ => rfl, by simp [val], hB0, hbel0⟩
      case round =>
        obtain ⟨j, cy, hj, rfl, rfl, hcy, M, hin⟩ := hrel
        by_cases hjm : j < n2
        · obtain ⟨hl, ok, hu, hv, hB, hbel⟩ := id hin
          obtain ⟨b, off, rfl, hb, hc⟩ := (t1.below hbel).here (by omega)
          obtain ⟨b', off', rfl, hb', hc'⟩ := (t2.below hbel).here (by omega)
          have hck := hc k hkm
          have hcj := hc' j hjm
          have y1 := t2.ok.getD j
          have hf := hB.frozen (k + j)
          have hcl := hB.cell (k + j) (by omega)
          have z1 := ok.getD (k + j)
          have hm := mul_bd _ _ x1 y1
          have hm' : (lim X k : Int) * (lim Y j : Int) ≤ 18446744065119617025 := by rw [← Int.natCast_mul]; omega
          have hm0 : 0 ≤ (lim X k : Int) * (lim Y j : Int) := by rw [← Int.natCast_mul]; omega
          have i1 : (k : Int) < (n1 : Int) := by omega
          have i2 : (j : Int) < (n2 : Int) := by omega
          have i3 : (k : Int) + (j : Int) < (n1 : Int) + (n2 : Int) + 1 := by omega
          clear hc hc' hl hu hv
          go_wp2_with fail
          go_quiet (fail)
          have hin' := mulIn_drewN hin nq
          have hstep := mul_in_step hin' (z := ((lim M (k + j) : Int) + (lim X k : Int) * (lim Y j : Int) + (cy : Int)) % 4294967296) (by have := M1.out; have := M2.out; omega) (by have := M1.out; omega) (by have := M2.out; omega) (by rw [← Int.natCast_mul]; omega)
          have HST := Lib.hid hstep
          clear hstep hin' hin
          go_wp2_with fail
          go_roundw
          case rel => exact ⟨j + 1, _, by omega, by go_num, rmul_num_c _ _ _ _, mul_c_lt _ _ _ _ hcy hm z1, _, HST.out⟩
          case measure => simp [intOf]; omega
        · obtain rfl : j = n2 := by omega
          have HIN := Lib.hid hin
          have hbel := hin.2.2.2.2.2
          clear hin
          go_wp2_with fail
          go_loopw [7, 10] (fun c i ws => ∃ kk c' : Nat, kk ≤ k + j + 1 ∧ i = .int .i64 kk ∧ c = .int .u64 c' ∧ c' < 4294967296 ∧ ∃ M', (kk = k + j ∧ MulIn w X Y (n1 + j + 1) k j c' M0 M' ws ∨ c' = 0 ∧ MulInv w X Y (n1 + j + 1) (k + 1) M' ws)) (fun _ i _ => k + j + 1 - (intOf i).toNat)
          case atStart => exact ⟨k + j, cy, by omega, by go_num, rfl, hcy, M, .inl ⟨rfl, HIN.out⟩⟩
          case round =>
            obtain ⟨kk, c', hkk, rfl, rfl, hc', M', hcase⟩ := hrel
            by_cases hpos : 0 < c'
            · obtain ⟨rfl, hin⟩ : kk = k + j ∧ MulIn w X Y (n1 + j + 1) k j c' M0 M' wr := by
                rcases hcase with h | ⟨h, _⟩
                · exact h
                · omega
              obtain ⟨hl, ok, hu, hv, hB, hbel⟩ := id hin
              have hz : lim M' (k + j) = 0 := by
                rw [hu _ (Nat.le_refl _)]
                exact H0.out.2.1 _ (by have := M2.out; omega)
              have hf := hB.frozen (k + j)
              have hcl := hB.cell (k + j) (by omega)
              rw [hz] at hcl
              have hstep := mul_out_at M2.out H0.out hin (by have := M1.out; have := M2.out; omega) (by have := M1.out; omega) hc' (z := (c' : Int)) rfl
              have HST := Lib.hid hstep
              clear hstep hl hu hv hz hin hcase
              go_wp2_with fail
              go_roundw
              case rel => exact ⟨k + j + 1, 0, by omega, by go_num, by go_num, by omega, _, .inr ⟨rfl, HST.out⟩⟩
              case measure => simp [intOf]; omega
            · have hinv' : MulInv w X Y (n1 + j + 1) (k + 1) M' wr := by
                obtain rfl : c' = 0 := by omega
                rcases hcase with ⟨_, h⟩ | ⟨_, h⟩
                · exact mul_zero_at M2.out H0.out h
                · exact h
              have HINV := Lib.hid hinv'
              clear hinv' hcase
              go_wp2_with fail
              go_roundw
              case rel => exact ⟨k + 1, by omega, by go_num, _, HINV.out⟩
              case measure => simp [intOf]; omega
    · obtain rfl : k = n1 := by omega
      obtain ⟨hl, ok, hz, hv, hB, hbel⟩ := hinv
      have hsl := hB.slAll ok (by unfold maxLen; omega)
      rw [hl] at hsl
      have hn := Num.of_sl hsl (Nat.le_refl _)
      have HL := Lib.hid (And.intro hl hv)
      clear hl hv hz
      go_wp2_with (go_at_call 76; refine (rnorm_num hn (by omega)).mono ?_; rintro e w2 ⟨v', rfl, hnew, hb2⟩)
      go_ret
      obtain ⟨hl, hv⟩ := HL.out
      rw [hv, List.take_of_length_le (by have := M1.out; omega)] at hnew
      exact ⟨v', rfl, hnew.from_ hbel.size, bnext hbel hb2⟩
theorem rmul_num {w : World} {u v : Value} {a b K L : Nat} (hu : Num w u a K) (hv : Num w v b L) (hK : K ≤ 100000000) (hL : L ≤ 100000000) : Calls Tryz.prog 105 #[u, v] w (Gives w (a * b)) := by
  obtain ⟨A1, n1, c1, xs, rfl, s1, rfl, k1⟩ := hu
  obtain ⟨A2, n2, c2, ys, rfl, s2, rfl, k2⟩ := hv
  exact rmul_any _ _ _ _ _ _ _ _ _ s1 s2 (by omega) (by omega)
end
end Go.Proofs.YtocnlapbkidinaaGreatDoor
namespace Go.Proofs.YtocnlapbkidinaaGreatDoor
section
open Go.RowKit
section
variable {w : World} {u v : Value} {a b : Int} {K L : Nat}
set_option maxHeartbeats 800000 in
theorem rwnorm_num (hu : Wh w u a K) (hK : K ≤ 35184372087808) : Calls Tryz.prog 33 #[u] w (WGives w a) := by
  obtain ⟨s, x, m, rfl, hx, rfl⟩ := hu
  obtain ⟨W, hW, hp, hr, hb⟩ := enter1r w (.bool s) x
  have HN := Lib.hid (rnorm_num (hx.below hb) (by omega))
  have e0 := hp.c0
  have e1 := hp.c1
  rw [hW] at e0 e1
  clear hx
  cases s
  · go_enter Tryz.func33, Tryz.ntmps33
    go_wp2_with fail
    rw [← hW]
    refine HN.out.mono ?_
    rintro e w1 ⟨v, rfl, hv, hb1⟩
    obtain ⟨A, n, c, rfl, hmax, hnm⟩ := hv.nought
    have f0 := (hp.next hb1).c0
    have f1 := (hp.next hb1).c1
    have hr2 := hr.next hb1
    obtain ⟨q1, q2, q3, q4, q5, q6⟩ := hr2.room (.bool false)
    clear e0 e1 hW HN
    go_wp2_with fail
    exact wret rfl rfl rfl hr2 (WNew.of false m hv rfl) hb.size (by omega) (bnext hb hb1)
  · by_cases h0 : m = 0
    · go_enter Tryz.func33, Tryz.ntmps33
      go_wp2_with fail
      rw [← hW]
      refine HN.out.mono ?_
      rintro e w1 ⟨v, rfl, hv, hb1⟩
      obtain ⟨A, n, c, rfl, hmax, hnm⟩ := hv.nought
      obtain rfl : n = 0 := hnm.2 h0
      have f0 := (hp.next hb1).c0
      have f1 := (hp.next hb1).c1
      have hr2 := hr.next hb1
      obtain ⟨q1, q2, q3, q4, q5, q6⟩ := hr2.room (.bool false)
      clear e0 e1 hW HN hnm
      go_wp2_with fail
      exact wret rfl rfl rfl hr2 (WNew.of true m hv (by rw [h0]; rfl)) hb.size (by omega) (bnext hb hb1)
    · go_enter Tryz.func33, Tryz.ntmps33
      go_wp2_with fail
      rw [← hW]
      refine HN.out.mono ?_
      rintro e w1 ⟨v, rfl, hv, hb1⟩
      obtain ⟨A, n, c, rfl, hmax, hnm⟩ := hv.nought
      have hn0 : 0 < n := by omega
      have f0 := (hp.next hb1).c0
      have f1 := (hp.next hb1).c1
      have hr2 := hr.next hb1
      obtain ⟨q1, q2, q3, q4, q5, q6⟩ := hr2.room (.bool true)
      have HM : Hid (0 < m) := Lib.hid (by omega)
      clear e0 e1 hW HN hnm h0
      go_wp2_with fail
      exact wret rfl rfl rfl hr2 (WNew.of true m hv (by rw [decide_eq_true HM.out]; rfl)) hb.size (by omega) (bnext hb hb1)
set_option maxHeartbeats 800000 in
theorem rwneg_num (hu : Wh w u a K) (hK : K ≤ 1000000) : Calls Tryz.prog 104 #[u] w (WGives w (-a)) := by
  obtain ⟨s, x, m, rfl, hx, rfl⟩ := hu
  obtain ⟨W, hW, hp, hr, hb⟩ := enter1r w (.bool s) x
  have hz : -(zOf s m) = zOf (!s) m := by cases s <;> simp [zOf]
  have HN := rwnorm_num (u := .agg #[.bool (!s), x]) ⟨!s, x, m, rfl, hx.below hb, rfl⟩ (by omega)
  rw [hz]
  obtain ⟨XA, XN, XC, xs, rfl, hxs⟩ := hx
  replace HN := Lib.hid HN
  have e0 := hp.c0
  have e1 := hp.c1
  rw [hW] at e0 e1
  clear hxs hz
  go_enter Tryz.func104, Tryz.ntmps104
  go_wp2_with fail
  rw [← hW]
  refine HN.out.mono ?_
  rintro e w1 ⟨v, rfl, hv, hb1⟩
  obtain ⟨b, xa, xn, xc, rfl, hnew⟩ := hv.opened
  have hr2 := hr.next hb1
  obtain ⟨q1, q2, q3, q4, q5, q6⟩ := hr2.room (.bool b)
  clear e0 e1 hW HN
  go_wp2_with fail
  exact wret rfl rfl rfl hr2 hnew.out hb.size (by omega) (bnext hb hb1)

theorem rnum2 (w : World) (lo hi : Nat) (hlo : lo < 4294967296) (hhi : hi < 4294967296) : Num (w.alloc (.cells #[Value.int .u32 (lo : Int), Value.int .u32 (hi : Int)] 78)) (.slice (some ⟨w.heap.size, 0, none⟩) 2 2) (lo + 4294967296 * hi) 2 := by
  have hs := (Blk.lit2 w lo hi).slAll (Ok.cons hlo (Ok.cons hhi Ok.nil)) (by unfold maxLen; simp)
  exact ⟨_, _, _, _, rfl, hs, by simp [val], by simp⟩
set_option maxHeartbeats 1600000 in
theorem rwof_num (i : Int) (w : World) (h0 : -9223372036854775808 ≤ i) (h1 : i ≤ 9223372036854775807) : Calls Tryz.prog 31 #[.int .i64 i] w (WGives w i) := by
  obtain ⟨W, hW, hr, hb⟩ := enter0r w
  have hsz : W.heap.size = w.heap.size + 1 := by rw [hW]; simp
  obtain ⟨m, hm⟩ : ∃ m, m = i.natAbs := ⟨_, rfl⟩
  have hmb : m < 18446744073709551616 := by omega
  have hN := rnum2 W (m % 4294967296) (m / 4294967296) (by omega) (by omega)
  rw [show m % 4294967296 + 4294967296 * (m / 4294967296) = m by omega, hsz] at hN
  have HN := Lib.hid (rwnorm_num (u := .agg #[.bool (decide (i < 0)), .slice (some ⟨w.heap.size + 1, 0, none⟩) 2 2]) (a := i) (K := 2) ⟨decide (i < 0), _, m, rfl, hN, by rw [hm]; exact zOf_self i⟩ (by decide))
  have hr1 := hr.alloc (.cells #[Value.int .u32 ((m % 4294967296 : Nat) : Int), Value.int .u32 ((m / 4294967296 : Nat) : Int)] 78)
  have hb1 := bnew hb (.cells #[Value.int .u32 ((m % 4294967296 : Nat) : Int), Value.int .u32 ((m / 4294967296 : Nat) : Int)] 78)
  have e1 : ((m : Nat) : Int) % 4294967296 = ((m % 4294967296 : Nat) : Int) := by omega
  have e2 : ((m : Nat) : Int) / 4294967296 = ((m / 4294967296 : Nat) : Int) := by omega
  have hlo : m % 4294967296 < 4294967296 := by omega
  have hhi : m / 4294967296 < 4294967296 := by omega
  generalize m % 4294967296 = lo at *
  generalize m / 4294967296 = hi at *
  have e3 : ((hi : Nat) : Int) % 4294967296 = (hi : Int) := by omega
  clear hN hsz
  by_cases hneg : i < 0
  · rw [decide_eq_true hneg] at HN
    obtain rfl : i = -(m : Int) := by omega
    have hm0 : (0 : Int) < (m : Int) := by omega
    have hm1 : (m : Int) ≤ 9223372036854775808 := by omega
    clear hm
    have hw : IntKind.u64.wrap (-IntKind.u64.wrap (-(m : Int))) = (m : Int) := by rw [IntKind.wrap_u64, IntKind.wrap_u64]; omega
    go_enter Tryz.func31, Tryz.ntmps31
    go_wp2_with fail
    rw [← hW]
    refine HN.out.mono ?_
    rintro e w1 ⟨v, rfl, hv, hb2⟩
    obtain ⟨b, xa, xn, xc, rfl, hnew⟩ := hv.opened
    have hr2 := hr1.next hb2
    obtain ⟨q1, q2, q3, q4, q5, q6⟩ := hr2.room (.bool b)
    clear HN hW
    go_wp2_with fail
    exact wret rfl rfl rfl hr2 hnew.out hb1.size (Nat.le_refl _) (bnext hb1 hb2)
  · rw [decide_eq_false hneg] at HN
    obtain rfl : i = (m : Int) := by omega
    have hm1 : (m : Int) ≤ 9223372036854775807 := by omega
    clear hm
    go_enter Tryz.func31, Tryz.ntmps31
    go_wp2_with fail
    rw [← hW]
    refine HN.out.mono ?_
    rintro e w1 ⟨v, rfl, hv, hb2⟩
    obtain ⟨b, xa, xn, xc, rfl, hnew⟩ := hv.opened
    have hr2 := hr1.next hb2
    obtain ⟨q1, q2, q3, q4, q5, q6⟩ := hr2.room (.bool b)
    clear HN hW
    go_wp2_with fail
    exact wret rfl rfl rfl hr2 hnew.out hb1.size (Nat.le_refl _) (bnext hb1 hb2)
end
end
end Go.Proofs.YtocnlapbkidinaaGreatDoor
