/-
  The document's own Mul (pavaneref01): what it answers.
-/
import Derived.Test.YtjildimhflondaaDoorRefSub
import Derived.Deep.QuietTactic
import Derived.BigQuiet
namespace Go.Proofs.YtjildimhflondaaDoor
open Go.RowKit

theorem rmul_num_c (l x y c : Nat) : Value.int .u64 (((l : Int) + (x : Int) * (y : Int) + (c : Int)) / 4294967296) = Value.int .u64 (((c + (x * y + l)) / 4294967296 : Nat) : Int) := by
  rw [← Int.natCast_mul]
  exact congrArg _ (by omega)

theorem mul_out_at {w : World} {X Y : List Nat} {N k j c : Nat} {M0 M : List Nat} {wr : World} (hj : j = Y.length) (h0 : M0.length = N ∧ (∀ t, k + Y.length ≤ t → lim M0 t = 0) ∧ val M0 = val (X.take k) * val Y)
    (h : MulIn w X Y N k j c M0 M wr) (hN : X.length + Y.length ≤ N) (hk : k < X.length) (hc : c < 4294967296) {z : Int} (hz : z = (c : Int)) : MulInv w X Y N (k + 1) (M.set (k + j) c) (wr.setCell ⟨w.heap.size, k + j, none⟩ (.int .u32 z)) := by
  subst hj; exact mul_out_step h0 h hN hk hc hz
theorem mul_zero_at {w : World} {X Y : List Nat} {N k j : Nat} {M0 M : List Nat} {wr : World} (hj : j = Y.length) (h0 : M0.length = N ∧ (∀ t, k + Y.length ≤ t → lim M0 t = 0) ∧ val M0 = val (X.take k) * val Y)
    (h : MulIn w X Y N k j 0 M0 M wr) : MulInv w X Y N (k + 1) M wr := by
  subst hj; exact mul_out_zero h0 h
theorem below_drewN {B : Nat} {a w : World} (h : Below B a w) (n : Nat) : Below B a (w.drewN n) := ⟨h.os, h.tape, h.output, h.size, h.block⟩
theorem mulIn_drewN {w : World} {X Y : List Nat} {N k j c : Nat} {M0 M : List Nat} {wr : World} (h : MulIn w X Y N k j c M0 M wr) (n : Nat) : MulIn w X Y N k j c M0 M (wr.drewN n) :=
  ⟨h.1, h.2.1, h.2.2.1, h.2.2.2.1, h.2.2.2.2.1, below_drewN h.2.2.2.2.2 n⟩

set_option maxHeartbeats 3200000 in
theorem rmul_any (A1 : Option Addr) (n1 c1 : Nat) (X : List Nat) (A2 : Option Addr) (n2 c2 : Nat) (Y : List Nat) (w : World) (t1 : Sl w A1 n1 c1 X) (t2 : Sl w A2 n2 c2 Y) (b1 : n1 ≤ 100000000) (b2 : n2 ≤ 100000000) :
    Calls Tryd.prog 69 #[.slice A1 n1 c1, .slice A2 n2 c2] w (Gives w (val X * val Y)) := by
  have M1 := Lib.hid t1.len
  have M2 := Lib.hid t2.len
  have HN : Hid (X.length + Y.length + 1 = n1 + n2 + 1) := by rw [← M1.out, ← M2.out]; exact rfl
  have hmk := fun W => make32 ((n1 : Int) + (n2 : Int) + 1) (n1 + n2 + 1) (by omega) (by omega) W
  go_enter Tryd.func69, Tryd.ntmps69
  go_wp2_with fail
  clear hmk
  go_loopw [21] (fun i wr => ∃ k : Nat, k ≤ n1 ∧ i = .int .i64 k ∧ ∃ M, MulInv w X Y (n1 + n2 + 1) k M wr) (fun i _ => n1 - (intOf i).toNat)
  case atStart =>
    refine ⟨0, by omega, rfl, List.replicate (n1 + n2 + 1) 0, by simp, Ok.replicate _, fun t _ => ?_, by simp [val_replicate, val], Blk.made w (n1 + n2 + 1), (Below.refl _ _).alloc (Nat.le_refl _) _⟩
    rw [lim_eq, List.getElem?_replicate]; split <;> rfl
  case round =>
    obtain ⟨k, hk, rfl, M0, hinv⟩ := hrel
    obtain ⟨wo, rfl⟩ : ∃ wo : World, wo = wr := ⟨_, rfl⟩
    by_cases hkm : k < n1
    · obtain ⟨hl0, ok0, hz0, hv0, hB0, hbel0⟩ := hinv
      have x1 := t1.ok.getD k
      have H0 := Lib.hid (And.intro hl0 (And.intro hz0 hv0))
      clear hl0 hz0 hv0
      go_wp2_with fail
      go_loopw [7, 26] (fun c i wr => ∃ j cy : Nat, j ≤ n2 ∧ i = .int .i64 j ∧ c = .int .u64 cy ∧ cy < 4294967296 ∧ ∃ M, MulIn w X Y (n1 + n2 + 1) k j cy M0 M wr) (fun _ i _ => n2 - (intOf i).toNat)
      case atStart => exact ⟨0, 0, by omega, rfl, rfl, by omega, M0, H0.out.1, ok0, fun _ _ => rfl, by simp [val], hB0, hbel0⟩
      case round =>
        obtain ⟨j, cy, hj, rfl, rfl, hcy, M, hin⟩ := hrel
        by_cases hjm : j < n2
        · obtain ⟨hl, ok, hu, hv, hB, hbel⟩ := id hin
          obtain ⟨b, off, rfl, hb, hc⟩ := (t1.below hbel).here (by omega)
          obtain ⟨b', off', rfl, hb', hc'⟩ := (t2.below hbel).here (by omega)
          have hck := hc k hkm
          have hcj := hc' j hjm
          have y1 := t2.ok.getD j
          have hf := hB.frozen (k + j)
          have hcl := hB.cell (k + j) (by omega)
          have z1 := ok.getD (k + j)
          have hm := mul_bd _ _ x1 y1
          have hm' : (lim X k : Int) * (lim Y j : Int) ≤ 18446744065119617025 := by rw [← Int.natCast_mul]; omega
          have hm0 : 0 ≤ (lim X k : Int) * (lim Y j : Int) := by rw [← Int.natCast_mul]; omega
          have i1 : (k : Int) < (n1 : Int) := by omega
          have i2 : (j : Int) < (n2 : Int) := by omega
          have i3 : (k : Int) + (j : Int) < (n1 : Int) + (n2 : Int) + 1 := by omega
          clear hc hc' hl hu hv
          go_wp2_with fail
          go_quiet (fail)
          have hin' := mulIn_drewN hin nq
          have hstep := mul_in_step hin' (z := ((lim M (k + j) : Int) + (lim X k : Int) * (lim Y j : Int) + (cy : Int)) % 4294967296) (by have := M1.out; have := M2.out; omega) (by have := M1.out; omega) (by have := M2.out; omega) (by rw [← Int.natCast_mul]; omega)
          have HST := Lib.hid hstep
          clear hstep hin' hin
          go_wp2_with fail
          go_roundw
          case rel => exact ⟨j + 1, _, by omega, by go_num, rmul_num_c _ _ _ _, mul_c_lt _ _ _ _ hcy hm z1, _, HST.out⟩
          case measure => simp [intOf]; omega
        · obtain rfl : j = n2 := by omega
          have HIN := Lib.hid hin
          have hbel := hin.2.2.2.2.2
          clear hin
          go_wp2_with fail
          go_loopw [7, 10] (fun c i ws => ∃ kk c' : Nat, kk ≤ k + j + 1 ∧ i = .int .i64 kk ∧ c = .int .u64 c' ∧ c' < 4294967296 ∧ ∃ M', (kk = k + j ∧ MulIn w X Y (n1 + j + 1) k j c' M0 M' ws ∨ c' = 0 ∧ MulInv w X Y (n1 + j + 1) (k + 1) M' ws)) (fun _ i _ => k + j + 1 - (intOf i).toNat)
          case atStart => exact ⟨k + j, cy, by omega, by go_num, rfl, hcy, M, .inl ⟨rfl, HIN.out⟩⟩
          case round =>
            obtain ⟨kk, c', hkk, rfl, rfl, hc', M', hcase⟩ := hrel
            by_cases hpos : 0 < c'
            · obtain ⟨rfl, hin⟩ : kk = k + j ∧ MulIn w X Y (n1 + j + 1) k j c' M0 M' wr := by
                rcases hcase with h | ⟨h, _⟩
                · exact h
                · omega
              obtain ⟨hl, ok, hu, hv, hB, hbel⟩ := id hin
              have hz : lim M' (k + j) = 0 := by
                rw [hu _ (Nat.le_refl _)]
                exact H0.out.2.1 _ (by have := M2.out; omega)
              have hf := hB.frozen (k + j)
              have hcl := hB.cell (k + j) (by omega)
              rw [hz] at hcl
              have hstep := mul_out_at M2.out H0.out hin (by have := M1.out; have := M2.out; omega) (by have := M1.out; omega) hc' (z := (c' : Int)) rfl
              have HST := Lib.hid hstep
              clear hstep hl hu hv hz hin hcase
              go_wp2_with fail
              go_roundw
              case rel => exact ⟨k + j + 1, 0, by omega, by go_num, by go_num, by omega, _, .inr ⟨rfl, HST.out⟩⟩
              case measure => simp [intOf]; omega
            · have hinv' : MulInv w X Y (n1 + j + 1) (k + 1) M' wr := by
                obtain rfl : c' = 0 := by omega
                rcases hcase with ⟨_, h⟩ | ⟨_, h⟩
                · exact mul_zero_at M2.out H0.out h
                · exact h
              have HINV := Lib.hid hinv'
              clear hinv' hcase
              go_wp2_with fail
              go_roundw
              case rel => exact ⟨k + 1, by omega, by go_num, _, HINV.out⟩
              case measure => simp [intOf]; omega
    · obtain rfl : k = n1 := by omega
      obtain ⟨hl, ok, hz, hv, hB, hbel⟩ := hinv
      have hsl := hB.slAll ok (by unfold maxLen; omega)
      rw [hl] at hsl
      have hn := Num.of_sl hsl (Nat.le_refl _)
      have HL := Lib.hid (And.intro hl hv)
      clear hl hv hz
      go_wp2_with (go_at_call 65; refine (rnorm_num hn (by omega)).mono ?_; rintro e w2 ⟨v', rfl, hnew, hb2⟩)
      go_ret
      obtain ⟨hl, hv⟩ := HL.out
      rw [hv, List.take_of_length_le (by have := M1.out; omega)] at hnew
      exact ⟨v', rfl, hnew.from_ hbel.size, bnext hbel hb2⟩
theorem rmul_num {w : World} {u v : Value} {a b K L : Nat} (hu : Num w u a K) (hv : Num w v b L) (hK : K ≤ 100000000) (hL : L ≤ 100000000) : Calls Tryd.prog 69 #[u, v] w (Gives w (a * b)) := by
  obtain ⟨A1, n1, c1, xs, rfl, s1, rfl, k1⟩ := hu
  obtain ⟨A2, n2, c2, ys, rfl, s2, rfl, k2⟩ := hv
  exact rmul_any _ _ _ _ _ _ _ _ _ s1 s2 (by omega) (by omega)
end Go.Proofs.YtjildimhflondaaDoor
