/-
  nat.pieceOf, slices.Reverse of bytes: what they answer and write.
-/
import Derived.Test.YtjildimhflondaaDoorTrimL
import Derived.Test.YtjildimhflondaaDoorDig
import Derived.BigRegion
namespace Go.Proofs.YtjildimhflondaaDoor
open Go.RowKit

/-- What pieceOf answers: a power of the base that is a limb. -/
def Piece (b : Nat) (w : World) (e : Ending) (w' : World) : Prop := ∃ t q : Nat, 1 ≤ t ∧ t ≤ 32 ∧ q < 4294967296 ∧ Hid (q = b ^ t) ∧ e = .returned (.tuple #[.int .u32 (q : Int), .int .i64 (t : Int)]) ∧ w = w'

set_option maxHeartbeats 800000 in
theorem pieceOf_any (b : Nat) (hb : 2 ≤ b) (hb2 : b ≤ 36) (w : World) : Calls Tryd.prog 82 #[.int .i64 (b : Int)] w (Piece b w) := by
  go_enter Tryd.func82, Tryd.ntmps82
  go_wp2_with fail
  go_loop [4, 5] (fun p t => ∃ k q : Nat, 1 ≤ k ∧ k ≤ 32 ∧ p = .int .u64 q ∧ t = .int .i64 k ∧ q < 4294967296 ∧ Hid (q = b ^ k)) (fun _ t => 33 - (intOf t).toNat)
  case atStart => exact ⟨1, b, by omega, by omega, rfl, rfl, by omega, (Nat.pow_one b).symm⟩
  case round =>
    obtain ⟨k, q, hk1, hk2, rfl, rfl, hq, HQ⟩ := hrel
    have hk3 : k < 32 := by
      rcases Nat.lt_or_ge k 32 with h | h
      · exact h
      · exfalso
        have h1 : 2 ^ 32 ≤ 2 ^ k := Nat.pow_le_pow_right (by decide) h
        have h2 : 2 ^ k ≤ b ^ k := Nat.pow_le_pow_left hb k
        have h3 := HQ.out
        omega
    have hm := Nat.mul_le_mul (show q ≤ 4294967295 by omega) hb2
    have hm' : (q : Int) * (b : Int) ≤ 154618822620 := by rw [← Int.natCast_mul]; omega
    have hm0 : 0 ≤ (q : Int) * (b : Int) := by rw [← Int.natCast_mul]; omega
    clear hm
    by_cases hle : (q : Int) * (b : Int) ≤ 4294967295
    · go_wp2_with fail
      go_round
      case rel => exact ⟨k + 1, q * b, by omega, by omega, by rw [Int.natCast_mul], by go_num, by rw [← Int.natCast_mul] at hle; omega, by rw [HQ.out, ← Nat.pow_succ]; exact rfl⟩
      case measure => simp [intOf]; omega
    · go_wp2_with fail
      go_ret2
      exact ⟨k, q, hk1, hk2, hq, HQ, rfl, rfl⟩

/-- The cells of bytes. -/
def bcells (l : List UInt8) : List Value := l.map fun c : UInt8 => Value.int .u8 ((c.toNat : Nat) : Int)
theorem bcells_length (l : List UInt8) : (bcells l).length = l.length := by simp [bcells]
theorem bcells_getElem? (l : List UInt8) (i : Nat) (h : i < l.length) : (bcells l)[i]? = some (.int .u8 (((l.getD i 0).toNat : Nat) : Int)) := by
  simp [bcells, List.getElem?_eq_getElem h, List.getD_eq_getElem?_getD]
theorem bcells_set (l : List UInt8) (i : Nat) (c : UInt8) : (bcells l).set i (.int .u8 ((c.toNat : Nat) : Int)) = bcells (l.set i c) := by simp [bcells, List.map_set]

/-- The first k and the last k are exchanged. -/
def RevTo (l : List UInt8) (k : Nat) (M : List UInt8) : Prop :=
  M.length = l.length ∧ ∀ t, t < l.length → M.getD t 0 = if t < k ∨ l.length - 1 - t < k then l.getD (l.length - 1 - t) 0 else l.getD t 0
theorem revTo_zero (l : List UInt8) : RevTo l 0 l := ⟨rfl, fun t _ => by simp⟩
theorem revTo_step {l M : List UInt8} {k : Nat} (h : RevTo l k M) (hk : k < l.length - 1 - k) :
    RevTo l (k + 1) ((M.set k (M.getD (l.length - 1 - k) 0)).set (l.length - 1 - k) (M.getD k 0)) := by
  obtain ⟨hl, hm⟩ := h
  refine ⟨by simp [hl], fun t ht => ?_⟩
  have e1 := hm k (by omega)
  have e2 := hm (l.length - 1 - k) (by omega)
  rw [if_neg (by omega)] at e1 e2
  rw [e1, e2]
  by_cases h1 : t = l.length - 1 - k
  · rw [h1, List.getD_eq_getElem?_getD, List.getElem?_set_self (by simp [hl]; omega), if_pos (by omega)]
    rw [show l.length - 1 - (l.length - 1 - k) = k by omega]; rfl
  · by_cases h2 : t = k
    · rw [h2, List.getD_eq_getElem?_getD, List.getElem?_set_ne (by omega), List.getElem?_set_self (by omega), if_pos (by omega)]; rfl
    · rw [List.getD_eq_getElem?_getD, List.getElem?_set_ne (by omega), List.getElem?_set_ne (by omega), ← List.getD_eq_getElem?_getD, hm t ht]
      by_cases h3 : t < k ∨ l.length - 1 - t < k
      · rw [if_pos h3, if_pos (by omega)]
      · rw [if_neg h3, if_neg (by omega)]
theorem revTo_end {l M : List UInt8} {k : Nat} (h : RevTo l k M) (hk : l.length ≤ k + k + 1) : M = l.reverse := by
  obtain ⟨hl, hm⟩ := h
  apply List.ext_getElem?
  intro t
  rcases Nat.lt_or_ge t l.length with ht | ht
  · have e := hm t ht
    have e2 : M.getD t 0 = l.getD (l.length - 1 - t) 0 := by
      rw [e]
      split
      · rfl
      · rw [show l.length - 1 - t = t by omega]
    rw [List.getElem?_reverse ht]
    rw [List.getD_eq_getElem?_getD, List.getD_eq_getElem?_getD, List.getElem?_eq_getElem (by omega), List.getElem?_eq_getElem (by omega)] at e2
    rw [List.getElem?_eq_getElem (by omega), List.getElem?_eq_getElem (by omega)]
    exact congrArg some e2
  · rw [List.getElem?_eq_none (by omega), List.getElem?_eq_none (by simp; omega)]

theorem grown_trans {a b c : World} {r : Option Nat} (h : a.grownBy b r) (k : b.grownBy c r) : a.grownBy c r :=
  ⟨k.os.trans h.os, k.tape.trans h.tape, k.output.trans h.output, Nat.le_trans h.size k.size, fun i hi hne => (k.block i (by have := h.size; omega) hne).trans (h.block i hi hne)⟩
theorem grown_drew {a b : World} {r : Option Nat} (h : a.grownBy b r) : a.grownBy b.drew r := ⟨h.os, h.tape, h.output, h.size, h.block⟩

theorem bytes_nil_rev (w : World) : Calls Tryd.prog 84 #[.slice none 0 0] w fun e w' => e = .returned (.tuple #[]) ∧ w = w' := by
  go_enter Tryd.func84, Tryd.ntmps84
  go_wp2_with fail
  refine wp_loop_rounds 1 ?_
  rw [rounds_succ]
  go_wp2_with fail
  go_end0
  exact ⟨rfl, rfl⟩

set_option maxHeartbeats 800000 in
theorem reverse_any (base g n cap : Nat) (l : List UInt8) (hn : n = l.length) (w : World) (h : w.ownsRow base 5 1 (.slice (some ⟨g, 0, none⟩) n cap) n (bcells l)) (hm : n ≤ 1000000000000) :
    Calls Tryd.prog 84 #[.slice (some ⟨g, 0, none⟩) n cap] w fun e w' =>
      e = .returned (.tuple #[]) ∧ w'.ownsRow base 5 1 (.slice (some ⟨g, 0, none⟩) n cap) n (bcells l.reverse) ∧ w.grownBy w' (some g) := by
  have HN := Lib.hid hn
  have H := Lib.hid h
  clear hn h
  go_enter Tryd.func84, Tryd.ntmps84
  go_wp2_with fail
  go_loopw [2, 3] (fun i j wr => ∃ k : Nat, k ≤ n ∧ i = .int .i64 k ∧ j = .int .i64 ((n : Int) - 1 - k) ∧ ∃ M, Hid (RevTo l k M) ∧ wr.ownsRow base 5 1 (.slice (some ⟨g, 0, none⟩) n cap) n (bcells M) ∧ w.grownBy wr (some g)) (fun i _ _ => n - (intOf i).toNat)
  case atStart => exact ⟨0, by omega, rfl, by go_num, l, revTo_zero l, H.out, World.grownBy.refl _ _⟩
  case round =>
    obtain ⟨k, hk, rfl, rfl, M, HM, ho, hg⟩ := hrel
    by_cases hlt : k + k + 1 < n
    · obtain ⟨j, hj⟩ : ∃ j : Nat, j + k + 1 = n := ⟨n - 1 - k, by omega⟩
      have ej : ((n : Int) - 1 - (k : Int)) = (j : Int) := by omega
      rw [ej]
      have hkj : k < j := by omega
      have hkjI : (k : Int) < (j : Int) := by omega
      have hjn : (j : Int) < (n : Int) := by omega
      have hkn : (k : Int) < (n : Int) := by omega
      have f1 := ho.frozenAt k
      have f2 := ho.frozenAt j
      have c1 := ho.cellAt k (by omega)
      have c2 := ho.cellAt j (by omega)
      have hML := HM.out.1
      rw [bcells_getElem? M k (by have := HN.out; omega)] at c1
      rw [bcells_getElem? M j (by have := HN.out; omega)] at c2
      have HJ := Lib.hid (And.intro hj (And.intro ej hML))
      clear hj ej hML
      generalize hx : M.getD k 0 = x at *
      generalize hy : M.getD j 0 = y at *
      have HXY := Lib.hid (And.intro hx hy)
      clear hx hy
      go_wp2_with fail
      go_region
      all_goals
        go_wp2_with fail
        go_roundw
        case rel =>
          obtain ⟨hj, ej, hML⟩ := HJ.out
          obtain ⟨hx, hy⟩ := HXY.out
          have ejl : l.length - 1 - k = j := by have := HN.out; omega
          obtain ⟨o1, g1⟩ := ho.stored k (.int .u8 ((y.toNat : Nat) : Int))
          obtain ⟨o2, g2⟩ := o1.stored j (.int .u8 ((x.toNat : Nat) : Int))
          rw [bcells_set, bcells_set] at o2
          have hr := revTo_step HM.out (by omega)
          rw [ejl, hx, hy] at hr
          exact ⟨k + 1, by omega, by go_num, by go_num, _, hr, o2.drew, grown_trans hg (grown_trans g1 (grown_drew g2))⟩
        case measure => simp [intOf]; omega
    · have hle : ¬ (k : Int) < (n : Int) - 1 - (k : Int) := by omega
      go_wp2_with fail
      go_end0
      have e := revTo_end HM.out (by have := HN.out; omega)
      rw [← e]
      exact ⟨rfl, ho, hg⟩
end Go.Proofs.YtjildimhflondaaDoor
