/-
  The document's own Add (pavaneref01): what it answers.
-/
import Derived.Test.YtjildimhflondaaDoorRef
namespace Go.Proofs.YtjildimhflondaaDoor
open Go.RowKit

theorem New.num' {w : World} {base : Nat} {v : Value} {xs : List Nat} (h : New w base v xs) : Num w v (val xs) xs.length := by
  obtain ⟨A, n, c, rfl, hs, _⟩ := h
  exact ⟨A, n, c, _, rfl, hs, rfl, by have := hs.len; omega⟩
theorem rnorm_num {w : World} {u : Value} {a K : Nat} (hu : Num w u a K) (hK : K ≤ 1000000000) : Calls Tryd.prog 65 #[u] w (Gives w a) := by
  obtain ⟨A1, n1, c1, xs, rfl, s1, rfl, k1⟩ := hu
  exact rnorm_any _ _ _ _ _ s1 (by omega)

def RAdd (w : World) (xs ys : List Nat) (k cy : Nat) (S : List Nat) (v : Value) (wr : World) : Prop :=
  S.length = k ∧ val S + 4294967296 ^ k * cy = val (xs.take k) + val (ys.take k) ∧ Own wr w.heap.size v S ∧ Below w.heap.size w wr
theorem radd_num_c (x y c : Nat) : Value.int .u64 (((x : Int) + (y : Int) + (c : Int)) / 4294967296) = Value.int .u64 (((x + y + c) / 4294967296 : Nat) : Int) := congrArg _ (by omega)
theorem own_row_ge {w : World} {base : Nat} {v : Value} {xs : List Nat} (h : Own w base v xs) : ∀ k, v.ownBlock = some k → base ≤ k := fun k hk => (World.ownsRow.lt h.2 k hk).1
theorem radd_step {w : World} {xs ys : List Nat} {k cy z : Nat} {u v' : Value} {wr w1 : World} {S : List Nat} {o : Obj} (h : RAdd w xs ys k cy S u wr) (hz : (lim xs k + lim ys k + cy) % 4294967296 = z) (ho : Own w1 w.heap.size v' (S ++ [z])) (hg : (wr.alloc o).grownBy w1 u.ownBlock) :
    RAdd w xs ys (k + 1) ((lim xs k + lim ys k + cy) / 4294967296) (S ++ [z]) v' w1 := by
  obtain ⟨hS, hv, hown, hbel⟩ := h
  refine ⟨by simp [hS], ?_, ho, ?_⟩
  · rw [val_snoc, hS, val_take_succ, val_take_succ]
    exact add_sum _ _ _ _ (lim xs k + lim ys k + cy) _ _ _ _ _ _ (by omega) rfl hz.symm hv (Nat.pow_succ ..)
  · exact (hbel.alloc hbel.size o).grown hg (by have := hbel.size; simp; omega) (own_row_ge hown)

set_option maxHeartbeats 1600000 in
theorem radd_any (A1 : Option Addr) (n1 c1 : Nat) (xs : List Nat) (A2 : Option Addr) (n2 c2 : Nat) (ys : List Nat) (w : World) (h1 : Sl w A1 n1 c1 xs) (h2 : Sl w A2 n2 c2 ys) (b1 : n1 ≤ 100000000) (b2 : n2 ≤ 100000000) :
    Calls Tryd.prog 66 #[.slice A1 n1 c1, .slice A2 n2 c2] w (Gives w (val xs + val ys)) := by
  have L1 := Lib.hid h1.len
  have L2 := Lib.hid h2.len
  obtain ⟨i0, hi, hz0, hz1, hz2⟩ := info_parts info32
  go_enter Tryd.func66, Tryd.ntmps66
  go_wp2_with fail
  go_loopw [5, 6, 7] (fun v c i wr => ∃ k cy : Nat, k ≤ n1 + n2 + 1 ∧ i = .int .i64 k ∧ c = .int .u64 cy ∧ cy ≤ 1 ∧ (k ≤ n1 ∨ k ≤ n2 ∨ cy = 0) ∧ ∃ S, RAdd w xs ys k cy S v wr) (fun _ _ i _ => n1 + n2 + 2 - (intOf i).toNat)
  case atStart => exact ⟨0, 0, by omega, rfl, rfl, by omega, by omega, [], rfl, by simp [val], Own.nil _ _, Below.refl _ _⟩
  case round =>
    obtain ⟨k, cy, hk, rfl, rfl, hcy, hor, S, hinv⟩ := hrel
    have HOR := Lib.hid hor
    clear hor
    by_cases hk1 : k < n1
    · skip
      obtain ⟨hS, hv, hown, hbel⟩ := id hinv
      have s1 := h1.below hbel
      have s2 := h2.below hbel
      have x1 := h1.ok.getD k
      have x2 := h2.ok.getD k
      have hsz := hbel.size
      have HS := Lib.hid hS
      clear hv hS
      have hlit := (Blk.lit1 wr ((lim xs k + lim ys k + cy) % 4294967296)).slAll (Ok.cons (Nat.mod_lt _ (by decide)) Ok.nil) (by unfold maxLen; simp)
      have hown' : Own (wr.alloc (.cells #[Value.int .u32 (((lim xs k + lim ys k + cy) % 4294967296 : Nat) : Int)] 32)) w.heap.size u5 S := ⟨hown.1, hown.2.alloc _⟩
      have hlen : S.length + 1 ≤ 10000000000 := by rw [HS.out]; omega
      generalize hz : (lim xs k + lim ys k + cy) % 4294967296 = z at hlit hown'
      have HZ := Lib.hid hz
      have hzi : ((lim xs k : Int) + (lim ys k : Int) + (cy : Int)) % 4294967296 = (z : Int) := by rw [← hz]; omega
      clear hz
      go_wp2_with (first | (go_at_call 89; refine (rlimb_any _ _ _ _ _ _ (by assumption) (by omega)).mono ?_; rintro e w' ⟨rfl, rfl⟩) | (at_builtin; refine wpList_append_limbs rfl (.tmp 34) (.tmp 37) rfl i0 Tryd.underlying22 hi hz0 hz1 hz2 w.heap.size _ S rfl hown' _ _ _ _ rfl hlit hlen (by simp; omega) ?_; intro v' w1 hown1 hg1))
      clear hzi
      go_roundw
      case rel => exact ⟨k + 1, _, by have := HOR.out; omega, by go_num, radd_num_c _ _ _, by omega, by first | (have := HOR.out; omega) | (have := hxz.out; omega), _, radd_step hinv HZ.out hown1 hg1⟩
      case measure => simp [intOf]; omega
    · by_cases hk2 : k < n2
      · have hd1 : ¬ (k : Int) < (n1 : Int) := by omega
        obtain ⟨hS, hv, hown, hbel⟩ := id hinv
        have s1 := h1.below hbel
        have s2 := h2.below hbel
        have x1 := h1.ok.getD k
        have x2 := h2.ok.getD k
        have hsz := hbel.size
        have HS := Lib.hid hS
        clear hv hS
        have hlit := (Blk.lit1 wr ((lim xs k + lim ys k + cy) % 4294967296)).slAll (Ok.cons (Nat.mod_lt _ (by decide)) Ok.nil) (by unfold maxLen; simp)
        have hown' : Own (wr.alloc (.cells #[Value.int .u32 (((lim xs k + lim ys k + cy) % 4294967296 : Nat) : Int)] 32)) w.heap.size u5 S := ⟨hown.1, hown.2.alloc _⟩
        have hlen : S.length + 1 ≤ 10000000000 := by rw [HS.out]; omega
        generalize hz : (lim xs k + lim ys k + cy) % 4294967296 = z at hlit hown'
        have HZ := Lib.hid hz
        have hzi : ((lim xs k : Int) + (lim ys k : Int) + (cy : Int)) % 4294967296 = (z : Int) := by rw [← hz]; omega
        clear hz
        go_wp2_with (first | (go_at_call 89; refine (rlimb_any _ _ _ _ _ _ (by assumption) (by omega)).mono ?_; rintro e w' ⟨rfl, rfl⟩) | (at_builtin; refine wpList_append_limbs rfl (.tmp 34) (.tmp 37) rfl i0 Tryd.underlying22 hi hz0 hz1 hz2 w.heap.size _ S rfl hown' _ _ _ _ rfl hlit hlen (by simp; omega) ?_; intro v' w1 hown1 hg1))
        clear hzi
        go_roundw
        case rel => exact ⟨k + 1, _, by have := HOR.out; omega, by go_num, radd_num_c _ _ _, by omega, by first | (have := HOR.out; omega) | (have := hxz.out; omega), _, radd_step hinv HZ.out hown1 hg1⟩
        case measure => simp [intOf]; omega
      · by_cases hc0 : 0 < cy
        · have hd1 : ¬ (k : Int) < (n1 : Int) := by omega
          have hd2 : ¬ (k : Int) < (n2 : Int) := by omega
          have hxz := Lib.hid (And.intro (lim_ge xs k (by have := L1.out; omega)) (lim_ge ys k (by have := L2.out; omega)))
          obtain ⟨hS, hv, hown, hbel⟩ := id hinv
          have s1 := h1.below hbel
          have s2 := h2.below hbel
          have x1 := h1.ok.getD k
          have x2 := h2.ok.getD k
          have hsz := hbel.size
          have HS := Lib.hid hS
          clear hv hS
          have hlit := (Blk.lit1 wr ((lim xs k + lim ys k + cy) % 4294967296)).slAll (Ok.cons (Nat.mod_lt _ (by decide)) Ok.nil) (by unfold maxLen; simp)
          have hown' : Own (wr.alloc (.cells #[Value.int .u32 (((lim xs k + lim ys k + cy) % 4294967296 : Nat) : Int)] 32)) w.heap.size u5 S := ⟨hown.1, hown.2.alloc _⟩
          have hlen : S.length + 1 ≤ 10000000000 := by rw [HS.out]; omega
          generalize hz : (lim xs k + lim ys k + cy) % 4294967296 = z at hlit hown'
          have HZ := Lib.hid hz
          have hzi : ((lim xs k : Int) + (lim ys k : Int) + (cy : Int)) % 4294967296 = (z : Int) := by rw [← hz]; omega
          clear hz
          go_wp2_with (first | (go_at_call 89; refine (rlimb_any _ _ _ _ _ _ (by assumption) (by omega)).mono ?_; rintro e w' ⟨rfl, rfl⟩) | (at_builtin; refine wpList_append_limbs rfl (.tmp 34) (.tmp 37) rfl i0 Tryd.underlying22 hi hz0 hz1 hz2 w.heap.size _ S rfl hown' _ _ _ _ rfl hlit hlen (by simp; omega) ?_; intro v' w1 hown1 hg1))
          clear hzi
          go_roundw
          case rel => exact ⟨k + 1, _, by have := HOR.out; omega, by go_num, radd_num_c _ _ _, by omega, by first | (have := HOR.out; omega) | (have := hxz.out; omega), _, radd_step hinv HZ.out hown1 hg1⟩
          case measure => simp [intOf]; omega
        · obtain ⟨hS, hv, hown, hbel⟩ := hinv
          have hcz : cy = 0 := by omega
          subst hcz
          rw [Nat.mul_zero, Nat.add_zero, List.take_of_length_le (by have := L1.out; omega), List.take_of_length_le (by have := L2.out; omega)] at hv
          have hn := hown.new.num'
          have HH := Lib.hid (And.intro hS hv)
          have hle : S.length ≤ 1000000000 := by omega
          clear hS hv
          go_wp2_with (go_at_call 65; refine (rnorm_num hn hle).mono ?_; rintro e w1 ⟨v', rfl, hnew, hb1⟩)
          go_ret
          rw [HH.out.2] at hnew
          exact ⟨v', rfl, hnew.from_ hbel.size, bnext hbel hb1⟩
theorem radd_num {w : World} {u v : Value} {a b K L : Nat} (hu : Num w u a K) (hv : Num w v b L) (hK : K ≤ 100000000) (hL : L ≤ 100000000) : Calls Tryd.prog 66 #[u, v] w (Gives w (a + b)) := by
  obtain ⟨A1, n1, c1, xs, rfl, s1, rfl, k1⟩ := hu
  obtain ⟨A2, n2, c2, ys, rfl, s2, rfl, k2⟩ := hv
  exact radd_any _ _ _ _ _ _ _ _ _ s1 s2 (by omega) (by omega)
end Go.Proofs.YtjildimhflondaaDoor
