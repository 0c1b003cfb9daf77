/-
  nat.Parse and what it calls: what they answer.
-/
import Derived.Test.YtjildimhflondaaDoorDiv
namespace Go.Proofs.YtjildimhflondaaDoor
open Go.RowKit

/-- A digit's number; 36: it is none. -/
def digN (c : Nat) : Nat := if 48 ≤ c ∧ c ≤ 57 then c - 48 else if 97 ≤ c ∧ c ≤ 122 then c - 87 else if 65 ≤ c ∧ c ≤ 90 then c - 55 else 36
theorem digN_le (c : Nat) : digN c ≤ 36 := by unfold digN; split <;> (try split) <;> (try split) <;> omega

set_option maxHeartbeats 800000 in
theorem digitOf_any (c : Nat) (hc : c ≤ 255) (w : World) : Calls Tryd.prog 80 #[.int .u8 (c : Int)] w fun e w' => e = .returned (.int .i64 (digN c : Int)) ∧ w = w' := by
  rcases (show c < 48 ∨ (48 ≤ c ∧ c ≤ 57) ∨ (58 ≤ c ∧ c < 65) ∨ (65 ≤ c ∧ c ≤ 90) ∨ (91 ≤ c ∧ c < 97) ∨ (97 ≤ c ∧ c ≤ 122) ∨ 123 ≤ c by omega) with h | h | h | h | h | h | h
  · have hd := Lib.hid (show digN c = 36 by unfold digN; rw [if_neg (by omega), if_neg (by omega), if_neg (by omega)])
    go_enter Tryd.func80, Tryd.ntmps80
    go_wp2_with fail
    go_ret
    exact ⟨by rw [hd.out]; rfl, rfl⟩
  · have hd := Lib.hid (show digN c = c - 48 by unfold digN; rw [if_pos (by omega)])
    obtain ⟨h, h'⟩ := h
    go_enter Tryd.func80, Tryd.ntmps80
    go_wp2_with fail
    go_ret
    exact ⟨by rw [hd.out]; exact congrArg (fun x => Ending.returned (.int .i64 x)) (by omega), rfl⟩
  · have hd := Lib.hid (show digN c = 36 by unfold digN; rw [if_neg (by omega), if_neg (by omega), if_neg (by omega)])
    obtain ⟨h, h'⟩ := h
    go_enter Tryd.func80, Tryd.ntmps80
    go_wp2_with fail
    go_ret
    exact ⟨by rw [hd.out]; rfl, rfl⟩
  · have hd := Lib.hid (show digN c = c - 55 by unfold digN; rw [if_neg (by omega), if_neg (by omega), if_pos (by omega)])
    obtain ⟨h, h'⟩ := h
    go_enter Tryd.func80, Tryd.ntmps80
    go_wp2_with fail
    go_ret
    exact ⟨by rw [hd.out]; exact congrArg (fun x => Ending.returned (.int .i64 x)) (by omega), rfl⟩
  · have hd := Lib.hid (show digN c = 36 by unfold digN; rw [if_neg (by omega), if_neg (by omega), if_neg (by omega)])
    obtain ⟨h, h'⟩ := h
    go_enter Tryd.func80, Tryd.ntmps80
    go_wp2_with fail
    go_ret
    exact ⟨by rw [hd.out]; rfl, rfl⟩
  · have hd := Lib.hid (show digN c = c - 87 by unfold digN; rw [if_neg (by omega), if_pos (by omega)])
    obtain ⟨h, h'⟩ := h
    go_enter Tryd.func80, Tryd.ntmps80
    go_wp2_with fail
    go_ret
    exact ⟨by rw [hd.out]; exact congrArg (fun x => Ending.returned (.int .i64 x)) (by omega), rfl⟩
  · have hd := Lib.hid (show digN c = 36 by unfold digN; rw [if_neg (by omega), if_neg (by omega), if_neg (by omega)])
    go_enter Tryd.func80, Tryd.ntmps80
    go_wp2_with fail
    go_ret
    exact ⟨by rw [hd.out]; rfl, rfl⟩

theorem isBase_yes (b : Int) (h1 : 2 ≤ b) (h2 : b ≤ 36) (w : World) : Calls Tryd.prog 79 #[.int .i64 b] w fun e w' => e = .returned (.bool true) ∧ w = w' := by
  go_enter Tryd.func79, Tryd.ntmps79
  go_wp2_with fail
  go_ret
  exact ⟨rfl, rfl⟩
theorem isBase_no (b : Int) (h : b < 2 ∨ 36 < b) (w : World) : Calls Tryd.prog 79 #[.int .i64 b] w fun e w' => e = .returned (.bool false) ∧ w = w' := by
  by_cases h2 : b < 2
  · go_enter Tryd.func79, Tryd.ntmps79
    go_wp2_with fail
    go_ret
    exact ⟨rfl, rfl⟩
  · have hd : decide (b ≤ 36) = false := by simp; omega
    go_enter Tryd.func79, Tryd.ntmps79
    go_wp2_with fail
    go_ret
    exact ⟨by rw [← hd]; rfl, rfl⟩

/-- The limbs of m * b + d, limb by limb. -/
theorem put_sum (v p q r c c' s x b m dg vx : Nat) (hs : s = c + x * b) (hr : r = s % 4294967296) (hc : c' = s / 4294967296) (h : v + p * c = vx * b + dg) (hq : q = p * 4294967296) (hm : m = vx + p * x) : v + p * r + q * c' = m * b + dg := by
  have e1 : r + 4294967296 * c' = s := by omega
  have e2 : p * r + p * (4294967296 * c') = p * c + p * (x * b) := by rw [← Nat.mul_add, e1, hs, Nat.mul_add]
  rw [hq, Nat.mul_assoc, hm, Nat.add_mul, Nat.mul_assoc]
  omega

theorem cellsOf_set (L : List Nat) (k y : Nat) : (cellsOf L).set k (.int .u32 (y : Int)) = cellsOf (L.set k y) := by simp [cellsOf, List.map_set]
theorem set_append_drop (S xs : List Nat) (k y : Nat) (hS : S.length = k) (hk : k < xs.length) : (S ++ xs.drop k).set k y = S ++ [y] ++ xs.drop (k + 1) := by
  rw [List.drop_eq_getElem_cons hk, List.set_append_right _ _ (by omega), hS, Nat.sub_self, List.set_cons_zero, List.append_assoc]; rfl

def PutInv (w : World) (base g n cap : Nat) (xs : List Nat) (b dg k c : Nat) (wr : World) : Prop :=
  ∃ S : List Nat, S.length = k ∧ Ok S ∧ val S + 4294967296 ^ k * c = val (xs.take k) * b + dg ∧ wr.ownsRow base 32 1 (.slice (some ⟨g, 0, none⟩) n cap) n (cellsOf (S ++ xs.drop k)) ∧ w.grownBy wr (some g)
theorem put_step {w : World} {base g n cap : Nat} {xs : List Nat} {b dg k c : Nat} {wr : World} (h : PutInv w base g n cap xs b dg k c wr) (hk : k < xs.length) {z : Int} (hz : z = (((c + lim xs k * b) % 4294967296 : Nat) : Int)) :
    PutInv w base g n cap xs b dg (k + 1) ((c + lim xs k * b) / 4294967296) (wr.setCell ⟨g, k, none⟩ (.int .u32 z)) := by
  obtain ⟨S, hS, ok, hv, ho, hg⟩ := h
  obtain ⟨h1, h2⟩ := ho.stored k (.int .u32 z)
  refine ⟨S ++ [(c + lim xs k * b) % 4294967296], by simp [hS], ok.snoc (Nat.mod_lt _ (by decide)), ?_, ?_, ?_⟩
  · rw [val_snoc, hS]
    exact put_sum _ _ _ _ _ _ _ _ _ _ _ _ rfl rfl rfl hv (Nat.pow_succ ..) (val_take_succ ..)
  · subst hz
    have e : (cellsOf (S ++ xs.drop k)).set k (.int .u32 (((c + lim xs k * b) % 4294967296 : Nat) : Int)) = cellsOf (S ++ [(c + lim xs k * b) % 4294967296] ++ xs.drop (k + 1)) := by
      generalize (c + lim xs k * b) % 4294967296 = y
      rw [cellsOf_set, ← set_append_drop S xs k y hS hk]
    rwa [e] at h1
  · exact ⟨h2.os.trans hg.os, h2.tape.trans hg.tape, h2.output.trans hg.output, Nat.le_trans hg.size h2.size, fun i hi hne => (h2.block i (by have := hg.size; omega) hne).trans (hg.block i hi hne)⟩

/-- Behind the loop: nothing is carried, or one limb more. -/
theorem put_end0 {xs S : List Nat} {m b dg : Nat} (hx : xs = limbs m) (hS : S.length = xs.length) (ok : Ok S) (hv : val S = val xs * b + dg) (hb : 2 ≤ b) : S = limbs (m * b + dg) := by
  subst hx
  rw [limbs_val] at hv
  rw [← hv]
  refine (limbs_of ok ?_).symm
  rcases Nat.eq_zero_or_pos S.length with h0 | h0
  · rw [List.eq_nil_of_length_eq_zero h0]; rfl
  · obtain ⟨j, hj⟩ : ∃ j, S.length = j + 1 := ⟨S.length - 1, by omega⟩
    have e : S = S.take j ++ [lim S j] := by rw [← take_snoc S j (by omega), ← hj, List.take_length]
    by_cases hz : lim S j = 0
    · exfalso
      have h1 : val S < 4294967296 ^ j := by
        rw [e, hz, val_snoc, Nat.mul_zero, Nat.add_zero]
        exact val_take_lt ok j
      have h2 : (limbs m).length ≤ j := limbs_len_le (by
        have : m ≤ m * b := Nat.le_mul_of_pos_right _ (by omega)
        omega)
      omega
    · rw [e]; exact trimL_snoc _ _ hz
theorem put_end1 {xs S : List Nat} {m b dg c : Nat} (hx : xs = limbs m) (hS : S.length = xs.length) (ok : Ok S) (hv : val S + 4294967296 ^ xs.length * c = val xs * b + dg) (hc : c ≠ 0) (hc2 : c < 4294967296) : S ++ [c] = limbs (m * b + dg) := by
  subst hx
  rw [limbs_val, ← hS, ← val_snoc] at hv
  rw [← hv]
  exact (limbs_of (ok.snoc hc2) (trimL_snoc _ _ hc)).symm

theorem put_num (c x b : Nat) : Value.int .u64 (((c : Int) + (x : Int) * (b : Int)) / 4294967296) = Value.int .u64 (((c + x * b) / 4294967296 : Nat) : Int) := by
  rw [← Int.natCast_mul]
  exact congrArg _ (by omega)
theorem put_c_lt (c x b : Nat) (hc : c < b) (hx : x < 4294967296) : (c + x * b) / 4294967296 < b := by
  rw [Nat.div_lt_iff_lt_mul (by decide)]
  have : (x + 1) * b ≤ 4294967296 * b := Nat.mul_le_mul_right _ hx
  rw [Nat.add_mul, Nat.one_mul] at this
  rw [Nat.mul_comm b]
  omega

set_option maxHeartbeats 1600000 in
theorem putDigit_any (base : Nat) (v : Value) (m b dg : Nat) (w : World) (h : Own w base v (limbs m)) (hb : 2 ≤ b) (hb2 : b ≤ 36) (hdg : dg < b) (hbase : base ≤ w.heap.size) (hlen : (limbs m).length ≤ 1000000) :
    Calls Tryd.prog 81 #[v, .int .u64 (b : Int), .int .u64 (dg : Int)] w fun e w' => ∃ v', e = .returned v' ∧ Own w' base v' (limbs (m * b + dg)) ∧ Below base w w' := by
  obtain ⟨ok, hown⟩ := h
  obtain ⟨i0, hi, hz0, hz1, hz2⟩ := info_parts info32
  obtain ⟨xs, HX⟩ : ∃ xs, Hid (xs = limbs m) := ⟨_, rfl⟩
  rw [← HX.out] at ok hown hlen
  obtain ⟨n, HN⟩ : ∃ n, Hid (n = xs.length) := ⟨_, rfl⟩
  rw [← HN.out] at hown hlen
  rcases id hown.2 with ⟨hv, h0⟩ | ⟨g, cap, cur, hv, hg, hh, hnc, hcm, hcs, htk⟩
  · subst hv
    obtain rfl : xs = [] := List.eq_nil_of_length_eq_zero (HN.out.symm.trans h0)
    have hm0 : m = 0 := (limbs_nil_iff m).1 HX.out.symm
    subst hm0
    rw [Nat.zero_mul, Nat.zero_add]
    obtain rfl : n = 0 := h0
    rcases Nat.eq_zero_or_pos dg with hd0 | hd0
    · subst hd0
      have hown' := Lib.hid hown
      clear hown
      go_enter Tryd.func81, Tryd.ntmps81
      go_wp2_with fail
      refine wp_loop_rounds 1 ?_
      rw [rounds_succ]
      go_wp2_with fail
      go_ret
      exact ⟨_, rfl, Own.nil _ _, Below.refl _ _⟩
    · have hl : limbs dg = [dg] := by
        rw [← limbs_one dg (by omega)]; simp [trimL]; omega
      rw [hl]
      have ho := hown
      go_enter Tryd.func81, Tryd.ntmps81
      go_wp2_with fail
      refine wp_loop_rounds 1 ?_
      rw [rounds_succ]
      go_wp2_with (at_builtin; refine wpList_append_own _ rfl (.tmp 34) (.tmp 37) 22 rfl base 32 i0 (.int .u32 0) 1 4 Tryd.underlying22 hi hz0 hz1 hz2 rfl (by decide) _ _ _ rfl (ho.alloc _) ⟨w.heap.size, 0, none⟩ 1 1 [.int .u32 (dg : Int)] rfl rfl (cell_one_new _ _ _) (fun u hu => by simp at hu; subst hu; rfl) (by unfold maxLen; omega) (by omega) (by simp; omega) ?_; intro v' w1 hown1 hgrow1 _)
      go_ret
      have hw : Below base w w1 := ((Below.refl _ _).alloc hbase _).grown hgrow1 (by simp; omega) (fun j hj => by first | (injection hj with hj; omega) | (cases hj; done) | (simp [Value.ownBlock] at hj; omega))
      exact ⟨v', rfl, ⟨Ok.cons (by omega) Ok.nil, hown1⟩, hw⟩
  · subst hv
    unfold maxLen at hcm
    have HH := Lib.hid (And.intro hh (And.intro hcs htk))
    have HOWN := Lib.hid hown
    clear hh hcs htk hown
    go_enter Tryd.func81, Tryd.ntmps81
    go_wp2_with fail
    go_loopw [7, 13] (fun c i wr => ∃ k cy : Nat, k ≤ n ∧ i = .int .i64 k ∧ c = .int .u64 cy ∧ cy < b ∧ PutInv w base g n cap xs b dg k cy wr) (fun _ i _ => n - (intOf i).toNat)
    case atStart => exact ⟨0, dg, by omega, rfl, rfl, hdg, [], rfl, Ok.nil, by simp [val], by simpa using HOWN.out, World.grownBy.refl _ _⟩
    case round =>
      obtain ⟨k, cy, hk, rfl, rfl, hcy, hinv⟩ := hrel
      by_cases hkn : k < n
      · obtain ⟨S, hS, oS, hv, ho, hgr⟩ := id hinv
        have hf := ho.frozenAt k
        have hc := ho.cellAt k (by omega)
        rw [cellsOf_getElem? _ k (by simp; have := HN.out; omega)] at hc
        have hlk : lim (S ++ xs.drop k) k = lim xs k := by rw [lim_append_right S _ k hS, lim_eq, lim_eq, List.getElem?_drop, Nat.add_zero]
        rw [hlk] at hc
        have x1 := ok.getD k
        have hm := Nat.mul_le_mul (show lim xs k ≤ 4294967295 by omega) hb2
        have hm' : (lim xs k : Int) * (b : Int) ≤ 154618822620 := by rw [← Int.natCast_mul]; omega
        have hm0 : 0 ≤ (lim xs k : Int) * (b : Int) := by rw [← Int.natCast_mul]; omega
        clear hS hv ho hlk
        go_wp2_with fail
        go_roundw
        case rel => exact ⟨k + 1, _, by omega, by go_num, put_num _ _ _, put_c_lt _ _ _ hcy x1, put_step hinv (by have := HN.out; omega) (by rw [← Int.natCast_mul]; omega)⟩
        case measure => simp [intOf]; omega
      · obtain rfl : k = n := by omega
        obtain ⟨S, hS, oS, hv, ho, hgr⟩ := hinv
        rw [show xs.drop k = [] by rw [HN.out, List.drop_length], List.append_nil] at ho
        rw [show xs.take k = xs by rw [HN.out, List.take_length]] at hv
        have hbel : Below base w wr := (Below.refl _ _).grown hgr hbase (fun j hj => by injection hj with hj; omega)
        by_cases hcz : cy = 0
        · subst hcz
          rw [Nat.mul_zero, Nat.add_zero] at hv
          have HE := Lib.hid (put_end0 HX.out (hS.trans HN.out) oS hv hb)
          have HS := Lib.hid hS
          have HO := Lib.hid ho
          clear hS hv ho
          go_wp2_with fail
          go_ret
          refine ⟨_, rfl, ⟨by rw [← HE.out]; exact oS, ?_⟩, hbel⟩
          rw [← HE.out, HS.out]; exact HO.out
        · rw [HN.out] at hv
          have HE := Lib.hid (put_end1 HX.out (hS.trans HN.out) oS hv hcz (by omega))
          have HS := Lib.hid hS
          have hcp : 0 < cy := by omega
          clear hv hcz hS
          have hsz := hbel.size
          have HROW := Lib.hid (show ∀ j, (Value.slice (some ⟨g, 0, none⟩) k cap).ownBlock = some j → base ≤ j from fun j hj => by injection hj with hj; subst hj; exact hg)
          go_wp2_with (at_builtin; refine wpList_append_own _ rfl (.tmp 34) (.tmp 37) 22 rfl base 32 i0 (.int .u32 0) 1 4 Tryd.underlying22 hi hz0 hz1 hz2 rfl (by decide) _ _ _ rfl (ho.alloc _) ⟨wr.heap.size, 0, none⟩ 1 1 [.int .u32 (cy : Int)] rfl rfl (cell_one_new _ _ _) (fun u hu => by simp at hu; subst hu; rfl) (by unfold maxLen; omega) (by omega) (by simp; omega) ?_; intro v' w1 hown1 hgrow1 _)
          go_ret
          have hw : Below base w w1 := (hbel.alloc (by omega) _).grown hgrow1 (by simp; omega) HROW.out
          refine ⟨v', rfl, ⟨limbs_ok _, ?_⟩, hw⟩
          have e : cellsOf S ++ [Value.int .u32 (cy : Int)] = cellsOf (limbs (m * b + dg)) := by rw [← HE.out]; simp [cellsOf]
          rw [e] at hown1
          have e2 : k + 1 = (limbs (m * b + dg)).length := by rw [← HE.out]; simp [HS.out]
          rw [← e2]
          exact hown1
end Go.Proofs.YtjildimhflondaaDoor
