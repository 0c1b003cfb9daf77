/-
  whole.Parse of any text.
-/
import Derived.Test.YtlohdglhebplfaaGreatDoorNw
import Derived.WideShapes
namespace Go.Proofs.YtlohdglhebplfaaGreatDoor
open Go.RowKit
theorem limbs_one (x : Nat) (h : x < 4294967296) : trimL [x] = limbs x := by
  have := trimL_limbs (xs := [x]) (Ok.cons h Ok.nil)
  rwa [val_cons, val_nil, Nat.mul_zero, Nat.add_zero] at this
/-- A digit's number; 36: it is none. -/
def digN (c : Nat) : Nat := if 48 ≤ c ∧ c ≤ 57 then c - 48 else if 97 ≤ c ∧ c ≤ 122 then c - 87 else if 65 ≤ c ∧ c ≤ 90 then c - 55 else 36
theorem digN_le (c : Nat) : digN c ≤ 36 := by unfold digN; split <;> (try split) <;> (try split) <;> omega
set_option maxHeartbeats 800000 in
theorem digitOf_any (c : Nat) (hc : c ≤ 255) (w : World) : Calls Tryz.prog 243 #[.int .u8 (c : Int)] w fun e w' => e = .returned (.int .i64 (digN c : Int)) ∧ w = w' := by
  rcases (show c < 48 ∨ (48 ≤ c ∧ c ≤ 57) ∨ (58 ≤ c ∧ c < 65) ∨ (65 ≤ c ∧ c ≤ 90) ∨ (91 ≤ c ∧ c < 97) ∨ (97 ≤ c ∧ c ≤ 122) ∨ 123 ≤ c by omega) with h | h | h | h | h | h | h
  · have hd := Lib.hid (show digN c = 36 by unfold digN; rw [if_neg (by omega), if_neg (by omega), if_neg (by omega)])
    go_enter Tryz.func243, Tryz.ntmps243
    go_wp2_with fail
    go_ret
    exact ⟨by rw [hd.out]; rfl, rfl⟩
  · have hd := Lib.hid (show digN c = c - 48 by unfold digN; rw [if_pos (by omega)])
    obtain ⟨h, h'⟩ := h
    go_enter Tryz.func243, Tryz.ntmps243
    go_wp2_with fail
    go_ret
    exact ⟨by rw [hd.out]; exact congrArg (fun x => Ending.returned (.int .i64 x)) (by omega), rfl⟩
  · have hd := Lib.hid (show digN c = 36 by unfold digN; rw [if_neg (by omega), if_neg (by omega), if_neg (by omega)])
    obtain ⟨h, h'⟩ := h
    go_enter Tryz.func243, Tryz.ntmps243
    go_wp2_with fail
    go_ret
    exact ⟨by rw [hd.out]; rfl, rfl⟩
  · have hd := Lib.hid (show digN c = c - 55 by unfold digN; rw [if_neg (by omega), if_neg (by omega), if_pos (by omega)])
    obtain ⟨h, h'⟩ := h
    go_enter Tryz.func243, Tryz.ntmps243
    go_wp2_with fail
    go_ret
    exact ⟨by rw [hd.out]; exact congrArg (fun x => Ending.returned (.int .i64 x)) (by omega), rfl⟩
  · have hd := Lib.hid (show digN c = 36 by unfold digN; rw [if_neg (by omega), if_neg (by omega), if_neg (by omega)])
    obtain ⟨h, h'⟩ := h
    go_enter Tryz.func243, Tryz.ntmps243
    go_wp2_with fail
    go_ret
    exact ⟨by rw [hd.out]; rfl, rfl⟩
  · have hd := Lib.hid (show digN c = c - 87 by unfold digN; rw [if_neg (by omega), if_pos (by omega)])
    obtain ⟨h, h'⟩ := h
    go_enter Tryz.func243, Tryz.ntmps243
    go_wp2_with fail
    go_ret
    exact ⟨by rw [hd.out]; exact congrArg (fun x => Ending.returned (.int .i64 x)) (by omega), rfl⟩
  · have hd := Lib.hid (show digN c = 36 by unfold digN; rw [if_neg (by omega), if_neg (by omega), if_neg (by omega)])
    go_enter Tryz.func243, Tryz.ntmps243
    go_wp2_with fail
    go_ret
    exact ⟨by rw [hd.out]; rfl, rfl⟩
theorem isBase_no (b : Int) (h : b < 2 ∨ 36 < b) (w : World) : Calls Tryz.prog 242 #[.int .i64 b] w fun e w' => e = .returned (.bool false) ∧ w = w' := by
  by_cases h2 : b < 2
  · go_enter Tryz.func242, Tryz.ntmps242
    go_wp2_with fail
    go_ret
    exact ⟨rfl, rfl⟩
  · have hd : decide (b ≤ 36) = false := by simp; omega
    go_enter Tryz.func242, Tryz.ntmps242
    go_wp2_with fail
    go_ret
    exact ⟨by rw [← hd]; rfl, rfl⟩
/-- The limbs of m * b + d, limb by limb. -/
theorem put_sum (v p q r c c' s x b m dg vx : Nat) (hs : s = c + x * b) (hr : r = s % 4294967296) (hc : c' = s / 4294967296) (h : v + p * c = vx * b + dg) (hq : q = p * 4294967296) (hm : m = vx + p * x) : v + p * r + q * c' = m * b + dg := by
  have e1 : r + 4294967296 * c' = s := by omega
  have e2 : p * r + p * (4294967296 * c') = p * c + p * (x * b) := by rw [← Nat.mul_add, e1, hs, Nat.mul_add]
  rw [hq, Nat.mul_assoc, hm, Nat.add_mul, Nat.mul_assoc]
  omega
theorem cellsOf_set (L : List Nat) (k y : Nat) : (cellsOf L).set k (.int .u32 (y : Int)) = cellsOf (L.set k y) := by simp [cellsOf, List.map_set]
theorem set_append_drop (S xs : List Nat) (k y : Nat) (hS : S.length = k) (hk : k < xs.length) : (S ++ xs.drop k).set k y = S ++ [y] ++ xs.drop (k + 1) := by
  rw [List.drop_eq_getElem_cons hk, List.set_append_right _ _ (by omega), hS, Nat.sub_self, List.set_cons_zero, List.append_assoc]; rfl
def PutInv (w : World) (base g n cap : Nat) (xs : List Nat) (b dg k c : Nat) (wr : World) : Prop :=
  ∃ S : List Nat, S.length = k ∧ Ok S ∧ val S + 4294967296 ^ k * c = val (xs.take k) * b + dg ∧ wr.ownsRow base 162 1 (.slice (some ⟨g, 0, none⟩) n cap) n (cellsOf (S ++ xs.drop k)) ∧ w.grownBy wr (some g)
theorem put_step {w : World} {base g n cap : Nat} {xs : List Nat} {b dg k c : Nat} {wr : World} (h : PutInv w base g n cap xs b dg k c wr) (hk : k < xs.length) {z : Int} (hz : z = (((c + lim xs k * b) % 4294967296 : Nat) : Int)) :
    PutInv w base g n cap xs b dg (k + 1) ((c + lim xs k * b) / 4294967296) (wr.setCell ⟨g, k, none⟩ (.int .u32 z)) := by
  obtain ⟨S, hS, ok, hv, ho, hg⟩ := h
  obtain ⟨h1, h2⟩ := ho.stored k (.int .u32 z)
  refine ⟨S ++ [(c + lim xs k * b) % 4294967296], by simp [hS], ok.snoc (Nat.mod_lt _ (by decide)), ?_, ?_, ?_⟩
  · rw [val_snoc, hS]
    exact put_sum _ _ _ _ _ _ _ _ _ _ _ _ rfl rfl rfl hv (Nat.pow_succ ..) (val_take_succ ..)
  · subst hz
    have e : (cellsOf (S ++ xs.drop k)).set k (.int .u32 (((c + lim xs k * b) % 4294967296 : Nat) : Int)) = cellsOf (S ++ [(c + lim xs k * b) % 4294967296] ++ xs.drop (k + 1)) := by
      generalize (c + lim xs k * b) % 4294967296 = y
      rw [cellsOf_set, ← set_append_drop S xs k y hS hk]
    rwa [e] at h1
  · exact ⟨h2.os.trans hg.os, h2.tape.trans hg.tape, h2.output.trans hg.output, Nat.le_trans hg.size h2.size, fun i hi hne => (h2.block i (by have := hg.size; omega) hne).trans (hg.block i hi hne)⟩
/-- Behind the loop: nothing is carried, or one limb more. -/
theorem put_end0 {xs S : List Nat} {m b dg : Nat} (hx : xs = limbs m) (hS : S.length = xs.length) (ok : Ok S) (hv : val S = val xs * b + dg) (hb : 2 ≤ b) : S = limbs (m * b + dg) := by
  subst hx
  rw [limbs_val] at hv
  rw [← hv]
  refine (limbs_of ok ?_).symm
  rcases Nat.eq_zero_or_pos S.length with h0 | h0
  · rw [List.eq_nil_of_length_eq_zero h0]; rfl
  · obtain ⟨j, hj⟩ : ∃ j, S.length = j + 1 := ⟨S.length - 1, by omega⟩
    have e : S = S.take j ++ [lim S j] := by rw [← take_snoc S j (by omega), ← hj, List.take_length]
    by_cases hz : lim S j = 0
    · exfalso
      have h1 : val S < 4294967296 ^ j := by
        rw [e, hz, val_snoc, Nat.mul_zero, Nat.add_zero]
        exact val_take_lt ok j
      have h2 : (limbs m).length ≤ j := limbs_len_le (by
        have : m ≤ m * b := Nat.le_mul_of_pos_right _ (by omega)
        omega)
      omega
    · rw [e]; exact trimL_snoc _ _ hz
theorem put_end1 {xs S : List Nat} {m b dg c : Nat} (hx : xs = limbs m) (hS : S.length = xs.length) (ok : Ok S) (hv : val S + 4294967296 ^ xs.length * c = val xs * b + dg) (hc : c ≠ 0) (hc2 : c < 4294967296) : S ++ [c] = limbs (m * b + dg) := by
  subst hx
  rw [limbs_val, ← hS, ← val_snoc] at hv
  rw [← hv]
  exact (limbs_of (ok.snoc hc2) (trimL_snoc _ _ hc)).symm
theorem put_num (c x b : Nat) : Value.int .u64 (((c : Int) + (x : Int) * (b : Int)) / 4294967296) = Value.int .u64 (((c + x * b) / 4294967296 : Nat) : Int) := by
  rw [← Int.natCast_mul]
  exact congrArg _ (by omega)
theorem put_c_lt (c x b : Nat) (hc : c < b) (hx : x < 4294967296) : (c + x * b) / 4294967296 < b := by
  rw [Nat.div_lt_iff_lt_mul (by decide)]
  have : (x + 1) * b ≤ 4294967296 * b := Nat.mul_le_mul_right _ hx
  rw [Nat.add_mul, Nat.one_mul] at this
  rw [Nat.mul_comm b]
  omega
set_option maxHeartbeats 1600000 in
theorem putDigit_any (base : Nat) (v : Value) (m b dg : Nat) (w : World) (h : Own w base v (limbs m)) (hb : 2 ≤ b) (hb2 : b ≤ 36) (hdg : dg < b) (hbase : base ≤ w.heap.size) (hlen : (limbs m).length ≤ 1000000) :
    Calls Tryz.prog 244 #[v, .int .u64 (b : Int), .int .u64 (dg : Int)] w fun e w' => ∃ v', e = .returned v' ∧ Own w' base v' (limbs (m * b + dg)) ∧ Below base w w' := by
  obtain ⟨ok, hown⟩ := h
  obtain ⟨i0, hi, hz0, hz1, hz2⟩ := info_parts info32
  obtain ⟨xs, HX⟩ : ∃ xs, Hid (xs = limbs m) := ⟨_, rfl⟩
  rw [← HX.out] at ok hown hlen
  obtain ⟨n, HN⟩ : ∃ n, Hid (n = xs.length) := ⟨_, rfl⟩
  rw [← HN.out] at hown hlen
  rcases id hown.2 with ⟨hv, h0⟩ | ⟨g, cap, cur, hv, hg, hh, hnc, hcm, hcs, htk⟩
  · subst hv
    obtain rfl : xs = [] := List.eq_nil_of_length_eq_zero (HN.out.symm.trans h0)
    have hm0 : m = 0 := (limbs_nil_iff m).1 HX.out.symm
    subst hm0
    rw [Nat.zero_mul, Nat.zero_add]
    obtain rfl : n = 0 := h0
    rcases Nat.eq_zero_or_pos dg with hd0 | hd0
    · subst hd0
      have hown' := Lib.hid hown
      clear hown
      go_enter Tryz.func244, Tryz.ntmps244
      go_wp2_with fail
      refine wp_loop_rounds 1 ?_
      rw [rounds_succ]
      go_wp2_with fail
      go_ret
      exact ⟨_, rfl, Own.nil _ _, Below.refl _ _⟩
    · have hl : limbs dg = [dg] := by
        rw [← limbs_one dg (by omega)]; simp [trimL]; omega
      rw [hl]
      have ho := hown
      go_enter Tryz.func244, Tryz.ntmps244
      go_wp2_with fail
      refine wp_loop_rounds 1 ?_
      rw [rounds_succ]
      go_wp2_with (at_builtin; refine wpList_append_own _ rfl (.tmp 34) (.tmp 37) 27 rfl base 162 i0 (.int .u32 0) 1 4 Tryz.underlying27 hi hz0 hz1 hz2 rfl (by decide) _ _ _ rfl (ho.alloc _) ⟨w.heap.size, 0, none⟩ 1 1 [.int .u32 (dg : Int)] rfl rfl (cell_one_new _ _ _) (fun u hu => by simp at hu; subst hu; rfl) (by unfold maxLen; omega) (by omega) (by simp; omega) ?_; intro v' w1 hown1 hgrow1 _)
      go_ret
      have hw : Below base w w1 := ((Below.refl _ _).alloc hbase _).grown hgrow1 (by simp; omega) (fun j hj => by first | (injection hj with hj; omega) | (cases hj; done) | (simp [Value.ownBlock] at hj; omega))
      exact ⟨v', rfl, ⟨Ok.cons (by omega) Ok.nil, hown1⟩, hw⟩
  · subst hv
    unfold maxLen at hcm
    have HH := Lib.hid (And.intro hh (And.intro hcs htk))
    have HOWN := Lib.hid hown
    clear hh hcs htk hown
    go_enter Tryz.func244, Tryz.ntmps244
    go_wp2_with fail
    go_loopw [7, 13] (fun c i wr => ∃ k cy : Nat, k ≤ n ∧ i = .int .i64 k ∧ c = .int .u64 cy ∧ cy < b ∧ PutInv w base g n cap xs b dg k cy wr) (fun _ i _ => n - (intOf i).toNat)
    case atStart => exact ⟨0, dg, by omega, rfl, rfl, hdg, [], rfl, Ok.nil, by simp [val], by simpa using HOWN.out, World.grownBy.refl _ _⟩
    case round =>
      obtain ⟨k, cy, hk, rfl, rfl, hcy, hinv⟩ := hrel
      by_cases hkn : k < n
      · obtain ⟨S, hS, oS, hv, ho, hgr⟩ := id hinv
        have hf := ho.frozenAt k
        have hc := ho.cellAt k (by omega)
        rw [cellsOf_getElem? _ k (by simp; have := HN.out; omega)] at hc
        have hlk : lim (S ++ xs.drop k) k = lim xs k := by rw [lim_append_right S _ k hS, lim_eq, lim_eq, List.getElem?_drop, Nat.add_zero]
        rw [hlk] at hc
        have x1 := ok.getD k
        have hm := Nat.mul_le_mul (show lim xs k ≤ 4294967295 by omega) hb2
        have hm' : (lim xs k : Int) * (b : Int) ≤ 154618822620 := by rw [← Int.natCast_mul]; omega
        have hm0 : 0 ≤ (lim xs k : Int) * (b : Int) := by rw [← Int.natCast_mul]; omega
        clear hS hv ho hlk
        go_wp2_with fail
        go_roundw
        case rel => exact ⟨k + 1, _, by omega, by go_num, put_num _ _ _, put_c_lt _ _ _ hcy x1, put_step hinv (by have := HN.out; omega) (by rw [← Int.natCast_mul]; omega)⟩
        case measure => simp [intOf]; omega
      · obtain rfl : k = n := by omega
        obtain ⟨S, hS, oS, hv, ho, hgr⟩ := hinv
        rw [show xs.drop k = [] by rw [HN.out, List.drop_length], List.append_nil] at ho
        rw [show xs.take k = xs by rw [HN.out, List.take_length]] at hv
        have hbel : Below base w wr := (Below.refl _ _).grown hgr hbase (fun j hj => by injection hj with hj; omega)
        by_cases hcz : cy = 0
        · subst hcz
          rw [Nat.mul_zero, Nat.add_zero] at hv
          have HE := Lib.hid (put_end0 HX.out (hS.trans HN.out) oS hv hb)
          have HS := Lib.hid hS
          have HO := Lib.hid ho
          clear hS hv ho
          go_wp2_with fail
          go_ret
          refine ⟨_, rfl, ⟨by rw [← HE.out]; exact oS, ?_⟩, hbel⟩
          rw [← HE.out, HS.out]; exact HO.out
        · rw [HN.out] at hv
          have HE := Lib.hid (put_end1 HX.out (hS.trans HN.out) oS hv hcz (by omega))
          have HS := Lib.hid hS
          have hcp : 0 < cy := by omega
          clear hv hcz hS
          have hsz := hbel.size
          have HROW := Lib.hid (show ∀ j, (Value.slice (some ⟨g, 0, none⟩) k cap).ownBlock = some j → base ≤ j from fun j hj => by injection hj with hj; subst hj; exact hg)
          go_wp2_with (at_builtin; refine wpList_append_own _ rfl (.tmp 34) (.tmp 37) 27 rfl base 162 i0 (.int .u32 0) 1 4 Tryz.underlying27 hi hz0 hz1 hz2 rfl (by decide) _ _ _ rfl (ho.alloc _) ⟨wr.heap.size, 0, none⟩ 1 1 [.int .u32 (cy : Int)] rfl rfl (cell_one_new _ _ _) (fun u hu => by simp at hu; subst hu; rfl) (by unfold maxLen; omega) (by omega) (by simp; omega) ?_; intro v' w1 hown1 hgrow1 _)
          go_ret
          have hw : Below base w w1 := (hbel.alloc (by omega) _).grown hgrow1 (by simp; omega) HROW.out
          refine ⟨v', rfl, ⟨limbs_ok _, ?_⟩, hw⟩
          have e : cellsOf S ++ [Value.int .u32 (cy : Int)] = cellsOf (limbs (m * b + dg)) := by rw [← HE.out]; simp [cellsOf]
          rw [e] at hown1
          have e2 : k + 1 = (limbs (m * b + dg)).length := by rw [← HE.out]; simp [HS.out]
          rw [← e2]
          exact hown1
/-- The number of digits. -/
def numB (b : Nat) (l : List UInt8) : Nat := l.foldl (fun a c => a * b + digN c.toNat) 0
theorem numB_snoc (b : Nat) (l : List UInt8) (c : UInt8) : numB b (l ++ [c]) = numB b l * b + digN c.toNat := by simp [numB]
theorem bytes_snoc (s : ByteArray) (k : Nat) (h : k < s.size) : s.data.toList.take (k + 1) = s.data.toList.take k ++ [s[k]] := by
  rw [List.take_succ_eq_append_getElem (by simpa using h)]; rfl
theorem numB_lt (b : Nat) (hb : b ≤ 36) (s : ByteArray) (k : Nat) (hk : k ≤ s.size) : numB b (s.data.toList.take k) < 4294967296 ^ k := by
  induction k with
  | zero => simp [numB]
  | succ k ih =>
    rw [bytes_snoc s k (by omega), numB_snoc, Nat.pow_succ]
    have h1 := ih (by omega)
    have h2 := digN_le s[k].toNat
    have h3 : numB b (s.data.toList.take k) * b ≤ numB b (s.data.toList.take k) * 36 := Nat.mul_le_mul_left _ hb
    omega
set_option maxHeartbeats 1600000 in
theorem parse_yes (s : ByteArray) (b : Nat) (w : World) (h2 : 2 ≤ b) (h36 : b ≤ 36) (hs1 : 1 ≤ s.size) (hs2 : s.size ≤ 1000) (hgood : ∀ k (h : k < s.size), digN s[k].toNat < b) :
    Calls Tryz.prog 212 #[.string s, .int .i64 (b : Int)] w fun e w' =>
      ∃ v, e = .returned (.tuple #[v, .bool true]) ∧ New w' w.heap.size v (limbs (numB b s.data.toList)) ∧ Below w.heap.size w w' := by
  have HG := Lib.hid hgood
  clear hgood
  have hne : ((s.size : Int) == 0) = false := beq_eq_false_iff_ne.2 (by omega)
  go_enter Tryz.func212, Tryz.ntmps212
  go_wp2_with (go_at_call 242; refine (isBase_yes _ (by omega) (by omega) _).mono ?_; rintro e w' ⟨rfl, rfl⟩)
  go_loopw [6, 24] (fun v i wr => ∃ k : Nat, k ≤ s.size ∧ i = .int .i64 k ∧ Own wr w.heap.size v (limbs (numB b (s.data.toList.take k))) ∧ Below w.heap.size w wr) (fun _ i _ => s.size - (intOf i).toNat)
  case atStart => exact ⟨0, by omega, rfl, Own.nil _ _, Below.refl _ _⟩
  case round =>
    obtain ⟨k, hk, rfl, hown, hbel⟩ := hrel
    by_cases hks : k < s.size
    · have hd := HG.out k hks
      have hlen : (limbs (numB b (s.data.toList.take k))).length ≤ 1000000 := by
        have := limbs_len_le (numB_lt b h36 s k hk)
        omega
      have hsz := hbel.size
      have HE := Lib.hid (show numB b (s.data.toList.take (k + 1)) = numB b (s.data.toList.take k) * b + digN s[k].toNat by rw [bytes_snoc s k hks, numB_snoc])
      go_wp2_with (first | (go_at_call 243; refine (digitOf_any _ (by have := UInt8.toNat_lt s[k]; omega) _).mono ?_; rintro e w' ⟨rfl, rfl⟩) | (go_at_call 244; refine (putDigit_any w.heap.size _ (numB b (s.data.toList.take k)) b _ _ hown h2 h36 hd hsz hlen).mono ?_; rintro e w1 ⟨v1, rfl, hown1, hbel1⟩))
      go_roundw
      case rel => exact ⟨k + 1, by omega, by go_num, by rw [HE.out]; exact hown1, hbel.trans hbel1⟩
      case measure => simp [intOf]; omega
    · obtain rfl : k = s.size := by omega
      have hn := Lib.hid hown.new
      clear hown
      go_wp2_with fail
      go_ret2
      have := hn.out
      rw [List.take_of_length_le (by simp)] at this
      exact ⟨_, rfl, this, hbel⟩
set_option maxHeartbeats 1600000 in
theorem parse_bad (s : ByteArray) (b : Nat) (w : World) (h2 : 2 ≤ b) (h36 : b ≤ 36) (hs1 : 1 ≤ s.size) (hs2 : s.size ≤ 1000) (j : Nat) (hj : j < s.size) (hbad : b ≤ digN s[j].toNat) :
    Calls Tryz.prog 212 #[.string s, .int .i64 (b : Int)] w fun e w' => e = .returned (.tuple #[.slice none 0 0, .bool false]) ∧ Below w.heap.size w w' := by
  have HB := Lib.hid hbad
  clear hbad
  have hne : ((s.size : Int) == 0) = false := beq_eq_false_iff_ne.2 (by omega)
  go_enter Tryz.func212, Tryz.ntmps212
  go_wp2_with (go_at_call 242; refine (isBase_yes _ (by omega) (by omega) _).mono ?_; rintro e w' ⟨rfl, rfl⟩)
  go_loopw [6, 24] (fun v i wr => ∃ k : Nat, k ≤ j ∧ i = .int .i64 k ∧ Own wr w.heap.size v (limbs (numB b (s.data.toList.take k))) ∧ Below w.heap.size w wr) (fun _ i _ => s.size - (intOf i).toNat)
  case atStart => exact ⟨0, by omega, rfl, Own.nil _ _, Below.refl _ _⟩
  case round =>
    obtain ⟨k, hk, rfl, hown, hbel⟩ := hrel
    have hks : k < s.size := by omega
    have hd36 := digN_le s[k].toNat
    by_cases hd : digN s[k].toNat < b
    · have hkj : k < j := by
        rcases Nat.lt_or_ge k j with h | h
        · exact h
        · obtain rfl : k = j := by omega
          have := HB.out
          omega
      have hlen : (limbs (numB b (s.data.toList.take k))).length ≤ 1000000 := by
        have := limbs_len_le (numB_lt b h36 s k (by omega))
        omega
      have hsz := hbel.size
      have HE := Lib.hid (show numB b (s.data.toList.take (k + 1)) = numB b (s.data.toList.take k) * b + digN s[k].toNat by rw [bytes_snoc s k hks, numB_snoc])
      go_wp2_with (first | (go_at_call 243; refine (digitOf_any _ (by have := UInt8.toNat_lt s[k]; omega) _).mono ?_; rintro e w' ⟨rfl, rfl⟩) | (go_at_call 244; refine (putDigit_any w.heap.size _ (numB b (s.data.toList.take k)) b _ _ hown h2 h36 hd hsz hlen).mono ?_; rintro e w1 ⟨v1, rfl, hown1, hbel1⟩))
      go_roundw
      case rel => exact ⟨k + 1, by omega, by go_num, by rw [HE.out]; exact hown1, hbel.trans hbel1⟩
      case measure => simp [intOf]; omega
    · have hd' : b ≤ digN s[k].toNat := by omega
      go_wp2_with (first | (go_at_call 243; refine (digitOf_any _ (by have := UInt8.toNat_lt s[k]; omega) _).mono ?_; rintro e w' ⟨rfl, rfl⟩))
      go_ret2
      exact ⟨rfl, hbel⟩
set_option maxHeartbeats 800000 in
theorem parse_no (s : ByteArray) (b : Int) (w : World) (h : b < 2 ∨ 36 < b ∨ s.size = 0 ∨ 1000 < s.size) (hm : s.size ≤ maxLen) :
    Calls Tryz.prog 212 #[.string s, .int .i64 b] w fun e w' => e = .returned (.tuple #[.slice none 0 0, .bool false]) ∧ Below w.heap.size w w' := by
  unfold maxLen at hm
  by_cases hb : b < 2 ∨ 36 < b
  · go_enter Tryz.func212, Tryz.ntmps212
    go_wp2_with (go_at_call 242; refine (isBase_no _ hb _).mono ?_; rintro e w' ⟨rfl, rfl⟩)
    go_ret2
    exact ⟨rfl, Below.refl _ _⟩
  · by_cases h0 : s.size = 0
    · have hne : ((s.size : Int) == 0) = true := by simp [h0]
      have H0 := Lib.hid h0
      clear h0 h
      go_enter Tryz.func212, Tryz.ntmps212
      go_wp2_with (go_at_call 242; refine (isBase_yes _ (by omega) (by omega) _).mono ?_; rintro e w' ⟨rfl, rfl⟩)
      go_ret2
      exact ⟨rfl, Below.refl _ _⟩
    · have hne : ((s.size : Int) == 0) = false := beq_eq_false_iff_ne.2 (by omega)
      have h1 : 1000 < s.size := by omega
      clear h
      go_enter Tryz.func212, Tryz.ntmps212
      go_wp2_with (go_at_call 242; refine (isBase_yes _ (by omega) (by omega) _).mono ?_; rintro e w' ⟨rfl, rfl⟩)
      go_ret2
      exact ⟨rfl, Below.refl _ _⟩
theorem results_wt {fn : Func} {tmps : Array Value} {t t2 : Tmp} {w : World} {b : Nat} {s x : Value} (h : fn.results = #[.cell t 29, .tmp t2]) (ht : tmps.getD t undef = .pointer (some ⟨b, 0, none⟩)) (c0 : w.cell? ⟨b, 0, none⟩ = some s) (c1 : w.cell? ⟨b, 1, none⟩ = some x) :
    (results fn tmps).run Tryz.prog w = .ok (.tuple #[.agg #[s, x], tmps.getD t2 undef]) w := by
  rw [Array.getD_eq_getD_getElem?] at ht
  simp [results, h, ht, go_sem, c0, c1]
theorem enter0r (w : World) : ∃ W, W = w.alloc (.cells #[.bool false, .slice none 0 0] 29) ∧ Var W w.heap.size (.bool false) (.slice none 0 0) ∧ Below w.heap.size w W :=
  ⟨_, rfl, Var.mk_ _ _ _, bnew (Below.refl _ _) _⟩
theorem WNew.farSet {w : World} {g base : Nat} {s x v : Value} {z : Int} (hv : Var w g s x) (h : WNew w base v z) (i : Nat) (u : Value) : WNew (w.setCell ⟨g, i, none⟩ u) base v z := by
  obtain ⟨y, e, hn⟩ := h
  exact ⟨y, e, New.farSet hv hn i u⟩
theorem zOf_zero {t : Bool} {n : Nat} : zOf t n = 0 ↔ n = 0 := by cases t <;> simp [zOf]
theorem nil_wnew (w : World) (base : Nat) : WNew w base (.agg #[.bool false, .slice none 0 0]) 0 := ⟨_, rfl, New.nil w base⟩
/-- What nat's Parse tells. -/
def PG (w : World) (ok : Bool) (m : Nat) (e : Ending) (w' : World) : Prop := ∃ v, e = .returned (.tuple #[v, .bool ok]) ∧ New w' w.heap.size v (limbs m) ∧ Below w.heap.size w w'
def WP (w : World) (ok : Bool) (z : Int) (e : Ending) (w' : World) : Prop := ∃ v, e = .returned (.tuple #[v, .bool ok]) ∧ WNew w' w.heap.size v z ∧ Below w.heap.size w w'
theorem wretp {fn : Func} {a : Act} {t t2 : Tmp} {w w2 : World} {g base : Nat} {s0 x0 : Value} {b ok : Bool} {A : Option Addr} {n c : Nat} {z : Int} (h : fn.results = #[.cell t 29, .tmp t2]) (ht : a.tmps.getD t undef = .pointer (some ⟨g, 0, none⟩)) (ht2 : a.tmps.getD t2 undef = .bool ok) (hd : a.defers = [])
    (hv : Var w2 g s0 x0) (hn : WNew w2 base (.agg #[.bool b, .slice A n c]) z) (hbase : w.heap.size ≤ base) (hg : w.heap.size ≤ g) (hb : Below w.heap.size w w2) :
    bodyPost Tryz.prog fn (WP w ok z) .ret a ((w2.setCell ⟨g, 0, none⟩ (.bool b)).setCell ⟨g, 1, none⟩ (.slice A n c)) := by
  have h1 := (hv.set0 (.bool b)).set1 (.slice A n c)
  refine bodyPost_ret (results_wt h ht h1.c0 h1.c1) hd ⟨_, by rw [ht2], ?_, (hb.setCell hg _).setCell hg _⟩
  exact (WNew.farSet (hv.set0 (.bool b)) (WNew.farSet hv hn 0 (.bool b)) 1 (.slice A n c)).from_ hbase
theorem str_ne {s : ByteArray} (h : 0 < s.size) : ¬ s.toList = [] ∧ (s.toList.isEmpty) = false := by
  have h1 : s.data.toList.length = s.size := Array.length_toList
  rw [ByteArray.toList_eq]
  cases he : s.data.toList with
  | nil => rw [he] at h1; simp at h1; omega
  | cons a l => exact ⟨by simp, rfl⟩
set_option maxHeartbeats 1600000 in
theorem wparse_minusL {w : World} (s : ByteArray) (h0 : 0 < s.size) (hc : s[0] = 45) (hsz : s.size ≤ 9223372036854775807) (ok : Bool) (m : Nat) (hok : ok = false → m = 0)
    (HP : ∀ w, Calls Tryz.prog 212 #[.string (s.extract 1 s.size), .int .i64 10] w (PG w ok m)) : Calls Tryz.prog 171 #[.string s] w (WP w ok (zOf true m)) := by
  obtain ⟨W, hW, hr, hb⟩ := enter0r w
  have h45 : (((s[0].toNat : Nat) : Int) == 45) = true := by simp [hc]
  have HC := Lib.hid hc
  clear hc
  have HP' := Lib.hid (HP W)
  clear HP
  cases ok
  · obtain rfl := hok rfl
    have HZ : Hid (zOf true 0 = 0) := Lib.hid (zOf_zero.2 rfl)
    clear hok
    go_enter Tryz.func171, Tryz.ntmps171
    go_wp2_with fail
    rw [← hW]
    refine HP'.out.mono ?_
    rintro e w1 ⟨v, rfl, hv, hb1⟩
    have hr2 := hr.next hb1
    obtain ⟨q1, q2, q3, q4, q5, q6⟩ := hr2.room (.bool false)
    go_wp2_with fail
    rw [HZ.out]
    exact wretp rfl rfl rfl rfl hr2 (nil_wnew _ w.heap.size) (Nat.le_refl _) (Nat.le_refl _) (bnext hb hb1)
  · clear hok
    go_enter Tryz.func171, Tryz.ntmps171
    go_wp2_with fail
    rw [← hW]
    refine HP'.out.mono ?_
    rintro e w1 ⟨v, rfl, hv, hb1⟩
    go_wp2_with fail
    refine (signed_w true hv).mono ?_
    rintro e w2 ⟨b, xa, xn, xc, rfl, hnew, hb2⟩
    have hr2 := (hr.next hb1).next hb2
    obtain ⟨q1, q2, q3, q4, q5, q6⟩ := hr2.room (.bool b)
    go_wp2_with fail
    exact wretp rfl rfl rfl rfl hr2 hnew.out hb.size (Nat.le_refl _) (bnext (bnext hb hb1) hb2)
set_option maxHeartbeats 1600000 in
theorem wparse_plusL {w : World} (s : ByteArray) (h0 : 0 < s.size) (hc : s[0] = 43) (hsz : s.size ≤ 9223372036854775807) (ok : Bool) (m : Nat) (hok : ok = false → m = 0)
    (HP : ∀ w, Calls Tryz.prog 212 #[.string (s.extract 1 s.size), .int .i64 10] w (PG w ok m)) : Calls Tryz.prog 171 #[.string s] w (WP w ok (zOf false m)) := by
  obtain ⟨W, hW, hr, hb⟩ := enter0r w
  have h45 : (((s[0].toNat : Nat) : Int) == 45) = false := by simp [hc]
  have h43 : (((s[0].toNat : Nat) : Int) == 43) = true := by simp [hc]
  have HC := Lib.hid hc
  clear hc
  have HP' := Lib.hid (HP W)
  clear HP
  cases ok
  · obtain rfl := hok rfl
    have HZ : Hid (zOf false 0 = 0) := Lib.hid (zOf_zero.2 rfl)
    clear hok
    go_enter Tryz.func171, Tryz.ntmps171
    go_wp2_with fail
    rw [← hW]
    refine HP'.out.mono ?_
    rintro e w1 ⟨v, rfl, hv, hb1⟩
    have hr2 := hr.next hb1
    obtain ⟨q1, q2, q3, q4, q5, q6⟩ := hr2.room (.bool false)
    go_wp2_with fail
    rw [HZ.out]
    exact wretp rfl rfl rfl rfl hr2 (nil_wnew _ w.heap.size) (Nat.le_refl _) (Nat.le_refl _) (bnext hb hb1)
  · clear hok
    go_enter Tryz.func171, Tryz.ntmps171
    go_wp2_with fail
    rw [← hW]
    refine HP'.out.mono ?_
    rintro e w1 ⟨v, rfl, hv, hb1⟩
    go_wp2_with fail
    refine (signed_w false hv).mono ?_
    rintro e w2 ⟨b, xa, xn, xc, rfl, hnew, hb2⟩
    have hr2 := (hr.next hb1).next hb2
    obtain ⟨q1, q2, q3, q4, q5, q6⟩ := hr2.room (.bool b)
    go_wp2_with fail
    exact wretp rfl rfl rfl rfl hr2 hnew.out hb.size (Nat.le_refl _) (bnext (bnext hb hb1) hb2)
set_option maxHeartbeats 1600000 in
theorem wparse_noneL {w : World} (s : ByteArray) (h0 : 0 < s.size) (hc : s[0] ≠ 45) (hc2 : s[0] ≠ 43) (_hsz : s.size ≤ 9223372036854775807) (ok : Bool) (m : Nat) (hok : ok = false → m = 0)
    (HP : ∀ w, Calls Tryz.prog 212 #[.string s, .int .i64 10] w (PG w ok m)) : Calls Tryz.prog 171 #[.string s] w (WP w ok (zOf false m)) := by
  obtain ⟨W, hW, hr, hb⟩ := enter0r w
  have h45 : (((s[0].toNat : Nat) : Int) == 45) = false := by
    rw [beq_eq_false_iff_ne]
    intro h
    exact hc (UInt8.toNat_inj.1 (show s[0].toNat = 45 by omega))
  have h43 : (((s[0].toNat : Nat) : Int) == 43) = false := by
    rw [beq_eq_false_iff_ne]
    intro h
    exact hc2 (UInt8.toNat_inj.1 (show s[0].toNat = 43 by omega))
  clear hc hc2
  have HP' := Lib.hid (HP W)
  clear HP
  cases ok
  · obtain rfl := hok rfl
    have HZ : Hid (zOf false 0 = 0) := Lib.hid (zOf_zero.2 rfl)
    clear hok
    go_enter Tryz.func171, Tryz.ntmps171
    go_wp2_with fail
    rw [← hW]
    refine HP'.out.mono ?_
    rintro e w1 ⟨v, rfl, hv, hb1⟩
    have hr2 := hr.next hb1
    obtain ⟨q1, q2, q3, q4, q5, q6⟩ := hr2.room (.bool false)
    go_wp2_with fail
    rw [HZ.out]
    exact wretp rfl rfl rfl rfl hr2 (nil_wnew _ w.heap.size) (Nat.le_refl _) (Nat.le_refl _) (bnext hb hb1)
  · clear hok
    go_enter Tryz.func171, Tryz.ntmps171
    go_wp2_with fail
    rw [← hW]
    refine HP'.out.mono ?_
    rintro e w1 ⟨v, rfl, hv, hb1⟩
    go_wp2_with fail
    refine (signed_w false hv).mono ?_
    rintro e w2 ⟨b, xa, xn, xc, rfl, hnew, hb2⟩
    have hr2 := (hr.next hb1).next hb2
    obtain ⟨q1, q2, q3, q4, q5, q6⟩ := hr2.room (.bool b)
    go_wp2_with fail
    exact wretp rfl rfl rfl rfl hr2 hnew.out hb.size (Nat.le_refl _) (bnext (bnext hb hb1) hb2)
set_option maxHeartbeats 800000 in
theorem wparse_nil {w : World} : Calls Tryz.prog 171 #[.string ⟨#[]⟩] w (WP w false 0) := by
  obtain ⟨W, hW, hr, hb⟩ := enter0r w
  have HP' := Lib.hid (parse_no ⟨#[]⟩ 10 W (.inr (.inr (.inl rfl))) (by unfold maxLen; decide))
  go_enter Tryz.func171, Tryz.ntmps171
  go_wp2_with fail
  rw [← hW]
  refine HP'.out.mono ?_
  rintro e w1 ⟨rfl, hb1⟩
  have hr2 := hr.next hb1
  obtain ⟨q1, q2, q3, q4, q5, q6⟩ := hr2.room (.bool false)
  go_wp2_with fail
  exact wretp rfl rfl rfl rfl hr2 (nil_wnew _ w.heap.size) (Nat.le_refl _) (Nat.le_refl _) (bnext hb hb1)
theorem PG.none {P : Program} {f : FuncId} {args : Array Value} {w : World} (h : Calls P f args w fun e w' => e = .returned (.tuple #[.slice none 0 0, .bool false]) ∧ Below w.heap.size w w') : Calls P f args w (PG w false 0) :=
  h.mono fun _ _ ⟨he, hb⟩ => ⟨_, he, New.nil _ _, hb⟩
/-- The number of a text of digits. -/
def natP (s : ByteArray) : Bool × Nat := if 1 ≤ s.size ∧ s.size ≤ 1000 ∧ s.data.toList.all (fun c => decide (digN c.toNat < 10)) = true then (true, numB 10 s.data.toList) else (false, 0)
theorem nparse_spec (s : ByteArray) (hs : s.size ≤ maxLen) : (∀ w, Calls Tryz.prog 212 #[.string s, .int .i64 10] w (PG w (natP s).1 (natP s).2)) ∧ ((natP s).1 = false → (natP s).2 = 0) := by
  by_cases h : s.size = 0 ∨ 1000 < s.size
  · have e : natP s = (false, 0) := if_neg (by omega)
    rw [e]
    exact ⟨fun w => PG.none (parse_no s 10 w (.inr (.inr h)) hs), fun _ => rfl⟩
  · have hall : s.data.toList.all (fun c => decide (digN c.toNat < 10)) = true ↔ ∀ k (h : k < s.size), digN s[k].toNat < 10 := by
      rw [List.all_eq_true]
      constructor
      · intro h k hk
        exact of_decide_eq_true (h s[k] (by have : s[k] = s.data.toList[k]'(by simpa using hk) := rfl
                                            rw [this]; exact List.getElem_mem _))
      · intro h x hx
        obtain ⟨k, hk, rfl⟩ := List.getElem_of_mem hx
        exact decide_eq_true (h k (by simpa using hk))
    by_cases hg : ∀ k (h : k < s.size), digN s[k].toNat < 10
    · have e : natP s = (true, numB 10 s.data.toList) := if_pos ⟨by omega, by omega, hall.2 hg⟩
      rw [e]
      exact ⟨fun w => parse_yes s 10 w (by omega) (by omega) (by omega) (by omega) hg, fun h => by cases h⟩
    · have e : natP s = (false, 0) := if_neg fun hh => hg (hall.1 hh.2.2)
      rw [e]
      simp only [Classical.not_forall] at hg
      obtain ⟨j, hj, hbad⟩ := hg
      exact ⟨fun w => PG.none (parse_bad s 10 w (by omega) (by omega) (by omega) (by omega) j hj (by omega)), fun _ => rfl⟩
/-- The number of a text, with a sign or without one. -/
def zparB (s : ByteArray) : Bool × Int := match s.data.toList with
  | [] => (false, 0)
  | c :: _ => if c = 45 then ((natP (s.extract 1 s.size)).1, zOf true (natP (s.extract 1 s.size)).2) else if c = 43 then ((natP (s.extract 1 s.size)).1, zOf false (natP (s.extract 1 s.size)).2) else ((natP s).1, zOf false (natP s).2)
def zpar (l : List UInt8) : Bool × Int := zparB ⟨l.toArray⟩
theorem wparse_spec (s : ByteArray) (hs : s.size ≤ maxLen) (w : World) : Calls Tryz.prog 171 #[.string s] w (WP w (zparB s).1 (zparB s).2) := by
  by_cases h0 : s.size = 0
  · have e : s = ⟨#[]⟩ := by cases s with | mk d => cases d with | mk l => cases l with | nil => rfl | cons a l => simp [ByteArray.size] at h0
    subst e
    exact wparse_nil
  · have h0 : 0 < s.size := by omega
    have hb : s.size ≤ 9223372036854775807 := by unfold maxLen at hs; omega
    have he : (s.extract 1 s.size).size ≤ maxLen := by rw [ByteArray.size_extract]; exact Nat.le_trans (Nat.sub_le _ _) (Nat.le_trans (Nat.min_le_left _ _) hs)
    have hd : s.data.toList = s[0] :: s.data.toList.drop 1 := by
      have h1 : 0 < s.data.toList.length := by simpa using h0
      have := List.drop_eq_getElem_cons h1
      rw [List.drop_zero] at this
      exact this
    unfold zparB
    rw [hd]
    dsimp only
    by_cases h45 : s[0] = 45
    · rw [if_pos h45]
      exact wparse_minusL s h0 h45 hb _ _ (nparse_spec _ he).2 (nparse_spec _ he).1
    · rw [if_neg h45]
      by_cases h43 : s[0] = 43
      · rw [if_pos h43]
        exact wparse_plusL s h0 h43 hb _ _ (nparse_spec _ he).2 (nparse_spec _ he).1
      · rw [if_neg h43]
        exact wparse_noneL s h0 h45 h43 hb _ _ (nparse_spec _ hs).2 (nparse_spec _ hs).1
end Go.Proofs.YtlohdglhebplfaaGreatDoor
