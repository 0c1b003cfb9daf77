/-
  The document's own Norm, limb, Add (pavaneref01): what they answer. The document's own Add (pavaneref01): what it answers. The document's own Cmp (pavaneref01): what it answers. The document's own Bits, bit, Shift (pavaneref01): what they answer. nat.Small and the document's own: what they answer. nat.Shift far down.
-/
import Derived.Test.YtocnlapbkidinaaGreatDoorPn3
import Derived.Test.YtocnlapbkidinaaGreatDoorPn4
set_option linter.unusedVariables false
set_option linter.unusedSimpArgs false
set_option linter.unusedSectionVars false
set_option linter.unnecessarySimpa false
namespace Go.Proofs.YtocnlapbkidinaaGreatDoor
section
open Go.RowKit

set_option maxHeartbeats 400000 in
theorem rlimb_any (A : Option Addr) (n cap : Nat) (xs : List Nat) (i : Int) (w : World) (h : Sl w A n cap xs) (h0 : 0 ≤ i) :
    Calls Tryz.prog 124 #[.slice A n cap, .int .i64 i] w fun e w' => e = .returned (.int .u64 ((lim xs i.toNat : Nat) : Int)) ∧ w = w' := by
  obtain ⟨k, rfl⟩ := Int.eq_ofNat_of_zero_le h0
  rw [Int.toNat_natCast]
  have hm := h.max
  have hl := h.le
  unfold maxLen at hm
  by_cases hk : k < n
  · obtain ⟨b, off, rfl, hb, hc⟩ := h.here (by omega)
    have hck := hc k hk
    have hx := h.ok.getD k
    clear hc
    generalize lim xs k = x at *
    go_enter Tryz.func124, Tryz.ntmps124
    go_wp2
    go_ret
    exact ⟨rfl, rfl⟩
  · have hx : lim xs k = 0 := lim_ge xs k (by have := h.len; omega)
    rw [hx]
    go_enter Tryz.func124, Tryz.ntmps124
    go_wp2
    go_ret
    exact ⟨rfl, rfl⟩

theorem own_lit0 (w : World) (base : Nat) (hb : base ≤ w.heap.size) : Own (w.alloc (.cells #[] 78)) base (.slice (some ⟨w.heap.size, 0, none⟩) 0 0) [] :=
  ⟨Ok.nil, World.ownsRow_lit (base := base) (size := 1) w #[] 0 hb (by unfold maxLen; omega) rfl⟩

set_option maxHeartbeats 800000 in
theorem rnorm_any (A : Option Addr) (n cap : Nat) (xs : List Nat) (w : World) (h : Sl w A n cap xs) (hn : n ≤ 35184372087808) :
    Calls Tryz.prog 76 #[.slice A n cap] w (Gives w (val xs)) := by
  have hm := h.max
  have hl := h.le
  unfold maxLen at hm
  obtain ⟨i0, hi, hz0, hz1, hz2⟩ := info_parts info32
  have H := Lib.hid h
  clear h
  have ho := own_lit0 w w.heap.size (Nat.le_refl _)
  go_enter Tryz.func76, Tryz.ntmps76
  go_wp2_with fail
  go_loop [3] (fun t => ∃ k : Nat, k ≤ n ∧ t = .int .i64 k ∧ Hid (trimL (xs.take k) = trimL xs)) (fun t => (intOf t).toNat)
  case atStart => exact ⟨n, Nat.le_refl _, rfl, by rw [H.out.len, List.take_length]; exact rfl⟩
  case round =>
    obtain ⟨k, hk, rfl, hr⟩ := hrel
    have htk := (H.out.take k hk).alloc (.cells #[] 78)
    have fin : ∀ (v : Value) (w' : World), Own w' w.heap.size v ([] ++ xs.take k) → (w.alloc (.cells #[] 78)).grownBy w' (some w.heap.size) → trimL (xs.take k) = xs.take k → New w' w.heap.size v (limbs (val xs)) ∧ Below w.heap.size w w' := by
      intro v w' h1 h2 h3
      refine ⟨?_, ((Below.refl _ _).alloc (Nat.le_refl _) _).grown h2 (by simp) (fun j hj => by injection hj with hj; omega)⟩
      have e : limbs (val xs) = xs.take k := by rw [← trimL_limbs H.out.ok, ← hr.out, h3]
      rw [e]
      simpa using h1.new
    have FIN := Lib.hid fin
    clear fin
    rcases k with _ | k
    · go_wp2_with (at_builtin; refine wpList_append_limbs rfl (.tmp 18) (.tmp 21) rfl i0 Tryz.underlying25 hi hz0 hz1 hz2 w.heap.size _ [] rfl ho _ _ _ _ rfl htk (by simp) (by simp) ?_; intro v' w1 hown1 hg1)
      go_ret
      obtain ⟨f1, f2⟩ := FIN.out v' w1 hown1 hg1 rfl
      exact ⟨v', rfl, f1, f2⟩
    · obtain ⟨b, off, rfl, hb, hc⟩ := H.out.here (by omega)
      have hck := hc k (by omega)
      have hx := H.out.ok.getD k
      by_cases h0 : lim xs k = 0
      · rw [h0] at hck
        clear hc htk FIN
        go_wp2_with fail
        go_round
        case rel => exact ⟨k, by omega, by go_num, by rw [← hr.out, trimL_take_zero xs k (by have := H.out.len; omega) h0]; exact rfl⟩
        case measure => simp [intOf]
      · have hs := Lib.hid (trimL_take_stop xs k (by have := H.out.len; omega) h0)
        have hz : (((lim xs k : Nat) : Int) == 0) = false := beq_eq_false_iff_ne.2 (by omega)
        clear hc h0
        go_wp2_with (at_builtin; refine wpList_append_limbs rfl (.tmp 18) (.tmp 21) rfl i0 Tryz.underlying25 hi hz0 hz1 hz2 w.heap.size _ [] rfl ho _ _ _ _ rfl htk (by simp; omega) (by simp) ?_; intro v' w1 hown1 hg1)
        go_ret
        obtain ⟨f1, f2⟩ := FIN.out v' w1 hown1 hg1 hs.out
        exact ⟨v', rfl, f1, f2⟩
end
end Go.Proofs.YtocnlapbkidinaaGreatDoor
namespace Go.Proofs.YtocnlapbkidinaaGreatDoor
section
open Go.RowKit
set_option maxRecDepth 100000

theorem New.num' {w : World} {base : Nat} {v : Value} {xs : List Nat} (h : New w base v xs) : Num w v (val xs) xs.length := by
  obtain ⟨A, n, c, rfl, hs, _⟩ := h
  exact ⟨A, n, c, _, rfl, hs, rfl, by have := hs.len; omega⟩
theorem rnorm_num {w : World} {u : Value} {a K : Nat} (hu : Num w u a K) (hK : K ≤ 35184372087808) : Calls Tryz.prog 76 #[u] w (Gives w a) := by
  obtain ⟨A1, n1, c1, xs, rfl, s1, rfl, k1⟩ := hu
  exact rnorm_any _ _ _ _ _ s1 (by omega)

def RAdd (w : World) (xs ys : List Nat) (k cy : Nat) (S : List Nat) (v : Value) (wr : World) : Prop :=
  S.length = k ∧ val S + 4294967296 ^ k * cy = val (xs.take k) + val (ys.take k) ∧ Own wr w.heap.size v S ∧ Below w.heap.size w wr
theorem radd_num_c (x y c : Nat) : Value.int .u64 (((x : Int) + (y : Int) + (c : Int)) / 4294967296) = Value.int .u64 (((x + y + c) / 4294967296 : Nat) : Int) := congrArg _ (by omega)
theorem own_row_ge {w : World} {base : Nat} {v : Value} {xs : List Nat} (h : Own w base v xs) : ∀ k, v.ownBlock = some k → base ≤ k := fun k hk => (World.ownsRow.lt h.2 k hk).1
theorem radd_step {w : World} {xs ys : List Nat} {k cy z : Nat} {u v' : Value} {wr w1 : World} {S : List Nat} {o : Obj} (h : RAdd w xs ys k cy S u wr) (hz : (lim xs k + lim ys k + cy) % 4294967296 = z) (ho : Own w1 w.heap.size v' (S ++ [z])) (hg : (wr.alloc o).grownBy w1 u.ownBlock) :
    RAdd w xs ys (k + 1) ((lim xs k + lim ys k + cy) / 4294967296) (S ++ [z]) v' w1 := by
  obtain ⟨hS, hv, hown, hbel⟩ := h
  refine ⟨by simp [hS], ?_, ho, ?_⟩
  · rw [val_snoc, hS, val_take_succ, val_take_succ]
    exact add_sum _ _ _ _ (lim xs k + lim ys k + cy) _ _ _ _ _ _ (by omega) rfl hz.symm hv (Nat.pow_succ ..)
  · exact (hbel.alloc hbel.size o).grown hg (by have := hbel.size; simp; omega) (own_row_ge hown)

set_option maxHeartbeats 1600000 in
theorem radd_any (A1 : Option Addr) (n1 c1 : Nat) (xs : List Nat) (A2 : Option Addr) (n2 c2 : Nat) (ys : List Nat) (w : World) (h1 : Sl w A1 n1 c1 xs) (h2 : Sl w A2 n2 c2 ys) (b1 : n1 ≤ 100000000) (b2 : n2 ≤ 100000000) :
    Calls Tryz.prog 101 #[.slice A1 n1 c1, .slice A2 n2 c2] w (Gives w (val xs + val ys)) := by
  have L1 := Lib.hid h1.len
  have L2 := Lib.hid h2.len
  obtain ⟨i0, hi, hz0, hz1, hz2⟩ := info_parts info32
  go_enter Tryz.func101, Tryz.ntmps101
  go_wp2_with fail
  go_loopw [5, 6, 7] (fun v c i wr => ∃ k cy : Nat, k ≤ n1 + n2 + 1 ∧ i = .int .i64 k ∧ c = .int .u64 cy ∧ cy ≤ 1 ∧ (k ≤ n1 ∨ k ≤ n2 ∨ cy = 0) ∧ ∃ S, RAdd w xs ys k cy S v wr) (fun _ _ i _ => n1 + n2 + 2 - (intOf i).toNat)
  case atStart => exact ⟨0, 0, by omega, rfl, rfl, by omega, by omega, [], rfl, by simp [val], Own.nil _ _, Below.refl _ _⟩
  case round =>
    obtain ⟨k, cy, hk, rfl, rfl, hcy, hor, S, hinv⟩ := hrel
    have HOR := Lib.hid hor
    clear hor
    by_cases hk1 : k < n1
    · skip
      obtain ⟨hS, hv, hown, hbel⟩ := id hinv
      have s1 := h1.below hbel
      have s2 := h2.below hbel
      have x1 := h1.ok.getD k
      have x2 := h2.ok.getD k
      have hsz := hbel.size
      have HS := Lib.hid hS
      clear hv hS
      have hlit := (Blk.lit1 wr ((lim xs k + lim ys k + cy) % 4294967296)).slAll (Ok.cons (Nat.mod_lt _ (by decide)) Ok.nil) (by unfold maxLen; simp)
      have hown' : Own (wr.alloc (.cells #[Value.int .u32 (((lim xs k + lim ys k + cy) % 4294967296 : Nat) : Int)] 78)) w.heap.size u5 S := ⟨hown.1, hown.2.alloc _⟩
      have hlen : S.length + 1 ≤ 35184372087808 := by rw [HS.out]; omega
      generalize hz : (lim xs k + lim ys k + cy) % 4294967296 = z at hlit hown'
      have HZ := Lib.hid hz
      have hzi : ((lim xs k : Int) + (lim ys k : Int) + (cy : Int)) % 4294967296 = (z : Int) := by rw [← hz]; omega
      clear hz
      go_wp2_with (first | (go_at_call 124; refine (rlimb_any _ _ _ _ _ _ (by assumption) (by omega)).mono ?_; rintro e w' ⟨rfl, rfl⟩) | (at_builtin; refine wpList_append_limbs rfl (.tmp 34) (.tmp 37) rfl i0 Tryz.underlying25 hi hz0 hz1 hz2 w.heap.size _ S rfl hown' _ _ _ _ rfl hlit hlen (by simp; omega) ?_; intro v' w1 hown1 hg1))
      clear hzi
      go_roundw
      case rel => exact ⟨k + 1, _, by have := HOR.out; omega, by go_num, radd_num_c _ _ _, by omega, by first | (have := HOR.out; omega) | (have := hxz.out; omega), _, radd_step hinv HZ.out hown1 hg1⟩
      case measure => simp [intOf]; omega
    · by_cases hk2 : k < n2
      · have hd1 : ¬ (k : Int) < (n1 : Int) := by omega
        obtain ⟨hS, hv, hown, hbel⟩ := id hinv
        have s1 := h1.below hbel
        have s2 := h2.below hbel
        have x1 := h1.ok.getD k
        have x2 := h2.ok.getD k
        have hsz := hbel.size
        have HS := Lib.hid hS
        clear hv hS
        have hlit := (Blk.lit1 wr ((lim xs k + lim ys k + cy) % 4294967296)).slAll (Ok.cons (Nat.mod_lt _ (by decide)) Ok.nil) (by unfold maxLen; simp)
        have hown' : Own (wr.alloc (.cells #[Value.int .u32 (((lim xs k + lim ys k + cy) % 4294967296 : Nat) : Int)] 78)) w.heap.size u5 S := ⟨hown.1, hown.2.alloc _⟩
        have hlen : S.length + 1 ≤ 35184372087808 := by rw [HS.out]; omega
        generalize hz : (lim xs k + lim ys k + cy) % 4294967296 = z at hlit hown'
        have HZ := Lib.hid hz
        have hzi : ((lim xs k : Int) + (lim ys k : Int) + (cy : Int)) % 4294967296 = (z : Int) := by rw [← hz]; omega
        clear hz
        go_wp2_with (first | (go_at_call 124; refine (rlimb_any _ _ _ _ _ _ (by assumption) (by omega)).mono ?_; rintro e w' ⟨rfl, rfl⟩) | (at_builtin; refine wpList_append_limbs rfl (.tmp 34) (.tmp 37) rfl i0 Tryz.underlying25 hi hz0 hz1 hz2 w.heap.size _ S rfl hown' _ _ _ _ rfl hlit hlen (by simp; omega) ?_; intro v' w1 hown1 hg1))
        clear hzi
        go_roundw
        case rel => exact ⟨k + 1, _, by have := HOR.out; omega, by go_num, radd_num_c _ _ _, by omega, by first | (have := HOR.out; omega) | (have := hxz.out; omega), _, radd_step hinv HZ.out hown1 hg1⟩
        case measure => simp [intOf]; omega
      · by_cases hc0 : 0 < cy
        · have hd1 : ¬ (k : Int) < (n1 : Int) := by omega
          have hd2 : ¬ (k : Int) < (n2 : Int) := by omega
          have hxz := Lib.hid (And.intro (lim_ge xs k (by have := L1.out; omega)) (lim_ge ys k (by have := L2.out; omega)))
          obtain ⟨hS, hv, hown, hbel⟩ := id hinv
          have s1 := h1.below hbel
          have s2 := h2.below hbel
          have x1 := h1.ok.getD k
          have x2 := h2.ok.getD k
          have hsz := hbel.size
          have HS := Lib.hid hS
          clear hv hS
          have hlit := (Blk.lit1 wr ((lim xs k + lim ys k + cy) % 4294967296)).slAll (Ok.cons (Nat.mod_lt _ (by decide)) Ok.nil) (by unfold maxLen; simp)
          have hown' : Own (wr.alloc (.cells #[Value.int .u32 (((lim xs k + lim ys k + cy) % 4294967296 : Nat) : Int)] 78)) w.heap.size u5 S := ⟨hown.1, hown.2.alloc _⟩
          have hlen : S.length + 1 ≤ 35184372087808 := by rw [HS.out]; omega
          generalize hz : (lim xs k + lim ys k + cy) % 4294967296 = z at hlit hown'
          have HZ := Lib.hid hz
          have hzi : ((lim xs k : Int) + (lim ys k : Int) + (cy : Int)) % 4294967296 = (z : Int) := by rw [← hz]; omega
          clear hz
          go_wp2_with (first | (go_at_call 124; refine (rlimb_any _ _ _ _ _ _ (by assumption) (by omega)).mono ?_; rintro e w' ⟨rfl, rfl⟩) | (at_builtin; refine wpList_append_limbs rfl (.tmp 34) (.tmp 37) rfl i0 Tryz.underlying25 hi hz0 hz1 hz2 w.heap.size _ S rfl hown' _ _ _ _ rfl hlit hlen (by simp; omega) ?_; intro v' w1 hown1 hg1))
          clear hzi
          go_roundw
          case rel => exact ⟨k + 1, _, by have := HOR.out; omega, by go_num, radd_num_c _ _ _, by omega, by first | (have := HOR.out; omega) | (have := hxz.out; omega), _, radd_step hinv HZ.out hown1 hg1⟩
          case measure => simp [intOf]; omega
        · obtain ⟨hS, hv, hown, hbel⟩ := hinv
          have hcz : cy = 0 := by omega
          subst hcz
          rw [Nat.mul_zero, Nat.add_zero, List.take_of_length_le (by have := L1.out; omega), List.take_of_length_le (by have := L2.out; omega)] at hv
          have hn := hown.new.num'
          have HH := Lib.hid (And.intro hS hv)
          have hle : S.length ≤ 1000000000 := by omega
          clear hS hv
          go_wp2_with (go_at_call 76; refine (rnorm_num hn (by omega)).mono ?_; rintro e w1 ⟨v', rfl, hnew, hb1⟩)
          go_ret
          rw [HH.out.2] at hnew
          exact ⟨v', rfl, hnew.from_ hbel.size, bnext hbel hb1⟩
theorem radd_num {w : World} {u v : Value} {a b K L : Nat} (hu : Num w u a K) (hv : Num w v b L) (hK : K ≤ 100000000) (hL : L ≤ 100000000) : Calls Tryz.prog 101 #[u, v] w (Gives w (a + b)) := by
  obtain ⟨A1, n1, c1, xs, rfl, s1, rfl, k1⟩ := hu
  obtain ⟨A2, n2, c2, ys, rfl, s2, rfl, k2⟩ := hv
  exact radd_any _ _ _ _ _ _ _ _ _ s1 s2 (by omega) (by omega)
end
end Go.Proofs.YtocnlapbkidinaaGreatDoor
namespace Go.Proofs.YtocnlapbkidinaaGreatDoor
section
open Go.RowKit

theorem limbs_len_gt {n k : Nat} (h : k < (limbs n).length) : 4294967296 ^ k ≤ n := by
  rcases Nat.lt_or_ge n (4294967296 ^ k) with h1 | h1
  · have := limbs_len_le h1; omega
  · exact h1
theorem lt_of_len {a b : Nat} (h : (limbs a).length < (limbs b).length) : a < b := by
  have h1 := limbs_len_gt h
  have h2 := val_lt (limbs_ok a)
  rw [limbs_val] at h2
  omega

/-- What Cmp gives: a sign, and nothing that was there has changed. -/
def Signs (w : World) (s : Int) (e : Ending) (w' : World) : Prop := e = .returned (.int .i64 s) ∧ Below w.heap.size w w'

set_option maxHeartbeats 1600000 in
theorem rcmp_num {w : World} {u v : Value} {a b K L : Nat} (hu : Num w u a K) (hv : Num w v b L) (hK : K ≤ 1000000000) (hL : L ≤ 1000000000) : Calls Tryz.prog 102 #[u, v] w (Signs w (cmpN a b)) := by
  have la := limbs_len_le hu.lt
  have lb := limbs_len_le hv.lt
  go_enter Tryz.func102, Tryz.ntmps102
  go_wp2_with fail
  refine (rnorm_num hu (by omega)).mono ?_
  rintro e w1 ⟨x, rfl, hx, hb1⟩
  have hv1 := hv.below hb1
  go_wp2_with fail
  refine (rnorm_num hv1 (by omega)).mono ?_
  rintro e w2 ⟨y, rfl, hy, hb2⟩
  replace hx := hx.next hb2
  have hbel := bnext hb1 hb2
  obtain ⟨A1, c1, rfl, s1⟩ := hx.sl
  obtain ⟨A2, c2, rfl, s2⟩ := hy.sl
  clear hx hy hu hv hv1 hb1 hb2
  obtain ⟨X, HX⟩ : ∃ X, Hid (X = limbs a) := ⟨_, rfl⟩
  obtain ⟨Y, HY⟩ : ∃ Y, Hid (Y = limbs b) := ⟨_, rfl⟩
  rw [← HX.out] at s1 la ⊢
  rw [← HY.out] at s2 lb ⊢
  obtain ⟨n, HN⟩ : ∃ n, Hid (n = X.length) := ⟨_, rfl⟩
  obtain ⟨m, HM⟩ : ∃ n, Hid (n = Y.length) := ⟨_, rfl⟩
  rw [← HN.out] at s1 la ⊢
  rw [← HM.out] at s2 lb ⊢
  rcases Nat.lt_trichotomy n m with hlt | heq | hgt
  · have hd := Lib.hid (cmpN_lt (lt_of_len (a := a) (b := b) (by rw [← HX.out, ← HY.out, ← HN.out, ← HM.out]; exact hlt)))
    have hne : ((n : Int) != (m : Int)) = true := by rw [bne_iff_ne]; omega
    go_wp2_with fail
    go_ret
    exact ⟨by rw [hd.out]; rfl, hbel⟩
  · subst heq
    have hne : ((n : Int) != (n : Int)) = false := by simp
    have hva : val X = a := by rw [HX.out, limbs_val]
    have hvb : val Y = b := by rw [HY.out, limbs_val]
    have HV := Lib.hid (And.intro hva hvb)
    clear hva hvb
    go_wp2_with fail
    go_loopw [7] (fun i wr => ∃ k : Nat, k ≤ n ∧ i = .int .i64 ((k : Int) - 1) ∧ Hid (cmpN (val (X.take k)) (val (Y.take k)) = cmpN a b) ∧ Below w.heap.size w wr ∧ Sl wr A1 n c1 X ∧ Sl wr A2 n c2 Y) (fun i _ => (intOf i + 1).toNat)
    case atStart => exact ⟨n, Nat.le_refl _, rfl, by rw [List.take_of_length_le (by have := HN.out; omega), List.take_of_length_le (by have := HM.out; omega), HV.out.1, HV.out.2]; exact rfl, hbel, s1, s2⟩
    case round =>
      obtain ⟨k, hk, rfl, hr, hbel, s1, s2⟩ := hrel
      rcases k with _ | k
      · go_wp2_with fail
        go_ret
        exact ⟨by rw [← hr.out]; rfl, hbel⟩
      · rw [show (((k + 1 : Nat) : Int) - 1) = (k : Int) by omega]
        obtain ⟨p1, o1, rfl, _, q1⟩ := s1.here (by omega)
        obtain ⟨p2, o2, rfl, _, q2⟩ := s2.here (by omega)
        have g1 := q1 k (by omega)
        have g2 := q2 k (by omega)
        have i1 : (k : Int) < (n : Int) := by omega
        clear q1 q2
        rcases Nat.lt_trichotomy (lim X k) (lim Y k) with hx | hx | hx
        · have hd := Lib.hid (cmp_down_lt s1.ok hx)
          have hn : (((lim X k : Nat) : Int) != ((lim Y k : Nat) : Int)) = true := by rw [bne_iff_ne]; omega
          go_wp2_with fail
          go_region
          all_goals
            go_wp2_with fail
            go_region
          all_goals
            go_wp2_with fail
            go_ret
            exact ⟨by rw [← hr.out, hd.out]; rfl, hbel.drew.drew⟩
        · have hd := Lib.hid (cmp_down_eq hx)
          have hn : (((lim X k : Nat) : Int) != ((lim Y k : Nat) : Int)) = false := by rw [hx]; simp
          clear hx
          go_wp2_with fail
          go_region
          all_goals
            go_wp2_with fail
            go_roundw
            case rel => exact ⟨k, by omega, by go_num, by rw [← hr.out, hd.out]; exact rfl, hbel.drew, s1.drew, s2.drew⟩
            case measure => simp [intOf]
        · have hd := Lib.hid (cmp_down_gt s2.ok hx)
          have hn : (((lim X k : Nat) : Int) != ((lim Y k : Nat) : Int)) = true := by rw [bne_iff_ne]; omega
          have hx1 : ¬ ((lim X k : Nat) : Int) < ((lim Y k : Nat) : Int) := by omega
          go_wp2_with fail
          go_region
          all_goals
            go_wp2_with fail
            go_region
          all_goals
            go_wp2_with fail
            go_ret
            exact ⟨by rw [← hr.out, hd.out]; rfl, hbel.drew.drew⟩
  · have hd := Lib.hid (cmpN_gt (lt_of_len (a := b) (b := a) (by rw [← HX.out, ← HY.out, ← HN.out, ← HM.out]; exact hgt)))
    have hne : ((n : Int) != (m : Int)) = true := by rw [bne_iff_ne]; omega
    have hnl : ¬ (n : Int) < (m : Int) := by omega
    go_wp2_with fail
    go_ret
    exact ⟨by rw [hd.out]; rfl, hbel⟩
end
end Go.Proofs.YtocnlapbkidinaaGreatDoor
namespace Go.Proofs.YtocnlapbkidinaaGreatDoor
section
open Go.RowKit

set_option maxHeartbeats 1600000 in
theorem rbits_num {w : World} {u : Value} {a K : Nat} (hu : Num w u a K) (hK : K ≤ 100000000) : Calls Tryz.prog 125 #[u] w (Signs w (bl a : Int)) := by
  have la := limbs_len_le hu.lt
  go_enter Tryz.func125, Tryz.ntmps125
  go_wp2_with fail
  refine (rnorm_num hu (by omega)).mono ?_
  rintro e w1 ⟨x, rfl, hx, hb1⟩
  obtain ⟨A1, c1, rfl, s1⟩ := hx.sl
  clear hx hu
  rcases hm : (limbs a).length with _ | m
  · have e0 : a = 0 := (limbs_nil_iff _).1 (List.eq_nil_of_length_eq_zero hm)
    have H0 := Lib.hid e0
    clear e0 s1 la hm
    go_wp2_with fail
    go_ret
    exact ⟨by rw [H0.out]; rfl, hb1⟩
  · have HB := Lib.hid (bl_limbs a m hm)
    rw [hm] at s1 la
    obtain ⟨b, off, rfl, _, hc⟩ := s1.here (by omega)
    have hck := hc m (by omega)
    have hx := (limbs_ok a).getD m
    generalize lim (limbs a) m = t at hck hx HB
    have hne : (((m : Int) + 1) == 0) = false := beq_eq_false_iff_ne.2 (by omega)
    have hblt : bl t ≤ 32 := by
      have := bl_bd (a := t) (K := 1) (by omega)
      omega
    clear hc s1 hm
    go_wp2_with fail
    go_loopg [4, 5] t (fun q n i wr => ∃ (d : Nat), i = .int .u32 (q : Int) ∧ n = .int .i64 (d : Int) ∧ d ≤ 10000000000 ∧ q < 4294967296 ∧ Hid (d + bl q = bl a) ∧ wr = w1)
    case atStart => exact ⟨m * 32, rfl, (by first | go_num | exact congrArg (Value.int .i64) (by omega)), by omega, hx, by rw [HB.out]; exact rfl, rfl⟩
    case round =>
      obtain ⟨d, rfl, rfl, hd, hq, HE, rfl⟩ := hrel
      by_cases h0 : gk = 0
      · subst h0
        go_wp2_with fail
        go_ret
        refine ⟨?_, hb1⟩
        have := HE.out
        rw [bl_zero, Nat.add_zero] at this
        rw [← this]; rfl
      · have hp : 0 < gk := by omega
        have hh := bl_half gk h0
        have hpos := bl_pos gk h0
        have HH := Lib.hid hh
        have hd2 : d + 1 ≤ 10000000000 := by
          have h1 := HE.out
          have h2 := HB.out
          omega
        clear hh h0
        go_wp2_with fail
        go_roundg (gk / 2)
        case measure => omega
        case rel => exact ⟨d + 1, by go_num, by go_num, hd2, by omega, by have h1 := HE.out; have h2 := HH.out; show d + 1 + bl (gk / 2) = bl a; omega, rfl⟩

/-- A bit of a number. -/
def bitN (v i : Nat) : Nat := v / 2 ^ i % 2
theorem bitN_lim {xs : List Nat} (ok : Ok xs) (i : Nat) : bitN (val xs) i = lim xs (i / 32) / 2 ^ (i % 32) % 2 := by
  unfold bitN
  rw [two_pow_split i, ← Nat.div_div_eq_div_mul, val_div_pow ok]
  have e := drop_two xs (i / 32)
  obtain ⟨d, hd⟩ : ∃ d, 2 ^ (i % 32) * (2 * d) = 4294967296 := ⟨2 ^ (31 - i % 32), by rw [← Nat.mul_assoc, ← Nat.pow_succ, ← Nat.pow_add, show i % 32 + 1 + (31 - i % 32) = 32 by omega]⟩
  rw [e, ← hd, Nat.mul_assoc, Nat.add_mul_div_left _ _ (Nat.pow_pos (by decide)), Nat.mul_assoc, Nat.add_mul_mod_self_left]
theorem bitN_ge {v i k : Nat} (h : v < 2 ^ k) (hi : k ≤ i) : bitN v i = 0 := by
  unfold bitN
  rw [Nat.div_eq_of_lt (Nat.lt_of_lt_of_le h (Nat.pow_le_pow_right (by decide) hi))]
theorem and_one (X : Nat) (h : X < 4294967296) : bits .and .u32 (X : Int) 1 = ((X % 2 : Nat) : Int) := by
  have := u32_and_nat X 1 h (by decide)
  rw [nat_mask1] at this
  exact this

set_option maxHeartbeats 1600000 in
theorem rbit_any (A : Option Addr) (n c : Nat) (xs : List Nat) (i : Nat) (w : World) (h : Sl w A n c xs) (hn : n ≤ 100000000) (hi : i ≤ 100000000000) :
    Calls Tryz.prog 127 #[.slice A n c, .int .i64 (i : Int)] w fun e w' => e = .returned (.bool (bitN (val xs) i == 1)) ∧ w = w' := by
  have HB := Lib.hid (bitN_lim h.ok i)
  obtain ⟨q, Hq⟩ : ∃ q, q = i / 32 := ⟨_, rfl⟩
  obtain ⟨r, Hr⟩ : ∃ r, r = i % 32 := ⟨_, rfl⟩
  rw [← Hq, ← Hr] at HB
  have hq : (i : Int) / 32 = (q : Int) := by omega
  have hr : (i : Int) % 32 = (r : Int) := by omega
  have hr32 : r < 32 := by omega
  clear Hq Hr
  by_cases hqn : q < n
  · obtain ⟨b, off, rfl, _, hc⟩ := h.here (by omega)
    have hck := hc q hqn
    have hx := h.ok.getD q
    obtain ⟨T, HT⟩ : ∃ T, Hid (T = lim xs q / 2 ^ r) := ⟨_, rfl⟩
    have hTi : (lim xs q : Int) / 2 ^ r = (T : Int) := by rw [HT.out, Int.natCast_ediv, Int.natCast_pow]; rfl
    have hTb : T < 4294967296 := by rw [HT.out]; exact Nat.lt_of_le_of_lt (Nat.div_le_self _ _) hx
    have hand := and_one T hTb
    have HB2 : Hid (bitN (val xs) i = T % 2) := by rw [HB.out, HT.out]; exact rfl
    have i1 : (q : Int) < (n : Int) := by omega
    clear hc
    go_enter Tryz.func127, Tryz.ntmps127
    go_wp2_with fail
    go_ret
    refine ⟨congrArg (fun b => Ending.returned (Value.bool b)) ?_, rfl⟩
    rw [HB2.out]
    have : (T : Int) % 2 = ((T % 2 : Nat) : Int) := by omega
    rw [this, Bool.eq_iff_iff, beq_iff_eq, beq_iff_eq]
    omega
  · have hz : bitN (val xs) i = 0 := by rw [HB.out, lim_ge xs q (by have := h.len; omega), Nat.zero_div]
    have HZ := Lib.hid hz
    have i1 : ¬ (q : Int) < (n : Int) := by omega
    clear hz
    go_enter Tryz.func127, Tryz.ntmps127
    go_wp2_with fail
    go_ret
    exact ⟨by rw [HZ.out]; rfl, rfl⟩
theorem rbit_num {w : World} {u : Value} {a K : Nat} (hu : Num w u a K) (hK : K ≤ 100000000) (i : Nat) (hi : i ≤ 100000000000) :
    Calls Tryz.prog 127 #[u, .int .i64 (i : Int)] w fun e w' => e = .returned (.bool (bitN a i == 1)) ∧ w = w' := by
  obtain ⟨A1, n1, c1, xs, rfl, s1, rfl, k1⟩ := hu
  exact rbit_any _ _ _ _ _ _ s1 (by omega) hi
theorem bitN_shl (a s i : Nat) : bitN (a * 2 ^ s) i = if i < s then 0 else bitN a (i - s) := by
  unfold bitN
  by_cases h : i < s
  · rw [if_pos h, show s = i + (s - i - 1 + 1) by omega, Nat.pow_add, Nat.pow_succ, Nat.mul_comm (2 ^ i), ← Nat.mul_assoc, Nat.mul_div_cancel _ (Nat.pow_pos (by decide)), ← Nat.mul_assoc, Nat.mul_mod_left]
  · rw [if_neg h]
    have e : 2 ^ i = 2 ^ s * 2 ^ (i - s) := by rw [← Nat.pow_add, show s + (i - s) = i by omega]
    rw [e, ← Nat.div_div_eq_div_mul, Nat.mul_div_cancel _ (Nat.pow_pos (by decide))]
theorem bitN_shr (a s i : Nat) : bitN (a / 2 ^ s) i = bitN a (i + s) := by
  unfold bitN
  rw [Nat.div_div_eq_div_mul, ← Nat.pow_add, Nat.add_comm]
theorem bitN_mod (R i : Nat) : R % 2 ^ (i + 1) = R % 2 ^ i + 2 ^ i * bitN R i := by
  unfold bitN
  rw [Nat.pow_succ, Nat.mod_mul]
theorem or_bit_up (L r : Nat) (h : L < 2 ^ r) (hr : r < 32) : bits .or .u32 (L : Int) ((2 ^ r : Nat) : Int) = ((L + 2 ^ r : Nat) : Int) := by
  have h1 : 2 ^ r ≤ 2 ^ 31 := Nat.pow_le_pow_right (by decide) (by omega)
  rw [u32_or_nat _ _ (by omega) (by omega), Nat.or_comm, nat_join r _ _ (Nat.mod_self _) h, Nat.add_comm]
theorem or_bit_down (L r : Nat) (h : L % 2 ^ (r + 1) = 0) (hL : L < 4294967296) (hr : r < 32) : bits .or .u32 (L : Int) ((2 ^ r : Nat) : Int) = ((L + 2 ^ r : Nat) : Int) := by
  have h1 : 2 ^ r ≤ 2 ^ 31 := Nat.pow_le_pow_right (by decide) (by omega)
  rw [u32_or_nat _ _ (by omega) (by omega), nat_join (r + 1) _ _ h (by rw [Nat.pow_succ]; have := Nat.pow_pos (n := r) (show 0 < 2 by decide); omega)]

/-- What holds while bits are set one by one, from below. -/
def BitInv (w : World) (R N i : Nat) (M : List Nat) (wr : World) : Prop := M.length = N ∧ Ok M ∧ val M = R % 2 ^ i ∧ Blk wr w.heap.size M ∧ Below w.heap.size w wr
theorem BitInv.lim_lt {w : World} {R N i : Nat} {M : List Nat} {wr : World} (h : BitInv w R N i M wr) : lim M (i / 32) < 2 ^ (i % 32) := by
  have h1 : val M < 2 ^ i := by rw [h.2.2.1]; exact Nat.mod_lt _ (Nat.pow_pos (by decide))
  rw [two_pow_split i] at h1
  have h2 : val M / 4294967296 ^ (i / 32) < 2 ^ (i % 32) := Nat.div_lt_of_lt_mul h1
  rw [val_div_pow h.2.1, drop_two] at h2
  omega
theorem BitInv.zero {w : World} {R N i : Nat} {M : List Nat} {wr : World} (h : BitInv w R N i M wr) (hb : bitN R i = 0) : BitInv w R N (i + 1) M wr :=
  ⟨h.1, h.2.1, by rw [h.2.2.1, bitN_mod, hb, Nat.mul_zero, Nat.add_zero], h.2.2.2⟩
theorem BitInv.one {w : World} {R N i : Nat} {M : List Nat} {wr : World} (h : BitInv w R N i M wr) (hb : bitN R i = 1) (hN : i / 32 < N) {z : Int} (hz : z = ((lim M (i / 32) + 2 ^ (i % 32) : Nat) : Int)) :
    BitInv w R N (i + 1) (M.set (i / 32) (lim M (i / 32) + 2 ^ (i % 32))) (wr.setCell ⟨w.heap.size, i / 32, none⟩ (.int .u32 z)) := by
  subst hz
  have hl := h.lim_lt
  have h1 : 2 ^ (i % 32) ≤ 2 ^ 31 := Nat.pow_le_pow_right (by decide) (by omega)
  refine ⟨by rw [List.length_set]; exact h.1, h.2.1.set _ _ (by omega), ?_, h.2.2.2.1.set_ _ _, h.2.2.2.2.setCell (Nat.le_refl _) _⟩
  have hs := val_set M (i / 32) (lim M (i / 32) + 2 ^ (i % 32)) (by rw [h.1]; exact hN)
  rw [Nat.mul_add, ← two_pow_split] at hs
  rw [bitN_mod, hb, Nat.mul_one, ← h.2.2.1]
  omega

set_option maxHeartbeats 3200000 in
theorem rshift_core {w : World} {u : Value} {a K : Nat} (hu : Num w u a K) (hK : K ≤ 1000000) (n : Int) (k R : Nat) (hn1 : -4096 ≤ n) (hn2 : n ≤ 4096) (hk : (bl a : Int) + n = (k : Int)) (hk0 : 0 < k) (ha : 0 < bl a) (hR : R < 2 ^ k)
    (HB : Hid (∀ i : Nat, bitN R i = if (i : Int) - n < 0 then 0 else bitN a ((i : Int) - n).toNat)) : Calls Tryz.prog 126 #[u, .int .i64 n] w (Gives w R) := by
  have hbl := bl_bd hu.lt
  have HBN := Lib.hid (fun W (hW : Num W u a K) => rbits_num hW (by omega))
  generalize bl a = m at *
  obtain ⟨q, Hq⟩ : ∃ q, q = k / 32 := ⟨_, rfl⟩
  have hq : (k : Int) / 32 = (q : Int) := by omega
  have hkb : k ≤ 40000000 := by omega
  have hqb : q ≤ 40000000 := by omega
  have HQ := Lib.hid Hq
  have HR := Lib.hid hR
  have hmk := fun W => make32 ((q : Int) + 1) (q + 1) (by omega) (by omega) W
  have hm0 : ((m : Int) == 0) = false := beq_eq_false_iff_ne.2 (by omega)
  clear Hq hR
  go_enter Tryz.func126, Tryz.ntmps126
  go_wp2_with fail
  refine (HBN.out w hu).mono ?_
  rintro e w1 ⟨rfl, hb1⟩
  have hu1 := hu.below hb1
  go_wp2_with fail
  refine (HBN.out w1 hu1).mono ?_
  rintro e w2 ⟨rfl, hb2⟩
  have hu2 := hu1.below hb2
  have hb12 := bnext hb1 hb2
  clear hb1 hb2 hu1
  go_wp2_with fail
  clear hmk
  go_loopw [7] (fun i wr => ∃ j : Nat, j ≤ k ∧ i = .int .i64 j ∧ ∃ M, BitInv w2 R (q + 1) j M wr) (fun i _ => k - (intOf i).toNat)
  case atStart =>
    refine ⟨0, by omega, rfl, List.replicate (q + 1) 0, by simp, Ok.replicate _, by simp [val_replicate, Nat.mod_one], Blk.made w2 (q + 1), (Below.refl _ _).alloc (Nat.le_refl _) _⟩
  case round =>
    obtain ⟨j, hj, rfl, M, hinv⟩ := hrel
    by_cases hjk : j < k
    · have hbit := HB.out j
      have hu3 := hu2.below hinv.2.2.2.2
      by_cases hneg : (j : Int) - n < 0
      · rw [if_pos hneg] at hbit
        have HI := Lib.hid (hinv.zero hbit)
        clear hbit hinv
        go_wp2_with fail
        go_roundw
        case rel => exact ⟨j + 1, by omega, by go_num, _, HI.out⟩
        case measure => simp [intOf]; omega
      · obtain ⟨t, ht⟩ : ∃ t : Nat, (j : Int) - n = (t : Int) := ⟨((j : Int) - n).toNat, by omega⟩
        rw [if_neg hneg, ht, Int.toNat_natCast] at hbit
        have htb : t ≤ 100000000 := by omega
        by_cases hone : bitN a t = 1
        · rw [hone] at hbit
          have hlt := hinv.lim_lt
          have hone' : (bitN a t == 1) = true := beq_iff_eq.2 hone
          have hor := or_bit_up _ _ hlt (Nat.mod_lt j (by decide))
          have HI := Lib.hid (hinv.one hbit (by have := HQ.out; omega) rfl)
          have hf := hinv.2.2.2.1.frozen (j / 32)
          have hcl := hinv.2.2.2.1.cell (j / 32) (by rw [hinv.1]; have := HQ.out; omega)
          have h31 : 2 ^ (j % 32) ≤ 2 ^ 31 := Nat.pow_le_pow_right (by decide) (by omega)
          have hL : lim M (j / 32) + 2 ^ (j % 32) < 4294967296 := by omega
          have hjx : j / 32 < q + 1 := by have := HQ.out; omega
          have e1 : (j : Int) / 32 = ((j / 32 : Nat) : Int) := by omega
          have e2 : (j : Int) % 32 = ((j % 32 : Nat) : Int) := by omega
          have hr : j % 32 < 32 := by omega
          generalize j / 32 = x at *
          generalize j % 32 = r at *
          have hxi : (x : Int) < (q : Int) + 1 := by omega
          have e3 : IntKind.u32.wrap (2 ^ r) = ((2 ^ r : Nat) : Int) := by
            rw [show (2 ^ r : Int) = ((2 ^ r : Nat) : Int) by rw [Int.natCast_pow]; rfl, IntKind.wrap_u32]; omega
          generalize hP : (2 : Nat) ^ r = P at *
          clear hbit hinv hlt hone h31 hP
          go_wp2_with fail
          refine (rbit_num hu3 (by omega) t (by omega)).mono ?_
          rintro e w' ⟨rfl, rfl⟩
          simp only [hone']
          go_wp2_with fail
          go_roundw
          case rel => exact ⟨j + 1, by omega, by go_num, _, HI.out⟩
          case measure => simp [intOf]; omega
        · have h0 : bitN a t = 0 := by have := Nat.mod_lt (a / 2 ^ t) (show 0 < 2 by decide); unfold bitN at hone ⊢; omega
          rw [h0] at hbit
          have hone' : (bitN a t == 1) = false := beq_eq_false_iff_ne.2 hone
          have HI := Lib.hid (hinv.zero hbit)
          clear hbit hinv hone h0
          go_wp2_with fail
          refine (rbit_num hu3 (by omega) t (by omega)).mono ?_
          rintro e w' ⟨rfl, rfl⟩
          simp only [hone']
          go_wp2_with fail
          go_roundw
          case rel => exact ⟨j + 1, by omega, by go_num, _, HI.out⟩
          case measure => simp [intOf]; omega
    · obtain rfl : j = k := by omega
      obtain ⟨hl, ok, hv, hB, hbel⟩ := hinv
      have hsl := hB.slAll ok (by rw [hl]; unfold maxLen; omega)
      rw [hl] at hsl
      rw [Nat.mod_eq_of_lt HR.out] at hv
      have hn := Num.of_sl hsl (Nat.le_refl _)
      rw [hv] at hn
      clear hl hv
      go_wp2_with fail
      refine (rnorm_num hn (by omega)).mono ?_
      rintro e w3 ⟨v', rfl, hnew, hb3⟩
      go_wp2_with fail
      go_ret
      exact ⟨v', rfl, hnew.from_ (Nat.le_trans hb12.size hbel.size), bnext (bnext hb12 hbel) hb3⟩
set_option maxHeartbeats 1600000 in
theorem rshift_none {w : World} {u : Value} {a K : Nat} (hu : Num w u a K) (hK : K ≤ 1000000) (n : Int) (hn1 : -4096 ≤ n) (hn2 : n ≤ 4096) (h : (bl a : Int) + n ≤ 0 ∨ bl a = 0) : Calls Tryz.prog 126 #[u, .int .i64 n] w (Gives w 0) := by
  have hbl := bl_bd hu.lt
  have HBN := Lib.hid (fun W (hW : Num W u a K) => rbits_num hW (by omega))
  generalize bl a = m at *
  by_cases h1 : (m : Int) + n ≤ 0
  · clear h
    go_enter Tryz.func126, Tryz.ntmps126
    go_wp2_with fail
    refine (HBN.out w hu).mono ?_
    rintro e w1 ⟨rfl, hb1⟩
    go_wp2_with fail
    go_ret
    exact ⟨_, rfl, (own_lit0 w1 w.heap.size hb1.size).new, bnew hb1 _⟩
  · obtain rfl : m = 0 := by omega
    clear h
    go_enter Tryz.func126, Tryz.ntmps126
    go_wp2_with fail
    refine (HBN.out w hu).mono ?_
    rintro e w1 ⟨rfl, hb1⟩
    go_wp2_with fail
    refine (HBN.out w1 (hu.below hb1)).mono ?_
    rintro e w2 ⟨rfl, hb2⟩
    have hb12 := bnext hb1 hb2
    go_wp2_with fail
    go_ret
    exact ⟨_, rfl, (own_lit0 w2 w.heap.size hb12.size).new, bnew hb12 _⟩
set_option maxHeartbeats 1600000 in
theorem rshift_low {w : World} {u : Value} {a K : Nat} (hu : Num w u a K) (hK : K ≤ 100) (n : Int) (hn0 : -9223372036854775808 ≤ n) (hn1 : n < -4096) : Calls Tryz.prog 126 #[u, .int .i64 n] w (Gives w 0) := by
  have hbl := bl_bd hu.lt
  have HBN := Lib.hid (fun W (hW : Num W u a K) => rbits_num hW (by omega))
  generalize bl a = m at *
  have h2 : (m : Int) - 4096 ≤ 0 := by omega
  have h3 : (m : Int) + -4096 ≤ 0 := by omega
  have h4 : ¬ 4096 < n := by omega
  go_enter Tryz.func126, Tryz.ntmps126
  go_wp2_with fail
  refine (HBN.out w hu).mono ?_
  rintro e w1 ⟨rfl, hb1⟩
  go_wp2_with fail
  go_ret
  exact ⟨_, rfl, (own_lit0 w1 w.heap.size hb1.size).new, bnew hb1 _⟩
theorem rshl_num {w : World} {u : Value} {a K s : Nat} (hu : Num w u a K) (hK : K ≤ 1000000) (hs : s ≤ 4096) : Calls Tryz.prog 126 #[u, .int .i64 (s : Int)] w (Gives w (a * 2 ^ s)) := by
  rcases Nat.eq_zero_or_pos a with h0 | h0
  · subst h0
    rw [Nat.zero_mul]
    exact rshift_none hu hK s (by omega) (by omega) (.inr rfl)
  · have hp := bl_pos a (by omega)
    refine rshift_core hu hK s (bl a + s) (a * 2 ^ s) (by omega) (by omega) (by omega) (by omega) hp ?_ ?_
    · rw [Nat.pow_add]; exact Nat.mul_lt_mul_of_pos_right (bl_lt a) (Nat.pow_pos (by decide))
    · intro i
      rw [bitN_shl]
      by_cases h : i < s
      · rw [if_pos h, if_pos (by omega)]
      · rw [if_neg h, if_neg (by omega), show ((i : Int) - (s : Int)).toNat = i - s by omega]
theorem rshr_num {w : World} {u : Value} {a K s : Nat} (hu : Num w u a K) (hK : K ≤ 1000000) (hs : s ≤ 4096) : Calls Tryz.prog 126 #[u, .int .i64 (-(s : Int))] w (Gives w (a / 2 ^ s)) := by
  have hl := bl_lt a
  by_cases h0 : bl a ≤ s
  · rw [Nat.div_eq_of_lt (Nat.lt_of_lt_of_le hl (Nat.pow_le_pow_right (by decide) h0))]
    exact rshift_none hu hK _ (by omega) (by omega) (.inl (by omega))
  · refine rshift_core hu hK _ (bl a - s) (a / 2 ^ s) (by omega) (by omega) (by omega) (by omega) (by omega) ?_ ?_
    · refine Nat.div_lt_of_lt_mul ?_
      rw [← Nat.pow_add, show s + (bl a - s) = bl a by omega]
      exact hl
    · intro i
      rw [bitN_shr, if_neg (by omega), show ((i : Int) - -(s : Int)).toNat = i + s by omega]
end
end Go.Proofs.YtocnlapbkidinaaGreatDoor
namespace Go.Proofs.YtocnlapbkidinaaGreatDoor
section
open Go.RowKit

/-- What Small tells: the number, if it has at most 63 bits. -/
def smN (a : Nat) : Int := if 63 < bl a then 0 else (a : Int)
def smB (a : Nat) : Bool := if 63 < bl a then false else true
theorem small63 {xs : List Nat} (h : ¬ 63 < bl (val xs)) : val xs = lim xs 1 * 4294967296 + lim xs 0 ∧ lim xs 1 < 2147483648 := by
  have h1 := bl_lt (val xs)
  have h2 : 2 ^ bl (val xs) ≤ 2 ^ 63 := Nat.pow_le_pow_right (by decide) (by omega)
  have h3 := drop_two xs 0
  rw [List.drop_zero, Nat.zero_add, Nat.zero_add] at h3
  omega

theorem low_zero {v n s : Nat} (h : v < 4294967296 ^ n) (hs : 32 * n ≤ s) : v / 2 ^ s = 0 := by
  refine Nat.div_eq_of_lt (Nat.lt_of_lt_of_le h ?_)
  rw [show (4294967296 : Nat) = 2 ^ 32 by decide, ← Nat.pow_mul]
  exact Nat.pow_le_pow_right (by decide) hs
set_option maxHeartbeats 800000 in
theorem shift_low_any (A : Option Addr) (n c : Nat) (xs : List Nat) (i : Int) (w : World) (h : Sl w A n c xs) (hn : n ≤ 100) (_hi0 : -9223372036854775808 ≤ i) (hi : i < -4096) :
    Calls Tryz.prog 138 #[.slice A n c, .int .i64 i] w (Gives w 0) := by
  have ht := h.trim
  have hl := limbs_len_val h.ok
  have hlen := h.len
  have hlow : val (limbs (val xs)) < 4294967296 ^ xs.length := by rw [limbs_val]; exact val_lt h.ok
  obtain ⟨m, HM⟩ : ∃ m, Hid (m = (limbs (val xs)).length) := ⟨_, rfl⟩
  rw [← HM.out] at ht hl
  have hm : m ≤ 1000000000 := by omega
  have m1 : max i (-4096) = -4096 := by omega
  have m2 : min i 4096 = i := by omega
  have hneg : i < 0 := by omega
  obtain ⟨s, hs⟩ : ∃ s : Nat, s = 4096 := ⟨_, rfl⟩
  have hsd := shiftDown_any A m c _ s w ht hm (by omega)
  rw [low_zero hlow (by omega), hs] at hsd
  have HSD := Lib.hid hsd
  clear hl hlen hsd hlow hs
  go_enter Tryz.func138, Tryz.ntmps138
  go_wp2_with (go_at_call 111; refine (trim_at _ _ _ _ _ h m HM).mono ?_; rintro e w' ⟨rfl, rfl⟩)
  refine HSD.out.mono ?_
  rintro e w1 ⟨v, rfl, hnew, hb⟩
  go_wp2_with fail
  go_ret
  exact ⟨v, rfl, hnew, hb⟩
theorem nlow_num {w : World} {u : Value} {a K : Nat} (hu : Num w u a K) (hK : K ≤ 100) (i : Int) (hi0 : -9223372036854775808 ≤ i) (hi : i < -4096) : Calls Tryz.prog 138 #[u, .int .i64 i] w (Gives w 0) := by
  obtain ⟨A1, n1, c1, xs, rfl, s1, rfl, k1⟩ := hu
  exact shift_low_any _ _ _ _ _ _ s1 (by omega) hi0 hi
end
end Go.Proofs.YtocnlapbkidinaaGreatDoor
