/-
  The document's own Cmp (pavaneref01): what it answers.
-/
import Derived.Test.YtjildimhflondaaDoorRefAdd
namespace Go.Proofs.YtjildimhflondaaDoor
open Go.RowKit

theorem limbs_len_gt {n k : Nat} (h : k < (limbs n).length) : 4294967296 ^ k ≤ n := by
  rcases Nat.lt_or_ge n (4294967296 ^ k) with h1 | h1
  · have := limbs_len_le h1; omega
  · exact h1
theorem lt_of_len {a b : Nat} (h : (limbs a).length < (limbs b).length) : a < b := by
  have h1 := limbs_len_gt h
  have h2 := val_lt (limbs_ok a)
  rw [limbs_val] at h2
  omega

/-- What Cmp gives: a sign, and nothing that was there has changed. -/
def Signs (w : World) (s : Int) (e : Ending) (w' : World) : Prop := e = .returned (.int .i64 s) ∧ Below w.heap.size w w'

set_option maxHeartbeats 1600000 in
theorem rcmp_num {w : World} {u v : Value} {a b K L : Nat} (hu : Num w u a K) (hv : Num w v b L) (hK : K ≤ 1000000000) (hL : L ≤ 1000000000) : Calls Tryd.prog 67 #[u, v] w (Signs w (cmpN a b)) := by
  have la := limbs_len_le hu.lt
  have lb := limbs_len_le hv.lt
  go_enter Tryd.func67, Tryd.ntmps67
  go_wp2_with fail
  refine (rnorm_num hu hK).mono ?_
  rintro e w1 ⟨x, rfl, hx, hb1⟩
  have hv1 := hv.below hb1
  go_wp2_with fail
  refine (rnorm_num hv1 hL).mono ?_
  rintro e w2 ⟨y, rfl, hy, hb2⟩
  replace hx := hx.next hb2
  have hbel := bnext hb1 hb2
  obtain ⟨A1, c1, rfl, s1⟩ := hx.sl
  obtain ⟨A2, c2, rfl, s2⟩ := hy.sl
  clear hx hy hu hv hv1 hb1 hb2
  obtain ⟨X, HX⟩ : ∃ X, Hid (X = limbs a) := ⟨_, rfl⟩
  obtain ⟨Y, HY⟩ : ∃ Y, Hid (Y = limbs b) := ⟨_, rfl⟩
  rw [← HX.out] at s1 la ⊢
  rw [← HY.out] at s2 lb ⊢
  obtain ⟨n, HN⟩ : ∃ n, Hid (n = X.length) := ⟨_, rfl⟩
  obtain ⟨m, HM⟩ : ∃ n, Hid (n = Y.length) := ⟨_, rfl⟩
  rw [← HN.out] at s1 la ⊢
  rw [← HM.out] at s2 lb ⊢
  rcases Nat.lt_trichotomy n m with hlt | heq | hgt
  · have hd := Lib.hid (cmpN_lt (lt_of_len (a := a) (b := b) (by rw [← HX.out, ← HY.out, ← HN.out, ← HM.out]; exact hlt)))
    have hne : ((n : Int) != (m : Int)) = true := by rw [bne_iff_ne]; omega
    go_wp2_with fail
    go_ret
    exact ⟨by rw [hd.out]; rfl, hbel⟩
  · subst heq
    have hne : ((n : Int) != (n : Int)) = false := by simp
    have hva : val X = a := by rw [HX.out, limbs_val]
    have hvb : val Y = b := by rw [HY.out, limbs_val]
    have HV := Lib.hid (And.intro hva hvb)
    clear hva hvb
    go_wp2_with fail
    go_loopw [7] (fun i wr => ∃ k : Nat, k ≤ n ∧ i = .int .i64 ((k : Int) - 1) ∧ Hid (cmpN (val (X.take k)) (val (Y.take k)) = cmpN a b) ∧ Below w.heap.size w wr ∧ Sl wr A1 n c1 X ∧ Sl wr A2 n c2 Y) (fun i _ => (intOf i + 1).toNat)
    case atStart => exact ⟨n, Nat.le_refl _, rfl, by rw [List.take_of_length_le (by have := HN.out; omega), List.take_of_length_le (by have := HM.out; omega), HV.out.1, HV.out.2]; exact rfl, hbel, s1, s2⟩
    case round =>
      obtain ⟨k, hk, rfl, hr, hbel, s1, s2⟩ := hrel
      rcases k with _ | k
      · go_wp2_with fail
        go_ret
        exact ⟨by rw [← hr.out]; rfl, hbel⟩
      · rw [show (((k + 1 : Nat) : Int) - 1) = (k : Int) by omega]
        obtain ⟨p1, o1, rfl, _, q1⟩ := s1.here (by omega)
        obtain ⟨p2, o2, rfl, _, q2⟩ := s2.here (by omega)
        have g1 := q1 k (by omega)
        have g2 := q2 k (by omega)
        have i1 : (k : Int) < (n : Int) := by omega
        clear q1 q2
        rcases Nat.lt_trichotomy (lim X k) (lim Y k) with hx | hx | hx
        · have hd := Lib.hid (cmp_down_lt s1.ok hx)
          have hn : (((lim X k : Nat) : Int) != ((lim Y k : Nat) : Int)) = true := by rw [bne_iff_ne]; omega
          go_wp2_with fail
          go_region
          all_goals
            go_wp2_with fail
            go_region
          all_goals
            go_wp2_with fail
            go_ret
            exact ⟨by rw [← hr.out, hd.out]; rfl, hbel.drew.drew⟩
        · have hd := Lib.hid (cmp_down_eq hx)
          have hn : (((lim X k : Nat) : Int) != ((lim Y k : Nat) : Int)) = false := by rw [hx]; simp
          clear hx
          go_wp2_with fail
          go_region
          all_goals
            go_wp2_with fail
            go_roundw
            case rel => exact ⟨k, by omega, by go_num, by rw [← hr.out, hd.out]; exact rfl, hbel.drew, s1.drew, s2.drew⟩
            case measure => simp [intOf]
        · have hd := Lib.hid (cmp_down_gt s2.ok hx)
          have hn : (((lim X k : Nat) : Int) != ((lim Y k : Nat) : Int)) = true := by rw [bne_iff_ne]; omega
          have hx1 : ¬ ((lim X k : Nat) : Int) < ((lim Y k : Nat) : Int) := by omega
          go_wp2_with fail
          go_region
          all_goals
            go_wp2_with fail
            go_region
          all_goals
            go_wp2_with fail
            go_ret
            exact ⟨by rw [← hr.out, hd.out]; rfl, hbel.drew.drew⟩
  · have hd := Lib.hid (cmpN_gt (lt_of_len (a := b) (b := a) (by rw [← HX.out, ← HY.out, ← HN.out, ← HM.out]; exact hgt)))
    have hne : ((n : Int) != (m : Int)) = true := by rw [bne_iff_ne]; omega
    have hnl : ¬ (n : Int) < (m : Int) := by omega
    go_wp2_with fail
    go_ret
    exact ⟨by rw [hd.out]; rfl, hbel⟩
end Go.Proofs.YtjildimhflondaaDoor
