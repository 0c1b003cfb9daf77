/-
  whole.Small, and the laws' small and same: what they answer.
-/
import Derived.Test.YtabdnlhehickoaaDoorWhD
namespace Go.Proofs.YtabdnlhehickoaaDoor
open Go.RowKit
theorem bl63 (m : Nat) : 63 < bl m ↔ 9223372036854775808 ≤ m := by
  constructor
  · intro h
    have h0 : m ≠ 0 := by rintro rfl; rw [bl_zero] at h; omega
    have h1 := bl_le m h0
    have h2 : 2 ^ 63 ≤ 2 ^ (bl m - 1) := Nat.pow_le_pow_right (by decide) (by omega)
    omega
  · intro h
    rcases Nat.lt_or_ge 63 (bl m) with h1 | h1
    · exact h1
    · have h2 := bl_lt m
      have h3 : 2 ^ bl m ≤ 2 ^ 63 := Nat.pow_le_pow_right (by decide) h1
      omega
/-- What Small tells. -/
def wsN (a : Int) : Int := if -9223372036854775808 ≤ a ∧ a ≤ 9223372036854775807 then a else 0
def wsB (a : Int) : Bool := decide (-9223372036854775808 ≤ a ∧ a ≤ 9223372036854775807)
theorem sm_of {m : Nat} (h : m ≤ 9223372036854775807) : smN m = (m : Int) ∧ smB m = true := by
  have : ¬ 63 < bl m := fun h1 => absurd ((bl63 m).1 h1) (by omega)
  unfold smN smB; rw [if_neg this, if_neg this]; exact ⟨rfl, rfl⟩
theorem sm_no {m : Nat} (h : 9223372036854775808 ≤ m) : smN m = 0 ∧ smB m = false := by
  have := (bl63 m).2 h
  unfold smN smB; rw [if_pos this, if_pos this]; exact ⟨rfl, rfl⟩
theorem ws_yes {a : Int} (h : -9223372036854775808 ≤ a ∧ a ≤ 9223372036854775807) : wsN a = a ∧ wsB a = true := by
  unfold wsN wsB; rw [if_pos h]; exact ⟨rfl, decide_eq_true h⟩
theorem ws_no {a : Int} (h : ¬ (-9223372036854775808 ≤ a ∧ a ≤ 9223372036854775807)) : wsN a = 0 ∧ wsB a = false := by
  unfold wsN wsB; rw [if_neg h]; exact ⟨rfl, decide_eq_false h⟩
section
variable {w : World} {u v : Value} {a b : Int} {K L : Nat}
set_option maxHeartbeats 1600000 in
theorem wsmall_num (hu : Wh w u a K) (hK : K ≤ 1000000) : Calls Tryd.prog 23 #[u] w fun e w' => e = .returned (.tuple #[.int .i64 (wsN a), .bool (wsB a)]) ∧ Below w.heap.size w w' := by
  obtain ⟨s, x, m, rfl, hx, rfl⟩ := hu
  obtain ⟨W, hW, hp, hb⟩ := enter1 w (.bool s) x
  replace hx := hx.below hb
  by_cases hneg : zOf s m < 0
  · have HB := below_any (s := s) hx hK
    rw [decide_eq_true hneg] at HB
    replace HB := Lib.hid HB
    obtain rfl := neg_true hneg
    rw [zOf_true] at *
    have hl : m - 1 < 4294967296 ^ K := Nat.lt_of_le_of_lt (Nat.sub_le _ _) hx.lt
    by_cases hm : m ≤ 9223372036854775808
    · rw [(ws_yes (a := -(m : Int)) (by omega)).1, (ws_yes (a := -(m : Int)) (by omega)).2]
      have HS : ∀ w', ∀ z, Num w' z (m - 1) K → Calls Tryd.prog 65 #[z] w' fun e w'' => e = .returned (.tuple #[.int .i64 ((m - 1 : Nat) : Int), .bool true]) ∧ w' = w'' := fun w' z h => by
        have h2 := nsmall_num h hK
        rw [(sm_of (m := m - 1) (by omega)).1, (sm_of (m := m - 1) (by omega)).2] at h2
        exact h2
      replace HS := Lib.hid HS
      obtain ⟨k, rfl⟩ : ∃ k, m = k + 1 := ⟨m - 1, by omega⟩
      rw [Nat.add_sub_cancel] at *
      have hk : (k : Int) ≤ 9223372036854775807 := by omega
      have HE : Hid (-((k + 1 : Nat) : Int) = -(k : Int) - 1) := Lib.hid (by omega)
      rw [HE.out]
      have hp0 := hp.c0
      have hp1 := hp.c1
      go_enter Tryd.func23, Tryd.ntmps23
      go_wp2_with fail
      rw [← hW]
      refine HB.out.mono ?_
      rintro e w0 ⟨rfl, hb0⟩
      have hp2 := (hp.next hb0).drew
      have hx2 := (hx.below hb0).drew
      have q0 := hp2.c0
      have q1 := hp2.c1
      clear hp0 hp1
      go_wp2_with fail
      go_region_held3 (fun w' => w'.cell? ⟨w.heap.size, 1, none⟩ = some x)
        (first | exact hp3.c1 | exact hp4.c1 | go_keep)
        (first
        | (go_at_call 66; refine (one_any _).mono ?_; rintro e w1 ⟨v1, rfl, hv1, hb1⟩; have hp3 := hp2.next hb1; have n1 := hv1.num 1 (by decide))
        | (go_at_call 17; refine (sub_num (hx2.below hb1) n1 (by omega) (by decide)).mono ?_; rintro e w2 ⟨v2, rfl, hv2, hb2⟩; have hp4 := hp3.next hb2; have n2 := hv2.num K hl)
        | (go_at_call 65; refine (HS.out _ _ n2).mono ?_; rintro e w3 ⟨rfl, rfl⟩))
      go_wp2_with fail
      go_ret2
      exact ⟨rfl, bnext (bnext (bnext hb hb0).drew hb1) hb2⟩
    · rw [(ws_no (a := -(m : Int)) (by omega)).1, (ws_no (a := -(m : Int)) (by omega)).2]
      have HS : ∀ w', ∀ z, Num w' z (m - 1) K → Calls Tryd.prog 65 #[z] w' fun e w'' => e = .returned (.tuple #[.int .i64 0, .bool false]) ∧ w' = w'' := fun w' z h => by
        have h2 := nsmall_num h hK
        rw [(sm_no (m := m - 1) (by omega)).1, (sm_no (m := m - 1) (by omega)).2] at h2
        exact h2
      replace HS := Lib.hid HS
      clear hm hneg
      obtain ⟨k, hk⟩ : ∃ k, k = m - 1 := ⟨_, rfl⟩
      have hp0 := hp.c0
      have hp1 := hp.c1
      go_enter Tryd.func23, Tryd.ntmps23
      go_wp2_with fail
      rw [← hW]
      refine HB.out.mono ?_
      rintro e w0 ⟨rfl, hb0⟩
      have hp2 := (hp.next hb0).drew
      have hx2 := (hx.below hb0).drew
      have q0 := hp2.c0
      have q1 := hp2.c1
      clear hp0 hp1
      go_wp2_with fail
      go_region_held3 (fun w' => w'.cell? ⟨w.heap.size, 1, none⟩ = some x)
        (first | exact hp3.c1 | exact hp4.c1 | go_keep)
        (first
        | (go_at_call 66; refine (one_any _).mono ?_; rintro e w1 ⟨v1, rfl, hv1, hb1⟩; have hp3 := hp2.next hb1; have n1 := hv1.num 1 (by decide))
        | (go_at_call 17; refine (sub_num (hx2.below hb1) n1 (by omega) (by decide)).mono ?_; rintro e w2 ⟨v2, rfl, hv2, hb2⟩; have hp4 := hp3.next hb2; have n2 := hv2.num K hl)
        | (go_at_call 65; refine (HS.out _ _ n2).mono ?_; rintro e w3 ⟨rfl, rfl⟩))
      go_wp2_with fail
      go_ret2
      exact ⟨rfl, bnext (bnext (bnext hb hb0).drew hb1) hb2⟩
  · have HB := below_any (s := s) hx hK
    rw [decide_eq_false hneg] at HB
    replace HB := Lib.hid HB
    have hz : zOf s m = (m : Int) := by
      cases s
      · rfl
      · rw [zOf_true] at *; omega
    rw [hz]
    have hsm : smN m = wsN (m : Int) ∧ smB m = wsB (m : Int) := by
      by_cases hm : m ≤ 9223372036854775807
      · rw [(sm_of hm).1, (sm_of hm).2, (ws_yes (a := (m : Int)) (by omega)).1, (ws_yes (a := (m : Int)) (by omega)).2]; exact ⟨rfl, rfl⟩
      · rw [(sm_no (m := m) (by omega)).1, (sm_no (m := m) (by omega)).2, (ws_no (a := (m : Int)) (by omega)).1, (ws_no (a := (m : Int)) (by omega)).2]; exact ⟨rfl, rfl⟩
    have HS : ∀ w', Num w' x m K → Calls Tryd.prog 65 #[x] w' fun e w'' => e = .returned (.tuple #[.int .i64 (wsN (m : Int)), .bool (wsB (m : Int))]) ∧ w' = w'' := fun w' h => by
      have h2 := nsmall_num h hK
      rw [hsm.1, hsm.2] at h2
      exact h2
    replace HS := Lib.hid HS
    clear hsm hz hneg
    have hp0 := hp.c0
    have hp1 := hp.c1
    go_enter Tryd.func23, Tryd.ntmps23
    go_wp2_with fail
    rw [← hW]
    refine HB.out.mono ?_
    rintro e w1 ⟨rfl, hb1⟩
    have q0 := (hp.next hb1).c0
    have q1 := (hp.next hb1).c1
    clear hp0 hp1
    go_wp2_with fail
    refine (HS.out _ (hx.below hb1)).mono ?_
    rintro e w2 ⟨rfl, rfl⟩
    go_wp2_with fail
    go_ret2
    exact ⟨rfl, bnext hb hb1⟩

set_option maxHeartbeats 400000 in
theorem refSame2_yes (hu : ∃ s A1 c1 A2 c2 n xs, u = .agg #[.bool s, .slice A1 n c1] ∧ v = .agg #[.bool s, .slice A2 n c2] ∧ Sl w A1 n c1 xs ∧ Sl w A2 n c2 xs ∧ n ≤ 1000000000) :
    Calls Tryd.prog 67 #[u, v] w fun e w' => e = .returned (.bool true) ∧ Below w.heap.size w w' := by
  obtain ⟨s, A1, c1, A2, c2, n, xs, rfl, rfl, h1, h2, hn⟩ := hu
  obtain ⟨W, hW, hp, hq, hb⟩ := enter2 w (.bool s) (.slice A1 n c1) (.bool s) (.slice A2 n c2)
  have HS := Lib.hid (refSame_yes _ _ _ _ _ _ _ (h1.below hb) (h2.below hb) hn)
  have hp0 := hp.c0
  have hp1 := hp.c1
  have hq0 := hq.c0
  have hq1 := hq.c1
  have hss : (s == s) = true := by cases s <;> rfl
  go_enter Tryd.func67, Tryd.ntmps67
  go_wp2_with fail
  rw [← hW]
  refine HS.out.mono ?_
  rintro e w1 ⟨rfl, hb1⟩
  go_wp2_with fail
  go_ret
  exact ⟨rfl, bnext hb hb1⟩
set_option maxHeartbeats 400000 in
theorem wsame_yes (hu : ∃ s A1 c1 A2 c2 n xs, u = .agg #[.bool s, .slice A1 n c1] ∧ v = .agg #[.bool s, .slice A2 n c2] ∧ Sl w A1 n c1 xs ∧ Sl w A2 n c2 xs ∧ n ≤ 1000000000) :
    Calls Tryd.prog 25 #[u, v] w fun e w' => e = .returned (.bool true) ∧ Below w.heap.size w w' := by
  obtain ⟨s, A1, c1, A2, c2, n, xs, rfl, rfl, h1, h2, hn⟩ := hu
  obtain ⟨W, hW, hp, hq, hb⟩ := enter2 w (.bool s) (.slice A1 n c1) (.bool s) (.slice A2 n c2)
  have HS := Lib.hid (refSame2_yes (w := W) ⟨s, A1, c1, A2, c2, n, xs, rfl, rfl, h1.below hb, h2.below hb, hn⟩)
  have hp0 := hp.c0
  have hp1 := hp.c1
  have hq0 := hq.c0
  have hq1 := hq.c1
  go_enter Tryd.func25, Tryd.ntmps25
  go_wp2_with fail
  rw [← hW]
  refine HS.out.mono ?_
  rintro e w1 ⟨rfl, hb1⟩
  go_wp2_with fail
  go_ret
  exact ⟨rfl, bnext hb hb1⟩
theorem wsame_both {base base' : Nat} (hu : WNew w base u a) (hv : WNew w base' v a) (hn : (limbs a.natAbs).length ≤ 1000000000) : ∃ s A1 c1 A2 c2 n xs, u = .agg #[.bool s, .slice A1 n c1] ∧ v = .agg #[.bool s, .slice A2 n c2] ∧ Sl w A1 n c1 xs ∧ Sl w A2 n c2 xs ∧ n ≤ 1000000000 := by
  obtain ⟨x, rfl, A1, n1, c1, rfl, s1, _⟩ := hu
  obtain ⟨y, rfl, A2, n2, c2, rfl, s2, _⟩ := hv
  obtain rfl : n1 = n2 := s1.len.trans s2.len.symm
  exact ⟨_, A1, c1, A2, c2, n1, _, rfl, rfl, s1, s2, by have := s1.len; omega⟩
/-- Two new whole numbers that are the same. -/
theorem wsame_new {base base' : Nat} (hu : WNew w base u a) (hv : WNew w base' v a) (hn : a.natAbs < 4294967296 ^ K) (hK : K ≤ 1000000) :
    Calls Tryd.prog 25 #[u, v] w fun e w' => e = .returned (.bool true) ∧ Below w.heap.size w w' :=
  wsame_yes (wsame_both hu hv (Nat.le_trans (limbs_len_le hn) (by omega)))
end

set_option maxHeartbeats 400000 in
theorem wlsmall_yes (g k : Nat) (w : World) (hk : k ≤ 1000) (hg : g < w.heap.size) (hall : ∀ i, i < k → ∃ s A n c, w.cell? ⟨g, i * 2, none⟩ = some (.bool s) ∧ w.cell? ⟨g, i * 2 + 1, none⟩ = some (.slice A n c) ∧ n ≤ 24) :
    Calls Tryd.prog 21 #[.slice (some ⟨g, 0, none⟩) k k] w fun e w' => e = .returned (.bool true) ∧ Below w.heap.size w w' := by
  have HA := Lib.hid hall
  clear hall
  go_enter Tryd.func21, Tryd.ntmps21
  go_wp2_with fail
  go_loopw [7] (fun i wr => ∃ j : Nat, j ≤ k ∧ i = .int .i64 j ∧ Below w.heap.size w wr) (fun i _ => k - (intOf i).toNat)
  case atStart => exact ⟨0, by omega, rfl, Below.refl _ _⟩
  case round =>
    obtain ⟨j, hj, rfl, hbel⟩ := hrel
    by_cases hjk : j < k
    · obtain ⟨s, A, n, c, hc0, hc1, hn⟩ := HA.out j hjk
      have q0 := (hbel.cell (p := ⟨g, j * 2, none⟩) hg).trans hc0
      have q1 := (hbel.cell (p := ⟨g, j * 2 + 1, none⟩) hg).trans hc1
      have i1 : (j : Int) < (k : Int) := by omega
      clear hc0 hc1
      go_wp2_with fail
      go_roundw
      case rel => exact ⟨j + 1, by omega, by go_num, bnew hbel _⟩
      case measure => simp [intOf]; omega
    · go_wp2_with fail
      go_ret
      exact ⟨rfl, hbel⟩
set_option maxHeartbeats 800000 in
theorem wlsmall_no (g k : Nat) (w : World) (hk : k ≤ 1000) (hg : g < w.heap.size) (hall : ∀ i, i < k → ∃ s A n c, w.cell? ⟨g, i * 2, none⟩ = some (.bool s) ∧ w.cell? ⟨g, i * 2 + 1, none⟩ = some (.slice A n c) ∧ n ≤ maxLen) (m : Nat) (hm : m < k) (hbig : ∃ A n c, w.cell? ⟨g, m * 2 + 1, none⟩ = some (.slice A n c) ∧ 24 < n) :
    Calls Tryd.prog 21 #[.slice (some ⟨g, 0, none⟩) k k] w fun e w' => e = .returned (.bool false) ∧ Below w.heap.size w w' := by
  have HA := Lib.hid (And.intro hall hbig)
  clear hall hbig
  go_enter Tryd.func21, Tryd.ntmps21
  go_wp2_with fail
  go_loopw [7] (fun i wr => ∃ j : Nat, j ≤ m ∧ i = .int .i64 j ∧ Below w.heap.size w wr) (fun i _ => k - (intOf i).toNat)
  case atStart => exact ⟨0, by omega, rfl, Below.refl _ _⟩
  case round =>
    obtain ⟨j, hj, rfl, hbel⟩ := hrel
    obtain ⟨s, A, n, c, hc0, hc1, hn⟩ := HA.out.1 j (by omega)
    have q0 := (hbel.cell (p := ⟨g, j * 2, none⟩) hg).trans hc0
    have q1 := (hbel.cell (p := ⟨g, j * 2 + 1, none⟩) hg).trans hc1
    have i1 : (j : Int) < (k : Int) := by omega
    unfold maxLen at hn
    by_cases h24 : n ≤ 24
    · have hjm : j < m := by
        rcases Nat.lt_or_ge j m with h | h
        · exact h
        · obtain rfl : j = m := by omega
          obtain ⟨A', n', c', hc', hn'⟩ := HA.out.2
          rw [hc1] at hc'
          simp at hc'
          omega
      clear hc0 hc1
      go_wp2_with fail
      go_roundw
      case rel => exact ⟨j + 1, by omega, by go_num, bnew hbel _⟩
      case measure => simp [intOf]; omega
    · have h25 : 24 < n := by omega
      clear hc0 hc1
      go_wp2_with fail
      go_ret
      exact ⟨rfl, bnew hbel _⟩
end Go.Proofs.YtabdnlhehickoaaDoor
