/-
  whole.power, rootOf: their contracts.
-/
import Derived.Test.YtabdnlhehickoaaDoorRootN
import Derived.Test.YtabdnlhehickoaaDoorDivAll
import Derived.Test.YtabdnlhehickoaaDoorShiftN
import Derived.Test.YtabdnlhehickoaaDoorRefBits
namespace Go.Proofs.YtabdnlhehickoaaDoor
open Go.RowKit
theorem val_top (q x : Nat) : val ((List.replicate (q + 1) 0).set q x) = 4294967296 ^ q * x := by
  have h := val_set (List.replicate (q + 1) 0) q x (by simp)
  have h0 : lim (List.replicate (q + 1) 0) q = 0 := by rw [lim_eq, List.getElem?_replicate]; split <;> rfl
  rw [val_replicate, h0, Nat.mul_zero, Nat.add_zero, Nat.zero_add] at h
  exact h
theorem top_trim (q x : Nat) (hx : x ≠ 0) : trimL ((List.replicate (q + 1) 0).set q x) = (List.replicate (q + 1) 0).set q x := by
  have h : (List.replicate (q + 1) 0).set q x = List.replicate q 0 ++ [x] := by
    rw [List.replicate_succ', List.set_append_right _ _ (by simp)]
    simp
  rw [h]
  exact trimL_snoc _ _ hx
theorem pow_split (k : Nat) : 4294967296 ^ (k / 32) * 2 ^ (k % 32) = 2 ^ k := by
  rw [show (4294967296 : Nat) = 2 ^ 32 by decide, ← Nat.pow_mul, ← Nat.pow_add]
  congr 1
  omega
set_option maxHeartbeats 1600000 in
theorem power_any (k : Nat) (w : World) (hk : k ≤ 1000000000) : Calls Tryd.prog 98 #[.int .i64 (k : Int)] w (Gives w (2 ^ k)) := by
  have hps := pow_split k
  have e1 : (k : Int) / 32 = ((k / 32 : Nat) : Int) := by omega
  have e2 : (k : Int) % 32 = ((k % 32 : Nat) : Int) := by omega
  have hr : k % 32 < 32 := by omega
  have hq0 : k / 32 ≤ 1000000000 := by omega
  generalize k / 32 = q at *
  generalize k % 32 = r at *
  have h31 : 2 ^ r ≤ 2 ^ 31 := Nat.pow_le_pow_right (by decide) (by omega)
  have hP0 : 0 < 2 ^ r := Nat.pow_pos (by decide)
  have e3 : IntKind.u32.wrap (2 ^ r) = ((2 ^ r : Nat) : Int) := by
    rw [show (2 ^ r : Int) = ((2 ^ r : Nat) : Int) by rw [Int.natCast_pow]; rfl, IntKind.wrap_u32]; omega
  generalize hP : (2 : Nat) ^ r = P at *
  have hmk := fun W => make32 ((q : Int) + 1) (q + 1) (by omega) (by omega) W
  have hB := Blk.made w (q + 1)
  have hB2 := hB.set_ q P
  have hf := hB.frozen q
  have hc := hB.cell q (by simp)
  have hqi : (q : Int) < (q : Int) + 1 := by omega
  have HB := Lib.hid (And.intro hB2 hps)
  have hPb : P < 4294967296 := by omega
  clear hB hB2 hps h31
  go_enter Tryd.func98, Tryd.ntmps98
  go_wp2_with fail
  have hB3 : Blk (w.alloc (.cells ((madeCells #[Value.int .u32 0] (q + 1)).setIfInBounds q (.int .u32 (P : Int))) 32)) w.heap.size ((List.replicate (q + 1) 0).set q P) := by
    unfold Blk
    rw [heap_alloc_new, cellsOf_replicate]
    simp [cellsOf, List.map_set]
    rw [← List.setIfInBounds_toArray, List.toArray_replicate]
  have hn := hB3.newAll (base := w.heap.size) ((Ok.replicate _).set q P (by omega)) (top_trim q P (by omega)) (by unfold maxLen; simp; omega) (Nat.le_refl _)
  rw [val_top, HB.out.2] at hn
  simp only [List.length_set, List.length_replicate] at hn
  go_ret
  exact ⟨_, rfl, hn, bnew (Below.refl _ _) _⟩

theorem root_bd (m : Nat) : rootN m < 2 ^ ((bl m + 1) / 2) := by
  have h1 := bl_lt m
  have h2 := rootN_sq m
  have h3 : 2 ^ bl m ≤ 2 ^ ((bl m + 1) / 2) * 2 ^ ((bl m + 1) / 2) := by
    rw [← Nat.pow_add]; exact Nat.pow_le_pow_right (by decide) (by omega)
  rcases Nat.lt_or_ge (rootN m) (2 ^ ((bl m + 1) / 2)) with h | h
  · exact h
  · have := Nat.mul_le_mul h h
    omega
set_option maxHeartbeats 1600000 in
theorem rootOf_num {w : World} {u : Value} {m K : Nat} (hu : Num w u m K) (hK : K ≤ 1000000) : Calls Tryd.prog 79 #[u] w (Gives w (rootN m)) := by
  have hbl := bl_bd hu.lt
  have hl0 : rootN m < 4294967296 ^ K := Nat.lt_of_le_of_lt (rootN_le m) hu.lt
  have hrb := root_bd m
  have HBN := Lib.hid (fun W (hW : Num W u m K) => bits_num hW (by omega))
  by_cases hm : m = 0
  · subst hm
    rw [rootN_zero]
    rw [bl_zero] at HBN
    clear hbl hrb hl0
    go_enter Tryd.func79, Tryd.ntmps79
    go_wp2_with fail
    go_step3
    go_wp2_with fail
    refine (HBN.out w hu).mono ?_
    rintro e w1 ⟨rfl, rfl⟩
    go_wp2_with fail
    go_ret
    exact ⟨_, rfl, New.nil _ _, Below.refl _ _⟩
  · have hb0 := bl_pos m hm
    have hlb : 2 ^ ((bl m + 1) / 2) < 4294967296 ^ (K + 1) := by
      rw [show (4294967296 : Nat) = 2 ^ 32 by decide, ← Nat.pow_mul]
      exact Nat.pow_lt_pow_right (by decide) (by omega)
    have HL := Lib.hid (And.intro hlb hrb)
    have HP := Lib.hid (fun W => power_any ((bl m + 1) / 2) W (by omega))
    clear hlb hrb
    generalize bl m = k at *
    have e1 : ((k : Int) + 1) / 2 = (((k + 1) / 2 : Nat) : Int) := by omega
    have hk0 : ((k : Int) == 0) = false := beq_eq_false_iff_ne.2 (by omega)
    generalize (k + 1) / 2 = h at *
    go_enter Tryd.func79, Tryd.ntmps79
    go_wp2_with fail
    go_step3
    go_wp2_with fail
    refine (HBN.out w hu).mono ?_
    rintro e w1 ⟨rfl, rfl⟩
    go_wp2_with fail
    refine (HBN.out w hu).mono ?_
    rintro e w1 ⟨rfl, rfl⟩
    go_wp2_with fail
    refine (HP.out w).mono ?_
    rintro e w1 ⟨g0, rfl, hg0, hb1⟩
    go_wp2_with fail
    go_step3
    go_wp2_with fail
    clear HBN HP
    go_loopg [3] (2 ^ h) (fun g v wr => rootN m ≤ g ∧ g < 4294967296 ^ (K + 1) ∧ 0 < g ∧ New wr w.heap.size v (limbs g) ∧ Below w.heap.size w wr)
    case atStart => exact ⟨Nat.le_of_lt HL.out.2, HL.out.1, Nat.pow_pos (by decide), hg0, hb1⟩
    case round =>
      obtain ⟨hge, hlt, hpos, hnew, hbel⟩ := hrel
      clear hg0 hb1 HL e1 hk0 hb0 hbl
      have ng := hnew.num (K + 1) hlt
      have hu1 := hu.below hbel
      have lq : m / gk < 4294967296 ^ (K + 1) := Nat.lt_of_le_of_lt (Nat.div_le_self _ _) (lt_up hu.lt (by omega))
      have ls := lt_up (lt_add hlt lq) (show max (K + 1) (K + 1) + 1 ≤ K + 2 by omega)
      have hn1 := newton_ge m gk hpos
      have hn2 : ¬ (gk + m / gk) / 2 < gk → gk = rootN m := fun hh => by
        rcases Nat.lt_or_ge (rootN m) gk with h3 | h3
        · exact absurd (newton_lt h3) hh
        · omega
      have HS : ∀ W v', Num W v' (gk + m / gk) (K + 2) → Calls Tryd.prog 19 #[v', .int .i64 (-1)] W (Gives W ((gk + m / gk) / 2)) := fun W v' hh => shr_num (s := 1) hh (by omega) (by omega) (by omega)
      have HH := Lib.hid (And.intro hn1 (And.intro hn2 (And.intro HS (And.intro hpos hge))))
      clear hn1 hn2 HS hge hpos
      go_wp2_with fail
      refine (div_num hu1 ng (by omega)).mono ?_
      rintro e w2 ⟨q, r, rfl, hq, _, hb2⟩
      replace hnew := hnew.next hb2
      replace ng := ng.below hb2
      have nq := (hq.num (K + 1) lq)
      replace hbel := bnext hbel hb2
      clear hb2 hu1 hq
      go_wp2_with fail
      refine (add_num ng nq (by omega) (by omega)).mono ?_
      rintro e w3 ⟨s, rfl, hs, hb3⟩
      replace hnew := hnew.next hb3
      replace ng := ng.below hb3
      replace hbel := bnext hbel hb3
      have ns := hs.num (K + 2) ls
      clear hb3 hs nq
      go_wp2_with fail
      refine (HH.out.2.2.1 _ _ ns).mono ?_
      rintro e w4 ⟨x, rfl, hx, hb4⟩
      replace hnew := hnew.next hb4
      replace ng := ng.below hb4
      have hsz := hbel.size
      replace hbel := bnext hbel hb4
      have lx : (gk + m / gk) / 2 < 4294967296 ^ (K + 2) := Nat.lt_of_le_of_lt (Nat.div_le_self _ _) ls
      have nx := hx.num (K + 2) lx
      have H1 := HH.out.1
      have H2 := HH.out.2.1
      have HC := Lib.hid (cmp_num nx ng (by omega) (by omega))
      have H3 := HH.out.2.2.2
      clear hb4 ns HH lx nx ls lq
      generalize (gk + m / gk) / 2 = y at *
      by_cases hy : y < gk
      · rw [cmpN_lt hy] at HC
        have HX := Lib.hid (And.intro H1 (And.intro hy H3.1))
        clear H1 H2 H3
        go_wp2_with fail
        refine HC.out.mono ?_
        rintro e w5 ⟨rfl, rfl⟩
        go_wp2_with fail
        go_roundg y
        case rel => exact ⟨HX.out.1, Nat.lt_trans HX.out.2.1 hlt, by have := rootN_pos hm; have := HX.out.1; omega, hx.from_ hsz, hbel⟩
        case measure => exact HX.out.2.1
      · have hc : cmpN y gk ≠ -1 := by
          intro hh
          have := (cmpN_neg_iff y gk).1 (by omega)
          exact hy this
        have hc' : (cmpN y gk == -1) = false := beq_eq_false_iff_ne.2 hc
        have HG := Lib.hid (H2 hy)
        clear H1 H2 H3 hy hc
        generalize cmpN y gk = cc at *
        go_wp2_with fail
        refine HC.out.mono ?_
        rintro e w5 ⟨rfl, rfl⟩
        go_wp2_with fail
        rw [Exit.noGoto_ret]
        go_ret
        exact ⟨_, rfl, by rw [← HG.out]; exact hnew, hbel⟩
end Go.Proofs.YtabdnlhehickoaaDoor
