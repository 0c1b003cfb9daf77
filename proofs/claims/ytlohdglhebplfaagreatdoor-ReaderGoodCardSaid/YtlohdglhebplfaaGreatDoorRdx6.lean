/-
  The reader: what it tells is good, and read again as the document writes it.
-/
import Derived.Test.YtlohdglhebplfaaGreatDoorRdx5
import Derived.Test.YtlohdglhebplfaaGreatDoorRtg
namespace Go.Proofs.YtlohdglhebplfaaGreatDoor
open Go.RowKit

section

theorem limbs_end (n k : Nat) (h : (limbs n).length = k + 1) : lim (limbs n) k ≠ 0 := by
  have ht : trimL (limbs n) = limbs n := trimL_idem _
  have e : limbs n = (limbs n).take k ++ [lim (limbs n) k] := by
    rw [← take_snoc _ _ (by omega), ← h, List.take_length]
  intro h0
  rw [h0] at e
  rw [e, trimL_snoc_zero] at ht
  have := trimL_len ((limbs n).take k)
  rw [ht] at this
  simp [h] at this
  omega
section
variable {w : World}
set_option maxRecDepth 100000 in
set_option maxHeartbeats 3200000 in
theorem r2good_num (z : Int) (A : Option Addr) (n c : Nat) (w : World) (h : Sl w A n c (limbs z.natAbs)) (hn : n ≤ 64) :
    Calls Tryz.prog 84 #[.agg #[.bool (decide (z < 0)), .slice A n c]] w fun e w' => e = .returned (.bool true) ∧ Below w.heap.size w w' := by
  have hb0 : ∀ O, Below w.heap.size w (w.alloc O) := fun O => (Below.refl _ _).alloc (Nat.le_refl _) _
  have hlen := h.len
  rcases n with _ | k
  · have hzz : z = 0 := by
      have h1 := limbs_val z.natAbs
      rw [List.eq_nil_of_length_eq_zero hlen.symm] at h1
      have : val [] = 0 := rfl
      omega
    subst hzz
    clear hlen h
    rw [show decide ((0 : Int) < 0) = false from rfl]
    go_enter Tryz.func84, Tryz.ntmps84
    go_wp2_with fail
    go_ret
    exact ⟨rfl, hb0 _⟩
  · obtain ⟨g, hg⟩ : ∃ g, g = decide (z < 0) := ⟨_, rfl⟩
    rw [← hg]
    obtain ⟨b, off, rfl, hb, hc⟩ := (h.alloc (.cells #[.bool g, .slice A (k + 1) c] 29)).here (by omega)
    have hck := hc k (by omega)
    have htop := limbs_end z.natAbs k (by omega)
    obtain ⟨x, hx⟩ : ∃ x, lim (limbs z.natAbs) k = x := ⟨_, rfl⟩
    rw [hx] at hck htop
    have hz : (((x : Nat) : Int) == 0) = false := beq_eq_false_iff_ne.2 (by omega)
    have hz2 : decide (((x : Nat) : Int) = 0) = false := decide_eq_false (by omega)
    have hz3 : (((x : Nat) : Int) != 0) = true := bne_iff_ne.2 (by omega)
    have ek1 : ((k : Int) + 1 == 0) = false := beq_eq_false_iff_ne.2 (by omega)
    have ek2 : decide ((k : Int) + 1 = 0) = false := decide_eq_false (by omega)
    have ek3 : decide (0 < (k : Int) + 1) = true := decide_eq_true (by omega)
    clear hc h hlen hx hg
    go_enter Tryz.func84, Tryz.ntmps84
    go_wp2_with fail
    all_goals first
      | (exfalso; omega)
      | (go_ret; exact ⟨rfl, hb0 _⟩)
theorem ln_of {w : World} {M : Nat} {t : LT} {xs : List Nat} (h : Held w M t) (e : t.ys = xs) : t.ln = xs.length := by rw [← e]; exact h.1.1.len
theorem no_items {l : List LT} (h : shapes l = []) : l.length = 0 := by rw [← shapes_length, h]; rfl
set_option maxRecDepth 100000 in
set_option maxHeartbeats 6400000 in
theorem is_leaf (M : Nat) (t : LT) (hF : FineD (shape t)) (h5 : t.k ≠ 5) (w : World) (hM : M ≤ w.heap.size) (hH : Held w M t) :
    Calls Tryz.prog 43 #[.agg #[.int .i64 t.k, .bool t.g, .slice t.la t.ln t.lc, .bool t.bb, .string t.s, .slice t.ia t.items.length t.ic, .slice t.ta t.tail.length t.tc]] w fun e w' => e = .returned (.bool true) ∧ Below w.heap.size w w' := by
  have hb0 : ∀ O, Below w.heap.size w (w.alloc O) := fun O => (Below.refl _ _).alloc (Nat.le_refl _) _
  generalize hd : shape t = d at hF
  rw [shape_eq] at hd
  cases hF with
  | truth b =>
    injection hd with q1 q2 q3 q4 q5 q6 q7
    have l1 := no_items q6
    have l2 := no_items q7
    have l3 := ln_of hH q3
    rw [List.length_nil] at l3
    rw [q1, q2, q4, q5, l1, l2, l3]
    clear q1 q2 q3 q4 q5 q6 q7 l1 l2 l3 hH
    go_enter Tryz.func43, Tryz.ntmps43
    go_wp2_with fail
    go_ret
    exact ⟨rfl, hb0 _⟩
  | num z hz =>
    injection hd with q1 q2 q3 q4 q5 q6 q7
    have l1 := no_items q6
    have l2 := no_items q7
    have l3 := ln_of hH q3
    have hln : t.ln ≤ 64 := by omega
    have hsl := hH.1.1
    rw [q3] at hsl
    rw [q1, q2, q4, q5, l1, l2]
    have HG := Lib.hid (fun W (hb : Below w.heap.size w W) => r2good_num z t.la t.ln t.lc W (hsl.below hb) hln)
    clear q1 q2 q3 q4 q5 q6 q7 l1 l2 l3 hH hsl
    generalize t.ln = ln at *
    generalize t.la = la at *
    generalize t.lc = lc at *
    generalize t.ia = ia at *
    generalize t.ic = ic at *
    generalize t.ta = ta at *
    generalize t.tc = tc at *
    have e64 : decide ((ln : Int) ≤ 64) = true := decide_eq_true (by omega)
    generalize decide (z < 0) = g at *
    obtain ⟨W0, hW0⟩ : ∃ W, w.alloc (.cells #[.int .i64 1, .bool g, .slice la ln lc, .bool false, .string ⟨#[]⟩, .slice ia 0 ic, .slice ta 0 tc] 31) = W := ⟨_, rfl⟩
    have h0n : W0.heap[w.heap.size]? = some (.cells #[.int .i64 1, .bool g, .slice la ln lc, .bool false, .string ⟨#[]⟩, .slice ia 0 ic, .slice ta 0 tc] 31) := hW0 ▸ World.alloc_heap_new _ _
    have h0s : W0.heap.size = w.heap.size + 1 := by rw [← hW0]; exact World.size_alloc ..
    have HB := Lib.hid (show Below w.heap.size w W0 from hW0 ▸ hb0 _)
    have HN := Lib.hid h0n
    have HW := Lib.hid hW0
    clear h0n hW0
    cases g
    all_goals
      go_enter Tryz.func43, Tryz.ntmps43
      go_wp2_with fail
      rw [HW.out]
      refine (HG.out _ HB.out).mono ?_
      rintro e w1 ⟨rfl, b1⟩
      have h1n := (b1.block w.heap.size (by omega)).trans HN.out
      have hb1 := bnext HB.out b1
      obtain ⟨⟨d0, d1, d2, d3, d4, d5, d6⟩, g0, g1, g2, g3, g4, g5, g6⟩ := seven h1n
      clear h1n b1
      go_wp2_with fail
      go_ret
      exact ⟨rfl, hb1⟩
  | sym l h1 h2 =>
    injection hd with q1 q2 q3 q4 q5 q6 q7
    have l1 := no_items q6
    have l2 := no_items q7
    have l3 := ln_of hH q3
    rw [List.length_nil] at l3
    rw [q1, q2, q4, q5, l1, l2, l3]
    have hs : (bytesOf l).size = l.length := bytesOf_size l
    have h0 : 1 ≤ l.length := List.length_pos_iff.2 h1
    generalize bytesOf l = s at *
    have e1 : decide (1 ≤ (s.size : Int)) = true := decide_eq_true (by omega)
    have e2 : decide ((s.size : Int) ≤ 64) = true := decide_eq_true (by omega)
    clear hs h0
    clear q1 q2 q3 q4 q5 q6 q7 l1 l2 l3 hH
    go_enter Tryz.func43, Tryz.ntmps43
    go_wp2_with fail
    go_ret
    exact ⟨rfl, hb0 _⟩
  | str l h2 =>
    injection hd with q1 q2 q3 q4 q5 q6 q7
    have l1 := no_items q6
    have l2 := no_items q7
    have l3 := ln_of hH q3
    rw [List.length_nil] at l3
    rw [q1, q2, q4, q5, l1, l2, l3]
    have hs : (bytesOf l).size = l.length := bytesOf_size l
    generalize bytesOf l = s at *
    have e2 : decide ((s.size : Int) ≤ 1024) = true := decide_eq_true (by omega)
    clear hs
    clear q1 q2 q3 q4 q5 q6 q7 l1 l2 l3 hH
    go_enter Tryz.func43, Tryz.ntmps43
    go_wp2_with fail
    go_ret
    exact ⟨rfl, hb0 _⟩
  | list l _ => injection hd with q1; exact absurd q1 h5
  | dot l e _ _ _ _ => injection hd with q1; exact absurd q1 h5
end
end

section

theorem shape_mem : ∀ {l : List LT} {k : Nat} (h : k < l.length), shape l[k] ∈ shapes l
  | t :: l, 0, _ => by rw [shapes_cons]; exact List.mem_cons_self ..
  | t :: l, k + 1, h => by rw [shapes_cons]; exact List.mem_cons_of_mem _ (shape_mem (l := l) (k := k) (by simpa using h))
def IsTo (M N : Nat) : Prop := ∀ (t : LT), t.size ≤ N → FineD (shape t) → ∀ (w : World), M ≤ w.heap.size → Held w M t →
    Calls Tryz.prog 43 #[.agg #[.int .i64 t.k, .bool t.g, .slice t.la t.ln t.lc, .bool t.bb, .string t.s, .slice t.ia t.items.length t.ic, .slice t.ta t.tail.length t.tc]] w fun e w' => e = .returned (.bool true) ∧ Below w.heap.size w w'
set_option maxRecDepth 100000 in
set_option maxHeartbeats 6400000 in
theorem is_none (M N : Nat) (hN : N + 1 ≤ 1000000) (ih : IsTo M N) (t : LT) (ht : t.size ≤ N + 1) (hF : FineD (shape t)) (w : World) (hM : M ≤ w.heap.size) (hH : Held w M t) (q1 : t.k = 5) (q2 : t.g = false) (l3 : t.ln = 0) (q4 : t.bb = false) (q5 : t.s = ⟨#[]⟩) (hm : t.tail.length = 0) (hn : t.items.length = 0) :
    Calls Tryz.prog 43 #[.agg #[.int .i64 t.k, .bool t.g, .slice t.la t.ln t.lc, .bool t.bb, .string t.s, .slice t.ia t.items.length t.ic, .slice t.ta t.tail.length t.tc]] w fun e w' => e = .returned (.bool true) ∧ Below w.heap.size w w' := by
    have IH := Lib.hid ih
    clear ih
    have hb0 : ∀ O, Below w.heap.size w (w.alloc O) := fun O => (Below.refl _ _).alloc (Nat.le_refl _) _
    have HFI := Lib.hid (show ∀ j, j < 2 → ∀ k (h : k < (listB t j).length), FineD (shape (listB t j)[k]) by
      rw [shape_eq] at hF
      have hp := hF.parts
      intro j hj k h
      rcases (show j = 0 ∨ j = 1 by omega) with rfl | rfl
      · exact hp.1 _ (shape_mem h)
      · exact hp.2 _ (shape_mem h))
    have HHH := Lib.hid hH
    have hsi := t.size_eq
    have hg1 := sizes_ge t.items
    have HSZ := Lib.hid (show sizes (listB t 0) ≤ N ∧ sizes (listB t 1) ≤ N by simp only [listB]; omega)

    clear hF hsi ht
    rw [q1, q2, q4, q5, l3]
    rw [hm, hn]
    clear q1 q2 q4 q5 l3 hH
    go_enter Tryz.func43, Tryz.ntmps43
    go_wp2_with fail
    obtain ⟨A, hA⟩ : ∃ A, A = (#[.slice t.ia 0 t.ic, .slice t.ta 0 t.tc] : Array Value) := ⟨_, rfl⟩
    have HAT := Lib.hid (show ∀ j, j < 2 → ∃ a c, A[j]? = some (.slice a (listB t j).length c) ∧ Spot M a (listB t j).length c ∧ LiesR w M (listB t j) (blk a) (ofs a) by
      intro j hj
      rcases (show j = 0 ∨ j = 1 by omega) with rfl | rfl
      · exact ⟨t.ia, t.ic, by rw [hA]; show some (Value.slice t.ia 0 t.ic) = some (.slice t.ia t.items.length t.ic); rw [hn], HHH.out.2.1, HHH.out.2.2.2.1⟩
      · exact ⟨t.ta, t.tc, by rw [hA]; show some (Value.slice t.ta 0 t.tc) = some (.slice t.ta t.tail.length t.tc); rw [hm], HHH.out.2.2.1, HHH.out.2.2.2.2⟩)
    rw [← hA]
    clear hA
    go_loopw [168] (fun i wr => ∃ (j : Nat), j ≤ 2 ∧ i = .int .i64 j ∧ Below w.heap.size w wr) (fun i _ => 2 - (intOf i).toNat)
    case atStart => exact ⟨0, by decide, rfl, hb0 _⟩
    case round =>
      obtain ⟨j, hj, rfl, hbel⟩ := hrel
      clear hb0 
      by_cases hj2 : j < 2
      · obtain ⟨a, c, ha, hsp, hli⟩ := HAT.out j hj2
        have hrun := fun w' => run_two A j _ w' hj2 ha rfl
        have hdj : decide ((j : Int) < 2) = true := by simp; omega
        have HS := Lib.hid (show sizes (listB t j) ≤ N by rcases (show j = 0 ∨ j = 1 by omega) with rfl | rfl; exact HSZ.out.1; exact HSZ.out.2)
        have HFF := Lib.hid (HFI.out j hj2)
        generalize listB t j = l at *
        by_cases hl : 0 < l.length
        · obtain ⟨haa, hlt⟩ := hsp.2.2.1 hl
          have hsz := hsp.2.1
          have hsc := hsp.1
          unfold maxLen at hsz
          have HLI := Lib.hid hli
          have hrun' := hrun wr
          clear hli hsp ha hrun
          rw [haa] at hrun'
          generalize blk a = gb at *
          generalize ofs a = go at *
          clear haa
          go_wp2_with fail
          go_loopw [173] (fun i ws => ∃ (k : Nat), k ≤ l.length ∧ i = .int .i64 k ∧ Below w.heap.size w ws) (fun i _ => l.length - (intOf i).toNat)
          case atStart => exact ⟨0, Nat.zero_le _, rfl, hbel⟩
          case round =>
            obtain ⟨k, hk, rfl, hbs⟩ := hrel
            clear hrun' hbel
            by_cases hlk : k < l.length
            · have hli := ((liesR_iff _ _ _).1 HLI.out k hlk).keep hbs.size (fun q hq => hbs.block q (by omega))
              obtain ⟨hgbM, hcell, hheld⟩ := lies_held.1 hli
              have hsz1 := sizes_mem hlk
              have hfi := HFF.out k hlk
              obtain ⟨u, hu⟩ : ∃ u, l[k] = u := ⟨_, rfl⟩
              rw [hu] at hcell hheld hsz1 hfi
              rw [Nat.mul_comm 7 k] at hcell
              have d0 : wr.cell? ⟨gb, go + k * 7, none⟩ = some (.int .i64 u.k) := hcell 0 _ rfl
              have d1 : wr.cell? ⟨gb, go + k * 7 + 1, none⟩ = some (.bool u.g) := hcell 1 _ rfl
              have d2 : wr.cell? ⟨gb, go + k * 7 + 2, none⟩ = some (.slice u.la u.ln u.lc) := hcell 2 _ rfl
              have d3 : wr.cell? ⟨gb, go + k * 7 + 3, none⟩ = some (.bool u.bb) := hcell 3 _ rfl
              have d4 : wr.cell? ⟨gb, go + k * 7 + 4, none⟩ = some (.string u.s) := hcell 4 _ rfl
              have d5 : wr.cell? ⟨gb, go + k * 7 + 5, none⟩ = some (.slice u.ia u.items.length u.ic) := hcell 5 _ rfl
              have d6 : wr.cell? ⟨gb, go + k * 7 + 6, none⟩ = some (.slice u.ta u.tail.length u.tc) := hcell 6 _ rfl
              have hba : Below wr.heap.size wr (wr.alloc (Obj.cells #[.int .i64 u.k, .bool u.g, .slice u.la u.ln u.lc, .bool u.bb, .string u.s, .slice u.ia u.items.length u.ic, .slice u.ta u.tail.length u.tc] 31)) := (Below.refl _ _).alloc (Nat.le_refl _) _
              have hMs : M ≤ wr.heap.size := Nat.le_trans hM hbs.size
              have HC := Lib.hid (IH.out u (Nat.le_trans hsz1 HS.out) hfi (wr.alloc (Obj.cells #[.int .i64 u.k, .bool u.g, .slice u.la u.ln u.lc, .bool u.bb, .string u.s, .slice u.ia u.items.length u.ic, .slice u.ta u.tail.length u.tc] 31)) (Nat.le_trans hMs hba.size) (hheld.keep hba.size (fun q hq => hba.block q (by omega))))
              have HBA := Lib.hid (bnext hbs hba)
              clear hli hcell hheld hsz1 hba hfi
              go_wp2_with fail
              refine HC.out.mono ?_
              rintro e w6 ⟨rfl, b6⟩
              have hb6 := bnext HBA.out b6
              go_wp2_with fail
              go_roundw
              case rel => exact ⟨k + 1, by omega, by go_num, hb6⟩
              case measure => simp [intOf]; omega
            · obtain rfl : k = l.length := by omega
              go_wp2_with fail
              go_roundw
              case rel => exact ⟨j + 1, by omega, by go_num, hbs⟩
              case measure => simp [intOf]; omega
        · obtain rfl : l = [] := List.length_eq_zero_iff.1 (by omega)
          have hrun' := hrun wr
          clear hli hsp ha hrun hl
          rw [List.length_nil] at hrun'
          go_wp2_with fail
          go_loopw [173] (fun i ws => i = .int .i64 0 ∧ ws = wr) (fun _ _ => 0)
          case atStart => exact ⟨rfl, rfl⟩
          case round =>
            obtain ⟨rfl, rfl⟩ := hrel
            clear hrun'
            go_wp2_with fail
            go_roundw
            case rel => exact ⟨j + 1, by omega, by go_num, hbel⟩
            case measure => simp [intOf]; omega
      · obtain rfl : j = 2 := by omega
        go_wp2_with fail
        go_ret
        exact ⟨rfl, hbel⟩
set_option maxRecDepth 100000 in
set_option maxHeartbeats 6400000 in
theorem is_list (M N : Nat) (hN : N + 1 ≤ 1000000) (ih : IsTo M N) (t : LT) (ht : t.size ≤ N + 1) (hF : FineD (shape t)) (w : World) (hM : M ≤ w.heap.size) (hH : Held w M t) (q1 : t.k = 5) (q2 : t.g = false) (l3 : t.ln = 0) (q4 : t.bb = false) (q5 : t.s = ⟨#[]⟩) (hm : t.tail.length = 0) (hn : 0 < t.items.length) :
    Calls Tryz.prog 43 #[.agg #[.int .i64 t.k, .bool t.g, .slice t.la t.ln t.lc, .bool t.bb, .string t.s, .slice t.ia t.items.length t.ic, .slice t.ta t.tail.length t.tc]] w fun e w' => e = .returned (.bool true) ∧ Below w.heap.size w w' := by
    have IH := Lib.hid ih
    clear ih
    have hb0 : ∀ O, Below w.heap.size w (w.alloc O) := fun O => (Below.refl _ _).alloc (Nat.le_refl _) _
    have HFI := Lib.hid (show ∀ j, j < 2 → ∀ k (h : k < (listB t j).length), FineD (shape (listB t j)[k]) by
      rw [shape_eq] at hF
      have hp := hF.parts
      intro j hj k h
      rcases (show j = 0 ∨ j = 1 by omega) with rfl | rfl
      · exact hp.1 _ (shape_mem h)
      · exact hp.2 _ (shape_mem h))
    have HHH := Lib.hid hH
    have hsi := t.size_eq
    have hg1 := sizes_ge t.items
    have HSZ := Lib.hid (show sizes (listB t 0) ≤ N ∧ sizes (listB t 1) ≤ N by simp only [listB]; omega)
    have en : decide ((t.items.length : Int) = 0) = false := decide_eq_false (by omega)
    have en2 : ((t.items.length : Int) == 0) = false := beq_eq_false_iff_ne.2 (by omega)
    clear hF hsi ht
    rw [q1, q2, q4, q5, l3]
    rw [hm]
    clear q1 q2 q4 q5 l3 hH
    go_enter Tryz.func43, Tryz.ntmps43
    go_wp2_with fail
    obtain ⟨A, hA⟩ : ∃ A, A = (#[.slice t.ia t.items.length t.ic, .slice t.ta 0 t.tc] : Array Value) := ⟨_, rfl⟩
    have HAT := Lib.hid (show ∀ j, j < 2 → ∃ a c, A[j]? = some (.slice a (listB t j).length c) ∧ Spot M a (listB t j).length c ∧ LiesR w M (listB t j) (blk a) (ofs a) by
      intro j hj
      rcases (show j = 0 ∨ j = 1 by omega) with rfl | rfl
      · exact ⟨t.ia, t.ic, by rw [hA]; rfl, HHH.out.2.1, HHH.out.2.2.2.1⟩
      · exact ⟨t.ta, t.tc, by rw [hA]; show some (Value.slice t.ta 0 t.tc) = some (.slice t.ta t.tail.length t.tc); rw [hm], HHH.out.2.2.1, HHH.out.2.2.2.2⟩)
    rw [← hA]
    clear hA
    go_loopw [168] (fun i wr => ∃ (j : Nat), j ≤ 2 ∧ i = .int .i64 j ∧ Below w.heap.size w wr) (fun i _ => 2 - (intOf i).toNat)
    case atStart => exact ⟨0, by decide, rfl, hb0 _⟩
    case round =>
      obtain ⟨j, hj, rfl, hbel⟩ := hrel
      clear hb0 en en2
      by_cases hj2 : j < 2
      · obtain ⟨a, c, ha, hsp, hli⟩ := HAT.out j hj2
        have hrun := fun w' => run_two A j _ w' hj2 ha rfl
        have hdj : decide ((j : Int) < 2) = true := by simp; omega
        have HS := Lib.hid (show sizes (listB t j) ≤ N by rcases (show j = 0 ∨ j = 1 by omega) with rfl | rfl; exact HSZ.out.1; exact HSZ.out.2)
        have HFF := Lib.hid (HFI.out j hj2)
        generalize listB t j = l at *
        by_cases hl : 0 < l.length
        · obtain ⟨haa, hlt⟩ := hsp.2.2.1 hl
          have hsz := hsp.2.1
          have hsc := hsp.1
          unfold maxLen at hsz
          have HLI := Lib.hid hli
          have hrun' := hrun wr
          clear hli hsp ha hrun
          rw [haa] at hrun'
          generalize blk a = gb at *
          generalize ofs a = go at *
          clear haa
          go_wp2_with fail
          go_loopw [173] (fun i ws => ∃ (k : Nat), k ≤ l.length ∧ i = .int .i64 k ∧ Below w.heap.size w ws) (fun i _ => l.length - (intOf i).toNat)
          case atStart => exact ⟨0, Nat.zero_le _, rfl, hbel⟩
          case round =>
            obtain ⟨k, hk, rfl, hbs⟩ := hrel
            clear hrun' hbel
            by_cases hlk : k < l.length
            · have hli := ((liesR_iff _ _ _).1 HLI.out k hlk).keep hbs.size (fun q hq => hbs.block q (by omega))
              obtain ⟨hgbM, hcell, hheld⟩ := lies_held.1 hli
              have hsz1 := sizes_mem hlk
              have hfi := HFF.out k hlk
              obtain ⟨u, hu⟩ : ∃ u, l[k] = u := ⟨_, rfl⟩
              rw [hu] at hcell hheld hsz1 hfi
              rw [Nat.mul_comm 7 k] at hcell
              have d0 : wr.cell? ⟨gb, go + k * 7, none⟩ = some (.int .i64 u.k) := hcell 0 _ rfl
              have d1 : wr.cell? ⟨gb, go + k * 7 + 1, none⟩ = some (.bool u.g) := hcell 1 _ rfl
              have d2 : wr.cell? ⟨gb, go + k * 7 + 2, none⟩ = some (.slice u.la u.ln u.lc) := hcell 2 _ rfl
              have d3 : wr.cell? ⟨gb, go + k * 7 + 3, none⟩ = some (.bool u.bb) := hcell 3 _ rfl
              have d4 : wr.cell? ⟨gb, go + k * 7 + 4, none⟩ = some (.string u.s) := hcell 4 _ rfl
              have d5 : wr.cell? ⟨gb, go + k * 7 + 5, none⟩ = some (.slice u.ia u.items.length u.ic) := hcell 5 _ rfl
              have d6 : wr.cell? ⟨gb, go + k * 7 + 6, none⟩ = some (.slice u.ta u.tail.length u.tc) := hcell 6 _ rfl
              have hba : Below wr.heap.size wr (wr.alloc (Obj.cells #[.int .i64 u.k, .bool u.g, .slice u.la u.ln u.lc, .bool u.bb, .string u.s, .slice u.ia u.items.length u.ic, .slice u.ta u.tail.length u.tc] 31)) := (Below.refl _ _).alloc (Nat.le_refl _) _
              have hMs : M ≤ wr.heap.size := Nat.le_trans hM hbs.size
              have HC := Lib.hid (IH.out u (Nat.le_trans hsz1 HS.out) hfi (wr.alloc (Obj.cells #[.int .i64 u.k, .bool u.g, .slice u.la u.ln u.lc, .bool u.bb, .string u.s, .slice u.ia u.items.length u.ic, .slice u.ta u.tail.length u.tc] 31)) (Nat.le_trans hMs hba.size) (hheld.keep hba.size (fun q hq => hba.block q (by omega))))
              have HBA := Lib.hid (bnext hbs hba)
              clear hli hcell hheld hsz1 hba hfi
              go_wp2_with fail
              refine HC.out.mono ?_
              rintro e w6 ⟨rfl, b6⟩
              have hb6 := bnext HBA.out b6
              go_wp2_with fail
              go_roundw
              case rel => exact ⟨k + 1, by omega, by go_num, hb6⟩
              case measure => simp [intOf]; omega
            · obtain rfl : k = l.length := by omega
              go_wp2_with fail
              go_roundw
              case rel => exact ⟨j + 1, by omega, by go_num, hbs⟩
              case measure => simp [intOf]; omega
        · obtain rfl : l = [] := List.length_eq_zero_iff.1 (by omega)
          have hrun' := hrun wr
          clear hli hsp ha hrun hl
          rw [List.length_nil] at hrun'
          go_wp2_with fail
          go_loopw [173] (fun i ws => i = .int .i64 0 ∧ ws = wr) (fun _ _ => 0)
          case atStart => exact ⟨rfl, rfl⟩
          case round =>
            obtain ⟨rfl, rfl⟩ := hrel
            clear hrun'
            go_wp2_with fail
            go_roundw
            case rel => exact ⟨j + 1, by omega, by go_num, hbel⟩
            case measure => simp [intOf]; omega
      · obtain rfl : j = 2 := by omega
        go_wp2_with fail
        go_ret
        exact ⟨rfl, hbel⟩
set_option maxRecDepth 100000 in
set_option maxHeartbeats 6400000 in
theorem is_dot (M N : Nat) (hN : N + 1 ≤ 1000000) (ih : IsTo M N) (t : LT) (ht : t.size ≤ N + 1) (hF : FineD (shape t)) (w : World) (hM : M ≤ w.heap.size) (hH : Held w M t) (q1 : t.k = 5) (q2 : t.g = false) (l3 : t.ln = 0) (q4 : t.bb = false) (q5 : t.s = ⟨#[]⟩) (hm : t.tail.length = 1) (hn : 0 < t.items.length) (hk : ∀ (h : 0 < t.tail.length), t.tail[0].k ≠ 5) :
    Calls Tryz.prog 43 #[.agg #[.int .i64 t.k, .bool t.g, .slice t.la t.ln t.lc, .bool t.bb, .string t.s, .slice t.ia t.items.length t.ic, .slice t.ta t.tail.length t.tc]] w fun e w' => e = .returned (.bool true) ∧ Below w.heap.size w w' := by
    have IH := Lib.hid ih
    clear ih
    have hb0 : ∀ O, Below w.heap.size w (w.alloc O) := fun O => (Below.refl _ _).alloc (Nat.le_refl _) _
    have HFI := Lib.hid (show ∀ j, j < 2 → ∀ k (h : k < (listB t j).length), FineD (shape (listB t j)[k]) by
      rw [shape_eq] at hF
      have hp := hF.parts
      intro j hj k h
      rcases (show j = 0 ∨ j = 1 by omega) with rfl | rfl
      · exact hp.1 _ (shape_mem h)
      · exact hp.2 _ (shape_mem h))
    have HHH := Lib.hid hH
    have hsi := t.size_eq
    have hg1 := sizes_ge t.items
    have HSZ := Lib.hid (show sizes (listB t 0) ≤ N ∧ sizes (listB t 1) ≤ N by simp only [listB]; omega)
    obtain ⟨hta, hlt⟩ := hH.2.2.1.2.2.1 (by omega)
    obtain ⟨hgbM, hcell, -⟩ := lies_held.1 ((liesR_iff _ _ _).1 hH.2.2.2.2 0 (by omega))
    have hkk := hk (by omega)
    obtain ⟨u, hu⟩ : ∃ u, t.tail[0] = u := ⟨_, rfl⟩
    rw [hu] at hcell hkk
    obtain ⟨tb, htb⟩ : ∃ b, blk t.ta = b := ⟨_, rfl⟩
    obtain ⟨to', hto⟩ : ∃ b, ofs t.ta = b := ⟨_, rfl⟩
    rw [htb] at hcell hgbM
    rw [htb, hto] at hta
    rw [hto] at hcell
    have hc0 : ∀ O, (w.alloc O).cell? ⟨tb, to', none⟩ = some (.int .i64 u.k) := fun O => (World.cell?_of_block (w := w) (a := ⟨tb, to', none⟩) (Below.heap_alloc _ _ _ (by show tb < _; omega))).trans (hcell 0 _ rfl)
    have e5 : decide (u.k = 5) = false := decide_eq_false hkk
    have e50 : (u.k == 5) = false := beq_eq_false_iff_ne.2 hkk
    have en : decide ((t.items.length : Int) = 0) = false := decide_eq_false (by omega)
    have en2 : ((t.items.length : Int) == 0) = false := beq_eq_false_iff_ne.2 (by omega)
    have hc1 := hc0 (.cells #[.int .i64 5, .bool false, .slice t.la 0 t.lc, .bool false, .string ⟨#[]⟩, .slice t.ia t.items.length t.ic, .slice (some ⟨tb, to', none⟩) 1 t.tc] 31)
    clear hcell hk hgbM hlt htb hto hu hc0
    clear hF hsi ht
    rw [q1, q2, q4, q5, l3]
    rw [hm, hta]
    clear q1 q2 q4 q5 l3 hH
    go_enter Tryz.func43, Tryz.ntmps43
    go_wp2_with fail
    obtain ⟨A, hA⟩ : ∃ A, A = (#[.slice t.ia t.items.length t.ic, (.slice (some ⟨tb, to', none⟩) 1 t.tc)] : Array Value) := ⟨_, rfl⟩
    have HAT := Lib.hid (show ∀ j, j < 2 → ∃ a c, A[j]? = some (.slice a (listB t j).length c) ∧ Spot M a (listB t j).length c ∧ LiesR w M (listB t j) (blk a) (ofs a) by
      intro j hj
      rcases (show j = 0 ∨ j = 1 by omega) with rfl | rfl
      · exact ⟨t.ia, t.ic, by rw [hA]; rfl, HHH.out.2.1, HHH.out.2.2.2.1⟩
      · exact ⟨t.ta, t.tc, by rw [hA]; show some (Value.slice (some ⟨tb, to', none⟩) 1 t.tc) = some (.slice t.ta t.tail.length t.tc); rw [hm, hta], HHH.out.2.2.1, HHH.out.2.2.2.2⟩)
    rw [← hA]
    clear hA
    go_loopw [168] (fun i wr => ∃ (j : Nat), j ≤ 2 ∧ i = .int .i64 j ∧ Below w.heap.size w wr) (fun i _ => 2 - (intOf i).toNat)
    case atStart => exact ⟨0, by decide, rfl, hb0 _⟩
    case round =>
      obtain ⟨j, hj, rfl, hbel⟩ := hrel
      clear hb0 hc1 e5 e50 en en2
      by_cases hj2 : j < 2
      · obtain ⟨a, c, ha, hsp, hli⟩ := HAT.out j hj2
        have hrun := fun w' => run_two A j _ w' hj2 ha rfl
        have hdj : decide ((j : Int) < 2) = true := by simp; omega
        have HS := Lib.hid (show sizes (listB t j) ≤ N by rcases (show j = 0 ∨ j = 1 by omega) with rfl | rfl; exact HSZ.out.1; exact HSZ.out.2)
        have HFF := Lib.hid (HFI.out j hj2)
        generalize listB t j = l at *
        by_cases hl : 0 < l.length
        · obtain ⟨haa, hlt⟩ := hsp.2.2.1 hl
          have hsz := hsp.2.1
          have hsc := hsp.1
          unfold maxLen at hsz
          have HLI := Lib.hid hli
          have hrun' := hrun wr
          clear hli hsp ha hrun
          rw [haa] at hrun'
          generalize blk a = gb at *
          generalize ofs a = go at *
          clear haa
          go_wp2_with fail
          go_loopw [173] (fun i ws => ∃ (k : Nat), k ≤ l.length ∧ i = .int .i64 k ∧ Below w.heap.size w ws) (fun i _ => l.length - (intOf i).toNat)
          case atStart => exact ⟨0, Nat.zero_le _, rfl, hbel⟩
          case round =>
            obtain ⟨k, hk, rfl, hbs⟩ := hrel
            clear hrun' hbel
            by_cases hlk : k < l.length
            · have hli := ((liesR_iff _ _ _).1 HLI.out k hlk).keep hbs.size (fun q hq => hbs.block q (by omega))
              obtain ⟨hgbM, hcell, hheld⟩ := lies_held.1 hli
              have hsz1 := sizes_mem hlk
              have hfi := HFF.out k hlk
              obtain ⟨u, hu⟩ : ∃ u, l[k] = u := ⟨_, rfl⟩
              rw [hu] at hcell hheld hsz1 hfi
              rw [Nat.mul_comm 7 k] at hcell
              have d0 : wr.cell? ⟨gb, go + k * 7, none⟩ = some (.int .i64 u.k) := hcell 0 _ rfl
              have d1 : wr.cell? ⟨gb, go + k * 7 + 1, none⟩ = some (.bool u.g) := hcell 1 _ rfl
              have d2 : wr.cell? ⟨gb, go + k * 7 + 2, none⟩ = some (.slice u.la u.ln u.lc) := hcell 2 _ rfl
              have d3 : wr.cell? ⟨gb, go + k * 7 + 3, none⟩ = some (.bool u.bb) := hcell 3 _ rfl
              have d4 : wr.cell? ⟨gb, go + k * 7 + 4, none⟩ = some (.string u.s) := hcell 4 _ rfl
              have d5 : wr.cell? ⟨gb, go + k * 7 + 5, none⟩ = some (.slice u.ia u.items.length u.ic) := hcell 5 _ rfl
              have d6 : wr.cell? ⟨gb, go + k * 7 + 6, none⟩ = some (.slice u.ta u.tail.length u.tc) := hcell 6 _ rfl
              have hba : Below wr.heap.size wr (wr.alloc (Obj.cells #[.int .i64 u.k, .bool u.g, .slice u.la u.ln u.lc, .bool u.bb, .string u.s, .slice u.ia u.items.length u.ic, .slice u.ta u.tail.length u.tc] 31)) := (Below.refl _ _).alloc (Nat.le_refl _) _
              have hMs : M ≤ wr.heap.size := Nat.le_trans hM hbs.size
              have HC := Lib.hid (IH.out u (Nat.le_trans hsz1 HS.out) hfi (wr.alloc (Obj.cells #[.int .i64 u.k, .bool u.g, .slice u.la u.ln u.lc, .bool u.bb, .string u.s, .slice u.ia u.items.length u.ic, .slice u.ta u.tail.length u.tc] 31)) (Nat.le_trans hMs hba.size) (hheld.keep hba.size (fun q hq => hba.block q (by omega))))
              have HBA := Lib.hid (bnext hbs hba)
              clear hli hcell hheld hsz1 hba hfi
              go_wp2_with fail
              refine HC.out.mono ?_
              rintro e w6 ⟨rfl, b6⟩
              have hb6 := bnext HBA.out b6
              go_wp2_with fail
              go_roundw
              case rel => exact ⟨k + 1, by omega, by go_num, hb6⟩
              case measure => simp [intOf]; omega
            · obtain rfl : k = l.length := by omega
              go_wp2_with fail
              go_roundw
              case rel => exact ⟨j + 1, by omega, by go_num, hbs⟩
              case measure => simp [intOf]; omega
        · obtain rfl : l = [] := List.length_eq_zero_iff.1 (by omega)
          have hrun' := hrun wr
          clear hli hsp ha hrun hl
          rw [List.length_nil] at hrun'
          go_wp2_with fail
          go_loopw [173] (fun i ws => i = .int .i64 0 ∧ ws = wr) (fun _ _ => 0)
          case atStart => exact ⟨rfl, rfl⟩
          case round =>
            obtain ⟨rfl, rfl⟩ := hrel
            clear hrun'
            go_wp2_with fail
            go_roundw
            case rel => exact ⟨j + 1, by omega, by go_num, hbel⟩
            case measure => simp [intOf]; omega
      · obtain rfl : j = 2 := by omega
        go_wp2_with fail
        go_ret
        exact ⟨rfl, hbel⟩
theorem is_fine (M : Nat) : ∀ N : Nat, N ≤ 1000000 → IsTo M N
  | 0, _, t, ht, _, _, _, _ => by rw [t.size_eq] at ht; omega
  | N + 1, hN, t, ht, hF, w, hM, hH => by
    by_cases h5 : t.k = 5
    · have hF' := hF
      generalize hd : shape t = d at hF'
      rw [shape_eq] at hd
      cases hF' with
      | truth b => injection hd with q1; rw [h5] at q1; exact absurd q1 (by decide)
      | num z hz => injection hd with q1; rw [h5] at q1; exact absurd q1 (by decide)
      | sym l h1 h2 => injection hd with q1; rw [h5] at q1; exact absurd q1 (by decide)
      | str l h2 => injection hd with q1; rw [h5] at q1; exact absurd q1 (by decide)
      | list l _ =>
        injection hd with q1 q2 q3 q4 q5 q6 q7
        have l3 := ln_of hH q3
        rw [List.length_nil] at l3
        by_cases hn : 0 < t.items.length
        · exact is_list M N hN (is_fine M N (by omega)) t ht hF w hM hH q1 q2 l3 q4 q5 (no_items q7) hn
        · exact is_none M N hN (is_fine M N (by omega)) t ht hF w hM hH q1 q2 l3 q4 q5 (no_items q7) (by omega)
      | dot l e hne _ _ hek =>
        injection hd with q1 q2 q3 q4 q5 q6 q7
        have l3 := ln_of hH q3
        rw [List.length_nil] at l3
        have l1 : t.items.length = l.length := by rw [← shapes_length, q6]
        have l2 : t.tail.length = 1 := by rw [← shapes_length, q7]; rfl
        have hl := List.length_pos_iff.2 hne
        refine is_dot M N hN (is_fine M N (by omega)) t ht hF w hM hH q1 q2 l3 q4 q5 l2 (by omega) fun h => ?_
        have hs : shape t.tail[0] ∈ shapes t.tail := shape_mem h
        rw [q7, List.mem_singleton] at hs
        rw [← hs, shape_eq] at hek
        exact hek
    · exact is_leaf M t hF h5 w hM hH
end

section

theorem digN_chr (d : Nat) (h : d < 36) : digN (chr d).toNat = d := by
  have : ∀ d : Fin 36, digN (chr d.1).toNat = d.1 := by decide
  exact this ⟨d, h⟩
theorem numB_digits (b : Nat) (hb : b ≤ 36) (ds : List Nat) (h : Okb b ds) : numB b (ds.reverse.map chr) = valb b ds := by
  induction ds with
  | nil => rfl
  | cons x xs ih =>
    rw [List.reverse_cons, List.map_append, List.map_singleton, numB_snoc, ih h.tail, valb_cons]
    have : digN (chr x).toNat = x := digN_chr x (by have := h.head; omega)
    rw [this, Nat.mul_comm, Nat.add_comm]
theorem numB_txt (n : Nat) : numB 10 (txt 10 n) = n := by
  unfold txt
  split
  · rename_i h; subst h; simp [numB, digN]
  · rw [numB_digits 10 (by decide) _ (digs_ok 10 n (by omega)), digs_val 10 n (by decide)]
theorem txt_byte (n : Nat) : ∀ c, c ∈ txt 10 n → 48 ≤ c.toNat ∧ c.toNat ≤ 57 := by
  unfold txt
  split
  · intro c hc
    rw [List.mem_singleton.1 hc]; decide
  · intro c hc
    obtain ⟨d, hd, rfl⟩ := List.mem_map.1 hc
    have hd10 := digs_ok 10 n (by omega) d (List.mem_reverse.1 hd)
    have key : ∀ d : Fin 10, 48 ≤ (chr d.1).toNat ∧ (chr d.1).toNat ≤ 57 := by decide
    exact key ⟨d, hd10⟩
theorem txt_ne (n : Nat) : txt 10 n ≠ [] := by
  unfold txt
  split
  · simp
  · rename_i h
    intro e
    rw [List.map_eq_nil_iff, List.reverse_eq_nil_iff] at e
    exact h ((digs_nil_iff 10 n (by decide)).1 e)
theorem pow_top (k m : Nat) (h : 32 * k ≤ 3 * m) : 4294967296 ^ k ≤ 10 ^ m := by
  have e : (4294967296 : Nat) ^ k = 2 ^ (32 * k) := by rw [Nat.pow_mul]
  have h1 : (2 : Nat) ^ (32 * k) ≤ 2 ^ (3 * m) := Nat.pow_le_pow_right (by decide) h
  have h2 : (2 : Nat) ^ (3 * m) = 8 ^ m := by rw [Nat.pow_mul]
  have h3 : (8 : Nat) ^ m ≤ 10 ^ m := Nat.pow_le_pow_left (by decide) m
  rw [e]
  exact Nat.le_trans h1 (h2 ▸ h3)
theorem txt_short (n : Nat) (h : (limbs n).length ≤ 64) : (txt 10 n).length ≤ 700 := by
  have hn : n < 4294967296 ^ (limbs n).length := by
    have h1 := val_lt (limbs_ok n)
    rwa [limbs_val] at h1
  unfold txt
  split
  · simp
  · rw [List.length_map, List.length_reverse]
    rcases hm : (digs 10 n).length with _ | m
    · omega
    · have h1 := digs_len 10 n (by decide) m hm
      rcases Nat.lt_or_ge m 683 with h2 | h2
      · omega
      · have h3 := pow_top (limbs n).length m (by omega)
        exact absurd (Nat.lt_of_le_of_lt h1 hn) (Nat.not_lt.2 h3)
theorem digN_dec (c : UInt8) : digN c.toNat < 10 ↔ 48 ≤ c.toNat ∧ c.toNat ≤ 57 := by
  unfold digN
  split
  · omega
  · split
    · omega
    · split <;> omega
theorem natP_txt (n : Nat) (h : (limbs n).length ≤ 64) (s : ByteArray) (hs : s.data.toList = txt 10 n) : natP s = (true, n) := by
  have hl : s.size = (txt 10 n).length := by rw [← hs]; simp
  have h1 := txt_short n h
  have h0 : 1 ≤ (txt 10 n).length := by have := txt_ne n; cases hx : txt 10 n with | nil => exact absurd hx this | cons _ _ => simp
  unfold natP
  rw [if_pos ⟨by omega, by omega, by rw [hs, List.all_eq_true]; exact fun c hc => decide_eq_true ((digN_dec c).2 (txt_byte n c hc))⟩, hs, numB_txt]
theorem wtxt_bytes (z : Int) : ∀ c, c ∈ wtxt z → c = 45 ∨ (48 ≤ c.toNat ∧ c.toNat ≤ 57) := by
  unfold wtxt
  split
  · intro c hc
    rcases List.mem_cons.1 hc with rfl | hc
    · exact .inl rfl
    · exact .inr (txt_byte _ c hc)
  · exact fun c hc => .inr (txt_byte _ c hc)
theorem wtxt_ne (z : Int) : wtxt z ≠ [] := by
  unfold wtxt
  split
  · simp
  · exact txt_ne _
theorem num_z (z : Int) : zOf (decide (z < 0)) (val (limbs z.natAbs)) = z := by rw [limbs_val]; exact (zOf_self z).symm
theorem zpar_cons (c : UInt8) (m : By) : zpar (c :: m) = if c = 45 then ((natP ((bytesOf (c :: m)).extract 1 (bytesOf (c :: m)).size)).1, zOf true (natP ((bytesOf (c :: m)).extract 1 (bytesOf (c :: m)).size)).2) else if c = 43 then ((natP ((bytesOf (c :: m)).extract 1 (bytesOf (c :: m)).size)).1, zOf false (natP ((bytesOf (c :: m)).extract 1 (bytesOf (c :: m)).size)).2) else ((natP (bytesOf (c :: m))).1, zOf false (natP (bytesOf (c :: m))).2) := rfl
theorem zpar_txt {z : Int} (h : (limbs z.natAbs).length ≤ 64) : zpar (wtxt z) = (true, z) := by
  by_cases hz : z < 0
  · rw [show wtxt z = 45 :: txt 10 z.natAbs by unfold wtxt; rw [if_pos hz], zpar_cons, if_pos rfl, natP_txt z.natAbs h _ (by rw [extract_one]; rfl)]
    show (true, zOf true z.natAbs) = _
    rw [zOf_true]
    exact congrArg _ (by omega)
  · have e : wtxt z = txt 10 z.natAbs := by unfold wtxt; rw [if_neg hz]
    have hb := txt_byte z.natAbs
    rw [e]
    cases hx : txt 10 z.natAbs with
    | nil => exact absurd hx (txt_ne _)
    | cons c m =>
      rw [hx] at hb
      have hc := hb c (by simp)
      have n45 : c ≠ 45 := fun e => by rw [e] at hc; exact absurd hc (by decide)
      have n43 : c ≠ 43 := fun e => by rw [e] at hc; exact absurd hc (by decide)
      rw [zpar_cons, if_neg n45, if_neg n43, natP_txt z.natAbs h _ (by rw [hx]; rfl)]
      show (true, zOf false z.natAbs) = _
      rw [zOf_false]
      exact congrArg _ (by omega)
theorem natP_digits {s : ByteArray} (h : (natP s).1 = true) : 1 ≤ s.size ∧ ∀ c, c ∈ s.data.toList → 48 ≤ c.toNat ∧ c.toNat ≤ 57 := by
  unfold natP at h
  split at h
  · rename_i h1
    exact ⟨h1.1, fun c hc => (digN_dec c).1 (of_decide_eq_true (List.all_eq_true.1 h1.2.2 c hc))⟩
  · cases h
theorem zpar_plain {l : By} (h : plainB (bytesOf l) = true) : (zpar l).1 = false := by
  cases l with
  | nil => rfl
  | cons c m =>
    simp only [plainB, Bool.and_eq_true, Bool.not_eq_true'] at h
    obtain ⟨⟨_, hd⟩, hb⟩ := h
    have he : (zpar (c :: m)).1 = if c = 45 then (natP ((bytesOf (c :: m)).extract 1 (bytesOf (c :: m)).size)).1 else if c = 43 then (natP ((bytesOf (c :: m)).extract 1 (bytesOf (c :: m)).size)).1 else (natP (bytesOf (c :: m))).1 := by
      rw [zpar_cons]
      split
      · rfl
      · split <;> rfl
    have hsg : (c = 45 ∨ c = 43) → (natP ((bytesOf (c :: m)).extract 1 (bytesOf (c :: m)).size)).1 = false := fun hc => by
      cases hx : (natP ((bytesOf (c :: m)).extract 1 (bytesOf (c :: m)).size)).1 with
      | false => rfl
      | true =>
        exfalso
        obtain ⟨h1, h2⟩ := natP_digits hx
        have e1 : ((bytesOf (c :: m)).extract 1 (bytesOf (c :: m)).size).data.toList = m := by rw [extract_one]; rfl
        rw [e1] at h2
        cases m with
        | nil =>
          have : ((bytesOf [c]).extract 1 (bytesOf [c]).size).size = 0 := by
            have := congrArg List.length e1
            simpa using this
          omega
        | cons a m =>
          have ha := h2 a (by simp)
          have hb1 : begB (bytesOf (c :: a :: m)) = true := by
            have e2 : at8 (bytesOf (c :: a :: m)) 0 = c.toNat := rfl
            have e3 : at8 (bytesOf (c :: a :: m)) 1 = a.toNat := rfl
            have e4 : (bytesOf (c :: a :: m)).size = m.length + 2 := rfl
            unfold begB
            rw [e2, e3, e4]
            simp only [isDig, Bool.and_eq_true, Bool.or_eq_true, decide_eq_true_eq, beq_iff_eq]
            refine ⟨⟨by omega, ?_⟩, ha⟩
            rcases hc with rfl | rfl
            · exact .inl (.inr rfl)
            · exact .inl (.inl rfl)
          rw [hb1] at hb
          cases hb
    rw [he]
    split
    · rename_i hc; exact hsg (.inl hc)
    · split
      · rename_i hc; exact hsg (.inr hc)
      · cases hx : (natP (bytesOf (c :: m))).1 with
        | false => rfl
        | true =>
          exfalso
          have h2 := (natP_digits hx).2 c (by simp [bytesOf])
          have e2 : at8 (bytesOf (c :: m)) 0 = c.toNat := rfl
          rw [e2] at hd
          simp only [isDig, Bool.and_eq_false_iff, decide_eq_false_iff_not] at hd
          omega
theorem hexL_2 (a b : UInt8) (l : By) : hexL (a :: b :: l) = if hexN a.toNat = 16 then none else if b = 59 then some ([UInt8.ofNat (hexN a.toNat)], 4) else if hexN b.toNat = 16 then none else match l with
      | [] => none
      | c :: _ => if c = 59 then some ([UInt8.ofNat (hexN a.toNat * 16 + hexN b.toNat)], 5) else none := rfl
/-- What may stand behind an atom. -/
def EndL (r : By) : Prop := ∀ c m, r = c :: m → (isBl c || isMk c) = true
theorem endL_nil : EndL [] := fun _ _ h => by cases h
theorem endL_of {c : UInt8} (m : By) (h : (isBl c || isMk c) = true) : EndL (c :: m) := fun _ _ e => by injection e with e _; rw [← e]; exact h
theorem ahead_end : ∀ (s : By) {r : By}, (∀ c, c ∈ s → (isBl c || isMk c) = false) → EndL r → aheadL (s ++ r) = s
  | [], [], _, _ => rfl
  | [], c :: m, _, h => by
    show List.takeWhile _ (c :: m) = []
    rw [List.takeWhile_cons, h c m rfl]; rfl
  | c :: s, r, h, hr => by
    show List.takeWhile _ (c :: (s ++ r)) = _
    rw [List.takeWhile_cons, h c (by simp)]
    exact congrArg (c :: ·) (ahead_end s (fun x hx => h x (by simp [hx])) hr)
theorem by8_toNat (c : UInt8) : by8 c.toNat = c := by simp [by8]
theorem hexN_hexd (i : Nat) (h : i < 16) : hexN (hexd i).toNat = i := by
  have key : ∀ k : Fin 16, hexN (hexd k.val).toNat = k.val := by decide
  exact key ⟨i, h⟩
theorem hexd_ne (i : Nat) (h : i < 16) : hexd i ≠ 59 := by
  have key : ∀ k : Fin 16, hexd k.val ≠ 59 := by decide
  exact key ⟨i, h⟩
theorem escL_2 (M a c : UInt8) (x : By) : escL M (a :: c :: x) = if c = 110 then some ([10], 2) else if c = 116 then some ([9], 2) else if c = 114 then some ([13], 2) else if c = M ∨ c = 92 then some ([c], 2) else if c = 120 then hexL x else if brokenL (a :: c :: x) = 0 then none else some ([], brokenL (a :: c :: x)) := rfl
theorem mk_one (M : UInt8) (hM : M = 124 ∨ M = 34) (c : UInt8) (n : Nat) (acc x : By) : mkL (n + 1) M acc (esc M.toNat c.toNat ++ x) = mkL n M (acc ++ [c]) x := by
  have hM92 : (92 : UInt8) ≠ M := by rcases hM with rfl | rfl <;> decide
  unfold esc
  split
  · rename_i h
    have h' : c = M ∨ c = 92 := h.imp UInt8.toNat_inj.1 (fun e => UInt8.toNat_inj.1 e)
    have e : escL M (92 :: c :: x) = some ([c], 2) := by
      rw [escL_2]
      have a1 : c ≠ 110 := by rcases h' with rfl | rfl; (rcases hM with rfl | rfl <;> decide); decide
      have a2 : c ≠ 116 := by rcases h' with rfl | rfl; (rcases hM with rfl | rfl <;> decide); decide
      have a3 : c ≠ 114 := by rcases h' with rfl | rfl; (rcases hM with rfl | rfl <;> decide); decide
      rw [if_neg a1, if_neg a2, if_neg a3, if_pos h']
    rw [by8_toNat]
    show mkL (n + 1) M acc (92 :: c :: x) = _
    rw [mkL, if_neg hM92, if_pos rfl, e]
    rfl
  · rename_i h
    split
    · rename_i h2
      obtain ⟨hM34, hc⟩ := h2
      obtain rfl : M = 34 := UInt8.toNat_inj.1 hM34
      obtain rfl : c = 10 := UInt8.toNat_inj.1 hc
      rfl
    · split
      · rename_i h2
        obtain ⟨hM34, hc⟩ := h2
        obtain rfl : M = 34 := UInt8.toNat_inj.1 hM34
        obtain rfl : c = 9 := UInt8.toNat_inj.1 hc
        rfl
      · split
        · have hlt : c.toNat < 256 := UInt8.toNat_lt c
          have q1 := hexN_hexd (c.toNat / 16) (by omega)
          have q2 := hexN_hexd (c.toNat % 16) (by omega)
          have q3 := hexd_ne (c.toNat % 16) (by omega)
          have e : escL M (92 :: 120 :: hexd (c.toNat / 16) :: hexd (c.toNat % 16) :: 59 :: x) = some ([c], 5) := by
            rw [escL_2]
            have a4 : ¬ ((120 : UInt8) = M ∨ (120 : UInt8) = 92) := by rcases hM with rfl | rfl <;> decide
            rw [if_neg (by decide), if_neg (by decide), if_neg (by decide), if_neg a4, if_pos rfl]
            show hexL (hexd (c.toNat / 16) :: hexd (c.toNat % 16) :: 59 :: x) = _
            rw [hexL_2, q1, if_neg (by omega), if_neg q3, q2, if_neg (by omega)]
            dsimp only
            rw [if_pos rfl, show c.toNat / 16 * 16 + c.toNat % 16 = c.toNat by omega]
            simp
          show mkL (n + 1) M acc (92 :: 120 :: hexd (c.toNat / 16) :: hexd (c.toNat % 16) :: 59 :: x) = _
          rw [mkL, if_neg hM92, if_pos rfl, e]
          rfl
        · rw [by8_toNat]
          show mkL (n + 1) M acc (c :: x) = _
          rw [mkL, if_neg (fun e => h (.inl (by rw [e]))), if_neg (fun e => h (.inr (by rw [e]; rfl)))]
theorem mk_escs (M : UInt8) (hM : M = 124 ∨ M = 34) : ∀ (l : By) (n : Nat) (acc r : By), l.length < n → mkL n M acc (escs M.toNat l ++ M :: r) = (some (acc ++ l), r)
  | [], 0, _, _, h => absurd h (by simp)
  | [], n + 1, acc, r, _ => by
    show mkL (n + 1) M acc (M :: r) = _
    rw [mkL, if_pos rfl, List.append_nil]
  | c :: l, 0, _, _, h => absurd h (by simp)
  | c :: l, n + 1, acc, r, h => by
    rw [escs, List.append_assoc, mk_one M hM, mk_escs M hM l n _ _ (by simpa using h), List.append_assoc]
    rfl
theorem escs_ge (M : Nat) : ∀ l : By, l.length ≤ (escs M l).length
  | [] => Nat.zero_le _
  | c :: l => by
    have h1 : 1 ≤ (esc M c.toNat).length := by unfold esc; (repeat' split) <;> simp
    have := escs_ge M l
    simp only [escs, List.length_append, List.length_cons]; omega
theorem str_back {l : By} (h : l.length ≤ 1024) (r : By) : strL (betw 34 l ++ r) = .ok (strD l) r := by
  have e : betw 34 l ++ r = 34 :: (escs (34 : UInt8).toNat l ++ 34 :: r) := by simp [betw, by8]
  have hl := escs_ge (34 : UInt8).toNat l
  rw [e]
  unfold strL
  rw [List.drop_one, List.tail_cons, mk_escs 34 (.inr rfl) l _ [] r (by simp only [List.length_cons, List.length_append]; omega)]
  dsimp only
  rw [List.nil_append, if_pos h]
theorem bar_back {l : By} (h0 : l ≠ []) (h : l.length ≤ 64) (r : By) : barL (betw 124 l ++ r) = .ok (symD l) r := by
  have e : betw 124 l ++ r = 124 :: (escs (124 : UInt8).toNat l ++ 124 :: r) := by simp [betw, by8]
  have hl := escs_ge (124 : UInt8).toNat l
  rw [e]
  unfold barL
  rw [List.drop_one, List.tail_cons, mk_escs 124 (.inl rfl) l _ [] r (by simp only [List.length_cons, List.length_append]; omega)]
  dsimp only
  rw [List.nil_append, if_pos ⟨h0, h⟩]
set_option maxRecDepth 100000 in
theorem pl_all (c : UInt8) (h : isPl c.toNat = true) : (isBl c || isMk c) = false ∧ c ≠ 35 ∧ c ≠ 59 ∧ c ≠ 41 ∧ opensL c = false := by
  have key : ∀ k : Fin 256, isPl (UInt8.ofNat k.val).toNat = true → (isBl (UInt8.ofNat k.val) || isMk (UInt8.ofNat k.val)) = false ∧ UInt8.ofNat k.val ≠ 35 ∧ UInt8.ofNat k.val ≠ 59 ∧ UInt8.ofNat k.val ≠ 41 ∧ opensL (UInt8.ofNat k.val) = false := by decide
  have := key ⟨c.toNat, UInt8.toNat_lt c⟩
  simp only [UInt8.ofNat_toNat] at this
  exact this h
set_option maxRecDepth 100000 in
theorem num_all (c : UInt8) (h : c = 45 ∨ (48 ≤ c.toNat ∧ c.toNat ≤ 57)) : (isBl c || isMk c) = false ∧ c ≠ 35 ∧ c ≠ 59 ∧ c ≠ 41 ∧ opensL c = false ∧ c ≠ 46 := by
  have key : ∀ k : Fin 256, (UInt8.ofNat k.val = 45 ∨ (48 ≤ (UInt8.ofNat k.val).toNat ∧ (UInt8.ofNat k.val).toNat ≤ 57)) → (isBl (UInt8.ofNat k.val) || isMk (UInt8.ofNat k.val)) = false ∧ UInt8.ofNat k.val ≠ 35 ∧ UInt8.ofNat k.val ≠ 59 ∧ UInt8.ofNat k.val ≠ 41 ∧ opensL (UInt8.ofNat k.val) = false ∧ UInt8.ofNat k.val ≠ 46 := by decide
  have := key ⟨c.toNat, UInt8.toNat_lt c⟩
  simp only [UInt8.ofNat_toNat] at this
  exact this h
theorem plain_pl {l : By} (h : plainB (bytesOf l) = true) : l ≠ [] ∧ l ≠ [46] ∧ ∀ c, c ∈ l → isPl c.toNat = true := by
  simp only [plainB, Bool.and_eq_true, decide_eq_true_eq, Bool.not_eq_true', beq_eq_false_iff_ne, ne_eq, List.all_eq_true] at h
  obtain ⟨⟨⟨⟨⟨h1, h2⟩, h3⟩, h4⟩, _⟩, _⟩ := h
  exact ⟨fun e => by subst e; exact absurd h1 (by decide), h3, h4⟩
/-- How a datum's text begins. -/
structure Beg (x : By) : Prop where
  stop : stopL x = true
  close : x.head? ≠ some 41
  dot : aheadL x ≠ [46]
theorem beg_mark {c : UInt8} (m : By) (h : c = 124 ∨ c = 34 ∨ c = 40) : Beg (c :: m) := by
  rcases h with rfl | rfl | rfl
  · exact ⟨rfl, by simp, by simp [aheadL, isBl, isMk]⟩
  · exact ⟨rfl, by simp, by simp [aheadL, isBl, isMk]⟩
  · exact ⟨rfl, by simp, by simp [aheadL, isBl, isMk]⟩
theorem beg_atom {c : UInt8} {m : By} {r : By} (h1 : c ≠ 35) (h2 : c ≠ 59) (h3 : c ≠ 41) (hall : ∀ x, x ∈ c :: m → (isBl x || isMk x) = false) (hd : c :: m ≠ [46]) (hr : EndL r) : Beg (c :: m ++ r) := by
  have hb := hall c (by simp)
  rw [Bool.or_eq_false_iff] at hb
  refine ⟨?_, ?_, ?_⟩
  · show stopL (c :: (m ++ r)) = true
    have e2 : (c == 59) = false := by simpa using h2
    have e1 : (c == 35) = false := by simpa using h1
    simp [stopL, hb.1, e1, e2]
  · show (some c) ≠ some 41
    simpa using h3
  · rw [ahead_end _ hall hr]; exact hd
def wN : DT → By := wD nameS quoS
theorem name_text (l : By) : (nameS (bytesOf l)).data.toList = if plainB (bytesOf l) = true then l else betw 124 l := by
  unfold nameS
  split <;> rename_i h <;> simp [bytesOf]
theorem quo_text (l : By) : (quoS (bytesOf l)).data.toList = betw 34 l := by simp [quoS, bytesOf]
theorem wN_truth (b : Bool) : wN (truthD b) = if b then [35, 116] else [35, 102] := by simp [wN, truthD, wD]
theorem wN_num (z : Int) : wN (numD z) = wtxt z := by simp [wN, numD, wD, num_z]
theorem wN_sym (l : By) : wN (symD l) = if plainB (bytesOf l) = true then l else betw 124 l := by rw [← name_text]; simp [wN, symD, wD]
theorem wN_str (l : By) : wN (strD l) = betw 34 l := by rw [← quo_text]; simp [wN, strD, wD]
theorem wN_list (l tail : List DT) : wN (listD l tail) = 40 :: (wR nameS quoS l ++ (wTl nameS quoS tail ++ [41])) := by simp [wN, listD, wD]
theorem beg_betw (M : UInt8) (l : By) (r : By) (h : M = 124 ∨ M = 34) : Beg (betw M.toNat l ++ r) := by
  have e : betw M.toNat l ++ r = M :: (escs M.toNat l ++ M :: r) := by simp [betw, by8]
  rw [e]
  exact beg_mark _ (h.imp id .inl)
theorem fine_beg {d : DT} (h : FineD d) {r : By} (hr : EndL r) : Beg (wN d ++ r) := by
  cases h with
  | truth b =>
    rw [wN_truth]
    cases b
    · exact ⟨rfl, by simp, by show aheadL ([35, 102] ++ r) ≠ _; rw [ahead_end [35, 102] (by decide) hr]; decide⟩
    · exact ⟨rfl, by simp, by show aheadL ([35, 116] ++ r) ≠ _; rw [ahead_end [35, 116] (by decide) hr]; decide⟩
  | num z hz =>
    rw [wN_num]
    have hb := wtxt_bytes z
    have hne := wtxt_ne z
    cases hw : wtxt z with
    | nil => exact absurd hw hne
    | cons c m =>
      rw [hw] at hb
      have hc := num_all c (hb c (by simp))
      exact beg_atom hc.2.1 hc.2.2.1 hc.2.2.2.1 (fun x hx => (num_all x (hb x hx)).1) (fun e => hc.2.2.2.2.2 (by injection e)) hr
  | sym l h0 h64 =>
    rw [wN_sym]
    split
    · rename_i hp
      obtain ⟨h1, h2, h3⟩ := plain_pl hp
      cases l with
      | nil => exact absurd rfl h1
      | cons c m =>
        have hc := pl_all c (h3 c (by simp))
        exact beg_atom hc.2.1 hc.2.2.1 hc.2.2.2.1 (fun x hx => (pl_all x (h3 x hx)).1) h2 hr
    · exact beg_betw 124 l r (.inl rfl)
  | str l _ => rw [wN_str]; exact beg_betw 34 l r (.inr rfl)
  | list l _ => rw [wN_list]; exact beg_mark _ (.inr (.inr rfl))
  | dot l e _ _ _ _ => rw [wN_list]; exact beg_mark _ (.inr (.inr rfl))
theorem end_rest (l tail : List DT) (r : By) : EndL (wQ nameS quoS l ++ (wTl nameS quoS tail ++ 41 :: r)) := by
  cases l with
  | cons t l => rw [wQ_cons]; exact endL_of _ rfl
  | nil =>
    rw [wQ_nil]
    cases tail with
    | nil => rw [wTl_nil]; exact endL_of _ rfl
    | cons e t => rw [wTl_cons]; exact endL_of _ rfl
theorem datum_bl {x : By} {k : Nat} {R : Res} (hx : stopL x = true) (h : Rdd .datum x k R) : Rdd .datum (32 :: x) k R := Rdd.ahead (.bl rfl (.stop hx)) (.stop hx) h
theorem list_rest (tail : List DT) (k : Nat) (r : By) (htl : tail = [] ∨ ∃ e, tail = [e] ∧ FineD e ∧ ∀ q, EndL q → Rdd .datum (wN e ++ q) k (.ok e q)) :
    ∀ (l acc : List DT), acc ≠ [] → (∀ d, d ∈ l → FineD d ∧ ∀ q, EndL q → Rdd .datum (wN d ++ q) k (.ok d q)) → Rdd (.list 41 acc) (wQ nameS quoS l ++ (wTl nameS quoS tail ++ 41 :: r)) k (.ok (listD (acc ++ l) tail) r)
  | [], acc, ha, _ => by
    rw [wQ_nil, List.append_nil, List.nil_append]
    rcases htl with rfl | ⟨e, rfl, hf, he⟩
    · rw [wTl_nil, List.nil_append]
      exact .lclose (m := 41 :: r) (.stop rfl) rfl
    · rw [wTl_cons]
      have hE : EndL (41 :: r) := endL_of _ rfl
      have hb := fine_beg hf hE
      exact .ldot (m := 46 :: 32 :: (wN e ++ 41 :: r)) (q := 41 :: r) (.bl rfl (.stop rfl)) (by simp) ⟨ha, ahead_end [46] (by decide) (endL_of _ rfl)⟩ (datum_bl hb.stop (he _ hE)) (.stop rfl) rfl
  | t :: l, acc, ha, hall => by
    obtain ⟨hf, ht⟩ := hall t (by simp)
    have hE := end_rest l tail r
    have hb := fine_beg hf hE
    have e : wQ nameS quoS (t :: l) ++ (wTl nameS quoS tail ++ 41 :: r) = 32 :: (wN t ++ (wQ nameS quoS l ++ (wTl nameS quoS tail ++ 41 :: r))) := by rw [wQ_cons]; simp [wN]
    rw [e]
    have H := list_rest tail k r htl l (acc ++ [t]) (by simp) (fun d hd => hall d (by simp [hd]))
    rw [List.append_assoc] at H
    exact .litem (.bl rfl (.stop hb.stop)) hb.close (fun h => hb.dot h.2) (ht _ hE) H
theorem list_back (l tail : List DT) (k : Nat) (r : By) (htl : tail = [] ∨ l ≠ [] ∧ ∃ e, tail = [e] ∧ FineD e ∧ ∀ q, EndL q → Rdd .datum (wN e ++ q) (k + 1) (.ok e q)) (hk : k < 200)
    (hall : ∀ d, d ∈ l → FineD d ∧ ∀ q, EndL q → Rdd .datum (wN d ++ q) (k + 1) (.ok d q)) : Rdd .datum (wN (listD l tail) ++ r) k (.ok (listD l tail) r) := by
  have e : wN (listD l tail) ++ r = 40 :: (wR nameS quoS l ++ (wTl nameS quoS tail ++ 41 :: r)) := by rw [wN_list]; simp
  rw [e]
  refine .dlist (c := 40) (.stop rfl) (.inl rfl) hk ?_
  show Rdd (.list 41 []) _ _ _
  cases l with
  | nil =>
    rcases htl with rfl | ⟨h, _⟩
    · rw [wR_nil, wTl_nil]
      exact .lclose (m := 41 :: r) (.stop rfl) rfl
    · exact absurd rfl h
  | cons t l =>
    obtain ⟨hf, ht⟩ := hall t (by simp)
    have hE := end_rest l tail r
    have hb := fine_beg hf hE
    have e2 : wR nameS quoS (t :: l) ++ (wTl nameS quoS tail ++ 41 :: r) = wN t ++ (wQ nameS quoS l ++ (wTl nameS quoS tail ++ 41 :: r)) := by rw [wR_cons]; simp [wN]
    rw [e2]
    exact .litem (.stop hb.stop) hb.close (fun h => h.1 rfl) (ht _ hE) (list_rest tail (k + 1) r (htl.imp id And.right) l ([] ++ [t]) (by simp) (fun d hd => hall d (by simp [hd])))
theorem depth_mem {d : DT} : ∀ {l : List DT}, d ∈ l → depthD d ≤ depthsD l
  | t :: l, h => by
    simp only [depthsD]
    rcases List.mem_cons.1 h with rfl | h
    · omega
    · have := depth_mem h; omega
theorem depth_list (l tail : List DT) : depthD (listD l tail) = 1 + max (depthsD l) (depthsD tail) := by simp [listD, depthD]
/-- What is written of a datum is read as that datum. -/
theorem rd_back {d : DT} (h : FineD d) : ∀ (k : Nat) (r : By), depthD d + k ≤ 200 → EndL r → Rdd .datum (wN d ++ r) k (.ok d r) := by
  induction h with
  | truth b =>
    intro k r _ hr
    have hb := fine_beg (.truth b) hr
    rw [wN_truth] at hb ⊢
    have ha : aheadL ((if b then [35, 116] else [35, 102]) ++ r) = if b then [35, 116] else [35, 102] := ahead_end _ (by cases b <;> decide) hr
    have e : atomL ((if b then [35, 116] else [35, 102]) ++ r) = .ok (truthD b) r := by
      unfold atomL
      rw [ha]
      cases b
      · rw [if_neg (by decide), if_pos (by decide)]; rfl
      · rw [if_pos (by decide)]; rfl
    rw [← e]
    cases b
    · exact .datom (.stop hb.stop) rfl
    · exact .datom (.stop hb.stop) rfl
  | num z hz =>
    intro k r _ hr
    have hb := fine_beg (.num z hz) hr
    rw [wN_num] at hb ⊢
    have hall : ∀ c, c ∈ wtxt z → _ := fun c hc => num_all c (wtxt_bytes z c hc)
    have ha := ahead_end (wtxt z) (fun c hc => (hall c hc).1) hr
    have h35 : ∀ m, wtxt z ≠ 35 :: m := fun m e => (hall 35 (by rw [e]; simp)).2.1 rfl
    have e : atomL (wtxt z ++ r) = .ok (numD z) r := by
      unfold atomL
      rw [ha]
      dsimp only
      rw [if_neg (by rintro (h | h) <;> exact h35 _ h), if_neg (by rintro (h | h) <;> exact h35 _ h), zpar_txt hz, if_pos ⟨rfl, hz⟩, List.drop_left]
    rw [← e]
    cases hw : wtxt z with
    | nil => exact absurd hw (wtxt_ne z)
    | cons c m =>
      rw [hw] at hb
      exact .datom (.stop hb.stop) (hall c (by rw [hw]; simp)).2.2.2.2.1
  | sym l h0 h64 =>
    intro k r _ hr
    have hb := fine_beg (.sym l h0 h64) hr
    rw [wN_sym] at hb ⊢
    split at hb
    · rename_i hp
      rw [if_pos hp]
      obtain ⟨h1, h2, h3⟩ := plain_pl hp
      have hall : ∀ c, c ∈ l → _ := fun c hc => pl_all c (h3 c hc)
      have ha := ahead_end l (fun c hc => (hall c hc).1) hr
      have h35 : ∀ m, l ≠ 35 :: m := fun m e => (hall 35 (by rw [e]; simp)).2.1 rfl
      have e : atomL (l ++ r) = .ok (symD l) r := by
        unfold atomL
        rw [ha]
        dsimp only
        rw [if_neg (by rintro (h | h) <;> exact h35 _ h), if_neg (by rintro (h | h) <;> exact h35 _ h), if_neg (by rw [zpar_plain hp]; simp), if_pos hp, List.drop_left]
      rw [← e]
      cases l with
      | nil => exact absurd rfl h1
      | cons c m => exact .datom (.stop hb.stop) (hall c (by simp)).2.2.2.2
    · rename_i hp
      rw [if_neg hp]
      have e := bar_back h0 h64 r
      have e2 : betw 124 l ++ r = 124 :: (escs (124 : UInt8).toNat l ++ 124 :: r) := by simp [betw, by8]
      rw [← e]
      rw [e2] at hb ⊢
      exact .dbar (.stop hb.stop)
  | str l hl =>
    intro k r _ hr
    have hb := fine_beg (.str l hl) hr
    rw [wN_str] at hb ⊢
    have e := str_back hl r
    have e2 : betw 34 l ++ r = 34 :: (escs (34 : UInt8).toNat l ++ 34 :: r) := by simp [betw, by8]
    rw [← e]
    rw [e2] at hb ⊢
    exact .dstr (.stop hb.stop)
  | list l hall ih =>
    intro k r hk _
    rw [depth_list] at hk
    exact list_back l [] k r (.inl rfl) (by omega) fun d hd => ⟨hall d hd, fun q hq => ih d hd (k + 1) q (by have := depth_mem hd; omega) hq⟩
  | dot l e hne hall he h5 ih ihe =>
    intro k r hk _
    rw [depth_list] at hk
    simp only [depthsD] at hk
    exact list_back l [e] k r (.inr ⟨hne, e, rfl, he, fun q hq => ihe (k + 1) q (by omega) hq⟩) (by omega) fun d hd => ⟨hall d hd, fun q hq => ih d hd (k + 1) q (by have := depth_mem hd; omega) hq⟩
theorem norms_self {l : List DT} (h : ∀ x, x ∈ l → normD x = x) : normsD l = l := by
  induction l with
  | nil => exact normsD_nil
  | cons t l ih => rw [normsD_cons, h t (by simp), ih fun x hx => h x (by simp [hx])]
theorem FineD.same {d : DT} (h : FineD d) : normD d = d ∧ (d.k ≠ 5 → spineD d = ([], some d)) := by
  induction h with
  | truth b =>
    have e : spineD (truthD b) = ([], some (truthD b)) := by rw [truthD, spineD_eq, if_neg (by decide)]; simp [leafD]
    exact ⟨by rw [normD, e]; rfl, fun _ => e⟩
  | num z hz =>
    have e : spineD (numD z) = ([], some (numD z)) := by rw [numD, spineD_eq, if_neg (by decide), leaf_num]; rfl
    exact ⟨by rw [normD, e]; rfl, fun _ => e⟩
  | sym l h1 h2 =>
    have e : spineD (symD l) = ([], some (symD l)) := by rw [symD, spineD_eq, if_neg (by decide)]; simp [leafD]
    exact ⟨by rw [normD, e]; rfl, fun _ => e⟩
  | str l h2 =>
    have e : spineD (strD l) = ([], some (strD l)) := by rw [strD, spineD_eq, if_neg (by decide)]; simp [leafD]
    exact ⟨by rw [normD, e]; rfl, fun _ => e⟩
  | list l _ ih =>
    refine ⟨?_, fun h => absurd rfl h⟩
    rw [normD, listD, spineD_eq, if_pos rfl, spinesD_nil, norms_self fun x hx => (ih x hx).1, List.append_nil]
    rfl
  | dot l e hne _ _ h5 ih ihe =>
    refine ⟨?_, fun h => absurd rfl h⟩
    rw [normD, listD, spineD_eq, if_pos rfl, spinesD_cons, norms_self fun x hx => (ih x hx).1, ihe.2 h5]
    cases l with
    | nil => exact absurd rfl hne
    | cons x l => simp [closeD]
/-- Data as they are written, each on a line of its own. -/
def tD : List DT → By
  | [] => []
  | d :: L => wN d ++ 10 :: tD L
theorem tD_snoc (L : List DT) (d : DT) : tD (L ++ [d]) = tD L ++ (wN d ++ [10]) := by
  induction L with
  | nil => simp [tD]
  | cons x L ih => simp [tD, ih]
/-- All that stands in a text, none of it too much as it is read. -/
inductive RdB : By → List DT → Prop
  | nil {l : By} : Rdd .skip l 0 (.ok zeroD []) → RdB l []
  | cons {l r q : By} {d : DT} {ds : List DT} : Rdd .skip l 0 (.ok zeroD r) → r ≠ [] → Rdd .datum r 0 (.ok d q) → sizeD d ≤ 5000 → normD d = d → depthD d ≤ 200 → RdB q ds → RdB l (d :: ds)
theorem RdB.rdA {l : By} {L : List DT} (h : RdB l L) : RdA l L := by
  induction h with
  | nil h => exact .nil h
  | cons h1 h2 h3 h4 h5 h6 _ ih =>
    have := RdA.cons h1 h2 h3 (by rw [h5]; exact h4) (by rw [h5]; exact h6) ih
    rwa [h5] at this
theorem RdB.blank {l : By} {L : List DT} (h : RdB l L) : RdB (10 :: l) L := by
  cases h with
  | nil h => exact .nil (.bl rfl h)
  | cons h1 h2 h3 h4 h5 h6 h7 => exact .cons (.bl rfl h1) h2 h3 h4 h5 h6 h7
theorem rdB_text : ∀ L : List DT, (∀ d, d ∈ L → FineD d ∧ depthD d ≤ 200 ∧ sizeD d ≤ 5000) → RdB (tD L) L
  | [], _ => .nil .nil
  | d :: L, h => by
    obtain ⟨h1, h2, h3⟩ := h d (by simp)
    have hE : EndL (10 :: tD L) := endL_of _ rfl
    have hb := fine_beg h1 hE
    have hd := rd_back h1 0 (10 :: tD L) (by omega) hE
    have hne : wN d ++ 10 :: tD L ≠ [] := by simp
    exact .cons (.stop hb.stop) hne hd h3 h1.same.1 h2 (rdB_text L fun x hx => h x (by simp [hx])).blank
theorem RdB.step {l m r : By} {L : List DT} {d : DT} (h : RdB l L) (hs : Rdd .skip l 0 (.ok zeroD m)) (hm : m ≠ []) (hd : Rdd .datum m 0 (.ok d r)) : sizeD d ≤ 5000 ∧ ∃ M, RdB r M := by
  cases h with
  | nil h1 => have := h1.one hs; injection this with _ e; exact absurd e.symm hm
  | cons h1 _ h3 h4 _ _ h7 =>
    have := h1.one hs
    injection this with _ e
    subst e
    have := h3.one hd
    injection this with e e2
    subst e e2
    exact ⟨h4, _, h7⟩
end

section

set_option maxRecDepth 100000 in
set_option maxHeartbeats 1600000 in
theorem rgood_fine (M : Nat) (t : LT) (hsz : t.size ≤ 5000) (hdp : t.depth ≤ 200) (hF : FineD (shape t)) (w : World) (hM : M ≤ w.heap.size) (hH : Held w M t) :
    Calls Tryz.prog 13 #[.agg #[.int .i64 t.k, .bool t.g, .slice t.la t.ln t.lc, .bool t.bb, .string t.s, .slice t.ia t.items.length t.ic, .slice t.ta t.tail.length t.tc]] w fun e w' => e = .returned (.bool true) ∧ Below w.heap.size w w' := by
  obtain ⟨W0, hW0⟩ : ∃ W, w.alloc (Obj.cells #[.int .i64 t.k, .bool t.g, .slice t.la t.ln t.lc, .bool t.bb, .string t.s, .slice t.ia t.items.length t.ic, .slice t.ta t.tail.length t.tc] 31) = W := ⟨_, rfl⟩
  have h0n : W0.heap[w.heap.size]? = some (Obj.cells #[.int .i64 t.k, .bool t.g, .slice t.la t.ln t.lc, .bool t.bb, .string t.s, .slice t.ia t.items.length t.ic, .slice t.ta t.tail.length t.tc] 31) := hW0 ▸ World.alloc_heap_new _ _
  have h0s : W0.heap.size = w.heap.size + 1 := by rw [← hW0]; exact World.size_alloc ..
  have hb : Below w.heap.size w W0 := hW0 ▸ (Below.refl _ _).alloc (Nat.le_refl _) _
  have hbu : decide (0 ≤ budT t 5000 200) = true := decide_eq_true (by rw [budT_ge t 5000 200 (by omega) (by omega)]; omega)
  have hs := small_any M t 5000 200 W0 (Nat.le_trans hM hb.size) (hH.below hM hb) (by decide) (by decide) (by decide) (by decide)
  unfold LT.val at hs
  rw [hbu] at hs
  have HI := Lib.hid (fun W (hW : Below W0.heap.size W0 W) => is_fine M t.size (by omega) t (Nat.le_refl _) hF W (by have := hW.size; have := hb.size; omega) ((hH.below hM hb).below (Nat.le_trans hM hb.size) hW))
  have HS := Lib.hid hs
  have HW := Lib.hid hW0
  have HN := Lib.hid h0n
  have HB := Lib.hid hb
  clear hs hW0 h0n hb hbu hH hF
  go_enter Tryz.func13, Tryz.ntmps13
  go_wp2_with fail
  rw [HW.out]
  refine HS.out.mono ?_
  rintro e w1 ⟨rfl, b1⟩
  have h1n := (b1.block w.heap.size (by omega)).trans HN.out
  have hb1 := bnext HB.out b1
  obtain ⟨⟨d0, d1, d2, d3, d4, d5, d6⟩, g0, g1, g2, g3, g4, g5, g6⟩ := seven h1n
  have HI1 := Lib.hid (HI.out w1 b1)
  have HB1 := Lib.hid hb1
  clear h1n b1 hb1
  go_wp2_with fail
  refine HI1.out.mono ?_
  rintro e w2 ⟨rfl, b2⟩
  have hb2 := bnext HB1.out b2
  clear b2
  go_wp2_with fail
  go_ret
  exact ⟨rfl, hb2⟩
theorem escs_le (M : Nat) (l : By) : (escs M l).length ≤ 5 * l.length := (escs_length M l).2
theorem betw_le (M : Nat) (l : By) : (betw M l).length ≤ 5 * l.length + 2 := by
  have := escs_le M l
  simp only [betw, List.length_cons, List.length_append, List.length_nil]
  omega
def pF (k : Int) (ys : List Nat) (s : ByteArray) : Prop := (k = 1 → ∀ g, (wtxt (zOf g (val ys))).length ≤ 5990) ∧ s.size ≤ 1024
mutual
theorem wN_le : ∀ d : DT, AllD pF d → (wN d).length + 4 ≤ 6000 * sizeD d
  | .mk k g ys bb s items tail, h => by
    simp only [AllD] at h
    obtain ⟨hp, hi, ht⟩ := h
    have h1 := wR_le items hi
    have h2 := wTl_le tail ht
    have h3 : ∀ l : By, l.length ≤ 5990 → l.length + 4 ≤ 6000 * sizeD (.mk k g ys bb s items tail) := fun l hl => by simp only [sizeD]; omega
    unfold wN
    rw [wD]
    split
    · exact h3 _ (by have := hp.1 ‹_› g; omega)
    · split
      · exact h3 _ (by split <;> simp)
      · split
        · refine h3 _ ?_
          unfold nameS
          split
          · have := hp.2; show s.data.toList.length ≤ _; simp only [Array.length_toList]; show s.size ≤ _; omega
          · have := betw_le 124 s.data.toList
            have h4 := hp.2
            have h5 : s.data.toList.length = s.size := by simp
            show (betw 124 s.data.toList).length ≤ _
            omega
        · split
          · refine h3 _ ?_
            have := betw_le 34 s.data.toList
            have h4 := hp.2
            have h5 : s.data.toList.length = s.size := by simp
            show (betw 34 s.data.toList).length ≤ _
            omega
          · split
            · simp only [List.length_cons, List.length_append, List.length_nil, sizeD]
              omega
            · exact h3 _ (by simp)
theorem wR_le : ∀ l : List DT, AllDR pF l → (wR nameS quoS l).length ≤ 6000 * sizesD l
  | [], _ => by rw [wR_nil]; simp
  | d :: l, h => by
    simp only [AllDR] at h
    have h1 := wN_le d h.1
    have h2 := wQ_le l h.2
    unfold wN at h1
    rw [wR_cons]
    simp only [List.length_append, sizesD]
    omega
theorem wQ_le : ∀ l : List DT, AllDR pF l → (wQ nameS quoS l).length ≤ 6000 * sizesD l
  | [], _ => by rw [wQ_nil]; simp
  | d :: l, h => by
    simp only [AllDR] at h
    have h1 := wN_le d h.1
    have h2 := wQ_le l h.2
    unfold wN at h1
    rw [wQ_cons]
    simp only [List.length_append, List.length_cons, sizesD]
    omega
theorem wTl_le : ∀ l : List DT, AllDR pF l → (wTl nameS quoS l).length ≤ 6000 * sizesD l
  | [], _ => by rw [wTl_nil]; simp
  | d :: l, h => by
    simp only [AllDR] at h
    have h1 := wN_le d h.1
    unfold wN at h1
    rw [wTl_cons]
    simp only [List.length_cons, sizesD]
    omega
end
theorem wtxt_short {n : Nat} (h : (limbs n).length ≤ 64) (g : Bool) : (wtxt (zOf g n)).length ≤ 701 := by
  have := txt_short n h
  unfold wtxt
  rw [zOf_abs]
  split
  · rw [List.length_cons]; omega
  · omega
theorem allDR_of {p : Int → List Nat → ByteArray → Prop} {l : List DT} (h : ∀ d, d ∈ l → AllD p d) : AllDR p l := by
  induction l with
  | nil => simp [AllDR]
  | cons d l ih => simp only [AllDR]; exact ⟨h d (by simp), ih fun x hx => h x (by simp [hx])⟩
theorem FineD.all {p : Int → List Nat → ByteArray → Prop} (hb : p 2 [] ⟨#[]⟩) (hl : p 5 [] ⟨#[]⟩) (hn : ∀ n, (limbs n).length ≤ 64 → p 1 (limbs n) ⟨#[]⟩) (hs : ∀ k s, s.size ≤ 1024 → k ≠ 1 → p k [] s) {d : DT} (h : FineD d) : AllD p d := by
  induction h with
  | truth b => simp only [truthD, AllD, AllDR]; exact ⟨hb, trivial, trivial⟩
  | num z hz => simp only [numD, AllD, AllDR]; exact ⟨hn _ hz, trivial, trivial⟩
  | sym l _ h => simp only [symD, AllD, AllDR]; exact ⟨hs 3 _ (by rw [bytesOf_size]; omega) (by decide), trivial, trivial⟩
  | str l h => simp only [strD, AllD, AllDR]; exact ⟨hs 4 _ (by rw [bytesOf_size]; omega) (by decide), trivial, trivial⟩
  | list l _ ih => simp only [listD, AllD, AllDR]; exact ⟨hl, allDR_of ih, trivial⟩
  | dot l e _ _ _ _ ih ihe => simp only [listD, AllD, AllDR]; exact ⟨hl, allDR_of ih, ihe, trivial⟩
theorem FineD.allF {d : DT} (h : FineD d) : AllD pF d :=
  h.all ⟨fun h => absurd h (by decide), by decide⟩ ⟨fun h => absurd h (by decide), by decide⟩ (fun n hn => ⟨fun _ g => by rw [limbs_val]; have := wtxt_short hn g; omega, by decide⟩) fun k s h1 h2 => ⟨fun h => absurd h h2, h1⟩
theorem FineD.allB {d : DT} (h : FineD d) : AllD pB d :=
  h.all ⟨okNil, by decide, by decide⟩ ⟨okNil, by decide, by decide⟩ (fun n hn => ⟨limbs_ok n, by omega, by decide⟩) fun k s h1 h2 => ⟨okNil, by decide, by omega⟩
theorem norm_shape (t : LT) : normT t = normD (shape t) := by rw [normT, normD, spineD_shape]
set_option maxRecDepth 100000 in
set_option maxHeartbeats 3200000 in
theorem rwrite_fine (M : Nat) (t : LT) (h1 : t.size ≤ 5000) (h2 : t.depth ≤ 200) (hT : Tame t) (hF : FineD (shape t)) (w : World) (hM : M ≤ w.heap.size) (hH : Held w M t) :
    Calls Tryz.prog 14 #[.agg #[.int .i64 t.k, .bool t.g, .slice t.la t.ln t.lc, .bool t.bb, .string t.s, .slice t.ia t.items.length t.ic, .slice t.ta t.tail.length t.tc]] w fun e w' => e = .returned (.string (bytesOf (wN (shape t)))) ∧ Below w.heap.size w w' := by
  have hl := fun W (hb : Below w.heap.size w W) => few_any M t W (Nat.le_trans hM hb.size) (hH.below hM hb)
  have hn := fun W (hb : Below w.heap.size w W) => rNorm_tree M t (by omega) (by omega) hT W (Nat.le_trans hM hb.size) (hH.below hM hb)
  have hbu : decide (0 ≤ budT t 100000 10000) = true := decide_eq_true (by rw [budT_ge t 100000 10000 (by omega) (by omega)]; omega)
  have hnt : normT t = shape t := by rw [norm_shape, hF.same.1]
  have hAn := hF.allB
  have hOn := one1_norm t
  rw [hnt] at hOn
  have hlen : (wD nameS quoS (shape t)).length < 100000000 := by
    have q1 := wN_le _ hF.allF
    unfold wN at q1
    have q2 := sizeD_shape t
    omega
  unfold LT.val at hl
  rw [hbu] at hl
  rw [hnt] at hn
  have HL := Lib.hid (And.intro hl hn)
  have HA := Lib.hid (And.intro hAn (And.intro hOn hlen))
  clear hl hn hH hT hbu hAn hOn hlen hnt hF
  generalize shape t = d at *
  have hb : Below w.heap.size w (w.alloc (Obj.cells #[.int .i64 t.k, .bool t.g, .slice t.la t.ln t.lc, .bool t.bb, .string t.s, .slice t.ia t.items.length t.ic, .slice t.ta t.tail.length t.tc] 31)) := (Below.refl _ w).alloc (Nat.le_refl _) _
  have D := VarD.new w t
  go_enter Tryz.func14, Tryz.ntmps14
  go_wp2_with fail
  refine (HL.out.1 _ hb).mono ?_
  rintro e w1 ⟨rfl, b1⟩
  replace D := D.next b1
  replace hb := bnext hb b1
  obtain ⟨c0, c1, c2, c3, c4, c5, c6⟩ := D.c
  clear b1
  go_wp2_with fail
  clear c0 c1 c2 c3 c4 c5 c6
  refine (HL.out.2 w1 hb).mono ?_
  rintro e w2 ⟨x', rfl, hP, hsh, b2⟩
  have HX := Lib.hid (rtext_tree w2.heap.size false nameS quoS (.inr ⟨rfl, rfl, rfl⟩) x'.size x' (Nat.le_refl _) w2 (Nat.le_refl _) (hP.held fun q hq => hq.lt) (by rw [hsh]; exact HA.out.1) (by rw [hsh]; exact HA.out.2.1) (by rw [hsh]; exact HA.out.2.2))
  rw [hsh] at HX
  have hb2 := bnext hb b2
  clear hP hsh b2
  go_wp2_with fail
  refine HX.out.mono ?_
  rintro e w3 ⟨s3, rfl, hs3, b3⟩
  have HE := Lib.hid (And.intro (show s3 = bytesOf (wN d) from bytes_ext (by rw [hs3]; rfl)) (bnext hb2 b3))
  clear hs3 b3
  go_wp2_with fail
  go_ret
  exact ⟨by rw [← HE.out.1]; rfl, HE.out.2⟩
end
end Go.Proofs.YtlohdglhebplfaaGreatDoor
