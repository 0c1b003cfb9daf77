/-
  pavaneref03.is and Good of any datum.
-/
import Derived.Test.YtocnlapbkidinaaGreatDoorQGoe
import Derived.Test.YtocnlapbkidinaaGreatDoorPt1
import Derived.LoopTactic
set_option linter.unusedVariables false
set_option linter.unusedSimpArgs false
set_option linter.unusedSectionVars false
set_option linter.unnecessarySimpa false
namespace Go.Proofs.YtocnlapbkidinaaGreatDoor
open Go.RowKit
set_option maxRecDepth 100000

def IsG (M N : Nat) : Prop := ∀ (t : LT), t.size ≤ N → ∀ (w : World), M ≤ w.heap.size → Held w M t → Calls Tryz.prog 39 #[.agg #[.int .i64 t.k, .bool t.g, .slice t.la t.ln t.lc, .bool t.bb, .string t.s, .slice t.ia t.items.length t.ic, .slice t.ta t.tail.length t.tc]] w (IsP t w)
set_option maxHeartbeats 6400000 in
theorem isg_none (M N : Nat) (hN : N + 1 ≤ 1000000) (ih : IsG M N) (t : LT) (ht : t.size ≤ N + 1) (w : World) (hM : M ≤ w.heap.size) (hH : Held w M t) (q1 : t.k = 5) (q2 : t.g = false) (l3 : t.ln = 0) (q4 : t.bb = false) (q5 : t.s = ⟨#[]⟩) (hm : t.tail.length = 0) (hn : t.items.length = 0) :
    Calls Tryz.prog 39 #[.agg #[.int .i64 t.k, .bool t.g, .slice t.la t.ln t.lc, .bool t.bb, .string t.s, .slice t.ia t.items.length t.ic, .slice t.ta t.tail.length t.tc]] w (IsP t w) := by
    have IH := Lib.hid ih
    have HK := Lib.hid q1
    clear ih
    have hb0 : ∀ O, Below w.heap.size w (w.alloc O) := fun O => (Below.refl _ _).alloc (Nat.le_refl _) _
    have HHH := Lib.hid hH
    have hsi := t.size_eq
    have hg1 := sizes_ge t.items
    have HSZ := Lib.hid (show sizes (listB t 0) ≤ N ∧ sizes (listB t 1) ≤ N by simp only [listB]; omega)
    clear hsi ht
    rw [q1, q2, q4, q5, l3]
    rw [hm, hn]
    clear q1 q2 q4 q5 l3 hH
    go_enter Tryz.func39, Tryz.ntmps39
    go_wp2_with fail
    obtain ⟨A, hA⟩ : ∃ A, A = (#[.slice t.ia 0 t.ic, .slice t.ta 0 t.tc] : Array Value) := ⟨_, rfl⟩
    have HAT := Lib.hid (show ∀ j, j < 2 → ∃ a c, A[j]? = some (.slice a (listB t j).length c) ∧ Spot M a (listB t j).length c ∧ LiesR w M (listB t j) (blk a) (ofs a) by
      intro j hj
      rcases (show j = 0 ∨ j = 1 by omega) with rfl | rfl
      · exact ⟨t.ia, t.ic, by rw [hA]; show some (Value.slice t.ia 0 t.ic) = some (.slice t.ia t.items.length t.ic); rw [hn], HHH.out.2.1, HHH.out.2.2.2.1⟩
      · exact ⟨t.ta, t.tc, by rw [hA]; show some (Value.slice t.ta 0 t.tc) = some (.slice t.ta t.tail.length t.tc); rw [hm], HHH.out.2.2.1, HHH.out.2.2.2.2⟩)
    rw [← hA]
    clear hA
    go_loopw [168] (fun i wr => ∃ (j : Nat), j ≤ 2 ∧ i = .int .i64 j ∧ Below w.heap.size w wr) (fun i _ => 2 - (intOf i).toNat)
    case atStart => exact ⟨0, by decide, rfl, hb0 _⟩
    case round =>
      obtain ⟨j, hj, rfl, hbel⟩ := hrel
      clear hb0
      by_cases hj2 : j < 2
      · obtain ⟨a, c, ha, hsp, hli⟩ := HAT.out j hj2
        have hrun := fun w' => run_two A j _ w' hj2 ha rfl
        have hdj : decide ((j : Int) < 2) = true := by simp; omega
        have HS := Lib.hid (show sizes (listB t j) ≤ N by rcases (show j = 0 ∨ j = 1 by omega) with rfl | rfl; exact HSZ.out.1; exact HSZ.out.2)
        generalize listB t j = l at *
        by_cases hl : 0 < l.length
        · obtain ⟨haa, hlt⟩ := hsp.2.2.1 hl
          have hsz := hsp.2.1
          have hsc := hsp.1
          unfold maxLen at hsz
          have HLI := Lib.hid hli
          have hrun' := hrun wr
          clear hli hsp ha hrun
          rw [haa] at hrun'
          generalize blk a = gb at *
          generalize ofs a = go at *
          clear haa
          go_wp2_with fail
          go_loopw [173] (fun i ws => ∃ (k : Nat), k ≤ l.length ∧ i = .int .i64 k ∧ Below w.heap.size w ws) (fun i _ => l.length - (intOf i).toNat)
          case atStart => exact ⟨0, Nat.zero_le _, rfl, hbel⟩
          case round =>
            obtain ⟨k, hk, rfl, hbs⟩ := hrel
            clear hrun' hbel
            by_cases hlk : k < l.length
            · have hli := ((liesR_iff _ _ _).1 HLI.out k hlk).keep hbs.size (fun q hq => hbs.block q (by omega))
              obtain ⟨hgbM, hcell, hheld⟩ := lies_held.1 hli
              have hsz1 := sizes_mem hlk
              obtain ⟨u, hu⟩ : ∃ u, l[k] = u := ⟨_, rfl⟩
              rw [hu] at hcell hheld hsz1
              rw [Nat.mul_comm 7 k] at hcell
              have d0 : wr.cell? ⟨gb, go + k * 7, none⟩ = some (.int .i64 u.k) := hcell 0 _ rfl
              have d1 : wr.cell? ⟨gb, go + k * 7 + 1, none⟩ = some (.bool u.g) := hcell 1 _ rfl
              have d2 : wr.cell? ⟨gb, go + k * 7 + 2, none⟩ = some (.slice u.la u.ln u.lc) := hcell 2 _ rfl
              have d3 : wr.cell? ⟨gb, go + k * 7 + 3, none⟩ = some (.bool u.bb) := hcell 3 _ rfl
              have d4 : wr.cell? ⟨gb, go + k * 7 + 4, none⟩ = some (.string u.s) := hcell 4 _ rfl
              have d5 : wr.cell? ⟨gb, go + k * 7 + 5, none⟩ = some (.slice u.ia u.items.length u.ic) := hcell 5 _ rfl
              have d6 : wr.cell? ⟨gb, go + k * 7 + 6, none⟩ = some (.slice u.ta u.tail.length u.tc) := hcell 6 _ rfl
              have hba : Below wr.heap.size wr (wr.alloc (Obj.cells #[.int .i64 u.k, .bool u.g, .slice u.la u.ln u.lc, .bool u.bb, .string u.s, .slice u.ia u.items.length u.ic, .slice u.ta u.tail.length u.tc] 29)) := (Below.refl _ _).alloc (Nat.le_refl _) _
              have hMs : M ≤ wr.heap.size := Nat.le_trans hM hbs.size
              have HC := Lib.hid (IH.out u (Nat.le_trans hsz1 HS.out) (wr.alloc (Obj.cells #[.int .i64 u.k, .bool u.g, .slice u.la u.ln u.lc, .bool u.bb, .string u.s, .slice u.ia u.items.length u.ic, .slice u.ta u.tail.length u.tc] 29)) (Nat.le_trans hMs hba.size) (hheld.keep hba.size (fun q hq => hba.block q (by omega))))
              have HBA := Lib.hid (bnext hbs hba)
              clear hli hcell hheld hsz1 hba
              go_wp2_with fail
              refine HC.out.mono ?_
              rintro e w6 ⟨r, rfl, -, b6⟩
              have hb6 := bnext HBA.out b6
              cases r
              · go_wp2_with fail
                go_ret
                exact ⟨_, rfl, fun h _ => Bool.noConfusion h, hb6⟩
              · go_wp2_with fail
                go_roundw
                case rel => exact ⟨k + 1, by omega, by go_num, hb6⟩
                case measure => simp [intOf]; omega
            · obtain rfl : k = l.length := by omega
              go_wp2_with fail
              go_roundw
              case rel => exact ⟨j + 1, by omega, by go_num, hbs⟩
              case measure => simp [intOf]; omega
        · obtain rfl : l = [] := List.length_eq_zero_iff.1 (by omega)
          have hrun' := hrun wr
          clear hli hsp ha hrun hl
          rw [List.length_nil] at hrun'
          go_wp2_with fail
          go_loopw [173] (fun i ws => i = .int .i64 0 ∧ ws = wr) (fun _ _ => 0)
          case atStart => exact ⟨rfl, rfl⟩
          case round =>
            obtain ⟨rfl, rfl⟩ := hrel
            clear hrun'
            go_wp2_with fail
            go_roundw
            case rel => exact ⟨j + 1, by omega, by go_num, hbel⟩
            case measure => simp [intOf]; omega
      · obtain rfl : j = 2 := by omega
        go_wp2_with fail
        go_ret
        exact ⟨_, rfl, fun _ h3 => absurd h3 (by rw [HK.out]; decide), hbel⟩
set_option maxHeartbeats 6400000 in
theorem isg_list (M N : Nat) (hN : N + 1 ≤ 1000000) (ih : IsG M N) (t : LT) (ht : t.size ≤ N + 1) (w : World) (hM : M ≤ w.heap.size) (hH : Held w M t) (q1 : t.k = 5) (q2 : t.g = false) (l3 : t.ln = 0) (q4 : t.bb = false) (q5 : t.s = ⟨#[]⟩) (hm : t.tail.length = 0) (hn : 0 < t.items.length) :
    Calls Tryz.prog 39 #[.agg #[.int .i64 t.k, .bool t.g, .slice t.la t.ln t.lc, .bool t.bb, .string t.s, .slice t.ia t.items.length t.ic, .slice t.ta t.tail.length t.tc]] w (IsP t w) := by
    have IH := Lib.hid ih
    have HK := Lib.hid q1
    clear ih
    have hb0 : ∀ O, Below w.heap.size w (w.alloc O) := fun O => (Below.refl _ _).alloc (Nat.le_refl _) _
    have HHH := Lib.hid hH
    have hsi := t.size_eq
    have hg1 := sizes_ge t.items
    have HSZ := Lib.hid (show sizes (listB t 0) ≤ N ∧ sizes (listB t 1) ≤ N by simp only [listB]; omega)
    have en : decide ((t.items.length : Int) = 0) = false := decide_eq_false (by omega)
    have en2 : ((t.items.length : Int) == 0) = false := beq_eq_false_iff_ne.2 (by omega)
    clear hsi ht
    rw [q1, q2, q4, q5, l3]
    rw [hm]
    clear q1 q2 q4 q5 l3 hH
    go_enter Tryz.func39, Tryz.ntmps39
    go_wp2_with fail
    obtain ⟨A, hA⟩ : ∃ A, A = (#[.slice t.ia t.items.length t.ic, .slice t.ta 0 t.tc] : Array Value) := ⟨_, rfl⟩
    have HAT := Lib.hid (show ∀ j, j < 2 → ∃ a c, A[j]? = some (.slice a (listB t j).length c) ∧ Spot M a (listB t j).length c ∧ LiesR w M (listB t j) (blk a) (ofs a) by
      intro j hj
      rcases (show j = 0 ∨ j = 1 by omega) with rfl | rfl
      · exact ⟨t.ia, t.ic, by rw [hA]; rfl, HHH.out.2.1, HHH.out.2.2.2.1⟩
      · exact ⟨t.ta, t.tc, by rw [hA]; show some (Value.slice t.ta 0 t.tc) = some (.slice t.ta t.tail.length t.tc); rw [hm], HHH.out.2.2.1, HHH.out.2.2.2.2⟩)
    rw [← hA]
    clear hA
    go_loopw [168] (fun i wr => ∃ (j : Nat), j ≤ 2 ∧ i = .int .i64 j ∧ Below w.heap.size w wr) (fun i _ => 2 - (intOf i).toNat)
    case atStart => exact ⟨0, by decide, rfl, hb0 _⟩
    case round =>
      obtain ⟨j, hj, rfl, hbel⟩ := hrel
      clear hb0 en en2
      by_cases hj2 : j < 2
      · obtain ⟨a, c, ha, hsp, hli⟩ := HAT.out j hj2
        have hrun := fun w' => run_two A j _ w' hj2 ha rfl
        have hdj : decide ((j : Int) < 2) = true := by simp; omega
        have HS := Lib.hid (show sizes (listB t j) ≤ N by rcases (show j = 0 ∨ j = 1 by omega) with rfl | rfl; exact HSZ.out.1; exact HSZ.out.2)
        generalize listB t j = l at *
        by_cases hl : 0 < l.length
        · obtain ⟨haa, hlt⟩ := hsp.2.2.1 hl
          have hsz := hsp.2.1
          have hsc := hsp.1
          unfold maxLen at hsz
          have HLI := Lib.hid hli
          have hrun' := hrun wr
          clear hli hsp ha hrun
          rw [haa] at hrun'
          generalize blk a = gb at *
          generalize ofs a = go at *
          clear haa
          go_wp2_with fail
          go_loopw [173] (fun i ws => ∃ (k : Nat), k ≤ l.length ∧ i = .int .i64 k ∧ Below w.heap.size w ws) (fun i _ => l.length - (intOf i).toNat)
          case atStart => exact ⟨0, Nat.zero_le _, rfl, hbel⟩
          case round =>
            obtain ⟨k, hk, rfl, hbs⟩ := hrel
            clear hrun' hbel
            by_cases hlk : k < l.length
            · have hli := ((liesR_iff _ _ _).1 HLI.out k hlk).keep hbs.size (fun q hq => hbs.block q (by omega))
              obtain ⟨hgbM, hcell, hheld⟩ := lies_held.1 hli
              have hsz1 := sizes_mem hlk
              obtain ⟨u, hu⟩ : ∃ u, l[k] = u := ⟨_, rfl⟩
              rw [hu] at hcell hheld hsz1
              rw [Nat.mul_comm 7 k] at hcell
              have d0 : wr.cell? ⟨gb, go + k * 7, none⟩ = some (.int .i64 u.k) := hcell 0 _ rfl
              have d1 : wr.cell? ⟨gb, go + k * 7 + 1, none⟩ = some (.bool u.g) := hcell 1 _ rfl
              have d2 : wr.cell? ⟨gb, go + k * 7 + 2, none⟩ = some (.slice u.la u.ln u.lc) := hcell 2 _ rfl
              have d3 : wr.cell? ⟨gb, go + k * 7 + 3, none⟩ = some (.bool u.bb) := hcell 3 _ rfl
              have d4 : wr.cell? ⟨gb, go + k * 7 + 4, none⟩ = some (.string u.s) := hcell 4 _ rfl
              have d5 : wr.cell? ⟨gb, go + k * 7 + 5, none⟩ = some (.slice u.ia u.items.length u.ic) := hcell 5 _ rfl
              have d6 : wr.cell? ⟨gb, go + k * 7 + 6, none⟩ = some (.slice u.ta u.tail.length u.tc) := hcell 6 _ rfl
              have hba : Below wr.heap.size wr (wr.alloc (Obj.cells #[.int .i64 u.k, .bool u.g, .slice u.la u.ln u.lc, .bool u.bb, .string u.s, .slice u.ia u.items.length u.ic, .slice u.ta u.tail.length u.tc] 29)) := (Below.refl _ _).alloc (Nat.le_refl _) _
              have hMs : M ≤ wr.heap.size := Nat.le_trans hM hbs.size
              have HC := Lib.hid (IH.out u (Nat.le_trans hsz1 HS.out) (wr.alloc (Obj.cells #[.int .i64 u.k, .bool u.g, .slice u.la u.ln u.lc, .bool u.bb, .string u.s, .slice u.ia u.items.length u.ic, .slice u.ta u.tail.length u.tc] 29)) (Nat.le_trans hMs hba.size) (hheld.keep hba.size (fun q hq => hba.block q (by omega))))
              have HBA := Lib.hid (bnext hbs hba)
              clear hli hcell hheld hsz1 hba
              go_wp2_with fail
              refine HC.out.mono ?_
              rintro e w6 ⟨r, rfl, -, b6⟩
              have hb6 := bnext HBA.out b6
              cases r
              · go_wp2_with fail
                go_ret
                exact ⟨_, rfl, fun h _ => Bool.noConfusion h, hb6⟩
              · go_wp2_with fail
                go_roundw
                case rel => exact ⟨k + 1, by omega, by go_num, hb6⟩
                case measure => simp [intOf]; omega
            · obtain rfl : k = l.length := by omega
              go_wp2_with fail
              go_roundw
              case rel => exact ⟨j + 1, by omega, by go_num, hbs⟩
              case measure => simp [intOf]; omega
        · obtain rfl : l = [] := List.length_eq_zero_iff.1 (by omega)
          have hrun' := hrun wr
          clear hli hsp ha hrun hl
          rw [List.length_nil] at hrun'
          go_wp2_with fail
          go_loopw [173] (fun i ws => i = .int .i64 0 ∧ ws = wr) (fun _ _ => 0)
          case atStart => exact ⟨rfl, rfl⟩
          case round =>
            obtain ⟨rfl, rfl⟩ := hrel
            clear hrun'
            go_wp2_with fail
            go_roundw
            case rel => exact ⟨j + 1, by omega, by go_num, hbel⟩
            case measure => simp [intOf]; omega
      · obtain rfl : j = 2 := by omega
        go_wp2_with fail
        go_ret
        exact ⟨_, rfl, fun _ h3 => absurd h3 (by rw [HK.out]; decide), hbel⟩
set_option maxHeartbeats 6400000 in
theorem isg_dot (M N : Nat) (hN : N + 1 ≤ 1000000) (ih : IsG M N) (t : LT) (ht : t.size ≤ N + 1) (w : World) (hM : M ≤ w.heap.size) (hH : Held w M t) (q1 : t.k = 5) (q2 : t.g = false) (l3 : t.ln = 0) (q4 : t.bb = false) (q5 : t.s = ⟨#[]⟩) (hm : t.tail.length = 1) (hn : 0 < t.items.length) (hk : ∀ (h : 0 < t.tail.length), t.tail[0].k ≠ 5) :
    Calls Tryz.prog 39 #[.agg #[.int .i64 t.k, .bool t.g, .slice t.la t.ln t.lc, .bool t.bb, .string t.s, .slice t.ia t.items.length t.ic, .slice t.ta t.tail.length t.tc]] w (IsP t w) := by
    have IH := Lib.hid ih
    have HK := Lib.hid q1
    clear ih
    have hb0 : ∀ O, Below w.heap.size w (w.alloc O) := fun O => (Below.refl _ _).alloc (Nat.le_refl _) _
    have HHH := Lib.hid hH
    have hsi := t.size_eq
    have hg1 := sizes_ge t.items
    have HSZ := Lib.hid (show sizes (listB t 0) ≤ N ∧ sizes (listB t 1) ≤ N by simp only [listB]; omega)
    obtain ⟨hta, hlt⟩ := hH.2.2.1.2.2.1 (by omega)
    obtain ⟨hgbM, hcell, -⟩ := lies_held.1 ((liesR_iff _ _ _).1 hH.2.2.2.2 0 (by omega))
    have hkk := hk (by omega)
    obtain ⟨u, hu⟩ : ∃ u, t.tail[0] = u := ⟨_, rfl⟩
    rw [hu] at hcell hkk
    obtain ⟨tb, htb⟩ : ∃ b, blk t.ta = b := ⟨_, rfl⟩
    obtain ⟨to', hto⟩ : ∃ b, ofs t.ta = b := ⟨_, rfl⟩
    rw [htb] at hcell hgbM
    rw [htb, hto] at hta
    rw [hto] at hcell
    have hc0 : ∀ O, (w.alloc O).cell? ⟨tb, to', none⟩ = some (.int .i64 u.k) := fun O => (World.cell?_of_block (w := w) (a := ⟨tb, to', none⟩) (Below.heap_alloc _ _ _ (by show tb < _; omega))).trans (hcell 0 _ rfl)
    have hc1 := hc0 (.cells #[.int .i64 5, .bool false, .slice t.la 0 t.lc, .bool false, .string ⟨#[]⟩, .slice t.ia t.items.length t.ic, .slice (some ⟨tb, to', none⟩) 1 t.tc] 29)
    have e5 : decide (u.k = 5) = false := decide_eq_false hkk
    have e50 : (u.k == 5) = false := beq_eq_false_iff_ne.2 hkk
    have en : decide ((t.items.length : Int) = 0) = false := decide_eq_false (by omega)
    have en2 : ((t.items.length : Int) == 0) = false := beq_eq_false_iff_ne.2 (by omega)
    clear hcell hk hgbM hlt htb hto hu hc0
    clear hsi ht
    rw [q1, q2, q4, q5, l3]
    rw [hm, hta]
    clear q1 q2 q4 q5 l3 hH
    go_enter Tryz.func39, Tryz.ntmps39
    go_wp2_with fail
    obtain ⟨A, hA⟩ : ∃ A, A = (#[.slice t.ia t.items.length t.ic, (.slice (some ⟨tb, to', none⟩) 1 t.tc)] : Array Value) := ⟨_, rfl⟩
    have HAT := Lib.hid (show ∀ j, j < 2 → ∃ a c, A[j]? = some (.slice a (listB t j).length c) ∧ Spot M a (listB t j).length c ∧ LiesR w M (listB t j) (blk a) (ofs a) by
      intro j hj
      rcases (show j = 0 ∨ j = 1 by omega) with rfl | rfl
      · exact ⟨t.ia, t.ic, by rw [hA]; rfl, HHH.out.2.1, HHH.out.2.2.2.1⟩
      · exact ⟨t.ta, t.tc, by rw [hA]; show some (Value.slice (some ⟨tb, to', none⟩) 1 t.tc) = some (.slice t.ta t.tail.length t.tc); rw [hm, hta], HHH.out.2.2.1, HHH.out.2.2.2.2⟩)
    rw [← hA]
    clear hA
    go_loopw [168] (fun i wr => ∃ (j : Nat), j ≤ 2 ∧ i = .int .i64 j ∧ Below w.heap.size w wr) (fun i _ => 2 - (intOf i).toNat)
    case atStart => exact ⟨0, by decide, rfl, hb0 _⟩
    case round =>
      obtain ⟨j, hj, rfl, hbel⟩ := hrel
      clear hb0 hc1 e5 e50 en en2
      by_cases hj2 : j < 2
      · obtain ⟨a, c, ha, hsp, hli⟩ := HAT.out j hj2
        have hrun := fun w' => run_two A j _ w' hj2 ha rfl
        have hdj : decide ((j : Int) < 2) = true := by simp; omega
        have HS := Lib.hid (show sizes (listB t j) ≤ N by rcases (show j = 0 ∨ j = 1 by omega) with rfl | rfl; exact HSZ.out.1; exact HSZ.out.2)
        generalize listB t j = l at *
        by_cases hl : 0 < l.length
        · obtain ⟨haa, hlt⟩ := hsp.2.2.1 hl
          have hsz := hsp.2.1
          have hsc := hsp.1
          unfold maxLen at hsz
          have HLI := Lib.hid hli
          have hrun' := hrun wr
          clear hli hsp ha hrun
          rw [haa] at hrun'
          generalize blk a = gb at *
          generalize ofs a = go at *
          clear haa
          go_wp2_with fail
          go_loopw [173] (fun i ws => ∃ (k : Nat), k ≤ l.length ∧ i = .int .i64 k ∧ Below w.heap.size w ws) (fun i _ => l.length - (intOf i).toNat)
          case atStart => exact ⟨0, Nat.zero_le _, rfl, hbel⟩
          case round =>
            obtain ⟨k, hk, rfl, hbs⟩ := hrel
            clear hrun' hbel
            by_cases hlk : k < l.length
            · have hli := ((liesR_iff _ _ _).1 HLI.out k hlk).keep hbs.size (fun q hq => hbs.block q (by omega))
              obtain ⟨hgbM, hcell, hheld⟩ := lies_held.1 hli
              have hsz1 := sizes_mem hlk
              obtain ⟨u, hu⟩ : ∃ u, l[k] = u := ⟨_, rfl⟩
              rw [hu] at hcell hheld hsz1
              rw [Nat.mul_comm 7 k] at hcell
              have d0 : wr.cell? ⟨gb, go + k * 7, none⟩ = some (.int .i64 u.k) := hcell 0 _ rfl
              have d1 : wr.cell? ⟨gb, go + k * 7 + 1, none⟩ = some (.bool u.g) := hcell 1 _ rfl
              have d2 : wr.cell? ⟨gb, go + k * 7 + 2, none⟩ = some (.slice u.la u.ln u.lc) := hcell 2 _ rfl
              have d3 : wr.cell? ⟨gb, go + k * 7 + 3, none⟩ = some (.bool u.bb) := hcell 3 _ rfl
              have d4 : wr.cell? ⟨gb, go + k * 7 + 4, none⟩ = some (.string u.s) := hcell 4 _ rfl
              have d5 : wr.cell? ⟨gb, go + k * 7 + 5, none⟩ = some (.slice u.ia u.items.length u.ic) := hcell 5 _ rfl
              have d6 : wr.cell? ⟨gb, go + k * 7 + 6, none⟩ = some (.slice u.ta u.tail.length u.tc) := hcell 6 _ rfl
              have hba : Below wr.heap.size wr (wr.alloc (Obj.cells #[.int .i64 u.k, .bool u.g, .slice u.la u.ln u.lc, .bool u.bb, .string u.s, .slice u.ia u.items.length u.ic, .slice u.ta u.tail.length u.tc] 29)) := (Below.refl _ _).alloc (Nat.le_refl _) _
              have hMs : M ≤ wr.heap.size := Nat.le_trans hM hbs.size
              have HC := Lib.hid (IH.out u (Nat.le_trans hsz1 HS.out) (wr.alloc (Obj.cells #[.int .i64 u.k, .bool u.g, .slice u.la u.ln u.lc, .bool u.bb, .string u.s, .slice u.ia u.items.length u.ic, .slice u.ta u.tail.length u.tc] 29)) (Nat.le_trans hMs hba.size) (hheld.keep hba.size (fun q hq => hba.block q (by omega))))
              have HBA := Lib.hid (bnext hbs hba)
              clear hli hcell hheld hsz1 hba
              go_wp2_with fail
              refine HC.out.mono ?_
              rintro e w6 ⟨r, rfl, -, b6⟩
              have hb6 := bnext HBA.out b6
              cases r
              · go_wp2_with fail
                go_ret
                exact ⟨_, rfl, fun h _ => Bool.noConfusion h, hb6⟩
              · go_wp2_with fail
                go_roundw
                case rel => exact ⟨k + 1, by omega, by go_num, hb6⟩
                case measure => simp [intOf]; omega
            · obtain rfl : k = l.length := by omega
              go_wp2_with fail
              go_roundw
              case rel => exact ⟨j + 1, by omega, by go_num, hbs⟩
              case measure => simp [intOf]; omega
        · obtain rfl : l = [] := List.length_eq_zero_iff.1 (by omega)
          have hrun' := hrun wr
          clear hli hsp ha hrun hl
          rw [List.length_nil] at hrun'
          go_wp2_with fail
          go_loopw [173] (fun i ws => i = .int .i64 0 ∧ ws = wr) (fun _ _ => 0)
          case atStart => exact ⟨rfl, rfl⟩
          case round =>
            obtain ⟨rfl, rfl⟩ := hrel
            clear hrun'
            go_wp2_with fail
            go_roundw
            case rel => exact ⟨j + 1, by omega, by go_num, hbel⟩
            case measure => simp [intOf]; omega
      · obtain rfl : j = 2 := by omega
        go_wp2_with fail
        go_ret
        exact ⟨_, rfl, fun _ h3 => absurd h3 (by rw [HK.out]; decide), hbel⟩
set_option maxHeartbeats 12800000 in
theorem isg_neg (M : Nat) (t : LT) (w : World) (hM : M ≤ w.heap.size) (hH : Held w M t) (q1 : t.k = 5) (q2 : t.g = true) :
    Calls Tryz.prog 39 #[.agg #[.int .i64 t.k, .bool t.g, .slice t.la t.ln t.lc, .bool t.bb, .string t.s, .slice t.ia t.items.length t.ic, .slice t.ta t.tail.length t.tc]] w (IsP t w) := by
    have HB := Lib.hid (show ∀ O, Below w.heap.size w (w.alloc O) from fun O => (Below.refl _ _).alloc (Nat.le_refl _) _)
    have HK := Lib.hid q1
    rw [q1, q2]
    clear q1 q2 hH
    go_enter Tryz.func39, Tryz.ntmps39
    go_wp2_with fail
    all_goals first
      | (exfalso; contradiction)
      | (exfalso; omega)
      | (go_ret; exact ⟨_, rfl, fun _ h3 => absurd h3 (by rw [HK.out]; decide), HB.out _⟩)
set_option maxHeartbeats 12800000 in
theorem isg_limbs (M : Nat) (t : LT) (w : World) (hM : M ≤ w.heap.size) (hH : Held w M t) (q1 : t.k = 5) (q2 : t.g = false) (l3 : t.ln ≠ 0) :
    Calls Tryz.prog 39 #[.agg #[.int .i64 t.k, .bool t.g, .slice t.la t.ln t.lc, .bool t.bb, .string t.s, .slice t.ia t.items.length t.ic, .slice t.ta t.tail.length t.tc]] w (IsP t w) := by
    have HB := Lib.hid (show ∀ O, Below w.heap.size w (w.alloc O) from fun O => (Below.refl _ _).alloc (Nat.le_refl _) _)
    have HK := Lib.hid q1
    have e1 : decide ((t.ln : Int) = 0) = false := decide_eq_false (by omega)
    have e2 : ((t.ln : Int) == 0) = false := beq_eq_false_iff_ne.2 (by omega)
    rw [q1, q2]
    clear q1 q2 hH
    go_enter Tryz.func39, Tryz.ntmps39
    go_wp2_with fail
    all_goals first
      | (exfalso; contradiction)
      | (exfalso; omega)
      | (go_ret; exact ⟨_, rfl, fun _ h3 => absurd h3 (by rw [HK.out]; decide), HB.out _⟩)
set_option maxHeartbeats 12800000 in
theorem isg_bool (M : Nat) (t : LT) (w : World) (hM : M ≤ w.heap.size) (hH : Held w M t) (q1 : t.k = 5) (q2 : t.g = false) (l3 : t.ln = 0) (q4 : t.bb = true) :
    Calls Tryz.prog 39 #[.agg #[.int .i64 t.k, .bool t.g, .slice t.la t.ln t.lc, .bool t.bb, .string t.s, .slice t.ia t.items.length t.ic, .slice t.ta t.tail.length t.tc]] w (IsP t w) := by
    have HB := Lib.hid (show ∀ O, Below w.heap.size w (w.alloc O) from fun O => (Below.refl _ _).alloc (Nat.le_refl _) _)
    have HK := Lib.hid q1
    rw [q1, q2, q4, l3]
    clear q1 q2 q4 l3 hH
    go_enter Tryz.func39, Tryz.ntmps39
    go_wp2_with fail
    all_goals first
      | (exfalso; contradiction)
      | (exfalso; omega)
      | (go_ret; exact ⟨_, rfl, fun _ h3 => absurd h3 (by rw [HK.out]; decide), HB.out _⟩)
set_option maxHeartbeats 12800000 in
theorem isg_text (M : Nat) (t : LT) (w : World) (hM : M ≤ w.heap.size) (hH : Held w M t) (q1 : t.k = 5) (q2 : t.g = false) (l3 : t.ln = 0) (q4 : t.bb = false) (q5 : t.s ≠ ⟨#[]⟩) :
    Calls Tryz.prog 39 #[.agg #[.int .i64 t.k, .bool t.g, .slice t.la t.ln t.lc, .bool t.bb, .string t.s, .slice t.ia t.items.length t.ic, .slice t.ta t.tail.length t.tc]] w (IsP t w) := by
    have HB := Lib.hid (show ∀ O, Below w.heap.size w (w.alloc O) from fun O => (Below.refl _ _).alloc (Nat.le_refl _) _)
    have HK := Lib.hid q1
    have q6 : ¬ (t.s.toList = []) := fun h => q5 (Go.WideShapes.bytes_inj (by simpa [ByteArray.toList_eq] using h))
    rw [q1, q2, q4, l3]
    clear q1 q2 q4 l3 hH q5
    go_enter Tryz.func39, Tryz.ntmps39
    go_wp2_with fail
    all_goals first
      | (exfalso; contradiction)
      | (exfalso; omega)
      | (go_ret; exact ⟨_, rfl, fun _ h3 => absurd h3 (by rw [HK.out]; decide), HB.out _⟩)
set_option maxHeartbeats 12800000 in
theorem isg_tails (M : Nat) (t : LT) (w : World) (hM : M ≤ w.heap.size) (hH : Held w M t) (q1 : t.k = 5) (q2 : t.g = false) (l3 : t.ln = 0) (q4 : t.bb = false) (q5 : t.s = ⟨#[]⟩) (hm : 1 < t.tail.length) :
    Calls Tryz.prog 39 #[.agg #[.int .i64 t.k, .bool t.g, .slice t.la t.ln t.lc, .bool t.bb, .string t.s, .slice t.ia t.items.length t.ic, .slice t.ta t.tail.length t.tc]] w (IsP t w) := by
    have HB := Lib.hid (show ∀ O, Below w.heap.size w (w.alloc O) from fun O => (Below.refl _ _).alloc (Nat.le_refl _) _)
    have HK := Lib.hid q1
    have e1 : decide ((1 : Int) < (t.tail.length : Int)) = true := decide_eq_true (by omega)
    rw [q1, q2, q4, q5, l3]
    clear q1 q2 q4 q5 l3 hH
    go_enter Tryz.func39, Tryz.ntmps39
    go_wp2_with fail
    all_goals first
      | (exfalso; contradiction)
      | (exfalso; omega)
      | (go_ret; exact ⟨_, rfl, fun _ h3 => absurd h3 (by rw [HK.out]; decide), HB.out _⟩)
set_option maxHeartbeats 12800000 in
theorem isg_alone (M : Nat) (t : LT) (w : World) (hM : M ≤ w.heap.size) (hH : Held w M t) (q1 : t.k = 5) (q2 : t.g = false) (l3 : t.ln = 0) (q4 : t.bb = false) (q5 : t.s = ⟨#[]⟩) (hm : t.tail.length = 1) (hn : t.items.length = 0) :
    Calls Tryz.prog 39 #[.agg #[.int .i64 t.k, .bool t.g, .slice t.la t.ln t.lc, .bool t.bb, .string t.s, .slice t.ia t.items.length t.ic, .slice t.ta t.tail.length t.tc]] w (IsP t w) := by
    have HB := Lib.hid (show ∀ O, Below w.heap.size w (w.alloc O) from fun O => (Below.refl _ _).alloc (Nat.le_refl _) _)
    have HK := Lib.hid q1
    rw [q1, q2, q4, q5, l3, hm, hn]
    clear q1 q2 q4 q5 l3 hH hm hn
    go_enter Tryz.func39, Tryz.ntmps39
    go_wp2_with fail
    all_goals first
      | (exfalso; contradiction)
      | (exfalso; omega)
      | (go_ret; exact ⟨_, rfl, fun _ h3 => absurd h3 (by rw [HK.out]; decide), HB.out _⟩)
set_option maxHeartbeats 12800000 in
theorem isg_twice (M : Nat) (t : LT) (w : World) (hM : M ≤ w.heap.size) (hH : Held w M t) (q1 : t.k = 5) (q2 : t.g = false) (l3 : t.ln = 0) (q4 : t.bb = false) (q5 : t.s = ⟨#[]⟩) (hm : t.tail.length = 1) (hn : 0 < t.items.length) (hk : ∀ (h : 0 < t.tail.length), t.tail[0].k = 5) :
    Calls Tryz.prog 39 #[.agg #[.int .i64 t.k, .bool t.g, .slice t.la t.ln t.lc, .bool t.bb, .string t.s, .slice t.ia t.items.length t.ic, .slice t.ta t.tail.length t.tc]] w (IsP t w) := by
    have HB := Lib.hid (show ∀ O, Below w.heap.size w (w.alloc O) from fun O => (Below.refl _ _).alloc (Nat.le_refl _) _)
    have HK := Lib.hid q1
    obtain ⟨hta, hlt⟩ := hH.2.2.1.2.2.1 (by omega)
    obtain ⟨hgbM, hcell, -⟩ := lies_held.1 ((liesR_iff _ _ _).1 hH.2.2.2.2 0 (by omega))
    have hkk := hk (by omega)
    obtain ⟨u, hu⟩ : ∃ u, t.tail[0] = u := ⟨_, rfl⟩
    rw [hu] at hcell hkk
    obtain ⟨tb, htb⟩ : ∃ b, blk t.ta = b := ⟨_, rfl⟩
    obtain ⟨to', hto⟩ : ∃ b, ofs t.ta = b := ⟨_, rfl⟩
    rw [htb] at hcell hgbM
    rw [htb, hto] at hta
    rw [hto] at hcell
    have hc0 : ∀ O, (w.alloc O).cell? ⟨tb, to', none⟩ = some (.int .i64 u.k) := fun O => (World.cell?_of_block (w := w) (a := ⟨tb, to', none⟩) (Below.heap_alloc _ _ _ (by show tb < _; omega))).trans (hcell 0 _ rfl)
    have hc1 := hc0 (.cells #[.int .i64 5, .bool false, .slice t.la 0 t.lc, .bool false, .string ⟨#[]⟩, .slice t.ia t.items.length t.ic, .slice (some ⟨tb, to', none⟩) 1 t.tc] 29)
    rw [hkk] at hc1
    have en : decide ((t.items.length : Int) = 0) = false := decide_eq_false (by omega)
    have en2 : ((t.items.length : Int) == 0) = false := beq_eq_false_iff_ne.2 (by omega)
    clear hcell hk hgbM hlt htb hto hu hc0 hkk
    rw [q1, q2, q4, q5, l3]
    rw [hm, hta]
    clear q1 q2 q4 q5 l3 hH hta
    go_enter Tryz.func39, Tryz.ntmps39
    go_wp2_with fail
    all_goals first
      | (exfalso; contradiction)
      | (exfalso; omega)
      | (go_ret; exact ⟨_, rfl, fun _ h3 => absurd h3 (by rw [HK.out]; decide), HB.out _⟩)
theorem is_all (M : Nat) : ∀ N : Nat, N ≤ 1000000 → IsG M N
  | 0, _, t, ht, _, _, _ => by rw [t.size_eq] at ht; omega
  | N + 1, hN, t, ht, w, hM, hH => by
    have hs := hH.1.2.2
    by_cases h0 : t.k = 0
    · exact is_nothing t h0 w hs
    by_cases h1 : t.k = 1
    · exact is_num M t h1 w hH
    by_cases h2 : t.k = 2
    · exact is_bool t h2 w hs
    by_cases h3 : t.k = 3
    · exact is_sym t h3 w hs
    by_cases h4 : t.k = 4
    · exact is_str t h4 w hs
    by_cases h5 : t.k = 5
    · by_cases q2 : t.g = true
      · exact isg_neg M t w hM hH h5 q2
      replace q2 : t.g = false := by simpa using q2
      by_cases l3 : t.ln = 0
      · by_cases q4 : t.bb = true
        · exact isg_bool M t w hM hH h5 q2 l3 q4
        replace q4 : t.bb = false := by simpa using q4
        by_cases q5 : t.s = ⟨#[]⟩
        · by_cases hm : 1 < t.tail.length
          · exact isg_tails M t w hM hH h5 q2 l3 q4 q5 hm
          by_cases hn : 0 < t.items.length
          · by_cases hm0 : t.tail.length = 0
            · exact isg_list M N hN (is_all M N (by omega)) t ht w hM hH h5 q2 l3 q4 q5 hm0 hn
            · by_cases hk : (t.tail[0]'(by omega)).k = 5
              · exact isg_twice M t w hM hH h5 q2 l3 q4 q5 (by omega) hn fun _ => hk
              · exact isg_dot M N hN (is_all M N (by omega)) t ht w hM hH h5 q2 l3 q4 q5 (by omega) hn fun _ => hk
          · by_cases hm0 : t.tail.length = 0
            · exact isg_none M N hN (is_all M N (by omega)) t ht w hM hH h5 q2 l3 q4 q5 hm0 (by omega)
            · exact isg_alone M t w hM hH h5 q2 l3 q4 q5 (by omega) (by omega)
        · exact isg_text M t w hM hH h5 q2 l3 q4 q5
      · exact isg_limbs M t w hM hH h5 q2 l3
    · exact is_other t h0 h1 h2 h3 h4 h5 w
set_option maxHeartbeats 6400000 in
/-- The document's Good of anything that is not too much. -/
theorem good_ends (M : Nat) (t : LT) (hsz : t.size ≤ 1000000) (w : World) (hM : M ≤ w.heap.size) (hH : Held w M t) :
    Calls Tryz.prog 21 #[.agg #[.int .i64 t.k, .bool t.g, .slice t.la t.ln t.lc, .bool t.bb, .string t.s, .slice t.ia t.items.length t.ic, .slice t.ta t.tail.length t.tc]] w (IsP t w) := by
  have hb0 : Below w.heap.size w (w.alloc (Obj.cells #[.int .i64 t.k, .bool t.g, .slice t.la t.ln t.lc, .bool t.bb, .string t.s, .slice t.ia t.items.length t.ic, .slice t.ta t.tail.length t.tc] 29)) := (Below.refl _ _).alloc (Nat.le_refl _) _
  have h0n : (w.alloc (Obj.cells #[.int .i64 t.k, .bool t.g, .slice t.la t.ln t.lc, .bool t.bb, .string t.s, .slice t.ia t.items.length t.ic, .slice t.ta t.tail.length t.tc] 29)).heap[w.heap.size]? = some (Obj.cells #[.int .i64 t.k, .bool t.g, .slice t.la t.ln t.lc, .bool t.bb, .string t.s, .slice t.ia t.items.length t.ic, .slice t.ta t.tail.length t.tc] 29) := heap_alloc_new w (Obj.cells #[.int .i64 t.k, .bool t.g, .slice t.la t.ln t.lc, .bool t.bb, .string t.s, .slice t.ia t.items.length t.ic, .slice t.ta t.tail.length t.tc] 29)
  have h0s : (w.alloc (Obj.cells #[.int .i64 t.k, .bool t.g, .slice t.la t.ln t.lc, .bool t.bb, .string t.s, .slice t.ia t.items.length t.ic, .slice t.ta t.tail.length t.tc] 29)).heap.size = w.heap.size + 1 := World.size_alloc ..
  have HS := Lib.hid (small_any M t 5000 200 (w.alloc (Obj.cells #[.int .i64 t.k, .bool t.g, .slice t.la t.ln t.lc, .bool t.bb, .string t.s, .slice t.ia t.items.length t.ic, .slice t.ta t.tail.length t.tc] 29)) (Nat.le_trans hM hb0.size) (hH.below hM hb0) (by decide) (by decide) (by decide) (by decide))
  have HI := Lib.hid (fun W (hb : Below w.heap.size w W) => is_all M 1000000 (Nat.le_refl _) t hsz W (Nat.le_trans hM hb.size) (hH.below hM hb))
  have HB := Lib.hid (And.intro hb0 (And.intro h0n h0s))
  clear hH hb0 h0n h0s hsz hM
  go_enter Tryz.func21, Tryz.ntmps21
  go_wp2_with fail
  refine HS.out.mono ?_
  rintro e w1 ⟨rfl, b1⟩
  have H1 := Lib.hid (HB.out.1.trans (b1.mono HB.out.1.size))
  obtain ⟨⟨d0, d1, d2, d3, d4, d5, d6⟩, -⟩ := cells7 ((b1.block w.heap.size (by rw [HB.out.2.2]; omega)).trans HB.out.2.1)
  clear b1 HS
  generalize decide (0 ≤ budT t 5000 200) = q at *
  cases q
  · go_wp2_with fail
    go_ret
    exact ⟨_, rfl, fun h _ => Bool.noConfusion h, H1.out⟩
  · go_wp2_with fail
    refine (HI.out w1 H1.out).mono ?_
    rintro e w2 ⟨r, rfl, hr, b2⟩
    have H2 := Lib.hid (And.intro (H1.out.trans (b2.mono H1.out.size)) hr)
    clear b2 hr d0 d1 d2 d3 d4 d5 d6
    go_wp2_with fail
    go_ret
    exact ⟨r, rfl, H2.out.2, H2.out.1⟩
end Go.Proofs.YtocnlapbkidinaaGreatDoor
