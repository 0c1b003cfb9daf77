/-
  pavaneref03.budget of any tree: how many data there are, counted down.
-/
import Derived.Test.YtlohdglhebplfaaGreatDoorOd
import Derived.OwnWalk
namespace Go.Proofs.YtlohdglhebplfaaGreatDoor
open Go.RowKit

mutual
def budT : LT → Int → Int → Int
  | .mk _ _ _ _ _ _ _ _ _ _ items _ _ tail, left, deep => if left - 1 < 0 ∨ deep ≤ 0 then -1 else budR tail (budR items (left - 1) (deep - 1)) (deep - 1)
def budR : List LT → Int → Int → Int
  | [], left, _ => left
  | t :: l, left, deep => if budT t left deep < 0 then -1 else budR l (budT t left deep) deep
end
theorem budT_eq (t : LT) (left deep : Int) : budT t left deep = if left - 1 < 0 ∨ deep ≤ 0 then -1 else budR t.tail (budR t.items (left - 1) (deep - 1)) (deep - 1) := by cases t; simp [budT, LT.items, LT.tail]
theorem budR_cons (t : LT) (l : List LT) (left deep : Int) : budR (t :: l) left deep = if budT t left deep < 0 then -1 else budR l (budT t left deep) deep := by simp [budR]
theorem budR_nil (left deep : Int) : budR [] left deep = left := by simp [budR]
theorem budR_neg (l : List LT) (deep : Int) : budR l (-1) deep = -1 := by
  cases l with
  | nil => exact budR_nil _ _
  | cons t l =>
    have : budT t (-1) deep = -1 := by rw [budT_eq, if_pos (.inl (by decide))]
    rw [budR_cons, this, if_pos (by decide)]
mutual
theorem budT_bd : ∀ (t : LT) (left deep : Int), 0 ≤ left → -1 ≤ budT t left deep ∧ budT t left deep ≤ left
  | .mk k g la ln lc ys bb s ia ic items ta tc tail, left, deep, h => by
    rw [budT_eq]
    by_cases hx : left - 1 < 0 ∨ deep ≤ 0
    · rw [if_pos hx]; omega
    · rw [if_neg hx]
      have h1 := budR_bd items (left - 1) (deep - 1) (by omega)
      have h2 := budR_bd tail (budR items (left - 1) (deep - 1)) (deep - 1) (by omega)
      simp only [LT.items, LT.tail]
      omega
theorem budR_bd : ∀ (l : List LT) (left deep : Int), -1 ≤ left → -1 ≤ budR l left deep ∧ budR l left deep ≤ left
  | [], left, deep, h => by rw [budR_nil]; omega
  | t :: l, left, deep, h => by
    by_cases hl : left = -1
    · subst hl; rw [budR_neg]; omega
    · have h1 := budT_bd t left deep (by omega)
      rw [budR_cons]
      by_cases hx : budT t left deep < 0
      · rw [if_pos hx]; omega
      · rw [if_neg hx]
        have h2 := budR_bd l (budT t left deep) deep (by omega)
        omega
end
/-- What is left to count. -/
def restB (t : LT) (d : Int) (j : Nat) (L : Int) : Int := match j with | 0 => budR t.tail (budR t.items L d) d | 1 => budR t.tail L d | _ => L
def listB (t : LT) (j : Nat) : List LT := match j with | 0 => t.items | _ => t.tail
theorem restB_step (t : LT) (d : Int) (j : Nat) (hj : j < 2) (L : Int) : restB t d j L = restB t d (j + 1) (budR (listB t j) L d) := by
  rcases (show j = 0 ∨ j = 1 by omega) with rfl | rfl <;> rfl
theorem restB_neg (t : LT) (d : Int) (j : Nat) (hj : j < 2) : restB t d (j + 1) (-1) = -1 := by
  rcases (show j = 0 ∨ j = 1 by omega) with rfl | rfl
  · exact budR_neg _ _
  · rfl
theorem Held.keep {w w' : World} {M : Nat} {t : LT} (h : Held w M t) (hs : w.heap.size ≤ w'.heap.size) (hk : ∀ k, k < M → w'.heap[k]? = w.heap[k]?) : Held w' M t :=
  ⟨⟨h.1.1.keepM hs h.1.2.1 hk, h.1.2⟩, h.2.1, h.2.2.1, h.2.2.2.1.keep hs hk, h.2.2.2.2.keep hs hk⟩
theorem sizes_mem {l : List LT} {k : Nat} (h : k < l.length) : l[k].size ≤ sizes l := by
  induction l generalizing k with
  | nil => simp at h
  | cons t l ih =>
    simp only [sizes]
    cases k with
    | zero => simp
    | succ k =>
      have := ih (k := k) (by simpa using h)
      simp only [List.getElem_cons_succ]
      omega

theorem run_two (A : Array Value) (j : Nat) (x : Value) (w : World) (hj : j < 2) (h : A[j]? = some x) (hx : x.cells.size = 1) : (Instr.index 121 (.agg A) (.int .i64 (j : Int))).run Tryz.prog w = .ok x w := by
  simp [Instr.index, asIntOf, part, Sem.run_bind, run_underlying Tryz.underlying121, go_sem, h, hj]

set_option maxRecDepth 100000 in
set_option maxHeartbeats 6400000 in
theorem budget_ok (M : Nat) : ∀ (N : Nat) (t : LT), t.size ≤ N → ∀ (left deep : Int) (w : World), M ≤ w.heap.size → Held w M t → 0 ≤ left → left ≤ 1000000 → 0 ≤ deep → deep ≤ 1000000 →
    Calls Tryz.prog 83 #[.agg #[.int .i64 t.k, .bool t.g, .slice t.la t.ln t.lc, .bool t.bb, .string t.s, .slice t.ia t.items.length t.ic, .slice t.ta t.tail.length t.tc], .int .i64 left, .int .i64 deep] w fun e w' => e = .returned (.int .i64 (budT t left deep)) ∧ Below w.heap.size w w' := by
  intro N
  induction N with
  | zero => intro t ht; rw [t.size_eq] at ht; omega
  | succ N ih =>
    intro t ht left deep w hM hH hl0 hl1 hd0 hd1
    have IH := Lib.hid ih
    clear ih
    by_cases hx : left - 1 < 0
    · have HR := Lib.hid (show budT t left deep = -1 by rw [budT_eq, if_pos (.inl hx)])
      go_enter Tryz.func83, Tryz.ntmps83
      go_wp2_with fail
      go_ret
      exact ⟨by rw [HR.out]; rfl, (Below.refl _ w).alloc (Nat.le_refl _) _⟩
    by_cases hy : deep ≤ 0
    · have HR := Lib.hid (show budT t left deep = -1 by rw [budT_eq, if_pos (.inr hy)])
      go_enter Tryz.func83, Tryz.ntmps83
      go_wp2_with fail
      go_ret
      exact ⟨by rw [HR.out]; rfl, (Below.refl _ w).alloc (Nat.le_refl _) _⟩
    have HT := Lib.hid (show budT t left deep = restB t (deep - 1) 0 (left - 1) by rw [budT_eq, if_neg (by omega)]; rfl)
    have HHH := Lib.hid hH
    have HSZ := Lib.hid (show sizes (listB t 0) ≤ N ∧ sizes (listB t 1) ≤ N by rw [t.size_eq] at ht; simp only [listB]; omega)
    clear hH ht
    go_enter Tryz.func83, Tryz.ntmps83
    go_wp2_with fail
    obtain ⟨A, hA⟩ : ∃ A, A = (#[.slice t.ia t.items.length t.ic, .slice t.ta t.tail.length t.tc] : Array Value) := ⟨_, rfl⟩
    have HAT := Lib.hid (show ∀ j, j < 2 → ∃ a c, A[j]? = some (.slice a (listB t j).length c) ∧ Spot M a (listB t j).length c ∧ LiesR w M (listB t j) (blk a) (ofs a) by
      intro j hj
      rcases (show j = 0 ∨ j = 1 by omega) with rfl | rfl
      · exact ⟨t.ia, t.ic, by rw [hA]; rfl, HHH.out.2.1, HHH.out.2.2.2.1⟩
      · exact ⟨t.ta, t.tc, by rw [hA]; rfl, HHH.out.2.2.1, HHH.out.2.2.2.2⟩)
    have hb0 : Below w.heap.size w (w.alloc (Obj.cells #[.int .i64 t.k, .bool t.g, .slice t.la t.ln t.lc, .bool t.bb, .string t.s, .slice t.ia t.items.length t.ic, .slice t.ta t.tail.length t.tc] 31)) := (Below.refl _ w).alloc (Nat.le_refl _) _
    rw [← hA]
    clear hA
    go_loopw [1, 24] (fun lf i wr => ∃ (j : Nat) (L : Int), j ≤ 2 ∧ i = .int .i64 j ∧ lf = .int .i64 L ∧ 0 ≤ L ∧ L ≤ left ∧ Hid (budT t left deep = restB t (deep - 1) j L) ∧ Below w.heap.size w wr) (fun _ i _ => 2 - (intOf i).toNat)
    case atStart => exact ⟨0, left - 1, by decide, rfl, rfl, by omega, by omega, HT, hb0⟩
    case round =>
      obtain ⟨j, L, hj, rfl, rfl, hL0, hL1, HJ, hbel⟩ := hrel
      clear hb0
      by_cases hj2 : j < 2
      · obtain ⟨a, c, ha, hsp, hli⟩ := HAT.out j hj2
        have hrun := fun w' => run_two A j _ w' hj2 ha rfl
        have hdj : decide ((j : Int) < 2) = true := by simp; omega
        have HS := Lib.hid (show sizes (listB t j) ≤ N by rcases (show j = 0 ∨ j = 1 by omega) with rfl | rfl; exact HSZ.out.1; exact HSZ.out.2)
        have HJ2 := Lib.hid (show budT t left deep = restB t (deep - 1) (j + 1) (budR (listB t j) L (deep - 1)) by rw [HJ.out, restB_step t _ j hj2])
        have HNEG := Lib.hid (restB_neg t (deep - 1) j hj2)
        generalize listB t j = l at *
        by_cases hl : 0 < l.length
        · obtain ⟨haa, hlt⟩ := hsp.2.2.1 hl
          have hsz := hsp.2.1
          have hsc := hsp.1
          unfold maxLen at hsz
          have HLI := Lib.hid hli
          have hrun' := hrun wr
          clear hli hsp ha hrun
          rw [haa] at hrun'
          generalize blk a = gb at *
          generalize ofs a = go at *
          clear haa
          go_wp2_with fail
          go_loopw [1, 29] (fun lf i ws => ∃ (k : Nat) (L' : Int), k ≤ l.length ∧ i = .int .i64 k ∧ lf = .int .i64 L' ∧ 0 ≤ L' ∧ L' ≤ left ∧ Hid (budR l L (deep - 1) = budR (l.drop k) L' (deep - 1)) ∧ Below w.heap.size w ws) (fun _ i _ => l.length - (intOf i).toNat)
          case atStart => exact ⟨0, L, Nat.zero_le _, rfl, rfl, hL0, hL1, Lib.hid rfl, hbel⟩
          case round =>
            obtain ⟨k, L', hk, rfl, rfl, hm0, hm1, HK, hbs⟩ := hrel
            clear hrun' hbel
            by_cases hlk : k < l.length
            · have hli := ((liesR_iff _ _ _).1 HLI.out k hlk).keep hbs.size (fun q hq => hbs.block q (by omega))
              obtain ⟨hgbM, hcell, hheld⟩ := lies_held.1 hli
              have hsz1 := sizes_mem hlk
              have hdr := List.drop_eq_getElem_cons hlk
              obtain ⟨u, hu⟩ : ∃ u, l[k] = u := ⟨_, rfl⟩
              rw [hu] at hcell hheld hsz1 hdr
              rw [Nat.mul_comm 7 k] at hcell
              have d0 : wr.cell? ⟨gb, go + k * 7, none⟩ = some (.int .i64 u.k) := hcell 0 _ rfl
              have d1 : wr.cell? ⟨gb, go + k * 7 + 1, none⟩ = some (.bool u.g) := hcell 1 _ rfl
              have d2 : wr.cell? ⟨gb, go + k * 7 + 2, none⟩ = some (.slice u.la u.ln u.lc) := hcell 2 _ rfl
              have d3 : wr.cell? ⟨gb, go + k * 7 + 3, none⟩ = some (.bool u.bb) := hcell 3 _ rfl
              have d4 : wr.cell? ⟨gb, go + k * 7 + 4, none⟩ = some (.string u.s) := hcell 4 _ rfl
              have d5 : wr.cell? ⟨gb, go + k * 7 + 5, none⟩ = some (.slice u.ia u.items.length u.ic) := hcell 5 _ rfl
              have d6 : wr.cell? ⟨gb, go + k * 7 + 6, none⟩ = some (.slice u.ta u.tail.length u.tc) := hcell 6 _ rfl
              have hba : Below wr.heap.size wr (wr.alloc (Obj.cells #[.int .i64 u.k, .bool u.g, .slice u.la u.ln u.lc, .bool u.bb, .string u.s, .slice u.ia u.items.length u.ic, .slice u.ta u.tail.length u.tc] 31)) := (Below.refl _ _).alloc (Nat.le_refl _) _
              have hMs : M ≤ wr.heap.size := Nat.le_trans hM hbs.size
              have HC := Lib.hid (IH.out u (Nat.le_trans hsz1 HS.out) L' (deep - 1) (wr.alloc (Obj.cells #[.int .i64 u.k, .bool u.g, .slice u.la u.ln u.lc, .bool u.bb, .string u.s, .slice u.ia u.items.length u.ic, .slice u.ta u.tail.length u.tc] 31)) (Nat.le_trans hMs hba.size) (hheld.keep hba.size (fun q hq => hba.block q (by omega))) hm0 (by omega) (by omega) (by omega))
              have HBA := Lib.hid (bnext hbs hba)
              have hbd := budT_bd u L' (deep - 1) hm0
              have HK2 := Lib.hid (show budR l L (deep - 1) = if budT u L' (deep - 1) < 0 then -1 else budR (l.drop (k + 1)) (budT u L' (deep - 1)) (deep - 1) by rw [HK.out, hdr, budR_cons])
              clear hli hcell hheld hsz1 hdr hba
              generalize budT u L' (deep - 1) = r at *
              go_wp2_with fail
              refine HC.out.mono ?_
              rintro e w6 ⟨rfl, b6⟩
              have hb6 := bnext HBA.out b6
              obtain ⟨hr0, hr1⟩ := hbd
              by_cases hr : r < 0
              · have HF := Lib.hid (show budT t left deep = -1 by rw [HJ2.out, HK2.out, if_pos hr, HNEG.out])
                go_wp2_with fail
                go_ret
                exact ⟨by rw [HF.out]; rfl, hb6⟩
              · have HG := Lib.hid (show budR l L (deep - 1) = budR (l.drop (k + 1)) r (deep - 1) by rw [HK2.out, if_neg hr])
                go_wp2_with fail
                go_roundw
                case rel => exact ⟨k + 1, r, by omega, by go_num, rfl, by omega, by omega, HG, hb6⟩
                case measure => simp [intOf]; omega
            · obtain rfl : k = l.length := by omega
              have HF := Lib.hid (show budT t left deep = restB t (deep - 1) (j + 1) L' by rw [HJ2.out, HK.out, List.drop_length, budR_nil])
              go_wp2_with fail
              go_roundw
              case rel => exact ⟨j + 1, L', by omega, by go_num, rfl, hm0, hm1, HF, hbs⟩
              case measure => simp [intOf]; omega
        · obtain rfl : l = [] := List.length_eq_zero_iff.1 (by omega)
          have HF := Lib.hid (show budT t left deep = restB t (deep - 1) (j + 1) L by rw [HJ2.out, budR_nil])
          have hrun' := hrun wr
          clear hli hsp ha hrun hl
          rw [List.length_nil] at hrun'
          go_wp2_with fail
          go_loopw [1, 29] (fun lf i ws => i = .int .i64 0 ∧ lf = .int .i64 L ∧ ws = wr) (fun _ _ _ => 0)
          case atStart => exact ⟨rfl, rfl, rfl⟩
          case round =>
            obtain ⟨rfl, rfl, rfl⟩ := hrel
            clear hrun'
            go_wp2_with fail
            go_roundw
            case rel => exact ⟨j + 1, L, by omega, by go_num, rfl, hL0, hL1, HF, hbel⟩
            case measure => simp [intOf]; omega
      · obtain rfl : j = 2 := by omega
        have HE := Lib.hid (show budT t left deep = L from HJ.out)
        go_wp2_with fail
        go_ret
        exact ⟨by rw [HE.out]; rfl, hbel⟩
end Go.Proofs.YtlohdglhebplfaaGreatDoor
