/-
  pavaneref03.All of any tree: the data in the order of Walk, in a list of the call's own.
-/
import Derived.Test.YtgboiopkihemaaaSmF
import Derived.Test.YtgboiopkihemaaaNl
namespace Go.Proofs.Ytgboiopkihemaaa
open Go.RowKit

mutual
def allT : LT → List LT
  | .mk k g la ln lc ys bb s ia ic items ta tc tail => .mk k g la ln lc ys bb s ia ic items ta tc tail :: (allR items ++ allR tail)
def allR : List LT → List LT
  | [] => []
  | t :: l => allT t ++ allR l
end
theorem allT_eq (t : LT) : allT t = t :: (allR t.items ++ allR t.tail) := by cases t; simp [allT, LT.items, LT.tail]
theorem allR_cons (t : LT) (l : List LT) : allR (t :: l) = allT t ++ allR l := by simp [allR]
theorem allR_nil : allR [] = [] := by simp [allR]
mutual
theorem allT_length : ∀ t : LT, (allT t).length = t.size
  | .mk k g la ln lc ys bb s ia ic items ta tc tail => by
    have h1 := allR_length items
    have h2 := allR_length tail
    rw [allT_eq, LT.size_eq]
    simp only [List.length_cons, List.length_append, LT.items, LT.tail]
    omega
theorem allR_length : ∀ l : List LT, (allR l).length = sizes l
  | [] => by simp [allR, sizes]
  | t :: l => by
    have h1 := allT_length t
    have h2 := allR_length l
    simp only [allR_cons, List.length_append, sizes]
    omega
end
def cellsAll : List LT → List Value
  | [] => []
  | t :: l => t.cells ++ cellsAll l
theorem cellsAll_append (l m : List LT) : cellsAll (l ++ m) = cellsAll l ++ cellsAll m := by induction l with | nil => rfl | cons t l ih => simp [cellsAll, ih]
theorem cellsAll_length (l : List LT) : (cellsAll l).length = l.length * 7 := by
  induction l with
  | nil => rfl
  | cons t l ih => simp only [cellsAll, List.length_append, ih, List.length_cons]; rw [show t.cells.length = 7 from rfl]; omega
theorem cellsAll_one : ∀ (l : List LT), ∀ u ∈ cellsAll l, u.oneCell' = true
  | [], u, h => by simp [cellsAll] at h
  | t :: l, u, h => by
    simp only [cellsAll, List.mem_append] at h
    rcases h with h | h
    · simp only [LT.cells, List.mem_cons, List.mem_nil_iff, or_false] at h
      rcases h with rfl | rfl | rfl | rfl | rfl | rfl | rfl <;> rfl
    · exact cellsAll_one l u h
def restA (t : LT) (j : Nat) : List LT := match j with | 0 => allR t.items ++ allR t.tail | 1 => allR t.tail | _ => []
theorem restA_step (t : LT) (j : Nat) (hj : j < 2) : restA t j = allR (listB t j) ++ restA t (j + 1) := by
  rcases (show j = 0 ∨ j = 1 by omega) with rfl | rfl
  · rfl
  · exact (List.append_nil _).symm
theorem own_open7 {w : World} {base size n : Nat} {e : TypeId} {v : Value} {xs : List Value} (h : w.ownsRow base e size v n xs) (hn : 1 ≤ n) : ∃ gb c, v = .slice (some ⟨gb, 0, none⟩) n c ∧ base ≤ gb := by
  rcases h.2 with ⟨_, h0⟩ | ⟨gb, c, cur, hv, hb, hg, h1, h2, _⟩
  · omega
  · exact ⟨gb, c, hv, hb⟩

set_option maxRecDepth 100000 in
set_option maxHeartbeats 6400000 in
theorem all_ok (M : Nat) : ∀ (N : Nat) (t : LT), t.size ≤ N → N ≤ 100000 → ∀ (w : World), M ≤ w.heap.size → Held w M t →
    Calls Try.prog 25 #[.agg #[.int .i64 t.k, .bool t.g, .slice t.la t.ln t.lc, .bool t.bb, .string t.s, .slice t.ia t.items.length t.ic, .slice t.ta t.tail.length t.tc]] w fun e w' => ∃ V, e = .returned V ∧ w'.ownsRow w.heap.size 27 7 V (allT t).length (cellsAll (allT t)) ∧ Below w.heap.size w w' := by
  intro N
  induction N with
  | zero => intro t ht; rw [t.size_eq] at ht; omega
  | succ N ih =>
    intro t ht hN w hM hH
    have IH := Lib.hid ih
    clear ih
    have HLEN := Lib.hid (show (allT t).length ≤ 100000 by rw [allT_length]; omega)
    have HHH := Lib.hid hH
    have HSZ := Lib.hid (show sizes (listB t 0) ≤ N ∧ sizes (listB t 1) ≤ N by rw [t.size_eq] at ht; simp only [listB]; omega)
    clear hH ht
    go_enter Try.func25, Try.ntmps25
    go_wp2_with fail
    obtain ⟨A, hA⟩ : ∃ A, A = (#[.slice t.ia t.items.length t.ic, .slice t.ta t.tail.length t.tc] : Array Value) := ⟨_, rfl⟩
    have HAT := Lib.hid (show ∀ j, j < 2 → ∃ a c, A[j]? = some (.slice a (listB t j).length c) ∧ Spot M a (listB t j).length c ∧ LiesR w M (listB t j) (blk a) (ofs a) by
      intro j hj
      rcases (show j = 0 ∨ j = 1 by omega) with rfl | rfl
      · exact ⟨t.ia, t.ic, by rw [hA]; rfl, HHH.out.2.1, HHH.out.2.2.2.1⟩
      · exact ⟨t.ta, t.tc, by rw [hA]; rfl, HHH.out.2.2.1, HHH.out.2.2.2.2⟩)
    have hb0 : Below w.heap.size w ((w.alloc (Obj.cells #[.int .i64 t.k, .bool t.g, .slice t.la t.ln t.lc, .bool t.bb, .string t.s, .slice t.ia t.items.length t.ic, .slice t.ta t.tail.length t.tc] 27)).alloc (Obj.cells #[.int .i64 t.k, .bool t.g, .slice t.la t.ln t.lc, .bool t.bb, .string t.s, .slice t.ia t.items.length t.ic, .slice t.ta t.tail.length t.tc] 27)) := ((Below.refl _ w).alloc (Nat.le_refl _) _).alloc (by simp) _
    have ho0 : ((w.alloc (Obj.cells #[.int .i64 t.k, .bool t.g, .slice t.la t.ln t.lc, .bool t.bb, .string t.s, .slice t.ia t.items.length t.ic, .slice t.ta t.tail.length t.tc] 27)).alloc (Obj.cells #[.int .i64 t.k, .bool t.g, .slice t.la t.ln t.lc, .bool t.bb, .string t.s, .slice t.ia t.items.length t.ic, .slice t.ta t.tail.length t.tc] 27)).ownsRow w.heap.size 27 7 (.slice (some ⟨w.heap.size + 1, 0, none⟩) 1 1) 1 (cellsAll [t]) := by
      have := World.ownsRow_lit (base := w.heap.size) (e := 27) (size := 7) (w.alloc (Obj.cells #[.int .i64 t.k, .bool t.g, .slice t.la t.ln t.lc, .bool t.bb, .string t.s, .slice t.ia t.items.length t.ic, .slice t.ta t.tail.length t.tc] 27)) #[.int .i64 t.k, .bool t.g, .slice t.la t.ln t.lc, .bool t.bb, .string t.s, .slice t.ia t.items.length t.ic, .slice t.ta t.tail.length t.tc] 1 (by simp) (by unfold maxLen; omega) rfl
      rw [World.size_alloc] at this
      exact this
    rw [← hA]
    clear hA
    go_loopw [3, 15] (fun V i wr => ∃ (j : Nat) (done : List LT), j ≤ 2 ∧ i = .int .i64 j ∧ wr.ownsRow w.heap.size 27 7 V done.length (cellsAll done) ∧ Hid (allT t = done ++ restA t j) ∧ Below w.heap.size w wr) (fun _ i _ => 2 - (intOf i).toNat)
    case atStart => exact ⟨0, [t], by decide, rfl, ho0, Lib.hid (by rw [allT_eq]; rfl), hb0⟩
    case round =>
      obtain ⟨j, done, hj, rfl, hown, HJ, hbel⟩ := hrel
      clear hb0 ho0
      by_cases hj2 : j < 2
      · obtain ⟨a, c, ha, hsp, hli⟩ := HAT.out j hj2
        have hrun := fun w' => run_two A j _ w' hj2 ha rfl
        have hdj : decide ((j : Int) < 2) = true := by simp; omega
        have HS := Lib.hid (show sizes (listB t j) ≤ N by rcases (show j = 0 ∨ j = 1 by omega) with rfl | rfl; exact HSZ.out.1; exact HSZ.out.2)
        have HJ2 := Lib.hid (show allT t = done ++ (allR (listB t j) ++ restA t (j + 1)) by rw [HJ.out, restA_step t j hj2])
        generalize listB t j = l at *
        by_cases hl : 0 < l.length
        · obtain ⟨haa, hlt⟩ := hsp.2.2.1 hl
          have hsz := hsp.2.1
          have hsc := hsp.1
          unfold maxLen at hsz
          have HLI := Lib.hid hli
          have hrun' := hrun wr
          clear hli hsp ha hrun
          rw [haa] at hrun'
          generalize blk a = gb at *
          generalize ofs a = go at *
          clear haa
          go_wp2_with fail
          go_loopw [3, 20] (fun V i wr => ∃ (k : Nat) (done' : List LT), k ≤ l.length ∧ i = .int .i64 k ∧ wr.ownsRow w.heap.size 27 7 V done'.length (cellsAll done') ∧ Hid (allT t = done' ++ (allR (l.drop k) ++ restA t (j + 1))) ∧ Below w.heap.size w wr) (fun _ i _ => l.length - (intOf i).toNat)
          case atStart => exact ⟨0, done, Nat.zero_le _, rfl, hown, HJ2, hbel⟩
          case round =>
            obtain ⟨k, done', hk, rfl, hown', HK, hbs⟩ := hrel
            clear hrun' hbel hown
            by_cases hlk : k < l.length
            · have hli := ((liesR_iff _ _ _).1 HLI.out k hlk).keep hbs.size (fun q hq => hbs.block q (by omega))
              obtain ⟨hgbM, hcell, hheld⟩ := lies_held.1 hli
              have hsz1 := sizes_mem hlk
              have hdr := List.drop_eq_getElem_cons hlk
              obtain ⟨u, hu⟩ : ∃ u, l[k] = u := ⟨_, rfl⟩
              rw [hu] at hcell hheld hsz1 hdr
              rw [Nat.mul_comm 7 k] at hcell
              have d0 : wr.cell? ⟨gb, go + k * 7, none⟩ = some (.int .i64 u.k) := hcell 0 _ rfl
              have d1 : wr.cell? ⟨gb, go + k * 7 + 1, none⟩ = some (.bool u.g) := hcell 1 _ rfl
              have d2 : wr.cell? ⟨gb, go + k * 7 + 2, none⟩ = some (.slice u.la u.ln u.lc) := hcell 2 _ rfl
              have d3 : wr.cell? ⟨gb, go + k * 7 + 3, none⟩ = some (.bool u.bb) := hcell 3 _ rfl
              have d4 : wr.cell? ⟨gb, go + k * 7 + 4, none⟩ = some (.string u.s) := hcell 4 _ rfl
              have d5 : wr.cell? ⟨gb, go + k * 7 + 5, none⟩ = some (.slice u.ia u.items.length u.ic) := hcell 5 _ rfl
              have d6 : wr.cell? ⟨gb, go + k * 7 + 6, none⟩ = some (.slice u.ta u.tail.length u.tc) := hcell 6 _ rfl
              have hba : Below wr.heap.size wr (wr.alloc (Obj.cells #[.int .i64 u.k, .bool u.g, .slice u.la u.ln u.lc, .bool u.bb, .string u.s, .slice u.ia u.items.length u.ic, .slice u.ta u.tail.length u.tc] 27)) := (Below.refl _ _).alloc (Nat.le_refl _) _
              have hMs : M ≤ wr.heap.size := Nat.le_trans hM hbs.size
              have HC := Lib.hid (IH.out u (Nat.le_trans hsz1 HS.out) (by omega) (wr.alloc (Obj.cells #[.int .i64 u.k, .bool u.g, .slice u.la u.ln u.lc, .bool u.bb, .string u.s, .slice u.ia u.items.length u.ic, .slice u.ta u.tail.length u.tc] 27)) (Nat.le_trans hMs hba.size) (hheld.keep hba.size (fun q hq => hba.block q (by omega))))
              have HBA := Lib.hid (bnext hbs hba)
              have HK2 := Lib.hid (show allT t = (done' ++ allT u) ++ (allR (l.drop (k + 1)) ++ restA t (j + 1)) by rw [HK.out, hdr, allR_cons]; simp only [List.append_assoc])
              have hln : done'.length + (allT u).length ≤ 100000 := by
                have h1 := HLEN.out
                rw [HK2.out] at h1
                simp only [List.length_append] at h1
                omega
              have HO := Lib.hid (hown'.alloc (Obj.cells #[.int .i64 u.k, .bool u.g, .slice u.la u.ln u.lc, .bool u.bb, .string u.s, .slice u.ia u.items.length u.ic, .slice u.ta u.tail.length u.tc] 27))
              have hu1 : 1 ≤ (allT u).length := by rw [allT_eq]; simp
              clear hli hcell hheld hsz1 hdr hba hown'
              go_wp2_with fail
              refine HC.out.mono ?_
              rintro e w6 ⟨V2, rfl, hown2, b6⟩
              have hb6 := bnext HBA.out b6
              have hown6 := own_below7 HO.out b6
              have hz6 := b6.size
              have hz7 := HBA.out.size
              obtain ⟨g2, c2, rfl, hg2⟩ := own_open7 hown2 hu1
              have HN2 := Lib.hid (hown2.cells rfl)
              obtain ⟨i0, hi0, hz0, hz1, hz2⟩ := info_parts infoD
              have HO6 := Lib.hid hown6
              clear hown2 hown6 b6
              go_wp2_with (at_builtin; refine wpList_append_own _ rfl (.tmp 24) (.tmp 26) 25 rfl w.heap.size 27 i0 (.agg #[.int .i64 0, .bool false, .slice none 0 0, .bool false, .string ⟨#[]⟩, .slice none 0 0, .slice none 0 0]) 7 112 Try.underlying25 hi0 hz0 hz1 hz2 rfl (by decide) _ done'.length (cellsAll done') rfl HO6.out ⟨g2, 0, none⟩ (allT u).length c2 (cellsAll (allT u)) rfl (cellsAll_length _) HN2.out (cellsAll_one _) (by unfold maxLen; omega) (by omega) (by omega) ?_; intro v1 w1 own1 grow1 _; have b1 : Below w.heap.size w w1 := hb6.grown grow1 (by omega) (fun k hk => (HO6.out.lt k hk).1); clear grow1; have own2 := Lib.hid own1; clear own1)
              go_roundw
              case rel => exact ⟨k + 1, done' ++ allT u, by omega, by go_num, by rw [List.length_append, cellsAll_append]; exact own2.out, HK2, b1⟩
              case measure => simp [intOf]; omega
            · obtain rfl : k = l.length := by omega
              have HF := Lib.hid (show allT t = done' ++ restA t (j + 1) by rw [HK.out, List.drop_length, allR_nil, List.nil_append])
              go_wp2_with fail
              go_roundw
              case rel => exact ⟨j + 1, done', by omega, by go_num, hown', HF, hbs⟩
              case measure => simp [intOf]; omega
        · obtain rfl : l = [] := List.length_eq_zero_iff.1 (by omega)
          have HF := Lib.hid (show allT t = done ++ restA t (j + 1) by rw [HJ2.out, allR_nil, List.nil_append])
          have hrun' := hrun wr
          clear hli hsp ha hrun hl
          rw [List.length_nil] at hrun'
          go_wp2_with fail
          go_loopw [3, 20] (fun V' i ws => i = .int .i64 0 ∧ ws.ownsRow w.heap.size 27 7 V' done.length (cellsAll done) ∧ Below w.heap.size w ws) (fun _ _ _ => 0)
          case atStart => exact ⟨rfl, hown, hbel⟩
          case round =>
            clear hrun' hown hbel
            obtain ⟨rfl, hown, hbel⟩ := hrel
            go_wp2_with fail
            go_roundw
            case rel => exact ⟨j + 1, done, by omega, by go_num, hown, HF, hbel⟩
            case measure => simp [intOf]; omega
      · obtain rfl : j = 2 := by omega
        have HE := Lib.hid (show allT t = done by rw [HJ.out]; exact List.append_nil _)
        go_wp2_with fail
        go_ret
        exact ⟨_, rfl, by rw [HE.out]; exact hown, hbel⟩
end Go.Proofs.Ytgboiopkihemaaa
