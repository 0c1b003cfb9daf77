/-
  The reader: the examples; the document's Depth.
-/
import Derived.Test.YtifogchgfbieoaaDoorRdv
namespace Go.Proofs.YtifogchgfbieoaaDoor
open Go.RowKit

section

section
variable {w : World}
theorem Below.tabs {w w' : World} (h : Below w.heap.size w w') (ht : Tabs w) : Tabs w' := ht.below h
theorem read_const (s : ByteArray) (r : Res) (hr : Rdd .datum s.data.toList 0 r) (hs : s.size ≤ 16384) (hz : ∀ d l, r = .ok d l → sizeD d ≤ 5000) (ht : Tabs w) : Calls Tryd.prog 9 #[.string s, .int .i64 0] w (ReadPost s 0 w r) :=
  (read_any (p := 0) hs (Nat.zero_le _) ht fun d l h => hz d l (hr.one h)).mono fun E w' ⟨r', h1, h2⟩ => by rw [hr.one h1]; exact h2
/-- A datum's cells, with so many items, and so many behind a dot. -/
def Cel (k : Int) (n m : Nat) (c : Array Value) : Prop := ∃ (g bb : Bool) (la ia ta : Option Addr) (ln lc ic tc : Nat) (s : ByteArray), c = #[.int .i64 k, .bool g, .slice la ln lc, .bool bb, .string s, .slice ia n ic, .slice ta m tc]
theorem live_ok {s : ByteArray} {d : DT} {l : By} {k : Int} {n m : Nat} (hr : Rdd .datum s.data.toList 0 (.ok d l)) (hs : s.size ≤ 16384) (hz : sizeD d ≤ 5000) (hd : depthD (normD d) ≤ 200) (hk : (normD d).k = k) (hn : ∃ g ys bb t a b, normD d = .mk k g ys bb t a b ∧ a.length = n ∧ b.length = m) (ht : Tabs w) :
    Calls Tryd.prog 9 #[.string s, .int .i64 0] w fun E w' => (∃ (g bb : Bool) (la ia ta : Option Addr) (ln lc ic tc q : Nat) (t : ByteArray), E = .returned (.tuple #[.agg #[.int .i64 k, .bool g, .slice la ln lc, .bool bb, .string t, .slice ia n ic, .slice ta m tc], .int .i64 q, .int .i64 0])) ∧ Below w.heap.size w w' := by
  refine (read_const s _ hr hs (fun d' l' e => by injection e with e _; rw [← e]; exact hz) ht).mono ?_
  rintro E w' ⟨hb, q, _, _, _, ⟨_, u, rfl, _, hsh, _⟩ | ⟨hno, _⟩⟩
  · obtain ⟨g, ys, bb, t, a, b, he, ha, hb'⟩ := hn
    rw [he, shape_eq] at hsh
    injection hsh with q1 q2 q3 q4 q5 q6 q7
    have l1 : u.items.length = n := by rw [← shapes_length, q6, ha]
    have l2 : u.tail.length = m := by rw [← shapes_length, q7, hb']
    rw [q1, l1, l2]
    exact ⟨⟨_, _, _, _, _, _, _, _, _, _, _, rfl⟩, hb⟩
  · exact absurd hd hno
theorem live1 (ht : Tabs w) : Calls Tryd.prog 9 #[.string ⟨#[40, 97, 32, 46, 32, 98, 41]⟩, .int .i64 0] w fun E w' => (∃ (g bb : Bool) (la ia ta : Option Addr) (ln lc ic tc q : Nat) (t : ByteArray), E = .returned (.tuple #[.agg #[.int .i64 5, .bool g, .slice la ln lc, .bool bb, .string t, .slice ia 1 ic, .slice ta 1 tc], .int .i64 q, .int .i64 0])) ∧ Below w.heap.size w w' :=
  live_ok ex1 (by decide) (by simp [listD, symD, sizeD, sizesD]) (by simp [listD, symD, normD, spineD, spinesD, normsD, closeD, leafD, depthD, depthsD]) (by simp [listD, symD, normD, spineD, spinesD, normsD, closeD, leafD, DT.k]) ⟨_, _, _, _, _, _, by simp only [listD, symD, normD, spineD, spinesD, normsD, closeD, leafD]; rfl, rfl, rfl⟩ ht
theorem live2 (ht : Tabs w) : Calls Tryd.prog 9 #[.string ⟨#[39, 120]⟩, .int .i64 0] w fun E w' => (∃ (g bb : Bool) (la ia ta : Option Addr) (ln lc ic tc q : Nat) (t : ByteArray), E = .returned (.tuple #[.agg #[.int .i64 5, .bool g, .slice la ln lc, .bool bb, .string t, .slice ia 2 ic, .slice ta 0 tc], .int .i64 q, .int .i64 0])) ∧ Below w.heap.size w w' :=
  live_ok ex2 (by decide) (by simp [listD, symD, sizeD, sizesD]) (by simp [listD, symD, normD, spineD, spinesD, normsD, closeD, leafD, depthD, depthsD]) (by simp [listD, symD, normD, spineD, spinesD, normsD, closeD, leafD, DT.k]) ⟨_, _, _, _, _, _, by simp only [listD, symD, normD, spineD, spinesD, normsD, closeD, leafD]; rfl, rfl, rfl⟩ ht
theorem live4 (ht : Tabs w) : Calls Tryd.prog 9 #[.string ⟨#[35, 59, 40, 97, 41, 32, 53]⟩, .int .i64 0] w fun E w' => (∃ (g bb : Bool) (la ia ta : Option Addr) (ln lc ic tc q : Nat) (t : ByteArray), E = .returned (.tuple #[.agg #[.int .i64 1, .bool g, .slice la ln lc, .bool bb, .string t, .slice ia 0 ic, .slice ta 0 tc], .int .i64 q, .int .i64 0])) ∧ Below w.heap.size w w' := by
  have e : normD (numD 5) = numD 5 := by
    have h : spineD (numD 5) = ([], some (numD 5)) := by rw [numD, spineD_eq, if_neg (by decide), leaf_num]; rfl
    rw [normD, h]; rfl
  exact live_ok ex4 (by decide) (by simp [numD, sizeD, sizesD]) (by rw [e]; simp [numD, depthD, depthsD]) (by rw [e]; rfl) ⟨_, _, _, _, _, _, e, rfl, rfl⟩ ht
theorem live3 (ht : Tabs w) : Calls Tryd.prog 9 #[.string ⟨#[40, 97]⟩, .int .i64 0] w fun E w' => E = .returned (.tuple #[.agg #[.int .i64 0, .bool false, .slice none 0 0, .bool false, .string ⟨#[]⟩, .slice none 0 0, .slice none 0 0], .int .i64 2, .int .i64 4]) ∧ Below w.heap.size w w' := by
  refine (read_const _ _ ex3 (by decide) (fun d' l' e => by cases e) ht).mono ?_
  rintro E w' ⟨hb, q, hq, hl, rfl⟩
  have hq2 : q = 2 := by
    have h1 := congrArg List.length hl
    rw [rsB_len] at h1
    have h2 : (⟨#[40, 97]⟩ : ByteArray).size = 2 := rfl
    rw [h2] at h1 hq
    simp at h1
    omega
  rw [hq2]
  exact ⟨rfl, hb⟩
set_option maxRecDepth 100000 in
set_option maxHeartbeats 6400000 in
theorem lives5_yes (ht : Tabs w) : Calls Tryd.prog 6 #[] w fun E w' => E = .returned (.bool true) ∧ Below w.heap.size w w' := by
  have H := Lib.hid ht
  have H1 := Lib.hid (live1 ht)
  clear ht
  go_enter Tryd.func6, Tryd.ntmps6
  go_wp2_with fail
  refine H1.out.mono ?_
  rintro E w1 ⟨⟨ga, ba, laa, iaa, taa, lna, lca, ica, tca, qa, sa, rfl⟩, b1⟩
  obtain ⟨W1, hW1⟩ : ∃ W, w1.alloc (Obj.cells #[.int .i64 5, .bool ga, .slice laa lna lca, .bool ba, .string sa, .slice iaa 1 ica, .slice taa 1 tca] 34) = W := ⟨_, rfl⟩
  have s1 : W1.heap.size = w1.heap.size + 1 := by rw [← hW1]; exact World.size_alloc ..
  have B1 : Below w.heap.size w W1 := hW1 ▸ b1.alloc b1.size _
  have n1 : W1.heap[w1.heap.size]? = some (Obj.cells #[.int .i64 5, .bool ga, .slice laa lna lca, .bool ba, .string sa, .slice iaa 1 ica, .slice taa 1 tca] 34) := hW1 ▸ World.alloc_heap_new _ _
  have H2 := Lib.hid (live2 (H.out.below B1))
  have HB1 := Lib.hid (And.intro B1 n1)
  clear B1 b1 n1
  go_wp2_with fail
  refine H2.out.mono ?_
  rintro E w2 ⟨⟨gb, bb, lab, iab, tab, lnb, lcb, icb, tcb, qb, sb, rfl⟩, b2⟩
  obtain ⟨W2, hW2⟩ : ∃ W, w2.alloc (Obj.cells #[.int .i64 5, .bool gb, .slice lab lnb lcb, .bool bb, .string sb, .slice iab 2 icb, .slice tab 0 tcb] 34) = W := ⟨_, rfl⟩
  have s2 : W2.heap.size = w2.heap.size + 1 := by rw [← hW2]; exact World.size_alloc ..
  have z2 := b2.size
  have B2' : Below W1.heap.size W1 W2 := hW2 ▸ b2.alloc b2.size _
  have z1 := HB1.out.1.size
  have B2 := HB1.out.1.trans (B2'.mono (by omega))
  have n1 := (B2'.block w1.heap.size (by omega)).trans HB1.out.2
  have n2 : W2.heap[w2.heap.size]? = some (Obj.cells #[.int .i64 5, .bool gb, .slice lab lnb lcb, .bool bb, .string sb, .slice iab 2 icb, .slice tab 0 tcb] 34) := hW2 ▸ World.alloc_heap_new _ _
  have H3 := Lib.hid (live3 (H.out.below B2))
  have HB2 := Lib.hid (And.intro B2 (And.intro n1 n2))
  clear B2 B2' b2 n1 n2
  go_wp2_with fail
  refine H3.out.mono ?_
  rintro E w3 ⟨rfl, b3⟩
  have z3 := b3.size
  have z2' := HB2.out.1.size
  have hb3 : Below W2.heap.size W2 (w3.alloc (Obj.cells #[.int .i64 0, .bool false, .slice none 0 0, .bool false, .string ⟨#[]⟩, .slice none 0 0, .slice none 0 0] 34)) := b3.alloc b3.size _
  have B3 := HB2.out.1.trans (hb3.mono (by omega))
  have n1 := (hb3.block w1.heap.size (by omega)).trans HB2.out.2.1
  have n2 := (hb3.block w2.heap.size (by omega)).trans HB2.out.2.2
  have s3 : (w3.alloc (Obj.cells #[.int .i64 0, .bool false, .slice none 0 0, .bool false, .string ⟨#[]⟩, .slice none 0 0, .slice none 0 0] 34)).heap.size = w3.heap.size + 1 := World.size_alloc ..
  have H4 := Lib.hid (live4 (H.out.below B3))
  have HB3 := Lib.hid (And.intro B3 (And.intro n1 (And.intro n2 s3)))
  clear B3 hb3 b3 n1 n2 s3
  go_wp2_with fail
  refine H4.out.mono ?_
  rintro E w4 ⟨⟨gc, bc, lac, iac, tac, lnc, lcc, icc, tcc, qc, sc, rfl⟩, b4⟩
  obtain ⟨W4, hW4⟩ : ∃ W, w4.alloc (Obj.cells #[.int .i64 1, .bool gc, .slice lac lnc lcc, .bool bc, .string sc, .slice iac 0 icc, .slice tac 0 tcc] 34) = W := ⟨_, rfl⟩
  have z4 := b4.size
  rw [HB3.out.2.2.2] at z4
  have hb4 : Below (w3.alloc (Obj.cells #[.int .i64 0, .bool false, .slice none 0 0, .bool false, .string ⟨#[]⟩, .slice none 0 0, .slice none 0 0] 34)).heap.size (w3.alloc (Obj.cells #[.int .i64 0, .bool false, .slice none 0 0, .bool false, .string ⟨#[]⟩, .slice none 0 0, .slice none 0 0] 34)) W4 := hW4 ▸ b4.alloc b4.size _
  have B4 := HB3.out.1.trans (hb4.mono (by rw [HB3.out.2.2.2]; omega))
  have n1 := (hb4.block w1.heap.size (by rw [HB3.out.2.2.2]; omega)).trans HB3.out.2.1
  have n2 := (hb4.block w2.heap.size (by rw [HB3.out.2.2.2]; omega)).trans HB3.out.2.2.1
  have n4 : W4.heap[w4.heap.size]? = some (Obj.cells #[.int .i64 1, .bool gc, .slice lac lnc lcc, .bool bc, .string sc, .slice iac 0 icc, .slice tac 0 tcc] 34) := hW4 ▸ World.alloc_heap_new _ _
  obtain ⟨⟨x0, x1, x2, x3, x4, x5, x6⟩, -⟩ := seven n1
  obtain ⟨⟨y0, y1, y2, y3, y4, y5, y6⟩, -⟩ := seven n2
  obtain ⟨⟨v0, v1, v2, v3, v4, v5, v6⟩, -⟩ := seven n4
  have HB4 := Lib.hid B4
  clear B4 hb4 b4 n1 n2 n4
  go_wp2_with fail
  go_ret
  exact ⟨rfl, HB4.out⟩
end
end

section

def restDp (t : LT) (j : Nat) : Nat := match j with | 0 => max (depths t.items) (depths t.tail) | 1 => depths t.tail | _ => 0
theorem restDp_step (t : LT) (j : Nat) (hj : j < 2) : restDp t j = max (depths (listB t j)) (restDp t (j + 1)) := by
  rcases (show j = 0 ∨ j = 1 by omega) with rfl | rfl
  · rfl
  · simp [restDp, listB]
theorem depth_rest (t : LT) : t.depth = 1 + restDp t 0 := by cases t; simp [LT.depth, restDp, LT.items, LT.tail]
set_option maxRecDepth 100000 in
set_option maxHeartbeats 6400000 in
theorem rdepth_any (M : Nat) : ∀ (N : Nat), N ≤ 1000000 → ∀ (t : LT), t.size ≤ N → ∀ (w : World), M ≤ w.heap.size → Held w M t →
    Calls Tryd.prog 10 #[.agg #[.int .i64 t.k, .bool t.g, .slice t.la t.ln t.lc, .bool t.bb, .string t.s, .slice t.ia t.items.length t.ic, .slice t.ta t.tail.length t.tc]] w fun e w' => e = .returned (.int .i64 (t.depth : Nat)) ∧ Below w.heap.size w w' := by
  intro N
  induction N with
  | zero => intro _ t ht; rw [t.size_eq] at ht; omega
  | succ N ih =>
    intro hN t ht w hM hH
    have IH := Lib.hid (ih (by omega))
    clear ih
    have htd : t.depth ≤ 1000000 := Nat.le_trans (depth_le_size t) (by omega)
    have HT := Lib.hid (show t.depth = 1 + max 0 (restDp t 0) by rw [depth_rest]; omega)
    have HHH := Lib.hid hH
    have HSZ := Lib.hid (show sizes (listB t 0) ≤ N ∧ sizes (listB t 1) ≤ N by rw [t.size_eq] at ht; simp only [listB]; omega)
    clear hH ht
    go_enter Tryd.func10, Tryd.ntmps10
    go_wp2_with fail
    obtain ⟨A, hA⟩ : ∃ A, A = (#[.slice t.ia t.items.length t.ic, .slice t.ta t.tail.length t.tc] : Array Value) := ⟨_, rfl⟩
    have HAT := Lib.hid (show ∀ j, j < 2 → ∃ a c, A[j]? = some (.slice a (listB t j).length c) ∧ Spot M a (listB t j).length c ∧ LiesR w M (listB t j) (blk a) (ofs a) by
      intro j hj
      rcases (show j = 0 ∨ j = 1 by omega) with rfl | rfl
      · exact ⟨t.ia, t.ic, by rw [hA]; rfl, HHH.out.2.1, HHH.out.2.2.2.1⟩
      · exact ⟨t.ta, t.tc, by rw [hA]; rfl, HHH.out.2.2.1, HHH.out.2.2.2.2⟩)
    have hb0 : Below w.heap.size w (w.alloc (Obj.cells #[.int .i64 t.k, .bool t.g, .slice t.la t.ln t.lc, .bool t.bb, .string t.s, .slice t.ia t.items.length t.ic, .slice t.ta t.tail.length t.tc] 34)) := (Below.refl _ w).alloc (Nat.le_refl _) _
    rw [← hA]
    clear hA
    go_loopw [3, 14] (fun lf i wr => ∃ (j n : Nat), j ≤ 2 ∧ i = .int .i64 j ∧ lf = .int .i64 n ∧ n ≤ 1000000 ∧ Hid (t.depth = 1 + max n (restDp t j)) ∧ Below w.heap.size w wr) (fun _ i _ => 2 - (intOf i).toNat)
    case atStart => exact ⟨0, 0, by decide, rfl, rfl, by omega, HT, hb0⟩
    case round =>
      obtain ⟨j, n, hj, rfl, rfl, hn, HJ, hbel⟩ := hrel
      clear hb0
      by_cases hj2 : j < 2
      · obtain ⟨a, c, ha, hsp, hli⟩ := HAT.out j hj2
        have hrun := fun w' => run_two A j _ w' hj2 ha rfl
        have hdj : decide ((j : Int) < 2) = true := by simp; omega
        have HS := Lib.hid (show sizes (listB t j) ≤ N by rcases (show j = 0 ∨ j = 1 by omega) with rfl | rfl; exact HSZ.out.1; exact HSZ.out.2)
        have HJ2 := Lib.hid (show t.depth = 1 + max (max n (depths (listB t j))) (restDp t (j + 1)) by rw [HJ.out, restDp_step t j hj2]; omega)
        generalize listB t j = l at *
        by_cases hl : 0 < l.length
        · obtain ⟨haa, hlt⟩ := hsp.2.2.1 hl
          have hsz := hsp.2.1
          have hsc := hsp.1
          unfold maxLen at hsz
          have HLI := Lib.hid hli
          have hrun' := hrun wr
          clear hli hsp ha hrun
          rw [haa] at hrun'
          generalize blk a = gb at *
          generalize ofs a = go at *
          clear haa
          go_wp2_with fail
          go_loopw [3, 19] (fun lf i ws => ∃ (k m : Nat), k ≤ l.length ∧ i = .int .i64 k ∧ lf = .int .i64 m ∧ m ≤ 1000000 ∧ Hid (t.depth = 1 + max (max m (depths (l.drop k))) (restDp t (j + 1))) ∧ Below w.heap.size w ws) (fun _ i _ => l.length - (intOf i).toNat)
          case atStart => exact ⟨0, n, Nat.zero_le _, rfl, rfl, hn, HJ2, hbel⟩
          case round =>
            obtain ⟨k, m, hk, rfl, rfl, hm, HK, hbs⟩ := hrel
            clear hrun' hbel
            by_cases hlk : k < l.length
            · have hli := ((liesR_iff _ _ _).1 HLI.out k hlk).keep hbs.size (fun q hq => hbs.block q (by omega))
              obtain ⟨hgbM, hcell, hheld⟩ := lies_held.1 hli
              have hsz1 := sizes_mem hlk
              have hdr := List.drop_eq_getElem_cons hlk
              obtain ⟨u, hu⟩ : ∃ u, l[k] = u := ⟨_, rfl⟩
              rw [hu] at hcell hheld hsz1 hdr
              rw [Nat.mul_comm 7 k] at hcell
              have d0 : wr.cell? ⟨gb, go + k * 7, none⟩ = some (.int .i64 u.k) := hcell 0 _ rfl
              have d1 : wr.cell? ⟨gb, go + k * 7 + 1, none⟩ = some (.bool u.g) := hcell 1 _ rfl
              have d2 : wr.cell? ⟨gb, go + k * 7 + 2, none⟩ = some (.slice u.la u.ln u.lc) := hcell 2 _ rfl
              have d3 : wr.cell? ⟨gb, go + k * 7 + 3, none⟩ = some (.bool u.bb) := hcell 3 _ rfl
              have d4 : wr.cell? ⟨gb, go + k * 7 + 4, none⟩ = some (.string u.s) := hcell 4 _ rfl
              have d5 : wr.cell? ⟨gb, go + k * 7 + 5, none⟩ = some (.slice u.ia u.items.length u.ic) := hcell 5 _ rfl
              have d6 : wr.cell? ⟨gb, go + k * 7 + 6, none⟩ = some (.slice u.ta u.tail.length u.tc) := hcell 6 _ rfl
              have hba : Below wr.heap.size wr (wr.alloc (Obj.cells #[.int .i64 u.k, .bool u.g, .slice u.la u.ln u.lc, .bool u.bb, .string u.s, .slice u.ia u.items.length u.ic, .slice u.ta u.tail.length u.tc] 34)) := (Below.refl _ _).alloc (Nat.le_refl _) _
              have hMs : M ≤ wr.heap.size := Nat.le_trans hM hbs.size
              have HC := Lib.hid (IH.out u (Nat.le_trans hsz1 HS.out) (wr.alloc (Obj.cells #[.int .i64 u.k, .bool u.g, .slice u.la u.ln u.lc, .bool u.bb, .string u.s, .slice u.ia u.items.length u.ic, .slice u.ta u.tail.length u.tc] 34)) (Nat.le_trans hMs hba.size) (hheld.keep hba.size (fun q hq => hba.block q (by omega))))
              have HBA := Lib.hid (bnext hbs hba)
              have hur : u.depth ≤ 1000000 := Nat.le_trans (depth_le_size u) (Nat.le_trans hsz1 (Nat.le_trans HS.out (by omega)))
              have HK2 := Lib.hid (show t.depth = 1 + max (max (max m u.depth) (depths (l.drop (k + 1)))) (restDp t (j + 1)) by rw [HK.out, hdr]; simp only [depths]; omega)
              clear hli hcell hheld hsz1 hdr hba
              generalize u.depth = r at *
              go_wp2_with fail
              refine HC.out.mono ?_
              rintro e w6 ⟨rfl, b6⟩
              have hb6 := bnext HBA.out b6
              by_cases hr : m < r
              · have q0 : decide ((m : Int) < (r : Int)) = true := decide_eq_true (by omega)
                have HG := Lib.hid (show t.depth = 1 + max (max r (depths (l.drop (k + 1)))) (restDp t (j + 1)) by rw [HK2.out, show max m r = r by omega])
                go_wp2_with fail
                go_roundw
                case rel => exact ⟨k + 1, r, by omega, by go_num, rfl, by omega, HG, hb6⟩
                case measure => simp [intOf]; omega
              · have q0 : decide ((m : Int) < (r : Int)) = false := decide_eq_false (by omega)
                have HG := Lib.hid (show t.depth = 1 + max (max m (depths (l.drop (k + 1)))) (restDp t (j + 1)) by rw [HK2.out, show max m r = m by omega])
                go_wp2_with fail
                go_roundw
                case rel => exact ⟨k + 1, m, by omega, by go_num, rfl, by omega, HG, hb6⟩
                case measure => simp [intOf]; omega
            · obtain rfl : k = l.length := by omega
              have HF := Lib.hid (show t.depth = 1 + max m (restDp t (j + 1)) by rw [HK.out, List.drop_length]; simp [depths])
              go_wp2_with fail
              go_roundw
              case rel => exact ⟨j + 1, m, by omega, by go_num, rfl, by omega, HF, hbs⟩
              case measure => simp [intOf]; omega
        · obtain rfl : l = [] := List.length_eq_zero_iff.1 (by omega)
          have HF := Lib.hid (show t.depth = 1 + max n (restDp t (j + 1)) by rw [HJ2.out]; simp [depths])
          have hrun' := hrun wr
          clear hli hsp ha hrun hl
          rw [List.length_nil] at hrun'
          go_wp2_with fail
          go_loopw [3, 19] (fun lf i ws => i = .int .i64 0 ∧ lf = .int .i64 n ∧ ws = wr) (fun _ _ _ => 0)
          case atStart => exact ⟨rfl, rfl, rfl⟩
          case round =>
            obtain ⟨rfl, rfl, rfl⟩ := hrel
            clear hrun'
            go_wp2_with fail
            go_roundw
            case rel => exact ⟨j + 1, n, by omega, by go_num, rfl, by omega, HF, hbel⟩
            case measure => simp [intOf]; omega
      · obtain rfl : j = 2 := by omega
        have HE := Lib.hid (show t.depth = 1 + n by rw [HJ.out]; simp [restDp])
        go_wp2_with fail
        go_ret
        exact ⟨by rw [show ((t.depth : Nat) : Int) = (n : Int) + 1 by rw [HE.out]; omega]; rfl, hbel⟩
end
end Go.Proofs.YtifogchgfbieoaaDoor
