/-
  The reader: the examples; the document's Depth.
-/
import Derived.Test.YtlohdglhebplfaaGreatDoorRdv
namespace Go.Proofs.YtlohdglhebplfaaGreatDoor
open Go.RowKit

section

section
variable {w : World}
theorem Below.tabs {w w' : World} (h : Below w.heap.size w w') (ht : Tabs w) : Tabs w' := ht.below h
theorem read_const (s : ByteArray) (r : Res) (hr : Rdd .datum s.data.toList 0 r) (hs : s.size ≤ 16384) (hz : ∀ d l, r = .ok d l → sizeD d ≤ 5000) (ht : Tabs w) : Calls Tryz.prog 40 #[.string s, .int .i64 0] w (ReadPost s 0 w r) :=
  (read_any (p := 0) hs (Nat.zero_le _) ht fun d l h => hz d l (hr.one h)).mono fun E w' ⟨r', h1, h2⟩ => by rw [hr.one h1]; exact h2
/-- A datum's cells, with so many items, and so many behind a dot. -/
def Cel (k : Int) (n m : Nat) (c : Array Value) : Prop := ∃ (g bb : Bool) (la ia ta : Option Addr) (ln lc ic tc : Nat) (s : ByteArray), c = #[.int .i64 k, .bool g, .slice la ln lc, .bool bb, .string s, .slice ia n ic, .slice ta m tc]
theorem live_ok {s : ByteArray} {d : DT} {l : By} {k : Int} {n m : Nat} (hr : Rdd .datum s.data.toList 0 (.ok d l)) (hs : s.size ≤ 16384) (hz : sizeD d ≤ 5000) (hd : depthD (normD d) ≤ 200) (hk : (normD d).k = k) (hn : ∃ g ys bb t a b, normD d = .mk k g ys bb t a b ∧ a.length = n ∧ b.length = m) (ht : Tabs w) :
    Calls Tryz.prog 40 #[.string s, .int .i64 0] w fun E w' => (∃ (g bb : Bool) (la ia ta : Option Addr) (ln lc ic tc q : Nat) (t : ByteArray), E = .returned (.tuple #[.agg #[.int .i64 k, .bool g, .slice la ln lc, .bool bb, .string t, .slice ia n ic, .slice ta m tc], .int .i64 q, .int .i64 0])) ∧ Below w.heap.size w w' := by
  refine (read_const s _ hr hs (fun d' l' e => by injection e with e _; rw [← e]; exact hz) ht).mono ?_
  rintro E w' ⟨hb, q, _, _, _, ⟨_, u, rfl, _, hsh, _⟩ | ⟨hno, _⟩⟩
  · obtain ⟨g, ys, bb, t, a, b, he, ha, hb'⟩ := hn
    rw [he, shape_eq] at hsh
    injection hsh with q1 q2 q3 q4 q5 q6 q7
    have l1 : u.items.length = n := by rw [← shapes_length, q6, ha]
    have l2 : u.tail.length = m := by rw [← shapes_length, q7, hb']
    rw [q1, l1, l2]
    exact ⟨⟨_, _, _, _, _, _, _, _, _, _, _, rfl⟩, hb⟩
  · exact absurd hd hno
theorem live1 (ht : Tabs w) : Calls Tryz.prog 40 #[.string ⟨#[40, 97, 32, 46, 32, 98, 41]⟩, .int .i64 0] w fun E w' => (∃ (g bb : Bool) (la ia ta : Option Addr) (ln lc ic tc q : Nat) (t : ByteArray), E = .returned (.tuple #[.agg #[.int .i64 5, .bool g, .slice la ln lc, .bool bb, .string t, .slice ia 1 ic, .slice ta 1 tc], .int .i64 q, .int .i64 0])) ∧ Below w.heap.size w w' :=
  live_ok ex1 (by decide) (by simp [listD, symD, sizeD, sizesD]) (by simp [listD, symD, normD, spineD, spinesD, normsD, closeD, leafD, depthD, depthsD]) (by simp [listD, symD, normD, spineD, spinesD, normsD, closeD, leafD, DT.k]) ⟨_, _, _, _, _, _, by simp only [listD, symD, normD, spineD, spinesD, normsD, closeD, leafD]; rfl, rfl, rfl⟩ ht
theorem live2 (ht : Tabs w) : Calls Tryz.prog 40 #[.string ⟨#[39, 120]⟩, .int .i64 0] w fun E w' => (∃ (g bb : Bool) (la ia ta : Option Addr) (ln lc ic tc q : Nat) (t : ByteArray), E = .returned (.tuple #[.agg #[.int .i64 5, .bool g, .slice la ln lc, .bool bb, .string t, .slice ia 2 ic, .slice ta 0 tc], .int .i64 q, .int .i64 0])) ∧ Below w.heap.size w w' :=
  live_ok ex2 (by decide) (by simp [listD, symD, sizeD, sizesD]) (by simp [listD, symD, normD, spineD, spinesD, normsD, closeD, leafD, depthD, depthsD]) (by simp [listD, symD, normD, spineD, spinesD, normsD, closeD, leafD, DT.k]) ⟨_, _, _, _, _, _, by simp only [listD, symD, normD, spineD, spinesD, normsD, closeD, leafD]; rfl, rfl, rfl⟩ ht
theorem live4 (ht : Tabs w) : Calls Tryz.prog 40 #[.string ⟨#[35, 59, 40, 97, 41, 32, 53]⟩, .int .i64 0] w fun E w' => (∃ (g bb : Bool) (la ia ta : Option Addr) (ln lc ic tc q : Nat) (t : ByteArray), E = .returned (.tuple #[.agg #[.int .i64 1, .bool g, .slice la ln lc, .bool bb, .string t, .slice ia 0 ic, .slice ta 0 tc], .int .i64 q, .int .i64 0])) ∧ Below w.heap.size w w' := by
  have e : normD (numD 5) = numD 5 := by
    have h : spineD (numD 5) = ([], some (numD 5)) := by rw [numD, spineD_eq, if_neg (by decide), leaf_num]; rfl
    rw [normD, h]; rfl
  exact live_ok ex4 (by decide) (by simp [numD, sizeD, sizesD]) (by rw [e]; simp [numD, depthD, depthsD]) (by rw [e]; rfl) ⟨_, _, _, _, _, _, e, rfl, rfl⟩ ht
theorem live3 (ht : Tabs w) : Calls Tryz.prog 40 #[.string ⟨#[40, 97]⟩, .int .i64 0] w fun E w' => E = .returned (.tuple #[.agg #[.int .i64 0, .bool false, .slice none 0 0, .bool false, .string ⟨#[]⟩, .slice none 0 0, .slice none 0 0], .int .i64 2, .int .i64 4]) ∧ Below w.heap.size w w' := by
  refine (read_const _ _ ex3 (by decide) (fun d' l' e => by cases e) ht).mono ?_
  rintro E w' ⟨hb, q, hq, hl, rfl⟩
  have hq2 : q = 2 := by
    have h1 := congrArg List.length hl
    rw [rsB_len] at h1
    have h2 : (⟨#[40, 97]⟩ : ByteArray).size = 2 := rfl
    rw [h2] at h1 hq
    simp at h1
    omega
  rw [hq2]
  exact ⟨rfl, hb⟩
set_option maxRecDepth 100000 in
set_option maxHeartbeats 6400000 in
theorem lives5_yes (ht : Tabs w) : Calls Tryz.prog 11 #[] w fun E w' => E = .returned (.bool true) ∧ Below w.heap.size w w' := by
  have H := Lib.hid ht
  have H1 := Lib.hid (live1 ht)
  clear ht
  go_enter Tryz.func11, Tryz.ntmps11
  go_wp2_with fail
  refine H1.out.mono ?_
  rintro E w1 ⟨⟨ga, ba, laa, iaa, taa, lna, lca, ica, tca, qa, sa, rfl⟩, b1⟩
  obtain ⟨W1, hW1⟩ : ∃ W, w1.alloc (Obj.cells #[.int .i64 5, .bool ga, .slice laa lna lca, .bool ba, .string sa, .slice iaa 1 ica, .slice taa 1 tca] 31) = W := ⟨_, rfl⟩
  have s1 : W1.heap.size = w1.heap.size + 1 := by rw [← hW1]; exact World.size_alloc ..
  have B1 : Below w.heap.size w W1 := hW1 ▸ b1.alloc b1.size _
  have n1 : W1.heap[w1.heap.size]? = some (Obj.cells #[.int .i64 5, .bool ga, .slice laa lna lca, .bool ba, .string sa, .slice iaa 1 ica, .slice taa 1 tca] 31) := hW1 ▸ World.alloc_heap_new _ _
  have H2 := Lib.hid (live2 (H.out.below B1))
  have HB1 := Lib.hid (And.intro B1 n1)
  clear B1 b1 n1
  go_wp2_with fail
  refine H2.out.mono ?_
  rintro E w2 ⟨⟨gb, bb, lab, iab, tab, lnb, lcb, icb, tcb, qb, sb, rfl⟩, b2⟩
  obtain ⟨W2, hW2⟩ : ∃ W, w2.alloc (Obj.cells #[.int .i64 5, .bool gb, .slice lab lnb lcb, .bool bb, .string sb, .slice iab 2 icb, .slice tab 0 tcb] 31) = W := ⟨_, rfl⟩
  have s2 : W2.heap.size = w2.heap.size + 1 := by rw [← hW2]; exact World.size_alloc ..
  have z2 := b2.size
  have B2' : Below W1.heap.size W1 W2 := hW2 ▸ b2.alloc b2.size _
  have z1 := HB1.out.1.size
  have B2 := HB1.out.1.trans (B2'.mono (by omega))
  have n1 := (B2'.block w1.heap.size (by omega)).trans HB1.out.2
  have n2 : W2.heap[w2.heap.size]? = some (Obj.cells #[.int .i64 5, .bool gb, .slice lab lnb lcb, .bool bb, .string sb, .slice iab 2 icb, .slice tab 0 tcb] 31) := hW2 ▸ World.alloc_heap_new _ _
  have H3 := Lib.hid (live3 (H.out.below B2))
  have HB2 := Lib.hid (And.intro B2 (And.intro n1 n2))
  clear B2 B2' b2 n1 n2
  go_wp2_with fail
  refine H3.out.mono ?_
  rintro E w3 ⟨rfl, b3⟩
  have z3 := b3.size
  have z2' := HB2.out.1.size
  have hb3 : Below W2.heap.size W2 (w3.alloc (Obj.cells #[.int .i64 0, .bool false, .slice none 0 0, .bool false, .string ⟨#[]⟩, .slice none 0 0, .slice none 0 0] 31)) := b3.alloc b3.size _
  have B3 := HB2.out.1.trans (hb3.mono (by omega))
  have n1 := (hb3.block w1.heap.size (by omega)).trans HB2.out.2.1
  have n2 := (hb3.block w2.heap.size (by omega)).trans HB2.out.2.2
  have s3 : (w3.alloc (Obj.cells #[.int .i64 0, .bool false, .slice none 0 0, .bool false, .string ⟨#[]⟩, .slice none 0 0, .slice none 0 0] 31)).heap.size = w3.heap.size + 1 := World.size_alloc ..
  have H4 := Lib.hid (live4 (H.out.below B3))
  have HB3 := Lib.hid (And.intro B3 (And.intro n1 (And.intro n2 s3)))
  clear B3 hb3 b3 n1 n2 s3
  go_wp2_with fail
  refine H4.out.mono ?_
  rintro E w4 ⟨⟨gc, bc, lac, iac, tac, lnc, lcc, icc, tcc, qc, sc, rfl⟩, b4⟩
  obtain ⟨W4, hW4⟩ : ∃ W, w4.alloc (Obj.cells #[.int .i64 1, .bool gc, .slice lac lnc lcc, .bool bc, .string sc, .slice iac 0 icc, .slice tac 0 tcc] 31) = W := ⟨_, rfl⟩
  have z4 := b4.size
  rw [HB3.out.2.2.2] at z4
  have hb4 : Below (w3.alloc (Obj.cells #[.int .i64 0, .bool false, .slice none 0 0, .bool false, .string ⟨#[]⟩, .slice none 0 0, .slice none 0 0] 31)).heap.size (w3.alloc (Obj.cells #[.int .i64 0, .bool false, .slice none 0 0, .bool false, .string ⟨#[]⟩, .slice none 0 0, .slice none 0 0] 31)) W4 := hW4 ▸ b4.alloc b4.size _
  have B4 := HB3.out.1.trans (hb4.mono (by rw [HB3.out.2.2.2]; omega))
  have n1 := (hb4.block w1.heap.size (by rw [HB3.out.2.2.2]; omega)).trans HB3.out.2.1
  have n2 := (hb4.block w2.heap.size (by rw [HB3.out.2.2.2]; omega)).trans HB3.out.2.2.1
  have n4 : W4.heap[w4.heap.size]? = some (Obj.cells #[.int .i64 1, .bool gc, .slice lac lnc lcc, .bool bc, .string sc, .slice iac 0 icc, .slice tac 0 tcc] 31) := hW4 ▸ World.alloc_heap_new _ _
  obtain ⟨⟨x0, x1, x2, x3, x4, x5, x6⟩, -⟩ := seven n1
  obtain ⟨⟨y0, y1, y2, y3, y4, y5, y6⟩, -⟩ := seven n2
  obtain ⟨⟨v0, v1, v2, v3, v4, v5, v6⟩, -⟩ := seven n4
  have HB4 := Lib.hid B4
  clear B4 hb4 b4 n1 n2 n4
  go_wp2_with fail
  go_ret
  exact ⟨rfl, HB4.out⟩
end
end

section

def restDp (t : LT) (j : Nat) : Nat := match j with | 0 => max (depths t.items) (depths t.tail) | 1 => depths t.tail | _ => 0
theorem restDp_step (t : LT) (j : Nat) (hj : j < 2) : restDp t j = max (depths (listB t j)) (restDp t (j + 1)) := by
  rcases (show j = 0 ∨ j = 1 by omega) with rfl | rfl
  · rfl
  · simp [restDp, listB]
theorem depth_rest (t : LT) : t.depth = 1 + restDp t 0 := by cases t; simp [LT.depth, restDp, LT.items, LT.tail]
end
end Go.Proofs.YtlohdglhebplfaaGreatDoor
