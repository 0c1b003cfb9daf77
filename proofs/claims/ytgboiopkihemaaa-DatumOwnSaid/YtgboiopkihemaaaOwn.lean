/-
  The law DatumOwn, walked.
-/
import Derived.Test.YtgboiopkihemaaaCpw
import Derived.Test.YtgboiopkihemaaaCpy
import Derived.Test.YtgboiopkihemaaaLvs
import Derived.Test.YtgboiopkihemaaaLgt
namespace Go.Proofs.Ytgboiopkihemaaa
open Go.RowKit

mutual
theorem trim_small : ∀ d : DT, sizeD (trimD d) = sizeD d ∧ depthD (trimD d) = depthD d ∧ (okD d → tameD d → tameD (trimD d))
  | .mk k g ys bb s items tail => by
    have h1 := trims_small items
    have h2 := trims_small tail
    simp only [trimD, sizeD, depthD, okD, tameD]
    exact ⟨by rw [h1.1, h2.1], by rw [h1.2.1, h2.2.1], fun hO hT => ⟨Nat.le_trans (limbs_len_val hO.1) hT.1, h1.2.2 hO.2.1 hT.2.1, h2.2.2 hO.2.2 hT.2.2⟩⟩
theorem trims_small : ∀ l : List DT, sizesD (trimsD l) = sizesD l ∧ depthsD (trimsD l) = depthsD l ∧ (oksD l → tamesD l → tamesD (trimsD l))
  | [] => by simp [trimsD]
  | t :: l => by
    have h1 := trim_small t
    have h2 := trims_small l
    simp only [trimsD, sizesD, depthsD, oksD, tamesD]
    exact ⟨by rw [h1.1, h2.1], by rw [h1.2.1, h2.2.1], fun hO hT => ⟨h1.2.2 hO.1 hT.1, h2.2.2 hO.2 hT.2⟩⟩
end
theorem trim_within {w w' : World} {M N : Nat} {t u : LT} (h : Held w M t) (hT : Tame t) (h' : Held w' N u) (hs : shape u = trimD (shape t)) : u.size = t.size ∧ u.depth = t.depth ∧ Tame u := by
  have hb := trim_small (shape t)
  rw [← hs, sizeD_shape, sizeD_shape, depthD_shape, depthD_shape] at hb
  exact ⟨hb.1, hb.2.1, (tame_held h').2 (hb.2.2 (ok_held h) ((tame_held h).1 hT))⟩
set_option maxRecDepth 100000 in
/-- Split of any tree. -/
theorem split_all (M : Nat) (t : LT) (hs : t.size ≤ 20000000) (hd : t.depth ≤ 65537) (hT : Tame t) (w : World) (hM : M ≤ w.heap.size) (hH : Held w M t) :
    Calls Try.prog 14 #[.agg #[.int .i64 t.k, .bool t.g, .slice t.la t.ln t.lc, .bool t.bb, .string t.s, .slice t.ia t.items.length t.ic, .slice t.ta t.tail.length t.tc]] w fun e w' => ∃ (u v : LT) (ok : Bool), e = .returned (.tuple #[.agg #[.int .i64 u.k, .bool u.g, .slice u.la u.ln u.lc, .bool u.bb, .string u.s, .slice u.ia u.items.length u.ic, .slice u.ta u.tail.length u.tc], .agg #[.int .i64 v.k, .bool v.g, .slice v.la v.ln v.lc, .bool v.bb, .string v.s, .slice v.ia v.items.length v.ic, .slice v.ta v.tail.length v.tc], .bool ok]) ∧ HeldP w' (Fresh w' w.heap.size) u ∧ HeldP w' (Fresh w' w.heap.size) v ∧ (Tame u ∧ u.size ≤ t.size + 1) ∧ (Tame v ∧ v.size ≤ t.size + 1) ∧ Below w.heap.size w w' := by
  have hz : HeldP w (Fresh w w.heap.size) (plainT 0 false none 0 0 [] false ⟨#[]⟩) := plainT_held ⟨Sl.nil, fun h => absurd h (by decide), empty_le⟩
  have tz : Tame (plainT 0 false none 0 0 [] false ⟨#[]⟩) ∧ (plainT 0 false none 0 0 [] false ⟨#[]⟩).size ≤ t.size + 1 := by
    simp [plainT, Tame, TameR, LT.size, sizes]
  by_cases h : t.k ≠ 5 ∨ t.items.length = 0
  · refine (split_none t h w).mono ?_
    rintro e w' ⟨rfl, hb⟩
    exact ⟨plainT 0 false none 0 0 [] false ⟨#[]⟩, plainT 0 false none 0 0 [] false ⟨#[]⟩, false, rfl, hz.below hb (Nat.le_refl _), hz.below hb (Nat.le_refl _), tz, tz, hb⟩
  · have hk : t.k = 5 := by
      rcases Classical.em (t.k = 5) with h1 | h1
      · exact h1
      · exact absurd (.inl h1) h
    obtain ⟨x, l, hi⟩ : ∃ x l, t.items = x :: l := by
      cases hi : t.items with
      | nil => exact absurd (.inr (by rw [hi]; rfl)) h
      | cons x l => exact ⟨x, l, rfl⟩
    refine (split_list M t x l hk hi hs hd hT w hM hH).mono ?_
    rintro e w' ⟨u, v, rfl, h1, h2, h3, h4, h5⟩
    have ht := (tame_held hH).1 hT
    rw [shape_eq, hi, shapes_cons] at ht
    simp only [tameD, tamesD] at ht
    have hsz := t.size_eq
    rw [hi] at hsz
    simp only [sizes] at hsz
    refine ⟨u, v, true, rfl, h1, h3, ⟨(tame_held (h1.held fun k hk => hk.lt)).2 (by rw [h2]; exact ht.2.1.1), by rw [← sizeD_shape, h2, sizeD_shape]; omega⟩, ⟨(tame_held (h3.held fun k hk => hk.lt)).2 ?_, ?_⟩, h5⟩
    · rw [h4]
      cases l with
      | cons y r => exact ⟨by simp, ht.2.1.2, ht.2.2⟩
      | nil =>
        cases htl : t.tail with
        | nil => exact ⟨by simp, trivial, trivial⟩
        | cons y r => rw [htl, shapes_cons] at ht; rw [shapes_cons]; exact ht.2.2.1
    · rw [← sizeD_shape, h4]
      cases l with
      | cons y r =>
        rw [shapes_cons]
        show 1 + (sizesD (shape y :: shapes r) + sizesD (shapes t.tail)) ≤ _
        rw [← shapes_cons, sizesD_shapes, sizesD_shapes]
        omega
      | nil =>
        cases htl : t.tail with
        | nil => simp [shapes, restS, sizeD, sizesD]
        | cons y r =>
          rw [shapes_cons, shapes_nil, restS_dot, sizeD_shape]
          rw [htl] at hsz
          simp only [sizes] at hsz
          omega

set_option maxRecDepth 100000 in
set_option maxHeartbeats 12800000 in
theorem datumOwn_walk (a : LT) (w : World) (hA : Held w w.heap.size a) :
    Calls Try.prog 4 #[.agg #[.int .i64 a.k, .bool a.g, .slice a.la a.ln a.lc, .bool a.bb, .string a.s, .slice a.ia a.items.length a.ic, .slice a.ta a.tail.length a.tc]] w fun e w' => e = .returned (.bool true) ∧ Below w.heap.size w w' := by
  have hAW := fun W (hb : Below w.heap.size w W) => hA.below (Nat.le_refl _) hb
  have hla := fun W (hb : Below w.heap.size w W) => light_any w.heap.size a W hb.size (hAW W hb)
  obtain ⟨w2, hw2⟩ : ∃ w2, w.alloc (Obj.cells #[.int .i64 a.k, .bool a.g, .slice a.la a.ln a.lc, .bool a.bb, .string a.s, .slice a.ia a.items.length a.ic, .slice a.ta a.tail.length a.tc] 27) = w2 := ⟨_, rfl⟩
  have hR2 : w2.heap[w.heap.size]? = some (Obj.cells #[.int .i64 a.k, .bool a.g, .slice a.la a.ln a.lc, .bool a.bb, .string a.s, .slice a.ia a.items.length a.ic, .slice a.ta a.tail.length a.tc] 27) := by rw [← hw2]; exact World.alloc_heap_new _ _
  have hb2 : Below w.heap.size w w2 := by rw [← hw2]; exact (Below.refl _ _).alloc (Nat.le_refl _) _
  have hz2 : w2.heap.size = w.heap.size + 1 := by rw [← hw2, World.size_alloc]
  have HL := Lib.hid (And.intro hla hAW)
  have H2 := Lib.hid (And.intro hR2 (And.intro hb2 hz2))
  have rhs := fun j => Lib.cell_of_heap hR2 j
  have r0 := rhs 0; have r1 := rhs 1; have r2 := rhs 2; have r3 := rhs 3; have r4 := rhs 4; have r5 := rhs 5; have r6 := rhs 6
  simp only [List.getElem?_toArray, List.getElem?_cons_zero, List.getElem?_cons_succ] at r0 r1 r2 r3 r4 r5 r6
  clear rhs
  clear hla hAW hR2 hb2 hz2
  go_enter Try.func4, Try.ntmps4
  go_wp2_with fail
  clear r0 r1 r2 r3 r4 r5 r6
  refine (HL.out.1 w2 H2.out.2.1).mono ?_
  rintro e w3 ⟨rfl, b3⟩
  have x0 := (b3.block w.heap.size (by rw [H2.out.2.2]; omega)).trans H2.out.1
  have hb3 := H2.out.2.1.trans (b3.mono H2.out.2.1.size)
  have H3 := Lib.hid (And.intro x0 hb3)
  have rhs := fun j => Lib.cell_of_heap x0 j
  have r0 := rhs 0; have r1 := rhs 1; have r2 := rhs 2; have r3 := rhs 3; have r4 := rhs 4; have r5 := rhs 5; have r6 := rhs 6
  simp only [List.getElem?_toArray, List.getElem?_cons_zero, List.getElem?_cons_succ] at r0 r1 r2 r3 r4 r5 r6
  clear rhs
  clear x0 hb3 b3 hw2
  by_cases la : lightB a = true
  · rw [la]
    obtain ⟨ya1, ya2, ya3⟩ := light_tells la
    have hcp := copied_all w.heap.size 90000 (Nat.le_refl _) a (by omega) ya3 w3 H3.out.2.size (HL.out.2 w3 H3.out.2)
    have HC := Lib.hid hcp
    clear hcp la
    go_wp2_with fail
    clear r0 r1 r2 r3 r4 r5 r6
    refine HC.out.mono ?_
    rintro e w4 ⟨t, rfl, ht, hts, b4⟩
    have htw := trim_within (HL.out.2 w3 H3.out.2) ya3 (ht.held fun k hk => hk.lt) hts
    obtain ⟨W4, hW4⟩ : ∃ W4, w4.alloc (Obj.cells #[.int .i64 t.k, .bool t.g, .slice t.la t.ln t.lc, .bool t.bb, .string t.s, .slice t.ia t.items.length t.ic, .slice t.ta t.tail.length t.tc] 27) = W4 := ⟨_, rfl⟩
    have hR4 : W4.heap[w4.heap.size]? = some (Obj.cells #[.int .i64 t.k, .bool t.g, .slice t.la t.ln t.lc, .bool t.bb, .string t.s, .slice t.ia t.items.length t.ic, .slice t.ta t.tail.length t.tc] 27) := by rw [← hW4]; exact World.alloc_heap_new _ _
    have c4 : Below w4.heap.size w4 W4 := by rw [← hW4]; exact (Below.refl _ _).alloc (Nat.le_refl _) _
    have hH4 : Held W4 W4.heap.size t := ((ht.held fun k hk => hk.lt).below (Nat.le_refl _) c4).upP c4.size
    have hb4 : Below w.heap.size w W4 := (H3.out.2.trans (b4.mono H3.out.2.size)).trans (c4.mono (Nat.le_trans H3.out.2.size b4.size))
    have z4 : W4.heap.size = w4.heap.size + 1 := by rw [← hW4, World.size_alloc]
    have x4 := ((b4.trans (c4.mono b4.size)).block w.heap.size (Array.getElem?_eq_some_iff.1 H3.out.1).1).trans H3.out.1
    have hcy := copy_any W4.heap.size t (by omega) (by omega) htw.2.2 W4 (Nat.le_refl _) hH4
    have HTT := Lib.hid (And.intro hts htw)
    have H4 := Lib.hid (And.intro hR4 (And.intro hH4 (And.intro hb4 (And.intro z4 x4))))
    have HCY := Lib.hid hcy
    have rhs := fun j => Lib.cell_of_heap hR4 j
    have r0 := rhs 0; have r1 := rhs 1; have r2 := rhs 2; have r3 := rhs 3; have r4 := rhs 4; have r5 := rhs 5; have r6 := rhs 6
    simp only [List.getElem?_toArray, List.getElem?_cons_zero, List.getElem?_cons_succ] at r0 r1 r2 r3 r4 r5 r6
    clear rhs
    clear ht hts htw hR4 hH4 hb4 z4 x4 c4 b4 hcy HC
    go_wp2_with fail
    clear r0 r1 r2 r3 r4 r5 r6 hW4
    refine HCY.out.mono ?_
    rintro e w5 ⟨x, rfl, hx, hxs, b5⟩
    obtain ⟨W5, hW5⟩ : ∃ W5, w5.alloc (Obj.cells #[.int .i64 x.k, .bool x.g, .slice x.la x.ln x.lc, .bool x.bb, .string x.s, .slice x.ia x.items.length x.ic, .slice x.ta x.tail.length x.tc] 27) = W5 := ⟨_, rfl⟩
    have hR5 : W5.heap[w5.heap.size]? = some (Obj.cells #[.int .i64 x.k, .bool x.g, .slice x.la x.ln x.lc, .bool x.bb, .string x.s, .slice x.ia x.items.length x.ic, .slice x.ta x.tail.length x.tc] 27) := by rw [← hW5]; exact World.alloc_heap_new _ _
    have c5 : Below w5.heap.size w5 W5 := by rw [← hW5]; exact (Below.refl _ _).alloc (Nat.le_refl _) _
    have hb5 : Below W4.heap.size W4 W5 := b5.trans (c5.mono b5.size)
    have hsp := spoil_any W4.heap.size 1000000 (Nat.le_refl _) x x.k (by rw [size_same hxs, HTT.out.2.1]; omega) (tame_same H4.out.2.1 (hx.held fun k hk => hk.lt) hxs HTT.out.2.2.2) W5 hb5.size (wheld_of (hx.below c5 (Nat.le_refl _)))
    have HSP := Lib.hid (And.intro hsp hb5)
    have rhs := fun j => Lib.cell_of_heap hR5 j
    have r0 := rhs 0; have r1 := rhs 1; have r2 := rhs 2; have r3 := rhs 3; have r4 := rhs 4; have r5 := rhs 5; have r6 := rhs 6
    simp only [List.getElem?_toArray, List.getElem?_cons_zero, List.getElem?_cons_succ] at r0 r1 r2 r3 r4 r5 r6
    clear rhs
    clear hx hxs b5 hR5 c5 hb5 hsp HCY
    go_wp2_with fail
    clear r0 r1 r2 r3 r4 r5 r6 hW5
    refine HSP.out.1.mono ?_
    rintro e w6 ⟨rfl, _, b6⟩
    have hb6 : Below W4.heap.size W4 w6 := HSP.out.2.trans b6
    have hR6 := (hb6.block w4.heap.size (by rw [H4.out.2.2.2.1]; omega)).trans H4.out.1
    have hno := norm_tree W4.heap.size t (by have := HTT.out.2.1; omega) (by have := HTT.out.2.2.1; omega) HTT.out.2.2.2 w6 hb6.size (H4.out.2.1.below (Nat.le_refl _) hb6)
    have HNO := Lib.hid (And.intro hno hb6)
    have rhs := fun j => Lib.cell_of_heap hR6 j
    have r0 := rhs 0; have r1 := rhs 1; have r2 := rhs 2; have r3 := rhs 3; have r4 := rhs 4; have r5 := rhs 5; have r6 := rhs 6
    simp only [List.getElem?_toArray, List.getElem?_cons_zero, List.getElem?_cons_succ] at r0 r1 r2 r3 r4 r5 r6
    clear rhs
    clear b6 hb6 hR6 hno HSP
    go_wp2_with fail
    clear r0 r1 r2 r3 r4 r5 r6
    refine HNO.out.1.mono ?_
    rintro e w7 ⟨y, rfl, hy, hys, b7⟩
    obtain ⟨W7, hW7⟩ : ∃ W7, w7.alloc (Obj.cells #[.int .i64 y.k, .bool y.g, .slice y.la y.ln y.lc, .bool y.bb, .string y.s, .slice y.ia y.items.length y.ic, .slice y.ta y.tail.length y.tc] 27) = W7 := ⟨_, rfl⟩
    have hR7 : W7.heap[w7.heap.size]? = some (Obj.cells #[.int .i64 y.k, .bool y.g, .slice y.la y.ln y.lc, .bool y.bb, .string y.s, .slice y.ia y.items.length y.ic, .slice y.ta y.tail.length y.tc] 27) := by rw [← hW7]; exact World.alloc_heap_new _ _
    have c7 : Below w7.heap.size w7 W7 := by rw [← hW7]; exact (Below.refl _ _).alloc (Nat.le_refl _) _
    have hb7 : Below w6.heap.size w6 W7 := b7.trans (c7.mono b7.size)
    have hyw := norm_bounds (H4.out.2.1.below (Nat.le_refl _) HNO.out.2) HTT.out.2.2.2 (hy.held fun k hk => hk.lt) hys
    have hsp := spoil_any w6.heap.size 1000000 (Nat.le_refl _) y y.k (by have := HTT.out.2.1; omega) hyw.2.2 W7 hb7.size (wheld_of (hy.below c7 (Nat.le_refl _)))
    have HSP := Lib.hid (And.intro hsp (HNO.out.2.trans (hb7.mono HNO.out.2.size)))
    have HS6 := Lib.hid HNO.out.2.size
    have rhs := fun j => Lib.cell_of_heap hR7 j
    have r0 := rhs 0; have r1 := rhs 1; have r2 := rhs 2; have r3 := rhs 3; have r4 := rhs 4; have r5 := rhs 5; have r6 := rhs 6
    simp only [List.getElem?_toArray, List.getElem?_cons_zero, List.getElem?_cons_succ] at r0 r1 r2 r3 r4 r5 r6
    clear rhs
    clear hy hys b7 hR7 c7 hb7 hsp hyw HNO
    go_wp2_with fail
    clear r0 r1 r2 r3 r4 r5 r6 hW7
    refine HSP.out.1.mono ?_
    rintro e w8 ⟨rfl, _, b8⟩
    have hb8 : Below W4.heap.size W4 w8 := HSP.out.2.trans (b8.mono HS6.out)
    have hR8 := (hb8.block w4.heap.size (by rw [H4.out.2.2.2.1]; omega)).trans H4.out.1
    have hsa := split_all W4.heap.size t (by have := HTT.out.2.1; omega) (by have := HTT.out.2.2.1; omega) HTT.out.2.2.2 w8 hb8.size (H4.out.2.1.below (Nat.le_refl _) hb8)
    have HSA := Lib.hid (And.intro hsa hb8)
    have rhs := fun j => Lib.cell_of_heap hR8 j
    have r0 := rhs 0; have r1 := rhs 1; have r2 := rhs 2; have r3 := rhs 3; have r4 := rhs 4; have r5 := rhs 5; have r6 := rhs 6
    simp only [List.getElem?_toArray, List.getElem?_cons_zero, List.getElem?_cons_succ] at r0 r1 r2 r3 r4 r5 r6
    clear rhs
    clear b8 hb8 hR8 hsa HSP HS6
    go_wp2_with fail
    clear r0 r1 r2 r3 r4 r5 r6
    refine HSA.out.1.mono ?_
    rintro e w9 ⟨u, v, ok, rfl, hu, hv, hut, hvt, b9⟩
    obtain ⟨W9, hW9, q0, q1, qz, qb⟩ := two2 w9 (Obj.cells #[.int .i64 u.k, .bool u.g, .slice u.la u.ln u.lc, .bool u.bb, .string u.s, .slice u.ia u.items.length u.ic, .slice u.ta u.tail.length u.tc] 27) (Obj.cells #[.int .i64 v.k, .bool v.g, .slice v.la v.ln v.lc, .bool v.bb, .string v.s, .slice v.ia v.items.length v.ic, .slice v.ta v.tail.length v.tc] 27)
    have hb9 : Below w8.heap.size w8 W9 := b9.trans (qb.mono b9.size)
    have hsp := spoil_any w8.heap.size 1000000 (Nat.le_refl _) u u.k (by have := HTT.out.2.1; omega) hut.1 W9 hb9.size (wheld_of (hu.below qb (Nat.le_refl _)))
    have hwv := wheld_of (hv.below qb (Nat.le_refl _))
    have HSP := Lib.hid (And.intro hsp (And.intro hwv (And.intro hvt (And.intro (HSA.out.2.trans (hb9.mono HSA.out.2.size)) (And.intro q1 (And.intro hb9.size HSA.out.2.size))))))
    have HW9 := Lib.hid hW9
    have rhs := fun j => Lib.cell_of_heap q0 j
    have r0 := rhs 0; have r1 := rhs 1; have r2 := rhs 2; have r3 := rhs 3; have r4 := rhs 4; have r5 := rhs 5; have r6 := rhs 6
    simp only [List.getElem?_toArray, List.getElem?_cons_zero, List.getElem?_cons_succ] at r0 r1 r2 r3 r4 r5 r6
    clear rhs
    rw [hW9] at r0 r1 r2 r3 r4 r5 r6
    clear hu hv hut b9 q0 q1 qz qb hb9 hsp hwv hvt HSA hW9
    go_wp2_with fail
    clear r0 r1 r2 r3 r4 r5 r6
    rw [← HW9.out]
    refine HSP.out.1.mono ?_
    rintro e w10 ⟨rfl, hsf, b10⟩
    have q1 := HSP.out.2.2.2.2.1
    have hds := fun j => Lib.cell_of_heap q1 j
    have s0 := hds 0; have s1 := hds 1; have s2 := hds 2; have s3 := hds 3; have s4 := hds 4; have s5 := hds 5; have s6 := hds 6
    simp only [List.getElem?_toArray, List.getElem?_cons_zero, List.getElem?_cons_succ] at s0 s1 s2 s3 s4 s5 s6
    obtain ⟨k', r0⟩ := hsf.i64 s0
    have r1 := hsf.same s1 (fun a e => by cases e) (fun a e => by cases e)
    have r2 := hsf.same s2 (fun a e => by cases e) (fun a e => by cases e)
    have r3 := hsf.same s3 (fun a e => by cases e) (fun a e => by cases e)
    have r4 := hsf.same s4 (fun a e => by cases e) (fun a e => by cases e)
    have r5 := hsf.same s5 (fun a e => by cases e) (fun a e => by cases e)
    have r6 := hsf.same s6 (fun a e => by cases e) (fun a e => by cases e)
    have hb10 : Below W4.heap.size W4 w10 := HSP.out.2.2.2.1.trans (b10.mono HSP.out.2.2.2.2.2.2)
    have hsp := spoil_any w8.heap.size 1000000 (Nat.le_refl _) v k' (by have h1 := HTT.out.2.1; have h2 := HSP.out.2.2.1.2; omega) HSP.out.2.2.1.1 w10 (Nat.le_trans HSP.out.2.2.2.2.2.1 b10.size) (HSP.out.2.1.soft hsf)
    have HS2 := Lib.hid (And.intro hsp (And.intro hb10 HSP.out.2.2.2.2.2.2))
    clear s0 s1 s2 s3 s4 s5 s6 hds q1 hsf b10 hb10 hsp HSP HW9
    go_wp2_with fail
    clear r0 r1 r2 r3 r4 r5 r6
    refine HS2.out.1.mono ?_
    rintro e w11 ⟨rfl, _, b11⟩
    have hb11 : Below W4.heap.size W4 w11 := HS2.out.2.1.trans (b11.mono HS2.out.2.2)
    have hR11 := (hb11.block w4.heap.size (by rw [H4.out.2.2.2.1]; omega)).trans H4.out.1
    have x11 := (hb11.block w.heap.size (Array.getElem?_eq_some_iff.1 H4.out.2.2.2.2).1).trans H4.out.2.2.2.2
    have hbw : Below w.heap.size w w11 := H4.out.2.2.1.trans (hb11.mono H4.out.2.2.1.size)
    have hrs := rs_any w11.heap.size 1000000 (Nat.le_refl _) t a (by have := HTT.out.2.1; omega) HTT.out.1 HTT.out.2.2.2 ya3 w11 (Nat.le_refl _) ((H4.out.2.1.below (Nat.le_refl _) hb11).upP hb11.size) ((HL.out.2 w11 hbw).upP hbw.size)
    have HRS := Lib.hid (And.intro hrs hbw)
    have rhs := fun j => Lib.cell_of_heap hR11 j
    have r0 := rhs 0; have r1 := rhs 1; have r2 := rhs 2; have r3 := rhs 3; have r4 := rhs 4; have r5 := rhs 5; have r6 := rhs 6
    simp only [List.getElem?_toArray, List.getElem?_cons_zero, List.getElem?_cons_succ] at r0 r1 r2 r3 r4 r5 r6
    clear rhs
    have shs := fun j => Lib.cell_of_heap x11 j
    have s0 := shs 0; have s1 := shs 1; have s2 := shs 2; have s3 := shs 3; have s4 := shs 4; have s5 := shs 5; have s6 := shs 6
    simp only [List.getElem?_toArray, List.getElem?_cons_zero, List.getElem?_cons_succ] at s0 s1 s2 s3 s4 s5 s6
    clear shs
    clear b11 hb11 hR11 x11 hrs hbw HS2
    go_wp2_with fail
    clear r0 r1 r2 r3 r4 r5 r6 s0 s1 s2 s3 s4 s5 s6
    refine HRS.out.1.mono ?_
    rintro e w12 ⟨rfl, b12⟩
    have HB := Lib.hid (HRS.out.2.trans (b12.mono HRS.out.2.size))
    clear b12
    go_wp2_with fail
    refine (lives3_yes _).mono ?_
    rintro e w13 ⟨rfl, b13⟩
    have hb13 := HB.out.trans (b13.mono HB.out.size)
    clear b13
    go_wp2_with fail
    go_ret
    exact ⟨rfl, hb13⟩
  · have la' : lightB a = false := by simpa using la
    rw [la']
    clear r0 r1 r2 r3 r4 r5 r6
    go_wp2_with fail
    refine (lives3_yes _).mono ?_
    rintro e w13 ⟨rfl, b13⟩
    have hb13 := H3.out.2.trans (b13.mono H3.out.2.size)
    clear b13
    go_wp2_with fail
    go_ret
    exact ⟨rfl, hb13⟩
end Go.Proofs.Ytgboiopkihemaaa
