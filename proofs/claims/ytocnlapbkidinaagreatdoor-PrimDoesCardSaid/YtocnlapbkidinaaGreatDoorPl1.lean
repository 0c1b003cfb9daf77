/-
  prim.Eq and prim.True of any data. pavanelaw09.num and lives; prim.Eq, prim.True. pavanelaw09.light of any row, num of any int. light of two data without items.
-/
import Derived.Test.YtocnlapbkidinaaGreatDoorPl2
import Derived.Test.YtocnlapbkidinaaGreatDoorPp2
import Derived.Test.YtocnlapbkidinaaGreatDoorPp4
import Derived.Test.YtocnlapbkidinaaGreatDoorPn6
import Derived.Test.YtocnlapbkidinaaGreatDoorQPrs
import Derived.LoopTactic
set_option linter.unusedVariables false
set_option linter.unusedSimpArgs false
set_option linter.unusedSectionVars false
set_option linter.unnecessarySimpa false
namespace Go.Proofs.YtocnlapbkidinaaGreatDoor
section
open Go.RowKit
set_option maxRecDepth 100000

/-- Are two data one? -/
noncomputable def eqB (a b : LT) : Bool :=
  if a.k ≠ b.k then false else if a.k = 0 then true else if a.k = 1 ∨ a.k = 2 ∨ a.k = 3 then sameB a b else if a.k = 5 then decide (a.items.length = 0) && decide (b.items.length = 0) else false
theorem true_any (t : LT) (w : World) : Calls Tryz.prog 17 #[.agg #[.int .i64 t.k, .bool t.g, .slice t.la t.ln t.lc, .bool t.bb, .string t.s, .slice t.ia t.items.length t.ic, .slice t.ta t.tail.length t.tc]] w fun e w' => e = .returned (.bool (!decide (t.k = 2) || t.bb)) ∧ Below w.heap.size w w' := by
  have hb : Below w.heap.size w (w.alloc (Obj.cells #[.int .i64 t.k, .bool t.g, .slice t.la t.ln t.lc, .bool t.bb, .string t.s, .slice t.ia t.items.length t.ic, .slice t.ta t.tail.length t.tc] 29)) := (Below.refl _ _).alloc (Nat.le_refl _) _
  have HF := Lib.hid (fun W => isFalse_any t W)
  have HB := Lib.hid hb
  clear hb
  go_enter Tryz.func17, Tryz.ntmps17
  go_wp2_with fail
  refine (HF.out _).mono ?_
  rintro e w1 ⟨rfl, b1⟩
  have H1 := Lib.hid (HB.out.trans (b1.mono HB.out.size))
  clear b1 HF HB
  go_wp2_with fail
  go_ret
  exact ⟨rfl, H1.out⟩
set_option maxHeartbeats 6400000 in
theorem eq_any (M : Nat) (a b : LT) (h1 : a.size ≤ 100000) (h2 : a.depth ≤ 10000) (h3 : b.size ≤ 100000) (h4 : b.depth ≤ 10000) (hTa : Tame a) (hTb : Tame b) (w : World) (hM : M ≤ w.heap.size) (hA : Held w M a) (hB : Held w M b) :
    Calls Tryz.prog 19 #[.agg #[.int .i64 a.k, .bool a.g, .slice a.la a.ln a.lc, .bool a.bb, .string a.s, .slice a.ia a.items.length a.ic, .slice a.ta a.tail.length a.tc], .agg #[.int .i64 b.k, .bool b.g, .slice b.la b.ln b.lc, .bool b.bb, .string b.s, .slice b.ia b.items.length b.ic, .slice b.ta b.tail.length b.tc]] w fun e w' => e = .returned (.bool (eqB a b)) ∧ Below w.heap.size w w' := by
  obtain ⟨w2, hw2, a0, a1, hz, hbel⟩ := two2 w (Obj.cells #[.int .i64 a.k, .bool a.g, .slice a.la a.ln a.lc, .bool a.bb, .string a.s, .slice a.ia a.items.length a.ic, .slice a.ta a.tail.length a.tc] 29) (Obj.cells #[.int .i64 b.k, .bool b.g, .slice b.la b.ln b.lc, .bool b.bb, .string b.s, .slice b.ia b.items.length b.ic, .slice b.ta b.tail.length b.tc] 29)
  have hS := same_any M a b h1 h2 h3 h4 hTa hTb w2 (Nat.le_trans hM hbel.size) (hA.below hM hbel) (hB.below hM hbel)
  have HW := Lib.hid (And.intro hw2 (And.intro a0 (And.intro a1 (And.intro hz hbel))))
  have HS := Lib.hid hS
  clear hw2 a0 a1 hz hbel hA hB hTa hTb hS
  unfold eqB
  obtain ⟨ka, hka⟩ : ∃ k, a.k = k := ⟨_, rfl⟩
  obtain ⟨kb, hkb⟩ : ∃ k, b.k = k := ⟨_, rfl⟩
  rw [hka, hkb] at HW HS ⊢
  by_cases hk : ka = kb
  · subst hk
    rw [if_neg (by simp)]
    by_cases c0 : ka = 0
    · rw [if_pos c0]
      subst c0
      go_enter Tryz.func19, Tryz.ntmps19
      go_wp2_with fail
      go_ret
      exact ⟨rfl, HW.out.1 ▸ HW.out.2.2.2.2⟩
    · rw [if_neg c0]
      by_cases c1 : ka = 1 ∨ ka = 2 ∨ ka = 3
      · rw [if_pos c1]
        clear c0
        rcases c1 with rfl | rfl | rfl
        all_goals
          go_enter Tryz.func19, Tryz.ntmps19
          go_wp2_with fail
          rw [← HW.out.1]
          refine HS.out.mono ?_
          rintro e w3 ⟨rfl, b3⟩
          have H3 := Lib.hid (HW.out.2.2.2.2.trans (b3.mono HW.out.2.2.2.2.size))
          clear b3 HS
          go_wp2_with fail
          go_ret
          exact ⟨rfl, H3.out⟩
      · rw [if_neg c1]
        by_cases c5 : ka = 5
        · rw [if_pos c5]
          subst c5
          clear c0 c1 HS
          have HE := Lib.hid (fun W => isEmpty_any a W)
          have HE2 := Lib.hid (fun W => isEmpty_any b W)
          rw [hka] at HE
          rw [hkb] at HE2
          have e1 := fun W (hb : Below w2.heap.size w2 W) => cells7 ((hb.block (w.heap.size + 1) (by rw [HW.out.2.2.2.1]; omega)).trans HW.out.2.2.1)
          go_enter Tryz.func19, Tryz.ntmps19
          go_wp2_with fail
          rw [← HW.out.1]
          refine (HE.out w2).mono ?_
          rintro e w3 ⟨rfl, b3⟩
          obtain ⟨⟨s0, s1, s2, s3, s4, s5, s6⟩, -⟩ := e1 w3 b3
          have H3 := Lib.hid (HW.out.2.2.2.2.trans (b3.mono HW.out.2.2.2.2.size))
          by_cases hl : a.items.length = 0
          · have el : decide (a.items.length = 0) = true := decide_eq_true hl
            rw [el]
            clear b3 HE e1 hl
            go_wp2_with fail
            refine (HE2.out w3).mono ?_
            rintro e w4 ⟨rfl, b4⟩
            have H4 := Lib.hid (H3.out.trans (b4.mono H3.out.size))
            clear b4 HE2 s0 s1 s2 s3 s4 s5 s6
            go_wp2_with fail
            go_ret
            exact ⟨by rw [el]; simp, H4.out⟩
          · have el : decide (a.items.length = 0) = false := decide_eq_false hl
            rw [el]
            clear b3 HE e1 hl
            go_wp2_with fail
            go_ret
            exact ⟨by rw [el]; simp, H3.out⟩
        · rw [if_neg c5]
          have n0 : (ka == 0) = false := beq_eq_false_iff_ne.2 c0
          have n1 : (ka == 1) = false := beq_eq_false_iff_ne.2 (by omega)
          have n2 : (ka == 2) = false := beq_eq_false_iff_ne.2 (by omega)
          have n3 : (ka == 3) = false := beq_eq_false_iff_ne.2 (by omega)
          have n5 : (ka == 5) = false := beq_eq_false_iff_ne.2 c5
          have m0 : decide (ka = 0) = false := decide_eq_false c0
          have m1 : decide (ka = 1) = false := decide_eq_false (by omega)
          have m2 : decide (ka = 2) = false := decide_eq_false (by omega)
          have m3 : decide (ka = 3) = false := decide_eq_false (by omega)
          have m5 : decide (ka = 5) = false := decide_eq_false c5
          clear c0 c1 c5 HS
          go_enter Tryz.func19, Tryz.ntmps19
          go_wp2_with fail
          go_ret
          exact ⟨rfl, HW.out.1 ▸ HW.out.2.2.2.2⟩
  · rw [if_pos hk]
    have n0 : (ka == kb) = false := beq_eq_false_iff_ne.2 hk
    have m0 : decide (ka = kb) = false := decide_eq_false hk
    clear hk HS
    go_enter Tryz.func19, Tryz.ntmps19
    go_wp2_with fail
    go_ret
    exact ⟨rfl, HW.out.1 ▸ HW.out.2.2.2.2⟩
end
end Go.Proofs.YtocnlapbkidinaaGreatDoor
namespace Go.Proofs.YtocnlapbkidinaaGreatDoor
section
open Go.RowKit
set_option maxRecDepth 100000

set_option maxHeartbeats 3200000 in
theorem num9_any (i : Int) (w : World) (h0 : -9223372036854775808 ≤ i) (h1 : i ≤ 9223372036854775807) : Calls Tryz.prog 23 #[.int .i64 i] w (DatP w 1 (decide (i < 0)) (limbs i.natAbs) false ⟨#[]⟩) := by
  have HW := Lib.hid (fun W => rwof_num i W h0 h1)
  go_enter Tryz.func23, Tryz.ntmps23
  go_wp2_with fail
  refine (HW.out _).mono ?_
  rintro e w1 ⟨v, rfl, ⟨x, rfl, A, n, c, rfl, hsl, _⟩, b1⟩
  obtain ⟨hz, hlt, hb⟩ := oldZ b1
  obtain ⟨⟨d0, d1, d2, d3, d4, d5, d6⟩, f0, f1, f2, f3, f4, f5, f6⟩ := cells7 hz
  have H2 := Lib.hid (And.intro hsl hb)
  clear hsl hb b1
  go_wp2_with fail
  exact dat_set rfl rfl rfl hz (Nat.le_refl _) H2.out.1 H2.out.2
theorem row2_new (x y : LT) (w : World) : RowAt (w.alloc (.cells #[.int .i64 x.k, .bool x.g, .slice x.la x.ln x.lc, .bool x.bb, .string x.s, .slice x.ia x.items.length x.ic, .slice x.ta x.tail.length x.tc, .int .i64 y.k, .bool y.g, .slice y.la y.ln y.lc, .bool y.bb, .string y.s, .slice y.ia y.items.length y.ic, .slice y.ta y.tail.length y.tc] 29)) w.heap.size 0 [x, y] := by
  have h := heap_alloc_new w (.cells #[.int .i64 x.k, .bool x.g, .slice x.la x.ln x.lc, .bool x.bb, .string x.s, .slice x.ia x.items.length x.ic, .slice x.ta x.tail.length x.tc, .int .i64 y.k, .bool y.g, .slice y.la y.ln y.lc, .bool y.bb, .string y.s, .slice y.ia y.items.length y.ic, .slice y.ta y.tail.length y.tc] 29)
  refine ⟨by rw [World.size_alloc]; omega, fun k hk j v hj => ?_⟩
  rw [Lib.cell_of_heap h]
  have hk2 : k < 2 := by simpa using hk
  have hj7 : j < 7 := by
    have := (List.getElem?_eq_some_iff.1 hj).1
    simpa [LT.cells] using this
  rcases k with _ | _ | k
  · rcases j with _ | _ | _ | _ | _ | _ | _ | j <;> first | (exfalso; omega) | (simp [LT.cells] at hj; subst hj; simp)
  · rcases j with _ | _ | _ | _ | _ | _ | _ | j <;> first | (exfalso; omega) | (simp [LT.cells] at hj; subst hj; simp)
  · omega
theorem row1_new (x : LT) (w : World) : RowAt (w.alloc (Obj.cells #[.int .i64 x.k, .bool x.g, .slice x.la x.ln x.lc, .bool x.bb, .string x.s, .slice x.ia x.items.length x.ic, .slice x.ta x.tail.length x.tc] 29)) w.heap.size 0 [x] := by
  have h := heap_alloc_new w (Obj.cells #[.int .i64 x.k, .bool x.g, .slice x.la x.ln x.lc, .bool x.bb, .string x.s, .slice x.ia x.items.length x.ic, .slice x.ta x.tail.length x.tc] 29)
  refine ⟨by rw [World.size_alloc]; omega, fun k hk j v hj => ?_⟩
  rw [Lib.cell_of_heap h]
  have hk2 : k < 1 := by simpa using hk
  rcases k with _ | k
  · simpa [LT.cells] using hj
  · omega
/-- A datum without items, as a tree. -/
theorem plain_held {w : World} {k : Int} {g b : Bool} {A : Option Addr} {n c : Nat} {xs : List Nat} {s : ByteArray} (h : Sl w A n c xs) (hs : s.size ≤ maxLen) : Held w w.heap.size (plainT k g A n c xs b s) := by
  refine ⟨⟨h, fun hp => ?_, hs⟩, ⟨Nat.le_refl _, by simp [maxLen, plainT, LT.ic], fun hp => absurd hp (by simp [plainT, LT.items]), fun _ => rfl⟩, ⟨Nat.le_refl _, by simp [maxLen, plainT, LT.tc], fun hp => absurd hp (by simp [plainT, LT.tail]), fun _ => rfl⟩, by simp [plainT, LT.items], by simp [plainT, LT.tail]⟩
  obtain ⟨b', off, e, hb, _⟩ := h.here hp
  show blk A < _
  rw [e]
  exact hb
theorem plain_tame {k : Int} {g b : Bool} {A : Option Addr} {n c : Nat} {xs : List Nat} {s : ByteArray} (h : n ≤ 35184372087808) : Tame (plainT k g A n c xs b s) := (tame_eq _).2 ⟨h, by simp [plainT, LT.items, TameR], by simp [plainT, LT.tail, TameR]⟩
theorem plain_size (k : Int) (g b : Bool) (A : Option Addr) (n c : Nat) (xs : List Nat) (s : ByteArray) : (plainT k g A n c xs b s).size = 1 ∧ (plainT k g A n c xs b s).depth = 1 := by
  refine ⟨?_, ?_⟩
  · rw [LT.size_eq]; simp [plainT, LT.items, LT.tail, sizes]
  · rw [LT.depth_eq]; simp [plainT, LT.items, LT.tail, depths]
/-- The document's Same of two data without items. -/
theorem rsame_plain {w : World} {k k' : Int} {g g' b b' : Bool} {A A' : Option Addr} {n n' c c' : Nat} {xs xs' : List Nat} {s s' : ByteArray} (h1 : Sl w A n c xs) (h2 : Sl w A' n' c' xs') (hs : s.size ≤ maxLen) (hs' : s'.size ≤ maxLen) (hn : n ≤ 35184372087808) (hn' : n' ≤ 35184372087808) :
    Calls Tryz.prog 10 #[.agg #[.int .i64 k, .bool g, .slice A n c, .bool b, .string s, .slice none 0 0, .slice none 0 0], .agg #[.int .i64 k', .bool g', .slice A' n' c', .bool b', .string s', .slice none 0 0, .slice none 0 0]] w fun e w' => e = .returned (.bool (sameB (plainT k g A n c xs b s) (plainT k' g' A' n' c' xs' b' s'))) ∧ Below w.heap.size w w' :=
  sameG_all w.heap.size 1 (by decide) (plainT k g A n c xs b s) (plainT k' g' A' n' c' xs' b' s') (by rw [(plain_size ..).1]; decide) (plain_tame hn) (plain_tame hn') w (Nat.le_refl _) (plain_held h1 hs) (plain_held h2 hs')
theorem sameB_plain {k k' : Int} {g g' b b' : Bool} {A A' : Option Addr} {n n' c c' : Nat} {xs xs' : List Nat} {s s' : ByteArray} : sameB (plainT k g A n c xs b s) (plainT k' g' A' n' c' xs' b' s') = true ↔ k = k' ∧ zOf g (val xs) = zOf g' (val xs') ∧ b = b' ∧ s = s' := by
  rw [sameB_iff, same_parts]
  simp [plainT, LT.k, LT.g, LT.ys, LT.bb, LT.s, LT.items, LT.tail]
theorem sl_le {w : World} {A : Option Addr} {n c K : Nat} {z : Int} (h : Sl w A n c (limbs z.natAbs)) (hz : z.natAbs < 4294967296 ^ K) : n ≤ K := by
  rw [h.len]; exact limbs_len_le hz
theorem zOf_limbs (z : Int) : zOf (decide (z < 0)) (val (limbs z.natAbs)) = z := by rw [limbs_val, ← zOf_self]
theorem arith_ok {z : Int} (h : z.natAbs < 4294967296 ^ 64) : arithA 1 1 z 0 = numA z := by
  have hl := limbs_len_le h
  unfold arithA rkA
  rw [if_pos ⟨rfl, rfl⟩, if_neg (by decide), if_neg (by omega)]
theorem arith_er {z er : Int} (h : er ≠ 0) : arithA 1 1 z er = errA er := by
  unfold arithA rkA
  rw [if_pos ⟨rfl, rfl⟩, if_pos h]
theorem arith_ty {k1 k2 z er : Int} (h : ¬ (k1 = 1 ∧ k2 = 1)) : arithA k1 k2 z er = errA 6 := by
  unfold arithA
  rw [if_neg h]
theorem wh_plain {w : World} {k : Int} {g b : Bool} {A : Option Addr} {n c K : Nat} {xs : List Nat} {s : ByteArray} {z : Int} (h : Sl w A n c xs) (hz : z = zOf g (val xs)) (hn : n ≤ K) : Wh w (intOfT (plainT k g A n c xs b s)) z K := ⟨g, _, val xs, rfl, ⟨A, n, c, xs, rfl, h, rfl, hn⟩, hz⟩
theorem num_at (i : Int) (g : Bool) (m : Nat) (hg : decide (i < 0) = g) (hm : i.natAbs = m) (h0 : -9223372036854775808 ≤ i) (h1 : i ≤ 9223372036854775807) (w : World) : Calls Tryz.prog 23 #[.int .i64 i] w (DatP w 1 g (limbs m) false ⟨#[]⟩) := by
  have := num9_any i w h0 h1
  rwa [hg, hm] at this
theorem lim1 (m : Nat) (h : m < 4294967296) {w : World} {A : Option Addr} {n c : Nat} (hs : Sl w A n c (limbs m)) : n ≤ 1 := by
  rw [hs.len]; exact limbs_len_le (k := 1) (by omega)
set_option maxHeartbeats 6400000 in
theorem lives9_yes (w : World) : Calls Tryz.prog 7 #[] w fun e w' => e = .returned (.bool true) ∧ Below w.heap.size w w' := by
  have N7 := Lib.hid (num_at (-7) true 7 (by decide) (by decide) (by decide) (by decide))
  have N2 := Lib.hid (num_at 2 false 2 (by decide) (by decide) (by decide) (by decide))
  have N1 := Lib.hid (num_at 1 false 1 (by decide) (by decide) (by decide) (by decide))
  have N0 := Lib.hid (num_at 0 false 0 (by decide) (by decide) (by decide) (by decide))
  go_enter Tryz.func7, Tryz.ntmps7
  go_wp2_with fail
  refine (N7.out _).mono ?_
  rintro e w1 ⟨A1, n1, c1, rfl, s1, b1⟩
  have H1 := Lib.hid (And.intro s1 b1)
  clear s1 b1
  go_wp2_with fail
  refine (N2.out _).mono ?_
  rintro e w2 ⟨A2, n2, c2, rfl, s2, b2⟩
  have R2 := row2_new (plainT 1 true A1 n1 c1 (limbs 7) false ⟨#[]⟩) (plainT 1 false A2 n2 c2 (limbs 2) false ⟨#[]⟩) w2
  have hb2 := H1.out.2.trans (b2.mono H1.out.2.size)
  have hD := do_mod (c := 2) (a := -7) (b := 2) (K := 1) (L := 1) (wh_plain ((H1.out.1.below b2).alloc _) (by rw [limbs_val]; rfl) (lim1 _ (by decide) H1.out.1)) (wh_plain (s2.alloc _) (by rw [limbs_val]; rfl) (lim1 _ (by decide) s2)) (by decide) (by decide) R2
  rw [show flR (-7) 2 = 1 by decide, show quoE 2 = 0 by decide] at hD
  have hA1 : arithA (plainT 1 true A1 n1 c1 (limbs 7) false ⟨#[]⟩).k (plainT 1 false A2 n2 c2 (limbs 2) false ⟨#[]⟩).k 1 0 = numA 1 := arith_ok (by decide)
  rw [hA1] at hD
  have HD := Lib.hid (show Calls _ _ _ _ (TelP _ 1 false (limbs 1) false ⟨#[]⟩ 0) from hD)
  have HB2 := Lib.hid (hb2.alloc hb2.size (.cells #[.int .i64 1, .bool true, .slice A1 n1 c1, .bool false, .string ⟨#[]⟩, .slice none 0 0, .slice none 0 0, .int .i64 1, .bool false, .slice A2 n2 c2, .bool false, .string ⟨#[]⟩, .slice none 0 0, .slice none 0 0] 29))
  clear s2 b2 R2 hb2 hD hA1 H1
  go_wp2_with fail
  refine HD.out.mono ?_
  clear HD
  rintro e w3 ⟨A3, n3, c3, rfl, s3, b3⟩
  have H3 := Lib.hid (And.intro s3 (HB2.out.trans (b3.mono HB2.out.size)))
  clear s3 b3 HB2
  go_wp2_with fail
  refine (N1.out _).mono ?_
  rintro e w4 ⟨A4, n4, c4, rfl, s4, b4⟩
  have hs3 : (w3.alloc (.cells #[.int .i64 1, .bool false, .slice A3 n3 c3, .bool false, .string ⟨#[]⟩, .slice none 0 0, .slice none 0 0] 29)).heap.size = w3.heap.size + 1 := World.size_alloc ..
  have hb3 := H3.out.2.alloc H3.out.2.size (.cells #[.int .i64 1, .bool false, .slice A3 n3 c3, .bool false, .string ⟨#[]⟩, .slice none 0 0, .slice none 0 0] 29)
  have hd4 := (b4.block w3.heap.size (by rw [hs3]; omega)).trans (heap_alloc_new w3 (.cells #[.int .i64 1, .bool false, .slice A3 n3 c3, .bool false, .string ⟨#[]⟩, .slice none 0 0, .slice none 0 0] 29))
  have hb4 := hb3.trans (b4.mono hb3.size)
  have H4 := Lib.hid (And.intro s4 (And.intro hb4 (And.intro hd4 ((H3.out.1.alloc (.cells #[.int .i64 1, .bool false, .slice A3 n3 c3, .bool false, .string ⟨#[]⟩, .slice none 0 0, .slice none 0 0] 29)).below b4))))
  clear s4 b4 hs3 hb3 hd4 hb4 H3
  go_wp2_with fail
  refine (N0.out _).mono ?_
  rintro e w5 ⟨A5, n5, c5, rfl, s5, b5⟩
  have R5 := row2_new (plainT 1 false A4 n4 c4 (limbs 1) false ⟨#[]⟩) (plainT 1 false A5 n5 c5 (limbs 0) false ⟨#[]⟩) w5
  have hD := do_quo (c := 2) (a := 1) (b := 0) (K := 1) (L := 1) (wh_plain ((H4.out.1.below b5).alloc _) (by rw [limbs_val]; rfl) (lim1 _ (by decide) H4.out.1)) (wh_plain (s5.alloc _) (by rw [limbs_val]; rfl) (lim1 _ (by decide) s5)) (by decide) (by decide) R5
  rw [show quoE 0 = 3 by decide] at hD
  have hA1 : arithA (plainT 1 false A4 n4 c4 (limbs 1) false ⟨#[]⟩).k (plainT 1 false A5 n5 c5 (limbs 0) false ⟨#[]⟩).k (quoQ 1 0) 3 = errA 3 := arith_er (by decide)
  rw [hA1] at hD
  have HD := Lib.hid (show Calls _ _ _ _ (TelP _ 0 false [] false ⟨#[]⟩ 3) from hD)
  have hb5 := H4.out.2.1.trans (b5.mono H4.out.2.1.size)
  have hd5 := (b5.block w3.heap.size (Array.getElem?_eq_some_iff.1 H4.out.2.2.1).1).trans H4.out.2.2.1
  have hR5 := (Below.refl w5.heap.size w5).alloc (Nat.le_refl _) (.cells #[.int .i64 1, .bool false, .slice A4 n4 c4, .bool false, .string ⟨#[]⟩, .slice none 0 0, .slice none 0 0, .int .i64 1, .bool false, .slice A5 n5 c5, .bool false, .string ⟨#[]⟩, .slice none 0 0, .slice none 0 0] 29)
  have H5 := Lib.hid (And.intro (hb5.trans (hR5.mono hb5.size)) (And.intro ((hR5.block w3.heap.size (Array.getElem?_eq_some_iff.1 hd5).1).trans hd5) ((H4.out.2.2.2.below b5).below hR5)))
  clear s5 b5 R5 hD hA1 hb5 hd5 hR5 H4
  go_wp2_with fail
  refine HD.out.mono ?_
  clear HD
  rintro e w6 ⟨A6, n6, c6, rfl, s6, b6⟩
  have H6 := Lib.hid (And.intro (H5.out.1.trans (b6.mono H5.out.1.size)) (And.intro ((b6.block w3.heap.size (Array.getElem?_eq_some_iff.1 H5.out.2.1).1).trans H5.out.2.1) (H5.out.2.2.below b6)))
  clear s6 b6 H5
  go_wp2_with fail
  refine (N1.out _).mono ?_
  rintro e w7 ⟨A7, n7, c7, rfl, s7, b7⟩
  have a7 := ((Below.refl w6.heap.size w6).alloc (Nat.le_refl _) (.cells #[.int .i64 0, .bool false, .slice A6 n6 c6, .bool false, .string ⟨#[]⟩, .slice none 0 0, .slice none 0 0] 29)).trans (b7.mono (by rw [World.size_alloc]; omega))
  have R7 := row2_new (plainT 1 false A7 n7 c7 (limbs 1) false ⟨#[]⟩) (plainT 4 false none 0 0 [] false ⟨#[97]⟩) w7
  have hD := do_add (c := 2) (a := 1) (b := 0) (K := 1) (L := 1) (wh_plain (s7.alloc _) (by rw [limbs_val]; rfl) (lim1 _ (by decide) s7)) (wh_plain Sl.nil (by rfl) (by decide)) (by decide) (by decide) R7
  have hA1 : arithA (plainT 1 false A7 n7 c7 (limbs 1) false ⟨#[]⟩).k (plainT 4 false none 0 0 [] false ⟨#[97]⟩).k (1 + 0) 0 = errA 6 := arith_ty (by show ¬ ((1 : Int) = 1 ∧ (4 : Int) = 1); decide)
  rw [hA1] at hD
  have HD := Lib.hid (show Calls _ _ _ _ (TelP _ 0 false [] false ⟨#[]⟩ 6) from hD)
  have hR7 := (Below.refl w7.heap.size w7).alloc (Nat.le_refl _) (.cells #[.int .i64 1, .bool false, .slice A7 n7 c7, .bool false, .string ⟨#[]⟩, .slice none 0 0, .slice none 0 0, .int .i64 4, .bool false, .slice none 0 0, .bool false, .string ⟨#[97]⟩, .slice none 0 0, .slice none 0 0] 29)
  have a8 := a7.trans (hR7.mono a7.size)
  have H7 := Lib.hid (And.intro (H6.out.1.trans (a8.mono H6.out.1.size)) (And.intro ((a8.block w3.heap.size (Array.getElem?_eq_some_iff.1 H6.out.2.1).1).trans H6.out.2.1) (H6.out.2.2.below a8)))
  clear s7 b7 R7 hD hA1 hR7 a7 a8 H6
  go_wp2_with fail
  refine HD.out.mono ?_
  clear HD
  rintro e w8 ⟨A8, n8, c8, rfl, s8, b8⟩
  have a8 := b8.alloc b8.size (.cells #[.int .i64 0, .bool false, .slice A8 n8 c8, .bool false, .string ⟨#[]⟩, .slice none 0 0, .slice none 0 0] 29)
  have hd8 := (a8.block w3.heap.size (Array.getElem?_eq_some_iff.1 H7.out.2.1).1).trans H7.out.2.1
  have H8 := Lib.hid (And.intro (H7.out.1.trans (a8.mono H7.out.1.size)) (And.intro hd8 (H7.out.2.2.below a8)))
  clear s8 b8 a8 hd8 H7
  go_wp2_with fail
  generalize w8.alloc (.cells #[.int .i64 0, .bool false, .slice A8 n8 c8, .bool false, .string ⟨#[]⟩, .slice none 0 0, .slice none 0 0] 29) = V at *
  obtain ⟨hS0, -⟩ := cells7 (show V.drew.heap[w3.heap.size]? = _ from H8.out.2.1)
  go_region_held3 (fun w' => w'.cell? ⟨w3.heap.size, 0, none⟩ = some (.int .i64 1) ∧ w'.cell? ⟨w3.heap.size, 1, none⟩ = some (.bool false) ∧ w'.cell? ⟨w3.heap.size, 2, none⟩ = some (.slice A3 n3 c3) ∧ w'.cell? ⟨w3.heap.size, 3, none⟩ = some (.bool false) ∧ w'.cell? ⟨w3.heap.size, 4, none⟩ = some (.string ⟨#[]⟩) ∧ w'.cell? ⟨w3.heap.size, 5, none⟩ = some (.slice none 0 0) ∧ w'.cell? ⟨w3.heap.size, 6, none⟩ = some (.slice none 0 0))
    (first | with_reducible exact hS0 | with_reducible exact hS1 | with_reducible exact hS2 | go_keep)
    (first
    | (go_at_call 23; refine (N1.out _).mono ?_; rintro e w9 ⟨A9, n9, c9, rfl, s9, b9⟩; have b9' : Below V.heap.size V w9 := ⟨b9.os, b9.tape, b9.output, b9.size, b9.block⟩; obtain ⟨hS1, -⟩ := cells7 ((b9'.block w3.heap.size (Array.getElem?_eq_some_iff.1 H8.out.2.1).1).trans H8.out.2.1))
    | (go_at_call 10; have HS := rsame_plain (w := w9) (k := 1) (k' := 1) (g := false) (g' := false) (b := false) (b' := false) (s := ⟨#[]⟩) (s' := ⟨#[]⟩) (H8.out.2.2.below b9') s9 (by decide) (by decide) (by have := lim1 _ (by decide) H8.out.2.2; omega) (by have := lim1 _ (by decide) s9; omega);
       rw [show sameB (plainT 1 false A3 n3 c3 (limbs 1) false ⟨#[]⟩) (plainT 1 false A9 n9 c9 (limbs 1) false ⟨#[]⟩) = true from sameB_plain.2 ⟨rfl, rfl, rfl, rfl⟩] at HS; refine HS.mono ?_; rintro e w10 ⟨rfl, b10⟩; have hb10 := b9'.trans (b10.mono b9'.size); obtain ⟨hS2, -⟩ := cells7 ((hb10.block w3.heap.size (Array.getElem?_eq_some_iff.1 H8.out.2.1).1).trans H8.out.2.1); clear HS))
  go_wp2_with fail
  go_ret
  exact ⟨rfl, H8.out.1.trans (hb10.mono H8.out.1.size)⟩
end
end Go.Proofs.YtocnlapbkidinaaGreatDoor
namespace Go.Proofs.YtocnlapbkidinaaGreatDoor
section
open Go.RowKit
set_option maxRecDepth 100000

/-- Not more of a datum than is looked at. -/
def lightX (t : LT) : Bool := decide (0 ≤ budT t 100 30) && decide (t.ln ≤ 66) && decide (t.s.size ≤ 1100)
set_option maxHeartbeats 6400000 in
theorem light9_any (M : Nat) (A : Option Addr) (c : Nat) (ts : List LT) (w : World) (hM : M ≤ w.heap.size) (hn : ts.length ≤ 10) (hS : Spot M A ts.length c) (hR : LiesR w M ts (blk A) (ofs A)) :
    Calls Tryz.prog 6 #[.slice A ts.length c] w fun e w' => e = .returned (.bool (ts.all lightX)) ∧ Below w.heap.size w w' := by
  obtain ⟨B, o, hA, hR1⟩ : ∃ B o, (0 < ts.length → A = some ⟨B, o, none⟩ ∧ B < M) ∧ LiesR w M ts B o := ⟨blk A, ofs A, hS.2.2.1, hR⟩
  have HH := Lib.hid (And.intro hA hR1)
  clear hA hR1 hR hS
  go_enter Tryz.func6, Tryz.ntmps6
  go_wp2_with fail
  go_loopw [10] (fun i wr => ∃ j : Nat, j ≤ ts.length ∧ i = .int .i64 j ∧ Below w.heap.size w wr ∧ Hid (∀ q (h : q < ts.length), q < j → lightX ts[q] = true)) (fun i _ => ts.length - (intOf i).toNat)
  case atStart => exact ⟨0, Nat.zero_le _, rfl, Below.refl _ _, Lib.hid fun q h hq => by omega⟩
  case round =>
    obtain ⟨j, hj, rfl, hb, hq⟩ := hrel
    by_cases hlt : j < ts.length
    · obtain ⟨rfl, hB⟩ := HH.out.1 (by omega)
      obtain ⟨_, hcx, hhx⟩ := lies_held.1 ((liesR_iff _ _ _).1 HH.out.2 j hlt)
      have HQ : Hid (lightX ts[j] = true → ∀ q (h : q < ts.length), q < j + 1 → lightX ts[q] = true) := Lib.hid fun hs q h1 h3 => by
        rcases Nat.lt_or_ge q j with h4 | h4
        · exact hq.out q h1 h4
        · obtain rfl : q = j := by omega
          exact hs
      have HF : Hid (lightX ts[j] = false → ts.all lightX = false) := Lib.hid fun hs => by
        rw [List.all_eq_false]
        exact ⟨ts[j], List.getElem_mem hlt, by rw [hs]; decide⟩
      obtain ⟨x, hx⟩ : ∃ x, ts[j] = x := ⟨_, rfl⟩
      rw [hx] at hcx hhx HQ HF
      rw [Nat.mul_comm 7 j] at hcx
      have hc : ∀ i v, x.cells[i]? = some v → wr.cell? ⟨B, o + j * 7 + i, none⟩ = some v := fun i v hi => (hb.cell (p := ⟨B, o + j * 7 + i, none⟩) (by show B < _; omega)).trans (hcx i v hi)
      obtain ⟨d0, d1, d2, d3, d4, d5, d6⟩ := Seven7.cells hc
      have hbx : Below wr.heap.size wr (wr.alloc (Obj.cells #[.int .i64 x.k, .bool x.g, .slice x.la x.ln x.lc, .bool x.bb, .string x.s, .slice x.ia x.items.length x.ic, .slice x.ta x.tail.length x.tc] 29)) := (Below.refl _ _).alloc (Nat.le_refl _) _
      have hbw := hb.trans (hbx.mono hb.size)
      have hxn : (wr.alloc (Obj.cells #[.int .i64 x.k, .bool x.g, .slice x.la x.ln x.lc, .bool x.bb, .string x.s, .slice x.ia x.items.length x.ic, .slice x.ta x.tail.length x.tc] 29)).heap[wr.heap.size]? = some (Obj.cells #[.int .i64 x.k, .bool x.g, .slice x.la x.ln x.lc, .bool x.bb, .string x.s, .slice x.ia x.items.length x.ic, .slice x.ta x.tail.length x.tc] 29) := heap_alloc_new _ _
      have HS := Lib.hid (small_any M x 100 30 (wr.alloc (Obj.cells #[.int .i64 x.k, .bool x.g, .slice x.la x.ln x.lc, .bool x.bb, .string x.s, .slice x.ia x.items.length x.ic, .slice x.ta x.tail.length x.tc] 29)) (Nat.le_trans hM hbw.size) (hhx.below hM hbw) (by decide) (by decide) (by decide) (by decide))
      have hmx : x.s.size ≤ maxLen := hhx.1.2.2
      have hml : x.ln ≤ maxLen := Nat.le_trans hhx.1.1.le hhx.1.1.max
      unfold maxLen at hmx hml
      have hzs : (wr.alloc (Obj.cells #[.int .i64 x.k, .bool x.g, .slice x.la x.ln x.lc, .bool x.bb, .string x.s, .slice x.ia x.items.length x.ic, .slice x.ta x.tail.length x.tc] 29)).heap.size = wr.heap.size + 1 := World.size_alloc ..
      have HB := Lib.hid (And.intro hbw (And.intro hxn hzs))
      clear hcx hhx hc hb hbx hbw hxn hx hq hzs
      go_wp2_with fail
      clear d0 d1 d2 d3 d4 d5 d6
      refine HS.out.mono ?_
      rintro e w1 ⟨rfl, b1⟩
      obtain ⟨⟨r0, r1, r2, r3, r4, r5, r6⟩, -⟩ := cells7 ((b1.block wr.heap.size (by rw [HB.out.2.2]; omega)).trans HB.out.2.1)
      have H1 := Lib.hid (HB.out.1.trans (b1.mono HB.out.1.size))
      clear b1 HS
      by_cases hs : 0 ≤ budT x 100 30
      · have es : decide (0 ≤ budT x 100 30) = true := decide_eq_true hs
        by_cases hl : 66 < x.ln
        · have el : decide ((66 : Int) < (x.ln : Int)) = true := decide_eq_true (by omega)
          have ef : lightX x = false := by unfold lightX; rw [es, decide_eq_false (by omega : ¬ x.ln ≤ 66)]; rfl
          clear hs
          go_wp2_with fail
          go_ret
          rw [HF.out ef]
          exact ⟨rfl, H1.out⟩
        · have el : decide ((66 : Int) < (x.ln : Int)) = false := decide_eq_false (by omega)
          by_cases ht : 1100 < x.s.size
          · have et : decide ((1100 : Int) < (x.s.size : Int)) = true := decide_eq_true (by omega)
            have ef : lightX x = false := by unfold lightX; rw [es, decide_eq_true (by omega : x.ln ≤ 66), decide_eq_false (by omega : ¬ x.s.size ≤ 1100)]; rfl
            clear hs
            go_wp2_with fail
            go_ret
            rw [HF.out ef]
            exact ⟨rfl, H1.out⟩
          · have et : decide ((1100 : Int) < (x.s.size : Int)) = false := decide_eq_false (by omega)
            have HY := Lib.hid (HQ.out (by unfold lightX; rw [es, decide_eq_true (by omega : x.ln ≤ 66), decide_eq_true (by omega : x.s.size ≤ 1100)]; rfl))
            clear hs HQ HF
            go_wp2_with fail
            go_roundw
            case rel => exact ⟨j + 1, by omega, by go_num, H1.out, HY⟩
            case measure => simp [intOf]; omega
      · have es : decide (0 ≤ budT x 100 30) = false := decide_eq_false hs
        have ef : lightX x = false := by unfold lightX; rw [es]; rfl
        clear hs
        go_wp2_with fail
        go_ret
        rw [HF.out ef]
        exact ⟨rfl, H1.out⟩
    · have e : ts.all lightX = true := by
        rw [List.all_eq_true]
        intro x hx
        obtain ⟨q, h1, rfl⟩ := List.getElem_of_mem hx
        exact hq.out q h1 (by omega)
      have HE := Lib.hid e
      clear e
      go_wp2_with fail
      go_ret
      rw [HE.out]
      exact ⟨rfl, hb⟩
end
end Go.Proofs.YtocnlapbkidinaaGreatDoor
namespace Go.Proofs.YtocnlapbkidinaaGreatDoor
section
open Go.RowKit
set_option maxRecDepth 100000

theorem light_plain {k : Int} {g b : Bool} {A : Option Addr} {n c : Nat} {xs : List Nat} {s : ByteArray} : lightX (plainT k g A n c xs b s) = (decide (n ≤ 66) && decide (s.size ≤ 1100)) := by
  unfold lightX
  have h : budT (plainT k g A n c xs b s) 100 30 = 99 := by
    unfold plainT
    rw [budT_eq]
    simp [LT.items, LT.tail, budR_nil]
  rw [h]
  show (decide (0 ≤ (99 : Int)) && decide (n ≤ 66) && decide (s.size ≤ 1100)) = _
  rw [show decide (0 ≤ (99 : Int)) = true by decide, Bool.true_and]
theorem light_two {w : World} {k k' : Int} {g b g' b' : Bool} {A A' : Option Addr} {n c n' c' : Nat} {xs xs' : List Nat} {s s' : ByteArray} (h1 : Sl w A n c xs) (h2 : Sl w A' n' c' xs') (hs : s.size ≤ maxLen) (hs' : s'.size ≤ maxLen) :
    Calls Tryz.prog 6 #[.slice (some ⟨w.heap.size, 0, none⟩) 2 2] (w.alloc (.cells #[.int .i64 k, .bool g, .slice A n c, .bool b, .string s, .slice none 0 0, .slice none 0 0, .int .i64 k', .bool g', .slice A' n' c', .bool b', .string s', .slice none 0 0, .slice none 0 0] 29)) fun e w' => e = .returned (.bool ((decide (n ≤ 66) && decide (s.size ≤ 1100)) && (decide (n' ≤ 66) && decide (s'.size ≤ 1100)))) ∧ Below w.heap.size w w' := by
  have hR := row2_new (plainT k g A n c xs b s) (plainT k' g' A' n' c' xs' b' s') w
  have hb : Below w.heap.size w (w.alloc (.cells #[.int .i64 k, .bool g, .slice A n c, .bool b, .string s, .slice none 0 0, .slice none 0 0, .int .i64 k', .bool g', .slice A' n' c', .bool b', .string s', .slice none 0 0, .slice none 0 0] 29)) := (Below.refl _ _).alloc (Nat.le_refl _) _
  have hl : LiesR (w.alloc (.cells #[.int .i64 k, .bool g, .slice A n c, .bool b, .string s, .slice none 0 0, .slice none 0 0, .int .i64 k', .bool g', .slice A' n' c', .bool b', .string s', .slice none 0 0, .slice none 0 0] 29)) (w.heap.size + 1) [plainT k g A n c xs b s, plainT k' g' A' n' c' xs' b' s'] w.heap.size 0 := by
    have p1 := plain_held (h1.below hb) hs (k := k) (g := g) (b := b)
    have p2 := plain_held (h2.below hb) hs' (k := k') (g := g') (b := b')
    rw [World.size_alloc] at p1 p2
    rw [liesR_cons, liesR_cons, liesR_nil]
    exact ⟨lies_held.2 ⟨Nat.lt_succ_self _, hR.first, p1⟩, lies_held.2 ⟨Nat.lt_succ_self _, hR.second, p2⟩, trivial⟩
  have := light9_any (w.heap.size + 1) (some ⟨w.heap.size, 0, none⟩) 2 [plainT k g A n c xs b s, plainT k' g' A' n' c' xs' b' s'] _ (by rw [World.size_alloc]; omega) (by simp) ⟨Nat.le_refl _, by simp [maxLen], fun _ => ⟨rfl, Nat.lt_succ_self _⟩, fun h => by cases h⟩ hl
  refine this.mono ?_
  rintro e w' ⟨rfl, h⟩
  refine ⟨?_, hb.trans (h.mono hb.size)⟩
  simp only [List.all_cons, List.all_nil, light_plain, Bool.and_true]
theorem four_xy (w : World) (A B X Y : Obj) : ((((w.alloc A).alloc B).alloc X).alloc Y).drew.heap[w.heap.size + 1 + 1]? = some X ∧ ((((w.alloc A).alloc B).alloc X).alloc Y).drew.heap[w.heap.size + 1 + 1 + 1]? = some Y ∧ Below w.heap.size w ((((w.alloc A).alloc B).alloc X).alloc Y).drew := by
  have s1 : (w.alloc A).heap.size = w.heap.size + 1 := World.size_alloc ..
  have s2 : ((w.alloc A).alloc B).heap.size = w.heap.size + 1 + 1 := by rw [World.size_alloc, s1]
  have s3 : (((w.alloc A).alloc B).alloc X).heap.size = w.heap.size + 1 + 1 + 1 := by rw [World.size_alloc, s2]
  have h1 := heap_alloc_new ((w.alloc A).alloc B) X
  have h2 := heap_alloc_new (((w.alloc A).alloc B).alloc X) Y
  rw [s2] at h1
  rw [s3] at h2
  exact ⟨(Below.heap_alloc _ _ _ (by rw [s3]; omega)).trans h1, h2, (((((Below.refl _ _).alloc (Nat.le_refl _) _).alloc (by omega) _).alloc (by omega) _).alloc (by omega) _).drew⟩
theorem TelP.from_ {w w1 : World} {k : Int} {g : Bool} {xs : List Nat} {b : Bool} {s : ByteArray} {er : Int} {e : Ending} {w' : World} (h : TelP w1 k g xs b s er e w') (hb : Below w.heap.size w w1) : TelP w k g xs b s er e w' := by
  obtain ⟨A, n, c, h1, h2, h3⟩ := h
  exact ⟨A, n, c, h1, h2, hb.trans (h3.mono hb.size)⟩
theorem light_num {w : World} {g g' : Bool} {A A' : Option Addr} {n c n' c' : Nat} {xs xs' : List Nat} (h1 : Sl w A n c xs) (h2 : Sl w A' n' c' xs') :
    Calls Tryz.prog 6 #[.slice (some ⟨w.heap.size, 0, none⟩) 2 2] (w.alloc (.cells #[.int .i64 1, .bool g, .slice A n c, .bool false, .string ⟨#[]⟩, .slice none 0 0, .slice none 0 0, .int .i64 1, .bool g', .slice A' n' c', .bool false, .string ⟨#[]⟩, .slice none 0 0, .slice none 0 0] 29)) fun e w' => e = .returned (.bool (decide (n ≤ 66 ∧ n' ≤ 66))) ∧ Below w.heap.size w w' := by
  refine (light_two h1 h2 (by decide) (by decide)).mono ?_
  rintro e w' ⟨rfl, h⟩
  refine ⟨?_, h⟩
  congr 2
  have e : decide ((⟨#[]⟩ : ByteArray).size ≤ 1100) = true := by decide
  rw [e, Bool.and_true, Bool.and_true]
  simp
theorem row3_new (x y z : LT) (w : World) : RowAt (w.alloc (.cells #[.int .i64 x.k, .bool x.g, .slice x.la x.ln x.lc, .bool x.bb, .string x.s, .slice x.ia x.items.length x.ic, .slice x.ta x.tail.length x.tc, .int .i64 y.k, .bool y.g, .slice y.la y.ln y.lc, .bool y.bb, .string y.s, .slice y.ia y.items.length y.ic, .slice y.ta y.tail.length y.tc, .int .i64 z.k, .bool z.g, .slice z.la z.ln z.lc, .bool z.bb, .string z.s, .slice z.ia z.items.length z.ic, .slice z.ta z.tail.length z.tc] 29)) w.heap.size 0 [x, y, z] := by
  have h := heap_alloc_new w (.cells #[.int .i64 x.k, .bool x.g, .slice x.la x.ln x.lc, .bool x.bb, .string x.s, .slice x.ia x.items.length x.ic, .slice x.ta x.tail.length x.tc, .int .i64 y.k, .bool y.g, .slice y.la y.ln y.lc, .bool y.bb, .string y.s, .slice y.ia y.items.length y.ic, .slice y.ta y.tail.length y.tc, .int .i64 z.k, .bool z.g, .slice z.la z.ln z.lc, .bool z.bb, .string z.s, .slice z.ia z.items.length z.ic, .slice z.ta z.tail.length z.tc] 29)
  refine ⟨by rw [World.size_alloc]; omega, fun k hk j v hj => ?_⟩
  rw [Lib.cell_of_heap h]
  have hk2 : k < 3 := by simpa using hk
  have hj7 : j < 7 := by
    have := (List.getElem?_eq_some_iff.1 hj).1
    simpa [LT.cells] using this
  rcases k with _ | _ | _ | k
  · rcases j with _ | _ | _ | _ | _ | _ | _ | j <;> first | (exfalso; omega) | (simp [LT.cells] at hj; subst hj; simp)
  · rcases j with _ | _ | _ | _ | _ | _ | _ | j <;> first | (exfalso; omega) | (simp [LT.cells] at hj; subst hj; simp)
  · rcases j with _ | _ | _ | _ | _ | _ | _ | j <;> first | (exfalso; omega) | (simp [LT.cells] at hj; subst hj; simp)
  · omega
/-- How many of the first k are true. -/
def cntB (l : List LT) (k : Nat) : Nat := ((l.take k).filter (fun t => t.bb)).length
theorem cntB_step (l : List LT) (k : Nat) (h : k < l.length) : cntB l (k + 1) = cntB l k + (if l[k].bb then 1 else 0) := by
  unfold cntB
  rw [List.take_add_one, List.getElem?_eq_getElem h, List.filter_append, List.length_append]
  congr 1
  cases hb : l[k].bb <;> simp [hb]
theorem cntB_le (l : List LT) (k : Nat) : cntB l k ≤ k := by
  unfold cntB
  exact Nat.le_trans (List.length_filter_le _ _) (by rw [List.length_take]; omega)
theorem eqB_num {g g' : Bool} {A A' : Option Addr} {n n' c c' : Nat} {xs xs' : List Nat} {r : Bool} (hr : r = true ↔ zOf g (val xs) = zOf g' (val xs')) : eqB (plainT 1 g A n c xs false ⟨#[]⟩) (plainT 1 g' A' n' c' xs' false ⟨#[]⟩) = r := by
  unfold eqB
  rw [if_neg (by simp [plainT, LT.k]), if_neg (by simp [plainT, LT.k]), if_pos (by simp [plainT, LT.k]), Bool.eq_iff_iff, sameB_plain, hr]
  simp
theorem eq_nums {w : World} {g g' : Bool} {A A' : Option Addr} {n n' c c' : Nat} {xs xs' : List Nat} {r : Bool} (h1 : Sl w A n c xs) (h2 : Sl w A' n' c' xs') (hn : n ≤ 1000) (hn' : n' ≤ 1000) (hr : r = true ↔ zOf g (val xs) = zOf g' (val xs')) :
    Calls Tryz.prog 19 #[.agg #[.int .i64 1, .bool g, .slice A n c, .bool false, .string ⟨#[]⟩, .slice none 0 0, .slice none 0 0], .agg #[.int .i64 1, .bool g', .slice A' n' c', .bool false, .string ⟨#[]⟩, .slice none 0 0, .slice none 0 0]] w fun e w' => e = .returned (.bool r) ∧ Below w.heap.size w w' := by
  have h := eq_any w.heap.size (plainT 1 g A n c xs false ⟨#[]⟩) (plainT 1 g' A' n' c' xs' false ⟨#[]⟩) (by rw [(plain_size ..).1]; decide) (by rw [(plain_size ..).2]; decide) (by rw [(plain_size ..).1]; decide) (by rw [(plain_size ..).2]; decide) (plain_tame (by omega)) (plain_tame (by omega)) w (Nat.le_refl _) (plain_held h1 (by decide)) (plain_held h2 (by decide))
  rw [eqB_num hr] at h
  exact h
theorem order_cases (a b : Int) : ∃ r1 r2 r3, decide (cmpZ a b < 0) = r1 ∧ decide (cmpZ a b = 0) = r2 ∧ decide (cmpZ b a < 0) = r3 ∧ ((r1 = true ∧ r2 = false ∧ r3 = false ∧ a ≠ b) ∨ (r1 = false ∧ r2 = true ∧ r3 = false ∧ a = b) ∨ (r1 = false ∧ r2 = false ∧ r3 = true ∧ a ≠ b)) := by
  refine ⟨_, _, _, rfl, rfl, rfl, ?_⟩
  unfold cmpZ
  rcases (show a < b ∨ a = b ∨ b < a by omega) with h | h | h
  · left; simp [h]; omega
  · right; left; subst h; simp
  · right; right; simp [h]; omega
section
variable {w : World} {s0 s1 : Bool} {a0 a1 : Option Addr} {l0 l1 c0 c1 : Nat} {y0 y1 : List Nat}
theorem less_row (h0 : Sl w a0 l0 c0 y0) (h1 : Sl w a1 l1 c1 y1) (n0 : l0 ≤ 1000) (n1 : l1 ≤ 1000) : Calls Tryz.prog 8 #[.int .i64 8, .slice (some ⟨w.heap.size, 0, none⟩) 2 2] (w.alloc (.cells #[.int .i64 1, .bool s0, .slice a0 l0 c0, .bool false, .string ⟨#[]⟩, .slice none 0 0, .slice none 0 0, .int .i64 1, .bool s1, .slice a1 l1 c1, .bool false, .string ⟨#[]⟩, .slice none 0 0, .slice none 0 0] 29)) (TelP w 2 false [] (decide (cmpZ (zOf s0 (val y0)) (zOf s1 (val y1)) < 0)) ⟨#[]⟩ 0) := by
  have hb : Below w.heap.size w (w.alloc (.cells #[.int .i64 1, .bool s0, .slice a0 l0 c0, .bool false, .string ⟨#[]⟩, .slice none 0 0, .slice none 0 0, .int .i64 1, .bool s1, .slice a1 l1 c1, .bool false, .string ⟨#[]⟩, .slice none 0 0, .slice none 0 0] 29)) := (Below.refl _ _).alloc (Nat.le_refl _) _
  have h := do_less (c := 2) (K := 1000) (L := 1000) (wh_plain (k := 1) (b := false) (s := ⟨#[]⟩) (h0.below hb) rfl n0) (wh_plain (k := 1) (b := false) (s := ⟨#[]⟩) (h1.below hb) rfl n1) (by decide) (by decide) (row2_new (plainT 1 s0 a0 l0 c0 y0 false ⟨#[]⟩) (plainT 1 s1 a1 l1 c1 y1 false ⟨#[]⟩) w)
  exact h.mono fun e w' he => TelP.from_ (show TelP _ 2 false [] _ ⟨#[]⟩ 0 e w' from he) hb
theorem eq_row (h0 : Sl w a0 l0 c0 y0) (h1 : Sl w a1 l1 c1 y1) (n0 : l0 ≤ 1000) (n1 : l1 ≤ 1000) : Calls Tryz.prog 8 #[.int .i64 7, .slice (some ⟨w.heap.size, 0, none⟩) 2 2] (w.alloc (.cells #[.int .i64 1, .bool s0, .slice a0 l0 c0, .bool false, .string ⟨#[]⟩, .slice none 0 0, .slice none 0 0, .int .i64 1, .bool s1, .slice a1 l1 c1, .bool false, .string ⟨#[]⟩, .slice none 0 0, .slice none 0 0] 29)) (TelP w 2 false [] (decide (cmpZ (zOf s0 (val y0)) (zOf s1 (val y1)) = 0)) ⟨#[]⟩ 0) := by
  have hb : Below w.heap.size w (w.alloc (.cells #[.int .i64 1, .bool s0, .slice a0 l0 c0, .bool false, .string ⟨#[]⟩, .slice none 0 0, .slice none 0 0, .int .i64 1, .bool s1, .slice a1 l1 c1, .bool false, .string ⟨#[]⟩, .slice none 0 0, .slice none 0 0] 29)) := (Below.refl _ _).alloc (Nat.le_refl _) _
  have h := do_eq (c := 2) (K := 1000) (L := 1000) (wh_plain (k := 1) (b := false) (s := ⟨#[]⟩) (h0.below hb) rfl n0) (wh_plain (k := 1) (b := false) (s := ⟨#[]⟩) (h1.below hb) rfl n1) (by decide) (by decide) (row2_new (plainT 1 s0 a0 l0 c0 y0 false ⟨#[]⟩) (plainT 1 s1 a1 l1 c1 y1 false ⟨#[]⟩) w)
  exact h.mono fun e w' he => TelP.from_ (show TelP _ 2 false [] _ ⟨#[]⟩ 0 e w' from he) hb
theorem add_row (h0 : Sl w a0 l0 c0 y0) (h1 : Sl w a1 l1 c1 y1) (n0 : l0 ≤ 1000) (n1 : l1 ≤ 1000) (hz : (zOf s0 (val y0) + zOf s1 (val y1)).natAbs < 4294967296 ^ 64) : Calls Tryz.prog 8 #[.int .i64 1, .slice (some ⟨w.heap.size, 0, none⟩) 2 2] (w.alloc (.cells #[.int .i64 1, .bool s0, .slice a0 l0 c0, .bool false, .string ⟨#[]⟩, .slice none 0 0, .slice none 0 0, .int .i64 1, .bool s1, .slice a1 l1 c1, .bool false, .string ⟨#[]⟩, .slice none 0 0, .slice none 0 0] 29)) (TelP w 1 (decide (zOf s0 (val y0) + zOf s1 (val y1) < 0)) (limbs (zOf s0 (val y0) + zOf s1 (val y1)).natAbs) false ⟨#[]⟩ 0) := by
  have hb : Below w.heap.size w (w.alloc (.cells #[.int .i64 1, .bool s0, .slice a0 l0 c0, .bool false, .string ⟨#[]⟩, .slice none 0 0, .slice none 0 0, .int .i64 1, .bool s1, .slice a1 l1 c1, .bool false, .string ⟨#[]⟩, .slice none 0 0, .slice none 0 0] 29)) := (Below.refl _ _).alloc (Nat.le_refl _) _
  have h := do_add (c := 2) (K := 1000) (L := 1000) (wh_plain (k := 1) (b := false) (s := ⟨#[]⟩) (h0.below hb) rfl n0) (wh_plain (k := 1) (b := false) (s := ⟨#[]⟩) (h1.below hb) rfl n1) (by decide) (by decide) (row2_new (plainT 1 s0 a0 l0 c0 y0 false ⟨#[]⟩) (plainT 1 s1 a1 l1 c1 y1 false ⟨#[]⟩) w)
  have hA : arithA (plainT 1 s0 a0 l0 c0 y0 false ⟨#[]⟩).k (plainT 1 s1 a1 l1 c1 y1 false ⟨#[]⟩).k (zOf s0 (val y0) + zOf s1 (val y1)) 0 = numA (zOf s0 (val y0) + zOf s1 (val y1)) := arith_ok hz
  rw [hA] at h
  exact h.mono fun e w' he => TelP.from_ (show TelP _ 1 _ _ false ⟨#[]⟩ 0 e w' from he) hb
theorem sub_row (h0 : Sl w a0 l0 c0 y0) (h1 : Sl w a1 l1 c1 y1) (n0 : l0 ≤ 1000) (n1 : l1 ≤ 1000) (hz : (zOf s0 (val y0) - zOf s1 (val y1)).natAbs < 4294967296 ^ 64) : Calls Tryz.prog 8 #[.int .i64 2, .slice (some ⟨w.heap.size, 0, none⟩) 2 2] (w.alloc (.cells #[.int .i64 1, .bool s0, .slice a0 l0 c0, .bool false, .string ⟨#[]⟩, .slice none 0 0, .slice none 0 0, .int .i64 1, .bool s1, .slice a1 l1 c1, .bool false, .string ⟨#[]⟩, .slice none 0 0, .slice none 0 0] 29)) (TelP w 1 (decide (zOf s0 (val y0) - zOf s1 (val y1) < 0)) (limbs (zOf s0 (val y0) - zOf s1 (val y1)).natAbs) false ⟨#[]⟩ 0) := by
  have hb : Below w.heap.size w (w.alloc (.cells #[.int .i64 1, .bool s0, .slice a0 l0 c0, .bool false, .string ⟨#[]⟩, .slice none 0 0, .slice none 0 0, .int .i64 1, .bool s1, .slice a1 l1 c1, .bool false, .string ⟨#[]⟩, .slice none 0 0, .slice none 0 0] 29)) := (Below.refl _ _).alloc (Nat.le_refl _) _
  have h := do_sub (c := 2) (K := 1000) (L := 1000) (wh_plain (k := 1) (b := false) (s := ⟨#[]⟩) (h0.below hb) rfl n0) (wh_plain (k := 1) (b := false) (s := ⟨#[]⟩) (h1.below hb) rfl n1) (by decide) (by decide) (row2_new (plainT 1 s0 a0 l0 c0 y0 false ⟨#[]⟩) (plainT 1 s1 a1 l1 c1 y1 false ⟨#[]⟩) w)
  have hA : arithA (plainT 1 s0 a0 l0 c0 y0 false ⟨#[]⟩).k (plainT 1 s1 a1 l1 c1 y1 false ⟨#[]⟩).k (zOf s0 (val y0) - zOf s1 (val y1)) 0 = numA (zOf s0 (val y0) - zOf s1 (val y1)) := arith_ok hz
  rw [hA] at h
  exact h.mono fun e w' he => TelP.from_ (show TelP _ 1 _ _ false ⟨#[]⟩ 0 e w' from he) hb
theorem mul_row (h0 : Sl w a0 l0 c0 y0) (h1 : Sl w a1 l1 c1 y1) (n0 : l0 ≤ 1000) (n1 : l1 ≤ 1000) (hz : (zOf s0 (val y0) * zOf s1 (val y1)).natAbs < 4294967296 ^ 64) : Calls Tryz.prog 8 #[.int .i64 3, .slice (some ⟨w.heap.size, 0, none⟩) 2 2] (w.alloc (.cells #[.int .i64 1, .bool s0, .slice a0 l0 c0, .bool false, .string ⟨#[]⟩, .slice none 0 0, .slice none 0 0, .int .i64 1, .bool s1, .slice a1 l1 c1, .bool false, .string ⟨#[]⟩, .slice none 0 0, .slice none 0 0] 29)) (TelP w 1 (decide (zOf s0 (val y0) * zOf s1 (val y1) < 0)) (limbs (zOf s0 (val y0) * zOf s1 (val y1)).natAbs) false ⟨#[]⟩ 0) := by
  have hb : Below w.heap.size w (w.alloc (.cells #[.int .i64 1, .bool s0, .slice a0 l0 c0, .bool false, .string ⟨#[]⟩, .slice none 0 0, .slice none 0 0, .int .i64 1, .bool s1, .slice a1 l1 c1, .bool false, .string ⟨#[]⟩, .slice none 0 0, .slice none 0 0] 29)) := (Below.refl _ _).alloc (Nat.le_refl _) _
  have h := do_mul (c := 2) (K := 1000) (L := 1000) (wh_plain (k := 1) (b := false) (s := ⟨#[]⟩) (h0.below hb) rfl n0) (wh_plain (k := 1) (b := false) (s := ⟨#[]⟩) (h1.below hb) rfl n1) (by decide) (by decide) (row2_new (plainT 1 s0 a0 l0 c0 y0 false ⟨#[]⟩) (plainT 1 s1 a1 l1 c1 y1 false ⟨#[]⟩) w)
  have hA : arithA (plainT 1 s0 a0 l0 c0 y0 false ⟨#[]⟩).k (plainT 1 s1 a1 l1 c1 y1 false ⟨#[]⟩).k (zOf s0 (val y0) * zOf s1 (val y1)) 0 = numA (zOf s0 (val y0) * zOf s1 (val y1)) := arith_ok hz
  rw [hA] at h
  exact h.mono fun e w' he => TelP.from_ (show TelP _ 1 _ _ false ⟨#[]⟩ 0 e w' from he) hb
theorem quo_row (h0 : Sl w a0 l0 c0 y0) (h1 : Sl w a1 l1 c1 y1) (n0 : l0 ≤ 1000) (n1 : l1 ≤ 1000) (hz : (quoQ (zOf s0 (val y0)) (zOf s1 (val y1))).natAbs < 4294967296 ^ 64) (hne : zOf s1 (val y1) ≠ 0) : Calls Tryz.prog 8 #[.int .i64 4, .slice (some ⟨w.heap.size, 0, none⟩) 2 2] (w.alloc (.cells #[.int .i64 1, .bool s0, .slice a0 l0 c0, .bool false, .string ⟨#[]⟩, .slice none 0 0, .slice none 0 0, .int .i64 1, .bool s1, .slice a1 l1 c1, .bool false, .string ⟨#[]⟩, .slice none 0 0, .slice none 0 0] 29)) (TelP w 1 (decide (quoQ (zOf s0 (val y0)) (zOf s1 (val y1)) < 0)) (limbs (quoQ (zOf s0 (val y0)) (zOf s1 (val y1))).natAbs) false ⟨#[]⟩ 0) := by
  have hb : Below w.heap.size w (w.alloc (.cells #[.int .i64 1, .bool s0, .slice a0 l0 c0, .bool false, .string ⟨#[]⟩, .slice none 0 0, .slice none 0 0, .int .i64 1, .bool s1, .slice a1 l1 c1, .bool false, .string ⟨#[]⟩, .slice none 0 0, .slice none 0 0] 29)) := (Below.refl _ _).alloc (Nat.le_refl _) _
  have h := do_quo (c := 2) (K := 1000) (L := 1000) (wh_plain (k := 1) (b := false) (s := ⟨#[]⟩) (h0.below hb) rfl n0) (wh_plain (k := 1) (b := false) (s := ⟨#[]⟩) (h1.below hb) rfl n1) (by decide) (by decide) (row2_new (plainT 1 s0 a0 l0 c0 y0 false ⟨#[]⟩) (plainT 1 s1 a1 l1 c1 y1 false ⟨#[]⟩) w)
  rw [show quoE (zOf s1 (val y1)) = 0 from if_neg hne] at h
  have hA : arithA (plainT 1 s0 a0 l0 c0 y0 false ⟨#[]⟩).k (plainT 1 s1 a1 l1 c1 y1 false ⟨#[]⟩).k (quoQ (zOf s0 (val y0)) (zOf s1 (val y1))) 0 = numA (quoQ (zOf s0 (val y0)) (zOf s1 (val y1))) := arith_ok hz
  rw [hA] at h
  exact h.mono fun e w' he => TelP.from_ (show TelP _ 1 _ _ false ⟨#[]⟩ 0 e w' from he) hb
theorem quo0_row (h0 : Sl w a0 l0 c0 y0) (h1 : Sl w a1 l1 c1 y1) (n0 : l0 ≤ 1000) (n1 : l1 ≤ 1000) (hne : zOf s1 (val y1) = 0) : Calls Tryz.prog 8 #[.int .i64 4, .slice (some ⟨w.heap.size, 0, none⟩) 2 2] (w.alloc (.cells #[.int .i64 1, .bool s0, .slice a0 l0 c0, .bool false, .string ⟨#[]⟩, .slice none 0 0, .slice none 0 0, .int .i64 1, .bool s1, .slice a1 l1 c1, .bool false, .string ⟨#[]⟩, .slice none 0 0, .slice none 0 0] 29)) (TelP w 0 false [] false ⟨#[]⟩ 3) := by
  have hb : Below w.heap.size w (w.alloc (.cells #[.int .i64 1, .bool s0, .slice a0 l0 c0, .bool false, .string ⟨#[]⟩, .slice none 0 0, .slice none 0 0, .int .i64 1, .bool s1, .slice a1 l1 c1, .bool false, .string ⟨#[]⟩, .slice none 0 0, .slice none 0 0] 29)) := (Below.refl _ _).alloc (Nat.le_refl _) _
  have h := do_quo (c := 2) (K := 1000) (L := 1000) (wh_plain (k := 1) (b := false) (s := ⟨#[]⟩) (h0.below hb) rfl n0) (wh_plain (k := 1) (b := false) (s := ⟨#[]⟩) (h1.below hb) rfl n1) (by decide) (by decide) (row2_new (plainT 1 s0 a0 l0 c0 y0 false ⟨#[]⟩) (plainT 1 s1 a1 l1 c1 y1 false ⟨#[]⟩) w)
  rw [show quoE (zOf s1 (val y1)) = 3 from if_pos hne] at h
  have hA : arithA (plainT 1 s0 a0 l0 c0 y0 false ⟨#[]⟩).k (plainT 1 s1 a1 l1 c1 y1 false ⟨#[]⟩).k (quoQ (zOf s0 (val y0)) (zOf s1 (val y1))) 3 = errA 3 := arith_er (by decide)
  rw [hA] at h
  exact h.mono fun e w' he => TelP.from_ (show TelP _ 0 false [] false ⟨#[]⟩ 3 e w' from he) hb
theorem rem_row (h0 : Sl w a0 l0 c0 y0) (h1 : Sl w a1 l1 c1 y1) (n0 : l0 ≤ 1000) (n1 : l1 ≤ 1000) (hz : (quoR (zOf s0 (val y0)) (zOf s1 (val y1))).natAbs < 4294967296 ^ 64) (hne : zOf s1 (val y1) ≠ 0) : Calls Tryz.prog 8 #[.int .i64 5, .slice (some ⟨w.heap.size, 0, none⟩) 2 2] (w.alloc (.cells #[.int .i64 1, .bool s0, .slice a0 l0 c0, .bool false, .string ⟨#[]⟩, .slice none 0 0, .slice none 0 0, .int .i64 1, .bool s1, .slice a1 l1 c1, .bool false, .string ⟨#[]⟩, .slice none 0 0, .slice none 0 0] 29)) (TelP w 1 (decide (quoR (zOf s0 (val y0)) (zOf s1 (val y1)) < 0)) (limbs (quoR (zOf s0 (val y0)) (zOf s1 (val y1))).natAbs) false ⟨#[]⟩ 0) := by
  have hb : Below w.heap.size w (w.alloc (.cells #[.int .i64 1, .bool s0, .slice a0 l0 c0, .bool false, .string ⟨#[]⟩, .slice none 0 0, .slice none 0 0, .int .i64 1, .bool s1, .slice a1 l1 c1, .bool false, .string ⟨#[]⟩, .slice none 0 0, .slice none 0 0] 29)) := (Below.refl _ _).alloc (Nat.le_refl _) _
  have h := do_rem (c := 2) (K := 1000) (L := 1000) (wh_plain (k := 1) (b := false) (s := ⟨#[]⟩) (h0.below hb) rfl n0) (wh_plain (k := 1) (b := false) (s := ⟨#[]⟩) (h1.below hb) rfl n1) (by decide) (by decide) (row2_new (plainT 1 s0 a0 l0 c0 y0 false ⟨#[]⟩) (plainT 1 s1 a1 l1 c1 y1 false ⟨#[]⟩) w)
  rw [show quoE (zOf s1 (val y1)) = 0 from if_neg hne] at h
  have hA : arithA (plainT 1 s0 a0 l0 c0 y0 false ⟨#[]⟩).k (plainT 1 s1 a1 l1 c1 y1 false ⟨#[]⟩).k (quoR (zOf s0 (val y0)) (zOf s1 (val y1))) 0 = numA (quoR (zOf s0 (val y0)) (zOf s1 (val y1))) := arith_ok hz
  rw [hA] at h
  exact h.mono fun e w' he => TelP.from_ (show TelP _ 1 _ _ false ⟨#[]⟩ 0 e w' from he) hb
theorem rem0_row (h0 : Sl w a0 l0 c0 y0) (h1 : Sl w a1 l1 c1 y1) (n0 : l0 ≤ 1000) (n1 : l1 ≤ 1000) (hne : zOf s1 (val y1) = 0) : Calls Tryz.prog 8 #[.int .i64 5, .slice (some ⟨w.heap.size, 0, none⟩) 2 2] (w.alloc (.cells #[.int .i64 1, .bool s0, .slice a0 l0 c0, .bool false, .string ⟨#[]⟩, .slice none 0 0, .slice none 0 0, .int .i64 1, .bool s1, .slice a1 l1 c1, .bool false, .string ⟨#[]⟩, .slice none 0 0, .slice none 0 0] 29)) (TelP w 0 false [] false ⟨#[]⟩ 3) := by
  have hb : Below w.heap.size w (w.alloc (.cells #[.int .i64 1, .bool s0, .slice a0 l0 c0, .bool false, .string ⟨#[]⟩, .slice none 0 0, .slice none 0 0, .int .i64 1, .bool s1, .slice a1 l1 c1, .bool false, .string ⟨#[]⟩, .slice none 0 0, .slice none 0 0] 29)) := (Below.refl _ _).alloc (Nat.le_refl _) _
  have h := do_rem (c := 2) (K := 1000) (L := 1000) (wh_plain (k := 1) (b := false) (s := ⟨#[]⟩) (h0.below hb) rfl n0) (wh_plain (k := 1) (b := false) (s := ⟨#[]⟩) (h1.below hb) rfl n1) (by decide) (by decide) (row2_new (plainT 1 s0 a0 l0 c0 y0 false ⟨#[]⟩) (plainT 1 s1 a1 l1 c1 y1 false ⟨#[]⟩) w)
  rw [show quoE (zOf s1 (val y1)) = 3 from if_pos hne] at h
  have hA : arithA (plainT 1 s0 a0 l0 c0 y0 false ⟨#[]⟩).k (plainT 1 s1 a1 l1 c1 y1 false ⟨#[]⟩).k (quoR (zOf s0 (val y0)) (zOf s1 (val y1))) 3 = errA 3 := arith_er (by decide)
  rw [hA] at h
  exact h.mono fun e w' he => TelP.from_ (show TelP _ 0 false [] false ⟨#[]⟩ 3 e w' from he) hb
end
end
end Go.Proofs.YtocnlapbkidinaaGreatDoor
