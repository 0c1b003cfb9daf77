/-
  What prim.Do tells of any row of data; it is as it must be.
-/
import Derived.Test.YtocnlapbkidinaaGreatDoorQPga
import Derived.Test.YtocnlapbkidinaaGreatDoorQGop
import Derived.Test.YtocnlapbkidinaaGreatDoorQPrt
set_option linter.unusedVariables false
set_option linter.unusedSimpArgs false
set_option linter.unusedSectionVars false
set_option linter.unnecessarySimpa false
namespace Go.Proofs.YtocnlapbkidinaaGreatDoor
open Go.RowKit
set_option maxRecDepth 100000

/-- A datum's number. -/
def zT (x : LT) : Int := zOf x.g (val x.ys)
/-- A number's text. -/
def txA (z : Int) : ByteArray := ⟨(wtxt z).toArray⟩
theorem txA_told {K : Nat} {z : Int} (hK : K ≤ 1000000) (W : World) (u : Value) (hu : Wh W u z K) : Calls Tryz.prog 67 #[u] W fun e w' => e = .returned (.string (txA z)) ∧ Below W.heap.size W w' := by
  refine (wtext_num hu hK).mono ?_
  rintro e w' ⟨t, rfl, ht, hb⟩
  exact ⟨by rw [Go.WideShapes.bytes_inj (a := t) (b := txA z) (by rw [ht]; rfl)], hb⟩
/-- What a primitive tells of one (x, with y as anything) or of two. -/
noncomputable def ansA (p : Int) (x y : LT) : Ans :=
  if p = 1 then arithA x.k y.k (zT x + zT y) 0 else
  if p = 2 then arithA x.k y.k (zT x - zT y) 0 else
  if p = 3 then arithA x.k y.k (zT x * zT y) 0 else
  if p = 4 then arithA x.k y.k (quoQ (zT x) (zT y)) (quoE (zT y)) else
  if p = 5 then arithA x.k y.k (quoR (zT x) (zT y)) (quoE (zT y)) else
  if p = 6 then arithA x.k y.k (flR (zT x) (zT y)) (quoE (zT y)) else
  if p = 7 then orderA x.k y.k (decide (cmpZ (zT x) (zT y) = 0)) else
  if p = 8 then orderA x.k y.k (decide (cmpZ (zT x) (zT y) < 0)) else
  if p = 14 then boolA (decide (x.k = 5) && decide (x.items.length = 0)) else
  if p = 15 then boolA (decide (x.k = 5) && decide (0 < x.items.length)) else
  if p = 16 then boolA (decide (x.k = 1)) else
  if p = 17 then boolA (decide (x.k = 3)) else
  if p = 18 then boolA (decide (x.k = 4)) else
  if p = 19 then boolA (decide (x.k = 2)) else
  if p = 21 then boolA (eqB x y) else
  if p = 22 then boolA (decide (x.k = 2) && !x.bb) else
  if p = 23 then lenA x.k x.s else
  if p = 24 then joinA x.k y.k x.s y.s else
  if p = 25 then sameA x.k y.k (x.s.toList == y.s.toList) else
  if p = 26 then symA x.k x.s else
  textA x.k (txA (zT x))
theorem ans_1 (x y : LT) : ansA 1 x y = arithA x.k y.k (zT x + zT y) 0 := by
  unfold ansA
  rw [if_pos rfl]
theorem ans_2 (x y : LT) : ansA 2 x y = arithA x.k y.k (zT x - zT y) 0 := by
  unfold ansA
  rw [if_neg (by decide)]
  rw [if_pos rfl]
theorem ans_3 (x y : LT) : ansA 3 x y = arithA x.k y.k (zT x * zT y) 0 := by
  unfold ansA
  rw [if_neg (by decide)]
  rw [if_neg (by decide)]
  rw [if_pos rfl]
theorem ans_4 (x y : LT) : ansA 4 x y = arithA x.k y.k (quoQ (zT x) (zT y)) (quoE (zT y)) := by
  unfold ansA
  rw [if_neg (by decide)]
  rw [if_neg (by decide)]
  rw [if_neg (by decide)]
  rw [if_pos rfl]
theorem ans_5 (x y : LT) : ansA 5 x y = arithA x.k y.k (quoR (zT x) (zT y)) (quoE (zT y)) := by
  unfold ansA
  rw [if_neg (by decide)]
  rw [if_neg (by decide)]
  rw [if_neg (by decide)]
  rw [if_neg (by decide)]
  rw [if_pos rfl]
theorem ans_6 (x y : LT) : ansA 6 x y = arithA x.k y.k (flR (zT x) (zT y)) (quoE (zT y)) := by
  unfold ansA
  rw [if_neg (by decide)]
  rw [if_neg (by decide)]
  rw [if_neg (by decide)]
  rw [if_neg (by decide)]
  rw [if_neg (by decide)]
  rw [if_pos rfl]
theorem ans_7 (x y : LT) : ansA 7 x y = orderA x.k y.k (decide (cmpZ (zT x) (zT y) = 0)) := by
  unfold ansA
  rw [if_neg (by decide)]
  rw [if_neg (by decide)]
  rw [if_neg (by decide)]
  rw [if_neg (by decide)]
  rw [if_neg (by decide)]
  rw [if_neg (by decide)]
  rw [if_pos rfl]
theorem ans_8 (x y : LT) : ansA 8 x y = orderA x.k y.k (decide (cmpZ (zT x) (zT y) < 0)) := by
  unfold ansA
  rw [if_neg (by decide)]
  rw [if_neg (by decide)]
  rw [if_neg (by decide)]
  rw [if_neg (by decide)]
  rw [if_neg (by decide)]
  rw [if_neg (by decide)]
  rw [if_neg (by decide)]
  rw [if_pos rfl]
theorem ans_14 (x y : LT) : ansA 14 x y = boolA (decide (x.k = 5) && decide (x.items.length = 0)) := by
  unfold ansA
  rw [if_neg (by decide)]
  rw [if_neg (by decide)]
  rw [if_neg (by decide)]
  rw [if_neg (by decide)]
  rw [if_neg (by decide)]
  rw [if_neg (by decide)]
  rw [if_neg (by decide)]
  rw [if_neg (by decide)]
  rw [if_pos rfl]
theorem ans_15 (x y : LT) : ansA 15 x y = boolA (decide (x.k = 5) && decide (0 < x.items.length)) := by
  unfold ansA
  rw [if_neg (by decide)]
  rw [if_neg (by decide)]
  rw [if_neg (by decide)]
  rw [if_neg (by decide)]
  rw [if_neg (by decide)]
  rw [if_neg (by decide)]
  rw [if_neg (by decide)]
  rw [if_neg (by decide)]
  rw [if_neg (by decide)]
  rw [if_pos rfl]
theorem ans_16 (x y : LT) : ansA 16 x y = boolA (decide (x.k = 1)) := by
  unfold ansA
  rw [if_neg (by decide)]
  rw [if_neg (by decide)]
  rw [if_neg (by decide)]
  rw [if_neg (by decide)]
  rw [if_neg (by decide)]
  rw [if_neg (by decide)]
  rw [if_neg (by decide)]
  rw [if_neg (by decide)]
  rw [if_neg (by decide)]
  rw [if_neg (by decide)]
  rw [if_pos rfl]
theorem ans_17 (x y : LT) : ansA 17 x y = boolA (decide (x.k = 3)) := by
  unfold ansA
  rw [if_neg (by decide)]
  rw [if_neg (by decide)]
  rw [if_neg (by decide)]
  rw [if_neg (by decide)]
  rw [if_neg (by decide)]
  rw [if_neg (by decide)]
  rw [if_neg (by decide)]
  rw [if_neg (by decide)]
  rw [if_neg (by decide)]
  rw [if_neg (by decide)]
  rw [if_neg (by decide)]
  rw [if_pos rfl]
theorem ans_18 (x y : LT) : ansA 18 x y = boolA (decide (x.k = 4)) := by
  unfold ansA
  rw [if_neg (by decide)]
  rw [if_neg (by decide)]
  rw [if_neg (by decide)]
  rw [if_neg (by decide)]
  rw [if_neg (by decide)]
  rw [if_neg (by decide)]
  rw [if_neg (by decide)]
  rw [if_neg (by decide)]
  rw [if_neg (by decide)]
  rw [if_neg (by decide)]
  rw [if_neg (by decide)]
  rw [if_neg (by decide)]
  rw [if_pos rfl]
theorem ans_19 (x y : LT) : ansA 19 x y = boolA (decide (x.k = 2)) := by
  unfold ansA
  rw [if_neg (by decide)]
  rw [if_neg (by decide)]
  rw [if_neg (by decide)]
  rw [if_neg (by decide)]
  rw [if_neg (by decide)]
  rw [if_neg (by decide)]
  rw [if_neg (by decide)]
  rw [if_neg (by decide)]
  rw [if_neg (by decide)]
  rw [if_neg (by decide)]
  rw [if_neg (by decide)]
  rw [if_neg (by decide)]
  rw [if_neg (by decide)]
  rw [if_pos rfl]
theorem ans_21 (x y : LT) : ansA 21 x y = boolA (eqB x y) := by
  unfold ansA
  rw [if_neg (by decide)]
  rw [if_neg (by decide)]
  rw [if_neg (by decide)]
  rw [if_neg (by decide)]
  rw [if_neg (by decide)]
  rw [if_neg (by decide)]
  rw [if_neg (by decide)]
  rw [if_neg (by decide)]
  rw [if_neg (by decide)]
  rw [if_neg (by decide)]
  rw [if_neg (by decide)]
  rw [if_neg (by decide)]
  rw [if_neg (by decide)]
  rw [if_neg (by decide)]
  rw [if_pos rfl]
theorem ans_22 (x y : LT) : ansA 22 x y = boolA (decide (x.k = 2) && !x.bb) := by
  unfold ansA
  rw [if_neg (by decide)]
  rw [if_neg (by decide)]
  rw [if_neg (by decide)]
  rw [if_neg (by decide)]
  rw [if_neg (by decide)]
  rw [if_neg (by decide)]
  rw [if_neg (by decide)]
  rw [if_neg (by decide)]
  rw [if_neg (by decide)]
  rw [if_neg (by decide)]
  rw [if_neg (by decide)]
  rw [if_neg (by decide)]
  rw [if_neg (by decide)]
  rw [if_neg (by decide)]
  rw [if_neg (by decide)]
  rw [if_pos rfl]
theorem ans_23 (x y : LT) : ansA 23 x y = lenA x.k x.s := by
  unfold ansA
  rw [if_neg (by decide)]
  rw [if_neg (by decide)]
  rw [if_neg (by decide)]
  rw [if_neg (by decide)]
  rw [if_neg (by decide)]
  rw [if_neg (by decide)]
  rw [if_neg (by decide)]
  rw [if_neg (by decide)]
  rw [if_neg (by decide)]
  rw [if_neg (by decide)]
  rw [if_neg (by decide)]
  rw [if_neg (by decide)]
  rw [if_neg (by decide)]
  rw [if_neg (by decide)]
  rw [if_neg (by decide)]
  rw [if_neg (by decide)]
  rw [if_pos rfl]
theorem ans_24 (x y : LT) : ansA 24 x y = joinA x.k y.k x.s y.s := by
  unfold ansA
  rw [if_neg (by decide)]
  rw [if_neg (by decide)]
  rw [if_neg (by decide)]
  rw [if_neg (by decide)]
  rw [if_neg (by decide)]
  rw [if_neg (by decide)]
  rw [if_neg (by decide)]
  rw [if_neg (by decide)]
  rw [if_neg (by decide)]
  rw [if_neg (by decide)]
  rw [if_neg (by decide)]
  rw [if_neg (by decide)]
  rw [if_neg (by decide)]
  rw [if_neg (by decide)]
  rw [if_neg (by decide)]
  rw [if_neg (by decide)]
  rw [if_neg (by decide)]
  rw [if_pos rfl]
theorem ans_25 (x y : LT) : ansA 25 x y = sameA x.k y.k (x.s.toList == y.s.toList) := by
  unfold ansA
  rw [if_neg (by decide)]
  rw [if_neg (by decide)]
  rw [if_neg (by decide)]
  rw [if_neg (by decide)]
  rw [if_neg (by decide)]
  rw [if_neg (by decide)]
  rw [if_neg (by decide)]
  rw [if_neg (by decide)]
  rw [if_neg (by decide)]
  rw [if_neg (by decide)]
  rw [if_neg (by decide)]
  rw [if_neg (by decide)]
  rw [if_neg (by decide)]
  rw [if_neg (by decide)]
  rw [if_neg (by decide)]
  rw [if_neg (by decide)]
  rw [if_neg (by decide)]
  rw [if_neg (by decide)]
  rw [if_pos rfl]
theorem ans_26 (x y : LT) : ansA 26 x y = symA x.k x.s := by
  unfold ansA
  rw [if_neg (by decide)]
  rw [if_neg (by decide)]
  rw [if_neg (by decide)]
  rw [if_neg (by decide)]
  rw [if_neg (by decide)]
  rw [if_neg (by decide)]
  rw [if_neg (by decide)]
  rw [if_neg (by decide)]
  rw [if_neg (by decide)]
  rw [if_neg (by decide)]
  rw [if_neg (by decide)]
  rw [if_neg (by decide)]
  rw [if_neg (by decide)]
  rw [if_neg (by decide)]
  rw [if_neg (by decide)]
  rw [if_neg (by decide)]
  rw [if_neg (by decide)]
  rw [if_neg (by decide)]
  rw [if_neg (by decide)]
  rw [if_pos rfl]
theorem ans_27 (x y : LT) : ansA 27 x y = textA x.k (txA (zT x)) := by
  unfold ansA
  rw [if_neg (by decide)]
  rw [if_neg (by decide)]
  rw [if_neg (by decide)]
  rw [if_neg (by decide)]
  rw [if_neg (by decide)]
  rw [if_neg (by decide)]
  rw [if_neg (by decide)]
  rw [if_neg (by decide)]
  rw [if_neg (by decide)]
  rw [if_neg (by decide)]
  rw [if_neg (by decide)]
  rw [if_neg (by decide)]
  rw [if_neg (by decide)]
  rw [if_neg (by decide)]
  rw [if_neg (by decide)]
  rw [if_neg (by decide)]
  rw [if_neg (by decide)]
  rw [if_neg (by decide)]
  rw [if_neg (by decide)]
  rw [if_neg (by decide)]
/-- What Do tells of a row. -/
noncomputable def doA (p : Int) (ts : List LT) : Ans :=
  if plainB p = true then (if ts.length = arB p then ansA p (ts.headD (plainT 0 false none 0 0 [] false ⟨#[]⟩)) (ts.tail.headD (plainT 0 false none 0 0 [] false ⟨#[]⟩)) else errA 8) else errA 2
theorem whole_wh {w : World} {M : Nat} {x : LT} (h : Held w M x) (hl : x.ln ≤ 66) : Wh w (intOfT x) (zT x) 66 := ⟨x.g, _, val x.ys, rfl, ⟨x.la, x.ln, x.lc, x.ys, rfl, h.1.1, rfl, hl⟩, rfl⟩
theorem light_parts {t : LT} (h : lightX t = true) : t.ln ≤ 66 ∧ t.s.size ≤ 1100 := by
  unfold lightX at h
  simp only [Bool.and_eq_true, decide_eq_true_eq] at h
  exact ⟨h.1.2, h.2⟩
theorem row_of_lies {w : World} {M : Nat} {ts : List LT} {b o : Nat} (h : LiesR w M ts b o) (hn : 0 < ts.length) (hM : M ≤ w.heap.size) : RowAt w b o ts := by
  have h0 := (lies_held.1 ((liesR_iff _ _ _).1 h 0 hn)).1
  refine ⟨by omega, fun k hk j v hj => ?_⟩
  have := (lies_held.1 ((liesR_iff _ _ _).1 h k hk)).2.1 j v hj
  rwa [Nat.mul_comm 7 k] at this
set_option maxHeartbeats 1600000 in
theorem do_all (p : Int) (M : Nat) (A : Option Addr) (c : Nat) (ts : List LT) (w : World) (hM : M ≤ w.heap.size) (hS : Spot M A ts.length c) (hL : LiesR w M ts (blk A) (ofs A)) (hl : ts.all lightX = true) (hn : ts.length ≤ 10) (hT : TameR ts) :
    Calls Tryz.prog 8 #[.int .i64 p, .slice A ts.length c] w (TelA w (doA p ts)) := by
  unfold doA
  by_cases hp : plainB p = true
  · rw [if_pos hp]
    by_cases hlen : ts.length = arB p
    · rw [if_pos hlen]
      have hpos : 0 < ts.length := by rw [hlen]; unfold arB; split <;> decide
      obtain ⟨hA, hB⟩ := hS.2.2.1 hpos
      have hR := row_of_lies hL hpos hM
      have hHeld : ∀ k (h : k < ts.length), Held w M ts[k] := fun k h => (lies_held.1 ((liesR_iff _ _ _).1 hL k h)).2.2
      rw [hA]
      generalize blk A = B at *
      generalize ofs A = o at *
      rw [List.all_eq_true] at hl
      by_cases h2 : arB p = 2
      · obtain ⟨x, y, rfl⟩ : ∃ x y, ts = [x, y] := by
          rcases ts with _ | ⟨x, _ | ⟨y, _ | ⟨z, l⟩⟩⟩
          · simp at hpos
          · simp [h2] at hlen
          · exact ⟨x, y, rfl⟩
          · simp [h2] at hlen
        have lx := light_parts (hl x (by simp))
        have ly := light_parts (hl y (by simp))
        have fx := light_few (hl x (by simp))
        have fy := light_few (hl y (by simp))
        have hx : Held w M x := hHeld 0 (by simp)
        have hy : Held w M y := hHeld 1 (by simp)
        have wx := whole_wh hx lx.1
        have wy := whole_wh hy ly.1
        simp only [TameR] at hT
        have HE : ∀ W, Below w.heap.size w W → Calls Tryz.prog 19 #[.agg #[.int .i64 x.k, .bool x.g, .slice x.la x.ln x.lc, .bool x.bb, .string x.s, .slice x.ia x.items.length x.ic, .slice x.ta x.tail.length x.tc], .agg #[.int .i64 y.k, .bool y.g, .slice y.la y.ln y.lc, .bool y.bb, .string y.s, .slice y.ia y.items.length y.ic, .slice y.ta y.tail.length y.tc]] W fun e w' => e = .returned (.bool (eqB x y)) ∧ Below W.heap.size W w' := fun W hb =>
          eq_any M x y (by omega) (by omega) (by omega) (by omega) hT.1 hT.2.1 W (Nat.le_trans hM hb.size) (hx.below hM hb) (hy.below hM hb)
        show Calls _ _ #[_, .slice _ 2 c] w (TelA w (ansA p x y))
        rcases plainB_cases hp with rfl | rfl | rfl | rfl | rfl | rfl | rfl | rfl | rfl | rfl | rfl | rfl | rfl | rfl | rfl | rfl | rfl | rfl | rfl | rfl | rfl
        · rw [ans_1]; exact do_add wx wy (by decide) (by decide) hR
        · rw [ans_2]; exact do_sub wx wy (by decide) (by decide) hR
        · rw [ans_3]; exact do_mul wx wy (by decide) (by decide) hR
        · rw [ans_4]; exact do_quo wx wy (by decide) (by decide) hR
        · rw [ans_5]; exact do_rem wx wy (by decide) (by decide) hR
        · rw [ans_6]; exact do_mod wx wy (by decide) (by decide) hR
        · rw [ans_7]; exact do_eq wx wy (by decide) (by decide) hR
        · rw [ans_8]; exact do_less wx wy (by decide) (by decide) hR
        · exact absurd h2 (by decide)
        · exact absurd h2 (by decide)
        · exact absurd h2 (by decide)
        · exact absurd h2 (by decide)
        · exact absurd h2 (by decide)
        · exact absurd h2 (by decide)
        · rw [ans_21]; exact do_eqq hR HE
        · exact absurd h2 (by decide)
        · exact absurd h2 (by decide)
        · rw [ans_24]; exact do_strapp (by omega) (by omega) hR
        · rw [ans_25]; exact do_streq rfl hR
        · exact absurd h2 (by decide)
        · exact absurd h2 (by decide)
      · obtain ⟨x, rfl⟩ : ∃ x, ts = [x] := by
          have h1 : arB p = 1 := by unfold arB at h2 ⊢; split at h2 <;> simp_all
          rcases ts with _ | ⟨x, _ | ⟨y, l⟩⟩
          · simp at hpos
          · exact ⟨x, rfl⟩
          · simp [h1] at hlen
        have lx := light_parts (hl x (by simp))
        have hx : Held w M x := hHeld 0 (by simp)
        have wx := whole_wh hx lx.1
        show Calls _ _ #[_, .slice _ 1 c] w (TelA w (ansA p x (plainT 0 false none 0 0 [] false ⟨#[]⟩)))
        rcases plainB_cases hp with rfl | rfl | rfl | rfl | rfl | rfl | rfl | rfl | rfl | rfl | rfl | rfl | rfl | rfl | rfl | rfl | rfl | rfl | rfl | rfl | rfl
        · exact absurd rfl h2
        · exact absurd rfl h2
        · exact absurd rfl h2
        · exact absurd rfl h2
        · exact absurd rfl h2
        · exact absurd rfl h2
        · exact absurd rfl h2
        · exact absurd rfl h2
        · rw [ans_14]; exact do_nullq hR
        · rw [ans_15]; exact do_pairq hR
        · rw [ans_16]; exact do_numq hR
        · rw [ans_17]; exact do_symq hR
        · rw [ans_18]; exact do_strq hR
        · rw [ans_19]; exact do_boolq hR
        · exact absurd rfl h2
        · rw [ans_22]; exact do_not hR
        · rw [ans_23]; exact do_strlen hx.1.2.2 hR
        · exact absurd rfl h2
        · exact absurd rfl h2
        · rw [ans_26]; exact do_symstr hR
        · rw [ans_27]; exact do_numstr (txA_told (by decide)) wx hR
    · rw [if_neg hlen]
      exact do_wrong p hp A ts.length c (by omega) hlen w
  · rw [if_neg hp]
    exact do_none p (by simpa using hp) A ts.length c w
theorem pow_top (k m : Nat) (h : 32 * k ≤ 3 * m) : 4294967296 ^ k ≤ 10 ^ m := by
  have e : (4294967296 : Nat) ^ k = 2 ^ (32 * k) := by rw [Nat.pow_mul]
  have h1 : (2 : Nat) ^ (32 * k) ≤ 2 ^ (3 * m) := Nat.pow_le_pow_right (by decide) h
  have h2 : (2 : Nat) ^ (3 * m) = 8 ^ m := by rw [Nat.pow_mul]
  have h3 : (8 : Nat) ^ m ≤ 10 ^ m := Nat.pow_le_pow_left (by decide) m
  rw [e]
  exact Nat.le_trans h1 (h2 ▸ h3)
theorem txt_few (n : Nat) (hn : n < 4294967296 ^ 66) : (txt 10 n).length ≤ 1000 := by
  unfold txt
  split
  · simp
  · rw [List.length_map, List.length_reverse]
    rcases hm : (digs 10 n).length with _ | m
    · omega
    · have h1 := digs_len 10 n (by decide) m hm
      rcases Nat.lt_or_ge m 800 with h2 | h2
      · omega
      · have h3 := pow_top 66 m (by omega)
        exact absurd (Nat.lt_of_le_of_lt h1 hn) (Nat.not_lt.2 h3)
theorem txA_few {z : Int} (h : z.natAbs < 4294967296 ^ 66) : (txA z).size ≤ 1024 := by
  have h1 := txt_few _ h
  have h2 : (txA z).size = (wtxt z).length := by unfold txA; simp [ByteArray.size]
  rw [h2]
  unfold wtxt
  split
  · rw [List.length_cons]; omega
  · omega
theorem fineE {er : Int} (h : er ≠ 0) : FineA (errA er) := Or.inl ⟨er, h, rfl⟩
theorem fineB (b : Bool) : FineA (boolA b) := Or.inr (Or.inr (Or.inl ⟨b, rfl⟩))
theorem rk_fine (z er : Int) (h : er ≠ 2) : FineA (rkA z er) ∧ (rkA z er).er ≠ 2 := by
  unfold rkA
  by_cases h0 : er ≠ 0
  · rw [if_pos h0]
    exact ⟨fineE h0, h⟩
  · rw [if_neg h0]
    by_cases h6 : 64 < (limbs z.natAbs).length
    · rw [if_pos h6]
      exact ⟨fineE (by decide), by decide⟩
    · rw [if_neg h6]
      exact ⟨Or.inr (Or.inl ⟨z, rfl, by omega⟩), by show (0 : Int) ≠ 2; decide⟩
theorem arith_fine (k1 k2 z er : Int) (h : er ≠ 2) : FineA (arithA k1 k2 z er) ∧ (arithA k1 k2 z er).er ≠ 2 := by
  unfold arithA
  split
  · exact rk_fine z er h
  · exact ⟨fineE (by decide), by decide⟩
theorem order_fine (k1 k2 : Int) (r : Bool) : FineA (orderA k1 k2 r) ∧ (orderA k1 k2 r).er ≠ 2 := by
  unfold orderA
  split
  · exact ⟨fineB r, by show (0 : Int) ≠ 2; decide⟩
  · exact ⟨fineE (by decide), by decide⟩
theorem bool_fine (b : Bool) : FineA (boolA b) ∧ (boolA b).er ≠ 2 := ⟨fineB b, by show (0 : Int) ≠ 2; decide⟩
theorem len_fine (k : Int) (s : ByteArray) (h : s.size ≤ 1100) : FineA (lenA k s) ∧ (lenA k s).er ≠ 2 := by
  unfold lenA
  split
  · refine ⟨Or.inr (Or.inl ⟨_, rfl, ?_⟩), by show (0 : Int) ≠ 2; decide⟩
    have := limbs_len_le (n := ((s.size : Nat) : Int).natAbs) (k := 1) (by omega)
    omega
  · exact ⟨fineE (by decide), by decide⟩
theorem str_fine {s : ByteArray} (h : s.size ≤ 1024) : FineA (strA s) ∧ (strA s).er ≠ 2 := ⟨Or.inr (Or.inr (Or.inr ⟨s, rfl, h⟩)), by show (0 : Int) ≠ 2; decide⟩
theorem quoE_ne (b : Int) : quoE b ≠ 2 := by unfold quoE; split <;> decide
theorem zT_small {w : World} {M : Nat} {x : LT} (h : Held w M x) (hl : x.ln ≤ 66) : (zT x).natAbs < 4294967296 ^ 66 := by
  have h1 := val_lt h.1.1.ok
  have h2 := h.1.1.len
  have h3 : (4294967296 : Nat) ^ x.ys.length ≤ 4294967296 ^ 66 := Nat.pow_le_pow_right (by decide) (by omega)
  have h4 : (zT x).natAbs = val x.ys := by unfold zT; rw [zOf_abs]
  rw [h4]
  exact Nat.lt_of_lt_of_le h1 h3
theorem ans_fine (p : Int) (hp : plainB p = true) (x y : LT) (w : World) (M : Nat) (hx : Held w M x) (lx : x.ln ≤ 66 ∧ x.s.size ≤ 1100) (hs : x.k = 3 → x.s.size ≤ 1024) : FineA (ansA p x y) ∧ (ansA p x y).er ≠ 2 := by
  rcases plainB_cases hp with rfl | rfl | rfl | rfl | rfl | rfl | rfl | rfl | rfl | rfl | rfl | rfl | rfl | rfl | rfl | rfl | rfl | rfl | rfl | rfl | rfl
  · rw [ans_1]; exact arith_fine _ _ _ _ (by decide)
  · rw [ans_2]; exact arith_fine _ _ _ _ (by decide)
  · rw [ans_3]; exact arith_fine _ _ _ _ (by decide)
  · rw [ans_4]; exact arith_fine _ _ _ _ (quoE_ne _)
  · rw [ans_5]; exact arith_fine _ _ _ _ (quoE_ne _)
  · rw [ans_6]; exact arith_fine _ _ _ _ (quoE_ne _)
  · rw [ans_7]; exact order_fine _ _ _
  · rw [ans_8]; exact order_fine _ _ _
  · rw [ans_14]; exact bool_fine _
  · rw [ans_15]; exact bool_fine _
  · rw [ans_16]; exact bool_fine _
  · rw [ans_17]; exact bool_fine _
  · rw [ans_18]; exact bool_fine _
  · rw [ans_19]; exact bool_fine _
  · rw [ans_21]; exact bool_fine _
  · rw [ans_22]; exact bool_fine _
  · rw [ans_23]; exact len_fine _ _ lx.2
  · rw [ans_24]; unfold joinA; split
    · split
      · exact ⟨fineE (by decide), by decide⟩
      · exact str_fine (by rw [ByteArray.size_append]; omega)
    · exact ⟨fineE (by decide), by decide⟩
  · rw [ans_25]; unfold sameA; split
    · exact bool_fine _
    · exact ⟨fineE (by decide), by decide⟩
  · rw [ans_26]; unfold symA; split
    · exact str_fine (hs (by assumption))
    · exact ⟨fineE (by decide), by decide⟩
  · rw [ans_27]; unfold textA; split
    · exact str_fine (txA_few (zT_small hx lx.1))
    · exact ⟨fineE (by decide), by decide⟩
theorem doA_fine (p : Int) (ts : List LT) (w : World) (M : Nat) (b o : Nat) (hL : LiesR w M ts b o) (hl : ts.all lightX = true) (hs : ∀ x ∈ ts, x.k = 3 → x.s.size ≤ 1024) : FineA (doA p ts) ∧ ((doA p ts).er = 2 → plainB p = false) := by
  unfold doA
  by_cases hp : plainB p = true
  · rw [if_pos hp]
    by_cases hlen : ts.length = arB p
    · rw [if_pos hlen]
      rcases ts with _ | ⟨x, l⟩
      · exfalso; revert hlen; unfold arB; split <;> simp
      · rw [List.all_eq_true] at hl
        have h := ans_fine p hp x (l.headD (plainT 0 false none 0 0 [] false ⟨#[]⟩)) w M (lies_held.1 ((liesR_iff _ _ _).1 hL 0 (by simp))).2.2 (light_parts (hl x (by simp))) (hs x (by simp))
        exact ⟨h.1, fun e => absurd e h.2⟩
    · rw [if_neg hlen]
      exact ⟨fineE (by decide), fun e => absurd e (by decide)⟩
  · rw [if_neg hp]
    exact ⟨fineE (by decide), fun _ => by simpa using hp⟩
end Go.Proofs.YtocnlapbkidinaaGreatDoor
