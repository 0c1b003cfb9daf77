/-
  pavanelaw09.light of a row of any length. What Do tells is short. PrimDoes: its walk.
-/
import Derived.Test.YtocnlapbkidinaaGreatDoorQPgb
import Derived.RegionTactic
import Derived.BigRegion
import Derived.LoopTactic
import Derived.Deep.RegionHeld3
import Derived.Test.YtocnlapbkidinaaGreatDoorQRkz
import Derived.Test.YtocnlapbkidinaaGreatDoorPk5
import Derived.Test.YtocnlapbkidinaaGreatDoorQRne
set_option linter.unusedVariables false
set_option linter.unusedSimpArgs false
set_option linter.unusedSectionVars false
set_option linter.unnecessarySimpa false
namespace Go.Proofs.YtocnlapbkidinaaGreatDoor
section
open Go.RowKit
set_option maxRecDepth 100000

set_option maxHeartbeats 1600000 in
theorem light_long (A : Option Addr) (n c : Nat) (w : World) (hn : 10 < n) (hm : n ≤ maxLen) : Calls Tryz.prog 6 #[.slice A n c] w fun e w' => e = .returned (.bool false) ∧ Below w.heap.size w w' := by
  unfold maxLen at hm
  have e1 : decide ((10 : Int) < (n : Int)) = true := decide_eq_true (by omega)
  go_enter Tryz.func6, Tryz.ntmps6
  go_wp2_with fail
  go_ret
  exact ⟨rfl, Below.refl _ _⟩
noncomputable def lightR (ts : List LT) : Bool := decide (ts.length ≤ 10) && ts.all lightX
theorem light_row (M : Nat) (A : Option Addr) (c : Nat) (ts : List LT) (w : World) (hM : M ≤ w.heap.size) (hS : Spot M A ts.length c) (hR : LiesR w M ts (blk A) (ofs A)) :
    Calls Tryz.prog 6 #[.slice A ts.length c] w fun e w' => e = .returned (.bool (lightR ts)) ∧ Below w.heap.size w w' := by
  by_cases hn : ts.length ≤ 10
  · unfold lightR
    rw [decide_eq_true hn, Bool.true_and]
    exact light9_any M A c ts w hM hn hS hR
  · unfold lightR
    rw [decide_eq_false hn, Bool.false_and]
    exact light_long A _ c w (by omega) (Nat.le_trans hS.1 hS.2.1)
theorem lightR_parts {ts : List LT} (h : lightR ts = true) : ts.length ≤ 10 ∧ ts.all lightX = true := by
  unfold lightR at h
  simp only [Bool.and_eq_true, decide_eq_true_eq] at h
  exact h
theorem fine_few {a : Ans} (hF : FineA a) : a.xs.length ≤ 64 ∧ a.s.size ≤ 1024 ∧ (a.er ≠ 0 → a.k = 0 ∧ a.sg = false ∧ a.xs = [] ∧ a.b = false ∧ a.s = ⟨#[]⟩) := by
  rcases hF with ⟨er, h, rfl⟩ | ⟨z, rfl, hz⟩ | ⟨b, rfl⟩ | ⟨s, rfl, hs⟩
  · exact ⟨by show (0 : Nat) ≤ _; omega, by show (0 : Nat) ≤ _; omega, fun _ => ⟨rfl, rfl, rfl, rfl, rfl⟩⟩
  · exact ⟨hz, by show (0 : Nat) ≤ _; omega, fun h => absurd rfl h⟩
  · exact ⟨by show (0 : Nat) ≤ _; omega, by show (0 : Nat) ≤ _; omega, fun h => absurd rfl h⟩
  · exact ⟨by show (0 : Nat) ≤ _; omega, hs, fun h => absurd rfl h⟩
theorem same_zero {a : Ans} (hF : FineA a) (he : a.er ≠ 0) {A : Option Addr} {n c : Nat} {w : World} (h : Sl w A n c a.xs) :
    Calls Tryz.prog 10 #[.agg #[.int .i64 a.k, .bool a.sg, .slice A n c, .bool a.b, .string a.s, .slice none 0 0, .slice none 0 0], .agg #[.int .i64 0, .bool false, .slice none 0 0, .bool false, .string ⟨#[]⟩, .slice none 0 0, .slice none 0 0]] w fun e w' => e = .returned (.bool true) ∧ Below w.heap.size w w' := by
  obtain ⟨h1, h2, h3⟩ := fine_few hF
  obtain ⟨q1, q2, q3, q4, q5⟩ := h3 he
  have hl := h.len
  have hS := rsame_plain (k := a.k) (g := a.sg) (b := a.b) (s := a.s) (k' := 0) (g' := false) (b' := false) (s' := ⟨#[]⟩) (A' := none) (n' := 0) (c' := 0) (xs' := []) h Sl.nil (by unfold maxLen; omega) (by decide) (by omega) (by omega)
  rw [sameB_plain.2 ⟨q1, by rw [q2, q3], q4, q5⟩] at hS
  exact hS
theorem same_twice {a : Ans} (hF : FineA a) {A A' : Option Addr} {n c n' c' : Nat} {w : World} (h : Sl w A n c a.xs) (h' : Sl w A' n' c' a.xs) :
    Calls Tryz.prog 10 #[.agg #[.int .i64 a.k, .bool a.sg, .slice A n c, .bool a.b, .string a.s, .slice none 0 0, .slice none 0 0], .agg #[.int .i64 a.k, .bool a.sg, .slice A' n' c', .bool a.b, .string a.s, .slice none 0 0, .slice none 0 0]] w fun e w' => e = .returned (.bool true) ∧ Below w.heap.size w w' := by
  obtain ⟨h1, h2, -⟩ := fine_few hF
  have hl := h.len
  have hl' := h'.len
  have hS := rsame_plain (k := a.k) (g := a.sg) (b := a.b) (s := a.s) (k' := a.k) (g' := a.sg) (b' := a.b) (s' := a.s) h h' (by unfold maxLen; omega) (by unfold maxLen; omega) (by omega) (by omega)
  rw [sameB_plain.2 ⟨rfl, rfl, rfl, rfl⟩] at hS
  exact hS
end
end Go.Proofs.YtocnlapbkidinaaGreatDoor
namespace Go.Proofs.YtocnlapbkidinaaGreatDoor
section
open Go.RowKit
def FewA (a : Ans) : Prop := a.xs.length ≤ 64 ∧ a.s.size ≤ 1100
theorem FineA.few {a : Ans} (h : FineA a) : FewA a := ⟨(fine_few h).1, by have := (fine_few h).2.1; omega⟩
theorem ans_fine' (p : Int) (hp : plainB p = true) (h26 : p ≠ 26) (x y : LT) (w : World) (M : Nat) (hx : Held w M x) (lx : x.ln ≤ 66 ∧ x.s.size ≤ 1100) : FineA (ansA p x y) := by
  suffices h : FineA (ansA p x y) ∧ (ansA p x y).er ≠ 2 from h.1
  rcases plainB_cases hp with rfl | rfl | rfl | rfl | rfl | rfl | rfl | rfl | rfl | rfl | rfl | rfl | rfl | rfl | rfl | rfl | rfl | rfl | rfl | rfl | rfl
  · rw [ans_1]; exact arith_fine _ _ _ _ (by decide)
  · rw [ans_2]; exact arith_fine _ _ _ _ (by decide)
  · rw [ans_3]; exact arith_fine _ _ _ _ (by decide)
  · rw [ans_4]; exact arith_fine _ _ _ _ (quoE_ne _)
  · rw [ans_5]; exact arith_fine _ _ _ _ (quoE_ne _)
  · rw [ans_6]; exact arith_fine _ _ _ _ (quoE_ne _)
  · rw [ans_7]; exact order_fine _ _ _
  · rw [ans_8]; exact order_fine _ _ _
  · rw [ans_14]; exact bool_fine _
  · rw [ans_15]; exact bool_fine _
  · rw [ans_16]; exact bool_fine _
  · rw [ans_17]; exact bool_fine _
  · rw [ans_18]; exact bool_fine _
  · rw [ans_19]; exact bool_fine _
  · rw [ans_21]; exact bool_fine _
  · rw [ans_22]; exact bool_fine _
  · rw [ans_23]; exact len_fine _ _ lx.2
  · rw [ans_24]; unfold joinA; split
    · split
      · exact ⟨fineE (by decide), by decide⟩
      · exact str_fine (by rw [ByteArray.size_append]; omega)
    · exact ⟨fineE (by decide), by decide⟩
  · rw [ans_25]; unfold sameA; split
    · exact bool_fine _
    · exact ⟨fineE (by decide), by decide⟩
  · exact absurd rfl h26
  · rw [ans_27]; unfold textA; split
    · exact str_fine (txA_few (zT_small hx lx.1))
    · exact ⟨fineE (by decide), by decide⟩
theorem doA_few (p : Int) (ts : List LT) (w : World) (M : Nat) (b o : Nat) (hL : LiesR w M ts b o) (hl : ts.all lightX = true) : FewA (doA p ts) := by
  unfold doA
  by_cases hp : plainB p = true
  · rw [if_pos hp]
    by_cases hlen : ts.length = arB p
    · rw [if_pos hlen]
      rcases ts with _ | ⟨x, l⟩
      · exfalso; revert hlen; unfold arB; split <;> simp
      · rw [List.all_eq_true] at hl
        have hx := light_parts (hl x (by simp))
        by_cases h26 : p = 26
        · subst h26
          rw [ans_26]
          show FewA (symA x.k x.s)
          unfold symA
          split
          · exact ⟨by show (0 : Nat) ≤ 64; omega, hx.2⟩
          · exact (fineE (by decide)).few
        · exact (ans_fine' p hp h26 x (l.headD (plainT 0 false none 0 0 [] false ⟨#[]⟩)) w M (lies_held.1 ((liesR_iff _ _ _).1 hL 0 (by simp))).2.2 hx).few
    · rw [if_neg hlen]
      exact (fineE (by decide)).few
  · rw [if_neg hp]
    exact (fineE (by decide)).few
theorem same_few {a : Ans} (hF : FewA a) {A A' : Option Addr} {n c n' c' : Nat} {w : World} (h : Sl w A n c a.xs) (h' : Sl w A' n' c' a.xs) :
    Calls Tryz.prog 10 #[.agg #[.int .i64 a.k, .bool a.sg, .slice A n c, .bool a.b, .string a.s, .slice none 0 0, .slice none 0 0], .agg #[.int .i64 a.k, .bool a.sg, .slice A' n' c', .bool a.b, .string a.s, .slice none 0 0, .slice none 0 0]] w fun e w' => e = .returned (.bool true) ∧ Below w.heap.size w w' := by
  obtain ⟨h1, h2⟩ := hF
  have hl := h.len
  have hl' := h'.len
  have hS := rsame_plain (k := a.k) (g := a.sg) (b := a.b) (s := a.s) (k' := a.k) (g' := a.sg) (b' := a.b) (s' := a.s) h h' (by unfold maxLen; omega) (by unfold maxLen; omega) (by omega) (by omega)
  rw [sameB_plain.2 ⟨rfl, rfl, rfl, rfl⟩] at hS
  exact hS
end
end Go.Proofs.YtocnlapbkidinaaGreatDoor
namespace Go.Proofs.YtocnlapbkidinaaGreatDoor
section
open Go.RowKit
set_option maxRecDepth 100000

set_option maxHeartbeats 12800000 in
theorem primDoes_walk (p : Int) (a : Option Addr) (l : List LT) (c : Nat) (w : World) (hp : (Lit.int .i64 p).wf = true) (hS : Spot w.heap.size a l.length c) (hL : LiesR w w.heap.size l (blk a) (ofs a)) (hT : TameR l) (hN : NamT w) (hM : MakT w) :
    Calls Tryz.prog 3 #[.int .i64 p, .slice a l.length c] w fun e w' => e = .returned (.bool true) ∧ Below w.heap.size w w' := by
  have HLI := Lib.hid (fun W (hb : Below w.heap.size w W) => show LiesR W w.heap.size l (blk a) (ofs a) from LiesR.keep hb.size (fun k hk => hb.block k hk) l _ _ hL)
  have HLR := Lib.hid (light_row w.heap.size a c l w (Nat.le_refl _) hS hL)
  have HH := Lib.hid (And.intro hS (And.intro hT hp))
  have HTB := Lib.hid (And.intro hN hM)
  have hlm : l.length ≤ maxLen := Nat.le_trans hS.1 hS.2.1
  unfold maxLen at hlm
  clear hS hL hT hp hN hM
  go_enter Tryz.func3, Tryz.ntmps3
  go_wp2_with fail
  refine HLR.out.mono ?_
  rintro e w1 ⟨rfl, b1⟩
  have H1 := Lib.hid b1
  clear b1 HLR
  obtain ⟨r, hr⟩ : ∃ r, lightR l = r := ⟨_, rfl⟩
  rw [hr]
  cases r
  · clear hr
    go_wp2_with fail
    refine (lives9_yes w1).mono ?_
    rintro e w2 ⟨rfl, b2⟩
    have H2 := Lib.hid (H1.out.trans (b2.mono H1.out.size))
    clear b2 H1
    go_wp2_with fail
    go_ret
    exact ⟨rfl, H2.out⟩
  have HR := Lib.hid (lightR_parts hr)
  clear hr
  have HD := Lib.hid (fun W (hb : Below w.heap.size w W) => do_all p w.heap.size a c l W hb.size HH.out.1 (HLI.out W hb) HR.out.2 HR.out.1 HH.out.2.1)
  have HE := Lib.hid (fun W (hb : Below w.heap.size w W) => rdo_all p w.heap.size a c l W hb.size HH.out.1 (HLI.out W hb) HR.out.2 HR.out.1 HH.out.2.1)
  have HFW := Lib.hid (doA_few p l w w.heap.size (blk a) (ofs a) (HLI.out w (Below.refl _ _)) HR.out.2)
  obtain ⟨A, hA⟩ : ∃ A, doA p l = A := ⟨_, rfl⟩
  rw [hA] at HD HE HFW
  clear hA
  go_wp2_with fail
  refine (HD.out _ H1.out).mono ?_
  rintro e w2 ⟨A2, n2, c2, rfl, t2, b2⟩
  have x2 := b2.alloc b2.size (.cells #[.int .i64 A.k, .bool A.sg, .slice A2 n2 c2, .bool A.b, .string A.s, .slice none 0 0, .slice none 0 0] 29)
  have hb2 := H1.out.trans (x2.mono H1.out.size)
  have h2 := heap_alloc_new w2 (.cells #[.int .i64 A.k, .bool A.sg, .slice A2 n2 c2, .bool A.b, .string A.s, .slice none 0 0, .slice none 0 0] 29)
  have t2' := t2.below ((Below.refl _ _).alloc (Nat.le_refl _) (.cells #[.int .i64 A.k, .bool A.sg, .slice A2 n2 c2, .bool A.b, .string A.s, .slice none 0 0, .slice none 0 0] 29))
  have H2 := Lib.hid (And.intro hb2 (And.intro h2 t2'))
  clear t2 b2 x2 hb2 h2 t2'
  go_wp2_with fail
  generalize w2.alloc (.cells #[.int .i64 A.k, .bool A.sg, .slice A2 n2 c2, .bool A.b, .string A.s, .slice none 0 0, .slice none 0 0] 29) = W2 at *
  generalize w2.heap.size = gp at *
  refine (HE.out _ H2.out.1).mono ?_
  rintro e w3 ⟨A3, n3, c3, rfl, t3, b3⟩
  have x3 := b3.alloc b3.size (.cells #[.int .i64 A.k, .bool A.sg, .slice A3 n3 c3, .bool A.b, .string A.s, .slice none 0 0, .slice none 0 0] 29)
  have hb3 := H2.out.1.trans (x3.mono H2.out.1.size)
  have h3 := heap_alloc_new w3 (.cells #[.int .i64 A.k, .bool A.sg, .slice A3 n3 c3, .bool A.b, .string A.s, .slice none 0 0, .slice none 0 0] 29)
  have h2 := (x3.block gp (Array.getElem?_eq_some_iff.1 H2.out.2.1).1).trans H2.out.2.1
  have t3' := t3.below ((Below.refl _ _).alloc (Nat.le_refl _) (.cells #[.int .i64 A.k, .bool A.sg, .slice A3 n3 c3, .bool A.b, .string A.s, .slice none 0 0, .slice none 0 0] 29))
  have t2' := H2.out.2.2.below x3
  have H3 := Lib.hid (And.intro hb3 (And.intro h2 (And.intro h3 (And.intro t2' t3'))))
  obtain ⟨⟨d0, d1, d2, d3, d4, d5, d6⟩, -⟩ := cells7 h2
  obtain ⟨⟨e0, e1, e2, e3, e4, e5, e6⟩, -⟩ := cells7 h3
  have ee : (A.er == A.er) = true := beq_self_eq_true _
  clear t3 b3 x3 hb3 h3 h2 t3' t2' H2
  go_wp2_with fail
  generalize w3.alloc (.cells #[.int .i64 A.k, .bool A.sg, .slice A3 n3 c3, .bool A.b, .string A.s, .slice none 0 0, .slice none 0 0] 29) = W3 at *
  generalize w3.heap.size = gq at *
  clear d0 d1 d2 d3 d4 d5 d6 e0 e1 e2 e3 e4 e5 e6
  refine (same_few HFW.out H3.out.2.2.2.1 H3.out.2.2.2.2).mono ?_
  rintro e w4 ⟨rfl, b4⟩
  have H4 := Lib.hid (H3.out.1.trans (b4.mono H3.out.1.size))
  clear b4
  go_wp2_with fail
  refine (pure_is p w4 (HTB.out.2.below H4.out)).mono ?_
  rintro e w5 ⟨rfl, b5⟩
  have H5 := Lib.hid (H4.out.trans (b5.mono H4.out.size))
  clear b5
  go_wp2_with fail
  refine (rpure_is p w5).mono ?_
  rintro e w6 ⟨rfl, b6⟩
  have H6 := Lib.hid (H5.out.trans (b6.mono H5.out.size))
  clear b6
  have e6 : (pureB p == pureB p) = true := beq_self_eq_true _
  generalize pureB p = q6 at *
  go_wp2_with fail
  refine (plain_is p w6).mono ?_
  rintro e w7 ⟨rfl, b7⟩
  have H7 := Lib.hid (H6.out.trans (b7.mono H6.out.size))
  clear b7
  go_wp2_with fail
  refine (rplain_is p w7).mono ?_
  rintro e w8 ⟨rfl, b8⟩
  have H8 := Lib.hid (H7.out.trans (b8.mono H7.out.size))
  clear b8
  have e8 : (plainB p == plainB p) = true := beq_self_eq_true _
  generalize plainB p = q8 at *
  go_wp2_with fail
  refine (name_is p w8 (HTB.out.1.below H8.out)).mono ?_
  rintro e w9 ⟨rfl, b9⟩
  have H9 := Lib.hid (H8.out.trans (b9.mono H8.out.size))
  clear b9
  go_wp2_with fail
  refine (rname_is p w9).mono ?_
  rintro e w10 ⟨rfl, b10⟩
  have H10 := Lib.hid (H9.out.trans (b10.mono H9.out.size))
  clear b10
  have e10 : ((nameB p).toList == (nameB p).toList) = true := beq_self_eq_true _
  generalize nameB p = q10 at *
  go_wp2_with fail
  refine (lives9_yes w10).mono ?_
  rintro e w11 ⟨rfl, b11⟩
  have H11 := Lib.hid (H10.out.trans (b11.mono H10.out.size))
  clear b11
  go_wp2_with fail
  go_ret
  exact ⟨rfl, H11.out⟩
end
end Go.Proofs.YtocnlapbkidinaaGreatDoor
