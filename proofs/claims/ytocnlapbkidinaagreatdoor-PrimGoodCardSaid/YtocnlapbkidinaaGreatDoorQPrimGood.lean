/-
  PrimGood: its walk.
-/
import Derived.Test.YtocnlapbkidinaaGreatDoorQPgg
set_option linter.unusedVariables false
set_option linter.unusedSimpArgs false
set_option linter.unusedSectionVars false
set_option linter.unnecessarySimpa false
namespace Go.Proofs.YtocnlapbkidinaaGreatDoor
open Go.RowKit
set_option maxRecDepth 100000

set_option maxHeartbeats 12800000 in
theorem primGood_walk (p : Int) (a : Option Addr) (l : List LT) (c : Nat) (w : World) (hp : (Lit.int .i64 p).wf = true) (hS : Spot w.heap.size a l.length c) (hL : LiesR w w.heap.size l (blk a) (ofs a)) (hT : TameR l) :
    Calls Tryz.prog 5 #[.int .i64 p, .slice a l.length c] w fun e w' => e = .returned (.bool true) ∧ Below w.heap.size w w' := by
  have HLI := Lib.hid (fun W (hb : Below w.heap.size w W) => show LiesR W w.heap.size l (blk a) (ofs a) from LiesR.keep hb.size (fun k hk => hb.block k hk) l _ _ hL)
  have HLR := Lib.hid (light_row w.heap.size a c l w (Nat.le_refl _) hS hL)
  have HH := Lib.hid (And.intro hS (And.intro hT hp))
  have hlm : l.length ≤ maxLen := Nat.le_trans hS.1 hS.2.1
  unfold maxLen at hlm
  obtain ⟨B, o, hA, hR1⟩ : ∃ B o, (0 < l.length → a = some ⟨B, o, none⟩ ∧ B < w.heap.size) ∧ LiesR w w.heap.size l B o := ⟨blk a, ofs a, hS.2.2.1, hL⟩
  have HA := Lib.hid (And.intro hA hR1)
  clear hS hL hT hp hA hR1
  go_enter Tryz.func5, Tryz.ntmps5
  go_wp2_with fail
  refine HLR.out.mono ?_
  rintro e w1 ⟨rfl, b1⟩
  have H1 := Lib.hid b1
  clear b1 HLR
  obtain ⟨r, hr⟩ : ∃ r, lightR l = r := ⟨_, rfl⟩
  rw [hr]
  cases r
  · clear hr
    go_wp2_with fail
    refine (lives9_yes w1).mono ?_
    rintro e w2 ⟨rfl, b2⟩
    have H2 := Lib.hid (H1.out.trans (b2.mono H1.out.size))
    clear b2 H1
    go_wp2_with fail
    go_ret
    exact ⟨rfl, H2.out⟩
  have HR := Lib.hid (lightR_parts hr)
  have hl10 := HR.out.1
  clear hr
  go_wp2_with fail
  go_loopw [17] (fun i wr => ∃ j : Nat, j ≤ l.length ∧ i = .int .i64 j ∧ Below w.heap.size w wr ∧ Hid (∀ q (h : q < l.length), q < j → l[q].k = 3 → l[q].s.size ≤ 1024)) (fun i _ => l.length - (intOf i).toNat)
  case atStart => exact ⟨0, Nat.zero_le _, rfl, H1.out, Lib.hid fun q h hq => by omega⟩
  case round =>
    obtain ⟨j, hj, rfl, hb, hq⟩ := hrel
    by_cases hlt : j < l.length
    · obtain ⟨rfl, hB⟩ := HA.out.1 (by omega)
      obtain ⟨_, hcx, hhx⟩ := lies_held.1 ((liesR_iff _ _ _).1 HA.out.2 j hlt)
      have hlx := (light_few (List.all_eq_true.1 HR.out.2 _ (List.getElem_mem hlt))).1
      have HQ : Hid ((l[j].k = 3 → l[j].s.size ≤ 1024) → ∀ q (h : q < l.length), q < j + 1 → l[q].k = 3 → l[q].s.size ≤ 1024) := Lib.hid fun hs q h1 h3 => by
        rcases Nat.lt_or_ge q j with h4 | h4
        · exact hq.out q h1 h4
        · obtain rfl : q = j := by omega
          exact hs
      obtain ⟨x, hx⟩ : ∃ x, l[j] = x := ⟨_, rfl⟩
      rw [hx] at hcx hhx HQ hlx
      rw [Nat.mul_comm 7 j] at hcx
      have hc : ∀ i v, x.cells[i]? = some v → wr.cell? ⟨B, o + j * 7 + i, none⟩ = some v := fun i v hi => (hb.cell (p := ⟨B, o + j * 7 + i, none⟩) (by show B < _; omega)).trans (hcx i v hi)
      obtain ⟨d0, d1, d2, d3, d4, d5, d6⟩ := Seven7.cells hc
      have hbx : Below wr.heap.size wr (wr.alloc (Obj.cells #[.int .i64 x.k, .bool x.g, .slice x.la x.ln x.lc, .bool x.bb, .string x.s, .slice x.ia x.items.length x.ic, .slice x.ta x.tail.length x.tc] 29)) := (Below.refl _ _).alloc (Nat.le_refl _) _
      have hbw := hb.trans (hbx.mono hb.size)
      have HS := Lib.hid (good_ends w.heap.size x (by omega) (wr.alloc (Obj.cells #[.int .i64 x.k, .bool x.g, .slice x.la x.ln x.lc, .bool x.bb, .string x.s, .slice x.ia x.items.length x.ic, .slice x.ta x.tail.length x.tc] 29)) hbw.size (hhx.below (Nat.le_refl _) hbw))
      have HB := Lib.hid hbw
      clear hcx hhx hc hb hbx hbw hx hq hlx
      go_wp2_with fail
      clear d0 d1 d2 d3 d4 d5 d6
      refine HS.out.mono ?_
      rintro e w2 ⟨r, rfl, hr, b2⟩
      have H2 := Lib.hid (And.intro (HB.out.trans (b2.mono HB.out.size)) hr)
      clear b2 HS hr
      cases r
      · go_wp2_with fail
        refine (lives9_yes w2).mono ?_
        rintro e w3 ⟨rfl, b3⟩
        have H3 := Lib.hid (H2.out.1.trans (b3.mono H2.out.1.size))
        clear b3
        go_wp2_with fail
        go_ret
        exact ⟨rfl, H3.out⟩
      · have HY := Lib.hid (HQ.out (H2.out.2 rfl))
        clear HQ
        go_wp2_with fail
        go_roundw
        case rel => exact ⟨j + 1, by omega, by go_num, H2.out.1, HY⟩
        case measure => simp [intOf]; omega
    · obtain rfl : j = l.length := by omega
      have HF := Lib.hid (doA_fine p l w w.heap.size (blk a) (ofs a) (HLI.out w (Below.refl _ _)) HR.out.2 (fun x hx => by
        obtain ⟨q, h1, rfl⟩ := List.getElem_of_mem hx
        exact hq.out q h1 h1))
      have HD := Lib.hid (fun W (hb : Below w.heap.size w W) => do_all p w.heap.size a c l W hb.size HH.out.1 (HLI.out W hb) HR.out.2 HR.out.1 HH.out.2.1)
      have HBW := Lib.hid hb
      clear hb hq hlt hj H1 HA
      obtain ⟨A, hA⟩ : ∃ A, doA p l = A := ⟨_, rfl⟩
      rw [hA] at HF HD
      clear hA
      go_wp2_with fail
      refine (HD.out _ HBW.out).mono ?_
      rintro e w2 ⟨A2, n2, c2, rfl, t2, b2⟩
      have x2 := b2.alloc b2.size (.cells #[.int .i64 A.k, .bool A.sg, .slice A2 n2 c2, .bool A.b, .string A.s, .slice none 0 0, .slice none 0 0] 29)
      have hb2 := HBW.out.trans (x2.mono HBW.out.size)
      have h2 := heap_alloc_new w2 (.cells #[.int .i64 A.k, .bool A.sg, .slice A2 n2 c2, .bool A.b, .string A.s, .slice none 0 0, .slice none 0 0] 29)
      have t2' := t2.below ((Below.refl _ _).alloc (Nat.le_refl _) (.cells #[.int .i64 A.k, .bool A.sg, .slice A2 n2 c2, .bool A.b, .string A.s, .slice none 0 0, .slice none 0 0] 29))
      have H2 := Lib.hid (And.intro hb2 (And.intro h2 t2'))
      clear t2 b2 x2 hb2 h2 t2'
      go_wp2_with fail
      generalize w2.alloc (.cells #[.int .i64 A.k, .bool A.sg, .slice A2 n2 c2, .bool A.b, .string A.s, .slice none 0 0, .slice none 0 0] 29) = W2 at *
      generalize w2.heap.size = gp at *
      refine (HD.out _ H2.out.1).mono ?_
      rintro e w3 ⟨A3, n3, c3, rfl, t3, b3⟩
      have x3 := b3.alloc b3.size (.cells #[.int .i64 A.k, .bool A.sg, .slice A3 n3 c3, .bool A.b, .string A.s, .slice none 0 0, .slice none 0 0] 29)
      have hb3 := H2.out.1.trans (x3.mono H2.out.1.size)
      have h3 := heap_alloc_new w3 (.cells #[.int .i64 A.k, .bool A.sg, .slice A3 n3 c3, .bool A.b, .string A.s, .slice none 0 0, .slice none 0 0] 29)
      have h2 := (x3.block gp (Array.getElem?_eq_some_iff.1 H2.out.2.1).1).trans H2.out.2.1
      have t3' := t3.below ((Below.refl _ _).alloc (Nat.le_refl _) (.cells #[.int .i64 A.k, .bool A.sg, .slice A3 n3 c3, .bool A.b, .string A.s, .slice none 0 0, .slice none 0 0] 29))
      have t2' := H2.out.2.2.below x3
      have H3 := Lib.hid (And.intro hb3 (And.intro h2 (And.intro h3 (And.intro t2' t3'))))
      obtain ⟨⟨d0, d1, d2, d3, d4, d5, d6⟩, -⟩ := cells7 h2
      obtain ⟨⟨e0, e1, e2, e3, e4, e5, e6⟩, -⟩ := cells7 h3
      clear t3 b3 x3 hb3 h3 h2 t3' t2' H2
      go_wp2_with fail
      generalize w3.alloc (.cells #[.int .i64 A.k, .bool A.sg, .slice A3 n3 c3, .bool A.b, .string A.s, .slice none 0 0, .slice none 0 0] 29) = W3 at *
      generalize w3.heap.size = gq at *
      clear d0 d1 d2 d3 d4 d5 d6 e0 e1 e2 e3 e4 e5 e6
      have ee : (A.er == A.er) = true := beq_self_eq_true _
      refine (goodp_any HF.out.1 A2 n2 c2 _ H3.out.2.2.2.1).mono ?_
      rintro e w4 ⟨rfl, b4⟩
      by_cases he0 : A.er = 0
      · have q0 : (A.er == 0) = true := by simp [he0]
        have q2 : (A.er != 2) = true := by simp [he0]
        clear he0
        have H4 := Lib.hid (And.intro (H3.out.1.trans (b4.mono H3.out.1.size)) (And.intro ((b4.block gp (Array.getElem?_eq_some_iff.1 H3.out.2.1).1).trans H3.out.2.1) (And.intro ((b4.block gq (Array.getElem?_eq_some_iff.1 H3.out.2.2.1).1).trans H3.out.2.2.1) (And.intro (H3.out.2.2.2.1.below b4) (H3.out.2.2.2.2.below b4)))))
        clear b4
        obtain ⟨⟨d0, d1, d2, d3, d4, d5, d6⟩, -⟩ := cells7 H4.out.2.1
        obtain ⟨⟨e0, e1, e2, e3, e4, e5, e6⟩, -⟩ := cells7 H4.out.2.2.1
        go_wp2_with fail
        clear d0 d1 d2 d3 d4 d5 d6 e0 e1 e2 e3 e4 e5 e6
        refine (same_twice HF.out.1 H4.out.2.2.2.2 H4.out.2.2.2.1).mono ?_
        rintro e w5 ⟨rfl, b5⟩
        have H5 := Lib.hid (And.intro (H4.out.1.trans (b5.mono H4.out.1.size)) (And.intro ((b5.block gp (Array.getElem?_eq_some_iff.1 H4.out.2.1).1).trans H4.out.2.1) (And.intro ((b5.block gq (Array.getElem?_eq_some_iff.1 H4.out.2.2.1).1).trans H4.out.2.2.1) (And.intro (H4.out.2.2.2.1.below b5) (H4.out.2.2.2.2.below b5)))))
        clear b5
        go_wp2_with fail
        refine (lives9_yes w5).mono ?_
        rintro e w6 ⟨rfl, b6⟩
        have H6 := Lib.hid (And.intro (H5.out.1.trans (b6.mono H5.out.1.size)) (And.intro ((b6.block gp (Array.getElem?_eq_some_iff.1 H5.out.2.1).1).trans H5.out.2.1) (And.intro ((b6.block gq (Array.getElem?_eq_some_iff.1 H5.out.2.2.1).1).trans H5.out.2.2.1) (And.intro (H5.out.2.2.2.1.below b6) (H5.out.2.2.2.2.below b6)))))
        clear b6
        go_wp2_with fail
        go_ret
        exact ⟨rfl, H6.out.1⟩
      · have HN := Lib.hid he0
        have q0 : (A.er == 0) = false := beq_eq_false_iff_ne.2 he0
        by_cases he2 : A.er = 2
        · have q2 : (A.er != 2) = false := by simp [he2]
          have HP := Lib.hid (HF.out.2 he2)
          clear he0 he2
          have H4 := Lib.hid (And.intro (H3.out.1.trans (b4.mono H3.out.1.size)) (And.intro ((b4.block gp (Array.getElem?_eq_some_iff.1 H3.out.2.1).1).trans H3.out.2.1) (And.intro ((b4.block gq (Array.getElem?_eq_some_iff.1 H3.out.2.2.1).1).trans H3.out.2.2.1) (And.intro (H3.out.2.2.2.1.below b4) (H3.out.2.2.2.2.below b4)))))
          clear b4
          obtain ⟨⟨d0, d1, d2, d3, d4, d5, d6⟩, -⟩ := cells7 H4.out.2.1
          obtain ⟨⟨e0, e1, e2, e3, e4, e5, e6⟩, -⟩ := cells7 H4.out.2.2.1
          go_wp2_with fail
          clear d0 d1 d2 d3 d4 d5 d6 e0 e1 e2 e3 e4 e5 e6
          refine (same_zero HF.out.1 HN.out H4.out.2.2.2.1).mono ?_
          rintro e w5 ⟨rfl, b5⟩
          have H5 := Lib.hid (And.intro (H4.out.1.trans (b5.mono H4.out.1.size)) (And.intro ((b5.block gp (Array.getElem?_eq_some_iff.1 H4.out.2.1).1).trans H4.out.2.1) (And.intro ((b5.block gq (Array.getElem?_eq_some_iff.1 H4.out.2.2.1).1).trans H4.out.2.2.1) (And.intro (H4.out.2.2.2.1.below b5) (H4.out.2.2.2.2.below b5)))))
          clear b5
          obtain ⟨⟨d0, d1, d2, d3, d4, d5, d6⟩, -⟩ := cells7 H5.out.2.1
          obtain ⟨⟨e0, e1, e2, e3, e4, e5, e6⟩, -⟩ := cells7 H5.out.2.2.1
          go_wp2_with fail
          clear d0 d1 d2 d3 d4 d5 d6 e0 e1 e2 e3 e4 e5 e6
          refine (same_twice HF.out.1 H5.out.2.2.2.2 H5.out.2.2.2.1).mono ?_
          rintro e w6 ⟨rfl, b6⟩
          have H6 := Lib.hid (And.intro (H5.out.1.trans (b6.mono H5.out.1.size)) (And.intro ((b6.block gp (Array.getElem?_eq_some_iff.1 H5.out.2.1).1).trans H5.out.2.1) (And.intro ((b6.block gq (Array.getElem?_eq_some_iff.1 H5.out.2.2.1).1).trans H5.out.2.2.1) (And.intro (H5.out.2.2.2.1.below b6) (H5.out.2.2.2.2.below b6)))))
          clear b6
          go_wp2_with fail
          have hpl := plain_is p w6
          rw [HP.out] at hpl
          refine (hpl).mono ?_
          rintro e w7 ⟨rfl, b7⟩
          clear hpl
          have H7 := Lib.hid (And.intro (H6.out.1.trans (b7.mono H6.out.1.size)) (And.intro ((b7.block gp (Array.getElem?_eq_some_iff.1 H6.out.2.1).1).trans H6.out.2.1) (And.intro ((b7.block gq (Array.getElem?_eq_some_iff.1 H6.out.2.2.1).1).trans H6.out.2.2.1) (And.intro (H6.out.2.2.2.1.below b7) (H6.out.2.2.2.2.below b7)))))
          clear b7
          go_wp2_with fail
          refine (lives9_yes w7).mono ?_
          rintro e w8 ⟨rfl, b8⟩
          have H8 := Lib.hid (And.intro (H7.out.1.trans (b8.mono H7.out.1.size)) (And.intro ((b8.block gp (Array.getElem?_eq_some_iff.1 H7.out.2.1).1).trans H7.out.2.1) (And.intro ((b8.block gq (Array.getElem?_eq_some_iff.1 H7.out.2.2.1).1).trans H7.out.2.2.1) (And.intro (H7.out.2.2.2.1.below b8) (H7.out.2.2.2.2.below b8)))))
          clear b8
          go_wp2_with fail
          go_ret
          exact ⟨rfl, H8.out.1⟩
        · have q2 : (A.er != 2) = true := by simp [he2]
          clear he0 he2
          have H4 := Lib.hid (And.intro (H3.out.1.trans (b4.mono H3.out.1.size)) (And.intro ((b4.block gp (Array.getElem?_eq_some_iff.1 H3.out.2.1).1).trans H3.out.2.1) (And.intro ((b4.block gq (Array.getElem?_eq_some_iff.1 H3.out.2.2.1).1).trans H3.out.2.2.1) (And.intro (H3.out.2.2.2.1.below b4) (H3.out.2.2.2.2.below b4)))))
          clear b4
          obtain ⟨⟨d0, d1, d2, d3, d4, d5, d6⟩, -⟩ := cells7 H4.out.2.1
          obtain ⟨⟨e0, e1, e2, e3, e4, e5, e6⟩, -⟩ := cells7 H4.out.2.2.1
          go_wp2_with fail
          clear d0 d1 d2 d3 d4 d5 d6 e0 e1 e2 e3 e4 e5 e6
          refine (same_zero HF.out.1 HN.out H4.out.2.2.2.1).mono ?_
          rintro e w5 ⟨rfl, b5⟩
          have H5 := Lib.hid (And.intro (H4.out.1.trans (b5.mono H4.out.1.size)) (And.intro ((b5.block gp (Array.getElem?_eq_some_iff.1 H4.out.2.1).1).trans H4.out.2.1) (And.intro ((b5.block gq (Array.getElem?_eq_some_iff.1 H4.out.2.2.1).1).trans H4.out.2.2.1) (And.intro (H4.out.2.2.2.1.below b5) (H4.out.2.2.2.2.below b5)))))
          clear b5
          obtain ⟨⟨d0, d1, d2, d3, d4, d5, d6⟩, -⟩ := cells7 H5.out.2.1
          obtain ⟨⟨e0, e1, e2, e3, e4, e5, e6⟩, -⟩ := cells7 H5.out.2.2.1
          go_wp2_with fail
          clear d0 d1 d2 d3 d4 d5 d6 e0 e1 e2 e3 e4 e5 e6
          refine (same_twice HF.out.1 H5.out.2.2.2.2 H5.out.2.2.2.1).mono ?_
          rintro e w6 ⟨rfl, b6⟩
          have H6 := Lib.hid (And.intro (H5.out.1.trans (b6.mono H5.out.1.size)) (And.intro ((b6.block gp (Array.getElem?_eq_some_iff.1 H5.out.2.1).1).trans H5.out.2.1) (And.intro ((b6.block gq (Array.getElem?_eq_some_iff.1 H5.out.2.2.1).1).trans H5.out.2.2.1) (And.intro (H5.out.2.2.2.1.below b6) (H5.out.2.2.2.2.below b6)))))
          clear b6
          go_wp2_with fail
          refine (lives9_yes w6).mono ?_
          rintro e w7 ⟨rfl, b7⟩
          have H7 := Lib.hid (And.intro (H6.out.1.trans (b7.mono H6.out.1.size)) (And.intro ((b7.block gp (Array.getElem?_eq_some_iff.1 H6.out.2.1).1).trans H6.out.2.1) (And.intro ((b7.block gq (Array.getElem?_eq_some_iff.1 H6.out.2.2.1).1).trans H6.out.2.2.1) (And.intro (H6.out.2.2.2.1.below b7) (H6.out.2.2.2.2.below b7)))))
          clear b7
          go_wp2_with fail
          go_ret
          exact ⟨rfl, H7.out.1⟩
end Go.Proofs.YtocnlapbkidinaaGreatDoor
