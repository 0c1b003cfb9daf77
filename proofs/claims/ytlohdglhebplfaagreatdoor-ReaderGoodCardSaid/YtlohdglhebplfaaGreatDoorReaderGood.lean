/-
  The law ReaderGood, walked.
-/
import Derived.Test.YtlohdglhebplfaaGreatDoorRdx6
import Derived.Test.YtlohdglhebplfaaGreatDoorRdx3
namespace Go.Proofs.YtlohdglhebplfaaGreatDoor
open Go.RowKit

theorem tD_next {ts : List LT} {k : Nat} (h : k < ts.length) (X W : ByteArray) (hX : X.data.toList = tD ((shapes ts).take k)) (hW : W = bytesOf (wN (shape ts[k]))) : (X ++ (W ++ (⟨#[10]⟩ : ByteArray))).data.toList = tD ((shapes ts).take (k + 1)) := by
  have hl : k < (shapes ts).length := by rw [shapes_length]; exact h
  have e : (shapes ts)[k] = shape ts[k] := by
    have : ∀ (l : List LT) (i : Nat) (h : i < l.length) (h' : i < (shapes l).length), (shapes l)[i] = shape l[i] := by
      intro l
      induction l with
      | nil => intro i h; cases h
      | cons t l ih =>
        intro i h h'
        cases i with
        | zero => simp [shapes_cons]
        | succ i => simp only [shapes_cons, List.getElem_cons_succ]; exact ih i _ _
    exact this ts k h hl
  rw [List.take_succ_eq_append_getElem hl, tD_snoc, ← hX, e, hW]
  simp [bytesOf]
theorem Fins.at {ts : List LT} (h : Fins ts) {k : Nat} (hk : k < ts.length) : FineD (shape ts[k]) ∧ ts[k].depth ≤ 200 ∧ ts[k].size ≤ 5000 := by
  obtain ⟨h1, h2, h3⟩ := h _ (shape_mem hk)
  rw [depthD_shape] at h2
  rw [sizeD_shape] at h3
  exact ⟨h1, h2, h3⟩
section
variable {w : World}
set_option maxRecDepth 100000 in
set_option maxHeartbeats 12800000 in
theorem good_core (s : ByteArray) (ht : Tabs w) (hs : s.size ≤ 1500) : Calls Tryz.prog 3 #[.string s] w fun E w' => E = .returned (.bool true) ∧ Below w.heap.size w w' := by
  have q1 : decide (1500 < (s.size : Int)) = false := decide_eq_false (by omega)
  have H := Lib.hid ht
  have HA := Lib.hid (readAll_any s (by omega) ht)
  clear ht
  go_enter Tryz.func3, Tryz.ntmps3
  go_wp2_with fail
  refine HA.out.mono ?_
  rintro E w1 ⟨V1, n1, e1, ts, rfl, b1, row1, tm1, sz1, fin1, hn1, p1⟩
  have hw1 := b1.size
  obtain ⟨ia, ic, hV, hsp, hli⟩ := row1.rows
  obtain ⟨m, hm⟩ : ∃ m, m = ts.length := ⟨_, rfl⟩
  have hml : m ≤ 3000 := by have := sizes_ge ts; omega
  have hend : e1 = 0 → n1 = s.size := fun h => by
    rcases p1 with ⟨_, _, h2⟩ | ⟨h2, _⟩
    · exact h2
    · exact absurd h h2
  have HR := Lib.hid (And.intro hsp (And.intro hli (And.intro tm1 (And.intro fin1 (And.intro b1 sz1)))))
  have HM := Lib.hid hm
  rw [← hm] at hV
  subst hV
  clear HA row1 p1 hsp hli tm1 fin1 b1 sz1 hm
  have q2 : decide ((n1 : Int) < 0) = false := decide_eq_false (by omega)
  by_cases he : e1 = 0
  · have hn := hend he
    subst he hn
    clear hend
    have q3 : decide ((s.size : Int) < (s.size : Int)) = false := decide_eq_false (by omega)
    go_wp2_with fail
    go_loopw [6, 42] (fun T i wr => ∃ (k : Nat) (X : ByteArray), k ≤ m ∧ i = .int .i64 k ∧ T = .string X ∧ X.size ≤ 30000001 * k ∧ Hid (X.data.toList = tD ((shapes ts).take k)) ∧ Below w1.heap.size w1 wr) (fun _ i _ => m - (intOf i).toNat)
    case atStart => exact ⟨0, ⟨#[]⟩, Nat.zero_le _, rfl, rfl, Nat.le_refl _, rfl, Below.refl _ _⟩
    case round =>
      obtain ⟨k, X, hk, rfl, rfl, hXs, HX, hbs⟩ := hrel
      by_cases hlt : k < m
      · obtain ⟨ab, ao, hae, hR1⟩ : ∃ ab ao, ia = some ⟨ab, ao, none⟩ ∧ LiesR w1 w1.heap.size ts ab ao := ⟨_, _, (HR.out.1.2.2.1 (by have := HM.out; omega)).1, HR.out.2.1⟩
        subst hae
        have hk1 : k < ts.length := by rw [← HM.out]; exact hlt
        obtain ⟨hgb, hcell, hheld⟩ := lies_held.1 (((liesR_iff _ _ _).1 hR1 k hk1).keep hbs.size (fun q hq => hbs.block q (by omega)))
        obtain ⟨hfi, hdi, hsi⟩ := HR.out.2.2.2.1.at hk1
        have hti := tameR_at ts k hk1 HR.out.2.2.1
        have HTD := Lib.hid (fun W => tD_next hk1 X W HX.out)
        obtain ⟨u, hu⟩ : ∃ u, ts[k] = u := ⟨_, rfl⟩
        rw [hu] at hcell hheld hfi hdi hsi hti HTD
        rw [Nat.mul_comm 7 k] at hcell
        have d0 : wr.cell? ⟨ab, ao + k * 7, none⟩ = some (.int .i64 u.k) := hcell 0 _ rfl
        have d1 : wr.cell? ⟨ab, ao + k * 7 + 1, none⟩ = some (.bool u.g) := hcell 1 _ rfl
        have d2 : wr.cell? ⟨ab, ao + k * 7 + 2, none⟩ = some (.slice u.la u.ln u.lc) := hcell 2 _ rfl
        have d3 : wr.cell? ⟨ab, ao + k * 7 + 3, none⟩ = some (.bool u.bb) := hcell 3 _ rfl
        have d4 : wr.cell? ⟨ab, ao + k * 7 + 4, none⟩ = some (.string u.s) := hcell 4 _ rfl
        have d5 : wr.cell? ⟨ab, ao + k * 7 + 5, none⟩ = some (.slice u.ia u.items.length u.ic) := hcell 5 _ rfl
        have d6 : wr.cell? ⟨ab, ao + k * 7 + 6, none⟩ = some (.slice u.ta u.tail.length u.tc) := hcell 6 _ rfl
        have hba : Below wr.heap.size wr (wr.alloc (Obj.cells #[.int .i64 u.k, .bool u.g, .slice u.la u.ln u.lc, .bool u.bb, .string u.s, .slice u.ia u.items.length u.ic, .slice u.ta u.tail.length u.tc] 31)) := (Below.refl _ _).alloc (Nat.le_refl _) _
        have hMs : w1.heap.size ≤ wr.heap.size := hbs.size
        obtain ⟨Wt, hWt⟩ : ∃ W, bytesOf (wN (shape u)) = W := ⟨_, rfl⟩
        have hWs : Wt.size ≤ 30000000 := by
          have h1 := wN_le _ hfi.allF
          rw [sizeD_shape] at h1
          rw [← hWt, bytesOf_size]
          omega
        have HWT := Lib.hid hWt.symm
        have HH := Lib.hid (fun W (hb : Below wr.heap.size wr W) => (hheld.below hMs hb))
        have HG := Lib.hid (rgood_fine w1.heap.size u hsi hdi hfi (wr.alloc (Obj.cells #[.int .i64 u.k, .bool u.g, .slice u.la u.ln u.lc, .bool u.bb, .string u.s, .slice u.ia u.items.length u.ic, .slice u.ta u.tail.length u.tc] 31)) (Nat.le_trans hMs hba.size) (HH.out _ hba))
        have HF := Lib.hid (And.intro hfi (And.intro hdi (And.intro hsi hti)))
        have HBA := Lib.hid hba
        have D := VarD.new wr u
        clear hgb hcell hheld hfi hdi hsi hti hR1 hk1 hu hba
        go_wp2_with fail
        refine HG.out.mono ?_
        rintro e w4 ⟨rfl, b4⟩
        replace D := D.next b4
        obtain ⟨c0, c1, c2, c3, c4, c5, c6⟩ := D.c
        have hb4 := bnext HBA.out b4
        have HWr := Lib.hid (rwrite_fine w1.heap.size u HF.out.2.2.1 HF.out.2.1 HF.out.2.2.2 HF.out.1 w4 (Nat.le_trans hMs hb4.size) (HH.out _ hb4))
        rw [hWt] at HWr
        have HB4 := Lib.hid hb4
        clear b4 hb4 d0 d1 d2 d3 d4 d5 d6 D hWt
        go_wp2_with fail
        refine HWr.out.mono ?_
        rintro e w5 ⟨rfl, b5⟩
        have hb5 := hbs.trans ((HB4.out.trans (b5.mono HB4.out.size)).mono hMs)
        have HX2 := Lib.hid (HTD.out _ HWT.out)
        have hXn : (X ++ (Wt ++ (⟨#[10]⟩ : ByteArray))).size ≤ 30000001 * (k + 1) := by rw [ByteArray.size_append, ByteArray.size_append, show (⟨#[10]⟩ : ByteArray).size = 1 from rfl]; omega
        clear b5 c0 c1 c2 c3 c4 c5 c6
        go_wp2_with fail
        go_roundw
        case rel => exact ⟨k + 1, _, by omega, by go_num, rfl, hXn, HX2, hb5⟩
        case measure => simp [intOf]; omega
      · have hkm : k = ts.length := by have := HM.out; omega
        have HXT := Lib.hid (show X.data.toList = tD (shapes ts) by have := HX.out; rw [hkm, List.take_of_length_le (by rw [shapes_length]; exact Nat.le_refl _)] at this; exact this)
        have hbw := HR.out.2.2.2.2.1.trans (hbs.mono HR.out.2.2.2.2.1.size)
        have HB := Lib.hid (And.intro hbs hbw)
        have HRB := Lib.hid (rdB_text (shapes ts) fun d hd => HR.out.2.2.2.1 d hd)
        clear hbs hbw HX hkm
        by_cases hlong : 16384 < X.size
        · have HK := Lib.hid (readAll_long (w := wr) X hlong)
          have q5 : decide (16384 < (X.size : Int)) = true := decide_eq_true (by omega)
          go_wp2_with fail
          refine HK.out.mono ?_
          rintro e w6 ⟨V2, n2, rfl, b6⟩
          have hb6 := HB.out.2.trans (b6.mono HB.out.2.size)
          have HL := Lib.hid (lives5_yes (H.out.below hb6))
          have HB6 := Lib.hid hb6
          clear b6 hb6
          go_wp2_with fail
          refine HL.out.mono ?_
          rintro e w7 ⟨rfl, b7⟩
          have hb7 := HB6.out.trans (b7.mono HB6.out.size)
          clear b7
          go_wp2_with fail
          go_ret
          exact ⟨rfl, hb7⟩
        · have q5 : decide (16384 < (X.size : Int)) = false := decide_eq_false (by omega)
          have HK := Lib.hid (readAll_from (w := wr) X (by omega) (fun l => ∃ M, RdB l M) ⟨_, by rw [HXT.out]; exact HRB.out⟩ (fun l m d r hl h1 h2 h3 => by obtain ⟨M, hM⟩ := hl; exact (hM.step h1 h2 h3).2) (fun l m d r hl h1 h2 h3 => by obtain ⟨M, hM⟩ := hl; exact (hM.step h1 h2 h3).1) (H.out.below HB.out.2))
          clear hlong
          go_wp2_with fail
          refine HK.out.mono ?_
          rintro e w6 ⟨V2, n2, e2, ts2, rfl, b6, row2, tm2, sz2, fin2, hn2, p2⟩
          have hA : RdA X.data.toList (shapes ts) := by rw [HXT.out]; exact HRB.out.rdA
          obtain ⟨rfl, hA2, -⟩ := p2.resolve_right fun h => h.2 _ hA
          have hsh := hA2.one hA
          obtain ⟨ja, jc, hV2, hsp2, hli2⟩ := row2.rows
          have hl2 : ts2.length = ts.length := by rw [← shapes_length, hsh, shapes_length]
          rw [hl2, ← HM.out] at hV2 hsp2
          subst hV2
          have hw6 := b6.size
          have hb6 := HB.out.2.trans (b6.mono HB.out.2.size)
          have hb16 := HB.out.1.trans (b6.mono HB.out.1.size)
          have hsm := same5_any (w := w6) w6.heap.size ts ts2 m ic jc ia ja HM.out.symm (by rw [hl2]; exact HM.out.symm) (by rw [fin2.trims, hsh]) ⟨HR.out.2.2.1, tm2⟩ (by have := HR.out.2.2.2.2.2; omega) (Nat.le_refl _)
            ⟨⟨by have := HR.out.1; rw [← HM.out] at this; exact this.mono hb16.size, (LiesR.keep hb16.size (fun q hq => hb16.block q hq) _ _ _ HR.out.2.1).mono hb16.size⟩, hsp2, hli2⟩
          have HSM := Lib.hid hsm
          have HB6 := Lib.hid hb6
          clear hsm hA hA2 hsh hsp2 hli2 row2 tm2 fin2 p2 b6 hb6 hb16
          go_wp2_with fail
          refine HSM.out.mono ?_
          rintro e w7 ⟨rfl, b7⟩
          have hb7 := HB6.out.trans (b7.mono HB6.out.size)
          have HL := Lib.hid (lives5_yes (H.out.below hb7))
          have HB7 := Lib.hid hb7
          clear b7 hb7
          go_wp2_with fail
          refine HL.out.mono ?_
          rintro e w8 ⟨rfl, b8⟩
          have hb8 := HB7.out.trans (b8.mono HB7.out.size)
          clear b8
          go_wp2_with fail
          go_ret
          exact ⟨rfl, hb8⟩
  · have q4 : decide (e1 = 0) = false := decide_eq_false he
    have q3 : decide ((s.size : Int) < (n1 : Int)) = false := decide_eq_false (by omega)
    have q3n : decide (s.size < n1) = false := decide_eq_false (by omega)
    clear hend
    go_wp2_with fail
    go_loopw [6, 42] (fun T i wr => ∃ (k : Nat) (X : ByteArray), k ≤ m ∧ i = .int .i64 k ∧ T = .string X ∧ X.size ≤ 30000001 * k ∧ Hid (X.data.toList = tD ((shapes ts).take k)) ∧ Below w1.heap.size w1 wr) (fun _ i _ => m - (intOf i).toNat)
    case atStart => exact ⟨0, ⟨#[]⟩, Nat.zero_le _, rfl, rfl, Nat.le_refl _, rfl, Below.refl _ _⟩
    case round =>
      obtain ⟨k, X, hk, rfl, rfl, hXs, HX, hbs⟩ := hrel
      by_cases hlt : k < m
      · obtain ⟨ab, ao, hae, hR1⟩ : ∃ ab ao, ia = some ⟨ab, ao, none⟩ ∧ LiesR w1 w1.heap.size ts ab ao := ⟨_, _, (HR.out.1.2.2.1 (by have := HM.out; omega)).1, HR.out.2.1⟩
        subst hae
        have hk1 : k < ts.length := by rw [← HM.out]; exact hlt
        obtain ⟨hgb, hcell, hheld⟩ := lies_held.1 (((liesR_iff _ _ _).1 hR1 k hk1).keep hbs.size (fun q hq => hbs.block q (by omega)))
        obtain ⟨hfi, hdi, hsi⟩ := HR.out.2.2.2.1.at hk1
        have hti := tameR_at ts k hk1 HR.out.2.2.1
        have HTD := Lib.hid (fun W => tD_next hk1 X W HX.out)
        obtain ⟨u, hu⟩ : ∃ u, ts[k] = u := ⟨_, rfl⟩
        rw [hu] at hcell hheld hfi hdi hsi hti HTD
        rw [Nat.mul_comm 7 k] at hcell
        have d0 : wr.cell? ⟨ab, ao + k * 7, none⟩ = some (.int .i64 u.k) := hcell 0 _ rfl
        have d1 : wr.cell? ⟨ab, ao + k * 7 + 1, none⟩ = some (.bool u.g) := hcell 1 _ rfl
        have d2 : wr.cell? ⟨ab, ao + k * 7 + 2, none⟩ = some (.slice u.la u.ln u.lc) := hcell 2 _ rfl
        have d3 : wr.cell? ⟨ab, ao + k * 7 + 3, none⟩ = some (.bool u.bb) := hcell 3 _ rfl
        have d4 : wr.cell? ⟨ab, ao + k * 7 + 4, none⟩ = some (.string u.s) := hcell 4 _ rfl
        have d5 : wr.cell? ⟨ab, ao + k * 7 + 5, none⟩ = some (.slice u.ia u.items.length u.ic) := hcell 5 _ rfl
        have d6 : wr.cell? ⟨ab, ao + k * 7 + 6, none⟩ = some (.slice u.ta u.tail.length u.tc) := hcell 6 _ rfl
        have hba : Below wr.heap.size wr (wr.alloc (Obj.cells #[.int .i64 u.k, .bool u.g, .slice u.la u.ln u.lc, .bool u.bb, .string u.s, .slice u.ia u.items.length u.ic, .slice u.ta u.tail.length u.tc] 31)) := (Below.refl _ _).alloc (Nat.le_refl _) _
        have hMs : w1.heap.size ≤ wr.heap.size := hbs.size
        obtain ⟨Wt, hWt⟩ : ∃ W, bytesOf (wN (shape u)) = W := ⟨_, rfl⟩
        have hWs : Wt.size ≤ 30000000 := by
          have h1 := wN_le _ hfi.allF
          rw [sizeD_shape] at h1
          rw [← hWt, bytesOf_size]
          omega
        have HWT := Lib.hid hWt.symm
        have HH := Lib.hid (fun W (hb : Below wr.heap.size wr W) => (hheld.below hMs hb))
        have HG := Lib.hid (rgood_fine w1.heap.size u hsi hdi hfi (wr.alloc (Obj.cells #[.int .i64 u.k, .bool u.g, .slice u.la u.ln u.lc, .bool u.bb, .string u.s, .slice u.ia u.items.length u.ic, .slice u.ta u.tail.length u.tc] 31)) (Nat.le_trans hMs hba.size) (HH.out _ hba))
        have HF := Lib.hid (And.intro hfi (And.intro hdi (And.intro hsi hti)))
        have HBA := Lib.hid hba
        have D := VarD.new wr u
        clear hgb hcell hheld hfi hdi hsi hti hR1 hk1 hu hba
        go_wp2_with fail
        refine HG.out.mono ?_
        rintro e w4 ⟨rfl, b4⟩
        replace D := D.next b4
        obtain ⟨c0, c1, c2, c3, c4, c5, c6⟩ := D.c
        have hb4 := bnext HBA.out b4
        have HWr := Lib.hid (rwrite_fine w1.heap.size u HF.out.2.2.1 HF.out.2.1 HF.out.2.2.2 HF.out.1 w4 (Nat.le_trans hMs hb4.size) (HH.out _ hb4))
        rw [hWt] at HWr
        have HB4 := Lib.hid hb4
        clear b4 hb4 d0 d1 d2 d3 d4 d5 d6 D hWt
        go_wp2_with fail
        refine HWr.out.mono ?_
        rintro e w5 ⟨rfl, b5⟩
        have hb5 := hbs.trans ((HB4.out.trans (b5.mono HB4.out.size)).mono hMs)
        have HX2 := Lib.hid (HTD.out _ HWT.out)
        have hXn : (X ++ (Wt ++ (⟨#[10]⟩ : ByteArray))).size ≤ 30000001 * (k + 1) := by rw [ByteArray.size_append, ByteArray.size_append, show (⟨#[10]⟩ : ByteArray).size = 1 from rfl]; omega
        clear b5 c0 c1 c2 c3 c4 c5 c6
        go_wp2_with fail
        go_roundw
        case rel => exact ⟨k + 1, _, by omega, by go_num, rfl, hXn, HX2, hb5⟩
        case measure => simp [intOf]; omega
      · have hkm : k = ts.length := by have := HM.out; omega
        have HXT := Lib.hid (show X.data.toList = tD (shapes ts) by have := HX.out; rw [hkm, List.take_of_length_le (by rw [shapes_length]; exact Nat.le_refl _)] at this; exact this)
        have hbw := HR.out.2.2.2.2.1.trans (hbs.mono HR.out.2.2.2.2.1.size)
        have HB := Lib.hid (And.intro hbs hbw)
        have HRB := Lib.hid (rdB_text (shapes ts) fun d hd => HR.out.2.2.2.1 d hd)
        clear hbs hbw HX hkm
        by_cases hlong : 16384 < X.size
        · have HK := Lib.hid (readAll_long (w := wr) X hlong)
          have q5 : decide (16384 < (X.size : Int)) = true := decide_eq_true (by omega)
          go_wp2_with fail
          refine HK.out.mono ?_
          rintro e w6 ⟨V2, n2, rfl, b6⟩
          have hb6 := HB.out.2.trans (b6.mono HB.out.2.size)
          have HL := Lib.hid (lives5_yes (H.out.below hb6))
          have HB6 := Lib.hid hb6
          clear b6 hb6
          go_wp2_with fail
          refine HL.out.mono ?_
          rintro e w7 ⟨rfl, b7⟩
          have hb7 := HB6.out.trans (b7.mono HB6.out.size)
          clear b7
          go_wp2_with fail
          go_ret
          exact ⟨rfl, hb7⟩
        · have q5 : decide (16384 < (X.size : Int)) = false := decide_eq_false (by omega)
          have HK := Lib.hid (readAll_from (w := wr) X (by omega) (fun l => ∃ M, RdB l M) ⟨_, by rw [HXT.out]; exact HRB.out⟩ (fun l m d r hl h1 h2 h3 => by obtain ⟨M, hM⟩ := hl; exact (hM.step h1 h2 h3).2) (fun l m d r hl h1 h2 h3 => by obtain ⟨M, hM⟩ := hl; exact (hM.step h1 h2 h3).1) (H.out.below HB.out.2))
          clear hlong
          go_wp2_with fail
          refine HK.out.mono ?_
          rintro e w6 ⟨V2, n2, e2, ts2, rfl, b6, row2, tm2, sz2, fin2, hn2, p2⟩
          have hA : RdA X.data.toList (shapes ts) := by rw [HXT.out]; exact HRB.out.rdA
          obtain ⟨rfl, hA2, -⟩ := p2.resolve_right fun h => h.2 _ hA
          have hsh := hA2.one hA
          obtain ⟨ja, jc, hV2, hsp2, hli2⟩ := row2.rows
          have hl2 : ts2.length = ts.length := by rw [← shapes_length, hsh, shapes_length]
          rw [hl2, ← HM.out] at hV2 hsp2
          subst hV2
          have hw6 := b6.size
          have hb6 := HB.out.2.trans (b6.mono HB.out.2.size)
          have hb16 := HB.out.1.trans (b6.mono HB.out.1.size)
          have hsm := same5_any (w := w6) w6.heap.size ts ts2 m ic jc ia ja HM.out.symm (by rw [hl2]; exact HM.out.symm) (by rw [fin2.trims, hsh]) ⟨HR.out.2.2.1, tm2⟩ (by have := HR.out.2.2.2.2.2; omega) (Nat.le_refl _)
            ⟨⟨by have := HR.out.1; rw [← HM.out] at this; exact this.mono hb16.size, (LiesR.keep hb16.size (fun q hq => hb16.block q hq) _ _ _ HR.out.2.1).mono hb16.size⟩, hsp2, hli2⟩
          have HSM := Lib.hid hsm
          have HB6 := Lib.hid hb6
          clear hsm hA hA2 hsh hsp2 hli2 row2 tm2 fin2 p2 b6 hb6 hb16
          go_wp2_with fail
          refine HSM.out.mono ?_
          rintro e w7 ⟨rfl, b7⟩
          have hb7 := HB6.out.trans (b7.mono HB6.out.size)
          have HL := Lib.hid (lives5_yes (H.out.below hb7))
          have HB7 := Lib.hid hb7
          clear b7 hb7
          go_wp2_with fail
          refine HL.out.mono ?_
          rintro e w8 ⟨rfl, b8⟩
          have hb8 := HB7.out.trans (b8.mono HB7.out.size)
          clear b8
          go_wp2_with fail
          go_ret
          exact ⟨rfl, hb8⟩
set_option maxRecDepth 100000 in
set_option maxHeartbeats 12800000 in
theorem readerGood_walk (s : ByteArray) (w : World) (_hs : s.size ≤ maxLen) (ht : Tabs w) : Calls Tryz.prog 3 #[.string s] w fun E w' => E = .returned (.bool true) ∧ Below w.heap.size w w' := by
  by_cases h : s.size ≤ 1500
  · exact good_core s ht h
  · have HL := Lib.hid (lives5_yes ht)
    have q1 : decide (1500 < (s.size : Int)) = true := decide_eq_true (by omega)
    clear ht
    go_enter Tryz.func3, Tryz.ntmps3
    go_wp2_with fail
    refine HL.out.mono ?_
    rintro E w6 ⟨rfl, b6⟩
    go_wp2_with fail
    go_ret
    exact ⟨rfl, b6⟩
end
end Go.Proofs.YtlohdglhebplfaaGreatDoor
