/-
  The law ReaderJoins, walked.
-/
import Derived.Test.YtlohdglhebplfaaDoorRdx5
import Derived.Test.YtlohdglhebplfaaDoorRdx3
namespace Go.Proofs.YtlohdglhebplfaaDoor
open Go.RowKit

theorem joined_text (a b : ByteArray) : (a ++ (⟨#[10]⟩ : ByteArray) ++ b).data.toList = a.data.toList ++ 10 :: b.data.toList := by simp
theorem joined_size (a b : ByteArray) : (a ++ (⟨#[10]⟩ : ByteArray) ++ b).size = a.size + 1 + b.size := by rw [ByteArray.size_append, ByteArray.size_append]; rfl
theorem tameR_two : ∀ {l m : List LT}, TameR l → TameR m → TameR (l ++ m)
  | [], _, _, h => h
  | t :: l, m, h, hm => by
    simp only [List.cons_append, TameR] at h ⊢
    exact ⟨h.1, tameR_two h.2 hm⟩
theorem AllP.append {w : World} {P : Nat → Prop} {l m : List LT} (h : AllP w P l) (g : AllP w P m) : AllP w P (l ++ m) := fun t ht => by
  rcases List.mem_append.1 ht with ht | ht
  · exact h t ht
  · exact g t ht
theorem shapes_nth_len {ts : List LT} {L : List DT} (h : shapes ts = L) : ts.length = L.length := by rw [← h, shapes_length]
section
variable {w : World}
set_option maxRecDepth 100000 in
set_option maxHeartbeats 12800000 in
theorem joins_core (a b : ByteArray) (ht : Tabs w) (h : a.size + b.size ≤ 1500) : Calls Tryd.prog 3 #[.string a, .string b] w fun E w' => E = .returned (.bool true) ∧ Below w.heap.size w w' := by
  have q1 : decide (1500 < (a.size : Int) + (b.size : Int)) = false := decide_eq_false (by omega)
  have q2 : decide (1500 < (a.size : Int)) = false := decide_eq_false (by omega)
  have H := Lib.hid ht
  have HA := Lib.hid (readAll_any a (by omega) ht)
  have hcs := joined_size a b
  obtain ⟨c, hc⟩ : ∃ c, a ++ (⟨#[10]⟩ : ByteArray) ++ b = c := ⟨_, rfl⟩
  have HCD := Lib.hid (show c.data.toList = a.data.toList ++ 10 :: b.data.toList by rw [← hc, joined_text])
  rw [hc] at hcs
  clear ht
  go_enter Tryd.func3, Tryd.ntmps3
  go_wp2_with fail
  refine HA.out.mono ?_
  rintro E w1 ⟨V1, n1, e1, ts1, rfl, b1, row1, tm1, sz1, fin1, hn1, p1⟩
  have HB := Lib.hid (readAll_any b (by omega) (H.out.below b1))
  have hw1 := b1.size
  have H1 := Lib.hid (And.intro b1 (And.intro row1 (And.intro tm1 (And.intro sz1 (And.intro fin1 p1)))))
  clear HA b1 row1 tm1 sz1 fin1 p1
  go_wp2_with fail
  refine HB.out.mono ?_
  rintro E w2 ⟨V2, n2, e2, ts2, rfl, b2, row2, tm2, sz2, fin2, hn2, p2⟩
  have hb2 := H1.out.1.trans (b2.mono H1.out.1.size)
  have hw2 := b2.size
  have HC := Lib.hid (readAll_any c (by omega) (H.out.below hb2))
  have H2 := Lib.hid (And.intro b2 (And.intro row2 (And.intro tm2 (And.intro sz2 (And.intro fin2 p2)))))
  have HB2 := Lib.hid hb2
  clear HB b2 row2 tm2 sz2 fin2 p2 hb2
  go_wp2_with fail
  refine HC.out.mono ?_
  rintro E w3 ⟨V3, n3, e3, ts3, rfl, b3, row3, tm3, sz3, fin3, hn3, p3⟩
  have hb3 := HB2.out.trans (b3.mono HB2.out.size)
  have hw3 := b3.size
  have hz0 : 0 < w.heap.size := by
    obtain ⟨⟨_, h⟩, _⟩ := H.out
    have := (Array.getElem?_eq_some_iff.1 h).1
    omega
  have H3 := Lib.hid (And.intro b3 (And.intro row3 (And.intro tm3 (And.intro sz3 (And.intro fin3 p3)))))
  have HB3 := Lib.hid hb3
  clear HC b3 row3 tm3 sz3 fin3 p3 hb3
  have HL3 := Lib.hid (lives5_yes (H.out.below HB3.out))
  by_cases he : e1 = 0
  · subst he
    by_cases hf : e2 = 0
    · subst hf
      have hA := (H1.out.2.2.2.2.2.resolve_right fun h => h.1 rfl).2.1
      have hB := (H2.out.2.2.2.2.2.resolve_right fun h => h.1 rfl).2.1
      have hj := hA.join hB
      rw [← HCD.out] at hj
      obtain ⟨rfl, hC, -⟩ := H3.out.2.2.2.2.2.resolve_right fun h => h.2 _ hj
      have hs := hC.one hj
      have HSH := Lib.hid (show shapes ts3 = shapes (ts1 ++ ts2) by rw [hs, shapes_append])
      clear hA hB hj hC hs HL3
      have h4s : (w3.alloc (.cells #[] 36)).heap.size = w3.heap.size + 1 := World.size_alloc ..
      have b34 : Below w3.heap.size w3 (w3.alloc (.cells #[] 36)) := (Below.refl _ _).alloc (Nat.le_refl _) _
      have hlit : (w3.alloc (.cells #[] 36)).ownsRow w3.heap.size 36 7 (.slice (some ⟨w3.heap.size, 0, none⟩) 0 0) ([] : List LT).length (cellsAll []) := World.ownsRow_lit (base := w3.heap.size) (size := 7) w3 #[] 0 (Nat.le_refl _) (by unfold maxLen; omega) rfl
      have h1r := (H1.out.2.1.below hz0 H2.out.1).below hz0 H3.out.1
      have h2r := H2.out.2.1.below (by omega) H3.out.1
      have hV2 : V2.ownBlock ≠ some w3.heap.size := fun e => by have := (h2r.1.lt _ e).2; omega
      have hl1 : ts1.length ≤ 4000 := by have := sizes_ge ts1; have := H1.out.2.2.2.1; omega
      have hl2 : ts2.length ≤ 4000 := by have := sizes_ge ts2; have := H2.out.2.2.2.1; omega
      have HO := Lib.hid (And.intro hlit (And.intro (h1r.below hz0 b34).1 (h2r.below (by omega) b34).1))
      have HR := Lib.hid (And.intro h1r (And.intro h2r (And.intro hV2 b34)))
      clear hlit b34 h1r h2r hV2
      go_wp2_with (at_builtin; first
        | (refine wpList_append_rowL rfl (.tmp 58) (.tmp 59) rfl w3.heap.size w.heap.size _ V1 [] ts1 rfl HO.out.1 rfl HO.out.2.1 (by rw [List.length_nil]; omega) (by omega) ?_; intro v5 w5 own5 grow5; have HO5 := Lib.hid (And.intro own5 (And.intro grow5 (HO.out.2.2.kept grow5 (.inr HR.out.2.2.1)))); have h5s := grow5.size; clear own5 grow5)
        | (refine wpList_append_rowL rfl (.tmp 60) (.tmp 61) rfl w3.heap.size w1.heap.size _ V2 ([] ++ ts1) ts2 rfl HO5.out.1 rfl HO5.out.2.2 (by rw [List.nil_append]; omega) (by omega) ?_; intro v6 w6 own6 grow6; have HO6 := Lib.hid (And.intro own6 grow6); have h6s := grow6.size; clear own6 grow6))
      rw [List.nil_append] at HO5 HO6
      have hk6 : ∀ q, q < w3.heap.size → w6.heap[q]? = w3.heap[q]? := fun q hq =>
        (HO6.out.2.block q (by omega) (fun e => by have := (HO5.out.1.lt q e.symm).1; omega)).trans ((HO5.out.2.1.block q (by omega) (fun e => by have e2 : q = w3.heap.size := Option.some.inj e; omega)).trans (HR.out.2.2.2.block q hq))
      have b36 : Below w3.heap.size w3 w6 := ⟨HO6.out.2.os.trans (HO5.out.2.1.os.trans HR.out.2.2.2.os), HO6.out.2.tape.trans (HO5.out.2.1.tape.trans HR.out.2.2.2.tape), HO6.out.2.output.trans (HO5.out.2.1.output.trans HR.out.2.2.2.output), by omega, hk6⟩
      obtain ⟨ia, ic, hV6, hsp6, hli6⟩ := own_rows HO6.out.1 (HR.out.1.all.append HR.out.2.1.all) hk6 (by omega) (Nat.le_refl _)
      obtain ⟨ja, jc, hV3, hsp3, hli3⟩ := H3.out.2.1.rows.below (Nat.le_refl _) b36
      obtain ⟨m, hm⟩ : ∃ m, m = (ts1 ++ ts2).length := ⟨_, rfl⟩
      have hm3 : ts3.length = m := by rw [hm, ← shapes_length, HSH.out, shapes_length]
      rw [← hm] at hV6 hsp6
      rw [hm3] at hV3 hsp3
      have hfin : Fins (ts1 ++ ts2) := fun x hx => by
        rw [shapes_append] at hx
        rcases List.mem_append.1 hx with hx | hx
        · exact H1.out.2.2.2.2.1 x hx
        · exact H2.out.2.2.2.2.1 x hx
      have htam : TameR (ts1 ++ ts2) := tameR_two H1.out.2.2.1 H2.out.2.2.1
      have hsm := same5_any (w := w6) w6.heap.size ts3 (ts1 ++ ts2) m jc ic ja ia hm3 hm.symm (by rw [hfin.trims, HSH.out]) ⟨H3.out.2.2.1, htam⟩ (by have := H3.out.2.2.2.1; omega) (Nat.le_refl _) ⟨⟨hsp3.mono b36.size, hli3.mono b36.size⟩, hsp6, hli6⟩
      have hb6 := HB3.out.trans (b36.mono HB3.out.size)
      have HSM := Lib.hid hsm
      have HB6 := Lib.hid hb6
      subst hV6 hV3
      clear hsm hb6 hsp3 hli3 hsp6 hli6 hfin htam b36 hk6
      refine HSM.out.mono ?_
      rintro E w7 ⟨rfl, b7⟩
      have hb7 := HB6.out.trans (b7.mono HB6.out.size)
      have HL := Lib.hid (lives5_yes (H.out.below hb7))
      have HB7 := Lib.hid hb7
      clear b7 hb7
      go_wp2_with fail
      refine HL.out.mono ?_
      rintro E w8 ⟨rfl, b8⟩
      have hb8 := HB7.out.trans (b8.mono HB7.out.size)
      clear b8
      go_wp2_with fail
      go_ret
      exact ⟨rfl, hb8⟩
    · have f1 : decide (e2 = 0) = false := decide_eq_false hf
      go_wp2_with fail
      refine HL3.out.mono ?_
      rintro E w8 ⟨rfl, b8⟩
      have hb8 := HB3.out.trans (b8.mono HB3.out.size)
      clear b8
      go_wp2_with fail
      go_ret
      exact ⟨rfl, hb8⟩
  · have f1 : decide (e1 = 0) = false := decide_eq_false he
    go_wp2_with fail
    refine HL3.out.mono ?_
    rintro E w8 ⟨rfl, b8⟩
    have hb8 := HB3.out.trans (b8.mono HB3.out.size)
    clear b8
    go_wp2_with fail
    go_ret
    exact ⟨rfl, hb8⟩
set_option maxRecDepth 100000 in
set_option maxHeartbeats 12800000 in
theorem joins_early (a b : ByteArray) (ht : Tabs w) (h9 : a.size + b.size ≤ 9223372036854775807) (h : 1500 < a.size + b.size) : Calls Tryd.prog 3 #[.string a, .string b] w fun E w' => E = .returned (.bool true) ∧ Below w.heap.size w w' := by
  have HL := Lib.hid (lives5_yes ht)
  clear ht
  have q1 : decide (1500 < (a.size : Int) + (b.size : Int)) = true := decide_eq_true (by omega)
  go_enter Tryd.func3, Tryd.ntmps3
  go_wp2_with fail
  refine HL.out.mono ?_
  rintro E w6 ⟨rfl, b6⟩
  go_wp2_with fail
  go_ret
  exact ⟨rfl, b6⟩
/-- No string that came in is longer than what a process may hold. -/
theorem readerJoins_walk (a b : ByteArray) (w : World) (ha : a.size ≤ 140737488351232) (hb : b.size ≤ 140737488351232) (ht : Tabs w) : Calls Tryd.prog 3 #[.string a, .string b] w fun E w' => E = .returned (.bool true) ∧ Below w.heap.size w w' := by
  by_cases h : a.size + b.size ≤ 1500
  · exact joins_core a b ht h
  · exact joins_early a b ht (by omega) (by omega)
end
end Go.Proofs.YtlohdglhebplfaaDoor
