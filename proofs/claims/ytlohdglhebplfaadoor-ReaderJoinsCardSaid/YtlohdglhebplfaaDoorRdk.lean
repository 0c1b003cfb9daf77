/-
  The reader: atoms.
-/
import Derived.Test.YtlohdglhebplfaaDoorRdj
namespace Go.Proofs.YtlohdglhebplfaaDoor
open Go.RowKit

/-- The table of quotes lies where it is laid. -/
def QuT (w : World) : Prop := ∃ t, w.heap[0]? = some (.cells #[.string ⟨#[39]⟩, .string ⟨#[113, 117, 111, 116, 101]⟩, .string ⟨#[96]⟩, .string ⟨#[113, 117, 97, 115, 105, 113, 117, 111, 116, 101]⟩, .string ⟨#[44, 64]⟩, .string ⟨#[117, 110, 113, 117, 111, 116, 101, 45, 115, 112, 108, 105, 99, 105, 110, 103]⟩, .string ⟨#[44]⟩, .string ⟨#[117, 110, 113, 117, 111, 116, 101]⟩] t (0, 0))
/-- The three tables that the reader looks at. -/
def Tabs (w : World) : Prop := Tab w ∧ MkT w ∧ QuT w
/-- The reader's block is none of the tables'. -/
def Off (R : Nat) : Prop := 2 ≠ R ∧ 1 ≠ R ∧ 0 ≠ R
theorem Tabs.kept {R : Nat} {w w' : World} (h : Tabs w) (hR : Off R) (hk : Kept R w w') : Tabs w' := by
  obtain ⟨⟨t1, h1⟩, ⟨t2, h2⟩, ⟨t3, h3⟩⟩ := h
  have lt : ∀ {i : Nat} {o : Obj}, w.heap[i]? = some o → i < w.heap.size := fun e => (Array.getElem?_eq_some_iff.1 e).1
  exact ⟨⟨t1, (hk.2 _ (lt h1) hR.1).trans h1⟩, ⟨t2, (hk.2 _ (lt h2) hR.2.1).trans h2⟩, ⟨t3, (hk.2 _ (lt h3) hR.2.2).trans h3⟩⟩
theorem Tabs.below {w w' : World} (h : Tabs w) (hb : Below w.heap.size w w') : Tabs w' := by
  obtain ⟨⟨t1, h1⟩, ⟨t2, h2⟩, ⟨t3, h3⟩⟩ := h
  have lt : ∀ {i : Nat} {o : Obj}, w.heap[i]? = some o → i < w.heap.size := fun e => (Array.getElem?_eq_some_iff.1 e).1
  exact ⟨⟨t1, (hb.block _ (lt h1)).trans h1⟩, ⟨t2, (hb.block _ (lt h2)).trans h2⟩, ⟨t3, (hb.block _ (lt h3)).trans h3⟩⟩
set_option maxHeartbeats 1600000 in
theorem clone_str (s : ByteArray) (w : World) (hlim : s.size ≤ 281474976710656) : Calls Tryd.prog 48 #[.string s] w fun e w' => e = .returned (.string s) ∧ Below w.heap.size w w' := by
  have H := Lib.hid (sclone_any s w hlim)
  go_enter Tryd.func48, Tryd.ntmps48
  go_wp2_with (go_at_call 69; refine H.out.mono ?_; rintro E w' ⟨rfl, hb⟩)
  go_ret
  exact ⟨rfl, hb⟩
theorem aheadL_len (l : By) : (aheadL l).length ≤ l.length := by
  have := drop_take_len (fun c => !(isBl c || isMk c)) l
  unfold aheadL; omega
theorem str_is {a : ByteArray} {l : By} (h : a.data.toList = l) : (a.toList == l) = true := by rw [Lib.toList_data, h]; simp
theorem str_not {a : ByteArray} {l : By} (h : a.data.toList ≠ l) : (a.toList == l) = false := by rw [Lib.toList_data]; exact beq_false_of_ne h
section
variable {w : World} {R p k : Nat} {s : ByteArray}
set_option maxRecDepth 100000 in
set_option maxHeartbeats 6400000 in
theorem atom_any (h : Rdr w R s p 0 k) (ht : Tabs w) (hR : Off R) (hp : p < s.size) (hs : s.size ≤ 16384) (ha : aheadL (rsB s p) ≠ []) : Calls Tryd.prog 26 #[.pointer (some ⟨R, 0, none⟩)] w (DatPost s R p k w (atomL (rsB s p))) := by
  have hRl := h.lt
  have hr1 := h.alloc (Obj.cells #[.int .i64 0, .bool false, .slice none 0 0, .bool false, .string ⟨#[]⟩, .slice none 0 0, .slice none 0 0] 36)
  have ht1 : Tabs (w.alloc (Obj.cells #[.int .i64 0, .bool false, .slice none 0 0, .bool false, .string ⟨#[]⟩, .slice none 0 0, .slice none 0 0] 36)) := ht.below ((Below.refl _ w).alloc (Nat.le_refl _) _)
  obtain ⟨c0, c1, c2, c3⟩ := hr1.c
  have HA := Lib.hid (fun n => ahead_any (hr1.drewN n) (show MkT ((w.alloc (Obj.cells #[.int .i64 0, .bool false, .slice none 0 0, .bool false, .string ⟨#[]⟩, .slice none 0 0, .slice none 0 0] 36)).drewN n) from ht1.2.1) (by omega) hs)
  have hal := aheadL_len (rsB s p)
  rw [rsB_len] at hal
  unfold atomL
  dsimp only
  generalize hl : aheadL (rsB s p) = l at *
  have hlp : 0 < l.length := List.length_pos_iff.2 ha
  have hrest : (rsB s p).drop l.length = rsB s (p + l.length) := rsB_drop ..
  rw [hrest]
  obtain ⟨r, hr⟩ : ∃ r : Res, r = (if l = [35, 116] ∨ l = [35, 116, 114, 117, 101] then .ok (truthD true) (rsB s (p + l.length)) else if l = [35, 102] ∨ l = [35, 102, 97, 108, 115, 101] then .ok (truthD false) (rsB s (p + l.length)) else if (zpar l).1 = true ∧ (limbs (zpar l).2.natAbs).length ≤ 64 then .ok (numD (zpar l).2) (rsB s (p + l.length)) else if plainB (bytesOf l) = true then .ok (symD l) (rsB s (p + l.length)) else .bad errRead (rsB s p)) := ⟨_, rfl⟩
  rw [← hr]
  have HRS := Lib.hid hr
  clear hr
  have H := Lib.hid (And.intro hr1 ht1)
  have HL := Lib.hid hl
  clear h hr1 ht1 ht ha hrest hl
  have hbo : (bytesOf l).size = l.length := rfl
  have hbl : (bytesOf l).data.toList = l := rfl
  go_enter Tryd.func26, Tryd.ntmps26
  go_wp2_with fail
  go_quiet ((go_at_call 40; exact Calls.quiet_of (HA.out _)))
  have hk1 : Kept R w ((w.alloc (Obj.cells #[.int .i64 0, .bool false, .slice none 0 0, .bool false, .string ⟨#[]⟩, .slice none 0 0, .slice none 0 0] 36)).drewN nq) := ((Kept.rfl' R _).drewN nq).first
  have hr1 := H.out.1.drewN nq
  have hz1 : ((w.alloc (Obj.cells #[.int .i64 0, .bool false, .slice none 0 0, .bool false, .string ⟨#[]⟩, .slice none 0 0, .slice none 0 0] 36)).drewN nq).heap[w.heap.size]? = some (Obj.cells #[.int .i64 0, .bool false, .slice none 0 0, .bool false, .string ⟨#[]⟩, .slice none 0 0, .slice none 0 0] 36) := z_alloc w
  have ht1 : Tabs ((w.alloc (Obj.cells #[.int .i64 0, .bool false, .slice none 0 0, .bool false, .string ⟨#[]⟩, .slice none 0 0, .slice none 0 0] 36)).drewN nq) := H.out.2
  generalize (w.alloc (Obj.cells #[.int .i64 0, .bool false, .slice none 0 0, .bool false, .string ⟨#[]⟩, .slice none 0 0, .slice none 0 0] 36)).drewN nq = W at *
  clear c0 c1 c2 c3
  obtain ⟨c0, c1, c2, c3⟩ := hr1.c
  obtain ⟨f1, f2, f3⟩ := hr1.f
  have HI := Lib.hid (And.intro (hr1.set1 (q := p + l.length) ((p : Int) + l.length) (by omega)) (And.intro (hk1.set ⟨R, 1, none⟩ (.int .i64 ((p : Int) + l.length)) rfl) (And.intro ((Below.heap_setCell W ⟨R, 1, none⟩ (.int .i64 ((p : Int) + l.length)) w.heap.size (by show w.heap.size ≠ R; omega)).trans hz1) (ht1.kept hR ((Kept.rfl' R W).set ⟨R, 1, none⟩ (.int .i64 ((p : Int) + l.length)) rfl)))))
  clear hr1 hk1 hz1 ht1 H HA
  by_cases t1 : l = [35, 116] ∨ l = [35, 116, 114, 117, 101]
  · obtain rfl : r = _ := HRS.out.trans (if_pos t1)
    by_cases t2 : l = [35, 116]
    · have e1 := str_is (a := bytesOf l) t2
      clear t1 t2
      have HT := Lib.hid (truth_any true (W.setCell ⟨R, 1, none⟩ (.int .i64 ((p : Int) + l.length))))
      go_wp2_with (go_at_call 45; refine HT.out.mono ?_; rintro E w' ⟨rfl, hb⟩; obtain ⟨⟨d0, d1, d2, d3, d4, d5, d6⟩, g0, g1, g2, g3, g4, g5, g6⟩ := seven (z_onto HI.out.2.2.1 hb (Array.getElem?_eq_some_iff.1 HI.out.2.2.1).1); have HB := Lib.hid hb; clear hb)
      exact dt_ret rfl rfl rfl rfl (z_onto HI.out.2.2.1 HB.out (Array.getElem?_eq_some_iff.1 HI.out.2.2.1).1) (datPost_ok (u := leafT 2 true ⟨#[]⟩) rfl hRl (HI.out.2.1.onto HB.out) (HI.out.1.next HB.out HI.out.1.lt) (leafT_held _ _ _ _ _ (by decide)) (leafT_shape ..) (leafT_tame ..) (by omega) (by omega) (by rw [leafT_size]; omega))
    · have e1 := str_not (a := bytesOf l) t2
      have e2 := str_is (a := bytesOf l) (t1.resolve_left t2)
      clear t1 t2
      have HT := Lib.hid (truth_any true (W.setCell ⟨R, 1, none⟩ (.int .i64 ((p : Int) + l.length))))
      go_wp2_with (go_at_call 45; refine HT.out.mono ?_; rintro E w' ⟨rfl, hb⟩; obtain ⟨⟨d0, d1, d2, d3, d4, d5, d6⟩, g0, g1, g2, g3, g4, g5, g6⟩ := seven (z_onto HI.out.2.2.1 hb (Array.getElem?_eq_some_iff.1 HI.out.2.2.1).1); have HB := Lib.hid hb; clear hb)
      exact dt_ret rfl rfl rfl rfl (z_onto HI.out.2.2.1 HB.out (Array.getElem?_eq_some_iff.1 HI.out.2.2.1).1) (datPost_ok (u := leafT 2 true ⟨#[]⟩) rfl hRl (HI.out.2.1.onto HB.out) (HI.out.1.next HB.out HI.out.1.lt) (leafT_held _ _ _ _ _ (by decide)) (leafT_shape ..) (leafT_tame ..) (by omega) (by omega) (by rw [leafT_size]; omega))
  · have HRS := Lib.hid (HRS.out.trans (if_neg t1))
    have e1 := str_not (a := bytesOf l) (fun h => t1 (.inl h))
    have e2 := str_not (a := bytesOf l) (fun h => t1 (.inr h))
    clear t1
    by_cases t1 : l = [35, 102] ∨ l = [35, 102, 97, 108, 115, 101]
    · obtain rfl : r = _ := HRS.out.trans (if_pos t1)
      by_cases t2 : l = [35, 102]
      · have e3 := str_is (a := bytesOf l) t2
        clear t1 t2
        have HT := Lib.hid (truth_any false (W.setCell ⟨R, 1, none⟩ (.int .i64 ((p : Int) + l.length))))
        go_wp2_with (go_at_call 45; refine HT.out.mono ?_; rintro E w' ⟨rfl, hb⟩; obtain ⟨⟨d0, d1, d2, d3, d4, d5, d6⟩, g0, g1, g2, g3, g4, g5, g6⟩ := seven (z_onto HI.out.2.2.1 hb (Array.getElem?_eq_some_iff.1 HI.out.2.2.1).1); have HB := Lib.hid hb; clear hb)
        exact dt_ret rfl rfl rfl rfl (z_onto HI.out.2.2.1 HB.out (Array.getElem?_eq_some_iff.1 HI.out.2.2.1).1) (datPost_ok (u := leafT 2 false ⟨#[]⟩) rfl hRl (HI.out.2.1.onto HB.out) (HI.out.1.next HB.out HI.out.1.lt) (leafT_held _ _ _ _ _ (by decide)) (leafT_shape ..) (leafT_tame ..) (by omega) (by omega) (by rw [leafT_size]; omega))
      · have e3 := str_not (a := bytesOf l) t2
        have e4 := str_is (a := bytesOf l) (t1.resolve_left t2)
        clear t1 t2
        have HT := Lib.hid (truth_any false (W.setCell ⟨R, 1, none⟩ (.int .i64 ((p : Int) + l.length))))
        go_wp2_with (go_at_call 45; refine HT.out.mono ?_; rintro E w' ⟨rfl, hb⟩; obtain ⟨⟨d0, d1, d2, d3, d4, d5, d6⟩, g0, g1, g2, g3, g4, g5, g6⟩ := seven (z_onto HI.out.2.2.1 hb (Array.getElem?_eq_some_iff.1 HI.out.2.2.1).1); have HB := Lib.hid hb; clear hb)
        exact dt_ret rfl rfl rfl rfl (z_onto HI.out.2.2.1 HB.out (Array.getElem?_eq_some_iff.1 HI.out.2.2.1).1) (datPost_ok (u := leafT 2 false ⟨#[]⟩) rfl hRl (HI.out.2.1.onto HB.out) (HI.out.1.next HB.out HI.out.1.lt) (leafT_held _ _ _ _ _ (by decide)) (leafT_shape ..) (leafT_tame ..) (by omega) (by omega) (by rw [leafT_size]; omega))
    · have HRS := Lib.hid (HRS.out.trans (if_neg t1))
      have e3 := str_not (a := bytesOf l) (fun h => t1 (.inl h))
      have e4 := str_not (a := bytesOf l) (fun h => t1 (.inr h))
      clear t1
      have HP := Lib.hid (wparse_spec (bytesOf l) (by unfold maxLen; omega) (W.setCell ⟨R, 1, none⟩ (.int .i64 ((p : Int) + l.length))))
      have hz : zparB (bytesOf l) = zpar l := rfl
      rw [hz] at HP
      clear hz
      generalize (zpar l).1 = ok at *
      generalize (zpar l).2 = z at *
      by_cases hA : ok = true ∧ (limbs z.natAbs).length ≤ 64
      · obtain rfl : r = _ := HRS.out.trans (if_pos hA)
        obtain ⟨rfl, hlim⟩ := hA
        go_wp2_with (go_at_call 46; refine HP.out.mono ?_; rintro E w1 ⟨v, rfl, ⟨xx, rfl, A, n, c, rfl, hsl, hor⟩, b1⟩; have HV := Lib.hid (And.intro hsl (And.intro hor b1)); have hnn : n ≤ 64 := Nat.le_trans (Nat.le_of_eq hsl.len) hlim; have hz4 := (Below.heap_alloc w1 (.cells #[.bool (decide (z < 0)), .slice A n c] 34) w.heap.size (by have := b1.size; have := (Array.getElem?_eq_some_iff.1 HI.out.2.2.1).1; omega)).trans (z_onto HI.out.2.2.1 b1 (Array.getElem?_eq_some_iff.1 HI.out.2.2.1).1); obtain ⟨⟨d0, d1, d2, d3, d4, d5, d6⟩, g0, g1, g2, g3, g4, g5, g6⟩ := seven hz4; have HZ4 := Lib.hid hz4; clear hsl hor b1 hz4 c0 c1 c2 c3 f1 f2 f3)
        have hb2 := (Below.refl w1.heap.size w1).alloc (Nat.le_refl _) (.cells #[.bool (decide (z < 0)), .slice A n c] 34)
        have hDl := (Array.getElem?_eq_some_iff.1 HI.out.2.2.1).1
        refine dt_ret rfl rfl rfl rfl HZ4.out (datPost_ok (p := p) (q := p + l.length) (u := plainT 1 (decide (z < 0)) A n c (limbs z.natAbs) false ⟨#[]⟩) rfl hRl ((HI.out.2.1.onto HV.out.2.2).onto hb2) ((HI.out.1.next HV.out.2.2 HI.out.1.lt).alloc _) (plainT_held ⟨HV.out.1.below hb2, fun hpos => ?_, by decide⟩) (plainT_shape ..) (by simp only [plainT, Tame, TameR]; exact ⟨by omega, trivial, trivial⟩) (by omega) (by omega) (by rw [LT.size_eq]; simp [plainT, LT.items, LT.tail, sizes]; omega))
        rcases HV.out.2.1 with ⟨h1, h2⟩ | ⟨g, cur, rfl, hg, hgc, _⟩
        · have h3 := HV.out.1.le
          omega
        · exact Fresh.of (by have : w.heap.size < (W.setCell ⟨R, 1, none⟩ (.int .i64 ((p : Int) + l.length))).heap.size := hDl; show w.heap.size + 1 ≤ g; omega) ((hb2.block g (Array.getElem?_eq_some_iff.1 hgc).1).trans hgc) (by decide)
      · have HRS := Lib.hid (HRS.out.trans (if_neg hA))
        by_cases hpl : plainB (bytesOf l) = true
        · obtain rfl : r = _ := HRS.out.trans (if_pos hpl)
          cases hok : ok with
          | false =>
            rw [hok] at HP
            clear hok hA
            go_wp2_with (first | (go_at_call 46; refine HP.out.mono ?_; rintro E w1 ⟨v, rfl, ⟨xx, rfl, A, n, c, rfl, hsl, hor⟩, b1⟩; have HV := Lib.hid (And.intro hsl (And.intro hor b1)); have hnn : n = (limbs z.natAbs).length := hsl.len; clear hsl hor b1 c0 c1 c2 c3 f1 f2 f3) | (go_at_call 47; refine (plain_any (bytesOf l) _ ((HI.out.2.2.2.below HV.out.2.2).below ((Below.refl _ _).alloc (Nat.le_refl _) _)).1 (by omega)).mono ?_; rintro E w' ⟨rfl, rfl⟩) | (go_at_call 48; refine (clone_str (bytesOf l) _ (by omega)).mono ?_; rintro E w3 ⟨rfl, hb3⟩; have HB3 := Lib.hid ((HV.out.2.2.trans ((Below.refl _ _).alloc HV.out.2.2.size _)).trans (hb3.mono (by rw [World.size_alloc]; have := HV.out.2.2.size; omega))); clear hb3) | (go_at_call 42; refine (symbol_any (bytesOf l) _).mono ?_; rintro E w4 ⟨rfl, hb4⟩; have HB4 := Lib.hid (HB3.out.trans (hb4.mono HB3.out.size)); clear hb4; obtain ⟨⟨d0, d1, d2, d3, d4, d5, d6⟩, g0, g1, g2, g3, g4, g5, g6⟩ := seven (z_onto HI.out.2.2.1 HB4.out (Array.getElem?_eq_some_iff.1 HI.out.2.2.1).1)))
            exact dt_ret rfl rfl rfl rfl (z_onto HI.out.2.2.1 HB4.out (Array.getElem?_eq_some_iff.1 HI.out.2.2.1).1) (datPost_ok (u := leafT 3 false (bytesOf l)) rfl hRl (HI.out.2.1.onto HB4.out) (HI.out.1.next HB4.out HI.out.1.lt) (leafT_held _ _ _ _ _ (by unfold maxLen; omega)) (leafT_shape ..) (leafT_tame ..) (by omega) (by omega) (by rw [leafT_size]; omega))
          | true =>
            rw [hok] at HP
            have hgt : ¬ (limbs z.natAbs).length ≤ 64 := fun h => hA ⟨hok, h⟩
            clear hok hA
            go_wp2_with (first | (go_at_call 46; refine HP.out.mono ?_; rintro E w1 ⟨v, rfl, ⟨xx, rfl, A, n, c, rfl, hsl, hor⟩, b1⟩; have HV := Lib.hid (And.intro hsl (And.intro hor b1)); have hnn : n = (limbs z.natAbs).length := hsl.len; clear hsl hor b1 c0 c1 c2 c3 f1 f2 f3) | (go_at_call 47; refine (plain_any (bytesOf l) _ ((HI.out.2.2.2.below HV.out.2.2).below ((Below.refl _ _).alloc (Nat.le_refl _) _)).1 (by omega)).mono ?_; rintro E w' ⟨rfl, rfl⟩) | (go_at_call 48; refine (clone_str (bytesOf l) _ (by omega)).mono ?_; rintro E w3 ⟨rfl, hb3⟩; have HB3 := Lib.hid ((HV.out.2.2.trans ((Below.refl _ _).alloc HV.out.2.2.size _)).trans (hb3.mono (by rw [World.size_alloc]; have := HV.out.2.2.size; omega))); clear hb3) | (go_at_call 42; refine (symbol_any (bytesOf l) _).mono ?_; rintro E w4 ⟨rfl, hb4⟩; have HB4 := Lib.hid (HB3.out.trans (hb4.mono HB3.out.size)); clear hb4; obtain ⟨⟨d0, d1, d2, d3, d4, d5, d6⟩, g0, g1, g2, g3, g4, g5, g6⟩ := seven (z_onto HI.out.2.2.1 HB4.out (Array.getElem?_eq_some_iff.1 HI.out.2.2.1).1)))
            exact dt_ret rfl rfl rfl rfl (z_onto HI.out.2.2.1 HB4.out (Array.getElem?_eq_some_iff.1 HI.out.2.2.1).1) (datPost_ok (u := leafT 3 false (bytesOf l)) rfl hRl (HI.out.2.1.onto HB4.out) (HI.out.1.next HB4.out HI.out.1.lt) (leafT_held _ _ _ _ _ (by unfold maxLen; omega)) (leafT_shape ..) (leafT_tame ..) (by omega) (by omega) (by rw [leafT_size]; omega))
        · obtain rfl : r = _ := HRS.out.trans (if_neg hpl)
          have hpl : plainB (bytesOf l) = false := by simpa using hpl
          cases hok : ok with
          | false =>
            rw [hok] at HP
            clear hok hA
            go_wp2_with (first | (go_at_call 46; refine HP.out.mono ?_; rintro E w1 ⟨v, rfl, ⟨xx, rfl, A, n, c, rfl, hsl, hor⟩, b1⟩; have HV := Lib.hid (And.intro hsl (And.intro hor b1)); have hnn : n = (limbs z.natAbs).length := hsl.len; clear hsl hor b1 c0 c1 c2 c3 f1 f2 f3) | (go_at_call 47; refine (plain_any (bytesOf l) _ ((HI.out.2.2.2.below HV.out.2.2).below ((Below.refl _ _).alloc (Nat.le_refl _) _)).1 (by omega)).mono ?_; rintro E w' ⟨rfl, rfl⟩) | (go_at_call 18; refine (none_any ((HI.out.1.next HV.out.2.2 HI.out.1.lt).alloc _) 4 p).mono ?_; rintro E w4 ⟨rfl, hr4, hk4⟩; have HB4 := Lib.hid (And.intro hr4 (((HI.out.2.1.onto HV.out.2.2).onto ((Below.refl _ _).alloc (Nat.le_refl _) _)).trans hk4)); have hz4 := (hk4.2 w.heap.size (by rw [World.size_alloc]; have := HV.out.2.2.size; have := (Array.getElem?_eq_some_iff.1 HI.out.2.2.1).1; omega) (by omega)).trans ((Below.heap_alloc _ _ _ (by have := HV.out.2.2.size; have := (Array.getElem?_eq_some_iff.1 HI.out.2.2.1).1; omega)).trans (z_onto HI.out.2.2.1 HV.out.2.2 (Array.getElem?_eq_some_iff.1 HI.out.2.2.1).1)); obtain ⟨⟨d0, d1, d2, d3, d4, d5, d6⟩, g0, g1, g2, g3, g4, g5, g6⟩ := seven hz4; have HZ4 := Lib.hid hz4; clear hr4 hk4 hz4))
            exact dt_ret rfl rfl rfl rfl HZ4.out (datPost_bad rfl hRl HB4.out.2 HB4.out.1 (by omega))
          | true =>
            rw [hok] at HP
            have hgt : ¬ (limbs z.natAbs).length ≤ 64 := fun h => hA ⟨hok, h⟩
            clear hok hA
            go_wp2_with (first | (go_at_call 46; refine HP.out.mono ?_; rintro E w1 ⟨v, rfl, ⟨xx, rfl, A, n, c, rfl, hsl, hor⟩, b1⟩; have HV := Lib.hid (And.intro hsl (And.intro hor b1)); have hnn : n = (limbs z.natAbs).length := hsl.len; clear hsl hor b1 c0 c1 c2 c3 f1 f2 f3) | (go_at_call 47; refine (plain_any (bytesOf l) _ ((HI.out.2.2.2.below HV.out.2.2).below ((Below.refl _ _).alloc (Nat.le_refl _) _)).1 (by omega)).mono ?_; rintro E w' ⟨rfl, rfl⟩) | (go_at_call 18; refine (none_any ((HI.out.1.next HV.out.2.2 HI.out.1.lt).alloc _) 4 p).mono ?_; rintro E w4 ⟨rfl, hr4, hk4⟩; have HB4 := Lib.hid (And.intro hr4 (((HI.out.2.1.onto HV.out.2.2).onto ((Below.refl _ _).alloc (Nat.le_refl _) _)).trans hk4)); have hz4 := (hk4.2 w.heap.size (by rw [World.size_alloc]; have := HV.out.2.2.size; have := (Array.getElem?_eq_some_iff.1 HI.out.2.2.1).1; omega) (by omega)).trans ((Below.heap_alloc _ _ _ (by have := HV.out.2.2.size; have := (Array.getElem?_eq_some_iff.1 HI.out.2.2.1).1; omega)).trans (z_onto HI.out.2.2.1 HV.out.2.2 (Array.getElem?_eq_some_iff.1 HI.out.2.2.1).1)); obtain ⟨⟨d0, d1, d2, d3, d4, d5, d6⟩, g0, g1, g2, g3, g4, g5, g6⟩ := seven hz4; have HZ4 := Lib.hid hz4; clear hr4 hk4 hz4))
            exact dt_ret rfl rfl rfl rfl HZ4.out (datPost_bad rfl hRl HB4.out.2 HB4.out.1 (by omega))
end
end Go.Proofs.YtlohdglhebplfaaDoor
