/-
  The reader: a datum, walked; what skips, reads a datum, reads a list: by induction over what is left of the text.
-/
import Derived.Test.YtlohdglhebplfaaGreatDoorRdt
namespace Go.Proofs.YtlohdglhebplfaaGreatDoor
open Go.RowKit

section
variable {w w' : World} {R p q k L : Nat} {s : ByteArray}
set_option maxRecDepth 100000 in
set_option maxHeartbeats 3200000 in
theorem skip_end (h : Rdr w R s p 0 k) (hp : p = s.size) (hs : s.size ≤ 16384) : Calls Tryz.prog 82 #[.pointer (some ⟨R, 0, none⟩)] w fun E w' => ∃ r, Rdd .skip (rsB s p) k r ∧ SkPost s R p k w r E w' := by
  subst hp
  have H := Lib.hid h
  clear h
  go_enter Tryz.func82, Tryz.ntmps82
  go_wp2_with fail
  go_loopg [] 0 (fun g wr => g = 0 ∧ Hid (Rdr wr R s s.size 0 k ∧ Kept R w wr))
  case atStart => exact ⟨rfl, Lib.hid ⟨H.out, Kept.rfl' R w⟩⟩
  case round =>
    obtain ⟨-, HR⟩ := hrel
    obtain ⟨c0, c1, c2, c3⟩ := HR.out.1.c
    go_wp2_with fail
    go_quiet (fail)
    go_wp2_with fail
    go_ret
    exact ⟨.ok zeroD [], by rw [rsB_end (Nat.le_refl _)]; exact .nil, HR.out.2.drewN nq, rfl, s.size, Nat.le_refl _, Nat.le_refl _, (rsB_end (Nat.le_refl _)).symm, rfl, HR.out.1.drewN nq⟩
theorem datB_ok {w0 w : World} {s : ByteArray} {R p p1 q k D : Nat} {u : LT} {d : DT} (hp : p ≤ p1) (hD : w0.heap.size ≤ D) (hR : R < D) (hk : Kept R w0 w) (hr : Rdr w R s q 0 k) (hu : HeldP w (Fresh w (D + 1)) u) (hd : shape u = d) (ht : Tame u) (hpq : p1 < q) (hq : q ≤ s.size) (hz : u.size + 2 * p1 ≤ 2 * q) :
    DatPost s R p k w0 (.ok d (rsB s q)) (.returned (.tuple #[.agg #[.int .i64 u.k, .bool u.g, .slice u.la u.ln u.lc, .bool u.bb, .string u.s, .slice u.ia u.items.length u.ic, .slice u.ta u.tail.length u.tc], .bool true])) (W7 w D (.int .i64 u.k) (.bool u.g) (.slice u.la u.ln u.lc) (.bool u.bb) (.string u.s) (.slice u.ia u.items.length u.ic) (.slice u.ta u.tail.length u.tc)) :=
  ⟨w7_kept hk hD, q, u, by omega, hq, rfl, rfl, hu.w7.keep (Nat.le_refl _) fun i hi => ⟨hi.low hD, rfl⟩, hd, ht, by omega, hr.same (w7_other (by omega))⟩
set_option maxRecDepth 100000 in
set_option maxHeartbeats 25600000 in
theorem datum_from (hS : SkipC s R L) (hC : ∀ L', L' + 1 ≤ L → ListC s R L' ∧ DatC s R L') (hR : Off R) (hs : s.size ≤ 16384) : DatC s R L := by
  intro p k w hL hp hk h ht
  have hRl := h.lt
  have hne0 : R ≠ w.heap.size := by omega
  have hne1 : R ≠ w.heap.size + 1 := by omega
  obtain ⟨OB, hOB⟩ : ∃ o, o = (Obj.cells #[.pointer (some ⟨R, 0, none⟩)] 152) := ⟨_, rfl⟩
  obtain ⟨W1, hW1⟩ : ∃ W, W = (w.alloc OB).alloc (Obj.cells #[.int .i64 0, .bool false, .slice none 0 0, .bool false, .string ⟨#[]⟩, .slice none 0 0, .slice none 0 0] 31) := ⟨_, rfl⟩
  have hr1 : Rdr W1 R s p 0 k := hW1 ▸ (h.alloc OB).alloc (Obj.cells #[.int .i64 0, .bool false, .slice none 0 0, .bool false, .string ⟨#[]⟩, .slice none 0 0, .slice none 0 0] 31)
  have hb1 : Below w.heap.size w W1 := hW1 ▸ ((Below.refl _ w).alloc (Nat.le_refl _) _).alloc (by simp) _
  have hz0 : W1.heap[w.heap.size]? = some OB := hW1 ▸ (Below.heap_alloc _ _ _ (by simp)).trans (World.alloc_heap_new w OB)
  have hz1 : W1.heap[w.heap.size + 1]? = some (Obj.cells #[.int .i64 0, .bool false, .slice none 0 0, .bool false, .string ⟨#[]⟩, .slice none 0 0, .slice none 0 0] 31) := hW1 ▸ (by have := World.alloc_heap_new (w.alloc OB) (Obj.cells #[.int .i64 0, .bool false, .slice none 0 0, .bool false, .string ⟨#[]⟩, .slice none 0 0, .slice none 0 0] 31); rwa [World.size_alloc] at this)
  have hz2 : W1.heap.size = w.heap.size + 2 := hW1 ▸ (by simp)
  rw [hOB] at hW1 hz0
  have b0 := Lib.cell_of_heap hz0 0
  simp only [List.getElem?_toArray, List.getElem?_cons_zero] at b0
  have HSk := Lib.hid (hS p k W1 hL hp hk hr1 (ht.below hb1))
  have H := Lib.hid (And.intro (ht.below hb1) (And.intro hC (And.intro (Kept.low (R := R) hb1) (And.intro hz0 hz1))))
  have HW := Lib.hid hW1
  rw [hW1] at b0
  clear h ht hS hC hr1 hb1 hz0 hz1 hW1 hOB
  go_enter Tryz.func79, Tryz.ntmps79
  go_wp2_with fail
  rw [← HW.out]
  clear b0
  refine HSk.out.mono ?_
  rintro E w2 ⟨r, hrd, hk2, hpost⟩
  have hs2 : w.heap.size + 2 ≤ w2.heap.size := by have := hk2.1; rw [hz2] at this; exact this
  have hB0 := (hk2.2 w.heap.size (by omega) (by omega)).trans H.out.2.2.2.1
  have hB1 := (hk2.2 (w.heap.size + 1) (by omega) (by omega)).trans H.out.2.2.2.2
  have hT2 := H.out.1.kept hR hk2
  have hK2 := Kept.trans H.out.2.2.1 hk2
  have b0 := Lib.cell_of_heap hB0 0
  simp only [List.getElem?_toArray, List.getElem?_cons_zero] at b0
  cases r with
  | bad x l =>
    obtain ⟨q, hq, rfl, rfl, hr⟩ := hpost
    obtain ⟨⟨d0, d1, d2, d3, d4, d5, d6⟩, g0, g1, g2, g3, g4, g5, g6⟩ := seven hB1
    have HX := Lib.hid (And.intro hrd (And.intro hB1 (And.intro hK2 hr)))
    clear hrd hk2 hB0 hB1 hT2 hK2 hr
    go_wp2_with fail
    exact dt_ret rfl rfl rfl rfl HX.out.2.1 ⟨_, .dskip HX.out.1, DatB.post (datB_bad (by omega) (by omega) HX.out.2.2.1 HX.out.2.2.2 hq)⟩
  | ok z l =>
    obtain ⟨rfl, q, hpq, hq, rfl, rfl, hr⟩ := hpost
    obtain ⟨c0, c1, c2, c3⟩ := hr.c
    have HX := Lib.hid (And.intro hrd (And.intro hB0 (And.intro hB1 (And.intro hT2 (And.intro hK2 hr)))))
    clear hrd hk2 hB0 hB1 hT2 hK2 hr
    by_cases hlt : q < s.size
    case neg =>
      obtain rfl : q = s.size := by omega
      have HN := Lib.hid (fun W => fun (h : Rdr W R s s.size 0 k) => none_any h 4 s.size)
      go_wp2_with fail
      go_quiet (fail)
      obtain ⟨W3, hW3⟩ : ∃ W, W = w2.drewN nq := ⟨_, rfl⟩
      rw [← hW3]
      have HX := Lib.hid (show Rdd .skip (rsB s p) k (.ok zeroD (rsB s s.size)) ∧ W3.heap[w.heap.size]? = some (Obj.cells #[.pointer (some ⟨R, 0, none⟩)] 152) ∧ W3.heap[w.heap.size + 1]? = some (Obj.cells #[.int .i64 0, .bool false, .slice none 0 0, .bool false, .string ⟨#[]⟩, .slice none 0 0, .slice none 0 0] 31) ∧ Tabs W3 ∧ Kept R w W3 ∧ Rdr W3 R s s.size 0 k from by rw [hW3]; exact ⟨HX.out.1, HX.out.2.1, HX.out.2.2.1, HX.out.2.2.2.1, Kept.drewN HX.out.2.2.2.2.1 _, HX.out.2.2.2.2.2⟩)
      have hs3 : w.heap.size + 2 ≤ W3.heap.size := by rw [hW3]; exact hs2
      have b0 := Lib.cell_of_heap HX.out.2.1 0
      simp only [List.getElem?_toArray, List.getElem?_cons_zero] at b0
      clear c0 c1 c2 c3 hW3
      obtain ⟨c0, c1, c2, c3⟩ := HX.out.2.2.2.2.2.c
      go_wp2_with fail
      go_region_with (go_at_call 124; refine (none_any (w := W3.drew) (show Rdr W3.drew R s s.size 0 k from HX.out.2.2.2.2.2) 4 s.size).mono ?_; rintro E w4 ⟨hE, hr4, hk4⟩; obtain rfl : E = _ := hE; have hk5 : Kept R W3 w4 := (Kept.from_drew hk4); clear hk4; have hs4 := hk5.1; have hD4 : w.heap.size + 1 < w4.heap.size := (by omega); have hz4 := (hk5.2 (w.heap.size + 1) (by omega) (by omega)).trans HX.out.2.2.1; obtain ⟨⟨d0, d1, d2, d3, d4, d5, d6⟩, g0, g1, g2, g3, g4, g5, g6⟩ := seven hz4; have HU := Lib.hid (And.intro hz4 (And.intro hr4 hk5)); clear hz4 hr4 hk5)
      all_goals
        go_wp2_with fail
        have hdd : Rdd .datum (rsB s p) k (.bad errRead (rsB s s.size)) := by
          have h := HX.out.1
          rw [rsB_end (Nat.le_refl _)] at h ⊢
          exact .dend h
        have hpp : DatPost s R p k w (.bad errRead (rsB s s.size)) (.returned (.tuple #[.agg #[.int .i64 0, .bool false, .slice none 0 0, .bool false, .string ⟨#[]⟩, .slice none 0 0, .slice none 0 0], .bool false])) (W7 w4 (w.heap.size + 1) (.int .i64 0) (.bool false) (.slice none 0 0) (.bool false) (.string ⟨#[]⟩) (.slice none 0 0) (.slice none 0 0)) := DatB.post (datB_bad (by omega) (by omega) (Kept.trans HX.out.2.2.2.2.1 HU.out.2.2) HU.out.2.1 (Nat.le_refl _))
        exact dt_ret rfl rfl rfl rfl HU.out.1 ⟨_, hdd, hpp⟩
    case pos =>
      have hst : stopL (rsB s q) = true := by obtain ⟨n, hn⟩ := HX.out.1; exact (rd_stop n _ _ _ _ (hn n (Nat.le_refl _))).1
      have hcons := rsB_cons hlt
      go_wp2_with fail
      go_quiet (fail)
      obtain ⟨W3', hW3'⟩ : ∃ W, W = w2.drewN nq := ⟨_, rfl⟩
      rw [← hW3']
      have HX' := Lib.hid (show Rdd .skip (rsB s p) k (.ok zeroD (rsB s q)) ∧ W3'.heap[w.heap.size]? = some (Obj.cells #[.pointer (some ⟨R, 0, none⟩)] 152) ∧ W3'.heap[w.heap.size + 1]? = some (Obj.cells #[.int .i64 0, .bool false, .slice none 0 0, .bool false, .string ⟨#[]⟩, .slice none 0 0, .slice none 0 0] 31) ∧ Tabs W3' ∧ Kept R w W3' ∧ Rdr W3' R s q 0 k from by rw [hW3']; exact ⟨HX.out.1, HX.out.2.1, HX.out.2.2.1, HX.out.2.2.2.1, Kept.drewN HX.out.2.2.2.2.1 _, HX.out.2.2.2.2.2⟩)
      have hs3' : w.heap.size + 2 ≤ W3'.heap.size := by rw [hW3']; exact hs2
      have b0 := Lib.cell_of_heap HX'.out.2.1 0
      simp only [List.getElem?_toArray, List.getElem?_cons_zero] at b0
      clear c0 c1 c2 c3 hW3' HX
      obtain ⟨c0, c1, c2, c3⟩ := HX'.out.2.2.2.2.2.c
      have hne : ((q : Int) == (s.size : Int)) = false := beq_false_of_ne (by omega)
      go_wp2_with fail
      go_quiet (fail)
      obtain ⟨W3, hW3⟩ : ∃ W, W = W3'.drewN nq := ⟨_, rfl⟩
      rw [← hW3]
      have HX := Lib.hid (show Rdd .skip (rsB s p) k (.ok zeroD (rsB s q)) ∧ W3.heap[w.heap.size]? = some (Obj.cells #[.pointer (some ⟨R, 0, none⟩)] 152) ∧ W3.heap[w.heap.size + 1]? = some (Obj.cells #[.int .i64 0, .bool false, .slice none 0 0, .bool false, .string ⟨#[]⟩, .slice none 0 0, .slice none 0 0] 31) ∧ Tabs W3 ∧ Kept R w W3 ∧ Rdr W3 R s q 0 k from by rw [hW3]; exact ⟨HX'.out.1, HX'.out.2.1, HX'.out.2.2.1, HX'.out.2.2.2.1, Kept.drewN HX'.out.2.2.2.2.1 _, HX'.out.2.2.2.2.2⟩)
      have hs3 : w.heap.size + 2 ≤ W3.heap.size := by rw [hW3]; exact hs3'
      have b0 := Lib.cell_of_heap HX.out.2.1 0
      simp only [List.getElem?_toArray, List.getElem?_cons_zero] at b0
      clear c0 c1 c2 c3 hW3 HX' hs3'
      obtain ⟨c0, c1, c2, c3⟩ := HX.out.2.2.2.2.2.c
      have HCL := Lib.hid (H.out.2.1 (s.size - (q + 1)) (by omega))
      have HST := Lib.hid (And.intro hst hcons)
      clear hst hcons hne
      by_cases hc : s[q] = 40
      case pos =>
        have hsk : Rdd .skip (rsB s p) k (.ok zeroD (40 :: rsB s (q + 1))) := by have h := HX.out.1; rw [HST.out.2, hc] at h; exact h
        have e40 : ((s[q].toNat : Int) == 40) = true := by rw [hc]; rfl
        have hX : Calls Tryz.prog 125 #[.pointer (some ⟨R, 0, none⟩), .func (.func 126) #[] #[.pointer (some ⟨w.heap.size, 0, none⟩)]] W3 (fun E w' => ∃ r, Rdd .datum (rsB s p) k r ∧ DatPost s R q k W3 r E w') := by
          by_cases hk2 : k < 200
          · exact (inside_list1 (B := w.heap.size) (Q := fun r => Rdd (.list 41 []) (rsB s (q + 1)) (k + 1) r) (fun W hrW hkW => clos1_from HCL.out.1 hlt (Nat.le_refl _) (by omega) hrW (HX.out.2.2.2.1.kept hR hkW) (by have h := Lib.cell_of_heap ((hkW.2 w.heap.size (by omega) (by omega)).trans HX.out.2.1) 0; simpa using h) (by have := hkW.1; omega)) HX.out.2.2.2.2.2 hq hk2).mono fun E w' ⟨r, hQ, h⟩ => ⟨r, .dlist (c := 40) (m := rsB s (q + 1)) hsk (.inl rfl) hk2 hQ, h⟩
          · exact (inside_deep HX.out.2.2.2.2.2 hq (by omega) (by omega) _).mono fun E w' h => ⟨_, by rw [HST.out.2, hc]; exact .ddeep (c := 40) (m := rsB s (q + 1)) hsk (.inl (.inl rfl)) (by omega), h⟩
        have HXX := Lib.hid hX
        clear hX
        go_wp2_with fail
        refine HXX.out.mono ?_
        rintro E w4 ⟨r, hrd, hk4, hpost⟩
        have hs4 := hk4.1
        have hD4 : w.heap.size + 1 < w4.heap.size := by omega
        have hz4 := (hk4.2 (w.heap.size + 1) (by omega) (by omega)).trans HX.out.2.2.1
        obtain ⟨⟨d0, d1, d2, d3, d4, d5, d6⟩, g0, g1, g2, g3, g4, g5, g6⟩ := seven hz4
        have HV := Lib.hid (And.intro hrd (And.intro hz4 (Kept.trans HX.out.2.2.2.2.1 hk4)))
        clear hrd hz4 hk4 b0 c0 c1 c2 c3
        cases r with
        | ok d l =>
          obtain ⟨q5, u, hpq5, hq5, rfl, rfl, hu, hd, htu, hz, hr⟩ := hpost
          have HU := Lib.hid (And.intro hu (And.intro hd (And.intro htu (And.intro hz hr))))
          clear hu hd htu hz hr
          go_wp2_with fail
          exact dt_ret rfl rfl rfl rfl HV.out.2.1 ⟨_, HV.out.1, datB_ok hpq (by omega) (by omega) HV.out.2.2 HU.out.2.2.2.2 (HU.out.1.keep (Nat.le_refl _) fun i hi => ⟨hi.low (by omega), rfl⟩) HU.out.2.1 HU.out.2.2.1 hpq5 hq5 HU.out.2.2.2.1⟩
        | bad x l =>
          obtain ⟨q5, hq5, rfl, rfl, hr⟩ := hpost
          have HU := Lib.hid hr
          clear hr
          go_wp2_with fail
          exact dt_ret rfl rfl rfl rfl HV.out.2.1 ⟨_, HV.out.1, DatB.post (datB_bad (by omega) (by omega) HV.out.2.2 HU.out hq5)⟩
      have n40 := hc
      have e40 : ((s[q].toNat : Int) == 40) = false := byte_ne (b := 40) hc
      clear hc
      by_cases hc : s[q] = 91
      case pos =>
        have hsk : Rdd .skip (rsB s p) k (.ok zeroD (91 :: rsB s (q + 1))) := by have h := HX.out.1; rw [HST.out.2, hc] at h; exact h
        have e91 : ((s[q].toNat : Int) == 91) = true := by rw [hc]; rfl
        have hX : Calls Tryz.prog 125 #[.pointer (some ⟨R, 0, none⟩), .func (.func 128) #[] #[.pointer (some ⟨w.heap.size, 0, none⟩)]] W3 (fun E w' => ∃ r, Rdd .datum (rsB s p) k r ∧ DatPost s R q k W3 r E w') := by
          by_cases hk2 : k < 200
          · exact (inside_list2 (B := w.heap.size) (Q := fun r => Rdd (.list 93 []) (rsB s (q + 1)) (k + 1) r) (fun W hrW hkW => clos2_from HCL.out.1 hlt (Nat.le_refl _) (by omega) hrW (HX.out.2.2.2.1.kept hR hkW) (by have h := Lib.cell_of_heap ((hkW.2 w.heap.size (by omega) (by omega)).trans HX.out.2.1) 0; simpa using h) (by have := hkW.1; omega)) HX.out.2.2.2.2.2 hq hk2).mono fun E w' ⟨r, hQ, h⟩ => ⟨r, .dlist (c := 91) (m := rsB s (q + 1)) hsk (.inr rfl) hk2 hQ, h⟩
          · exact (inside_deep HX.out.2.2.2.2.2 hq (by omega) (by omega) _).mono fun E w' h => ⟨_, by rw [HST.out.2, hc]; exact .ddeep (c := 91) (m := rsB s (q + 1)) hsk (.inl (.inr rfl)) (by omega), h⟩
        have HXX := Lib.hid hX
        clear hX
        go_wp2_with fail
        refine HXX.out.mono ?_
        rintro E w4 ⟨r, hrd, hk4, hpost⟩
        have hs4 := hk4.1
        have hD4 : w.heap.size + 1 < w4.heap.size := by omega
        have hz4 := (hk4.2 (w.heap.size + 1) (by omega) (by omega)).trans HX.out.2.2.1
        obtain ⟨⟨d0, d1, d2, d3, d4, d5, d6⟩, g0, g1, g2, g3, g4, g5, g6⟩ := seven hz4
        have HV := Lib.hid (And.intro hrd (And.intro hz4 (Kept.trans HX.out.2.2.2.2.1 hk4)))
        clear hrd hz4 hk4 b0 c0 c1 c2 c3
        cases r with
        | ok d l =>
          obtain ⟨q5, u, hpq5, hq5, rfl, rfl, hu, hd, htu, hz, hr⟩ := hpost
          have HU := Lib.hid (And.intro hu (And.intro hd (And.intro htu (And.intro hz hr))))
          clear hu hd htu hz hr
          go_wp2_with fail
          exact dt_ret rfl rfl rfl rfl HV.out.2.1 ⟨_, HV.out.1, datB_ok hpq (by omega) (by omega) HV.out.2.2 HU.out.2.2.2.2 (HU.out.1.keep (Nat.le_refl _) fun i hi => ⟨hi.low (by omega), rfl⟩) HU.out.2.1 HU.out.2.2.1 hpq5 hq5 HU.out.2.2.2.1⟩
        | bad x l =>
          obtain ⟨q5, hq5, rfl, rfl, hr⟩ := hpost
          have HU := Lib.hid hr
          clear hr
          go_wp2_with fail
          exact dt_ret rfl rfl rfl rfl HV.out.2.1 ⟨_, HV.out.1, DatB.post (datB_bad (by omega) (by omega) HV.out.2.2 HU.out hq5)⟩
      have n91 := hc
      have e91 : ((s[q].toNat : Int) == 91) = false := byte_ne (b := 91) hc
      clear hc
      by_cases hc : s[q] = 41
      case pos =>
        have hsk : Rdd .skip (rsB s p) k (.ok zeroD (41 :: rsB s (q + 1))) := by have h := HX.out.1; rw [HST.out.2, hc] at h; exact h
        have e41 : ((s[q].toNat : Int) == 41) = true := by rw [hc]; rfl
        go_wp2_with fail
        go_region_with (go_at_call 124; refine (none_any (w := W3.drew) (show Rdr W3.drew R s q 0 k from HX.out.2.2.2.2.2) 4 q).mono ?_; rintro E w4 ⟨hE, hr4, hk4⟩; obtain rfl : E = _ := hE; have hk5 : Kept R W3 w4 := (Kept.from_drew hk4); clear hk4; have hs4 := hk5.1; have hD4 : w.heap.size + 1 < w4.heap.size := (by omega); have hz4 := (hk5.2 (w.heap.size + 1) (by omega) (by omega)).trans HX.out.2.2.1; obtain ⟨⟨d0, d1, d2, d3, d4, d5, d6⟩, g0, g1, g2, g3, g4, g5, g6⟩ := seven hz4; have HU := Lib.hid (And.intro hz4 (And.intro hr4 hk5)); clear hz4 hr4 hk5)
        all_goals
          go_wp2_with fail
          have hdd : Rdd .datum (rsB s p) k (.bad errRead (rsB s q)) := by
            have h := Rdd.dclose hsk (.inl rfl)
            rw [HST.out.2, hc]
            exact h
          have hpp : DatPost s R p k w (.bad errRead (rsB s q)) (.returned (.tuple #[.agg #[.int .i64 0, .bool false, .slice none 0 0, .bool false, .string ⟨#[]⟩, .slice none 0 0, .slice none 0 0], .bool false])) (W7 w4 (w.heap.size + 1) (.int .i64 0) (.bool false) (.slice none 0 0) (.bool false) (.string ⟨#[]⟩) (.slice none 0 0) (.slice none 0 0)) := DatB.post (datB_bad (by omega) (by omega) (Kept.trans HX.out.2.2.2.2.1 HU.out.2.2) HU.out.2.1 hq)
          exact dt_ret rfl rfl rfl rfl HU.out.1 ⟨_, hdd, hpp⟩
      have n41 := hc
      have e41 : ((s[q].toNat : Int) == 41) = false := byte_ne (b := 41) hc
      clear hc
      by_cases hc : s[q] = 93
      case pos =>
        have hsk : Rdd .skip (rsB s p) k (.ok zeroD (93 :: rsB s (q + 1))) := by have h := HX.out.1; rw [HST.out.2, hc] at h; exact h
        have e93 : ((s[q].toNat : Int) == 93) = true := by rw [hc]; rfl
        go_wp2_with fail
        go_region_with (go_at_call 124; refine (none_any (w := W3.drew) (show Rdr W3.drew R s q 0 k from HX.out.2.2.2.2.2) 4 q).mono ?_; rintro E w4 ⟨hE, hr4, hk4⟩; obtain rfl : E = _ := hE; have hk5 : Kept R W3 w4 := (Kept.from_drew hk4); clear hk4; have hs4 := hk5.1; have hD4 : w.heap.size + 1 < w4.heap.size := (by omega); have hz4 := (hk5.2 (w.heap.size + 1) (by omega) (by omega)).trans HX.out.2.2.1; obtain ⟨⟨d0, d1, d2, d3, d4, d5, d6⟩, g0, g1, g2, g3, g4, g5, g6⟩ := seven hz4; have HU := Lib.hid (And.intro hz4 (And.intro hr4 hk5)); clear hz4 hr4 hk5)
        all_goals
          go_wp2_with fail
          have hdd : Rdd .datum (rsB s p) k (.bad errRead (rsB s q)) := by
            have h := Rdd.dclose hsk (.inr rfl)
            rw [HST.out.2, hc]
            exact h
          have hpp : DatPost s R p k w (.bad errRead (rsB s q)) (.returned (.tuple #[.agg #[.int .i64 0, .bool false, .slice none 0 0, .bool false, .string ⟨#[]⟩, .slice none 0 0, .slice none 0 0], .bool false])) (W7 w4 (w.heap.size + 1) (.int .i64 0) (.bool false) (.slice none 0 0) (.bool false) (.string ⟨#[]⟩) (.slice none 0 0) (.slice none 0 0)) := DatB.post (datB_bad (by omega) (by omega) (Kept.trans HX.out.2.2.2.2.1 HU.out.2.2) HU.out.2.1 hq)
          exact dt_ret rfl rfl rfl rfl HU.out.1 ⟨_, hdd, hpp⟩
      have n93 := hc
      have e93 : ((s[q].toNat : Int) == 93) = false := byte_ne (b := 93) hc
      clear hc
      by_cases hc : s[q] = 39
      case pos =>
        have hsk : Rdd .skip (rsB s p) k (.ok zeroD (39 :: rsB s (q + 1))) := by have h := HX.out.1; rw [HST.out.2, hc] at h; exact h
        have e39 : ((s[q].toNat : Int) == 39) = true := by rw [hc]; rfl
        have hX : Calls Tryz.prog 125 #[.pointer (some ⟨R, 0, none⟩), .func (.func 129) #[.pointer (some ⟨R, 0, none⟩)] #[]] W3 (fun E w' => ∃ r, Rdd .datum (rsB s p) k r ∧ DatPost s R q k W3 r E w') := by
          by_cases hk2 : k < 200
          · exact (inside_quote (Q := fun r => QuoRes s q (k + 1) s[q] r) (fun W hrW hkW => quote_from HCL.out.2 hR hs hrW (HX.out.2.2.2.1.kept hR hkW) hlt (by rw [hc]; exact .inl rfl) (Nat.le_refl _) (by omega)) HX.out.2.2.2.2.2 hq hk2).mono fun E w' ⟨r, hQ, h⟩ => ⟨r, by rw [hc] at hQ; rcases hQ with ⟨d, l, rfl, hQ⟩ | ⟨x, l, rfl, hQ⟩; exact .dquote (c := 39) (m := rsB s (q + 1)) hsk (.inl rfl) hk2 hQ; exact .dnoquote (c := 39) (m := rsB s (q + 1)) hsk (.inl rfl) hk2 hQ, h⟩
          · exact (inside_deep HX.out.2.2.2.2.2 hq (by omega) (by omega) _).mono fun E w' h => ⟨_, by rw [HST.out.2, hc]; exact .ddeep (c := 39) (m := rsB s (q + 1)) hsk (.inr (.inl rfl)) (by omega), h⟩
        have HXX := Lib.hid hX
        clear hX
        go_wp2_with fail
        refine HXX.out.mono ?_
        rintro E w4 ⟨r, hrd, hk4, hpost⟩
        have hs4 := hk4.1
        have hD4 : w.heap.size + 1 < w4.heap.size := by omega
        have hz4 := (hk4.2 (w.heap.size + 1) (by omega) (by omega)).trans HX.out.2.2.1
        obtain ⟨⟨d0, d1, d2, d3, d4, d5, d6⟩, g0, g1, g2, g3, g4, g5, g6⟩ := seven hz4
        have HV := Lib.hid (And.intro hrd (And.intro hz4 (Kept.trans HX.out.2.2.2.2.1 hk4)))
        clear hrd hz4 hk4 b0 c0 c1 c2 c3
        cases r with
        | ok d l =>
          obtain ⟨q5, u, hpq5, hq5, rfl, rfl, hu, hd, htu, hz, hr⟩ := hpost
          have HU := Lib.hid (And.intro hu (And.intro hd (And.intro htu (And.intro hz hr))))
          clear hu hd htu hz hr
          go_wp2_with fail
          exact dt_ret rfl rfl rfl rfl HV.out.2.1 ⟨_, HV.out.1, datB_ok hpq (by omega) (by omega) HV.out.2.2 HU.out.2.2.2.2 (HU.out.1.keep (Nat.le_refl _) fun i hi => ⟨hi.low (by omega), rfl⟩) HU.out.2.1 HU.out.2.2.1 hpq5 hq5 HU.out.2.2.2.1⟩
        | bad x l =>
          obtain ⟨q5, hq5, rfl, rfl, hr⟩ := hpost
          have HU := Lib.hid hr
          clear hr
          go_wp2_with fail
          exact dt_ret rfl rfl rfl rfl HV.out.2.1 ⟨_, HV.out.1, DatB.post (datB_bad (by omega) (by omega) HV.out.2.2 HU.out hq5)⟩
      have n39 := hc
      have e39 : ((s[q].toNat : Int) == 39) = false := byte_ne (b := 39) hc
      clear hc
      by_cases hc : s[q] = 96
      case pos =>
        have hsk : Rdd .skip (rsB s p) k (.ok zeroD (96 :: rsB s (q + 1))) := by have h := HX.out.1; rw [HST.out.2, hc] at h; exact h
        have e96 : ((s[q].toNat : Int) == 96) = true := by rw [hc]; rfl
        have hX : Calls Tryz.prog 125 #[.pointer (some ⟨R, 0, none⟩), .func (.func 129) #[.pointer (some ⟨R, 0, none⟩)] #[]] W3 (fun E w' => ∃ r, Rdd .datum (rsB s p) k r ∧ DatPost s R q k W3 r E w') := by
          by_cases hk2 : k < 200
          · exact (inside_quote (Q := fun r => QuoRes s q (k + 1) s[q] r) (fun W hrW hkW => quote_from HCL.out.2 hR hs hrW (HX.out.2.2.2.1.kept hR hkW) hlt (by rw [hc]; exact .inr (.inl rfl)) (Nat.le_refl _) (by omega)) HX.out.2.2.2.2.2 hq hk2).mono fun E w' ⟨r, hQ, h⟩ => ⟨r, by rw [hc] at hQ; rcases hQ with ⟨d, l, rfl, hQ⟩ | ⟨x, l, rfl, hQ⟩; exact .dquote (c := 96) (m := rsB s (q + 1)) hsk (.inr (.inl rfl)) hk2 hQ; exact .dnoquote (c := 96) (m := rsB s (q + 1)) hsk (.inr (.inl rfl)) hk2 hQ, h⟩
          · exact (inside_deep HX.out.2.2.2.2.2 hq (by omega) (by omega) _).mono fun E w' h => ⟨_, by rw [HST.out.2, hc]; exact .ddeep (c := 96) (m := rsB s (q + 1)) hsk (.inr (.inr (.inl rfl))) (by omega), h⟩
        have HXX := Lib.hid hX
        clear hX
        go_wp2_with fail
        refine HXX.out.mono ?_
        rintro E w4 ⟨r, hrd, hk4, hpost⟩
        have hs4 := hk4.1
        have hD4 : w.heap.size + 1 < w4.heap.size := by omega
        have hz4 := (hk4.2 (w.heap.size + 1) (by omega) (by omega)).trans HX.out.2.2.1
        obtain ⟨⟨d0, d1, d2, d3, d4, d5, d6⟩, g0, g1, g2, g3, g4, g5, g6⟩ := seven hz4
        have HV := Lib.hid (And.intro hrd (And.intro hz4 (Kept.trans HX.out.2.2.2.2.1 hk4)))
        clear hrd hz4 hk4 b0 c0 c1 c2 c3
        cases r with
        | ok d l =>
          obtain ⟨q5, u, hpq5, hq5, rfl, rfl, hu, hd, htu, hz, hr⟩ := hpost
          have HU := Lib.hid (And.intro hu (And.intro hd (And.intro htu (And.intro hz hr))))
          clear hu hd htu hz hr
          go_wp2_with fail
          exact dt_ret rfl rfl rfl rfl HV.out.2.1 ⟨_, HV.out.1, datB_ok hpq (by omega) (by omega) HV.out.2.2 HU.out.2.2.2.2 (HU.out.1.keep (Nat.le_refl _) fun i hi => ⟨hi.low (by omega), rfl⟩) HU.out.2.1 HU.out.2.2.1 hpq5 hq5 HU.out.2.2.2.1⟩
        | bad x l =>
          obtain ⟨q5, hq5, rfl, rfl, hr⟩ := hpost
          have HU := Lib.hid hr
          clear hr
          go_wp2_with fail
          exact dt_ret rfl rfl rfl rfl HV.out.2.1 ⟨_, HV.out.1, DatB.post (datB_bad (by omega) (by omega) HV.out.2.2 HU.out hq5)⟩
      have n96 := hc
      have e96 : ((s[q].toNat : Int) == 96) = false := byte_ne (b := 96) hc
      clear hc
      by_cases hc : s[q] = 44
      case pos =>
        have hsk : Rdd .skip (rsB s p) k (.ok zeroD (44 :: rsB s (q + 1))) := by have h := HX.out.1; rw [HST.out.2, hc] at h; exact h
        have e44 : ((s[q].toNat : Int) == 44) = true := by rw [hc]; rfl
        have hX : Calls Tryz.prog 125 #[.pointer (some ⟨R, 0, none⟩), .func (.func 129) #[.pointer (some ⟨R, 0, none⟩)] #[]] W3 (fun E w' => ∃ r, Rdd .datum (rsB s p) k r ∧ DatPost s R q k W3 r E w') := by
          by_cases hk2 : k < 200
          · exact (inside_quote (Q := fun r => QuoRes s q (k + 1) s[q] r) (fun W hrW hkW => quote_from HCL.out.2 hR hs hrW (HX.out.2.2.2.1.kept hR hkW) hlt (by rw [hc]; exact .inr (.inr rfl)) (Nat.le_refl _) (by omega)) HX.out.2.2.2.2.2 hq hk2).mono fun E w' ⟨r, hQ, h⟩ => ⟨r, by rw [hc] at hQ; rcases hQ with ⟨d, l, rfl, hQ⟩ | ⟨x, l, rfl, hQ⟩; exact .dquote (c := 44) (m := rsB s (q + 1)) hsk (.inr (.inr rfl)) hk2 hQ; exact .dnoquote (c := 44) (m := rsB s (q + 1)) hsk (.inr (.inr rfl)) hk2 hQ, h⟩
          · exact (inside_deep HX.out.2.2.2.2.2 hq (by omega) (by omega) _).mono fun E w' h => ⟨_, by rw [HST.out.2, hc]; exact .ddeep (c := 44) (m := rsB s (q + 1)) hsk (.inr (.inr (.inr rfl))) (by omega), h⟩
        have HXX := Lib.hid hX
        clear hX
        go_wp2_with fail
        refine HXX.out.mono ?_
        rintro E w4 ⟨r, hrd, hk4, hpost⟩
        have hs4 := hk4.1
        have hD4 : w.heap.size + 1 < w4.heap.size := by omega
        have hz4 := (hk4.2 (w.heap.size + 1) (by omega) (by omega)).trans HX.out.2.2.1
        obtain ⟨⟨d0, d1, d2, d3, d4, d5, d6⟩, g0, g1, g2, g3, g4, g5, g6⟩ := seven hz4
        have HV := Lib.hid (And.intro hrd (And.intro hz4 (Kept.trans HX.out.2.2.2.2.1 hk4)))
        clear hrd hz4 hk4 b0 c0 c1 c2 c3
        cases r with
        | ok d l =>
          obtain ⟨q5, u, hpq5, hq5, rfl, rfl, hu, hd, htu, hz, hr⟩ := hpost
          have HU := Lib.hid (And.intro hu (And.intro hd (And.intro htu (And.intro hz hr))))
          clear hu hd htu hz hr
          go_wp2_with fail
          exact dt_ret rfl rfl rfl rfl HV.out.2.1 ⟨_, HV.out.1, datB_ok hpq (by omega) (by omega) HV.out.2.2 HU.out.2.2.2.2 (HU.out.1.keep (Nat.le_refl _) fun i hi => ⟨hi.low (by omega), rfl⟩) HU.out.2.1 HU.out.2.2.1 hpq5 hq5 HU.out.2.2.2.1⟩
        | bad x l =>
          obtain ⟨q5, hq5, rfl, rfl, hr⟩ := hpost
          have HU := Lib.hid hr
          clear hr
          go_wp2_with fail
          exact dt_ret rfl rfl rfl rfl HV.out.2.1 ⟨_, HV.out.1, DatB.post (datB_bad (by omega) (by omega) HV.out.2.2 HU.out hq5)⟩
      have n44 := hc
      have e44 : ((s[q].toNat : Int) == 44) = false := byte_ne (b := 44) hc
      clear hc
      by_cases hc : s[q] = 34
      case pos =>
        have hsk : Rdd .skip (rsB s p) k (.ok zeroD (34 :: rsB s (q + 1))) := by have h := HX.out.1; rw [HST.out.2, hc] at h; exact h
        have e34 : ((s[q].toNat : Int) == 34) = true := by rw [hc]; rfl
        have hX : Calls Tryz.prog 130 #[.pointer (some ⟨R, 0, none⟩)] W3 (fun E w' => ∃ r, Rdd .datum (rsB s p) k r ∧ DatPost s R q k W3 r E w') := (str_any HX.out.2.2.2.2.2 hlt hs).mono fun E w' h => ⟨_, by rw [HST.out.2, hc]; exact .dstr hsk, h⟩
        have HXX := Lib.hid hX
        clear hX
        go_wp2_with fail
        refine HXX.out.mono ?_
        rintro E w4 ⟨r, hrd, hk4, hpost⟩
        have hs4 := hk4.1
        have hD4 : w.heap.size + 1 < w4.heap.size := by omega
        have hz4 := (hk4.2 (w.heap.size + 1) (by omega) (by omega)).trans HX.out.2.2.1
        obtain ⟨⟨d0, d1, d2, d3, d4, d5, d6⟩, g0, g1, g2, g3, g4, g5, g6⟩ := seven hz4
        have HV := Lib.hid (And.intro hrd (And.intro hz4 (Kept.trans HX.out.2.2.2.2.1 hk4)))
        clear hrd hz4 hk4 b0 c0 c1 c2 c3
        cases r with
        | ok d l =>
          obtain ⟨q5, u, hpq5, hq5, rfl, rfl, hu, hd, htu, hz, hr⟩ := hpost
          have HU := Lib.hid (And.intro hu (And.intro hd (And.intro htu (And.intro hz hr))))
          clear hu hd htu hz hr
          go_wp2_with fail
          exact dt_ret rfl rfl rfl rfl HV.out.2.1 ⟨_, HV.out.1, datB_ok hpq (by omega) (by omega) HV.out.2.2 HU.out.2.2.2.2 (HU.out.1.keep (Nat.le_refl _) fun i hi => ⟨hi.low (by omega), rfl⟩) HU.out.2.1 HU.out.2.2.1 hpq5 hq5 HU.out.2.2.2.1⟩
        | bad x l =>
          obtain ⟨q5, hq5, rfl, rfl, hr⟩ := hpost
          have HU := Lib.hid hr
          clear hr
          go_wp2_with fail
          exact dt_ret rfl rfl rfl rfl HV.out.2.1 ⟨_, HV.out.1, DatB.post (datB_bad (by omega) (by omega) HV.out.2.2 HU.out hq5)⟩
      have n34 := hc
      have e34 : ((s[q].toNat : Int) == 34) = false := byte_ne (b := 34) hc
      clear hc
      by_cases hc : s[q] = 124
      case pos =>
        have hsk : Rdd .skip (rsB s p) k (.ok zeroD (124 :: rsB s (q + 1))) := by have h := HX.out.1; rw [HST.out.2, hc] at h; exact h
        have e124 : ((s[q].toNat : Int) == 124) = true := by rw [hc]; rfl
        have hX : Calls Tryz.prog 131 #[.pointer (some ⟨R, 0, none⟩)] W3 (fun E w' => ∃ r, Rdd .datum (rsB s p) k r ∧ DatPost s R q k W3 r E w') := (bar_any HX.out.2.2.2.2.2 hlt hs).mono fun E w' h => ⟨_, by rw [HST.out.2, hc]; exact .dbar hsk, h⟩
        have HXX := Lib.hid hX
        clear hX
        go_wp2_with fail
        refine HXX.out.mono ?_
        rintro E w4 ⟨r, hrd, hk4, hpost⟩
        have hs4 := hk4.1
        have hD4 : w.heap.size + 1 < w4.heap.size := by omega
        have hz4 := (hk4.2 (w.heap.size + 1) (by omega) (by omega)).trans HX.out.2.2.1
        obtain ⟨⟨d0, d1, d2, d3, d4, d5, d6⟩, g0, g1, g2, g3, g4, g5, g6⟩ := seven hz4
        have HV := Lib.hid (And.intro hrd (And.intro hz4 (Kept.trans HX.out.2.2.2.2.1 hk4)))
        clear hrd hz4 hk4 b0 c0 c1 c2 c3
        cases r with
        | ok d l =>
          obtain ⟨q5, u, hpq5, hq5, rfl, rfl, hu, hd, htu, hz, hr⟩ := hpost
          have HU := Lib.hid (And.intro hu (And.intro hd (And.intro htu (And.intro hz hr))))
          clear hu hd htu hz hr
          go_wp2_with fail
          exact dt_ret rfl rfl rfl rfl HV.out.2.1 ⟨_, HV.out.1, datB_ok hpq (by omega) (by omega) HV.out.2.2 HU.out.2.2.2.2 (HU.out.1.keep (Nat.le_refl _) fun i hi => ⟨hi.low (by omega), rfl⟩) HU.out.2.1 HU.out.2.2.1 hpq5 hq5 HU.out.2.2.2.1⟩
        | bad x l =>
          obtain ⟨q5, hq5, rfl, rfl, hr⟩ := hpost
          have HU := Lib.hid hr
          clear hr
          go_wp2_with fail
          exact dt_ret rfl rfl rfl rfl HV.out.2.1 ⟨_, HV.out.1, DatB.post (datB_bad (by omega) (by omega) HV.out.2.2 HU.out hq5)⟩
      have n124 := hc
      have e124 : ((s[q].toNat : Int) == 124) = false := byte_ne (b := 124) hc
      clear hc
      have hah : aheadL (rsB s q) ≠ [] := by
        have h1 := HST.out.1
        rw [HST.out.2] at h1 ⊢
        simp only [stopL, Bool.and_eq_true, Bool.not_eq_true', beq_eq_false_iff_ne, ne_eq] at h1
        have hb : isBl s[q] = false := h1.1.1
        have hm : isMk s[q] = false := by
          simp only [isMk, Bool.or_eq_false_iff, beq_eq_false_iff_ne, ne_eq]
          exact ⟨⟨⟨⟨⟨⟨⟨⟨⟨n40, n41⟩, n91⟩, n93⟩, n34⟩, h1.1.2⟩, n39⟩, n96⟩, n44⟩, n124⟩
        simp [aheadL, List.takeWhile_cons, hb, hm]
      have hX : Calls Tryz.prog 132 #[.pointer (some ⟨R, 0, none⟩)] W3 (fun E w' => ∃ r, Rdd .datum (rsB s p) k r ∧ DatPost s R q k W3 r E w') := (atom_any HX.out.2.2.2.2.2 HX.out.2.2.2.1 hR hlt hs hah).mono fun E w' h => ⟨_, by
        have hsk : Rdd .skip (rsB s p) k (.ok zeroD (s[q] :: rsB s (q + 1))) := by have h := HX.out.1; rw [HST.out.2] at h; exact h
        rw [HST.out.2]
        exact .datom hsk (by simp only [opensL, Bool.or_eq_false_iff, beq_eq_false_iff_ne, ne_eq]; exact ⟨⟨⟨⟨⟨⟨⟨⟨n40, n91⟩, n41⟩, n93⟩, n39⟩, n96⟩, n44⟩, n34⟩, n124⟩), h⟩
      clear hah n40 n91 n41 n93 n39 n96 n44 n34 n124
      have HXX := Lib.hid hX
      clear hX
      go_wp2_with fail
      refine HXX.out.mono ?_
      rintro E w4 ⟨r, hrd, hk4, hpost⟩
      have hs4 := hk4.1
      have hD4 : w.heap.size + 1 < w4.heap.size := by omega
      have hz4 := (hk4.2 (w.heap.size + 1) (by omega) (by omega)).trans HX.out.2.2.1
      obtain ⟨⟨d0, d1, d2, d3, d4, d5, d6⟩, g0, g1, g2, g3, g4, g5, g6⟩ := seven hz4
      have HV := Lib.hid (And.intro hrd (And.intro hz4 (Kept.trans HX.out.2.2.2.2.1 hk4)))
      clear hrd hz4 hk4 b0 c0 c1 c2 c3
      cases r with
      | ok d l =>
        obtain ⟨q5, u, hpq5, hq5, rfl, rfl, hu, hd, htu, hz, hr⟩ := hpost
        have HU := Lib.hid (And.intro hu (And.intro hd (And.intro htu (And.intro hz hr))))
        clear hu hd htu hz hr
        go_wp2_with fail
        exact dt_ret rfl rfl rfl rfl HV.out.2.1 ⟨_, HV.out.1, datB_ok hpq (by omega) (by omega) HV.out.2.2 HU.out.2.2.2.2 (HU.out.1.keep (Nat.le_refl _) fun i hi => ⟨hi.low (by omega), rfl⟩) HU.out.2.1 HU.out.2.2.1 hpq5 hq5 HU.out.2.2.2.1⟩
      | bad x l =>
        obtain ⟨q5, hq5, rfl, rfl, hr⟩ := hpost
        have HU := Lib.hid hr
        clear hr
        go_wp2_with fail
        exact dt_ret rfl rfl rfl rfl HV.out.2.1 ⟨_, HV.out.1, DatB.post (datB_bad (by omega) (by omega) HV.out.2.2 HU.out hq5)⟩
theorem DatC.mono {L' : Nat} (h : DatC s R L) (hl : L' ≤ L) : DatC s R L' := fun p k w h1 h2 h3 h4 h5 => h p k w (Nat.le_trans h1 hl) h2 h3 h4 h5
theorem ListC.mono {L' : Nat} (h : ListC s R L) (hl : L' ≤ L) : ListC s R L' := fun e p k w h1 h2 h3 h4 h5 => h e p k w h1 (Nat.le_trans h2 hl) h3 h4 h5
theorem reads (hR : Off R) (hs : s.size ≤ 16384) : ∀ L, DatC s R L ∧ SkipC s R L ∧ ListC s R L
  | 0 => by
    have hS : SkipC s R 0 := fun p k w h1 h2 _ h4 _ => skip_end h4 (by omega) hs
    have hD : DatC s R 0 := datum_from hS (fun L' h => absurd h (by omega)) hR hs
    exact ⟨hD, hS, list_from hD hS hR hs⟩
  | L + 1 => by
    obtain ⟨hD, _, hL⟩ := reads hR hs L
    have hS := skip_from hD hR hs
    have hD' : DatC s R (L + 1) := datum_from hS (fun L' h => ⟨hL.mono (by omega), hD.mono (by omega)⟩) hR hs
    exact ⟨hD', hS, list_from hD' hS hR hs⟩
end
end Go.Proofs.YtlohdglhebplfaaGreatDoor
