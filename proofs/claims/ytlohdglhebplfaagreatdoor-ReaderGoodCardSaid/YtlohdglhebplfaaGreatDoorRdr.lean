/-
  The reader: a list, walked.
-/
import Derived.Test.YtlohdglhebplfaaGreatDoorRdq
namespace Go.Proofs.YtlohdglhebplfaaGreatDoor
open Go.RowKit

theorem own_kept {R base size n : Nat} {w w' : World} {e : TypeId} {v : Value} {xs : List Value} (h : w.ownsRow base e size v n xs) (hR : R < base) (hk : Kept R w w') : w'.ownsRow base e size v n xs := by
  refine ⟨h.1, ?_⟩
  rcases h.2 with h1 | ⟨g, c, cur, hv, hg, hgc, rest⟩
  · exact .inl h1
  · exact .inr ⟨g, c, cur, hv, hg, (hk.2 g (Array.getElem?_eq_some_iff.1 hgc).1 (by omega)).trans hgc, rest⟩
/-- A row of data that a call makes, from base on. -/
def RowL (base : Nat) (V : Value) (ts : List LT) (wr : World) : Prop := wr.ownsRow base 31 7 V ts.length (cellsAll ts) ∧ AllP wr (fun q => Fresh wr base q ∧ V.ownBlock ≠ some q) ts
theorem rowL_parts {base : Nat} {V : Value} {ts : List LT} {wr : World} (h : RowL base V ts wr) : ∃ ia ic, V = .slice ia ts.length ic ∧ SpotP (Fresh wr base) ia ts.length ic ∧ LiesPR wr (Fresh wr base) ts (blk ia) (ofs ia) := by
  obtain ⟨hown, hall⟩ := h
  have hc := hown.2
  rcases hc with ⟨hv, h0⟩ | ⟨g, c, cur, hv, hg, hgc, h1, h2, _⟩
  · obtain rfl : ts = [] := List.length_eq_zero_iff.1 h0
    exact ⟨none, 0, hv, ⟨Nat.le_refl _, Nat.zero_le _, fun h => absurd h (by simp), fun _ => rfl⟩, by rw [liesPR_nil]; trivial⟩
  · have hf : Fresh wr base g := Fresh.of hg hgc (by decide)
    refine ⟨some ⟨g, 0, none⟩, c, hv, ⟨h1, h2, fun _ => ⟨rfl, hf⟩, fun e => by cases e⟩, liesPR_of hf ts 0 (hall.keep (Nat.le_refl _) fun q hq => ⟨hq.1, rfl⟩) fun j v hj => ?_⟩
    have h3 := hown.cells (g := g) (by rw [hv]; rfl) j v hj
    rw [cell_add] at h3
    exact h3
theorem RowL.kept {R base : Nat} {V : Value} {ts : List LT} {w w' : World} (h : RowL base V ts w) (hR : R < base) (hk : Kept R w w') : RowL base V ts w' :=
  ⟨own_kept h.1 hR hk, h.2.keep hk.1 fun q hq => ⟨⟨hq.1.same (hk.2 q hq.1.lt (by have := hq.1.1; omega)), hq.2⟩, hk.2 q hq.1.lt (by have := hq.1.1; omega)⟩⟩
/-- One more. -/
theorem RowL.next {base gg cap b off : Nat} {V v : Value} {ts : List LT} {u : LT} {w W W7 w8 : World} (h : RowL base V ts w) (hs : w.heap.size ≤ W.heap.size) (hu : HeldP W (Fresh W w.heap.size) u) (hW : Below W.heap.size W W7) (hw : ∀ q, base ≤ q → q < w.heap.size → W.heap[q]? = w.heap[q]?) (hg : W7.grownBy w8 V.ownBlock) (hat : V.ownBlock = some gg ∨ W7.heap.size ≤ gg)
    (own8 : w8.ownsRow base 31 7 (.slice (some ⟨gg, 0, none⟩) (ts.length + 1) cap) (ts.length + 1) (cellsAll ts ++ u.cells)) (hb : b < base) (hbw : base ≤ w.heap.size) :
    RowL base (.slice (some ⟨gg, 0, none⟩) (ts.length + 1) cap) (ts ++ [u]) (w8.setCell ⟨b, off, none⟩ v) := by
  have hV : ∀ g, V.ownBlock = some g → base ≤ g ∧ g < w.heap.size := fun g h' => h.1.lt g h'
  have s7 := hW.size
  have s8 := hg.size
  have s9 := (KeepsWalks.setCell w8 ⟨b, off, none⟩ v).size
  have h8 : ∀ i, i < W.heap.size → V.ownBlock ≠ some i → w8.heap[i]? = W.heap[i]? := fun i hi hne => (hg.block i (by omega) (fun e => hne e.symm)).trans (hW.block i hi)
  have hset : ∀ i, i ≠ b → (w8.setCell ⟨b, off, none⟩ v).heap[i]? = w8.heap[i]? := fun i hi => Below.heap_setCell _ _ _ _ hi
  refine ⟨?_, ?_⟩
  · rw [List.length_append, cellsAll_append, show cellsAll [u] = u.cells from List.append_nil _]
    exact ownsRow_setCell_below own8 (a := ⟨b, off, none⟩) hb _
  · refine AllP.snoc (AllP.keep h.2 (by omega) fun q hq => ?_) (hu.keep (by omega) fun q hq => ?_)
    · have hqlt := hq.1.lt
      have hq3 := hq.1.1
      have e : (w8.setCell ⟨b, off, none⟩ v).heap[q]? = w.heap[q]? := (hset q (by omega)).trans ((h8 q (by omega) hq.2).trans (hw q hq3 hqlt))
      refine ⟨⟨hq.1.same e, fun h' => ?_⟩, e⟩
      obtain rfl : gg = q := Option.some.inj h'
      rcases hat with h' | h'
      · exact hq.2 h'
      · omega
    · have hqlt := hq.lt
      have hq6 := hq.1
      have hne : V.ownBlock ≠ some q := fun h' => by have := (hV q h').2; omega
      have e : (w8.setCell ⟨b, off, none⟩ v).heap[q]? = W.heap[q]? := (hset q (by omega)).trans (h8 q hqlt hne)
      refine ⟨⟨(hq.same e).low (by omega), fun h' => ?_⟩, e⟩
      obtain rfl : gg = q := Option.some.inj h'
      rcases hat with h' | h'
      · exact hne h'
      · omega
theorem DatB.post {s : ByteArray} {R p k : Nat} {w w' : World} {r : Res} {E : Ending} (h : DatB s R p k w.heap.size w r E w') : DatPost s R p k w r E w' := h
theorem tameR_snoc : ∀ {l : List LT} {u : LT}, TameR l → Tame u → TameR (l ++ [u])
  | [], u, _, h => by simp only [List.nil_append, TameR]; exact ⟨h, trivial⟩
  | t :: l, u, h, hu => by
    simp only [List.cons_append, TameR] at h ⊢
    exact ⟨h.1, tameR_snoc h.2 hu⟩
theorem sizes_append : ∀ (l m : List LT), sizes (l ++ m) = sizes l + sizes m
  | [], m => by simp [sizes]
  | t :: l, m => by simp only [List.cons_append, sizes, sizes_append l m]; omega
/-- What the loop over a list's data knows. -/
def LsI (s : ByteArray) (R p k B : Nat) (e : UInt8) (w : World) (q : Nat) (wr : World) : Prop := ∃ (V : Value) (ts : List LT), wr.heap[B]? = some (Obj.cells #[.int .i64 0, .bool false, .slice none 0 0, .bool false, .string ⟨#[]⟩, .slice none 0 0, .slice none 0 0] 31) ∧ wr.heap[B + 1]? = some (.cells (outC V) 31 (0, 0)) ∧ RowL (B + 2) V ts wr ∧ Rdr wr R s q 0 k ∧ Kept R w wr ∧ TameR ts ∧ 1 + sizes ts + 2 * p ≤ 2 * q ∧
  (∀ res, Rdd (.list e (shapes ts)) (rsB s q) k res → Rdd (.list e []) (rsB s (p + 1)) k res) ∧ B + 2 ≤ wr.heap.size
section
variable {w w' : World} {R p q k L : Nat} {s : ByteArray}
set_option maxRecDepth 100000 in
set_option maxHeartbeats 12800000 in
theorem list_from (hD : DatC s R L) (hS : SkipC s R L) (hR : Off R) (hs : s.size ≤ 16384) : ListC s R L := by
  intro e p k w hp hL hk h ht
  have hRl := h.lt
  have hne : R ≠ w.heap.size + 1 := by omega
  have hne0 : R ≠ w.heap.size := by omega
  obtain ⟨O5, hO5⟩ : ∃ o, o = (Obj.cells #[.int .i64 5, .bool false, .slice none 0 0, .bool false, .string ⟨#[]⟩, .slice none 0 0, .slice none 0 0] 31) := ⟨_, rfl⟩
  have hr2 := (h.alloc (Obj.cells #[.int .i64 0, .bool false, .slice none 0 0, .bool false, .string ⟨#[]⟩, .slice none 0 0, .slice none 0 0] 31)).alloc O5
  have hss : (w.setCell ⟨R, 1, none⟩ (.int .i64 ((p : Int) + 1))).heap.size = w.heap.size := World.size_setCell ..
  have hr3 := ((h.set1 (q := p + 1) ((p : Int) + 1) (by omega)).alloc (Obj.cells #[.int .i64 0, .bool false, .slice none 0 0, .bool false, .string ⟨#[]⟩, .slice none 0 0, .slice none 0 0] 31)).alloc O5
  have hk3 : Kept R w (((w.setCell ⟨R, 1, none⟩ (.int .i64 ((p : Int) + 1))).alloc (Obj.cells #[.int .i64 0, .bool false, .slice none 0 0, .bool false, .string ⟨#[]⟩, .slice none 0 0, .slice none 0 0] 31)).alloc O5) := ((Kept.rfl' R w).set _ _ rfl).onto (((Below.refl _ _).alloc (Nat.le_refl _) _).alloc (by simp) _)
  have hz0 : (((w.setCell ⟨R, 1, none⟩ (.int .i64 ((p : Int) + 1))).alloc (Obj.cells #[.int .i64 0, .bool false, .slice none 0 0, .bool false, .string ⟨#[]⟩, .slice none 0 0, .slice none 0 0] 31)).alloc O5).heap[w.heap.size]? = some (Obj.cells #[.int .i64 0, .bool false, .slice none 0 0, .bool false, .string ⟨#[]⟩, .slice none 0 0, .slice none 0 0] 31) := (Below.heap_alloc _ _ _ (by simp)).trans (by have := World.alloc_heap_new (w.setCell ⟨R, 1, none⟩ (.int .i64 ((p : Int) + 1))) (Obj.cells #[.int .i64 0, .bool false, .slice none 0 0, .bool false, .string ⟨#[]⟩, .slice none 0 0, .slice none 0 0] 31); rwa [hss] at this)
  have hz1 : (((w.setCell ⟨R, 1, none⟩ (.int .i64 ((p : Int) + 1))).alloc (Obj.cells #[.int .i64 0, .bool false, .slice none 0 0, .bool false, .string ⟨#[]⟩, .slice none 0 0, .slice none 0 0] 31)).alloc O5).heap[w.heap.size + 1]? = some O5 := by have := World.alloc_heap_new ((w.setCell ⟨R, 1, none⟩ (.int .i64 ((p : Int) + 1))).alloc (Obj.cells #[.int .i64 0, .bool false, .slice none 0 0, .bool false, .string ⟨#[]⟩, .slice none 0 0, .slice none 0 0] 31)) O5; rwa [World.size_alloc, hss] at this
  have hzs : (((w.setCell ⟨R, 1, none⟩ (.int .i64 ((p : Int) + 1))).alloc (Obj.cells #[.int .i64 0, .bool false, .slice none 0 0, .bool false, .string ⟨#[]⟩, .slice none 0 0, .slice none 0 0] 31)).alloc O5).heap.size = w.heap.size + 2 := by simp
  have HS0 := Lib.hid (show LsI s R p k w.heap.size e w (p + 1) (((w.setCell ⟨R, 1, none⟩ (.int .i64 ((p : Int) + 1))).alloc (Obj.cells #[.int .i64 0, .bool false, .slice none 0 0, .bool false, .string ⟨#[]⟩, .slice none 0 0, .slice none 0 0] 31)).alloc (Obj.cells #[.int .i64 5, .bool false, .slice none 0 0, .bool false, .string ⟨#[]⟩, .slice none 0 0, .slice none 0 0] 31)) from hO5 ▸
    ⟨.slice none 0 0, [], hz0, by rw [hz1, hO5]; rfl, ⟨World.ownsRow_nil _ _ _ _, fun _ h => by cases h⟩, hr3, hk3, by simp [TameR], by simp [sizes]; omega, by rw [shapes_nil]; exact fun _ h => h, by omega⟩)
  obtain ⟨c0, c1, c2, c3⟩ := hr2.c
  obtain ⟨f1, f2, f3⟩ := hr2.f
  rw [hO5] at c0 c1 c2 c3 f1 f2 f3
  have H := Lib.hid (And.intro h (And.intro ht (And.intro hD hS)))
  clear h ht hD hS hr2 hr3 hk3 hz0 hz1 hzs hss hO5
  go_enter Tryz.func127, Tryz.ntmps127
  go_wp2_with fail
  go_loopg [] (s.size - (p + 1)) (fun g wr => ∃ q : Nat, p + 1 ≤ q ∧ q ≤ s.size ∧ g = s.size - q ∧ Hid (LsI s R p k w.heap.size e w q wr))
  case atStart => exact ⟨p + 1, Nat.le_refl _, by omega, rfl, HS0⟩
  case round =>
    clear HS0
    (try clear c0 c1 c2 c3 f1 f2 f3)
    obtain ⟨q, hpq, hq, rfl, HI⟩ := hrel
    have HSk := Lib.hid (by
      obtain ⟨V, ts, hB0, hB1, hrow, hr, hkw, htm, hsz, hcon, hzs⟩ := HI.out
      exact H.out.2.2.2 q k wr (by omega) hq (by omega) hr (H.out.2.1.kept hR hkw))
    go_wp2_with fail
    refine HSk.out.mono ?_
    rintro E w1 ⟨r, hrd, hk1, hpost⟩
    obtain ⟨V, ts, hB0, hB1, hrow, -, hkw, htm, hsz, hcon, hzs⟩ := HI.out
    have hB0 := (hk1.2 w.heap.size (by omega) (by omega)).trans hB0
    have hB1 := (hk1.2 (w.heap.size + 1) (by omega) (by omega)).trans hB1
    have hrow := hrow.kept (by omega) hk1
    have hzs1 : w.heap.size + 2 ≤ w1.heap.size := Nat.le_trans hzs hk1.1
    have hkw := hkw.trans hk1
    clear hzs HI HSk hk1
    cases r with
    | bad x l =>
      obtain ⟨q2, hq2, rfl, rfl, hr⟩ := hpost
      obtain ⟨⟨d0, d1, d2, d3, d4, d5, d6⟩, g0, g1, g2, g3, g4, g5, g6⟩ := seven hB0
      have HX := Lib.hid (And.intro hB0 (And.intro hr (And.intro hkw (And.intro hcon hrd))))
      clear hB0 hB1 hrow hr hkw hcon hrd htm
      go_wp2_with fail
      exact dt_ret rfl rfl rfl rfl HX.out.1 ⟨_, HX.out.2.2.2.1 _ (.lskip HX.out.2.2.2.2), datPost_bad rfl hRl HX.out.2.2.1 HX.out.2.1 hq2⟩
    | ok z l =>
      obtain ⟨rfl, q2, hqq, hq2, rfl, rfl, hr⟩ := hpost
      by_cases hh : (rsB s q2).head? = some e
      · have hlt : q2 < s.size := by
          rcases Nat.lt_or_ge q2 s.size with h | h
          · exact h
          · rw [rsB_end h] at hh; cases hh
        have HH := Lib.hid (has_head hr hs e hh)
        have HY := Lib.hid (And.intro hB0 (And.intro hB1 (And.intro hrow (And.intro hkw (And.intro htm (And.intro hcon (And.intro hrd hh)))))))
        clear hr hB0 hB1 hrow hkw htm hcon hrd hh
        go_wp2_with fail
        refine HH.out.mono ?_
        rintro E w2 ⟨rfl, hr, hk2⟩
        have hB0 := (hk2.2 w.heap.size (by omega) (by omega)).trans HY.out.1
        have hB1 := (hk2.2 (w.heap.size + 1) (by omega) (by omega)).trans HY.out.2.1
        obtain ⟨ia, ic, hV, hsp, hli⟩ := rowL_parts (HY.out.2.2.1.kept (by omega) hk2)
        rw [hV] at hB1
        obtain ⟨⟨d0, d1, d2, d3, d4, d5, d6⟩, g0, g1, g2, g3, g4, g5, g6⟩ := seven hB0
        obtain ⟨⟨i0, i1, i2, i3, i4, i5, i6⟩, j0, j1, j2, j3, j4, j5, j6⟩ := seven hB1
        have HZ := Lib.hid (And.intro hB0 (And.intro hr (And.intro hk2 (And.intro hsp hli))))
        clear hr hB0 hB1 hk2 hsp hli hV
        go_wp2_with fail
        refine dt_ret rfl rfl rfl rfl HZ.out.1 ⟨_, HY.out.2.2.2.2.2.1 _ (.lclose HY.out.2.2.2.2.2.2.1 HY.out.2.2.2.2.2.2.2), ?_⟩
        rw [rsB_drop]
        exact datPost_ok (u := rowT ia ic ts none 0 []) rfl hRl (HY.out.2.2.2.1.trans HZ.out.2.2.1) HZ.out.2.1 (rowT_held (HZ.out.2.2.2.1.mono fun i hi => hi.low (by omega)) (LiesPR.keep (Nat.le_refl _) (fun i hi => ⟨hi.low (by omega), rfl⟩) _ _ _ HZ.out.2.2.2.2) (spotP_nil _) (by rw [liesPR_nil]; trivial)) (by rw [rowT_shape, shapes_nil]; rfl) (by simp only [rowT, Tame, TameR]; exact ⟨by omega, HY.out.2.2.2.2.1, trivial⟩) (by omega) (by omega)
          (by have e : (rowT ia ic ts none 0 []).size = 1 + sizes ts := by rw [LT.size_eq]; simp [rowT, LT.items, LT.tail, sizes]
              omega)
      · have HH := Lib.hid (has_no hr hq2 hs e hh)
        have HY := Lib.hid (And.intro hB0 (And.intro hB1 (And.intro hrow (And.intro hkw (And.intro htm (And.intro hcon (And.intro hrd hh)))))))
        clear hr hB0 hB1 hrow hkw htm hcon hrd hh
        go_wp2_with fail
        refine HH.out.mono ?_
        rintro E w2 ⟨rfl, hr, hk2⟩
        have hB0 := (hk2.2 w.heap.size (by omega) (by omega)).trans HY.out.1
        have hB1 := (hk2.2 (w.heap.size + 1) (by omega) (by omega)).trans HY.out.2.1
        have hrow := HY.out.2.2.1.kept (by omega) hk2
        have hkw := HY.out.2.2.2.1.trans hk2
        have hs2 : w.heap.size + 2 ≤ w2.heap.size := Nat.le_trans hzs1 hk2.1
        have HT2 := Lib.hid (H.out.2.1.kept hR hkw)
        clear hk2
        obtain ⟨ia, ic, hV, hsp, hli⟩ := rowL_parts hrow
        obtain ⟨m, hmm⟩ : ∃ m, m = ts.length := ⟨_, rfl⟩
        have hB1' := hB1
        rw [hV, ← hmm] at hB1'
        obtain ⟨⟨i0, i1, i2, i3, i4, i5, i6⟩, j0, j1, j2, j3, j4, j5, j6⟩ := seven hB1'
        have HF2 := Lib.hid (And.intro hB0 (And.intro hB1 (And.intro hrow (And.intro hr hkw))))
        have HV := Lib.hid (And.intro hV (And.intro hsp hli))
        have HA := Lib.hid (ahead_any hr HT2.out.2.1 hq2 hs)
        clear hB0 hB1 hB1' hrow hr hkw hV hsp hli
        by_cases hts : ts = []
        case pos =>
          have hm1 : ¬ 0 < m := by rw [hmm, hts]; simp
          have hm0 : decide (0 < (m : Int)) = false := decide_eq_false (by omega)
          have HN := Lib.hid (show ¬ (shapes ts ≠ [] ∧ aheadL (rsB s q2) = [46]) from fun h => h.1 (by rw [hts, shapes_nil]))
          have HMM := Lib.hid hmm
          clear hts hmm
          go_wp2_with fail
          obtain ⟨w3, hw3⟩ : ∃ x, x = w2 := ⟨_, rfl⟩
          have HF3 := Lib.hid (hw3 ▸ HF2.out)
          have HT3 := Lib.hid (hw3 ▸ HT2.out)
          have hs3 : w.heap.size + 2 ≤ w3.heap.size := hw3 ▸ hs2
          rw [← hw3]
          clear hw3 HF2 HT2 HA hs2 hm0 hm1
          have HDt := Lib.hid (H.out.2.2.1 q2 k w3 (by omega) hq2 (by omega) HF3.out.2.2.2.1 HT3.out)
          refine HDt.out.mono ?_
          rintro E w4 ⟨r, hr4, hk4, hpost⟩
          have hB0 := (hk4.2 w.heap.size (by omega) (by omega)).trans HF3.out.1
          have hB1 := (hk4.2 (w.heap.size + 1) (by omega) (by omega)).trans HF3.out.2.1
          rw [HV.out.1, ← HMM.out] at hB1
          have hs4 : w3.heap.size ≤ w4.heap.size := hk4.1
          have HX4 := Lib.hid (And.intro hr4 hk4)
          clear hr4 hk4 HDt
          (try clear i0 i1 i2 i3 i4 i5 i6 j0 j1 j2 j3 j4 j5 j6)
          cases r with
          | bad x l =>
            obtain ⟨q5, hq5, rfl, rfl, hr⟩ := hpost
            obtain ⟨⟨d0, d1, d2, d3, d4, d5, d6⟩, g0, g1, g2, g3, g4, g5, g6⟩ := seven hB0
            have HX := Lib.hid (And.intro hB0 hr)
            have hDl : w.heap.size < w4.heap.size := by omega
            have hne4 : w.heap.size ≠ w4.heap.size := by omega
            clear hB0 hB1 hr
            go_wp2_with fail
            refine dt_retV (D := w.heap.size) (V := (W7 w4 w.heap.size (.int .i64 0) (.bool false) (.slice none 0 0) (.bool false) (.string ⟨#[]⟩) (.slice none 0 0) (.slice none 0 0)).alloc (Obj.cells #[.int .i64 0, .bool false, .slice none 0 0, .bool false, .string ⟨#[]⟩, .slice none 0 0, .slice none 0 0] 31)) rfl rfl rfl rfl ((Below.heap_alloc _ _ _ (by rw [w7_size]; omega)).trans (w7_at HX.out.1)) ⟨_, HY.out.2.2.2.2.2.1 _ (.litem0 HY.out.2.2.2.2.2.2.1 HY.out.2.2.2.2.2.2.2 HN.out HX4.out.1), DatB.post (DatB.alloc (datB_bad (Nat.le_refl _) hRl (Kept.trans HF3.out.2.2.2.2 HX4.out.2) HX.out.2 hq5) _)⟩
          | ok d l =>
            obtain ⟨q5, u, hpq5, hq5, rfl, rfl, hu, hd, htu, hz, hr⟩ := hpost
            obtain ⟨W6, hW6⟩ : ∃ W, w4.alloc (Obj.cells #[.int .i64 u.k, .bool u.g, .slice u.la u.ln u.lc, .bool u.bb, .string u.s, .slice u.ia u.items.length u.ic, .slice u.ta u.tail.length u.tc] 31) = W := ⟨_, rfl⟩
            have h6s : W6.heap.size = w4.heap.size + 1 := by rw [← hW6]; exact World.size_alloc ..
            have h6n : W6.heap[w4.heap.size]? = some (Obj.cells #[.int .i64 u.k, .bool u.g, .slice u.la u.ln u.lc, .bool u.bb, .string u.s, .slice u.ia u.items.length u.ic, .slice u.ta u.tail.length u.tc] 31) := hW6 ▸ World.alloc_heap_new w4 (Obj.cells #[.int .i64 u.k, .bool u.g, .slice u.la u.ln u.lc, .bool u.bb, .string u.s, .slice u.ia u.items.length u.ic, .slice u.ta u.tail.length u.tc] 31)
            have h6o : ∀ i, i < w4.heap.size → W6.heap[i]? = w4.heap[i]? := fun i hi => hW6 ▸ Below.heap_alloc w4 (Obj.cells #[.int .i64 u.k, .bool u.g, .slice u.la u.ln u.lc, .bool u.bb, .string u.s, .slice u.ia u.items.length u.ic, .slice u.ta u.tail.length u.tc] 31) i hi
            obtain ⟨W7', hW7⟩ : ∃ W, W6.alloc (Obj.cells #[.int .i64 u.k, .bool u.g, .slice u.la u.ln u.lc, .bool u.bb, .string u.s, .slice u.ia u.items.length u.ic, .slice u.ta u.tail.length u.tc] 31) = W := ⟨_, rfl⟩
            have h7s : W7'.heap.size = W6.heap.size + 1 := by rw [← hW7]; exact World.size_alloc ..
            have h7n : W7'.heap[W6.heap.size]? = some (Obj.cells #[.int .i64 u.k, .bool u.g, .slice u.la u.ln u.lc, .bool u.bb, .string u.s, .slice u.ia u.items.length u.ic, .slice u.ta u.tail.length u.tc] 31) := hW7 ▸ World.alloc_heap_new W6 (Obj.cells #[.int .i64 u.k, .bool u.g, .slice u.la u.ln u.lc, .bool u.bb, .string u.s, .slice u.ia u.items.length u.ic, .slice u.ta u.tail.length u.tc] 31)
            have h7o : ∀ i, i < W6.heap.size → W7'.heap[i]? = W6.heap[i]? := fun i hi => hW7 ▸ Below.heap_alloc W6 (Obj.cells #[.int .i64 u.k, .bool u.g, .slice u.la u.ln u.lc, .bool u.bb, .string u.s, .slice u.ia u.items.length u.ic, .slice u.ta u.tail.length u.tc] 31) i hi
            have h47 : Below w4.heap.size w4 W7' := by rw [← hW7, ← hW6]; exact ((Below.refl _ _).alloc (Nat.le_refl _) _).alloc (by simp) _
            have hC1 := (h6o (w.heap.size + 1) (by omega)).trans hB1
            obtain ⟨⟨x0, x1, x2, x3, x4, x5, x6⟩, y0, y1, y2, y3, y4, y5, y6⟩ := seven h6n
            obtain ⟨⟨i0, i1, i2, i3, i4, i5, i6⟩, j0, j1, j2, j3, j4, j5, j6⟩ := seven hC1
            have hown : W7'.ownsRow (w.heap.size + 2) 31 7 (.slice ia m ic) m (cellsAll ts) := by
              have h0 := own_kept HF3.out.2.2.1.1 (by omega) HX4.out.2
              rw [HV.out.1, ← HMM.out] at h0
              rw [← hW7, ← hW6]
              exact (h0.alloc _).alloc _
            have hVo : V.ownBlock = Value.ownBlock (.slice ia m ic) := by rw [HV.out.1, ← HMM.out]
            have hmle : m ≤ 40000 := by have := sizes_ge ts; rw [HMM.out]; omega
            rw [h6s] at h7n
            have HO := Lib.hid (And.intro hown (And.intro h7n hVo))
            have HZ := Lib.hid (And.intro hB0 (And.intro ((h7o (w.heap.size + 1) (by omega)).trans hC1) (And.intro h6o (And.intro h7o (And.intro h47 (And.intro hu (And.intro hd (And.intro htu (And.intro hz hr)))))))))
            obtain ⟨ii, hi0, hz0, hz1, hz2⟩ := info_parts infoD
            clear hB0 hB1 h6n h7n h6o h7o h47 hC1 hown hVo hu hd htu hz hr
            go_wp2_with (at_builtin; (refine wpList_append_lies _ rfl (.tmp 47) (.tmp 49) 23 rfl (w.heap.size + 2) 31 ii (.agg #[.int .i64 0, .bool false, .slice none 0 0, .bool false, .string ⟨#[]⟩, .slice none 0 0, .slice none 0 0]) 7 112 Tryz.underlying23 hi0 hz0 hz1 hz2 rfl (by decide) (.slice ia m ic) m (cellsAll ts) rfl ?h1 ⟨w4.heap.size + 1, 0, none⟩ 1 1 u.cells rfl ?h2 ?h3 ?h4 (by decide) ?h5 ?h6 ?h7 W7'.heap.size rfl ?h8))
            case h1 => exact HO.out.1
            case h2 => rfl
            case h3 => exact cells_news HO.out.2.1
            case h4 => exact lt_one u
            case h5 => unfold maxLen; omega
            case h6 => omega
            case h7 => omega
            case h8 =>
              intro gg cap w8 own8 grow8 hat _
              have hs8 := grow8.size
              have hk8 : ∀ i, i < W7'.heap.size → V.ownBlock ≠ some i → w8.heap[i]? = W7'.heap[i]? := fun i h1 h2 => grow8.block i h1 (fun e => h2 (HO.out.2.2.trans e.symm))
              have hVg : ∀ i, i < w.heap.size + 2 → V.ownBlock ≠ some i := fun i hi e => by have := (HF3.out.2.2.1.1.lt i e).1; omega
              have hD1 := (hk8 (w.heap.size + 1) (by omega) (hVg _ (by omega))).trans HZ.out.2.1
              clear i0 i1 i2 i3 i4 i5 i6 j0 j1 j2 j3 j4 j5 j6
              obtain ⟨⟨i0, i1, i2, i3, i4, i5, i6⟩, j0, j1, j2, j3, j4, j5, j6⟩ := seven hD1
              have HG := Lib.hid (And.intro own8 (And.intro grow8 (And.intro hk8 (And.intro hVg (And.intro hD1 hat)))))
              clear own8 grow8 hk8 hVg hD1 hat
              go_wp2_with fail
              go_roundg (s.size - q5)
              case measure => omega
              case rel =>
                obtain ⟨own8, grow8, hk8, hVg, hD1, hat⟩ := HG.out
                obtain ⟨hB0, hC1, h6o, h7o, h47, hu, hd, htu, hz, hr⟩ := HZ.out
                have hset : ∀ i, i ≠ w.heap.size + 1 → (w8.setCell ⟨w.heap.size + 1, 5, none⟩ (.slice (some ⟨gg, 0, none⟩) (m + 1) cap)).heap[i]? = w8.heap[i]? := fun i hi => Below.heap_setCell _ _ _ _ hi
                have hs9 : (w8.setCell ⟨w.heap.size + 1, 5, none⟩ (.slice (some ⟨gg, 0, none⟩) (m + 1) cap)).heap.size = w8.heap.size := World.size_setCell ..
                have h84 : ∀ i, i < w.heap.size + 2 → i < w4.heap.size → w8.heap[i]? = w4.heap[i]? := fun i h1 h2 => (hk8 i (by omega) (hVg i h1)).trans ((h7o i (by omega)).trans (h6o i h2))
                have hkw : Kept R w w4 := Kept.trans HF3.out.2.2.2.2 HX4.out.2
                have hnx := HF3.out.2.2.1.next (u := u) (gg := gg) (cap := cap) (b := w.heap.size + 1) (off := 5) (v := .slice (some ⟨gg, 0, none⟩) (m + 1) cap) (W := w4) hs4 hu h47 (fun i h1 h2 => HX4.out.2.2 i h2 (by omega)) (by rw [HO.out.2.2]; exact grow8) (hat.imp (fun h => HO.out.2.2.trans h) (fun h => by omega)) (by rw [← HMM.out]; exact own8) (by omega) (by omega)
                rw [← HMM.out] at hnx
                refine ⟨q5, by omega, hq5, rfl, Lib.hid ⟨_, ts ++ [u], ?_, ?_, hnx, ?_, ?_, ?_, ?_, ?_, by omega⟩⟩
                · exact (hset _ (by omega)).trans ((h84 _ (by omega) (by omega)).trans hB0)
                · simp [World.setCell, Array.getElem?_modify, hD1, outC]
                · exact hr.same ((hset R (by omega)).trans (h84 R (by omega) hr.lt))
                · exact ⟨by have := hkw.1; omega, fun i hi hiR => (hset i (by omega)).trans ((h84 i (by omega) (by have := hkw.1; omega)).trans (hkw.2 i hi hiR)), grow8.os.trans (h47.os.trans hkw.2.os), grow8.tape.trans (h47.tape.trans hkw.2.tape), grow8.output.trans (h47.output.trans hkw.2.output)⟩
                · exact tameR_snoc HY.out.2.2.2.2.1 htu
                · rw [sizes_append]; simp only [sizes]; omega
                · intro res hres
                  refine HY.out.2.2.2.2.2.1 _ (.litem HY.out.2.2.2.2.2.2.1 HY.out.2.2.2.2.2.2.2 HN.out HX4.out.1 ?_)
                  rw [shapes_append, shapes_cons, shapes_nil, hd] at hres
                  exact hres
        case neg =>
          have hm1 : 0 < m := by have := List.length_pos_iff.2 hts; omega
          have hm0 : decide (0 < (m : Int)) = true := decide_eq_true (by omega)
          have hacc : shapes ts ≠ [] := fun h => hts (List.length_eq_zero_iff.1 (by rw [← shapes_length, h]; rfl))
          have HMM := Lib.hid hmm
          clear hts hmm
          by_cases hdot : aheadL (rsB s q2) = [46]
          case pos =>
            have e1 := str_is (a := bytesOf (aheadL (rsB s q2))) hdot
            have HN := Lib.hid (And.intro hacc hdot)
            have hlt : q2 < s.size := by
              rcases Nat.lt_or_ge q2 s.size with h | h
              · exact h
              · rw [rsB_end h] at hdot; cases hdot
            clear hdot hacc
            go_wp2_with fail
            refine HA.out.mono ?_
            rintro E w3 ⟨rfl, hn⟩
            have hk3 : Kept R w2 w3 := by obtain ⟨n, rfl⟩ := hn; exact (Kept.rfl' _ _).drewN n
            have hB0 := (hk3.2 w.heap.size (by omega) (by omega)).trans HF2.out.1
            have hB1 := (hk3.2 (w.heap.size + 1) (by omega) (by omega)).trans HF2.out.2.1
            rw [HV.out.1, ← HMM.out] at hB1
            have hr : Rdr w3 R s q2 0 k := by obtain ⟨n, rfl⟩ := hn; exact HF2.out.2.2.2.1.drewN n
            have hs3 : w2.heap.size ≤ w3.heap.size := hk3.1
            clear i0 i1 i2 i3 i4 i5 i6 j0 j1 j2 j3 j4 j5 j6
            obtain ⟨⟨i0, i1, i2, i3, i4, i5, i6⟩, j0, j1, j2, j3, j4, j5, j6⟩ := seven hB1
            have hd := dotted_from H.out.2.2.1 H.out.2.2.2 hR hs (B0 := w.heap.size + 2) (p0 := p) hr (HT2.out.kept hR hk3) hlt (by omega) (by omega) (by omega) (by omega) (HV.out.2.1.mono fun i hi => hi.same (hk3.2 i hi.lt (by have := hi.1; omega))) (LiesPR.keep hk3.1 (fun i hi => ⟨hi.same (hk3.2 i hi.lt (by have := hi.1; omega)), hk3.2 i hi.lt (by have := hi.1; omega)⟩) _ _ _ HV.out.2.2) HY.out.2.2.2.2.1 (by omega) (by omega) e
            rw [← HMM.out] at hd
            have HDD := Lib.hid hd
            have HX := Lib.hid (And.intro hB0 hk3)
            clear hd hr hB0 hB1 hk3 hn
            go_wp2_with fail
            refine HDD.out.mono ?_
            rintro E w4 ⟨r, hdr, hk4, hpost⟩
            have hB0 := (hk4.2 w.heap.size (by omega) (by omega)).trans HX.out.1
            obtain ⟨⟨d0, d1, d2, d3, d4, d5, d6⟩, g0, g1, g2, g3, g4, g5, g6⟩ := seven hB0
            have HZ := Lib.hid (And.intro hB0 (And.intro ((HF2.out.2.2.2.2.trans HX.out.2).trans hk4) (dot_list HY.out.2.2.2.2.2.2.1 HY.out.2.2.2.2.2.2.2 HN.out hdr)))
            clear hB0 hk4 hdr
            cases r with
            | ok d l =>
              obtain ⟨q5, u, hpq5, hq5, rfl, rfl, hu, hd, htu, hz, hr⟩ := hpost
              have HU := Lib.hid (And.intro hu (And.intro hd (And.intro htu (And.intro hz hr))))
              clear hu hd htu hz hr
              go_wp2_with fail
              exact dt_ret rfl rfl rfl rfl HZ.out.1 ⟨_, HY.out.2.2.2.2.2.1 _ HZ.out.2.2, datPost_ok rfl hRl HZ.out.2.1 HU.out.2.2.2.2 (HU.out.1.keep (Nat.le_refl _) fun i hi => ⟨hi.low (by omega), rfl⟩) HU.out.2.1 HU.out.2.2.1 hpq5 hq5 HU.out.2.2.2.1⟩
            | bad x l =>
              obtain ⟨q5, hq5, rfl, rfl, hr⟩ := hpost
              have HU := Lib.hid hr
              clear hr
              go_wp2_with fail
              exact dt_ret rfl rfl rfl rfl HZ.out.1 ⟨_, HY.out.2.2.2.2.2.1 _ HZ.out.2.2, datPost_bad rfl hRl HZ.out.2.1 HU.out hq5⟩
          case neg =>
            have e1 := str_not (a := bytesOf (aheadL (rsB s q2))) (l := [46]) hdot
            have HN := Lib.hid (show ¬ (shapes ts ≠ [] ∧ aheadL (rsB s q2) = [46]) from fun h => hdot h.2)
            clear hdot hacc
            go_wp2_with fail
            refine HA.out.mono ?_
            rintro E w3 ⟨rfl, hn⟩
            have hk3 : Kept R w2 w3 := by obtain ⟨n, rfl⟩ := hn; exact (Kept.rfl' _ _).drewN n
            have hr3 : Rdr w3 R s q2 0 k := by obtain ⟨n, rfl⟩ := hn; exact HF2.out.2.2.2.1.drewN n
            have HF3 := Lib.hid (And.intro ((hk3.2 w.heap.size (by omega) (by omega)).trans HF2.out.1) (And.intro ((hk3.2 (w.heap.size + 1) (by omega) (by omega)).trans HF2.out.2.1) (And.intro (HF2.out.2.2.1.kept (by omega) hk3) (And.intro hr3 (Kept.trans HF2.out.2.2.2.2 hk3)))))
            have HT3 := Lib.hid (HT2.out.kept hR hk3)
            have hs3 : w.heap.size + 2 ≤ w3.heap.size := Nat.le_trans hs2 hk3.1
            clear hk3 hr3 hn HT2 HA hm0
            go_wp2_with fail
            have HDt := Lib.hid (H.out.2.2.1 q2 k w3 (by omega) hq2 (by omega) HF3.out.2.2.2.1 HT3.out)
            refine HDt.out.mono ?_
            rintro E w4 ⟨r, hr4, hk4, hpost⟩
            have hB0 := (hk4.2 w.heap.size (by omega) (by omega)).trans HF3.out.1
            have hB1 := (hk4.2 (w.heap.size + 1) (by omega) (by omega)).trans HF3.out.2.1
            rw [HV.out.1, ← HMM.out] at hB1
            have hs4 : w3.heap.size ≤ w4.heap.size := hk4.1
            have HX4 := Lib.hid (And.intro hr4 hk4)
            clear hr4 hk4 HDt
            (try clear i0 i1 i2 i3 i4 i5 i6 j0 j1 j2 j3 j4 j5 j6)
            cases r with
            | bad x l =>
              obtain ⟨q5, hq5, rfl, rfl, hr⟩ := hpost
              obtain ⟨⟨d0, d1, d2, d3, d4, d5, d6⟩, g0, g1, g2, g3, g4, g5, g6⟩ := seven hB0
              have HX := Lib.hid (And.intro hB0 hr)
              have hDl : w.heap.size < w4.heap.size := by omega
              have hne4 : w.heap.size ≠ w4.heap.size := by omega
              clear hB0 hB1 hr
              go_wp2_with fail
              refine dt_retV (D := w.heap.size) (V := (W7 w4 w.heap.size (.int .i64 0) (.bool false) (.slice none 0 0) (.bool false) (.string ⟨#[]⟩) (.slice none 0 0) (.slice none 0 0)).alloc (Obj.cells #[.int .i64 0, .bool false, .slice none 0 0, .bool false, .string ⟨#[]⟩, .slice none 0 0, .slice none 0 0] 31)) rfl rfl rfl rfl ((Below.heap_alloc _ _ _ (by rw [w7_size]; omega)).trans (w7_at HX.out.1)) ⟨_, HY.out.2.2.2.2.2.1 _ (.litem0 HY.out.2.2.2.2.2.2.1 HY.out.2.2.2.2.2.2.2 HN.out HX4.out.1), DatB.post (DatB.alloc (datB_bad (Nat.le_refl _) hRl (Kept.trans HF3.out.2.2.2.2 HX4.out.2) HX.out.2 hq5) _)⟩
            | ok d l =>
              obtain ⟨q5, u, hpq5, hq5, rfl, rfl, hu, hd, htu, hz, hr⟩ := hpost
              obtain ⟨W6, hW6⟩ : ∃ W, w4.alloc (Obj.cells #[.int .i64 u.k, .bool u.g, .slice u.la u.ln u.lc, .bool u.bb, .string u.s, .slice u.ia u.items.length u.ic, .slice u.ta u.tail.length u.tc] 31) = W := ⟨_, rfl⟩
              have h6s : W6.heap.size = w4.heap.size + 1 := by rw [← hW6]; exact World.size_alloc ..
              have h6n : W6.heap[w4.heap.size]? = some (Obj.cells #[.int .i64 u.k, .bool u.g, .slice u.la u.ln u.lc, .bool u.bb, .string u.s, .slice u.ia u.items.length u.ic, .slice u.ta u.tail.length u.tc] 31) := hW6 ▸ World.alloc_heap_new w4 (Obj.cells #[.int .i64 u.k, .bool u.g, .slice u.la u.ln u.lc, .bool u.bb, .string u.s, .slice u.ia u.items.length u.ic, .slice u.ta u.tail.length u.tc] 31)
              have h6o : ∀ i, i < w4.heap.size → W6.heap[i]? = w4.heap[i]? := fun i hi => hW6 ▸ Below.heap_alloc w4 (Obj.cells #[.int .i64 u.k, .bool u.g, .slice u.la u.ln u.lc, .bool u.bb, .string u.s, .slice u.ia u.items.length u.ic, .slice u.ta u.tail.length u.tc] 31) i hi
              obtain ⟨W7', hW7⟩ : ∃ W, W6.alloc (Obj.cells #[.int .i64 u.k, .bool u.g, .slice u.la u.ln u.lc, .bool u.bb, .string u.s, .slice u.ia u.items.length u.ic, .slice u.ta u.tail.length u.tc] 31) = W := ⟨_, rfl⟩
              have h7s : W7'.heap.size = W6.heap.size + 1 := by rw [← hW7]; exact World.size_alloc ..
              have h7n : W7'.heap[W6.heap.size]? = some (Obj.cells #[.int .i64 u.k, .bool u.g, .slice u.la u.ln u.lc, .bool u.bb, .string u.s, .slice u.ia u.items.length u.ic, .slice u.ta u.tail.length u.tc] 31) := hW7 ▸ World.alloc_heap_new W6 (Obj.cells #[.int .i64 u.k, .bool u.g, .slice u.la u.ln u.lc, .bool u.bb, .string u.s, .slice u.ia u.items.length u.ic, .slice u.ta u.tail.length u.tc] 31)
              have h7o : ∀ i, i < W6.heap.size → W7'.heap[i]? = W6.heap[i]? := fun i hi => hW7 ▸ Below.heap_alloc W6 (Obj.cells #[.int .i64 u.k, .bool u.g, .slice u.la u.ln u.lc, .bool u.bb, .string u.s, .slice u.ia u.items.length u.ic, .slice u.ta u.tail.length u.tc] 31) i hi
              have h47 : Below w4.heap.size w4 W7' := by rw [← hW7, ← hW6]; exact ((Below.refl _ _).alloc (Nat.le_refl _) _).alloc (by simp) _
              have hC1 := (h6o (w.heap.size + 1) (by omega)).trans hB1
              obtain ⟨⟨x0, x1, x2, x3, x4, x5, x6⟩, y0, y1, y2, y3, y4, y5, y6⟩ := seven h6n
              obtain ⟨⟨i0, i1, i2, i3, i4, i5, i6⟩, j0, j1, j2, j3, j4, j5, j6⟩ := seven hC1
              have hown : W7'.ownsRow (w.heap.size + 2) 31 7 (.slice ia m ic) m (cellsAll ts) := by
                have h0 := own_kept HF3.out.2.2.1.1 (by omega) HX4.out.2
                rw [HV.out.1, ← HMM.out] at h0
                rw [← hW7, ← hW6]
                exact (h0.alloc _).alloc _
              have hVo : V.ownBlock = Value.ownBlock (.slice ia m ic) := by rw [HV.out.1, ← HMM.out]
              have hmle : m ≤ 40000 := by have := sizes_ge ts; rw [HMM.out]; omega
              rw [h6s] at h7n
              have HO := Lib.hid (And.intro hown (And.intro h7n hVo))
              have HZ := Lib.hid (And.intro hB0 (And.intro ((h7o (w.heap.size + 1) (by omega)).trans hC1) (And.intro h6o (And.intro h7o (And.intro h47 (And.intro hu (And.intro hd (And.intro htu (And.intro hz hr)))))))))
              obtain ⟨ii, hi0, hz0, hz1, hz2⟩ := info_parts infoD
              clear hB0 hB1 h6n h7n h6o h7o h47 hC1 hown hVo hu hd htu hz hr
              go_wp2_with (at_builtin; (refine wpList_append_lies _ rfl (.tmp 47) (.tmp 49) 23 rfl (w.heap.size + 2) 31 ii (.agg #[.int .i64 0, .bool false, .slice none 0 0, .bool false, .string ⟨#[]⟩, .slice none 0 0, .slice none 0 0]) 7 112 Tryz.underlying23 hi0 hz0 hz1 hz2 rfl (by decide) (.slice ia m ic) m (cellsAll ts) rfl ?h1 ⟨w4.heap.size + 1, 0, none⟩ 1 1 u.cells rfl ?h2 ?h3 ?h4 (by decide) ?h5 ?h6 ?h7 W7'.heap.size rfl ?h8))
              case h1 => exact HO.out.1
              case h2 => rfl
              case h3 => exact cells_news HO.out.2.1
              case h4 => exact lt_one u
              case h5 => unfold maxLen; omega
              case h6 => omega
              case h7 => omega
              case h8 =>
                intro gg cap w8 own8 grow8 hat _
                have hs8 := grow8.size
                have hk8 : ∀ i, i < W7'.heap.size → V.ownBlock ≠ some i → w8.heap[i]? = W7'.heap[i]? := fun i h1 h2 => grow8.block i h1 (fun e => h2 (HO.out.2.2.trans e.symm))
                have hVg : ∀ i, i < w.heap.size + 2 → V.ownBlock ≠ some i := fun i hi e => by have := (HF3.out.2.2.1.1.lt i e).1; omega
                have hD1 := (hk8 (w.heap.size + 1) (by omega) (hVg _ (by omega))).trans HZ.out.2.1
                clear i0 i1 i2 i3 i4 i5 i6 j0 j1 j2 j3 j4 j5 j6
                obtain ⟨⟨i0, i1, i2, i3, i4, i5, i6⟩, j0, j1, j2, j3, j4, j5, j6⟩ := seven hD1
                have HG := Lib.hid (And.intro own8 (And.intro grow8 (And.intro hk8 (And.intro hVg (And.intro hD1 hat)))))
                clear own8 grow8 hk8 hVg hD1 hat
                go_wp2_with fail
                go_roundg (s.size - q5)
                case measure => omega
                case rel =>
                  obtain ⟨own8, grow8, hk8, hVg, hD1, hat⟩ := HG.out
                  obtain ⟨hB0, hC1, h6o, h7o, h47, hu, hd, htu, hz, hr⟩ := HZ.out
                  have hset : ∀ i, i ≠ w.heap.size + 1 → (w8.setCell ⟨w.heap.size + 1, 5, none⟩ (.slice (some ⟨gg, 0, none⟩) (m + 1) cap)).heap[i]? = w8.heap[i]? := fun i hi => Below.heap_setCell _ _ _ _ hi
                  have hs9 : (w8.setCell ⟨w.heap.size + 1, 5, none⟩ (.slice (some ⟨gg, 0, none⟩) (m + 1) cap)).heap.size = w8.heap.size := World.size_setCell ..
                  have h84 : ∀ i, i < w.heap.size + 2 → i < w4.heap.size → w8.heap[i]? = w4.heap[i]? := fun i h1 h2 => (hk8 i (by omega) (hVg i h1)).trans ((h7o i (by omega)).trans (h6o i h2))
                  have hkw : Kept R w w4 := Kept.trans HF3.out.2.2.2.2 HX4.out.2
                  have hnx := HF3.out.2.2.1.next (u := u) (gg := gg) (cap := cap) (b := w.heap.size + 1) (off := 5) (v := .slice (some ⟨gg, 0, none⟩) (m + 1) cap) (W := w4) hs4 hu h47 (fun i h1 h2 => HX4.out.2.2 i h2 (by omega)) (by rw [HO.out.2.2]; exact grow8) (hat.imp (fun h => HO.out.2.2.trans h) (fun h => by omega)) (by rw [← HMM.out]; exact own8) (by omega) (by omega)
                  rw [← HMM.out] at hnx
                  refine ⟨q5, by omega, hq5, rfl, Lib.hid ⟨_, ts ++ [u], ?_, ?_, hnx, ?_, ?_, ?_, ?_, ?_, by omega⟩⟩
                  · exact (hset _ (by omega)).trans ((h84 _ (by omega) (by omega)).trans hB0)
                  · simp [World.setCell, Array.getElem?_modify, hD1, outC]
                  · exact hr.same ((hset R (by omega)).trans (h84 R (by omega) hr.lt))
                  · exact ⟨by have := hkw.1; omega, fun i hi hiR => (hset i (by omega)).trans ((h84 i (by omega) (by have := hkw.1; omega)).trans (hkw.2 i hi hiR)), grow8.os.trans (h47.os.trans hkw.2.os), grow8.tape.trans (h47.tape.trans hkw.2.tape), grow8.output.trans (h47.output.trans hkw.2.output)⟩
                  · exact tameR_snoc HY.out.2.2.2.2.1 htu
                  · rw [sizes_append]; simp only [sizes]; omega
                  · intro res hres
                    refine HY.out.2.2.2.2.2.1 _ (.litem HY.out.2.2.2.2.2.2.1 HY.out.2.2.2.2.2.2.2 HN.out HX4.out.1 ?_)
                    rw [shapes_append, shapes_cons, shapes_nil, hd] at hres
                    exact hres
end
end Go.Proofs.YtlohdglhebplfaaGreatDoor
