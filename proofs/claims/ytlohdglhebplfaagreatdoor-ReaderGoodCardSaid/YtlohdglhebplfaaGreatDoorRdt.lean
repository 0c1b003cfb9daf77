/-
  The reader: quotes, walked.
-/
import Derived.Test.YtlohdglhebplfaaGreatDoorRdr
namespace Go.Proofs.YtlohdglhebplfaaGreatDoor
open Go.RowKit

def qmL : Nat → By | 0 => [39] | 1 => [96] | 2 => [44, 64] | _ => [44]
def qnL : Nat → By | 0 => [113, 117, 111, 116, 101] | 1 => [113, 117, 97, 115, 105, 113, 117, 111, 116, 101] | 2 => [117, 110, 113, 117, 111, 116, 101, 45, 115, 112, 108, 105, 99, 105, 110, 103] | _ => [117, 110, 113, 117, 111, 116, 101]
theorem quo_idx (c : UInt8) (m : By) (h : c = 39 ∨ c = 96 ∨ c = 44) : ∃ j, j < 4 ∧ (∀ i, i < j → Lib.hasPrefix (c :: m) (qmL i) = false) ∧ Lib.hasPrefix (c :: m) (qmL j) = true ∧ (quoteL c m).1 = qnL j ∧ (quoteL c m).2 = (c :: m).drop (qmL j).length := by
  rcases h with rfl | rfl | rfl
  · exact ⟨0, by omega, fun i hi => absurd hi (Nat.not_lt_zero _), by simp [Lib.hasPrefix, qmL, List.isPrefixOf], by simp [quoteL, qnL], by simp [quoteL, qmL]⟩
  · exact ⟨1, by omega, fun i hi => by obtain rfl : i = 0 := by omega
                                       simp [Lib.hasPrefix, qmL, List.isPrefixOf], by simp [Lib.hasPrefix, qmL, List.isPrefixOf], by simp [quoteL, qnL], by simp [quoteL, qmL]⟩
  · have h0 : ∀ i, i < 2 → Lib.hasPrefix (44 :: m) (qmL i) = false := fun i hi => by
      match i, hi with
      | 0, _ => simp [Lib.hasPrefix, qmL, List.isPrefixOf]
      | 1, _ => simp [Lib.hasPrefix, qmL, List.isPrefixOf]
    by_cases hm : m.head? = some 64
    · cases m with
      | nil => cases hm
      | cons a m =>
        obtain rfl : a = 64 := Option.some.inj hm
        exact ⟨2, by omega, h0, by simp [Lib.hasPrefix, qmL, List.isPrefixOf], by simp [quoteL, qnL], by simp [quoteL, qmL]⟩
    · refine ⟨3, by omega, fun i hi => ?_, by simp [Lib.hasPrefix, qmL, List.isPrefixOf], by simp [quoteL, qnL, hm], by simp [quoteL, qmL, hm]⟩
      by_cases h2 : i < 2
      · exact h0 i h2
      · obtain rfl : i = 2 := by omega
        cases m with
        | nil => simp [Lib.hasPrefix, qmL, List.isPrefixOf]
        | cons a m =>
          have : a ≠ 64 := fun e => hm (by rw [e]; rfl)
          simp [Lib.hasPrefix, qmL, List.isPrefixOf]
          exact fun e => this e.symm
theorem qm_len (j : Nat) : 1 ≤ (qmL j).length ∧ (qmL j).length ≤ 2 := by
  match j with
  | 0 | 1 | 2 | j + 3 => simp [qmL]
theorem qn_len (j : Nat) : qnL j ≠ [] ∧ (qnL j).length ≤ 64 := by
  match j with
  | 0 | 1 | 2 | j + 3 => simp [qnL]
theorem q_at (k : Nat) (hk : k < 4) : (#[.string ⟨#[39]⟩, .string ⟨#[113, 117, 111, 116, 101]⟩, .string ⟨#[96]⟩, .string ⟨#[113, 117, 97, 115, 105, 113, 117, 111, 116, 101]⟩, .string ⟨#[44, 64]⟩, .string ⟨#[117, 110, 113, 117, 111, 116, 101, 45, 115, 112, 108, 105, 99, 105, 110, 103]⟩, .string ⟨#[44]⟩, .string ⟨#[117, 110, 113, 117, 111, 116, 101]⟩] : Array Value).extract (k * 2) (k * 2 + 2) = #[.string (bytesOf (qmL k)), .string (bytesOf (qnL k))] := by
  match k, hk with
  | 0, _ | 1, _ | 2, _ | 3, _ => rfl
  | j + 4, hj => omega
theorem run_quo (A : Array Value) (k : Nat) (w : World) (hk : k < 4) (hA : A.size = 8) (h : A.extract (k * 2) (k * 2 + 2) = #[.string (bytesOf (qmL k)), .string (bytesOf (qnL k))]) : (Instr.index 178 (.agg A) (.int .i64 (k : Int))).run Tryz.prog w = .ok (.agg #[.string (bytesOf (qmL k)), .string (bytesOf (qnL k))]) w := by
  simp [Instr.index, asIntOf, part, Sem.run_bind, run_underlying Tryz.underlying178, go_sem, h, hk, hA]
/-- What a quote comes to. -/
def QuoRes (s : ByteArray) (p k : Nat) (c : UInt8) (r : Res) : Prop :=
  (∃ d l, r = .ok (listD [symD (quoteL c (rsB s (p + 1))).1, d] []) l ∧ Rdd .datum (quoteL c (rsB s (p + 1))).2 k (.ok d l)) ∨ ∃ x l, r = .bad x l ∧ Rdd .datum (quoteL c (rsB s (p + 1))).2 k (.bad x l)
section
variable {w w' : World} {R p q k L : Nat} {s : ByteArray}
set_option maxRecDepth 100000 in
set_option maxHeartbeats 12800000 in
theorem quote_from (hD : DatC s R L) (hR : Off R) (hs : s.size ≤ 16384) (h : Rdr w R s p 0 k) (ht : Tabs w) (hp : p < s.size) (hc : s[p] = 39 ∨ s[p] = 96 ∨ s[p] = 44) (hL : s.size - (p + 1) ≤ L) (hk : k + (s.size - p) ≤ 40000) :
    Calls Tryz.prog 129 #[.pointer (some ⟨R, 0, none⟩)] w fun E w' => ∃ r, QuoRes s p k s[p] r ∧ DatPost s R p k w r E w' := by
  have hRl := h.lt
  have hne0 : R ≠ w.heap.size := by omega
  obtain ⟨jj, hj4, hbefore, hat, hname, hrest⟩ := quo_idx s[p] (rsB s (p + 1)) hc
  rw [← rsB_cons hp] at hbefore hat hrest
  rw [rsB_drop] at hrest
  have hjl := qm_len jj
  have hple : p + (qmL jj).length ≤ s.size := by
    have h1 := List.isPrefixOf_iff_prefix.1 hat
    have h2 := h1.length_le
    rw [rsB_len] at h2
    omega
  obtain ⟨T, hT⟩ := ht.2.2
  have hb1 : Below w.heap.size w (w.alloc (Obj.cells #[.int .i64 0, .bool false, .slice none 0 0, .bool false, .string ⟨#[]⟩, .slice none 0 0, .slice none 0 0] 31)) := (Below.refl _ w).alloc (Nat.le_refl _) _
  have hgl : 0 < w.heap.size := (Array.getElem?_eq_some_iff.1 hT).1
  have hT1 := (hb1.block _ hgl).trans hT
  have hqs := fun j => Lib.cell_of_heap hT1 j
  have t0 := hqs 0; have t1 := hqs 1; have t2 := hqs 2; have t3 := hqs 3; have t4 := hqs 4; have t5 := hqs 5; have t6 := hqs 6; have t7 := hqs 7
  simp only [List.getElem?_toArray, List.getElem?_cons_zero, List.getElem?_cons_succ] at t0 t1 t2 t3 t4 t5 t6 t7
  have H := Lib.hid (And.intro h (And.intro ht (And.intro hD (And.intro hbefore (And.intro hat (And.intro hname hrest))))))
  have HW := Lib.hid (show Rdr (w.alloc (Obj.cells #[.int .i64 0, .bool false, .slice none 0 0, .bool false, .string ⟨#[]⟩, .slice none 0 0, .slice none 0 0] 31)) R s p 0 k ∧ Kept R w (w.alloc (Obj.cells #[.int .i64 0, .bool false, .slice none 0 0, .bool false, .string ⟨#[]⟩, .slice none 0 0, .slice none 0 0] 31)) ∧ (w.alloc (Obj.cells #[.int .i64 0, .bool false, .slice none 0 0, .bool false, .string ⟨#[]⟩, .slice none 0 0, .slice none 0 0] 31)).heap[w.heap.size]? = some (Obj.cells #[.int .i64 0, .bool false, .slice none 0 0, .bool false, .string ⟨#[]⟩, .slice none 0 0, .slice none 0 0] 31) from ⟨h.alloc _, Kept.low hb1, z_alloc w⟩)
  clear h ht hD hbefore hat hname hrest hT hT1 hqs hb1 hgl
  go_enter Tryz.func129, Tryz.ntmps129
  go_wp2_with fail
  clear t0 t1 t2 t3 t4 t5 t6 t7
  have hqa := Lib.hid q_at
  generalize hA : (#[.string ⟨#[39]⟩, .string ⟨#[113, 117, 111, 116, 101]⟩, .string ⟨#[96]⟩, .string ⟨#[113, 117, 97, 115, 105, 113, 117, 111, 116, 101]⟩, .string ⟨#[44, 64]⟩, .string ⟨#[117, 110, 113, 117, 111, 116, 101, 45, 115, 112, 108, 105, 99, 105, 110, 103]⟩, .string ⟨#[44]⟩, .string ⟨#[117, 110, 113, 117, 111, 116, 101]⟩] : Array Value) = A at *
  have hAs : A.size = 8 := by rw [← hA]; rfl
  have HAS := Lib.hid hAs
  clear hA hAs
  go_loopw [10] (fun i wr => ∃ j : Nat, j ≤ jj ∧ i = .int .i64 j ∧ Hid (Rdr wr R s p 0 k ∧ Kept R w wr ∧ wr.heap[w.heap.size]? = some (Obj.cells #[.int .i64 0, .bool false, .slice none 0 0, .bool false, .string ⟨#[]⟩, .slice none 0 0, .slice none 0 0] 31)) ∧ w.heap.size < wr.heap.size) (fun i _ => jj - (intOf i).toNat)
  case atStart => exact ⟨0, Nat.zero_le _, rfl, Lib.hid HW.out, by simp⟩
  case round =>
    clear HW
    obtain ⟨j, hjj, rfl, HR, hsz⟩ := hrel
    have hlt : j < 4 := by omega
    have hrun := run_quo A j wr hlt HAS.out (hqa.out j hlt)
    obtain ⟨W1, hW1⟩ : ∃ W, wr.alloc (Obj.cells #[.string (bytesOf (qmL j)), .string (bytesOf (qnL j))] 177) = W := ⟨_, rfl⟩
    have h1s : W1.heap.size = wr.heap.size + 1 := by rw [← hW1]; exact World.size_alloc ..
    have hr1 : Rdr W1 R s p 0 k := hW1 ▸ HR.out.1.alloc _
    have hk1 : Kept R w W1 := hW1 ▸ HR.out.2.1.onto ((Below.refl _ _).alloc (Nat.le_refl _) _)
    have hz1 : W1.heap[w.heap.size]? = some (Obj.cells #[.int .i64 0, .bool false, .slice none 0 0, .bool false, .string ⟨#[]⟩, .slice none 0 0, .slice none 0 0] 31) := hW1 ▸ (Below.heap_alloc _ _ _ hsz).trans HR.out.2.2
    have hq1 : W1.heap[wr.heap.size]? = some (Obj.cells #[.string (bytesOf (qmL j)), .string (bytesOf (qnL j))] 177) := hW1 ▸ World.alloc_heap_new _ _
    obtain ⟨c0, c1, c2, c3⟩ := hr1.c
    have e0 := Lib.cell_of_heap hq1 0
    have e1 := Lib.cell_of_heap hq1 1
    simp only [List.getElem?_toArray, List.getElem?_cons_zero, List.getElem?_cons_succ] at e0 e1
    have HQ := Lib.hid (And.intro hr1 (And.intro hk1 (And.intro hz1 hq1)))
    have HP := Lib.hid (fun W => prefix_any (s.extract p s.size) (bytesOf (qmL j)) W)
    have hxe : (bytesOf (qmL j)).data.toList = qmL j := rfl
    have HX := Lib.hid (show Lib.hasPrefix (s.extract p s.size).data.toList (qmL j) = Lib.hasPrefix (rsB s p) (qmL j) by rw [rsB_extract])
    clear hr1 hk1 hz1 hq1
    go_wp2_with fail
    go_quiet ((go_at_call 139; exact Calls.quiet_of_same (HP.out _)))
    have hr2 : Rdr (W1.drewN nq) R s p 0 k := HQ.out.1.drewN nq
    have hk2 : Kept R w (W1.drewN nq) := HQ.out.2.1.drewN nq
    have hz2 : (W1.drewN nq).heap[w.heap.size]? = some (Obj.cells #[.int .i64 0, .bool false, .slice none 0 0, .bool false, .string ⟨#[]⟩, .slice none 0 0, .slice none 0 0] 31) := HQ.out.2.2.1
    have hq2 : (W1.drewN nq).heap[wr.heap.size]? = some (Obj.cells #[.string (bytesOf (qmL j)), .string (bytesOf (qnL j))] 177) := HQ.out.2.2.2
    have h2s : (W1.drewN nq).heap.size = wr.heap.size + 1 := h1s
    generalize W1.drewN nq = W2 at *
    generalize hb : Lib.hasPrefix (s.extract p s.size).data.toList (bytesOf (qmL j)).data.toList = b at *
    clear c0 c1 c2 c3 e0 e1 HQ HP hrun hW1 h1s
    by_cases hj : j = jj
    · subst hj
      obtain ⟨c0, c1, c2, c3⟩ := hr2.c
      obtain ⟨f1, f2, f3⟩ := hr2.f
      have e0 := Lib.cell_of_heap hq2 0
      have e1 := Lib.cell_of_heap hq2 1
      simp only [List.getElem?_toArray, List.getElem?_cons_zero, List.getElem?_cons_succ] at e0 e1
      obtain rfl : b = true := hb.symm.trans (by rw [hxe, HX.out]; exact H.out.2.2.2.2.1)
      have hmz : (bytesOf (qmL j)).size = (qmL j).length := bytesOf_size _
      have HQ := Lib.hid (And.intro hr2 (And.intro hk2 (And.intro hz2 hq2)))
      have hRne : R ≠ wr.heap.size := by have := hr2.lt; have := HR.out.1.lt; omega
      clear hr2 hk2 hz2 hq2 hb hxe HX
      go_wp2_with fail
      go_region
      have hD := H.out.2.2.1 (p + (qmL j).length) k (W2.setCell ⟨R, 1, none⟩ (.int .i64 ((p : Int) + ((qmL j).length : Int)))).drew (by omega) (by omega) (by omega) ((HQ.out.1.set1 _ (by omega)).drew) (H.out.2.1.kept hR (Kept.drew (HQ.out.2.1.set _ _ rfl)))
      have HD := Lib.hid hD
      have HK := Lib.hid (show Kept R w (W2.setCell ⟨R, 1, none⟩ (.int .i64 ((p : Int) + ((qmL j).length : Int)))).drew ∧ (W2.setCell ⟨R, 1, none⟩ (.int .i64 ((p : Int) + ((qmL j).length : Int)))).drew.heap[w.heap.size]? = some (Obj.cells #[.int .i64 0, .bool false, .slice none 0 0, .bool false, .string ⟨#[]⟩, .slice none 0 0, .slice none 0 0] 31) ∧ (W2.setCell ⟨R, 1, none⟩ (.int .i64 ((p : Int) + ((qmL j).length : Int)))).drew.heap.size = wr.heap.size + 1 from ⟨Kept.drew (HQ.out.2.1.set _ _ rfl), (Below.heap_setCell _ _ _ _ (by show w.heap.size ≠ R; omega)).trans HQ.out.2.2.1, (World.size_setCell ..).trans h2s⟩)
      clear hD c0 c1 c2 c3 f1 f2 f3 e0 e1 HQ
      go_wp2_with fail
      generalize (W2.setCell ⟨R, 1, none⟩ (.int .i64 ((p : Int) + ((qmL j).length : Int)))).drew = W3 at *
      refine HD.out.mono ?_
      rintro E w4 ⟨r, hrd, hk4, hpost⟩
      have hz4 := (hk4.2 w.heap.size (by rw [HK.out.2.2]; omega) (by omega)).trans HK.out.2.1
      have hs4 : wr.heap.size + 1 ≤ w4.heap.size := by have := hk4.1; rw [HK.out.2.2] at this; exact this
      have hDl : w.heap.size < w4.heap.size := by omega
      have HX4 := Lib.hid (And.intro hrd (Kept.trans HK.out.1 hk4))
      clear hrd hk4
      cases r with
      | bad x l =>
        obtain ⟨q5, hq5, rfl, rfl, hr⟩ := hpost
        obtain ⟨⟨d0, d1, d2, d3, d4, d5, d6⟩, g0, g1, g2, g3, g4, g5, g6⟩ := seven hz4
        have HU := Lib.hid (And.intro hz4 hr)
        clear hz4 hr
        go_wp2_with fail
        refine dt_retV (D := w.heap.size) (V := (W7 w4 w.heap.size (.int .i64 0) (.bool false) (.slice none 0 0) (.bool false) (.string ⟨#[]⟩) (.slice none 0 0) (.slice none 0 0)).alloc (Obj.cells #[.int .i64 0, .bool false, .slice none 0 0, .bool false, .string ⟨#[]⟩, .slice none 0 0, .slice none 0 0] 31)) rfl rfl rfl rfl ((Below.heap_alloc _ _ _ (by rw [w7_size]; exact hDl)).trans (w7_at HU.out.1)) ⟨_, .inr ⟨_, _, rfl, by rw [H.out.2.2.2.2.2.2]; exact HX4.out.1⟩, DatB.post (DatB.alloc (datB_bad (Nat.le_refl _) hRl HX4.out.2 HU.out.2 hq5) _)⟩
      | ok d l =>
        obtain ⟨q5, u, hpq5, hq5, rfl, rfl, hu, hd, htu, hz, hr⟩ := hpost
        obtain ⟨W6, hW6⟩ : ∃ W, w4.alloc (Obj.cells #[.int .i64 u.k, .bool u.g, .slice u.la u.ln u.lc, .bool u.bb, .string u.s, .slice u.ia u.items.length u.ic, .slice u.ta u.tail.length u.tc] 31) = W := ⟨_, rfl⟩
        have h6s : W6.heap.size = w4.heap.size + 1 := by rw [← hW6]; exact World.size_alloc ..
        have h6n : W6.heap[w4.heap.size]? = some (Obj.cells #[.int .i64 u.k, .bool u.g, .slice u.la u.ln u.lc, .bool u.bb, .string u.s, .slice u.ia u.items.length u.ic, .slice u.ta u.tail.length u.tc] 31) := hW6 ▸ World.alloc_heap_new w4 (Obj.cells #[.int .i64 u.k, .bool u.g, .slice u.la u.ln u.lc, .bool u.bb, .string u.s, .slice u.ia u.items.length u.ic, .slice u.ta u.tail.length u.tc] 31)
        have h6o : ∀ i, i < w4.heap.size → W6.heap[i]? = w4.heap[i]? := fun i hi => hW6 ▸ Below.heap_alloc w4 (Obj.cells #[.int .i64 u.k, .bool u.g, .slice u.la u.ln u.lc, .bool u.bb, .string u.s, .slice u.ia u.items.length u.ic, .slice u.ta u.tail.length u.tc] 31) i hi
        have hz6 := (h6o _ hDl).trans hz4
        obtain ⟨⟨x0, x1, x2, x3, x4, x5, x6⟩, y0, y1, y2, y3, y4, y5, y6⟩ := seven h6n
        obtain ⟨⟨d0, d1, d2, d3, d4, d5, d6⟩, g0, g1, g2, g3, g4, g5, g6⟩ := seven hz6
        have HS := Lib.hid (fun W => symbol_any (bytesOf (qnL j)) W)
        have HU := Lib.hid (And.intro hz6 (And.intro h6n (And.intro h6o (And.intro hu (And.intro hd (And.intro htu (And.intro hz hr)))))))
        clear hz4 hz6 h6n h6o hu hd htu hz hr
        go_wp2_with fail
        go_region_with (go_at_call 167; refine (HS.out _).mono ?_; rintro E w5 ⟨hE, hb5⟩; obtain rfl : E = _ := hE; have hb6 : Below W6.heap.size W6 w5 := (⟨hb5.os, hb5.tape, hb5.output, hb5.size, hb5.block⟩); clear hb5; have hs5 := hb6.size; have hD5 : w.heap.size < w5.heap.size := (by omega); have hD6 : w4.heap.size < w5.heap.size := (by omega); obtain ⟨⟨r0, r1, r2, r3, r4, r5, r6⟩, -⟩ := seven ((hb6.block w4.heap.size (by omega)).trans HU.out.2.1); obtain ⟨⟨b0, b1, b2, b3, b4, b5, b6⟩, a0, a1, a2, a3, a4, a5, a6⟩ := seven ((hb6.block w.heap.size (by omega)).trans HU.out.1); have HB := Lib.hid hb6; clear hb6)
        all_goals
          go_wp2_with fail
          obtain ⟨hz6, h6n, h6o, hu, hd, htu, hz, hr⟩ := HU.out
          have h54 : ∀ i, i < w4.heap.size → w5.heap[i]? = w4.heap[i]? := fun i hi => (HB.out.block i (by omega)).trans (h6o i hi)
          have hK5 : Kept R w w5 := ⟨by omega, fun i hi hiR => (h54 i (by omega)).trans (HX4.out.2.2 i hi hiR), HB.out.os.trans ((by rw [← hW6]; rfl : W6.os = w4.os).trans HX4.out.2.2.os), HB.out.tape.trans ((by rw [← hW6]; rfl : W6.tape = w4.tape).trans HX4.out.2.2.tape), HB.out.output.trans ((by rw [← hW6]; rfl : W6.output = w4.output).trans HX4.out.2.2.output)⟩
          have hz5 := (HB.out.block w.heap.size (by omega)).trans hz6
          obtain ⟨O14, hO14⟩ : ∃ o, o = (Obj.cells #[.int .i64 3, .bool false, .slice none 0 0, .bool false, .string (bytesOf (qnL j)), .slice none 0 0, .slice none 0 0, .int .i64 u.k, .bool u.g, .slice u.la u.ln u.lc, .bool u.bb, .string u.s, .slice u.ia u.items.length u.ic, .slice u.ta u.tail.length u.tc] 31) := ⟨_, rfl⟩
          rw [← hO14]
          obtain ⟨V, hV⟩ : ∃ V, V = (W7 w5 w.heap.size (.int .i64 5) (.bool false) (.slice none 0 0) (.bool false) (.string ⟨#[]⟩) (.slice (some ⟨w5.heap.size, 0, none⟩) 2 2) (.slice none 0 0)).alloc O14 := ⟨_, rfl⟩
          rw [← hV]
          have hKV : Kept R w V := hV ▸ (w7_kept hK5 (Nat.le_refl _)).onto ((Below.refl _ _).alloc (Nat.le_refl _) _)
          have hVn : V.heap[w5.heap.size]? = some O14 := by
            have := World.alloc_heap_new (W7 w5 w.heap.size (.int .i64 5) (.bool false) (.slice none 0 0) (.bool false) (.string ⟨#[]⟩) (.slice (some ⟨w5.heap.size, 0, none⟩) 2 2) (.slice none 0 0)) O14
            rw [w7_size, ← hV] at this
            exact this
          have hVb : V.heap[w.heap.size]? = some (.cells #[.int .i64 5, .bool false, .slice none 0 0, .bool false, .string ⟨#[]⟩, .slice (some ⟨w5.heap.size, 0, none⟩) 2 2, .slice none 0 0] 31 (0, 0)) := hV ▸ (Below.heap_alloc _ _ _ (by rw [w7_size]; omega)).trans (w7_at hz5)
          have hVo : ∀ i, i < w5.heap.size → i ≠ w.heap.size → V.heap[i]? = w5.heap[i]? := fun i h1 h2 => hV ▸ (Below.heap_alloc _ _ _ (by rw [w7_size]; exact h1)).trans (w7_other h2)
          rw [hO14] at hVn
          have hA : Fresh V w.heap.size w5.heap.size := Fresh.of (by omega) hVn (by decide)
          have hVs := hA.lt
          refine dt_retV (D := w.heap.size) (V := V) (v0 := .int .i64 5) (v1 := .bool false) (v2 := .slice none 0 0) (v3 := .bool false) (v4 := .string ⟨#[]⟩) (v5 := .slice (some ⟨w5.heap.size, 0, none⟩) 2 2) (v6 := .slice none 0 0) rfl rfl rfl rfl hVb ⟨_, .inl ⟨d, rsB s q5, rfl, by rw [H.out.2.2.2.2.2.2]; exact HX4.out.1⟩, hKV, q5, rowT (some ⟨w5.heap.size, 0, none⟩) 2 [leafT 3 false (bytesOf (qnL j)), u] none 0 [], by omega, hq5, rfl, rfl, ?_, ?_, ?_, ?_, ?_⟩
          · refine rowT_held ⟨by simp, by simp [maxLen], fun _ => ⟨rfl, hA⟩, fun e => by cases e⟩ (liesPR_of hA [leafT 3 false (bytesOf (qnL j)), u] 0 (fun y hy => ?_) fun i v hj => ?_) (spotP_nil _) (by rw [liesPR_nil]; trivial)
            · rcases List.mem_cons.1 hy with rfl | hy
              · exact leafT_held _ _ _ _ _ (by rw [bytesOf_size]; have := (qn_len j).2; unfold maxLen; omega)
              · rw [List.mem_singleton.1 hy]
                refine hu.keep (by omega) fun i hi => ?_
                have hi1 := hi.1
                have hi2 := hi.lt
                rw [HK.out.2.2] at hi1
                have e : V.heap[i]? = w4.heap[i]? := (hVo i (by omega) (by omega)).trans (h54 i hi2)
                exact ⟨(hi.same e).low (by rw [HK.out.2.2]; omega), e⟩
            · rw [Lib.cell_of_heap hVn, Nat.zero_add, List.getElem?_toArray]
              exact hj
          · rw [rowT_shape, shapes_cons, shapes_cons, shapes_nil, leafT_shape, hd, H.out.2.2.2.2.2.1]; rfl
          · simp only [rowT, Tame, TameR]; exact ⟨by omega, ⟨leafT_tame .., htu, trivial⟩, trivial⟩
          · have e : (rowT (some ⟨w5.heap.size, 0, none⟩) 2 [leafT 3 false (bytesOf (qnL j)), u] none 0 []).size = 2 + u.size := by rw [LT.size_eq]; simp [rowT, LT.items, LT.tail, sizes, leafT_size]; omega
            omega
          · exact hr.same ((hVo R (by have := hr.lt; omega) (by omega)).trans (h54 R hr.lt))
    · obtain rfl : b = false := hb.symm.trans (by rw [hxe, HX.out]; exact H.out.2.2.2.1 j (by omega))
      have HQ := Lib.hid (And.intro hr2 (And.intro hk2 hz2))
      clear hr2 hk2 hz2 hq2 hb hxe HX
      go_wp2_with fail
      go_roundw
      case rel => exact ⟨j + 1, by omega, by go_num, HQ, by omega⟩
      case measure => simp [intOf]; omega
end
end Go.Proofs.YtlohdglhebplfaaGreatDoor
