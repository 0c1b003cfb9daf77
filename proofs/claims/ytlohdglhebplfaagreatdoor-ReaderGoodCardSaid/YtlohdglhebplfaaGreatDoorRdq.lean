/-
  The reader: a datum behind a dot, walked.
-/
import Derived.Test.YtlohdglhebplfaaGreatDoorRdx2
import Derived.Test.YtlohdglhebplfaaGreatDoorDng
namespace Go.Proofs.YtlohdglhebplfaaGreatDoor
open Go.RowKit

/-- As DatPost, of a call within one that began at B and at p. -/
def DatB (s : ByteArray) (R p k B : Nat) (w : World) (r : Res) (E : Ending) (w' : World) : Prop := Kept R w w' ∧ match r with
  | .ok d l => ∃ (q : Nat) (u : LT), p < q ∧ q ≤ s.size ∧ l = rsB s q ∧ E = .returned (.tuple #[.agg #[.int .i64 u.k, .bool u.g, .slice u.la u.ln u.lc, .bool u.bb, .string u.s, .slice u.ia u.items.length u.ic, .slice u.ta u.tail.length u.tc], .bool true]) ∧ HeldP w' (Fresh w' B) u ∧ shape u = d ∧ Tame u ∧ u.size + 2 * p ≤ 2 * q ∧ Rdr w' R s q 0 k
  | .bad e l => ∃ q : Nat, q ≤ s.size ∧ l = rsB s q ∧ E = .returned (.tuple #[.agg #[.int .i64 0, .bool false, .slice none 0 0, .bool false, .string ⟨#[]⟩, .slice none 0 0, .slice none 0 0], .bool false]) ∧ Rdr w' R s q e k
section
variable {w w' : World} {R p q k L : Nat} {s : ByteArray}
theorem datB_bad {w0 w : World} {s : ByteArray} {R p q k D B : Nat} {e : Int} (hD : w0.heap.size ≤ D) (hR : R < D) (hk : Kept R w0 w) (hr : Rdr w R s q e k) (hq : q ≤ s.size) :
    DatB s R p k B w0 (.bad e (rsB s q)) (.returned (.tuple #[.agg #[.int .i64 0, .bool false, .slice none 0 0, .bool false, .string ⟨#[]⟩, .slice none 0 0, .slice none 0 0], .bool false])) (W7 w D (.int .i64 0) (.bool false) (.slice none 0 0) (.bool false) (.string ⟨#[]⟩) (.slice none 0 0) (.slice none 0 0)) :=
  ⟨w7_kept hk hD, q, hq, rfl, rfl, hr.same (w7_other (by omega))⟩
theorem dt_retV {V : World} {D : Nat} {T : TypeId} {v0 v1 v2 v3 v4 v5 v6 : Value} {fn : Func} {act : Act} {t t2 : Tmp} {r : Value} {Q : Ending → World → Prop} (h : fn.results = #[.cell t 31, .tmp t2]) (ht : act.tmps.getD t undef = .pointer (some ⟨D, 0, none⟩)) (h2 : act.tmps.getD t2 undef = r) (hd : act.defers = [])
    (hz : V.heap[D]? = some (.cells #[v0, v1, v2, v3, v4, v5, v6] T (0, 0))) (hQ : Q (.returned (.tuple #[.agg #[v0, v1, v2, v3, v4, v5, v6], r])) V) : bodyPost Tryz.prog fn Q .ret act V :=
  bodyPost_ret (results_dt h ht h2 hz) hd hQ
theorem DatB.alloc {w0 V : World} {B : Nat} {r : Res} {E : Ending} (h : DatB s R p k B w0 r E V) (o : Obj) : DatB s R p k B w0 r E (V.alloc o) := by
  refine ⟨h.1.onto ((Below.refl _ _).alloc (Nat.le_refl _) _), ?_⟩
  cases r with
  | ok d l =>
    obtain ⟨q, u, h1, h2, h3, h4, h5, h6, h7, h8, h9⟩ := h.2
    exact ⟨q, u, h1, h2, h3, h4, h5.keep (by simp) fun i hi => ⟨hi.same (Below.heap_alloc _ _ _ hi.lt), Below.heap_alloc _ _ _ hi.lt⟩, h6, h7, h8, h9.alloc _⟩
  | bad e l =>
    obtain ⟨q, h1, h2, h3, h4⟩ := h.2
    exact ⟨q, h1, h2, h3, h4.alloc _⟩
set_option maxRecDepth 100000 in
set_option maxHeartbeats 6400000 in
theorem dotted_from (hD : DatC s R L) (hS : SkipC s R L) (hR : Off R) (hs : s.size ≤ 16384) {B0 p0 : Nat} (h : Rdr w R s p 0 k) (ht : Tabs w) (hp : p < s.size) (hL : s.size - (p + 1) ≤ L) (hk : k + (s.size - p) ≤ 40000) (hRB : R < B0) (hB : B0 ≤ w.heap.size)
    {ia : Option Addr} {ic : Nat} {ts : List LT} (hsp : SpotP (Fresh w B0) ia ts.length ic) (hli : LiesPR w (Fresh w B0) ts (blk ia) (ofs ia)) (htm : TameR ts) (hsz : 1 + sizes ts + 2 * p0 ≤ 2 * p) (hp0 : p0 < p) (e : UInt8) :
    Calls Tryz.prog 166 #[.pointer (some ⟨R, 0, none⟩), .agg #[.int .i64 5, .bool false, .slice none 0 0, .bool false, .string ⟨#[]⟩, .slice ia ts.length ic, .slice none 0 0], .int .u8 (e.toNat : Int)] w fun E w' => ∃ r, DotRes s p k e (shapes ts) r ∧ DatB s R p0 k B0 w r E w' := by
  have hRl := h.lt
  have hne : R ≠ w.heap.size + 1 := by omega
  have hne0 : R ≠ w.heap.size := by omega
  obtain ⟨lO, hlO⟩ : ∃ o, o = (Obj.cells #[.int .i64 5, .bool false, .slice none 0 0, .bool false, .string ⟨#[]⟩, .slice ia ts.length ic, .slice none 0 0] 31) := ⟨_, rfl⟩
  have hr2 := (h.alloc lO).alloc (Obj.cells #[.int .i64 0, .bool false, .slice none 0 0, .bool false, .string ⟨#[]⟩, .slice none 0 0, .slice none 0 0] 31)
  have hr3 := ((h.set1 (q := p + 1) ((p : Int) + 1) (by omega)).alloc lO).alloc (Obj.cells #[.int .i64 0, .bool false, .slice none 0 0, .bool false, .string ⟨#[]⟩, .slice none 0 0, .slice none 0 0] 31)
  have hss : (w.setCell ⟨R, 1, none⟩ (.int .i64 ((p : Int) + 1))).heap.size = w.heap.size := World.size_setCell ..
  have hk3 : Kept R w (((w.setCell ⟨R, 1, none⟩ (.int .i64 ((p : Int) + 1))).alloc lO).alloc (Obj.cells #[.int .i64 0, .bool false, .slice none 0 0, .bool false, .string ⟨#[]⟩, .slice none 0 0, .slice none 0 0] 31)) := ((Kept.rfl' R w).set _ _ rfl).onto (((Below.refl _ _).alloc (Nat.le_refl _) _).alloc (by simp) _)
  have hz0 : (((w.setCell ⟨R, 1, none⟩ (.int .i64 ((p : Int) + 1))).alloc lO).alloc (Obj.cells #[.int .i64 0, .bool false, .slice none 0 0, .bool false, .string ⟨#[]⟩, .slice none 0 0, .slice none 0 0] 31)).heap[w.heap.size]? = some lO := (Below.heap_alloc _ _ _ (by simp)).trans (by have := World.alloc_heap_new (w.setCell ⟨R, 1, none⟩ (.int .i64 ((p : Int) + 1))) lO; rwa [hss] at this)
  have hz1 : (((w.setCell ⟨R, 1, none⟩ (.int .i64 ((p : Int) + 1))).alloc lO).alloc (Obj.cells #[.int .i64 0, .bool false, .slice none 0 0, .bool false, .string ⟨#[]⟩, .slice none 0 0, .slice none 0 0] 31)).heap[w.heap.size + 1]? = some (Obj.cells #[.int .i64 0, .bool false, .slice none 0 0, .bool false, .string ⟨#[]⟩, .slice none 0 0, .slice none 0 0] 31) := by have := World.alloc_heap_new ((w.setCell ⟨R, 1, none⟩ (.int .i64 ((p : Int) + 1))).alloc lO) (Obj.cells #[.int .i64 0, .bool false, .slice none 0 0, .bool false, .string ⟨#[]⟩, .slice none 0 0, .slice none 0 0] 31); rwa [World.size_alloc, hss] at this
  have hzs : (((w.setCell ⟨R, 1, none⟩ (.int .i64 ((p : Int) + 1))).alloc lO).alloc (Obj.cells #[.int .i64 0, .bool false, .slice none 0 0, .bool false, .string ⟨#[]⟩, .slice none 0 0, .slice none 0 0] 31)).heap.size = w.heap.size + 2 := by simp
  have H := Lib.hid (hD (p + 1) k _ hL (by omega) (by omega) hr3 (ht.kept hR hk3))
  have HT := Lib.hid (ht.kept hR hk3)
  obtain ⟨c0, c1, c2, c3⟩ := hr2.c
  obtain ⟨f1, f2, f3⟩ := hr2.f
  obtain ⟨W3, hW3⟩ : ∃ W, W = (((w.setCell ⟨R, 1, none⟩ (.int .i64 ((p : Int) + 1))).alloc lO).alloc (Obj.cells #[.int .i64 0, .bool false, .slice none 0 0, .bool false, .string ⟨#[]⟩, .slice none 0 0, .slice none 0 0] 31)) := ⟨_, rfl⟩
  rw [← hW3] at H HT hz0 hz1 hzs hk3
  have HK := Lib.hid (And.intro hk3 (And.intro hz0 (And.intro hz1 hzs)))
  have HI := Lib.hid (And.intro hsp (And.intro hli (And.intro htm hS)))
  have HL := Lib.hid hlO
  have HW := Lib.hid (show W3 = (((w.setCell ⟨R, 1, none⟩ (.int .i64 ((p : Int) + 1))).alloc (Obj.cells #[.int .i64 5, .bool false, .slice none 0 0, .bool false, .string ⟨#[]⟩, .slice ia ts.length ic, .slice none 0 0] 31)).alloc (Obj.cells #[.int .i64 0, .bool false, .slice none 0 0, .bool false, .string ⟨#[]⟩, .slice none 0 0, .slice none 0 0] 31)) from by rw [hW3, hlO])
  rw [hlO] at c0 c1 c2 c3 f1 f2 f3
  have hz0' := hz0
  rw [hlO] at hz0'
  clear hD hS h ht hsp hli htm hr2 hr3 hss hk3 hz0 hz1 hzs hW3 hlO hz0'
  go_enter Tryz.func166, Tryz.ntmps166
  go_wp2_with fail
  rw [← HW.out]
  clear c0 c1 c2 c3 f1 f2 f3
  refine H.out.mono ?_
  rintro E w1 ⟨r, hr, hkw, hpost⟩
  have hz1 := (hkw.2 (w.heap.size + 1) (by rw [HK.out.2.2.2]; omega) (by omega)).trans HK.out.2.2.1
  have hz0 := (hkw.2 w.heap.size (by rw [HK.out.2.2.2]; omega) (by omega)).trans (HK.out.2.1.trans (by rw [HL.out]))
  have hDl := (Array.getElem?_eq_some_iff.1 hz1).1
  have hs1 : w.heap.size + 2 ≤ w1.heap.size := by have := hkw.1; rw [HK.out.2.2.2] at this; exact this
  have HR := Lib.hid (And.intro hr (HK.out.1.trans hkw))
  have HT1 := Lib.hid (HT.out.kept hR hkw)
  clear hr hkw
  cases r with
  | bad x l =>
    obtain ⟨q, hq, rfl, rfl, hr⟩ := hpost
    obtain ⟨⟨d0, d1, d2, d3, d4, d5, d6⟩, g0, g1, g2, g3, g4, g5, g6⟩ := seven hz1
    have HX := Lib.hid (And.intro hz1 hr)
    clear hr hz1 hz0
    go_wp2_with fail
    refine dt_retV (D := w.heap.size + 1) (V := (W7 w1 (w.heap.size + 1) (.int .i64 0) (.bool false) (.slice none 0 0) (.bool false) (.string ⟨#[]⟩) (.slice none 0 0) (.slice none 0 0)).alloc (Obj.cells #[.int .i64 0, .bool false, .slice none 0 0, .bool false, .string ⟨#[]⟩, .slice none 0 0, .slice none 0 0] 31)) rfl rfl rfl rfl ((Below.heap_alloc _ _ _ (by rw [w7_size]; exact hDl)).trans (w7_at HX.out.1)) ⟨_, .inl ⟨_, _, rfl, HR.out.1⟩, DatB.alloc (datB_bad (by omega) (by omega) HR.out.2 HX.out.2 hq) _⟩
  | ok d l =>
    obtain ⟨q, u, hpq, hq, rfl, rfl, hu, hd, htu, hz, hr⟩ := hpost
    have hra := hr.alloc (Obj.cells #[.int .i64 u.k, .bool u.g, .slice u.la u.ln u.lc, .bool u.bb, .string u.s, .slice u.ia u.items.length u.ic, .slice u.ta u.tail.length u.tc] 31)
    have hba : Below w1.heap.size w1 (w1.alloc (Obj.cells #[.int .i64 u.k, .bool u.g, .slice u.la u.ln u.lc, .bool u.bb, .string u.s, .slice u.ia u.items.length u.ic, .slice u.ta u.tail.length u.tc] 31)) := (Below.refl _ _).alloc (Nat.le_refl _) _
    have hX0 := (Below.heap_alloc w1 (Obj.cells #[.int .i64 u.k, .bool u.g, .slice u.la u.ln u.lc, .bool u.bb, .string u.s, .slice u.ia u.items.length u.ic, .slice u.ta u.tail.length u.tc] 31) _ (by omega)).trans hz0
    have hX1 := (Below.heap_alloc w1 (Obj.cells #[.int .i64 u.k, .bool u.g, .slice u.la u.ln u.lc, .bool u.bb, .string u.s, .slice u.ia u.items.length u.ic, .slice u.ta u.tail.length u.tc] 31) _ hDl).trans hz1
    have hXT := World.alloc_heap_new w1 (Obj.cells #[.int .i64 u.k, .bool u.g, .slice u.la u.ln u.lc, .bool u.bb, .string u.s, .slice u.ia u.items.length u.ic, .slice u.ta u.tail.length u.tc] 31)
    have hXs : (w1.alloc (Obj.cells #[.int .i64 u.k, .bool u.g, .slice u.la u.ln u.lc, .bool u.bb, .string u.s, .slice u.ia u.items.length u.ic, .slice u.ta u.tail.length u.tc] 31)).heap.size = w1.heap.size + 1 := World.size_alloc ..
    have HSk := Lib.hid (HI.out.2.2.2 q k (w1.alloc (Obj.cells #[.int .i64 u.k, .bool u.g, .slice u.la u.ln u.lc, .bool u.bb, .string u.s, .slice u.ia u.items.length u.ic, .slice u.ta u.tail.length u.tc] 31)) (by omega) hq (by omega) hra (HT1.out.below hba))
    have HX := Lib.hid (And.intro hX0 (And.intro hX1 (And.intro hXT (And.intro hXs (And.intro hba (And.intro hu (And.intro hd (And.intro htu hz))))))))
    clear hr hra hX0 hX1 hXT hba hz1 hz0 hu hd htu hz
    obtain ⟨W4, hW4⟩ : ∃ W, W = w1.alloc (Obj.cells #[.int .i64 u.k, .bool u.g, .slice u.la u.ln u.lc, .bool u.bb, .string u.s, .slice u.ia u.items.length u.ic, .slice u.ta u.tail.length u.tc] 31) := ⟨_, rfl⟩
    rw [← hW4] at HSk HX hXs
    go_wp2_with fail
    rw [← hW4]
    refine HSk.out.mono ?_
    rintro E w2 ⟨r, hr, hkw, hpost⟩
    have hz0 := (hkw.2 w.heap.size (by omega) (by omega)).trans HX.out.1
    have hz1 := (hkw.2 (w.heap.size + 1) (by omega) (by omega)).trans HX.out.2.1
    have hzT := (hkw.2 w1.heap.size (by omega) (by omega)).trans HX.out.2.2.1
    have hs2 : w1.heap.size + 1 ≤ w2.heap.size := by have := hkw.1; rw [hXs] at this; exact this
    have HR2 := Lib.hid (And.intro hr hkw)
    clear hr hkw
    cases r with
    | bad x l =>
      obtain ⟨q2, hq2, rfl, rfl, hr⟩ := hpost
      obtain ⟨⟨d0, d1, d2, d3, d4, d5, d6⟩, g0, g1, g2, g3, g4, g5, g6⟩ := seven hz1
      have HY := Lib.hid (And.intro hz1 hr)
      clear hr hz1 hz0 hzT
      go_wp2_with fail
      exact dt_ret rfl rfl rfl rfl HY.out.1 ⟨_, .inr (.inl ⟨_, _, _, _, rfl, HX.out.2.2.2.2.2.2.1 ▸ HR.out.1, HR2.out.1⟩), datB_bad (by omega) (by omega) ((Kept.onto HR.out.2 HX.out.2.2.2.2.1).trans HR2.out.2) HY.out.2 hq2⟩
    | ok z l =>
      obtain ⟨rfl, q2, hqq, hq2, rfl, rfl, hr⟩ := hpost
      by_cases hh : (rsB s q2).head? = some e
      · have hlt : q2 < s.size := by
          rcases Nat.lt_or_ge q2 s.size with h | h
          · exact h
          · rw [rsB_end h] at hh; cases hh
        have HH := Lib.hid (has_head hr hs e hh)
        have HY := Lib.hid (And.intro hz0 (And.intro hz1 (And.intro hzT hh)))
        clear hr hz1 hz0 hzT hh
        go_wp2_with fail
        refine HH.out.mono ?_
        rintro E w3 ⟨rfl, hr, hkw⟩
        have hz0 := (hkw.2 w.heap.size (by omega) (by omega)).trans HY.out.1
        have hz1 := (hkw.2 (w.heap.size + 1) (by omega) (by omega)).trans HY.out.2.1
        have hzT := (hkw.2 w1.heap.size (by omega) (by omega)).trans HY.out.2.2.1
        have hs3 : w2.heap.size ≤ w3.heap.size := hkw.1
        obtain ⟨W5, hW5⟩ : ∃ W, w3.alloc (Obj.cells #[.int .i64 u.k, .bool u.g, .slice u.la u.ln u.lc, .bool u.bb, .string u.s, .slice u.ia u.items.length u.ic, .slice u.ta u.tail.length u.tc] 31) = W := ⟨_, rfl⟩
        have hy0 : W5.heap[w.heap.size]? = _ := hW5 ▸ (Below.heap_alloc w3 (Obj.cells #[.int .i64 u.k, .bool u.g, .slice u.la u.ln u.lc, .bool u.bb, .string u.s, .slice u.ia u.items.length u.ic, .slice u.ta u.tail.length u.tc] 31) _ (by omega)).trans hz0
        have hy1 : W5.heap[w.heap.size + 1]? = _ := hW5 ▸ (Below.heap_alloc w3 (Obj.cells #[.int .i64 u.k, .bool u.g, .slice u.la u.ln u.lc, .bool u.bb, .string u.s, .slice u.ia u.items.length u.ic, .slice u.ta u.tail.length u.tc] 31) _ (by omega)).trans hz1
        obtain ⟨⟨d0, d1, d2, d3, d4, d5, d6⟩, g0, g1, g2, g3, g4, g5, g6⟩ := seven hy1
        obtain ⟨⟨i0, i1, i2, i3, i4, i5, i6⟩, j0, j1, j2, j3, j4, j5, j6⟩ := seven hy0
        obtain ⟨⟨x0, x1, x2, x3, x4, x5, x6⟩, y0, y1, y2, y3, y4, y5, y6⟩ := seven hzT
        have HZ := Lib.hid (And.intro hz0 (And.intro hz1 (And.intro hzT (And.intro hr (And.intro hkw (And.intro hy0 hy1))))))
        clear hr hz1 hz0 hzT hkw hy0 hy1
        go_wp2_with fail
        have hKw3 : Kept R w w3 := ((Kept.onto HR.out.2 HX.out.2.2.2.2.1).trans HR2.out.2).trans HZ.out.2.2.2.2.1
        have hK5 : Kept R w W5 := hW5 ▸ hKw3.onto ((Below.refl _ _).alloc (Nat.le_refl _) _)
        have hK6 := hK5.high ⟨w.heap.size, 6, none⟩ (Nat.le_refl _) (.slice (some ⟨w3.heap.size, 0, none⟩) 1 1)
        have hT1 := (Below.heap_setCell W5 ⟨w.heap.size, 6, none⟩ (.slice (some ⟨w3.heap.size, 0, none⟩) 1 1) (w.heap.size + 1) (by show w.heap.size + 1 ≠ w.heap.size; omega)).trans HZ.out.2.2.2.2.2.2
        refine dt_ret rfl rfl rfl rfl hT1 ?_
        have hK7 := w7_kept (v0 := .int .i64 5) (v1 := .bool false) (v2 := .slice none 0 0) (v3 := .bool false) (v4 := .string ⟨#[]⟩) (v5 := .slice ia ts.length ic) (v6 := .slice (some ⟨w3.heap.size, 0, none⟩) 1 1) hK6 (Nat.le_add_right w.heap.size 1)
        have hVo : ∀ i, i ≠ w.heap.size → i ≠ w.heap.size + 1 → (W7 (W5.setCell ⟨w.heap.size, 6, none⟩ (.slice (some ⟨w3.heap.size, 0, none⟩) 1 1)) (w.heap.size + 1) (.int .i64 5) (.bool false) (.slice none 0 0) (.bool false) (.string ⟨#[]⟩) (.slice ia ts.length ic) (.slice (some ⟨w3.heap.size, 0, none⟩) 1 1)).heap[i]? = W5.heap[i]? := fun i h1 h2 => (w7_other h2).trans (Below.heap_setCell _ _ _ _ h1)
        generalize (W7 (W5.setCell ⟨w.heap.size, 6, none⟩ (.slice (some ⟨w3.heap.size, 0, none⟩) 1 1)) (w.heap.size + 1) (.int .i64 5) (.bool false) (.slice none 0 0) (.bool false) (.string ⟨#[]⟩) (.slice ia ts.length ic) (.slice (some ⟨w3.heap.size, 0, none⟩) 1 1)) = V at hK7 hVo ⊢
        have h5n : W5.heap[w3.heap.size]? = some (Obj.cells #[.int .i64 u.k, .bool u.g, .slice u.la u.ln u.lc, .bool u.bb, .string u.s, .slice u.ia u.items.length u.ic, .slice u.ta u.tail.length u.tc] 31) := hW5 ▸ World.alloc_heap_new w3 (Obj.cells #[.int .i64 u.k, .bool u.g, .slice u.la u.ln u.lc, .bool u.bb, .string u.s, .slice u.ia u.items.length u.ic, .slice u.ta u.tail.length u.tc] 31)
        have h5o : ∀ i, i < w3.heap.size → W5.heap[i]? = w3.heap[i]? := fun i hi => hW5 ▸ Below.heap_alloc w3 (Obj.cells #[.int .i64 u.k, .bool u.g, .slice u.la u.ln u.lc, .bool u.bb, .string u.s, .slice u.ia u.items.length u.ic, .slice u.ta u.tail.length u.tc] 31) i hi
        have hA : Fresh V B0 w3.heap.size := Fresh.of (by omega) ((hVo _ (by omega) (by omega)).trans h5n) (by decide)
        have hVs : w3.heap.size < V.heap.size := hA.lt
        have hRl3 := HZ.out.2.2.2.1.lt
        refine ⟨_, .inr (.inr ⟨_, _, _, HR.out.1, HR2.out.1, .inl ⟨HY.out.2.2.2, rfl⟩⟩), hK7, q2 + 1, rowT ia ic ts (some ⟨w3.heap.size, 0, none⟩) 1 [u], by omega, by omega, rsB_drop .., rfl, ?_, ?_, ?_, ?_, ?_⟩
        · refine rowT_held (HI.out.1.mono fun i hi => ?_) (LiesPR.keep hK7.1 (fun i hi => ?_) _ _ _ HI.out.2.1) ⟨by simp, by simp [maxLen], fun _ => ⟨rfl, hA⟩, fun e => by cases e⟩ ?_
          · exact hi.same (hK7.2 i hi.lt (by have := hi.1; omega))
          · exact ⟨hi.same (hK7.2 i hi.lt (by have := hi.1; omega)), hK7.2 i hi.lt (by have := hi.1; omega)⟩
          · refine liesPR_of hA [u] 0 (fun y hy => ?_) fun j v hj => ?_
            · rw [List.mem_singleton.1 hy]
              refine HX.out.2.2.2.2.2.1.keep (by omega) fun i hi => ?_
              have hi1 := hi.1
              have hi2 := hi.lt
              rw [HK.out.2.2.2] at hi1
              have e : V.heap[i]? = w1.heap[i]? := (hVo i (by omega) (by omega)).trans ((h5o i (by omega)).trans ((HZ.out.2.2.2.2.1.2 i (by omega) (by omega)).trans ((HR2.out.2.2 i (by omega) (by omega)).trans (HX.out.2.2.2.2.1.block i hi2))))
              exact ⟨(hi.same e).low (by rw [HK.out.2.2.2]; omega), e⟩
            · have h := cells_news (u := u) (w := V) (g := w3.heap.size) ((hVo _ (by omega) (by omega)).trans h5n) j v (by rw [show cellsAll [u] = u.cells from List.append_nil _] at hj; exact hj)
              rwa [cell_add] at h
        · rw [rowT_shape, shapes_cons, shapes_nil, HX.out.2.2.2.2.2.2.1]; rfl
        · simp only [rowT, Tame, TameR]; exact ⟨by omega, HI.out.2.2.1, HX.out.2.2.2.2.2.2.2.1, trivial⟩
        · have e : (rowT ia ic ts (some ⟨w3.heap.size, 0, none⟩) 1 [u]).size = 1 + sizes ts + u.size := by rw [LT.size_eq]; simp [rowT, LT.items, LT.tail, sizes]; omega
          have := HX.out.2.2.2.2.2.2.2.2
          omega
        · exact HZ.out.2.2.2.1.same ((hVo R (by omega) (by omega)).trans (h5o R hRl3))
      · have HH := Lib.hid (has_no hr hq2 hs e hh)
        have HY := Lib.hid (And.intro hz1 hh)
        clear hr hz1 hz0 hzT hh
        go_wp2_with fail
        refine HH.out.mono ?_
        rintro E w3 ⟨rfl, hr, hkw⟩
        have hz1 := (hkw.2 (w.heap.size + 1) (by omega) (by omega)).trans HY.out.1
        have hs3 : w2.heap.size ≤ w3.heap.size := hkw.1
        have HN := Lib.hid (none_any hr 4 q2)
        obtain ⟨c0, c1, c2, c3⟩ := hr.c
        have HZ := Lib.hid (And.intro hz1 hkw)
        clear hr hz1 hkw
        go_wp2_with fail
        refine HN.out.mono ?_
        rintro E w4 ⟨rfl, hr, hkw⟩
        have hz1 := (hkw.2 (w.heap.size + 1) (by omega) (by omega)).trans HZ.out.1
        obtain ⟨⟨d0, d1, d2, d3, d4, d5, d6⟩, g0, g1, g2, g3, g4, g5, g6⟩ := seven hz1
        have HV := Lib.hid (And.intro hz1 (And.intro hr hkw))
        clear hr hz1 hkw c0 c1 c2 c3
        go_wp2_with fail
        exact dt_ret rfl rfl rfl rfl HV.out.1 ⟨_, .inr (.inr ⟨_, _, _, HR.out.1, HR2.out.1, .inr ⟨HY.out.2, rfl⟩⟩), datB_bad (by omega) (by omega) ((((Kept.onto HR.out.2 HX.out.2.2.2.2.1).trans HR2.out.2).trans HZ.out.2).trans HV.out.2.2) HV.out.2.1 hq2⟩
end
end Go.Proofs.YtlohdglhebplfaaGreatDoor
