/-
  reader.Read and reader.Skip.
-/
import Derived.Test.YtlohdglhebplfaaGreatDoorRdu
import Derived.Test.YtlohdglhebplfaaGreatDoorRdx4
namespace Go.Proofs.YtlohdglhebplfaaGreatDoor
open Go.RowKit

mutual
theorem depth_le_size : ∀ t : LT, t.depth ≤ t.size
  | .mk k g la ln lc ys bb s ia ic items ta tc tail => by
    have h1 := depths_le_sizes items
    have h2 := depths_le_sizes tail
    simp only [LT.depth, LT.size]
    omega
theorem depths_le_sizes : ∀ l : List LT, depths l ≤ sizes l
  | [] => by simp [depths, sizes]
  | t :: l => by
    have h1 := depth_le_size t
    have h2 := depths_le_sizes l
    simp only [depths, sizes]
    omega
end
theorem results_d3 {w : World} {D : Nat} {c0 c1 c2 c3 c4 c5 c6 : Value} {T : TypeId} {fn : Func} {tmps : Array Value} {t t2 t3 : Tmp} {r q : Value} (h : fn.results = #[.cell t 31, .tmp t2, .tmp t3]) (ht : tmps.getD t undef = .pointer (some ⟨D, 0, none⟩)) (h2 : tmps.getD t2 undef = r) (h3 : tmps.getD t3 undef = q)
    (hz : w.heap[D]? = some (.cells #[c0, c1, c2, c3, c4, c5, c6] T (0, 0))) : (results fn tmps).run Tryz.prog w = .ok (.tuple #[.agg #[c0, c1, c2, c3, c4, c5, c6], r, q]) w := by
  obtain ⟨⟨d0, d1, d2, d3, d4, d5, d6⟩, -⟩ := seven hz
  rw [Array.getD_eq_getD_getElem?] at ht h2 h3
  simp [results, h, ht, h2, h3, go_sem, d0, d1, d2, d3, d4, d5, d6]
theorem dt_ret3 {V : World} {D : Nat} {T : TypeId} {v0 v1 v2 v3 v4 v5 v6 : Value} {fn : Func} {act : Act} {t t2 t3 : Tmp} {r q : Value} {Q : Ending → World → Prop} (h : fn.results = #[.cell t 31, .tmp t2, .tmp t3]) (ht : act.tmps.getD t undef = .pointer (some ⟨D, 0, none⟩)) (h2 : act.tmps.getD t2 undef = r) (h3 : act.tmps.getD t3 undef = q) (hd : act.defers = [])
    (hz : V.heap[D]? = some (.cells #[v0, v1, v2, v3, v4, v5, v6] T (0, 0))) (hQ : Q (.returned (.tuple #[.agg #[v0, v1, v2, v3, v4, v5, v6], r, q])) V) : bodyPost Tryz.prog fn Q .ret act V :=
  bodyPost_ret (results_d3 h ht h2 h3 hz) hd hQ
section
variable {w : World} {p : Nat} {s : ByteArray}
set_option maxRecDepth 100000 in
set_option maxHeartbeats 1600000 in
theorem may_any (hs : s.size ≤ 16384) (hp : p ≤ s.size) (w : World) : Calls Tryz.prog 78 #[.string s, .int .i64 p] w fun E w' => E = .returned (.int .i64 0) ∧ w = w' := by
  have h1 : decide (16384 < (s.size : Int)) = false := decide_eq_false (by omega)
  have h2 : decide ((p : Int) < 0) = false := decide_eq_false (by omega)
  have h3 : decide ((s.size : Int) < (p : Int)) = false := decide_eq_false (by omega)
  go_enter Tryz.func78, Tryz.ntmps78
  go_wp2_with fail
  go_ret
  exact ⟨rfl, rfl⟩
theorem Tabs.off {w : World} (h : Tabs w) {R : Nat} (hR : w.heap.size ≤ R) : Off R := by
  obtain ⟨⟨t1, h1⟩, ⟨t2, h2⟩, ⟨t3, h3⟩⟩ := h
  have lt : ∀ {i : Nat} {o : Obj}, w.heap[i]? = some o → i < w.heap.size := fun e => (Array.getElem?_eq_some_iff.1 e).1
  exact ⟨by have := lt h1; omega, by have := lt h2; omega, by have := lt h3; omega⟩
theorem kept_below {R : Nat} {w W W' : World} (h : Below w.heap.size w W) (hR : w.heap.size ≤ R) (hk : Kept R W W') : Below w.heap.size w W' :=
  ⟨hk.2.os.trans h.os, hk.2.tape.trans h.tape, hk.2.output.trans h.output, Nat.le_trans h.size hk.1, fun i hi => (hk.2.block i (Nat.lt_of_lt_of_le hi h.size) (by omega)).trans (h.block i hi)⟩
theorem below_drewN' {B n : Nat} {a b : World} (h : Below B a b) : Below B a (b.drewN n) := ⟨h.os, h.tape, h.output, h.size, h.block⟩
theorem w7_below {w a : World} {B L : Nat} {v0 v1 v2 v3 v4 v5 v6 : Value} (h : Below L a w) (hB : L ≤ B) : Below L a (W7 w B v0 v1 v2 v3 v4 v5 v6) := set7_below h hB
/-- What Skip tells. -/
def SkipPost (s : ByteArray) (w : World) (r : Res) (E : Ending) (w' : World) : Prop := Below w.heap.size w w' ∧ match r with
  | .ok _ l => ∃ q : Nat, q ≤ s.size ∧ l = rsB s q ∧ E = .returned (.tuple #[.int .i64 q, .int .i64 0])
  | .bad e l => ∃ q : Nat, q ≤ s.size ∧ l = rsB s q ∧ E = .returned (.tuple #[.int .i64 q, .int .i64 e])
set_option maxRecDepth 100000 in
set_option maxHeartbeats 6400000 in
theorem skip_any (hs : s.size ≤ 16384) (hp : p ≤ s.size) (ht : Tabs w) : Calls Tryz.prog 41 #[.string s, .int .i64 p] w fun E w' => ∃ r, Rdd .skip (rsB s p) 0 r ∧ SkipPost s w r E w' := by
  obtain ⟨W1, hW1⟩ : ∃ W, w.alloc (Obj.cells #[.string s, .int .i64 p, .int .i64 0, .int .i64 0] 116) = W := ⟨_, rfl⟩
  have hb1 : Below w.heap.size w W1 := hW1 ▸ (Below.refl _ w).alloc (Nat.le_refl _) _
  have h1s : W1.heap.size = w.heap.size + 1 := by rw [← hW1]; exact World.size_alloc ..
  have hr1 : Rdr W1 w.heap.size s p 0 0 := hW1 ▸ World.alloc_heap_new w _
  have HM := Lib.hid (may_any hs hp w)
  have HS := Lib.hid ((reads (ht.off (Nat.le_refl _)) hs s.size).2.1 p 0 W1 (by omega) hp (by omega) hr1 (ht.below hb1))
  have HB := Lib.hid hb1
  have HW := Lib.hid hW1
  clear ht hb1 hr1 hW1
  go_enter Tryz.func41, Tryz.ntmps41
  go_wp2_with (go_at_call 78; refine HM.out.mono ?_; rintro E w' ⟨rfl, rfl⟩)
  rw [HW.out]
  refine HS.out.mono ?_
  rintro E w2 ⟨r, hrd, hk, hpost⟩
  have HK := Lib.hid (And.intro hrd (kept_below HB.out (Nat.le_refl _) hk))
  clear hrd hk
  cases r with
  | ok d l =>
    obtain ⟨rfl, q, hpq, hq, rfl, rfl, hr⟩ := hpost
    obtain ⟨c0, c1, c2, c3⟩ := hr.c
    clear hr
    go_wp2_with fail
    go_quiet (fail)
    go_wp2_with fail
    go_ret2
    exact ⟨_, HK.out.1, below_drewN' HK.out.2, q, hq, rfl, rfl⟩
  | bad e l =>
    obtain ⟨q, hq, rfl, rfl, hr⟩ := hpost
    obtain ⟨c0, c1, c2, c3⟩ := hr.c
    clear hr
    go_wp2_with fail
    go_quiet (fail)
    go_wp2_with fail
    go_ret2
    exact ⟨_, HK.out.1, below_drewN' HK.out.2, q, hq, rfl, rfl⟩
/-- What Read tells. -/
def ReadPost (s : ByteArray) (p : Nat) (w : World) (r : Res) (E : Ending) (w' : World) : Prop := Below w.heap.size w w' ∧ match r with
  | .ok d l => ∃ q : Nat, p < q ∧ q ≤ s.size ∧ l = rsB s q ∧ ((depthD (normD d) ≤ 200 ∧ ∃ u : LT, E = .returned (.tuple #[.agg #[.int .i64 u.k, .bool u.g, .slice u.la u.ln u.lc, .bool u.bb, .string u.s, .slice u.ia u.items.length u.ic, .slice u.ta u.tail.length u.tc], .int .i64 q, .int .i64 0]) ∧ HeldP w' (Fresh w' w.heap.size) u ∧ shape u = normD d ∧ Tame u) ∨ (¬ depthD (normD d) ≤ 200 ∧ E = .returned (.tuple #[.agg #[.int .i64 0, .bool false, .slice none 0 0, .bool false, .string ⟨#[]⟩, .slice none 0 0, .slice none 0 0], .int .i64 0, .int .i64 12])))
  | .bad e l => ∃ q : Nat, q ≤ s.size ∧ l = rsB s q ∧ E = .returned (.tuple #[.agg #[.int .i64 0, .bool false, .slice none 0 0, .bool false, .string ⟨#[]⟩, .slice none 0 0, .slice none 0 0], .int .i64 q, .int .i64 e])
set_option maxRecDepth 100000 in
set_option maxHeartbeats 6400000 in
theorem read_any (hs : s.size ≤ 16384) (hp : p ≤ s.size) (ht : Tabs w) (hz5 : ∀ d l, Rdd .datum (rsB s p) 0 (.ok d l) → sizeD d ≤ 5000) : Calls Tryz.prog 40 #[.string s, .int .i64 p] w fun E w' => ∃ r, Rdd .datum (rsB s p) 0 r ∧ ReadPost s p w r E w' := by
  obtain ⟨W0, hW0⟩ : ∃ W, w.alloc (Obj.cells #[.int .i64 0, .bool false, .slice none 0 0, .bool false, .string ⟨#[]⟩, .slice none 0 0, .slice none 0 0] 31) = W := ⟨_, rfl⟩
  have h0s : W0.heap.size = w.heap.size + 1 := by rw [← hW0]; exact World.size_alloc ..
  have hb0 : Below w.heap.size w W0 := hW0 ▸ (Below.refl _ w).alloc (Nat.le_refl _) _
  obtain ⟨W1, hW1⟩ : ∃ W, W0.alloc (Obj.cells #[.string s, .int .i64 p, .int .i64 0, .int .i64 0] 116) = W := ⟨_, rfl⟩
  have hb1 : Below w.heap.size w W1 := hW1 ▸ hb0.alloc (by omega) _
  have h1s : W1.heap.size = w.heap.size + 2 := by rw [← hW1, World.size_alloc, h0s]
  have hr1 : Rdr W1 (w.heap.size + 1) s p 0 0 := by
    have := World.alloc_heap_new W0 (Obj.cells #[.string s, .int .i64 p, .int .i64 0, .int .i64 0] 116)
    rw [hW1, h0s] at this
    exact this
  have hz1 : W1.heap[w.heap.size]? = some (Obj.cells #[.int .i64 0, .bool false, .slice none 0 0, .bool false, .string ⟨#[]⟩, .slice none 0 0, .slice none 0 0] 31) := by
    have h1 := Below.heap_alloc W0 (Obj.cells #[.string s, .int .i64 p, .int .i64 0, .int .i64 0] 116) w.heap.size (by omega)
    have h2 := World.alloc_heap_new w (Obj.cells #[.int .i64 0, .bool false, .slice none 0 0, .bool false, .string ⟨#[]⟩, .slice none 0 0, .slice none 0 0] 31)
    rw [hW0] at h2
    rw [hW1] at h1
    exact h1.trans h2
  have HM := Lib.hid (may_any hs hp (w.alloc (Obj.cells #[.int .i64 0, .bool false, .slice none 0 0, .bool false, .string ⟨#[]⟩, .slice none 0 0, .slice none 0 0] 31)))
  have HW := Lib.hid (show (w.alloc (Obj.cells #[.int .i64 0, .bool false, .slice none 0 0, .bool false, .string ⟨#[]⟩, .slice none 0 0, .slice none 0 0] 31)).alloc (Obj.cells #[.string s, .int .i64 p, .int .i64 0, .int .i64 0] 116) = W1 by rw [hW0, hW1])
  have HD := Lib.hid ((reads (ht.off (R := w.heap.size + 1) (by omega)) hs s.size).1 p 0 W1 (by omega) hp (by omega) hr1 (ht.below hb1))
  have HB := Lib.hid (And.intro hb1 (And.intro hz1 hz5))
  clear ht hb0 hb1 hr1 hz1 hz5 hW0 hW1
  go_enter Tryz.func40, Tryz.ntmps40
  go_wp2_with (go_at_call 78; refine HM.out.mono ?_; rintro E w' ⟨rfl, rfl⟩)
  rw [HW.out]
  refine HD.out.mono ?_
  rintro E w2 ⟨r, hrd, hk, hpost⟩
  have hs2 : w.heap.size + 2 ≤ w2.heap.size := by have := hk.1; omega
  have hz2 := (hk.2 w.heap.size (by omega) (by omega)).trans HB.out.2.1
  have HK := Lib.hid (And.intro hrd (kept_below HB.out.1 (Nat.le_add_right _ 1) hk))
  clear hrd hk
  cases r with
  | bad e l =>
    obtain ⟨q, hq, rfl, rfl, hr⟩ := hpost
    obtain ⟨c0, c1, c2, c3⟩ := hr.c
    obtain ⟨⟨d0, d1, d2, d3, d4, d5, d6⟩, g0, g1, g2, g3, g4, g5, g6⟩ := seven hz2
    have hD : w.heap.size < w2.heap.size := by omega
    have hD1 : w.heap.size + 1 < w2.heap.size := by omega
    have HX := Lib.hid hz2
    clear hr hz2
    go_wp2_with fail
    go_region
    go_wp2_with fail
    refine dt_ret3 (D := w.heap.size) (V := ((W7 w2 w.heap.size (.int .i64 0) (.bool false) (.slice none 0 0) (.bool false) (.string ⟨#[]⟩) (.slice none 0 0) (.slice none 0 0)).alloc (Obj.cells #[.int .i64 0, .bool false, .slice none 0 0, .bool false, .string ⟨#[]⟩, .slice none 0 0, .slice none 0 0] 31)).drew) rfl rfl rfl rfl rfl (show ((W7 w2 w.heap.size (.int .i64 0) (.bool false) (.slice none 0 0) (.bool false) (.string ⟨#[]⟩) (.slice none 0 0) (.slice none 0 0)).alloc (Obj.cells #[.int .i64 0, .bool false, .slice none 0 0, .bool false, .string ⟨#[]⟩, .slice none 0 0, .slice none 0 0] 31)).heap[w.heap.size]? = _ from (Below.heap_alloc _ _ _ (by rw [w7_size]; omega)).trans (w7_at HX.out)) ⟨_, HK.out.1, ((w7_below HK.out.2 (Nat.le_refl _)).alloc (by rw [w7_size]; omega) _).drew, q, hq, rfl, rfl⟩
  | ok d l =>
    obtain ⟨q, u, hpq, hq, rfl, rfl, hu, hd, htu, hz, hr⟩ := hpost
    obtain ⟨W3, hW3⟩ : ∃ W, w2.alloc (Obj.cells #[.int .i64 u.k, .bool u.g, .slice u.la u.ln u.lc, .bool u.bb, .string u.s, .slice u.ia u.items.length u.ic, .slice u.ta u.tail.length u.tc] 31) = W := ⟨_, rfl⟩
    have h3s : W3.heap.size = w2.heap.size + 1 := by rw [← hW3]; exact World.size_alloc ..
    have h3n : W3.heap[w2.heap.size]? = some (Obj.cells #[.int .i64 u.k, .bool u.g, .slice u.la u.ln u.lc, .bool u.bb, .string u.s, .slice u.ia u.items.length u.ic, .slice u.ta u.tail.length u.tc] 31) := hW3 ▸ World.alloc_heap_new w2 (Obj.cells #[.int .i64 u.k, .bool u.g, .slice u.la u.ln u.lc, .bool u.bb, .string u.s, .slice u.ia u.items.length u.ic, .slice u.ta u.tail.length u.tc] 31)
    have h3o : ∀ i, i < w2.heap.size → W3.heap[i]? = w2.heap[i]? := fun i hi => hW3 ▸ Below.heap_alloc w2 (Obj.cells #[.int .i64 u.k, .bool u.g, .slice u.la u.ln u.lc, .bool u.bb, .string u.s, .slice u.ia u.items.length u.ic, .slice u.ta u.tail.length u.tc] 31) i hi
    have hz3 := (h3o w.heap.size (by omega)).trans hz2
    have hr3 : Rdr W3 (w.heap.size + 1) s q 0 0 := hr.same (h3o _ (by omega))
    have hus : u.size ≤ 5000 := by have := HB.out.2.2 d _ HK.out.1; rw [← hd, sizeD_shape] at this; exact this
    have hup := depth_le_size u
    have hH3 : Held W3 W3.heap.size u := (hu.keep (w' := W3) (Q := fun i => i < W3.heap.size) (by omega) fun i hi => ⟨by have := hi.lt; omega, h3o i hi.lt⟩).held fun _ h => h
    have HN := Lib.hid (norm_tree W3.heap.size u (by omega) (by omega) htu W3 (Nat.le_refl _) hH3)
    have hb3w : Below w.heap.size w W3 := hW3 ▸ HK.out.2.alloc (by omega) _
    have HX := Lib.hid (And.intro h3n (And.intro hz3 (And.intro hr3 (And.intro hb3w (And.intro hH3 (And.intro hd (And.intro htu hz)))))))
    obtain ⟨⟨x0, x1, x2, x3, x4, x5, x6⟩, y0, y1, y2, y3, y4, y5, y6⟩ := seven h3n
    clear h3n hz2 hz3 hr hr3 h3o hb3w hH3 hd htu hz hu
    go_wp2_with fail
    refine HN.out.mono ?_
    rintro E w4 ⟨u', rfl, hu', hsh', b4⟩
    have h4T := (b4.block w2.heap.size (by omega)).trans HX.out.1
    have h4D := (b4.block w.heap.size (by omega)).trans HX.out.2.1
    have h4R : Rdr w4 (w.heap.size + 1) s q 0 0 := HX.out.2.2.1.next b4 (by omega)
    have hs4 : W3.heap.size ≤ w4.heap.size := b4.size
    have hT4 : w2.heap.size < w4.heap.size := by omega
    obtain ⟨hb1, hb2, hb3⟩ := norm_bounds HX.out.2.2.2.2.1 HX.out.2.2.2.2.2.2.1 (hu'.held fun i hi => hi.lt) hsh'
    have hnd : shape u' = normD d := by rw [hsh', ← HX.out.2.2.2.2.2.1, normD_shape]
    have hfine : FineD (shape u') := hnd ▸ HK.out.1.raw.fine
    have hdd : depthD (normD d) = u'.depth := by rw [← hnd, depthD_shape]
    obtain ⟨W5, hW5⟩ : ∃ W, W = W7 w4 w2.heap.size (.int .i64 u'.k) (.bool u'.g) (.slice u'.la u'.ln u'.lc) (.bool u'.bb) (.string u'.s) (.slice u'.ia u'.items.length u'.ic) (.slice u'.ta u'.tail.length u'.tc) := ⟨_, rfl⟩
    have h5s : W5.heap.size = w4.heap.size := by rw [hW5]; exact w7_size
    have h5T : W5.heap[w2.heap.size]? = some (Obj.cells #[.int .i64 u'.k, .bool u'.g, .slice u'.la u'.ln u'.lc, .bool u'.bb, .string u'.s, .slice u'.ia u'.items.length u'.ic, .slice u'.ta u'.tail.length u'.tc] 31) := hW5 ▸ w7_at h4T
    have h5o : ∀ i, i ≠ w2.heap.size → W5.heap[i]? = w4.heap[i]? := fun i hi => hW5 ▸ w7_other hi
    have hu5 : HeldP W5 (Fresh W5 W3.heap.size) u' := hu'.keep (by omega) fun i hi => ⟨hi.same (h5o i (by have := hi.1; omega)), h5o i (by have := hi.1; omega)⟩
    have HG := Lib.hid (good_fine W5.heap.size u' (by omega) hfine W5 (Nat.le_refl _) (hu5.held fun i hi => hi.lt))
    have hW5' := hW5
    unfold W7 at hW5'
    have HW5 := Lib.hid hW5'
    clear hW5'
    obtain ⟨⟨z0, z1, z2, z3, z4, z5, z6⟩, v0, v1, v2, v3, v4, v5, v6⟩ := seven h4T
    have HY := Lib.hid (And.intro h5T (And.intro ((h5o w.heap.size (by omega)).trans h4D) (And.intro (h4R.same (h5o (w.heap.size + 1) (by omega))) (And.intro hu5 (And.intro hnd (And.intro hb3 (And.intro hdd (show Below w.heap.size w W5 from hW5 ▸ w7_below (HX.out.2.2.2.1.trans (b4.mono (by omega))) (by omega)))))))))
    clear h4T h4D h4R b4 hsh' hu' hnd hfine hdd hW5 h5T h5o hu5 x0 x1 x2 x3 x4 x5 x6 y0 y1 y2 y3 y4 y5 y6
    go_wp2_with fail
    rw [← HW5.out]
    refine HG.out.mono ?_
    rintro E w6 ⟨rfl, b6⟩
    have h6T := (b6.block w2.heap.size (by omega)).trans HY.out.1
    have h6D := (b6.block w.heap.size (by omega)).trans HY.out.2.1
    have h6R := HY.out.2.2.1.next b6 (by omega)
    have hs6 : W5.heap.size ≤ w6.heap.size := b6.size
    obtain ⟨c0, c1, c2, c3⟩ := h6R.c
    obtain ⟨⟨x0, x1, x2, x3, x4, x5, x6⟩, y0, y1, y2, y3, y4, y5, y6⟩ := seven h6T
    obtain ⟨⟨d0, d1, d2, d3, d4, d5, d6⟩, g0, g1, g2, g3, g4, g5, g6⟩ := seven h6D
    have H6 := Lib.hid (And.intro h6D b6)
    clear h6T h6D h6R b6 z0 z1 z2 z3 z4 z5 z6 v0 v1 v2 v3 v4 v5 v6
    by_cases hdep : u'.depth ≤ 200
    · have hdt : decide (u'.depth ≤ 200) = true := decide_eq_true hdep
      rw [hdt]
      go_wp2_with fail
      go_region
      go_wp2_with fail
      obtain ⟨V0, hV0⟩ : ∃ V, V = (W7 w6 w.heap.size (.int .i64 u'.k) (.bool u'.g) (.slice u'.la u'.ln u'.lc) (.bool u'.bb) (.string u'.s) (.slice u'.ia u'.items.length u'.ic) (.slice u'.ta u'.tail.length u'.tc)) := ⟨_, rfl⟩
      have hVo : ∀ i, i ≠ w.heap.size → V0.heap[i]? = w6.heap[i]? := fun i hi => hV0 ▸ w7_other hi
      have hVs : V0.heap.size = w6.heap.size := hV0 ▸ w7_size
      have hVb : V0.heap[w.heap.size]? = some (Obj.cells #[.int .i64 u'.k, .bool u'.g, .slice u'.la u'.ln u'.lc, .bool u'.bb, .string u'.s, .slice u'.ia u'.items.length u'.ic, .slice u'.ta u'.tail.length u'.tc] 31) := hV0 ▸ w7_at H6.out.1
      have hVw : Below w.heap.size w V0 := hV0 ▸ w7_below (HY.out.2.2.2.2.2.2.2.trans (H6.out.2.mono (by omega))) (Nat.le_refl _)
      unfold W7 at hV0
      rw [← hV0]
      have hu6 : HeldP V0.drew (Fresh V0.drew w.heap.size) u' := HY.out.2.2.2.1.keep (show W5.heap.size ≤ V0.heap.size by omega) fun i hi => by
        have e : V0.drew.heap[i]? = W5.heap[i]? := (show V0.heap[i]? = W5.heap[i]? from (hVo i (by have := hi.1; omega)).trans (H6.out.2.block i hi.lt))
        exact ⟨(hi.same e).low (by omega), e⟩
      have hpp : ReadPost s p w (.ok d (rsB s q)) (.returned (.tuple #[.agg #[.int .i64 u'.k, .bool u'.g, .slice u'.la u'.ln u'.lc, .bool u'.bb, .string u'.s, .slice u'.ia u'.items.length u'.ic, .slice u'.ta u'.tail.length u'.tc], .int .i64 q, .int .i64 0])) V0.drew := ⟨hVw.drew, q, hpq, hq, rfl, .inl ⟨by rw [HY.out.2.2.2.2.2.2.1]; exact hdep, u', rfl, hu6, HY.out.2.2.2.2.1, HY.out.2.2.2.2.2.1⟩⟩
      exact dt_ret3 (D := w.heap.size) (V := V0.drew) rfl rfl rfl rfl rfl (show V0.heap[w.heap.size]? = _ from hVb) ⟨_, HK.out.1, hpp⟩
    · have hdt : decide (u'.depth ≤ 200) = false := decide_eq_false hdep
      rw [hdt]
      go_wp2_with fail
      obtain ⟨V0, hV0⟩ : ∃ V, V = W7 w6 w.heap.size (.int .i64 0) (.bool false) (.slice none 0 0) (.bool false) (.string ⟨#[]⟩) (.slice none 0 0) (.slice none 0 0) := ⟨_, rfl⟩
      have hVo : ∀ i, i ≠ w.heap.size → V0.heap[i]? = w6.heap[i]? := fun i hi => hV0 ▸ w7_other hi
      have hVs : V0.heap.size = w6.heap.size := hV0 ▸ w7_size
      have hVb : V0.heap[w.heap.size]? = some (Obj.cells #[.int .i64 0, .bool false, .slice none 0 0, .bool false, .string ⟨#[]⟩, .slice none 0 0, .slice none 0 0] 31) := hV0 ▸ w7_at H6.out.1
      have hVw : Below w.heap.size w V0 := hV0 ▸ w7_below (HY.out.2.2.2.2.2.2.2.trans (H6.out.2.mono (by omega))) (Nat.le_refl _)
      unfold W7 at hV0
      rw [← hV0]
      have hpp : ReadPost s p w (.ok d (rsB s q)) (.returned (.tuple #[.agg #[.int .i64 0, .bool false, .slice none 0 0, .bool false, .string ⟨#[]⟩, .slice none 0 0, .slice none 0 0], .int .i64 0, .int .i64 12])) V0 := ⟨hVw, q, hpq, hq, rfl, .inr ⟨by rw [HY.out.2.2.2.2.2.2.1]; exact hdep, rfl⟩⟩
      exact dt_ret3 (D := w.heap.size) (V := V0) rfl rfl rfl rfl rfl hVb ⟨_, HK.out.1, hpp⟩
end
end Go.Proofs.YtlohdglhebplfaaGreatDoor
