/-
  core.settable, core.above. core.above. core.boxesOf.
-/
import Derived.Test.YthdhdmmlmbkalaaGreatDoorJr16
set_option linter.unusedVariables false
set_option linter.unusedSimpArgs false
set_option linter.unusedSectionVars false
set_option linter.unnecessarySimpa false
namespace Go.Proofs.YthdhdmmlmbkalaaGreatDoor
section
open Go.RowKit Go.Maps
attribute [local go_sem] Oper.semAt_some

/-- The variables that are set, in the order told. -/
def setsN (x : NodeE) : List Int := if x.e.k = 3 then [x.e.v] else []
def setsE (full : List NodeE) (k : Nat) : List Int := (full.take k).flatMap setsN
theorem setsE_succ {full : List NodeE} {k : Nat} {x : NodeE} (h : full[k]? = some x) : setsE full (k + 1) = setsE full k ++ setsN x := by simp [setsE, List.take_add_one, h]
def SeI (M b o B : Nat) (root : ET) (full : List NodeE) (w : World) (k : Nat) (W : World) : Prop :=
  W.ownsMap Tryz.prog 3 unitElem B k (setD (setsE full k)) ∧ W.heap[B + 1]? = some (.cells #[.map (some B)] 50 (0, 0)) ∧ LiesE W M root b o ∧ Below B w W
theorem SeI.below {M b o B C k : Nat} {root : ET} {full : List NodeE} {w A W : World} (hM : M ≤ B) (hC : B + 2 ≤ C) (h : SeI M b o B root full w k A) (hb : Below C A W) : SeI M b o B root full w k W :=
  ⟨ownsMap_of_block h.1 (hb.block _ (by omega)), (hb.block _ (by omega)).trans h.2.1, h.2.2.1.keep hb.size (fun i hi => hb.block i (by omega)) _ _ _, h.2.2.2.trans (hb.mono (by omega))⟩
set_option maxRecDepth 100000 in
set_option maxHeartbeats 6400000 in
theorem settable_in (M b o : Nat) (t : ET) (hs : t.size ≤ 100000) (w : World) (hM : M ≤ w.heap.size) (hL : LiesE w M t b o) (hv : ∀ x ∈ seqE t 1 b o, -9223372036854775808 ≤ x.e.v ∧ x.e.v ≤ 9223372036854775807)
    (hF : ∀ W, Below w.heap.size w W → Calls Tryz.prog 80 #[.agg #[.int .i64 t.k, .int .i64 t.d.k, .bool t.d.g, .slice t.d.la t.d.ln t.d.lc, .bool t.d.bb, .string t.d.s, .slice t.d.ia t.d.items.length t.d.ic, .slice t.d.ta t.d.tail.length t.d.tc, .int .i64 t.v, .slice t.va t.vs.length t.vc, .bool t.rs, .int .i64 t.p, .slice t.ka t.kids.length t.kc]] W fun e w' => e = .returned (.slice none 0 0) ∧ Below W.heap.size W w') :
    CallsIn Fence.wide 5 Tryz.prog 60 #[.pointer (some ⟨b, o, none⟩)] w fun e w' => e = .returned (.map (some w.heap.size)) ∧ w'.ownsMap Tryz.prog 3 unitElem w.heap.size t.size (setD (setsE (seqE t 1 b o) t.size)) ∧ Below w.heap.size w w' := by
  obtain ⟨W2, hW2, a0, a1, hz2, hb2⟩ := two2 w (.map #[] 0) (.cells #[.map (some w.heap.size)] 50)
  obtain ⟨W0, hW0⟩ : ∃ W0, W2.alloc (.cells #[.pointer (some ⟨b, o, none⟩)] 46) = W0 := ⟨_, rfl⟩
  have hz0 : W0.heap.size = w.heap.size + 3 := by rw [← hW0, World.size_alloc, hz2]
  have hb20 : Below W2.heap.size W2 W0 := by rw [← hW0]; exact (Below.refl _ W2).alloc (Nat.le_refl _) _
  have hb0 : Below w.heap.size w W0 := hb2.trans (hb20.mono (by omega))
  have c2 : W0.heap[w.heap.size + 2]? = some (.cells #[.pointer (some ⟨b, o, none⟩)] 46 (0, 0)) := by rw [← hW0, ← hz2]; exact World.alloc_heap_new _ _
  have hL0 : LiesE W0 M t b o := hL.keep hb0.size (fun i hi => hb0.block i (by omega)) _ _ _
  have hbd0 : W0.cell? ⟨w.heap.size + 2, 0, none⟩ = some (.pointer (some ⟨b, o, none⟩)) := by rw [Lib.cell_of_heap c2]; rfl
  obtain ⟨full, hfull⟩ : ∃ full, full = seqE t 1 b o := ⟨_, rfl⟩
  have hlen : full.length = t.size := by rw [hfull, seqE_length]
  have hlv : ∀ x ∈ full, ∀ (w' : World) (M : Nat), LiesE w' M t b o → LiesE w' M x.e x.b x.o := fun x hx => (levE t.size t (Nat.le_refl _) 1 b o x (hfull ▸ hx)).2.2
  rw [← hfull] at hv ⊢
  have hI0 : SeI M b o w.heap.size t full w 0 W0 := ⟨⟨#[], 0, (hb20.block _ (by omega)).trans a0, ⟨by simp, Go.MapKept.stamped_empty 0, by simp⟩, Nat.zero_le _, rfl⟩, (hb20.block _ (by omega)).trans a1, hL0, hb0⟩
  have hruns := toldE_runs 4 (w.heap.size + 2) M b o t (fun r => r = w.heap.size ∨ r = W0.heap.size + 1) W0 (fun r hr => by rcases hr with rfl | rfl <;> omega) hbd0 (by omega) hL0 (by omega)
  rw [← hfull] at hruns
  have HF := Lib.hid (And.intro hv (And.intro hF hlv))
  have HW := Lib.hid (And.intro (show (((w.alloc (.map #[] 0)).alloc (.cells #[.map (some w.heap.size)] 50)).alloc (.cells #[.pointer (some ⟨b, o, none⟩)] 46)) = W0 by rw [← hW2]; exact hW0) (And.intro hruns (And.intro hI0 (liesE_held.1 hL).2.1)))
  have hbM : b < M := (liesE_held.1 hL).1
  clear hv hF hlv hfull hL hL0 hbd0 hI0 hruns hW2 hW0 a0 a1 hb2 hb20 hb0 c2
  have hmm := @run_makeMap Tryz.prog
  have hmix : Tryz.prog.follows .mixedOrders = true := by kernel_rfl
  refine callsIn_of_wp_marks Tryz.func60 rfl trivial ?_ rfl
  simp only [Tryz.ntmps60, List.size_toArray, List.length_cons, List.length_nil, Nat.reduceAdd, Nat.reduceSub, Array.replicate_succ, Array.replicate_zero, List.push_toArray, List.append_toArray, List.nil_append, List.cons_append]
  gi_wp2
  refine ⟨trivial, (callsIn_wide.2 (toldE_any _ _)).mono ?_⟩
  rintro e w' ⟨rfl, rfl⟩
  gi_wp2
  rw [HW.out.1]
  refine wpIn_runs (X := fun r => r = w.heap.size) (w0 := W0) rfl (by decide) (gf := 47) (lb := #[.pointer (some ⟨w.heap.size + 1 + 1, 0, none⟩)]) rfl trivial (enters_of Tryz.func47 (by kernel_rfl) rfl)
    HW.out.2.1 (fun r hr => by omega) (Below.refl _ _) (fun k => rfl) (fun k W => SeI M b o w.heap.size t full w k W) (fun _ _ _ => False)
    (fun k A B hAB h => h.below hM (by omega) hAB) (fun _ _ _ _ _ h => h) HW.out.2.2.1
    (fun k => { tmps := #[.pointer (some ⟨b, o, none⟩), undef, .map none, .pointer (some ⟨w.heap.size + 1, 0, none⟩), undef, .pointer (some ⟨(ndE full k).b, (ndE full k).o, none⟩), undef, undef, .map (some w.heap.size), .pointer (some ⟨b, o, none⟩), .func (.func 47) #[] #[.pointer (some ⟨w.heap.size + 1 + 1, 0, none⟩)], .int .i64 ((ndE full k).lev : Nat), .pointer (some ⟨(ndE full k).b, (ndE full k).o, none⟩), undef, undef, undef, undef, undef, undef, undef, undef, undef, undef, undef, undef, undef, undef, undef, undef, undef, undef, undef, undef, undef, undef, undef, undef], defers := [] })
    ?assign ?body ?done ?stop
  case assign =>
    intro l k W K _ hK
    simp only [toldE]
    gi_wp2
    exact hK
  case body =>
    rintro l k W hkN hI
    obtain ⟨⟨lv, xb, xo, x⟩, hat⟩ : ∃ x, full[k]? = some x := ⟨full[k], List.getElem?_eq_getElem hkN⟩
    have hmem := List.mem_of_getElem? hat
    have hx := HF.out.2.2 _ hmem W M hI.2.2.1
    have hvx := HF.out.1 _ hmem
    have hss := setsE_succ hat
    simp only [ndE_eq hat]
    simp only at hx hvx
    have hcell := (liesE_held.1 hx).2.1
    have c0 : W.cell? ⟨xb, xo, none⟩ = some (.int .i64 x.k) := hcell 0 _ rfl
    have c8 : W.cell? ⟨xb, xo + 8, none⟩ = some (.int .i64 x.v) := hcell 8 _ rfl
    have hlt := (Array.getElem?_eq_some_iff.1 hI.2.1).1
    have y0 : W.cell? ⟨w.heap.size + 1, 0, none⟩ = some (.map (some w.heap.size)) := by rw [Lib.cell_of_heap hI.2.1]; rfl
    by_cases h3 : x.k = 3
    · have hnm : setsN ⟨lv, xb, xo, x⟩ = [x.v] := by simp [setsN, h3]
      rw [hnm] at hss
      obtain ⟨W', hup, hown, hg⟩ := (ownsMap_of_block (w' := W.drew) hI.1 rfl).update (val := .agg #[]) (key := .int .i64 x.v) keyI Tryz.underlying50 (by unfold maxLen; omega) (keyOf_int_mk Tryz.underlying3 (WalkArith.wf_i64 hvx)) unitElem_mk
      rw [setD_snoc, ← hss] at hown
      have hs' := hg.size
      have hgk : ∀ q, q < W.heap.size → q ≠ w.heap.size → W'.heap[q]? = W.heap[q]? := fun q hq h => hg.block q hq (fun e => h (by injection e))
      have hI' : SeI M b o w.heap.size t full w (k + 1) W' := ⟨hown, (hgk _ (by omega) (by omega)).trans hI.2.1, LiesE.keep (w := W) hs' (fun i hi => hgk i (by omega) (by omega)) _ _ _ hI.2.2.1, hI.2.2.2.drew.grown hg (by show w.heap.size ≤ W.heap.size; omega) (fun j hj => by cases hj; exact Nat.le_refl _)⟩
      have HI := Lib.hid (And.intro hI' (show But (fun r => r = w.heap.size) W W' from ⟨hs', fun q hq h => hgk q hq h⟩))
      rw [h3] at c0
      clear hI hx hcell hmem hat hss hnm hown hg hgk hI' h3
      gi_wp2
      gi_region
      all_goals exact ⟨HI.out.2, HI.out.1⟩
    · have hnm : setsN ⟨lv, xb, xo, x⟩ = [] := by simp [setsN, h3]
      rw [hnm, List.append_nil] at hss
      have HI := Lib.hid (show SeI M b o w.heap.size t full w (k + 1) W from ⟨by rw [hss]; exact hI.1.mono (Nat.le_succ _), hI.2⟩)
      have q3 : (x.k == 3) = false := beq_eq_false_iff_ne.2 h3
      clear hI hx hcell hmem hat hss hnm h3
      gi_wp2
      exact ⟨But.refl _ _, HI.out⟩
  case done =>
    rintro D W hD hI hK
    have hd := (liesE_held.1 hI.2.2.1).2.1
    have hlt := (Array.getElem?_eq_some_iff.1 hI.2.1).1
    have y0 : W.cell? ⟨w.heap.size + 1, 0, none⟩ = some (.map (some w.heap.size)) := by rw [Lib.cell_of_heap hI.2.1]; rfl
    have d0 : W.cell? ⟨b, o, none⟩ = some (.int .i64 t.k) := hd 0 _ rfl
    have d1 : W.cell? ⟨b, o + 1, none⟩ = some (.int .i64 t.d.k) := hd 1 _ rfl
    have d2 : W.cell? ⟨b, o + 2, none⟩ = some (.bool t.d.g) := hd 2 _ rfl
    have d3 : W.cell? ⟨b, o + 3, none⟩ = some (.slice t.d.la t.d.ln t.d.lc) := hd 3 _ rfl
    have d4 : W.cell? ⟨b, o + 4, none⟩ = some (.bool t.d.bb) := hd 4 _ rfl
    have d5 : W.cell? ⟨b, o + 5, none⟩ = some (.string t.d.s) := hd 5 _ rfl
    have d6 : W.cell? ⟨b, o + 6, none⟩ = some (.slice t.d.ia t.d.items.length t.d.ic) := hd 6 _ rfl
    have d7 : W.cell? ⟨b, o + 7, none⟩ = some (.slice t.d.ta t.d.tail.length t.d.tc) := hd 7 _ rfl
    have d8 : W.cell? ⟨b, o + 8, none⟩ = some (.int .i64 t.v) := hd 8 _ rfl
    have d9 : W.cell? ⟨b, o + 9, none⟩ = some (.slice t.va t.vs.length t.vc) := hd 9 _ rfl
    have d10 : W.cell? ⟨b, o + 10, none⟩ = some (.bool t.rs) := hd 10 _ rfl
    have d11 : W.cell? ⟨b, o + 11, none⟩ = some (.int .i64 t.p) := hd 11 _ rfl
    have d12 : W.cell? ⟨b, o + 12, none⟩ = some (.slice t.ka t.kids.length t.kc) := hd 12 _ rfl
    have hfr := HF.out.2.1 W hI.2.2.2
    rw [hlen] at hI
    have HK := Lib.hid (And.intro hK (And.intro hI hfr))
    clear hK hI hfr hd
    gi_wp2
    refine ⟨trivial, (callsIn_wide.2 HK.out.2.2).mono ?_⟩
    rintro e V ⟨rfl, bV⟩
    have hDl : D < W.heap.size := (Array.getElem?_eq_some_iff.1 HK.out.1).1
    have hVD := (bV.block D hDl).trans HK.out.1
    have y1 : V.cell? ⟨w.heap.size + 1, 0, none⟩ = some (.map (some w.heap.size)) := (bV.cell hlt).trans y0
    have HV := Lib.hid (And.intro hVD (And.intro (ownsMap_of_block HK.out.2.1.1 (bV.block w.heap.size (by omega))) (HK.out.2.1.2.2.2.trans (bV.mono HK.out.2.1.2.2.2.size))))
    clear hVD bV y0 d0 d1 d2 d3 d4 d5 d6 d7 d8 d9 d10 d11 d12
    gi_wp2
    refine wpIn_loop_rounds 1 ?_
    rw [roundsIn_succ]
    gi_wp2
    refine ⟨by simp, .inl ⟨_, _, rfl, run_takeDeferred HV.out.1, ?_⟩⟩
    exact ⟨.map (some w.heap.size), by simp [results, Tryz.results60, go_sem], rfl, ownsMap_of_block HV.out.2.1 (World.putObj_heap_other (by omega)), HV.out.2.2.trans ⟨rfl, rfl, rfl, by simp, fun k hk => World.putObj_heap_other (by omega)⟩⟩
  case stop => exact fun _ _ _ _ _ _ h => h.elim
end
end Go.Proofs.YthdhdmmlmbkalaaGreatDoor
namespace Go.Proofs.YthdhdmmlmbkalaaGreatDoor
section
open Go.RowKit Go.Maps
attribute [local go_sem] Oper.semAt_some

def topN (m : Int) (x : ET) : Int := x.vs.foldl max (max m x.v)
def topL (full : List NodeE) (k : Nat) : Int := (full.take k).foldl (fun m x => topN m x.e) 0
theorem topL_succ {full : List NodeE} {k : Nat} {x : NodeE} (h : full[k]? = some x) : topL full (k + 1) = topN (topL full k) x.e := by simp [topL, List.take_add_one, h]
def InR (z : Int) : Prop := -9223372036854775808 ≤ z ∧ z ≤ 9223372036854775807
theorem inR_max {a b : Int} (ha : InR a) (hb : InR b) : InR (max a b) := by unfold InR at *; omega
theorem inR_fold {vs : List Int} {m : Int} (hm : InR m) (h : ∀ v ∈ vs, InR v) : InR (vs.foldl max m) := by
  induction vs generalizing m with
  | nil => exact hm
  | cons v vs ih => exact ih (inR_max hm (h v List.mem_cons_self)) fun u hu => h u (List.mem_cons_of_mem _ hu)
def AbI (M b o B : Nat) (root : ET) (full : List NodeE) (w : World) (k : Nat) (W : World) : Prop :=
  W.heap[B]? = some (.cells #[.int .i64 (topL full k)] 3 (0, 0)) ∧ InR (topL full k) ∧ LiesE W M root b o ∧ Below B w W
theorem AbI.below {M b o B C k : Nat} {root : ET} {full : List NodeE} {w A W : World} (hM : M ≤ B) (hC : B + 1 ≤ C) (h : AbI M b o B root full w k A) (hb : Below C A W) : AbI M b o B root full w k W :=
  ⟨(hb.block _ (by omega)).trans h.1, h.2.1, h.2.2.1.keep hb.size (fun i hi => hb.block i (by omega)) _ _ _, h.2.2.2.trans (hb.mono (by omega))⟩
set_option maxRecDepth 100000 in
set_option maxHeartbeats 6400000 in
theorem above_in (M b o : Nat) (t : ET) (hs : t.size ≤ 100000) (w : World) (hM : M ≤ w.heap.size) (hL : LiesE w M t b o) (hv : ∀ x ∈ seqE t 1 b o, InR x.e.v) (htop : topL (seqE t 1 b o) t.size < 9223372036854775807) :
    CallsIn Fence.wide 5 Tryz.prog 61 #[.pointer (some ⟨b, o, none⟩)] w fun e w' => e = .returned (.int .i64 (topL (seqE t 1 b o) t.size + 1)) ∧ Below w.heap.size w w' := by
  obtain ⟨W0, hW0, a0, c2, hz0, hb0⟩ := two2 w (.cells #[.int .i64 0] 3) (.cells #[.pointer (some ⟨b, o, none⟩)] 46)
  have hL0 : LiesE W0 M t b o := hL.keep hb0.size (fun i hi => hb0.block i (by omega)) _ _ _
  have hbd0 : W0.cell? ⟨w.heap.size + 1, 0, none⟩ = some (.pointer (some ⟨b, o, none⟩)) := by rw [Lib.cell_of_heap c2]; rfl
  obtain ⟨full, hfull⟩ : ∃ full, full = seqE t 1 b o := ⟨_, rfl⟩
  have hlen : full.length = t.size := by rw [hfull, seqE_length]
  have hlv : ∀ x ∈ full, ∀ (w' : World) (M : Nat), LiesE w' M t b o → LiesE w' M x.e x.b x.o := fun x hx => (levE t.size t (Nat.le_refl _) 1 b o x (hfull ▸ hx)).2.2
  rw [← hfull] at hv htop ⊢
  have hI0 : AbI M b o w.heap.size t full w 0 W0 := ⟨a0, (by unfold InR; simp [topL]), hL0, hb0⟩
  have hruns := toldE_runs 4 (w.heap.size + 1) M b o t (fun r => r = w.heap.size ∨ r = W0.heap.size + 1) W0 (fun r hr => by rcases hr with rfl | rfl <;> omega) hbd0 (by omega) hL0 (by omega)
  rw [← hfull] at hruns
  have HF := Lib.hid (And.intro hv hlv)
  have HW := Lib.hid (And.intro (show ((w.alloc (.cells #[.int .i64 0] 3)).alloc (.cells #[.pointer (some ⟨b, o, none⟩)] 46)) = W0 from hW0.symm) (And.intro hruns hI0))
  have HT := Lib.hid htop
  have hbM : b < M := (liesE_held.1 hL).1
  clear hv hlv hfull hL hL0 hbd0 hI0 hruns hW0 a0 c2 hb0 htop
  have hmix : Tryz.prog.follows .mixedOrders = true := by kernel_rfl
  refine callsIn_of_wp_marks Tryz.func61 rfl trivial ?_ rfl
  simp only [Tryz.ntmps61, List.size_toArray, List.length_cons, List.length_nil, Nat.reduceAdd, Nat.reduceSub, Array.replicate_succ, Array.replicate_zero, List.push_toArray, List.append_toArray, List.nil_append, List.cons_append]
  gi_wp2
  refine ⟨trivial, (callsIn_wide.2 (toldE_any _ _)).mono ?_⟩
  rintro e w' ⟨rfl, rfl⟩
  gi_wp2
  rw [HW.out.1]
  refine wpIn_runs (X := fun r => r = w.heap.size) (w0 := W0) rfl (by decide) (gf := 47) (lb := #[.pointer (some ⟨w.heap.size + 1, 0, none⟩)]) rfl trivial (enters_of Tryz.func47 (by kernel_rfl) rfl)
    HW.out.2.1 (fun r hr => by omega) (Below.refl _ _) (fun k => rfl) (fun k W => AbI M b o w.heap.size t full w k W) (fun _ _ _ => False)
    (fun k A B hAB h => h.below hM (by omega) hAB) (fun _ _ _ _ _ h => h) HW.out.2.2
    (fun k => { tmps := #[.pointer (some ⟨b, o, none⟩), undef, .int .i64 0, .pointer (some ⟨w.heap.size, 0, none⟩), undef, .pointer (some ⟨(ndE full k).b, (ndE full k).o, none⟩), undef, undef, .pointer (some ⟨b, o, none⟩), .func (.func 47) #[] #[.pointer (some ⟨w.heap.size + 1, 0, none⟩)], .int .i64 ((ndE full k).lev : Nat), .pointer (some ⟨(ndE full k).b, (ndE full k).o, none⟩), undef, undef, undef, undef, undef, undef, undef, undef, undef, undef, undef, undef, undef, undef, undef, undef, undef, undef, undef, undef, undef], defers := [] })
    ?assign ?body ?done ?stop
  case assign =>
    intro l k W K _ hK
    simp only [toldE]
    gi_wp2
    exact hK
  case body =>
    rintro l k W hkN hI
    obtain ⟨⟨lv, xb, xo, x⟩, hat⟩ : ∃ x, full[k]? = some x := ⟨full[k], List.getElem?_eq_getElem hkN⟩
    have hmem := List.mem_of_getElem? hat
    have hx := HF.out.2 _ hmem W M hI.2.2.1
    have hvx := HF.out.1 _ hmem
    have hss := topL_succ hat
    simp only [ndE_eq hat]
    simp only at hx hvx hss
    obtain ⟨hxb, hcell, hheld⟩ := liesE_held.1 hx
    have c8 : W.cell? ⟨xb, xo + 8, none⟩ = some (.int .i64 x.v) := hcell 8 _ rfl
    have c9 : W.cell? ⟨xb, xo + 9, none⟩ = some (.slice x.va x.vs.length x.vc) := hcell 9 _ rfl
    have hlt := (Array.getElem?_eq_some_iff.1 hI.1).1
    have y0 : W.cell? ⟨w.heap.size, 0, none⟩ = some (.int .i64 (topL full k)) := by rw [Lib.cell_of_heap hI.1]; rfl
    have yf : W.frozen? ⟨w.heap.size, 0, none⟩ = false := Lib.frozen_of_heap hI.1 _
    obtain ⟨m, hm⟩ : ∃ m, topL full k = m := ⟨_, rfl⟩
    rw [hm] at y0 hss
    have hml : x.vs.length ≤ 9223372036854775807 := Nat.le_trans hheld.1.2.1.1 hheld.1.2.1.2.1
    obtain ⟨W1, hW1⟩ : ∃ W1, (W.setCell ⟨w.heap.size, 0, none⟩ (.int .i64 (max m x.v))).drew = W1 := ⟨_, rfl⟩
    have h1s : W1.heap.size = W.heap.size := by rw [← hW1]; exact setCell_size _ _ _
    have h1k : ∀ q, q ≠ w.heap.size → W1.heap[q]? = W.heap[q]? := fun q hq => by rw [← hW1]; exact Below.heap_setCell _ _ _ _ hq
    have h1h : W1.heap[w.heap.size]? = some (.cells #[.int .i64 (max m x.v)] 3 (0, 0)) := by rw [← hW1]; show (W.setCell _ _).heap[_]? = _; simp [World.setCell, Array.getElem?_modify, hI.1]
    have h1b : Below w.heap.size w W1 := by rw [← hW1]; exact (hI.2.2.2.setCell (p := ⟨w.heap.size, 0, none⟩) (Nat.le_refl _) _).drew
    have d9 : W1.cell? ⟨xb, xo + 9, none⟩ = some (.slice x.va x.vs.length x.vc) := (World.cell?_of_block (w := W) (a := ⟨xb, xo + 9, none⟩) (h1k xb (by omega))).trans c9
    have hr0 := hI.2.1
    rw [hm] at hr0
    have hin : ∀ j, InR ((x.vs.take j).foldl max (max m x.v)) := fun j => inR_fold (inR_max hr0 hvx) fun v hv => by
      obtain ⟨i, hi, e⟩ := List.getElem_of_mem (List.mem_of_mem_take hv)
      rw [← e]
      exact (hheld.1.2.2 i hi).2
    obtain ⟨va, hva0⟩ : ∃ va, x.va = va := ⟨_, rfl⟩
    rw [hva0] at d9
    have HVA := Lib.hid hva0
    clear hva0
    have HI := Lib.hid (And.intro hI (And.intro hss (And.intro hheld.1.2 (And.intro h1k (And.intro h1h (And.intro h1b hin))))))
    clear hI hx hcell hmem hat hss hheld hm hvx h1k h1h h1b hr0 hin
    gi_wp2
    gi_region
    all_goals
      gi_wp2
      try rw [hW1]
      gi_loopw [23] (fun i wr => ∃ j : Nat, j ≤ x.vs.length ∧ i = .int .i64 j ∧ wr.heap[w.heap.size]? = some (.cells #[.int .i64 ((x.vs.take j).foldl max (max m x.v))] 3 (0, 0)) ∧ But (fun r => r = w.heap.size) W1 wr ∧ Below w.heap.size w wr)
        (fun i _ => x.vs.length - (intOf i).toNat)
      case atStart => exact ⟨0, Nat.zero_le _, rfl, by simpa using HI.out.2.2.2.2.1, But.refl _ _, HI.out.2.2.2.2.2.1⟩
      case round =>
        obtain ⟨j, hj, rfl, hc, hbut, hbel⟩ := hrel
        by_cases hlj : j < x.vs.length
        · have hsp := HI.out.2.2.1.1.2.2.1 (by omega)
          have hcx := (HI.out.2.2.1.2 j hlj).1
          obtain ⟨z, hze⟩ : ∃ z, x.vs[j] = z := ⟨_, rfl⟩
          rw [hze] at hcx
          obtain ⟨bb, off, hvq⟩ : ∃ b off, va = some ⟨b, off, none⟩ := ⟨_, _, by have h := hsp.1; rw [HVA.out] at h; exact h⟩
          subst hvq
          rw [HVA.out] at hcx hsp
          simp only [blk, ofs] at hcx hsp
          have hxz : wr.cell? ⟨bb, off + j, none⟩ = some (.int .i64 z) := (World.cell?_of_block (w := W1) (a := ⟨bb, off + j, none⟩) (hbut.2 bb (by omega) (by omega))).trans ((World.cell?_of_block (w := W) (a := ⟨bb, off + j, none⟩) (HI.out.2.2.2.1 bb (by omega))).trans hcx)
          obtain ⟨a, ha⟩ : ∃ a, (x.vs.take j).foldl max (max m x.v) = a := ⟨_, rfl⟩
          have ha2 : (x.vs.take (j + 1)).foldl max (max m x.v) = max a z := by rw [List.take_add_one, List.getElem?_eq_getElem hlj, hze, List.foldl_append, ha]; rfl
          rw [ha] at hc
          have z0 : wr.cell? ⟨w.heap.size, 0, none⟩ = some (.int .i64 a) := by rw [Lib.cell_of_heap hc]; rfl
          have zf : wr.frozen? ⟨w.heap.size, 0, none⟩ = false := Lib.frozen_of_heap hc _
          have q : decide ((j : Int) < (x.vs.length : Int)) = true := decide_eq_true (by omega)
          have HJ := Lib.hid (And.intro hc (And.intro hbut (And.intro hbel ha2)))
          clear hc hbut hbel ha ha2 hze hcx hsp
          gi_wp2
          refine ⟨⟨j + 1, by omega, by go_num, ?_, HJ.out.2.1.trans (But.setCell _ _ _ _ rfl), HJ.out.2.2.1.setCell (p := ⟨w.heap.size, 0, none⟩) (Nat.le_refl _) _⟩, by simp [intOf]; omega⟩
          rw [HJ.out.2.2.2]
          simp [World.setCell, Array.getElem?_modify, HJ.out.1]
        · obtain rfl : j = x.vs.length := by omega
          have q : decide ((x.vs.length : Int) < (x.vs.length : Int)) = false := decide_eq_false (by omega)
          have HJ := Lib.hid (And.intro hc (And.intro hbut hbel))
          clear hc hbut hbel
          gi_wp2
          obtain ⟨hc, hbut, hbel⟩ := HJ.out
          obtain ⟨hI, hss, -, h1k, -, -, hin⟩ := HI.out
          rw [List.take_length] at hc
          have hbs := hbut.1
          refine ⟨⟨by omega, fun q hq hx => (hbut.2 q (by omega) hx).trans (h1k q hx)⟩, ?_, ?_, hI.2.2.1.keep (by omega) (fun i hi => (hbut.2 i (by omega) (by omega)).trans (h1k i (by omega))) t b o, hbel⟩
          · rw [hss]; exact hc
          · have := hin x.vs.length
            rw [List.take_length] at this
            rw [hss]; exact this
  case done =>
    rintro D W hD hI hK
    have y0 : W.cell? ⟨w.heap.size, 0, none⟩ = some (.int .i64 (topL full full.length)) := by rw [Lib.cell_of_heap hI.1]; rfl
    have htop := HT.out
    have hr := hI.2.1
    rw [hlen] at y0 hr
    obtain ⟨m, hm⟩ : ∃ m, topL full t.size = m := ⟨_, rfl⟩
    rw [hm] at y0 htop hr
    have HM := Lib.hid hm
    clear hm
    have hr1 := hr.1
    have HK := Lib.hid (And.intro hK hI.2.2.2)
    clear hK hI hr
    gi_wp2
    refine ⟨by simp, .inl ⟨_, _, rfl, run_takeDeferred HK.out.1, ?_⟩⟩
    exact ⟨.int .i64 (m + 1), by simp [results, Tryz.results61, go_sem], by rw [HM.out], HK.out.2.trans ⟨rfl, rfl, rfl, by simp, fun k hk => World.putObj_heap_other (by omega)⟩⟩
  case stop => exact fun _ _ _ _ _ _ h => h.elim
end
end Go.Proofs.YthdhdmmlmbkalaaGreatDoor
namespace Go.Proofs.YthdhdmmlmbkalaaGreatDoor
section
open Go.RowKit Go.Maps
attribute [local go_sem] Oper.semAt_some

/-- The map of boxes, and the next variable, behind one more that is bound. -/
def boxV (S : List Int) (lam : Bool) (s : DataW Unit × Int) (v : Int) : DataW Unit × Int :=
  if S.contains v then (if lam then ((s.1.put (.int .i64 v) (.lit (.int .i64 v))).put (.int .i64 v) (.lit (.int .i64 s.2)), s.2 + 1) else (s.1.put (.int .i64 v) (.lit (.int .i64 v)), s.2)) else s
def boxN (S : List Int) (s : DataW Unit × Int) (x : ET) : DataW Unit × Int := (bindE x).foldl (boxV S (x.k == 5)) s
def boxL (S : List Int) (nx : Int) (full : List NodeE) (k : Nat) : DataW Unit × Int := (full.take k).foldl (fun s x => boxN S s x.e) (.map [], nx)
theorem boxL_succ {S : List Int} {nx : Int} {full : List NodeE} {k : Nat} {x : NodeE} (h : full[k]? = some x) : boxL S nx full (k + 1) = boxN S (boxL S nx full k) x.e := by simp [boxL, List.take_add_one, h]
theorem grow_cell {w w1 : World} {o : Obj} {r : Nat} {a : Addr} {v : Value} (h : w.cell? a = some v) (hg : (w.alloc o).grownBy w1 (some r)) (hlt : a.block < w.heap.size) (hne : a.block ≠ r) : w1.cell? a = some v :=
  (World.cell?_of_block ((hg.block a.block (by rw [World.size_alloc]; omega) (fun e => hne (by injection e))).trans (Below.heap_alloc w o _ hlt))).trans h
theorem grow_frozen {w w1 : World} {o : Obj} {r : Nat} {a : Addr} {v : Bool} (h : w.frozen? a = v) (hg : (w.alloc o).grownBy w1 (some r)) (hlt : a.block < w.heap.size) (hne : a.block ≠ r) : w1.frozen? a = v :=
  (World.frozen?_of_block ((hg.block a.block (by rw [World.size_alloc]; omega) (fun e => hne (by injection e))).trans (Below.heap_alloc w o _ hlt))).trans h
theorem grow_cell2 {w w1 : World} {r : Nat} {a : Addr} {v : Value} (h : w.cell? a = some v) (hg : w.grownBy w1 (some r)) (hne : a.block ≠ r) : w1.cell? a = some v := hg.cell h (fun e => hne (by injection e))
def BxAt (W : World) (b n : Nat) (D : DataW Unit) : Prop := W.ownsMap Tryz.prog 3 (plainElem (H := Unit) Tryz.prog 3) b n D
def BxI (M b o g S1 S2 n0 : Nat) (S : List Int) (nx : Int) (root : ET) (full : List NodeE) (w : World) (k : Nat) (W : World) : Prop :=
  W.ownsMap Tryz.prog 3 unitElem g n0 (setD S) ∧ W.heap[S1]? = some (.cells #[.map (some g)] 50 (0, 0)) ∧ BxAt W (S2 + 1) (2 * (keysE full k).length) (boxL S nx full k).1 ∧
  W.heap[S2]? = some (.cells #[.int .i64 (boxL S nx full k).2] 3 (0, 0)) ∧ (0 ≤ (boxL S nx full k).2 ∧ (boxL S nx full k).2 ≤ nx + (keysE full k).length) ∧ W.heap[S2 + 2]? = some (.cells #[.map (some (S2 + 1))] 69 (0, 0)) ∧ LiesE W M root b o ∧ Below w.heap.size w W
theorem BxI.below {M b o g S1 S2 n0 C k : Nat} {S : List Int} {nx : Int} {root : ET} {full : List NodeE} {w A W : World} (hM : M ≤ C) (hg : g < C) (hS1 : S1 < C) (hS2 : S2 + 3 ≤ C) (hw : w.heap.size ≤ C) (h : BxI M b o g S1 S2 n0 S nx root full w k A) (hb : Below C A W) : BxI M b o g S1 S2 n0 S nx root full w k W :=
  ⟨ownsMap_of_block h.1 (hb.block _ (by omega)), (hb.block _ (by omega)).trans h.2.1, ownsMap_of_block h.2.2.1 (hb.block _ (by omega)), (hb.block _ (by omega)).trans h.2.2.2.1, h.2.2.2.2.1, (hb.block _ (by omega)).trans h.2.2.2.2.2.1,
    h.2.2.2.2.2.2.1.keep hb.size (fun i hi => hb.block i (by omega)) _ _ _, h.2.2.2.2.2.2.2.trans (hb.mono (by omega))⟩
set_option maxRecDepth 100000 in
set_option maxHeartbeats 12800000 in
theorem boxesOf_in (M b o n0 : Nat) (S : List Int) (nx : Int) (t : ET) (hs : t.size ≤ 100000) (w : World) (hM : M ≤ w.heap.size) (hL : LiesE w M t b o) (hv : ∀ x ∈ seqE t 1 b o, InR x.e.v) (hnx : 0 ≤ nx ∧ nx ≤ 1000000000000) (hl : (keysE (seqE t 1 b o) t.size).length ≤ 1000000000)
    (hS : Calls Tryz.prog 60 #[.pointer (some ⟨b, o, none⟩)] w fun e w' => e = .returned (.map (some w.heap.size)) ∧ w'.ownsMap Tryz.prog 3 unitElem w.heap.size n0 (setD S) ∧ Below w.heap.size w w')
    (hA : ∀ W, Below w.heap.size w W → Calls Tryz.prog 61 #[.pointer (some ⟨b, o, none⟩)] W fun e w' => e = .returned (.int .i64 nx) ∧ Below W.heap.size W w') :
    CallsIn Fence.wide 5 Tryz.prog 34 #[.pointer (some ⟨b, o, none⟩)] w fun e w' => ∃ B, w.heap.size ≤ B ∧ B < w'.heap.size ∧ e = .returned (.map (some B)) ∧ BxAt w' B (2 * (keysE (seqE t 1 b o) t.size).length) (boxL S nx (seqE t 1 b o) t.size).1 ∧ Below w.heap.size w w' := by
  obtain ⟨full, hfull⟩ : ∃ full, full = seqE t 1 b o := ⟨_, rfl⟩
  have hlen : full.length = t.size := by rw [hfull, seqE_length]
  have hlv : ∀ x ∈ full, ∀ (w' : World) (M : Nat), LiesE w' M t b o → LiesE w' M x.e x.b x.o := fun x hx => (levE t.size t (Nat.le_refl _) 1 b o x (hfull ▸ hx)).2.2
  have hruns := fun bd M b o root X w h1 h2 h3 h4 h5 => toldE_runs 4 bd M b o root X w h1 h2 h3 h4 h5
  rw [← hfull] at hv hl ⊢
  have hbM : b < M := (liesE_held.1 hL).1
  have HF := Lib.hid (And.intro hv (And.intro hlv (And.intro hruns (And.intro hfull hL))))
  have HC := Lib.hid (And.intro hS hA)
  clear hv hlv hruns hfull hL hS hA
  have hmm := @run_makeMap Tryz.prog
  refine callsIn_of_wp_marks Tryz.func34 rfl trivial ?_ rfl
  simp only [Tryz.ntmps34, List.size_toArray, List.length_cons, List.length_nil, Nat.reduceAdd, Nat.reduceSub, Array.replicate_succ, Array.replicate_zero, List.push_toArray, List.append_toArray, List.nil_append, List.cons_append]
  gi_wp2
  refine ⟨trivial, (callsIn_wide.2 HC.out.1).mono ?_⟩
  rintro e w1 ⟨rfl, hSo, hb1⟩
  have hgl : w.heap.size < w1.heap.size := by obtain ⟨es, c, he, -⟩ := hSo; exact (Array.getElem?_eq_some_iff.1 he).1
  obtain ⟨w1a, hw1a⟩ : ∃ w1a, w1.alloc (.cells #[.map (some w.heap.size)] 50) = w1a := ⟨_, rfl⟩
  have hz1a : w1a.heap.size = w1.heap.size + 1 := by rw [← hw1a, World.size_alloc]
  have hb1a : Below w1.heap.size w1 w1a := by rw [← hw1a]; exact (Below.refl _ w1).alloc (Nat.le_refl _) _
  have c1a : w1a.heap[w1.heap.size]? = some (.cells #[.map (some w.heap.size)] 50 (0, 0)) := by rw [← hw1a]; exact World.alloc_heap_new _ _
  have hbw1a : Below w.heap.size w w1a := hb1.trans (hb1a.mono (by omega))
  have H1 := Lib.hid (And.intro hSo (And.intro hw1a (And.intro hb1a (And.intro c1a (And.intro hbw1a (HC.out.2 w1a hbw1a))))))
  have hz1 := hb1.size
  clear hSo hw1a hb1a c1a hbw1a hb1
  gi_wp2
  rw [H1.out.2.1]
  refine ⟨trivial, (callsIn_wide.2 H1.out.2.2.2.2.2).mono ?_⟩
  rintro e w2 ⟨rfl, hb2⟩
  have hz2 := hb2.size
  obtain ⟨w3, hw3, a0, a1, a2, a3, hz3, hb3⟩ := four4y w2 (.cells #[.int .i64 nx] 3) (.map #[] 0) (.cells #[.map (some (w2.heap.size + 1))] 69) (.cells #[.pointer (some ⟨b, o, none⟩)] 46)
  have hb12 : Below w1a.heap.size w1a w3 := hb2.trans (hb3.mono hz2)
  have hbw3 : Below w.heap.size w w3 := H1.out.2.2.2.2.1.trans (hb12.mono (by omega))
  have hL3 : LiesE w3 M t b o := HF.out.2.2.2.2.keep hbw3.size (fun i hi => hbw3.block i (by omega)) _ _ _
  have hI3 : BxI M b o w.heap.size w1.heap.size w2.heap.size n0 S nx t full w 0 w3 := ⟨ownsMap_of_block H1.out.1 ((hb12.block _ (by omega)).trans (H1.out.2.2.1.block _ hgl)), (hb12.block _ (by omega)).trans H1.out.2.2.2.1, ⟨#[], 0, a1, ⟨by simp, Go.MapKept.stamped_empty 0, by simp⟩, Nat.zero_le _, rfl⟩, a0, (by simp [boxL]; omega), a2, hL3, hbw3⟩
  have hbd3 : w3.cell? ⟨w2.heap.size + 3, 0, none⟩ = some (.pointer (some ⟨b, o, none⟩)) := by rw [Lib.cell_of_heap a3]; rfl
  have hruns := HF.out.2.2.1 (w2.heap.size + 3) M b o t (fun r => (r = w2.heap.size ∨ r = w2.heap.size + 1) ∨ r = w3.heap.size + 1) w3 (fun r hr => by rcases hr with (rfl | rfl) | rfl <;> omega) hbd3 (by omega) hL3 (by omega)
  rw [← HF.out.2.2.2.1] at hruns
  have H3 := Lib.hid (And.intro hI3 (And.intro (show ((((w2.alloc (.cells #[.int .i64 nx] 3)).alloc (.map #[] 0)).alloc (.cells #[.map (some (w2.heap.size + 1))] 69)).alloc (.cells #[.pointer (some ⟨b, o, none⟩)] 46)) = w3 from hw3.symm) hruns))
  clear hI3 hw3 hruns hbd3 a0 a1 a2 a3 hb3 hb12 hbw3 hL3 hb2
  gi_wp2
  refine ⟨trivial, (callsIn_wide.2 (toldE_any _ _)).mono ?_⟩
  rintro e w' ⟨rfl, rfl⟩
  gi_wp2
  rw [H3.out.2.1]
  refine wpIn_runs (X := fun r => r = w2.heap.size ∨ r = w2.heap.size + 1) (w0 := w3) rfl (by decide) (gf := 47) (lb := #[.pointer (some ⟨w2.heap.size + 1 + 1 + 1, 0, none⟩)]) rfl trivial (enters_of Tryz.func47 (by kernel_rfl) rfl)
    H3.out.2.2 (fun r hr => by omega) (Below.refl _ _) (fun k => rfl) (fun k W => BxI M b o w.heap.size w1.heap.size w2.heap.size n0 S nx t full w k W) (fun _ _ _ => False)
    (fun k A B hAB h => h.below (by omega) (by omega) (by omega) (by omega) (by omega) hAB) (fun _ _ _ _ _ h => h) H3.out.1
    (fun k => { tmps := #[.pointer (some ⟨b, o, none⟩), undef, .map none, .pointer (some ⟨w1.heap.size, 0, none⟩), .pointer (some ⟨w2.heap.size, 0, none⟩), .pointer (some ⟨w2.heap.size + 1 + 1, 0, none⟩), undef, .pointer (some ⟨(ndE full k).b, (ndE full k).o, none⟩), undef, undef, undef, undef, undef, undef, .pointer (some ⟨b, o, none⟩), .map (some w.heap.size), .pointer (some ⟨b, o, none⟩), .int .i64 nx, .map (some (w2.heap.size + 1)), .pointer (some ⟨b, o, none⟩), .func (.func 47) #[] #[.pointer (some ⟨w2.heap.size + 1 + 1 + 1, 0, none⟩)], .int .i64 ((ndE full k).lev : Nat), .pointer (some ⟨(ndE full k).b, (ndE full k).o, none⟩), undef, undef, undef, undef, undef, undef, undef, undef, undef, undef, undef, undef, undef, undef, undef, undef, undef, undef, undef, undef, undef, undef, undef, undef, undef, undef, undef, undef, undef, undef, undef, undef, undef, undef], defers := [] })
    ?assign ?body ?done ?stop
  case assign =>
    intro l k W K _ hK
    simp only [toldE]
    gi_wp2
    exact hK
  case body =>
    rintro l k W hkN hI
    obtain ⟨⟨lv, xb, xo, x⟩, hat⟩ : ∃ x, full[k]? = some x := ⟨full[k], List.getElem?_eq_getElem hkN⟩
    have hmem := List.mem_of_getElem? hat
    have hx := HF.out.2.1 _ hmem W M hI.2.2.2.2.2.2.1
    have hvx := HF.out.1 _ hmem
    have hks := keysE_succ hat
    have hkl := keysE_le full (k + 1)
    have hbs := boxL_succ (S := S) (nx := nx) hat
    simp only [ndE_eq hat]
    simp only at hx hvx hks hbs
    have hkle : (keysE full (k + 1)).length ≤ 1000000000 := by
      have : keysE full t.size = full.flatMap fun x => bindE x.e := by rw [← hlen, keysE, List.take_length]
      rw [← this] at hkl
      omega
    obtain ⟨hxb, hcell, hheld⟩ := liesE_held.1 hx
    have hltW := (Array.getElem?_eq_some_iff.1 hI.2.2.2.2.2.1).1
    have hbi := binds_any M xb xo x W (by omega) hcell hheld.1.2 hvx
    have c0 : W.cell? ⟨xb, xo, none⟩ = some (.int .i64 x.k) := hcell 0 _ rfl
    have HI := Lib.hid (And.intro hI (And.intro hks (And.intro hbs hbi)))
    clear hI hx hmem hat hks hbs hbi hcell hheld hkl
    gi_wp2
    refine ⟨trivial, ?_⟩
    refine ((callsIn_wide.2 HI.out.2.2.2).inRound l).mono ?_
    rintro e W3 hbp
    obtain ⟨va, vc, rfl, hml, hva, hvs, b3⟩ := binds_use hbp (by omega)
    have hz3 := b3.size
    obtain ⟨hI, hks, hbs, -⟩ := HI.out
    have hI3 := hI.below (C := W.heap.size) (by omega) (by omega) (by omega) (by omega) (by omega) b3
    have c03 : W3.cell? ⟨xb, xo, none⟩ = some (.int .i64 x.k) := (b3.cell (p := ⟨xb, xo, none⟩) (by show xb < W.heap.size; omega)).trans c0
    have hlen2 := congrArg List.length hks
    rw [List.length_append] at hlen2
    have hbs2 : boxL S nx full (k + 1) = (bindE x).foldl (boxV S (x.k == 5)) (boxL S nx full k) := hbs
    generalize bindE x = vs at hml hva hvs hks hlen2 hbs2
    obtain ⟨s0, hs0⟩ : ∃ s0, boxL S nx full k = s0 := ⟨_, rfl⟩
    obtain ⟨n1, hn1⟩ : ∃ n1, (keysE full k).length = n1 := ⟨_, rfl⟩
    have hBx := hI3.2.2.1
    have hCx := hI3.2.2.2.1
    have hNx := hI3.2.2.2.2.1
    rw [hs0] at hbs2 hBx hCx hNx
    rw [hn1] at hlen2 hBx hNx
    have H4 := Lib.hid (And.intro hI3 (And.intro hbs2 (And.intro hva (And.intro hvs (And.intro c03 (And.intro b3 hI3.2.2.2.2.2.2.2))))))
    have H5 := Lib.hid (And.intro hBx (And.intro hCx hNx))
    clear hI hks hbs hI3 hbs2 hva hvs c03 hBx hCx hNx hbp b3 c0 hs0 HI
    gi_wp2
    gi_loopw [30] (fun i wr => ∃ j : Nat, j ≤ vs.length ∧ i = .int .i64 j ∧ BxAt wr (w2.heap.size + 1) (2 * (n1 + j)) ((vs.take j).foldl (boxV S (x.k == 5)) s0).1 ∧ wr.heap[w2.heap.size]? = some (.cells #[.int .i64 ((vs.take j).foldl (boxV S (x.k == 5)) s0).2] 3 (0, 0)) ∧
        (0 ≤ ((vs.take j).foldl (boxV S (x.k == 5)) s0).2 ∧ ((vs.take j).foldl (boxV S (x.k == 5)) s0).2 ≤ nx + (n1 + j : Nat)) ∧ But (fun r => r = w2.heap.size ∨ r = w2.heap.size + 1) W3 wr ∧ Below w.heap.size w wr)
      (fun i _ => vs.length - (intOf i).toNat)
    case atStart => exact ⟨0, Nat.zero_le _, rfl, H5.out.1, H5.out.2.1, H5.out.2.2, But.refl _ _, H4.out.2.2.2.2.2.2⟩
    case round =>
      obtain ⟨j, hj, rfl, hBr, hCr, hNr, hbut, hbel⟩ := hrel
      have hzr := hbut.1
      by_cases hlt : j < vs.length
      · obtain ⟨hva1, hva2, hva3⟩ := H4.out.2.2.1 (by omega)
        have hcx := H4.out.2.2.2.1 j hlt
        obtain ⟨z, hze⟩ : ∃ z, vs[j] = z := ⟨_, rfl⟩
        rw [hze] at hcx
        obtain ⟨bb, off, hvq⟩ : ∃ b off, va = some ⟨b, off, none⟩ := ⟨_, _, hva1⟩
        subst hvq
        have hstep : (vs.take (j + 1)).foldl (boxV S (x.k == 5)) s0 = boxV S (x.k == 5) ((vs.take j).foldl (boxV S (x.k == 5)) s0) z := by rw [List.take_add_one, List.getElem?_eq_getElem hlt, hze, List.foldl_append]; rfl
        obtain ⟨s, hs⟩ : ∃ s, (vs.take j).foldl (boxV S (x.k == 5)) s0 = s := ⟨_, rfl⟩
        rw [hs] at hBr hCr hNr hstep
        obtain ⟨D, y⟩ := s
        simp only at hBr hCr hNr
        have hkk : ∀ q, q < W3.heap.size → q ≠ w2.heap.size → q ≠ w2.heap.size + 1 → wr.heap[q]? = W3.heap[q]? := fun q hq h1 h2 => hbut.2 q hq (fun h => by omega)
        have hcz : wr.cell? ⟨bb, off + j, none⟩ = some (.int .i64 z) := (World.cell?_of_block (w := W3) (a := ⟨bb, off + j, none⟩) (hkk bb hva2 (by simp only [blk] at hva3; omega) (by simp only [blk] at hva3; omega))).trans hcx.1
        have hSr : wr.ownsMap Tryz.prog 3 unitElem w.heap.size n0 (setD S) := ownsMap_of_block H4.out.1.1 (hkk _ (by omega) (by omega) (by omega))
        have v0 : wr.cell? ⟨w1.heap.size, 0, none⟩ = some (.map (some w.heap.size)) := by rw [Lib.cell_of_heap ((hkk w1.heap.size (by omega) (by omega) (by omega)).trans H4.out.1.2.1)]; rfl
        have v1 : wr.cell? ⟨w2.heap.size + 1 + 1, 0, none⟩ = some (.map (some (w2.heap.size + 1))) := by rw [Lib.cell_of_heap ((hkk (w2.heap.size + 2) (by omega) (by omega) (by omega)).trans H4.out.1.2.2.2.2.2.1)]; rfl
        have v2 : wr.cell? ⟨xb, xo, none⟩ = some (.int .i64 x.k) := (World.cell?_of_block (w := W3) (a := ⟨xb, xo, none⟩) (hkk xb (by omega) (by omega) (by omega))).trans H4.out.2.2.2.2.1
        have v3 : wr.cell? ⟨w2.heap.size, 0, none⟩ = some (.int .i64 y) := by rw [Lib.cell_of_heap hCr]; rfl
        have v3f : wr.frozen? ⟨w2.heap.size, 0, none⟩ = false := Lib.frozen_of_heap hCr _
        have hkey : keyOf Tryz.prog 3 (.int .i64 z) = some (.int .i64 z) := keyOf_int_mk Tryz.underlying3 (WalkArith.wf_i64 (by omega))
        have hzr : -9223372036854775808 ≤ z ∧ z ≤ 9223372036854775807 := hcx.2
        have q : decide ((j : Int) < (vs.length : Int)) = true := decide_eq_true (by omega)
        have hb1 : w1.heap.size < wr.heap.size := by omega
        have hb2 : w2.heap.size + 1 + 1 < wr.heap.size := by omega
        have hb2' : w2.heap.size < wr.heap.size := by omega
        have hbx : xb < wr.heap.size := by omega
        have HJ := Lib.hid (And.intro hstep (And.intro hbut (And.intro hbel (And.intro hCr hNr))))
        clear hstep hbut hbel hCr hva1 hva2 hva3 hcx hze hs hkk
        by_cases hc : S.contains z = true
        · have hhas : Maps.has (setD S) (.int .i64 z) = true := by rw [setD_has]; exact hc
          by_cases h5 : x.k = 5
          · have q5 : (x.k == 5) = true := beq_iff_eq.2 h5
            gi_wp2_with (first
              | (gi_at_lookup; refine wpListIn_lookup_own_unit _ rfl _ _ 50 rfl 3 56 keyI Tryz.underlying50 (zeroU _) w.heap.size _ _ rfl hSr _ _ rfl hkey ?_)
              | (gi_at_mapUpdate; refine wpListIn_mapUpdate_own _ rfl _ _ _ 69 rfl 3 3 keyI Tryz.underlying69 (plainElem (H := Unit) Tryz.prog 3) (w2.heap.size + 1) _ _ rfl (World.ownsMap.alloc hBr _) (by unfold maxLen; omega) _ _ _ rfl rfl hkey _ [] (plainElem_int Tryz.underlying3 (WalkArith.wf_i64 hzr)) ?_; intro w4 hown1 hgrow1; have u1 := grow_cell v1 hgrow1 hb2 (by show w2.heap.size + 1 + 1 ≠ w2.heap.size + 1; omega); have u2 := grow_cell v2 hgrow1 hbx (by show xb ≠ w2.heap.size + 1; omega); have u3 := grow_cell v3 hgrow1 hb2' (by show w2.heap.size ≠ w2.heap.size + 1; omega); have u3f := grow_frozen v3f hgrow1 hb2' (by show w2.heap.size ≠ w2.heap.size + 1; omega))
              | (gi_at_mapUpdate; refine wpListIn_mapUpdate_own _ rfl _ _ _ 69 rfl 3 3 keyI Tryz.underlying69 (plainElem (H := Unit) Tryz.prog 3) (w2.heap.size + 1) _ _ rfl hown1 (by unfold maxLen; omega) _ _ _ rfl rfl hkey _ [] (plainElem_int Tryz.underlying3 (WalkArith.wf_i64 (by omega))) ?_; intro w5 hown2 hgrow2; have t3 := grow_cell2 u3 hgrow2 (by show w2.heap.size ≠ w2.heap.size + 1; omega); have t3f := (World.frozen?_of_block (hgrow2.block w2.heap.size (World.block_lt_of_cell? _ _ u3) (fun e => by injection e with e; omega))).trans u3f))
            obtain ⟨hstep, hbut, hbel, hCr, hNr⟩ := HJ.out
            have hg1 := hgrow1.size
            have hg2 := hgrow2.size
            have hsa : (wr.alloc (Obj.cells #[] 56)).heap.size = wr.heap.size + 1 := World.size_alloc ..
            have hst : boxV S (x.k == 5) (D, y) z = ((D.put (.int .i64 z) (.lit (.int .i64 z))).put (.int .i64 z) (.lit (.int .i64 y)), y + 1) := by simp only [boxV, hc, h5, if_true]; rfl
            rw [hst] at hstep
            have hkf : ∀ q, q < wr.heap.size → q ≠ w2.heap.size + 1 → w5.heap[q]? = wr.heap[q]? := fun q hq h => (hgrow2.block q (by omega) (fun e => h (by injection e))).trans ((hgrow1.block q (by omega) (fun e => h (by injection e))).trans (Below.heap_alloc wr _ q hq))
            have hb5 : Below w.heap.size w w5 := ((hbel.alloc hbel.size _).grown hgrow1 (by have := hbel.size; omega) (fun q hq => by cases hq; omega)).grown hgrow2 (by have := hbel.size; omega) (fun q hq => by cases hq; omega)
            refine ⟨⟨j + 1, by omega, by go_num, ?_, ?_, ?_, ?_, hb5.setCell (p := ⟨w2.heap.size, 0, none⟩) (by show w.heap.size ≤ w2.heap.size; omega) _⟩, by simp [intOf]; omega⟩
            · rw [hstep]
              exact ownsMap_of_block (World.ownsMap.mono hown2 (by omega)) (Below.heap_setCell _ _ _ _ (by show w2.heap.size + 1 ≠ w2.heap.size; omega))
            · rw [hstep]
              have := (hkf w2.heap.size hb2' (by omega)).trans hCr
              simp [World.setCell, Array.getElem?_modify, this]
            · rw [hstep]
              simp only
              omega
            · exact ⟨by rw [setCell_size]; have := hbut.1; omega, fun q hq hx => (Below.heap_setCell _ _ _ _ (by show q ≠ w2.heap.size; exact fun e => hx (.inl e))).trans ((hkf q (by omega) (fun e => hx (.inr e))).trans (hbut.2 q hq hx))⟩
          · have q5 : (x.k == 5) = false := beq_eq_false_iff_ne.2 h5
            gi_wp2_with (first
              | (gi_at_lookup; refine wpListIn_lookup_own_unit _ rfl _ _ 50 rfl 3 56 keyI Tryz.underlying50 (zeroU _) w.heap.size _ _ rfl hSr _ _ rfl hkey ?_)
              | (gi_at_mapUpdate; refine wpListIn_mapUpdate_own _ rfl _ _ _ 69 rfl 3 3 keyI Tryz.underlying69 (plainElem (H := Unit) Tryz.prog 3) (w2.heap.size + 1) _ _ rfl (World.ownsMap.alloc hBr _) (by unfold maxLen; omega) _ _ _ rfl rfl hkey _ [] (plainElem_int Tryz.underlying3 (WalkArith.wf_i64 hzr)) ?_; intro w4 hown1 hgrow1; have u1 := grow_cell v1 hgrow1 hb2 (by show w2.heap.size + 1 + 1 ≠ w2.heap.size + 1; omega); have u2 := grow_cell v2 hgrow1 hbx (by show xb ≠ w2.heap.size + 1; omega); have u3 := grow_cell v3 hgrow1 hb2' (by show w2.heap.size ≠ w2.heap.size + 1; omega); have u3f := grow_frozen v3f hgrow1 hb2' (by show w2.heap.size ≠ w2.heap.size + 1; omega)))
            obtain ⟨hstep, hbut, hbel, hCr, hNr⟩ := HJ.out
            have hg1 := hgrow1.size
            have hsa : (wr.alloc (Obj.cells #[] 56)).heap.size = wr.heap.size + 1 := World.size_alloc ..
            have hst : boxV S (x.k == 5) (D, y) z = (D.put (.int .i64 z) (.lit (.int .i64 z)), y) := by simp only [boxV, hc, q5, if_true]; rfl
            rw [hst] at hstep
            have hkf : ∀ q, q < wr.heap.size → q ≠ w2.heap.size + 1 → w4.heap[q]? = wr.heap[q]? := fun q hq h => (hgrow1.block q (by omega) (fun e => h (by injection e))).trans (Below.heap_alloc wr _ q hq)
            have hb5 : Below w.heap.size w w4 := (hbel.alloc hbel.size _).grown hgrow1 (by have := hbel.size; omega) (fun q hq => by cases hq; omega)
            refine ⟨⟨j + 1, by omega, by go_num, ?_, ?_, ?_, ?_, hb5⟩, by simp [intOf]; omega⟩
            · rw [hstep]
              exact World.ownsMap.mono hown1 (by omega)
            · rw [hstep]
              exact (hkf w2.heap.size hb2' (by omega)).trans hCr
            · rw [hstep]
              simp only
              omega
            · exact ⟨by have := hbut.1; omega, fun q hq hx => (hkf q (by omega) (fun e => hx (.inr e))).trans (hbut.2 q hq hx)⟩
        · have hhas : Maps.has (setD S) (.int .i64 z) = false := by rw [setD_has]; exact Bool.eq_false_iff.2 hc
          gi_wp2_with (first
            | (gi_at_lookup; refine wpListIn_lookup_own_unit _ rfl _ _ 50 rfl 3 56 keyI Tryz.underlying50 (zeroU _) w.heap.size _ _ rfl hSr _ _ rfl hkey ?_))
          obtain ⟨hstep, hbut, hbel, hCr, hNr⟩ := HJ.out
          have hst : boxV S (x.k == 5) (D, y) z = (D, y) := by simp only [boxV]; rw [if_neg hc]
          rw [hst] at hstep
          have hsa : (wr.alloc (Obj.cells #[] 56)).heap.size = wr.heap.size + 1 := World.size_alloc ..
          refine ⟨⟨j + 1, by omega, by go_num, ?_, ?_, ?_, ?_, hbel.alloc hbel.size _⟩, by simp [intOf]; omega⟩
          · rw [hstep]
            exact World.ownsMap.mono (World.ownsMap.alloc hBr _) (by omega)
          · rw [hstep]
            exact (Below.heap_alloc wr _ _ hb2').trans hCr
          · rw [hstep]
            simp only
            omega
          · exact ⟨by have := hbut.1; omega, fun q hq hx => (Below.heap_alloc wr _ q (by have := hbut.1; omega)).trans (hbut.2 q hq hx)⟩
      · obtain rfl : j = vs.length := by omega
        have q : decide ((vs.length : Int) < (vs.length : Int)) = false := decide_eq_false (by omega)
        have HJ := Lib.hid (And.intro hBr (And.intro hCr (And.intro hNr (And.intro hbut hbel))))
        clear hBr hCr hNr hbut hbel
        gi_wp2
        obtain ⟨hBr, hCr, hNr, hbut, hbel⟩ := HJ.out
        rw [List.take_length, ← H4.out.2.1] at hBr hCr hNr
        have hI3 := H4.out.1
        rw [← hlen2] at hBr hNr
        exact ⟨(But.below (But.refl _ W) H4.out.2.2.2.2.2.1 (Nat.le_refl _)).trans hbut, ownsMap_of_block hI3.1 (hbut.2 _ (by omega) (by omega)), (hbut.2 _ (by omega) (by omega)).trans hI3.2.1, hBr, hCr, hNr, (hbut.2 _ (by omega) (by omega)).trans hI3.2.2.2.2.2.1, hI3.2.2.2.2.2.2.1.keep hbut.1 (fun i hi => hbut.2 i (by omega) (by omega)) t b o, hbel⟩
  case done =>
    rintro D W hD hI hK
    have hlt := (Array.getElem?_eq_some_iff.1 hI.2.2.2.2.2.1).1
    have y0 : W.cell? ⟨w2.heap.size + 1 + 1, 0, none⟩ = some (.map (some (w2.heap.size + 1))) := by rw [Lib.cell_of_heap hI.2.2.2.2.2.1]; rfl
    rw [hlen] at hI
    have HK := Lib.hid (And.intro hK hI)
    clear hK hI
    gi_wp2
    refine ⟨by simp, .inl ⟨_, _, rfl, run_takeDeferred HK.out.1, ?_⟩⟩
    exact ⟨.map (some (w2.heap.size + 1)), by simp [results, Tryz.results34, go_sem], w2.heap.size + 1, by omega, by simp; omega, rfl, ownsMap_of_block HK.out.2.2.2.1 (World.putObj_heap_other (by omega)), HK.out.2.2.2.2.2.2.2.2.trans ⟨rfl, rfl, rfl, by simp, fun k hk => World.putObj_heap_other (by omega)⟩⟩
  case stop => exact fun _ _ _ _ _ _ h => h.elim
end
end Go.Proofs.YthdhdmmlmbkalaaGreatDoor
