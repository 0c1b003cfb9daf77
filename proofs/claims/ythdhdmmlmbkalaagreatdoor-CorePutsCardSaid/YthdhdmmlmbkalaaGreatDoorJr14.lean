/-
  A short expression, whose numbers are not too long, is one that is copied and looked at whole. datum.Good says true, if its goodAlone does of each datum; of the zero datum. core.isVariable, areVariables, Arity, isZero, goodAlone: of expressions that are good by themselves. core.binds: the variables that an expression binds, and in which of its Kids.
-/
import Derived.Test.YthdhdmmlmbkalaaGreatDoorJr5
import Derived.Test.YthdhdmmlmbkalaaGreatDoorJr9
import Derived.Test.YthdhdmmlmbkalaaGreatDoorJr3
import Derived.Test.YthdhdmmlmbkalaaGreatDoorJr6
import Derived.Test.YthdhdmmlmbkalaaGreatDoorJr7
import Derived.Deep.RegionLaw
import Derived.TacticsInMore
import Derived.LoopIn
import Derived.LoopTactic
import Derived.Test.YthdhdmmlmbkalaaGreatDoorJr10
set_option linter.unusedVariables false
set_option linter.unusedSimpArgs false
set_option linter.unusedSectionVars false
set_option linter.unnecessarySimpa false
namespace Go.Proofs.YthdhdmmlmbkalaaGreatDoor
section
open Go.RowKit

mutual
/-- The numbers of its data are not too long. -/
def TamesE : ET → Prop
  | .mk _ d _ _ _ _ _ _ _ _ kids => Tame d ∧ TamesER kids
def TamesER : List ET → Prop
  | [] => True
  | e :: l => TamesE e ∧ TamesER l
end
mutual
theorem tameE_of_short : ∀ t : ET, shortE t = true → TamesE t → TameE t
  | .mk k d v va vc vs rs p ka kc kids, h, hT => by
    rw [shortE_eq] at h
    simp only [Bool.and_eq_true] at h
    have h30 : vs.length ≤ 30 := of_decide_eq_true h.1.1
    have hbu : 0 ≤ budT d 100 30 := of_decide_eq_true h.1.2
    simp only [TamesE] at hT
    have hf := budT_few d 100 30 (by decide) hbu
    have hr := tameER_of_short kids h.2 hT.2
    simp only [TameE]
    refine ⟨⟨hT.1, ?_, ?_⟩, by omega, hr⟩ <;> omega
theorem tameER_of_short : ∀ l : List ET, shortER l = true → TamesER l → TameER l
  | [], _, _ => by simp [TameER]
  | e :: l, h, hT => by
    rw [shortER_cons, Bool.and_eq_true] at h
    simp only [TamesER] at hT
    simp only [TameER]
    exact ⟨tameE_of_short e h.1 hT.1, tameER_of_short l h.2 hT.2⟩
end
end
end Go.Proofs.YthdhdmmlmbkalaaGreatDoor
namespace Go.Proofs.YthdhdmmlmbkalaaGreatDoor
section
open Go.RowKit
attribute [local go_sem] Oper.semAt_some

theorem maxL_at8 {full : List Node} {k : Nat} {x : Node} (h : full[k]? = some x) : x.lev ≤ maxL full := by
  induction full generalizing k with
  | nil => simp at h
  | cons y l ih =>
    cases k with
    | zero => simp at h; rw [h]; simp only [maxL]; omega
    | succ k => have := ih (by simpa using h); simp only [maxL]; omega
theorem four4y (w : World) (A B C D : Obj) : ∃ w4, w4 = (((w.alloc A).alloc B).alloc C).alloc D ∧ w4.heap[w.heap.size]? = some A ∧ w4.heap[w.heap.size + 1]? = some B ∧ w4.heap[w.heap.size + 2]? = some C ∧ w4.heap[w.heap.size + 3]? = some D ∧ w4.heap.size = w.heap.size + 4 ∧ Below w.heap.size w w4 := by
  have s1 : (w.alloc A).heap.size = w.heap.size + 1 := World.size_alloc ..
  have s2 : ((w.alloc A).alloc B).heap.size = w.heap.size + 2 := by rw [World.size_alloc, s1]
  have s3 : (((w.alloc A).alloc B).alloc C).heap.size = w.heap.size + 3 := by rw [World.size_alloc, s2]
  have s4 : ((((w.alloc A).alloc B).alloc C).alloc D).heap.size = w.heap.size + 4 := by rw [World.size_alloc, s3]
  have nB : ((w.alloc A).alloc B).heap[w.heap.size + 1]? = some B := by have := World.alloc_heap_new (w.alloc A) B; rwa [s1] at this
  have nC : (((w.alloc A).alloc B).alloc C).heap[w.heap.size + 2]? = some C := by have := World.alloc_heap_new ((w.alloc A).alloc B) C; rwa [s2] at this
  have nD : ((((w.alloc A).alloc B).alloc C).alloc D).heap[w.heap.size + 3]? = some D := by have := World.alloc_heap_new (((w.alloc A).alloc B).alloc C) D; rwa [s3] at this
  refine ⟨_, rfl, ?_, ?_, ?_, nD, s4, ((((Below.refl w.heap.size w).alloc (Nat.le_refl _) _).alloc (by omega) _).alloc (by omega) _).alloc (by omega) _⟩
  · exact (Below.heap_alloc _ _ _ (by omega)).trans ((Below.heap_alloc _ _ _ (by omega)).trans ((Below.heap_alloc _ _ _ (by omega)).trans (World.alloc_heap_new w A)))
  · exact (Below.heap_alloc _ _ _ (by omega)).trans ((Below.heap_alloc _ _ _ (by omega)).trans nB)
  · exact (Below.heap_alloc _ _ _ (by omega)).trans nC
def GyI (M b B : Nat) (root : LT) (full : List Node) (w : World) (k : Nat) (W : World) : Prop :=
  W.heap[B + 1]? = some (.cells #[.bool false] 4 (0, 0)) ∧ W.heap[B + 2]? = some (.cells #[.int .i64 (k : Nat)] 3 (0, 0)) ∧ Lies W M root b 0 ∧ Below B w W
theorem GyI.below {M b B C k : Nat} {root : LT} {full : List Node} {w A W : World} (hM : M ≤ C) (hC : B + 3 ≤ C) (h : GyI M b B root full w k A) (hb : Below C A W) : GyI M b B root full w k W :=
  ⟨(hb.block _ (by omega)).trans h.1, (hb.block _ (by omega)).trans h.2.1, h.2.2.1.keep hb.size (fun i hi => hb.block i (by omega)) _ _ _, h.2.2.2.trans (hb.mono (by omega))⟩
set_option maxRecDepth 100000 in
set_option maxHeartbeats 6400000 in
theorem goodY_in (M : Nat) (t : LT) (h1 : t.size ≤ 5000) (h2 : t.depth ≤ 200) (w : World) (hM : M ≤ w.heap.size) (hH : Held w M t)
    (hA : ∀ x ∈ seqT t 1 w.heap.size 0, ∀ W, w.heap.size + 1 ≤ W.heap.size → Held W (w.heap.size + 1) x.t → Calls Tryz.prog 72 #[.agg #[.int .i64 x.t.k, .bool x.t.g, .slice x.t.la x.t.ln x.t.lc, .bool x.t.bb, .string x.t.s, .slice x.t.ia x.t.items.length x.t.ic, .slice x.t.ta x.t.tail.length x.t.tc]] W fun e W' => e = .returned (.bool true) ∧ Below W.heap.size W W') :
    CallsIn Fence.wide 5 Tryz.prog 48 #[.agg #[.int .i64 t.k, .bool t.g, .slice t.la t.ln t.lc, .bool t.bb, .string t.s, .slice t.ia t.items.length t.ic, .slice t.ta t.tail.length t.tc]] w fun e w' => e = .returned (.bool true) ∧ Below w.heap.size w w' := by
  obtain ⟨W0, hW0, a0, a1, a2, a3, hz0, hb0⟩ := four4y w (Obj.cells #[.int .i64 t.k, .bool t.g, .slice t.la t.ln t.lc, .bool t.bb, .string t.s, .slice t.ia t.items.length t.ic, .slice t.ta t.tail.length t.tc] 27) (.cells #[.bool false] 4) (.cells #[.int .i64 0] 3) (.cells #[.pointer (some ⟨w.heap.size, 0, none⟩)] 107)
  obtain ⟨full, hfull⟩ : ∃ full, full = seqT t 1 w.heap.size 0 := ⟨_, rfl⟩
  have hlen : full.length = t.size := by rw [hfull, seqT_length]
  have hmx : maxL full ≤ 200 := by have := seqT_max t 1 w.heap.size 0; rw [← hfull] at this; omega
  rw [← hfull] at hA
  have hL0 : Lies W0 (w.heap.size + 1) t w.heap.size 0 := lies_held.2 ⟨by omega, fun j v hj => by rw [Lib.cell_of_heap a0, Nat.zero_add, List.getElem?_toArray]; exact hj, (hH.keep hb0.size fun q hq => hb0.block q (by omega)).upP (by omega)⟩
  have hl0 : ∀ W, Lies W (w.heap.size + 1) t w.heap.size 0 → ∀ x ∈ full, Lies W (w.heap.size + 1) x.t x.b x.o ∧ 1 ≤ x.lev ∧ x.lev + x.t.size ≤ 1 + t.size := fun W h => hfull ▸ seqT_lies t 1 w.heap.size 0 h
  have hbd0 : W0.cell? ⟨w.heap.size + 3, 0, none⟩ = some (.pointer (some ⟨w.heap.size, 0, none⟩)) := by rw [Lib.cell_of_heap a3]; rfl
  have hruns := told_runs 4 (w.heap.size + 3) (w.heap.size + 1) w.heap.size 0 t (fun r => (r = w.heap.size + 1 + 1 ∨ r = w.heap.size + 1) ∨ r = W0.heap.size + 1) W0 (fun r hr => by rcases hr with (rfl | rfl) | rfl <;> omega) hbd0 (by omega) hL0 (by omega)
  rw [← hfull] at hruns
  have hI0 : GyI (w.heap.size + 1) w.heap.size w.heap.size t full w 0 W0 := ⟨a1, a2, hL0, hb0⟩
  have HF := Lib.hid (And.intro hl0 (And.intro hA hmx))
  have HW := Lib.hid (And.intro hW0 (And.intro hruns hI0))
  clear hM hH hW0 a0 a1 a2 a3 hb0 hfull hmx hA hL0 hl0 hbd0 hruns hI0
  refine callsIn_of_wp_marks Tryz.func48 rfl trivial ?_ rfl
  simp only [Tryz.ntmps48, List.size_toArray, List.length_cons, List.length_nil, Nat.reduceAdd, Nat.reduceSub, Array.replicate_succ, Array.replicate_zero, List.push_toArray, List.append_toArray, List.nil_append, List.cons_append]
  gi_wp2_with (refine ⟨trivial, ?_⟩; gi_at_call 71; refine (callsIn_wide.2 (told_any _ _)).mono ?_; rintro e w' ⟨rfl, rfl⟩)
  rw [← HW.out.1]
  refine wpIn_runs (X := fun r => r = w.heap.size + 1 + 1 ∨ r = w.heap.size + 1) (w0 := W0) rfl (by decide) (gf := 88) (lb := #[.pointer (some ⟨w.heap.size + 3, 0, none⟩)]) rfl trivial (enters_of Tryz.func88 (by kernel_rfl) rfl)
    HW.out.2.1 (fun r hr => by omega) (Below.refl _ _) (fun k => rfl) (fun k W => GyI (w.heap.size + 1) w.heap.size w.heap.size t full w k W) (fun _ _ _ => False)
    (fun k A B hAB h => h.below (by omega) (by omega) hAB) (fun _ _ _ _ _ h => h) HW.out.2.2
    (fun k => { tmps := #[.agg #[.int .i64 t.k, .bool t.g, .slice t.la t.ln t.lc, .bool t.bb, .string t.s, .slice t.ia t.items.length t.ic, .slice t.ta t.tail.length t.tc], .pointer (some ⟨w.heap.size, 0, none⟩), .pointer (some ⟨w.heap.size + 1, 0, none⟩), .pointer (some ⟨w.heap.size + 1 + 1, 0, none⟩),
      .int .i64 ((nd full k).lev : Nat), .pointer (some ⟨(nd full k).b, (nd full k).o, none⟩), .func (.func 88) #[] #[.pointer (some ⟨w.heap.size + 1 + 1 + 1, 0, none⟩)],
      .int .i64 ((nd full k).lev : Nat), .pointer (some ⟨(nd full k).b, (nd full k).o, none⟩), undef, undef, undef, undef, undef, undef, undef, undef, undef, undef, undef, undef, undef, undef, undef], defers := [] })
    ?assign ?body ?done ?stop
  case assign =>
    intro l k W K _ hK
    simp only [toldAt]
    gi_wp2
    exact hK
  case body =>
    rintro l k W hkN hI
    obtain ⟨⟨lv, xb, xo, x⟩, hat⟩ : ∃ x, full[k]? = some x := ⟨full[k], List.getElem?_eq_getElem hkN⟩
    have hmem := List.mem_of_getElem? hat
    have hnode := HF.out.1 W hI.2.2.1 _ hmem
    have hlv : lv ≤ 200 := Nat.le_trans (maxL_at8 hat) HF.out.2.2
    have hax := HF.out.2.1 _ hmem
    simp only at hax
    obtain ⟨hxb, hcell, hheld⟩ := lies_held.1 hnode.1
    have c0 : W.cell? ⟨xb, xo, none⟩ = some (.int .i64 x.k) := hcell 0 _ rfl
    have c1 : W.cell? ⟨xb, xo + 1, none⟩ = some (.bool x.g) := hcell 1 _ rfl
    have c2 : W.cell? ⟨xb, xo + 2, none⟩ = some (.slice x.la x.ln x.lc) := hcell 2 _ rfl
    have c3 : W.cell? ⟨xb, xo + 3, none⟩ = some (.bool x.bb) := hcell 3 _ rfl
    have c4 : W.cell? ⟨xb, xo + 4, none⟩ = some (.string x.s) := hcell 4 _ rfl
    have c5 : W.cell? ⟨xb, xo + 5, none⟩ = some (.slice x.ia x.items.length x.ic) := hcell 5 _ rfl
    have c6 : W.cell? ⟨xb, xo + 6, none⟩ = some (.slice x.ta x.tail.length x.tc) := hcell 6 _ rfl
    have hz := hI.2.2.2.size
    have p0 := Lib.cell_of_heap hI.2.1 0
    have pf := Lib.frozen_of_heap hI.2.1 0
    have s0 := Lib.cell_of_heap hI.1 0
    have sf := Lib.frozen_of_heap hI.1 0
    simp only [List.getElem?_toArray, List.getElem?_cons_zero] at p0 s0
    simp only [nd_eq hat]
    have hk5 : k + 1 ≤ 5000 := by omega
    have HI := Lib.hid (And.intro hI (And.intro hheld (And.intro hax hat)))
    clear hI hmem hnode hcell hheld hax hat
    have q1 : decide (5000 < (k : Int) + 1) = false := decide_eq_false (by omega)
    have q2 : decide (200 < (lv : Int)) = false := decide_eq_false (by omega)
    gi_wp2
    refine ⟨trivial, ?_⟩
    obtain ⟨hI, hheld, hax, hat⟩ := HI.out
    have hbW : W.heap.size = W.heap.size := rfl
    have hX1 : But (fun r => r = w.heap.size + 1 + 1 ∨ r = w.heap.size + 1) W (W.setCell ⟨w.heap.size + 1 + 1, 0, none⟩ (.int .i64 ((k : Int) + 1))) := But.setCell _ _ _ _ (.inl rfl)
    have hh1 : ∀ q, q ≠ w.heap.size + 1 + 1 → (W.setCell ⟨w.heap.size + 1 + 1, 0, none⟩ (.int .i64 ((k : Int) + 1))).heap[q]? = W.heap[q]? := fun q hq => Below.heap_setCell _ _ _ _ hq
    have hc1 : (W.setCell ⟨w.heap.size + 1 + 1, 0, none⟩ (.int .i64 ((k : Int) + 1))).heap[w.heap.size + 2]? = some (.cells #[.int .i64 ((k : Int) + 1)] 3 (0, 0)) := by
      simp [World.setCell, Array.getElem?_modify, hI.2.1]
    have hs1 : (W.setCell ⟨w.heap.size + 1 + 1, 0, none⟩ (.int .i64 ((k : Int) + 1))).heap.size = W.heap.size := setCell_size _ _ _
    have hb1 : Below w.heap.size w (W.setCell ⟨w.heap.size + 1 + 1, 0, none⟩ (.int .i64 ((k : Int) + 1))) := hI.2.2.2.setCell (p := ⟨w.heap.size + 1 + 1, 0, none⟩) (by show w.heap.size ≤ w.heap.size + 1 + 1; omega) _
    have hz2 : w.heap.size + 2 < W.heap.size := (Array.getElem?_eq_some_iff.1 hI.2.1).1
    generalize W.setCell ⟨w.heap.size + 1 + 1, 0, none⟩ (.int .i64 ((k : Int) + 1)) = W1 at hX1 hh1 hc1 hs1 hb1 ⊢
    have hd1 : Held W1 (w.heap.size + 1) x := hheld.keep (by omega) fun q hq => hh1 q (by omega)
    have hr1 : W1.heap[w.heap.size + 1]? = some (.cells #[.bool false] 4 (0, 0)) := (hh1 _ (by omega)).trans hI.1
    have hl1 : Lies W1 (w.heap.size + 1) t w.heap.size 0 := hI.2.2.1.keep (by omega) (fun q hq => hh1 q (by omega)) _ _ _
    refine ((callsIn_wide.2 (hax W1 (by omega) hd1)).inRound l).mono ?_
    rintro e W2 ⟨rfl, b2⟩
    have hX2 := hX1.below b2 (by omega)
    have hr2 := (b2.block _ (by omega)).trans hr1
    have hc2 := (b2.block _ (by omega)).trans hc1
    have hb2 := hb1.trans (b2.mono (by omega))
    have hl2 : Lies W2 (w.heap.size + 1) t w.heap.size 0 := hl1.keep b2.size (fun q hq => b2.block q (by omega)) _ _ _
    have s0' := Lib.cell_of_heap hr2 0
    have sf' := Lib.frozen_of_heap hr2 0
    simp only [List.getElem?_toArray, List.getElem?_cons_zero] at s0'
    have H2 := Lib.hid (And.intro hX2 (And.intro hr2 (And.intro hc2 (And.intro hb2 hl2))))
    clear hI hheld hax hat hX1 hh1 hc1 hs1 hb1 hd1 hr1 hl1 b2 hX2 hr2 hc2 hb2 hl2 HI c0 c1 c2 c3 c4 c5 c6 p0 pf s0 sf q1 q2
    clear s0' sf'
    gi_wp2
    exact ⟨H2.out.1, H2.out.2.1, H2.out.2.2.1, H2.out.2.2.2.2, H2.out.2.2.2.1⟩
  case done =>
    rintro D W hD hI hK
    have s0 := Lib.cell_of_heap hI.1 0
    have sf := Lib.frozen_of_heap hI.1 0
    simp only [List.getElem?_toArray, List.getElem?_cons_zero] at s0
    have hbw := Lib.hid hI.2.2.2
    have HKD := Lib.hid hK
    clear hI hK
    gi_wp2
    have g0 : (W.setCell ⟨w.heap.size + 1, 0, none⟩ (.bool true)).cell? ⟨w.heap.size + 1, 0, none⟩ = some (.bool true) := set_here s0
    generalize hV : W.setCell ⟨w.heap.size + 1, 0, none⟩ (.bool true) = V at g0 ⊢
    have hVD : V.heap[D]? = some (.deferred (some [])) := by
      rw [← hV]
      exact (KeepsOthers.setCell _ _ _).same D _ HKD.out rfl
    have hVb : Below w.heap.size w V := by
      rw [← hV]
      exact hbw.out.setCell (p := ⟨w.heap.size + 1, 0, none⟩) (by show w.heap.size ≤ w.heap.size + 1; omega) _
    have k0 : (V.putObj D (.deferred none)).cell? ⟨w.heap.size + 1, 0, none⟩ = some (.bool true) := (World.cell?_of_block (World.putObj_heap_other (by show w.heap.size + 1 ≠ D; omega))).trans g0
    refine ⟨by simp, .inl ⟨_, _, rfl, run_takeDeferred hVD, ?_⟩⟩
    exact ⟨.bool true, by simp [results, Tryz.results48, k0, go_sem], rfl, hVb.trans ⟨rfl, rfl, rfl, by simp, fun k hk => World.putObj_heap_other (by omega)⟩⟩
  case stop => exact fun _ _ _ _ _ _ h => h.elim

/-- The zero datum, wherever its empty lists point. -/
def ZeroD (d : LT) : Prop := d.k = 0 ∧ d.g = false ∧ d.ln = 0 ∧ d.bb = false ∧ d.s = ⟨#[]⟩ ∧ d.items = [] ∧ d.tail = []
set_option maxRecDepth 100000 in
theorem isZeroD_yes (k : Int) (la ia ta : Option Addr) (lc ic tc : Nat) (w : World) :
    Calls Tryz.prog 92 #[.agg #[.int .i64 k, .bool false, .slice la 0 lc, .bool false, .string ⟨#[]⟩, .slice ia 0 ic, .slice ta 0 tc]] w fun e w' => e = .returned (.bool true) ∧ Below w.heap.size w w' := by
  have hb : Below w.heap.size w (w.alloc (.cells #[.int .i64 k, .bool false, .slice la 0 lc, .bool false, .string ⟨#[]⟩, .slice ia 0 ic, .slice ta 0 tc] 27)) := (Below.refl _ w).alloc (Nat.le_refl _) _
  have HB := Lib.hid hb
  clear hb
  go_enter Tryz.func92, Tryz.ntmps92
  go_wp2_with fail
  go_ret
  exact ⟨rfl, HB.out⟩
set_option maxRecDepth 100000 in
set_option maxHeartbeats 3200000 in
theorem aloneD_zero (la ia ta : Option Addr) (lc ic tc : Nat) (w : World) :
    Calls Tryz.prog 72 #[.agg #[.int .i64 0, .bool false, .slice la 0 lc, .bool false, .string ⟨#[]⟩, .slice ia 0 ic, .slice ta 0 tc]] w fun e w' => e = .returned (.bool true) ∧ Below w.heap.size w w' := by
  obtain ⟨w2, hw2, _, _, _, hbel⟩ := two2 w (.cells #[.int .i64 0, .bool false, .slice la 0 lc, .bool false, .string ⟨#[]⟩, .slice ia 0 ic, .slice ta 0 tc] 27) (.cells #[.int .i64 0, .bool false, .slice la 0 lc, .bool false, .string ⟨#[]⟩, .slice ia 0 ic, .slice ta 0 tc] 27)
  have HZ := Lib.hid (isZeroD_yes 0 la ia ta lc ic tc)
  have HW := Lib.hid (show ((w.alloc (.cells #[.int .i64 0, .bool false, .slice la 0 lc, .bool false, .string ⟨#[]⟩, .slice ia 0 ic, .slice ta 0 tc] 27)).alloc (.cells #[.int .i64 0, .bool false, .slice la 0 lc, .bool false, .string ⟨#[]⟩, .slice ia 0 ic, .slice ta 0 tc] 27)).drew = w2.drew by rw [hw2])
  have HB := Lib.hid hbel
  clear hw2 hbel
  go_enter Tryz.func72, Tryz.ntmps72
  go_wp2_with fail
  go_region
  go_wp2_with fail
  rw [HW.out]
  refine (HZ.out w2.drew).mono ?_
  rintro e w3 ⟨rfl, b3⟩
  have hb3 : Below w.heap.size w w3 := HB.out.drew.trans (b3.mono HB.out.size)
  go_wp2_with fail
  go_ret
  exact ⟨rfl, hb3⟩
/-- datum.Good of the zero datum. -/
theorem goodD_zero (t : LT) (hz : ZeroD t) (w : World) (hH : Held w w.heap.size t) :
    Calls Tryz.prog 48 #[.agg #[.int .i64 t.k, .bool t.g, .slice t.la t.ln t.lc, .bool t.bb, .string t.s, .slice t.ia t.items.length t.ic, .slice t.ta t.tail.length t.tc]] w fun e w' => e = .returned (.bool true) ∧ Below w.heap.size w w' := by
  obtain ⟨z0, z1, z2, z3, z4, z5, z6⟩ := hz
  have hs : t.size = 1 ∧ t.depth = 1 ∧ seqT t 1 w.heap.size 0 = [⟨1, w.heap.size, 0, t⟩] := by
    cases t
    simp only [LT.items, LT.tail] at z5 z6
    subst z5 z6
    simp [LT.size, LT.depth, seqT, sizes, depths, seqR]
  refine callsIn_wide.1 (goodY_in w.heap.size t (by omega) (by omega) w (Nat.le_refl _) hH ?_)
  intro x hx W _ _
  rw [hs.2.2] at hx
  obtain rfl := List.mem_singleton.1 hx
  have := aloneD_zero t.la t.ia t.ta t.lc t.ic t.tc W
  simp only [z0, z1, z2, z3, z4, z5, z6, List.length_nil]
  exact this
end
end Go.Proofs.YthdhdmmlmbkalaaGreatDoor
namespace Go.Proofs.YthdhdmmlmbkalaaGreatDoor
section
open Go.RowKit

set_option maxRecDepth 100000 in
theorem isVar_yes (v : Int) (h1 : 1 ≤ v) (h2 : v ≤ 1000000) (w : World) : Calls Tryz.prog 49 #[.int .i64 v] w fun e w' => e = .returned (.bool true) ∧ w = w' := by
  have q1 : decide (1 ≤ v) = true := decide_eq_true h1
  have q2 : decide (v ≤ 1000000) = true := decide_eq_true h2
  go_enter Tryz.func49, Tryz.ntmps49
  go_wp2_with fail
  go_ret
  exact ⟨rfl, rfl⟩
set_option maxRecDepth 100000 in
theorem areVars1_yes (v : Int) (h1 : 1 ≤ v) (h2 : v ≤ 1000000) (w : World) : Calls Tryz.prog 74 #[.int .i64 v] w fun e w' => e = .returned (.bool false) ∧ w = w' := by
  have HV := Lib.hid (isVar_yes v h1 h2 w)
  go_enter Tryz.func74, Tryz.ntmps74
  go_wp2_with (go_at_call 49; refine (HV.out).mono ?_; rintro e w' ⟨rfl, rfl⟩)
  go_ret
  exact ⟨rfl, rfl⟩
set_option maxRecDepth 100000 in
set_option maxHeartbeats 1600000 in
theorem indexVars (M : Nat) (va : Option Addr) (vc : Nat) (vs : List Int) (w : World) (hV : IntsAt w M va vc vs) (hv : ∀ v ∈ vs, 1 ≤ v ∧ v ≤ 1000000) :
    Calls Tryz.prog 93 #[.slice va vs.length vc, .func (.func 74) #[] #[]] w fun e w' => e = .returned (.int .i64 (-1)) ∧ w = w' := by
  have hlen : vs.length ≤ maxLen := Nat.le_trans hV.1.1 hV.1.2.1
  have HH := Lib.hid (And.intro hV hv)
  have hml : maxLen = 9223372036854775807 := rfl
  clear hV hv
  go_enter Tryz.func93, Tryz.ntmps93
  go_wp2_with fail
  go_loopw [8] (fun i wr => ∃ k : Nat, k ≤ vs.length ∧ i = .int .i64 k ∧ w = wr) (fun i _ => vs.length - (intOf i).toNat)
  case atStart => exact ⟨0, Nat.zero_le _, rfl, rfl⟩
  case round =>
    obtain ⟨k, hk, rfl, rfl⟩ := hrel
    by_cases hlt : k < vs.length
    · have hx := HH.out.1.2 k hlt
      have hg := HH.out.2 _ (List.getElem_mem hlt)
      obtain ⟨x, hxe⟩ : ∃ x, vs[k] = x := ⟨_, rfl⟩
      rw [hxe] at hx hg
      have hsp := HH.out.1.1.2.2.1 (by omega)
      obtain ⟨b, off, hva⟩ : ∃ b off, va = some ⟨b, off, none⟩ := ⟨_, _, hsp.1⟩
      subst hva
      have hc : w.cell? ⟨b, off + k, none⟩ = some (.int .i64 x) := hx.1
      have HV := Lib.hid (areVars1_yes x hg.1 hg.2 w)
      have q : decide ((k : Int) < (vs.length : Int)) = true := decide_eq_true (by omega)
      clear hx hg hxe hsp
      go_wp2_with (go_at_call 74; refine (HV.out).mono ?_; rintro e w' ⟨rfl, rfl⟩)
      go_roundw
      case rel => exact ⟨k + 1, by omega, by go_num, by first | rfl | trivial⟩
      case measure => simp [intOf]; omega
    · obtain rfl : k = vs.length := by omega
      go_wp2_with fail
      go_ret
      exact ⟨rfl, rfl⟩
set_option maxRecDepth 100000 in
theorem areVars_yes (M : Nat) (va : Option Addr) (vc : Nat) (vs : List Int) (w : World) (hV : IntsAt w M va vc vs) (hv : ∀ v ∈ vs, 1 ≤ v ∧ v ≤ 1000000) :
    Calls Tryz.prog 50 #[.slice va vs.length vc] w fun e w' => e = .returned (.bool true) ∧ w = w' := by
  have HI := Lib.hid (indexVars M va vc vs w hV hv)
  clear hV hv
  have hC : Calls Tryz.prog 73 #[.slice va vs.length vc, .func (.func 74) #[] #[]] w fun e w' => e = .returned (.bool false) ∧ w = w' := by
    go_enter Tryz.func73, Tryz.ntmps73
    go_wp2_with (go_at_call 93; refine (HI.out).mono ?_; rintro e w' ⟨rfl, rfl⟩)
    go_ret
    exact ⟨rfl, rfl⟩
  have HC := Lib.hid hC
  clear hC
  go_enter Tryz.func50, Tryz.ntmps50
  go_wp2_with (go_at_call 73; refine (HC.out).mono ?_; rintro e w' ⟨rfl, rfl⟩)
  go_ret
  exact ⟨rfl, rfl⟩
set_option maxRecDepth 100000 in
theorem arity35 (w : World) : Calls Tryz.prog 51 #[.int .i64 35] w fun e w' => e = .returned (.int .i64 1) ∧ w = w' := by
  go_enter Tryz.func51, Tryz.ntmps51
  go_wp2_with fail
  go_ret
  exact ⟨rfl, rfl⟩
set_option maxRecDepth 100000 in
theorem arity36 (w : World) : Calls Tryz.prog 51 #[.int .i64 36] w fun e w' => e = .returned (.int .i64 1) ∧ w = w' := by
  go_enter Tryz.func51, Tryz.ntmps51
  go_wp2_with fail
  go_ret
  exact ⟨rfl, rfl⟩
set_option maxRecDepth 100000 in
theorem arity37 (w : World) : Calls Tryz.prog 51 #[.int .i64 37] w fun e w' => e = .returned (.int .i64 2) ∧ w = w' := by
  go_enter Tryz.func51, Tryz.ntmps51
  go_wp2_with fail
  go_ret
  exact ⟨rfl, rfl⟩
def GoodDAt (la ia ta : Option Addr) (lc ic tc : Nat) (w : World) : Prop := ∀ W, Below w.heap.size w W → Calls Tryz.prog 48 #[.agg #[.int .i64 0, .bool false, .slice la 0 lc, .bool false, .string ⟨#[]⟩, .slice ia 0 ic, .slice ta 0 tc]] W fun e w' => e = .returned (.bool true) ∧ Below W.heap.size W w'
set_option maxRecDepth 100000 in
set_option maxHeartbeats 1600000 in
theorem isZeroE_yes (la ia ta va ka : Option Addr) (lc ic tc vc kc : Nat) (k : Int) (n : Nat) (w : World) (hG : GoodDAt la ia ta lc ic tc w) :
    Calls Tryz.prog 52 #[.agg #[.int .i64 k, .int .i64 0, .bool false, .slice la 0 lc, .bool false, .string ⟨#[]⟩, .slice ia 0 ic, .slice ta 0 tc, .int .i64 0, .slice va 0 vc, .bool false, .int .i64 0, .slice ka n kc]] w fun e w' => e = .returned (.bool true) ∧ Below w.heap.size w w' := by
  obtain ⟨W, hW⟩ : ∃ W, w.alloc (Obj.cells #[.int .i64 k, .int .i64 0, .bool false, .slice la 0 lc, .bool false, .string ⟨#[]⟩, .slice ia 0 ic, .slice ta 0 tc, .int .i64 0, .slice va 0 vc, .bool false, .int .i64 0, .slice ka n kc] 31) = W := ⟨_, rfl⟩
  have hb : Below w.heap.size w W := by rw [← hW]; exact (Below.refl _ w).alloc (Nat.le_refl _) _
  have c0 : W.heap[w.heap.size]? = some (Obj.cells #[.int .i64 k, .int .i64 0, .bool false, .slice la 0 lc, .bool false, .string ⟨#[]⟩, .slice ia 0 ic, .slice ta 0 tc, .int .i64 0, .slice va 0 vc, .bool false, .int .i64 0, .slice ka n kc] 31 (0, 0)) := by rw [← hW]; exact World.alloc_heap_new _ _
  have HG := Lib.hid (And.intro (hG W hb) (And.intro hb (And.intro c0 hW)))
  clear hG hb c0 hW
  go_enter Tryz.func52, Tryz.ntmps52
  go_wp2_with fail
  rw [HG.out.2.2.2]
  refine HG.out.1.mono ?_
  rintro e w2 ⟨rfl, b2⟩
  have h0 := (b2.block _ (Array.getElem?_eq_some_iff.1 HG.out.2.2.1).1).trans HG.out.2.2.1
  have s8 : w2.cell? ⟨w.heap.size, 8, none⟩ = some (.int .i64 0) := by rw [Lib.cell_of_heap h0]; rfl
  have s9 : w2.cell? ⟨w.heap.size, 9, none⟩ = some (.slice va 0 vc) := by rw [Lib.cell_of_heap h0]; rfl
  have s10 : w2.cell? ⟨w.heap.size, 10, none⟩ = some (.bool false) := by rw [Lib.cell_of_heap h0]; rfl
  have s11 : w2.cell? ⟨w.heap.size, 11, none⟩ = some (.int .i64 0) := by rw [Lib.cell_of_heap h0]; rfl
  have hb2 := Lib.hid (HG.out.2.1.trans (b2.mono HG.out.2.1.size))
  clear h0 b2
  go_wp2_with fail
  go_ret
  exact ⟨rfl, hb2.out⟩
set_option maxRecDepth 100000 in
set_option maxHeartbeats 3200000 in
theorem goodAlone_2 (la ia ta va ka : Option Addr) (lc ic tc vc kc : Nat) (v : Int) (h1 : 1 ≤ v) (h2 : v ≤ 1000000) (w : World) (hG : GoodDAt la ia ta lc ic tc w) :
    Calls Tryz.prog 28 #[.agg #[.int .i64 2, .int .i64 0, .bool false, .slice la 0 lc, .bool false, .string ⟨#[]⟩, .slice ia 0 ic, .slice ta 0 tc, .int .i64 v, .slice va 0 vc, .bool false, .int .i64 0, .slice ka 0 kc]] w fun e w' => e = .returned (.bool true) ∧ Below w.heap.size w w' := by
  have HV := Lib.hid (isVar_yes v h1 h2)
  clear h1 h2
  obtain ⟨w2, hw2, _, _, _, hbel⟩ := two2 w (Obj.cells #[.int .i64 2, .int .i64 0, .bool false, .slice la 0 lc, .bool false, .string ⟨#[]⟩, .slice ia 0 ic, .slice ta 0 tc, .int .i64 v, .slice va 0 vc, .bool false, .int .i64 0, .slice ka 0 kc] 31) (Obj.cells #[.int .i64 2, .int .i64 0, .bool false, .slice la 0 lc, .bool false, .string ⟨#[]⟩, .slice ia 0 ic, .slice ta 0 tc, .int .i64 0, .slice va 0 vc, .bool false, .int .i64 0, .slice ka 0 kc] 31)
  have HZ := Lib.hid (isZeroE_yes la ia ta va ka lc ic tc vc kc 2 0 w2.drew (fun W hb => hG W (hbel.drew.trans (hb.mono hbel.size))))
  have HW := Lib.hid (show ((w.alloc (Obj.cells #[.int .i64 2, .int .i64 0, .bool false, .slice la 0 lc, .bool false, .string ⟨#[]⟩, .slice ia 0 ic, .slice ta 0 tc, .int .i64 v, .slice va 0 vc, .bool false, .int .i64 0, .slice ka 0 kc] 31)).alloc (Obj.cells #[.int .i64 2, .int .i64 0, .bool false, .slice la 0 lc, .bool false, .string ⟨#[]⟩, .slice ia 0 ic, .slice ta 0 tc, .int .i64 0, .slice va 0 vc, .bool false, .int .i64 0, .slice ka 0 kc] 31)).drew = w2.drew by rw [hw2])
  have HB := Lib.hid hbel
  clear hw2 hbel hG
  go_enter Tryz.func28, Tryz.ntmps28
  go_wp2_with fail
  go_region
  go_wp2_with (go_at_call 49; refine (HV.out _).mono ?_; rintro e w' ⟨rfl, rfl⟩)
  rw [HW.out]
  refine HZ.out.mono ?_
  rintro e w3 ⟨rfl, b3⟩
  have hb3 : Below w.heap.size w w3 := HB.out.drew.trans (b3.mono HB.out.size)
  go_wp2_with fail
  go_ret
  exact ⟨rfl, hb3⟩
set_option maxRecDepth 100000 in
set_option maxHeartbeats 3200000 in
theorem goodAlone_3 (la ia ta va ka : Option Addr) (lc ic tc vc kc : Nat) (v : Int) (h1 : 1 ≤ v) (h2 : v ≤ 1000000) (w : World) (hG : GoodDAt la ia ta lc ic tc w) :
    Calls Tryz.prog 28 #[.agg #[.int .i64 3, .int .i64 0, .bool false, .slice la 0 lc, .bool false, .string ⟨#[]⟩, .slice ia 0 ic, .slice ta 0 tc, .int .i64 v, .slice va 0 vc, .bool false, .int .i64 0, .slice ka 1 kc]] w fun e w' => e = .returned (.bool true) ∧ Below w.heap.size w w' := by
  have HV := Lib.hid (isVar_yes v h1 h2)
  clear h1 h2
  obtain ⟨w2, hw2, _, _, _, hbel⟩ := two2 w (Obj.cells #[.int .i64 3, .int .i64 0, .bool false, .slice la 0 lc, .bool false, .string ⟨#[]⟩, .slice ia 0 ic, .slice ta 0 tc, .int .i64 v, .slice va 0 vc, .bool false, .int .i64 0, .slice ka 1 kc] 31) (Obj.cells #[.int .i64 3, .int .i64 0, .bool false, .slice la 0 lc, .bool false, .string ⟨#[]⟩, .slice ia 0 ic, .slice ta 0 tc, .int .i64 0, .slice va 0 vc, .bool false, .int .i64 0, .slice ka 1 kc] 31)
  have HZ := Lib.hid (isZeroE_yes la ia ta va ka lc ic tc vc kc 3 1 w2.drew (fun W hb => hG W (hbel.drew.trans (hb.mono hbel.size))))
  have HW := Lib.hid (show ((w.alloc (Obj.cells #[.int .i64 3, .int .i64 0, .bool false, .slice la 0 lc, .bool false, .string ⟨#[]⟩, .slice ia 0 ic, .slice ta 0 tc, .int .i64 v, .slice va 0 vc, .bool false, .int .i64 0, .slice ka 1 kc] 31)).alloc (Obj.cells #[.int .i64 3, .int .i64 0, .bool false, .slice la 0 lc, .bool false, .string ⟨#[]⟩, .slice ia 0 ic, .slice ta 0 tc, .int .i64 0, .slice va 0 vc, .bool false, .int .i64 0, .slice ka 1 kc] 31)).drew = w2.drew by rw [hw2])
  have HB := Lib.hid hbel
  clear hw2 hbel hG
  go_enter Tryz.func28, Tryz.ntmps28
  go_wp2_with fail
  go_region
  go_wp2_with (go_at_call 49; refine (HV.out _).mono ?_; rintro e w' ⟨rfl, rfl⟩)
  rw [HW.out]
  refine HZ.out.mono ?_
  rintro e w3 ⟨rfl, b3⟩
  have hb3 : Below w.heap.size w w3 := HB.out.drew.trans (b3.mono HB.out.size)
  go_wp2_with fail
  go_ret
  exact ⟨rfl, hb3⟩
set_option maxRecDepth 100000 in
set_option maxHeartbeats 3200000 in
theorem goodAlone_8 (la ia ta va ka : Option Addr) (lc ic tc vc kc : Nat) (v : Int) (h1 : 1 ≤ v) (h2 : v ≤ 1000000) (w : World) (hG : GoodDAt la ia ta lc ic tc w) :
    Calls Tryz.prog 28 #[.agg #[.int .i64 8, .int .i64 0, .bool false, .slice la 0 lc, .bool false, .string ⟨#[]⟩, .slice ia 0 ic, .slice ta 0 tc, .int .i64 v, .slice va 0 vc, .bool false, .int .i64 0, .slice ka 2 kc]] w fun e w' => e = .returned (.bool true) ∧ Below w.heap.size w w' := by
  have HV := Lib.hid (isVar_yes v h1 h2)
  clear h1 h2
  obtain ⟨w2, hw2, _, _, _, hbel⟩ := two2 w (Obj.cells #[.int .i64 8, .int .i64 0, .bool false, .slice la 0 lc, .bool false, .string ⟨#[]⟩, .slice ia 0 ic, .slice ta 0 tc, .int .i64 v, .slice va 0 vc, .bool false, .int .i64 0, .slice ka 2 kc] 31) (Obj.cells #[.int .i64 8, .int .i64 0, .bool false, .slice la 0 lc, .bool false, .string ⟨#[]⟩, .slice ia 0 ic, .slice ta 0 tc, .int .i64 0, .slice va 0 vc, .bool false, .int .i64 0, .slice ka 2 kc] 31)
  have HZ := Lib.hid (isZeroE_yes la ia ta va ka lc ic tc vc kc 8 2 w2.drew (fun W hb => hG W (hbel.drew.trans (hb.mono hbel.size))))
  have HW := Lib.hid (show ((w.alloc (Obj.cells #[.int .i64 8, .int .i64 0, .bool false, .slice la 0 lc, .bool false, .string ⟨#[]⟩, .slice ia 0 ic, .slice ta 0 tc, .int .i64 v, .slice va 0 vc, .bool false, .int .i64 0, .slice ka 2 kc] 31)).alloc (Obj.cells #[.int .i64 8, .int .i64 0, .bool false, .slice la 0 lc, .bool false, .string ⟨#[]⟩, .slice ia 0 ic, .slice ta 0 tc, .int .i64 0, .slice va 0 vc, .bool false, .int .i64 0, .slice ka 2 kc] 31)).drew = w2.drew by rw [hw2])
  have HB := Lib.hid hbel
  clear hw2 hbel hG
  go_enter Tryz.func28, Tryz.ntmps28
  go_wp2_with fail
  go_region
  go_wp2_with (go_at_call 49; refine (HV.out _).mono ?_; rintro e w' ⟨rfl, rfl⟩)
  rw [HW.out]
  refine HZ.out.mono ?_
  rintro e w3 ⟨rfl, b3⟩
  have hb3 : Below w.heap.size w w3 := HB.out.drew.trans (b3.mono HB.out.size)
  go_wp2_with fail
  go_ret
  exact ⟨rfl, hb3⟩
set_option maxRecDepth 100000 in
set_option maxHeartbeats 3200000 in
theorem goodAlone_7 (la ia ta va ka : Option Addr) (lc ic tc vc kc : Nat) (p : Int) (n : Nat) (hA : ∀ W, Calls Tryz.prog 51 #[.int .i64 p] W fun e w' => e = .returned (.int .i64 n) ∧ W = w') (w : World) (hG : GoodDAt la ia ta lc ic tc w) :
    Calls Tryz.prog 28 #[.agg #[.int .i64 7, .int .i64 0, .bool false, .slice la 0 lc, .bool false, .string ⟨#[]⟩, .slice ia 0 ic, .slice ta 0 tc, .int .i64 0, .slice va 0 vc, .bool false, .int .i64 p, .slice ka n kc]] w fun e w' => e = .returned (.bool true) ∧ Below w.heap.size w w' := by
  have HV := Lib.hid hA
  clear hA
  obtain ⟨w2, hw2, _, _, _, hbel⟩ := two2 w (Obj.cells #[.int .i64 7, .int .i64 0, .bool false, .slice la 0 lc, .bool false, .string ⟨#[]⟩, .slice ia 0 ic, .slice ta 0 tc, .int .i64 0, .slice va 0 vc, .bool false, .int .i64 p, .slice ka n kc] 31) (Obj.cells #[.int .i64 7, .int .i64 0, .bool false, .slice la 0 lc, .bool false, .string ⟨#[]⟩, .slice ia 0 ic, .slice ta 0 tc, .int .i64 0, .slice va 0 vc, .bool false, .int .i64 0, .slice ka n kc] 31)
  have HZ := Lib.hid (isZeroE_yes la ia ta va ka lc ic tc vc kc 7 n w2.drew (fun W hb => hG W (hbel.drew.trans (hb.mono hbel.size))))
  have HW := Lib.hid (show ((w.alloc (Obj.cells #[.int .i64 7, .int .i64 0, .bool false, .slice la 0 lc, .bool false, .string ⟨#[]⟩, .slice ia 0 ic, .slice ta 0 tc, .int .i64 0, .slice va 0 vc, .bool false, .int .i64 p, .slice ka n kc] 31)).alloc (Obj.cells #[.int .i64 7, .int .i64 0, .bool false, .slice la 0 lc, .bool false, .string ⟨#[]⟩, .slice ia 0 ic, .slice ta 0 tc, .int .i64 0, .slice va 0 vc, .bool false, .int .i64 0, .slice ka n kc] 31)).drew = w2.drew by rw [hw2])
  have HB := Lib.hid hbel
  clear hw2 hbel hG
  go_enter Tryz.func28, Tryz.ntmps28
  go_wp2_with fail
  go_region
  go_wp2_with (go_at_call 51; refine (HV.out _).mono ?_; rintro e w' ⟨rfl, rfl⟩)
  rw [HW.out]
  refine HZ.out.mono ?_
  rintro e w3 ⟨rfl, b3⟩
  have hb3 : Below w.heap.size w w3 := HB.out.drew.trans (b3.mono HB.out.size)
  go_wp2_with fail
  go_ret
  exact ⟨rfl, hb3⟩
set_option maxRecDepth 100000 in
set_option maxHeartbeats 3200000 in
theorem goodAlone_5 (la ia ta va ka : Option Addr) (lc ic tc vc kc : Nat) (w : World) (vs : List Int) (hA : ∀ W, Below w.heap.size w W → Calls Tryz.prog 50 #[.slice va vs.length vc] W fun e w' => e = .returned (.bool true) ∧ W = w') (hG : GoodDAt la ia ta lc ic tc w) :
    Calls Tryz.prog 28 #[.agg #[.int .i64 5, .int .i64 0, .bool false, .slice la 0 lc, .bool false, .string ⟨#[]⟩, .slice ia 0 ic, .slice ta 0 tc, .int .i64 0, .slice va vs.length vc, .bool false, .int .i64 0, .slice ka 1 kc]] w fun e w' => e = .returned (.bool true) ∧ Below w.heap.size w w' := by
  have HV := Lib.hid hA
  clear hA
  obtain ⟨w2, hw2, _, _, _, hbel⟩ := two2 w (Obj.cells #[.int .i64 5, .int .i64 0, .bool false, .slice la 0 lc, .bool false, .string ⟨#[]⟩, .slice ia 0 ic, .slice ta 0 tc, .int .i64 0, .slice va vs.length vc, .bool false, .int .i64 0, .slice ka 1 kc] 31) (Obj.cells #[.int .i64 5, .int .i64 0, .bool false, .slice la 0 lc, .bool false, .string ⟨#[]⟩, .slice ia 0 ic, .slice ta 0 tc, .int .i64 0, .slice none 0 0, .bool false, .int .i64 0, .slice ka 1 kc] 31)
  have HZ := Lib.hid (isZeroE_yes la ia ta none ka lc ic tc 0 kc 5 1 w2.drew (fun W hb => hG W (hbel.drew.trans (hb.mono hbel.size))))
  have HW := Lib.hid (show ((w.alloc (Obj.cells #[.int .i64 5, .int .i64 0, .bool false, .slice la 0 lc, .bool false, .string ⟨#[]⟩, .slice ia 0 ic, .slice ta 0 tc, .int .i64 0, .slice va vs.length vc, .bool false, .int .i64 0, .slice ka 1 kc] 31)).alloc (Obj.cells #[.int .i64 5, .int .i64 0, .bool false, .slice la 0 lc, .bool false, .string ⟨#[]⟩, .slice ia 0 ic, .slice ta 0 tc, .int .i64 0, .slice none 0 0, .bool false, .int .i64 0, .slice ka 1 kc] 31)).drew = w2.drew by rw [hw2])
  have HB := Lib.hid hbel
  have HB1 := Lib.hid (show Below w.heap.size w ((w.alloc (Obj.cells #[.int .i64 5, .int .i64 0, .bool false, .slice la 0 lc, .bool false, .string ⟨#[]⟩, .slice ia 0 ic, .slice ta 0 tc, .int .i64 0, .slice va vs.length vc, .bool false, .int .i64 0, .slice ka 1 kc] 31)).alloc (Obj.cells #[.int .i64 5, .int .i64 0, .bool false, .slice la 0 lc, .bool false, .string ⟨#[]⟩, .slice ia 0 ic, .slice ta 0 tc, .int .i64 0, .slice va vs.length vc, .bool false, .int .i64 0, .slice ka 1 kc] 31)).drew from (((Below.refl _ w).alloc (Nat.le_refl _) _).alloc (by simp) _).drew)
  clear hw2 hbel hG
  go_enter Tryz.func28, Tryz.ntmps28
  go_wp2_with fail
  go_region
  go_wp2_with (go_at_call 50; refine (HV.out _ HB1.out).mono ?_; rintro e w' ⟨rfl, rfl⟩)
  rw [HW.out]
  refine HZ.out.mono ?_
  rintro e w3 ⟨rfl, b3⟩
  have hb3 : Below w.heap.size w w3 := HB.out.drew.trans (b3.mono HB.out.size)
  go_wp2_with fail
  go_ret
  exact ⟨rfl, hb3⟩
end
end Go.Proofs.YthdhdmmlmbkalaaGreatDoor
namespace Go.Proofs.YthdhdmmlmbkalaaGreatDoor
section
open Go.RowKit

/-- The variables that it binds. -/
def bindE (e : ET) : List Int := if e.k = 5 then e.vs else if e.k = 8 then [e.v] else []
/-- In which of its Kids. -/
def bodyE (e : ET) : Int := if e.k = 5 then 0 else if e.k = 8 then 1 else -1
/-- The variables lie below M, or in a block of the call's own. -/
def BindsPost (t : ET) (M : Nat) (w : World) (e : Ending) (w' : World) : Prop := ∃ a c, e = .returned (.tuple #[.slice a (bindE t).length c, .int .i64 (bodyE t)]) ∧ (IntsAt w' M a c (bindE t) ∨ IntsP w' (Fresh w' w.heap.size) a c (bindE t)) ∧ Below w.heap.size w w'
set_option maxRecDepth 100000 in
set_option maxHeartbeats 1600000 in
theorem binds_any (M b o : Nat) (t : ET) (w : World) (hM : M ≤ w.heap.size) (hc : ∀ j v, t.cells[j]? = some v → w.cell? ⟨b, o + j, none⟩ = some v) (hV : IntsAt w M t.va t.vc t.vs) (hv : -9223372036854775808 ≤ t.v ∧ t.v ≤ 9223372036854775807) :
    Calls Tryz.prog 29 #[.pointer (some ⟨b, o, none⟩)] w (BindsPost t M w) := by
  have c0 : w.cell? ⟨b, o, none⟩ = some (.int .i64 t.k) := hc 0 _ rfl
  have c8 : w.cell? ⟨b, o + 8, none⟩ = some (.int .i64 t.v) := hc 8 _ rfl
  have c9 : w.cell? ⟨b, o + 9, none⟩ = some (.slice t.va t.vs.length t.vc) := hc 9 _ rfl
  have HV := Lib.hid (And.intro hV hv)
  clear hc hV hv
  by_cases h5 : t.k = 5
  · have HB := Lib.hid (show bindE t = t.vs ∧ bodyE t = 0 by simp [bindE, bodyE, h5])
    rw [h5] at c0
    clear h5
    go_enter Tryz.func29, Tryz.ntmps29
    go_wp2_with fail
    go_ret2
    exact ⟨t.va, t.vc, by rw [HB.out.1, HB.out.2]; rfl, .inl (by rw [HB.out.1]; exact HV.out.1), Below.refl _ _⟩
  have q5 : (t.k == 5) = false := beq_eq_false_iff_ne.2 h5
  by_cases h8 : t.k = 8
  · have HB := Lib.hid (show bindE t = [t.v] ∧ bodyE t = 1 by simp [bindE, bodyE, h8])
    rw [h8] at c0
    clear h8 h5 q5
    have hnew : (w.alloc (.cells #[.int .i64 t.v] 3)).heap[w.heap.size]? = some (.cells #[.int .i64 t.v] 3 (0, 0)) := World.alloc_heap_new _ _
    have HN := Lib.hid hnew
    clear hnew
    go_enter Tryz.func29, Tryz.ntmps29
    go_wp2_with fail
    go_ret2
    refine ⟨some ⟨w.heap.size, 0, none⟩, 1, by rw [HB.out.1, HB.out.2]; rfl, .inr ?_, (Below.refl _ w).alloc (Nat.le_refl _) _⟩
    rw [HB.out.1]
    refine ⟨⟨Nat.le_refl 1, by decide, fun _ => ⟨rfl, Fresh.of (Nat.le_refl _) HN.out (by decide)⟩, fun e => by cases e⟩, fun i hi => ?_⟩
    obtain rfl : i = 0 := by simpa using hi
    exact ⟨by show (w.alloc _).cell? ⟨w.heap.size, 0 + 0, none⟩ = _; rw [Lib.cell_of_heap HN.out]; rfl, HV.out.2⟩
  · have q8 : (t.k == 8) = false := beq_eq_false_iff_ne.2 h8
    have HB := Lib.hid (show bindE t = [] ∧ bodyE t = -1 by simp [bindE, bodyE, h5, h8])
    clear h5 h8
    go_enter Tryz.func29, Tryz.ntmps29
    go_wp2_with fail
    go_ret2
    refine ⟨none, 0, by rw [HB.out.1, HB.out.2]; rfl, .inr ?_, Below.refl _ _⟩
    rw [HB.out.1]
    exact ⟨spotP_nil _, fun i hi => by simp at hi⟩
end
end Go.Proofs.YthdhdmmlmbkalaaGreatDoor
