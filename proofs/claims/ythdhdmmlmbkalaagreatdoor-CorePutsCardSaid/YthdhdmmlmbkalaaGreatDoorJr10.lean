/-
  core.told, core.measure, core.isLookedAt: how many expressions there are in one. What calls look at: core.looked, core.given, core.isLookedAt, core.Size; pavanelaw08.light of a row. core.copied: what its loop knows, its steps, and what is left.
-/
import Derived.Test.YthdhdmmlmbkalaaGreatDoorJr9
import Derived.Test.YthdhdmmlmbkalaaGreatDoorJr3
import Derived.Test.YthdhdmmlmbkalaaGreatDoorJr7
import Derived.Test.YthdhdmmlmbkalaaGreatDoorJr8
set_option linter.unusedVariables false
set_option linter.unusedSimpArgs false
set_option linter.unusedSectionVars false
set_option linter.unnecessarySimpa false
namespace Go.Proofs.YthdhdmmlmbkalaaGreatDoor
section
open Go.RowKit
attribute [local go_sem] Oper.semAt_some

theorem toldE_any (p : Option Addr) (w : World) : Calls Tryz.prog 27 #[.pointer p] w fun e w' => e = .returned (.func (.func 47) #[] #[.pointer (some ⟨w.heap.size, 0, none⟩)]) ∧ w' = w.alloc (.cells #[.pointer p] 46) := by
  go_enter Tryz.func27, Tryz.ntmps27
  go_wp2
  go_ret
  exact ⟨rfl, rfl⟩
theorem toldE_runs (n bd M b o : Nat) (root : ET) (X : Nat → Prop) (w : World) (hX : ∀ r, X r → M ≤ r ∧ r ≠ bd) (hbd : w.cell? ⟨bd, 0, none⟩ = some (.pointer (some ⟨b, o, none⟩))) (hM : M ≤ w.heap.size) (hL : LiesE w M root b o) (hN : root.size < 1000000000) :
    Runs Fence.wide n Tryz.prog 47 #[.pointer (some ⟨bd, 0, none⟩)] (toldE (seqE root 1 b o)) (seqE root 1 b o).length X w := by
  intro l J Jx W hW hXW hJ hJx hY h0
  have hbw : bd < w.heap.size := World.block_lt_of_cell? w _ hbd
  exact told1E_in n l bd M (root.size + 1) b o W.heap.size root X J Jx W (Nat.le_trans hM hW.size) (World.block_lt_of_cell? W _ ((hW.cell (p := ⟨bd, 0, none⟩) hbw).trans hbd)) (fun r hr => ⟨(hX r hr).1, (hX r hr).2, hXW r hr⟩) (fun k A B h => hJ k A B h.toBelow) _ rfl
    (fun k W1 hk hj => by
      obtain ⟨fn, tmps, asg, bo, hy, hR⟩ := hY k W1 hk hj
      exact ⟨fn, tmps, asg, bo, hy, hR.mono fun e W' h => h.imp (fun h => ⟨h.1, h.2.1, h.2.2.e⟩) id⟩) ((hW.cell (p := ⟨bd, 0, none⟩) hbw).trans hbd) (Nat.le_trans hM hW.size)
    (hL.keep hW.size (fun i hi => hW.block i (by omega)) _ _ _) (Nat.le_refl _) (by omega) h0
/-- What is told lies there; how deep. -/
theorem levE : ∀ (N : Nat) (e : ET), e.size ≤ N → ∀ (lv b o : Nat) (x : NodeE), x ∈ seqE e lv b o → lv ≤ x.lev ∧ x.lev + x.e.depth ≤ lv + e.depth ∧ ∀ (w : World) (M : Nat), LiesE w M e b o → LiesE w M x.e x.b x.o
  | 0, e, h, _, _, _, _, _ => by rw [e.size_eq] at h; omega
  | N + 1, e, h, lv, b, o, x, hx => by
    rw [seqE_eq] at hx
    rcases List.mem_cons.1 hx with rfl | hx
    · exact ⟨Nat.le_refl _, Nat.le_refl _, fun _ _ h => h⟩
    · have hs := e.size_eq
      have hd := e.depth_eq
      have key : ∀ (l : List ET) (b o : Nat), sizesE l ≤ N → x ∈ seqER l (lv + 1) b o → lv + 1 ≤ x.lev ∧ x.lev + x.e.depth ≤ lv + 1 + depthsE l ∧ ∀ (w : World) (M : Nat), LiesER w M l b o → LiesE w M x.e x.b x.o := by
        intro l
        induction l with
        | nil => intro b o _ hx; rw [seqER_nil] at hx; cases hx
        | cons t l ih =>
          intro b o hl hx
          simp only [sizesE] at hl
          rw [seqER_cons] at hx
          simp only [depthsE, liesER_cons]
          rcases List.mem_append.1 hx with hx | hx
          · obtain ⟨h1, h2, h3⟩ := levE N t (by omega) (lv + 1) b o x hx
            exact ⟨h1, by omega, fun w M h => h3 w M h.1⟩
          · obtain ⟨h1, h2, h3⟩ := ih b (o + 13) (by omega) hx
            exact ⟨h1, by omega, fun w M h => h3 w M h.2⟩
      obtain ⟨h1, h2, h3⟩ := key e.kids (blk e.ka) (ofs e.ka) (by omega) hx
      exact ⟨by omega, by omega, fun w M h => h3 w M (liesE_held.1 h).2.2.2.2⟩
def MeasE (M b o B md dd : Nat) (root : ET) (w : World) (k : Nat) (W : World) : Prop :=
  W.heap[B]? = some (.cells #[.int .i64 (md : Nat), .int .i64 (dd : Nat)] 75 (0, 0)) ∧ W.heap[B + 1]? = some (.cells #[.int .i64 0] 3 (0, 0)) ∧ W.heap[B + 1 + 1]? = some (.cells #[.bool false] 4 (0, 0)) ∧
  W.heap[B + 1 + 1 + 1]? = some (.cells #[.int .i64 (k : Nat)] 3 (0, 0)) ∧ LiesE W M root b o ∧ Below B w W
theorem MeasE.below {M b o B md dd C : Nat} {root : ET} {w A W : World} {k : Nat} (hM : M ≤ B) (hC : B + 4 ≤ C) (h : MeasE M b o B md dd root w k A) (hb : Below C A W) : MeasE M b o B md dd root w k W :=
  ⟨(hb.block _ (by omega)).trans h.1, (hb.block _ (by omega)).trans h.2.1, (hb.block _ (by omega)).trans h.2.2.1, (hb.block _ (by omega)).trans h.2.2.2.1,
    h.2.2.2.2.1.keep hb.size (fun i hi => hb.block i (by omega)) _ _ _, h.2.2.2.2.2.trans (hb.mono (by omega))⟩
theorem one_cell {w : World} {B : Nat} {x : Value} {t : TypeId} (h : w.heap[B]? = some (.cells #[x] t (0, 0))) : w.cell? ⟨B, 0, none⟩ = some x ∧ w.frozen? ⟨B, 0, none⟩ = false := ⟨by simp [World.cell?, h], by simp [World.frozen?, h]⟩
theorem MeasE.step {M b o B md dd k : Nat} {root : ET} {w W : World} (hM : M ≤ B) (h : MeasE M b o B md dd root w k W) (z : Int) (hz : z = ((k + 1 : Nat) : Int)) :
    But (fun r => r = B + 1 + 1 + 1) W (W.setCell ⟨B + 1 + 1 + 1, 0, none⟩ (.int .i64 z)) ∧ MeasE M b o B md dd root w (k + 1) (W.setCell ⟨B + 1 + 1 + 1, 0, none⟩ (.int .i64 z)) := by
  subst hz
  have hbut : But (fun r => r = B + 1 + 1 + 1) W (W.setCell ⟨B + 1 + 1 + 1, 0, none⟩ (.int .i64 ((k + 1 : Nat) : Int))) := But.setCell (fun r => r = B + 1 + 1 + 1) W ⟨B + 1 + 1 + 1, 0, none⟩ _ rfl
  have hlt : B + 1 + 1 + 1 < W.heap.size := (Array.getElem?_eq_some_iff.1 h.2.2.2.1).1
  refine ⟨hbut, (hbut.2 _ (by omega) (by omega)).trans h.1, (hbut.2 _ (by omega) (by omega)).trans h.2.1, (hbut.2 _ (by omega) (by omega)).trans h.2.2.1, ?_, h.2.2.2.2.1.keep hbut.1 (fun i hi => hbut.2 i (by omega) (by omega)) _ _ _, ?_⟩
  · simp [World.setCell, Array.getElem?_modify, h.2.2.2.1]
  · exact h.2.2.2.2.2.trans ((Below.refl B W).setCell (p := ⟨B + 1 + 1 + 1, 0, none⟩) (by show B ≤ B + 1 + 1 + 1; omega) _)
set_option maxRecDepth 100000 in
set_option maxHeartbeats 3200000 in
theorem measureE_in (M b o md dd : Nat) (root : ET) (w : World) (hM : M ≤ w.heap.size) (hL : LiesE w M root b o) (hN : root.size < 1000000000) (h1 : root.size ≤ md) (h2 : root.depth ≤ dd) :
    CallsIn Fence.wide 5 Tryz.prog 36 #[.pointer (some ⟨b, o, none⟩), .agg #[.int .i64 md, .int .i64 dd]] w fun e w' => e = .returned (.tuple #[.int .i64 root.size, .bool true]) ∧ Below w.heap.size w w' := by
  obtain ⟨W0, hW0⟩ : ∃ W0, (((((w.alloc (Obj.cells #[.int .i64 md, .int .i64 dd] 75)).alloc (Obj.cells #[.int .i64 0] 3)).alloc (Obj.cells #[.bool false] 4)).alloc (Obj.cells #[.int .i64 0] 3)).alloc (.cells #[.pointer (some ⟨b, o, none⟩)] 46)) = W0 := ⟨_, rfl⟩
  have hbl : Below w.heap.size w W0 := hW0 ▸ (((((Below.refl _ w).alloc (Nat.le_refl _) _).alloc (by simp) _).alloc (by simp; omega) _).alloc (by simp; omega) _).alloc (by simp; omega) _
  have hz0 : W0.heap.size = w.heap.size + 5 := by rw [← hW0]; simp
  have h5 := five w (Obj.cells #[.int .i64 md, .int .i64 dd] 75) (Obj.cells #[.int .i64 0] 3) (Obj.cells #[.bool false] 4) (Obj.cells #[.int .i64 0] 3) (.cells #[.pointer (some ⟨b, o, none⟩)] 46)
  rw [hW0] at h5
  have hL0 : LiesE W0 M root b o := hL.keep hbl.size (fun i hi => hbl.block i (by omega)) _ _ _
  have hI0 : MeasE M b o w.heap.size md dd root w 0 W0 := ⟨h5.1, h5.2.1, h5.2.2.1, h5.2.2.2.1, hL0, hbl⟩
  have hbd0 : W0.cell? ⟨w.heap.size + 4, 0, none⟩ = some (.pointer (some ⟨b, o, none⟩)) := Lib.cell_of_heap h5.2.2.2.2 0
  obtain ⟨full, hfull⟩ : ∃ full, full = seqE root 1 b o := ⟨_, rfl⟩
  have hlen : full.length = root.size := by rw [hfull, seqE_length]
  have hlev : ∀ x ∈ full, 1 ≤ x.lev ∧ x.lev ≤ root.depth := fun x hx => by
    have h := levE root.size root (Nat.le_refl _) 1 b o x (hfull ▸ hx)
    have := x.e.depth_eq
    exact ⟨h.1, by omega⟩
  have HF := Lib.hid (And.intro hlen hlev)
  have HW := Lib.hid hW0
  have hruns := toldE_runs 4 (w.heap.size + 4) M b o root (fun r => r = w.heap.size + 1 + 1 + 1 ∨ r = W0.heap.size + 1) W0 (fun r hr => by rcases hr with rfl | rfl <;> omega) hbd0 (by omega) hL0 hN
  rw [← hfull] at hruns
  have HI0 := Lib.hid (And.intro hI0 hruns)
  clear hfull hlen hlev hW0 h5 hbd0 hI0 hL0 hbl hL hruns
  refine callsIn_of_wp_marks Tryz.func36 rfl trivial ?_ rfl
  simp only [Tryz.ntmps36, List.size_toArray, List.length_cons, List.length_nil, Nat.reduceAdd, Nat.reduceSub, Array.replicate_succ, Array.replicate_zero, List.push_toArray, List.append_toArray, List.nil_append, List.cons_append]
  gi_wp2_with (refine ⟨trivial, ?_⟩; gi_at_call 27; refine (callsIn_wide.2 (toldE_any _ _)).mono ?_; rintro e w' ⟨rfl, rfl⟩)
  rw [HW.out]
  refine wpIn_runs (X := fun r => r = w.heap.size + 1 + 1 + 1) (w0 := W0) rfl (by decide) (gf := 47) (lb := #[.pointer (some ⟨w.heap.size + 4, 0, none⟩)]) rfl trivial (enters_of Tryz.func47 (by kernel_rfl) rfl)
    HI0.out.2 (fun r hr => by omega) (Below.refl _ _) (fun k => rfl) (fun k W => MeasE M b o w.heap.size md dd root w k W) (fun _ _ _ => False)
    (fun k A B hAB h => h.below hM (by omega) hAB) (fun _ _ _ _ _ h => h) HI0.out.1
    (fun k => { tmps := #[.pointer (some ⟨b, o, none⟩), .agg #[.int .i64 md, .int .i64 dd], undef, .pointer (some ⟨w.heap.size, 0, none⟩), .pointer (some ⟨w.heap.size + 1, 0, none⟩), .pointer (some ⟨w.heap.size + 1 + 1, 0, none⟩), .pointer (some ⟨w.heap.size + 1 + 1 + 1, 0, none⟩),
      .int .i64 ((ndE full k).lev : Nat), .pointer (some ⟨b, o, none⟩), .func (.func 47) #[] #[.pointer (some ⟨w.heap.size + 4, 0, none⟩)],
      .int .i64 ((ndE full k).lev : Nat), .pointer (some ⟨(ndE full k).b, (ndE full k).o, none⟩), undef, undef, undef, undef, undef, undef, undef, undef, undef, undef, undef, undef, undef, undef], defers := [] })
    ?assign ?body ?done ?stop
  case assign =>
    intro l k W K _ hK
    simp only [toldE]
    gi_wp2
    exact hK
  case body =>
    rintro l k W hkN hI
    obtain ⟨x, hat⟩ : ∃ x, full[k]? = some x := ⟨full[k], List.getElem?_eq_getElem hkN⟩
    have hx := HF.out.2 x (List.mem_of_getElem? hat)
    have hkl : k < root.size := by rw [← HF.out.1]; exact hkN
    obtain ⟨p0, p1, -⟩ := two_cells hI.1
    obtain ⟨c0, f0⟩ := one_cell hI.2.2.2.1
    have HI := Lib.hid (hI.step hM ((k : Int) + 1) (by omega))
    simp only [ndE_eq hat]
    obtain ⟨lv, hlv⟩ : ∃ lv, x.lev = lv := ⟨_, rfl⟩
    rw [hlv] at hx ⊢
    have g1 : decide ((md : Int) < (k : Int) + 1) = false := decide_eq_false (by omega)
    have g2 : decide ((dd : Int) < (lv : Int)) = false := decide_eq_false (by omega)
    clear hI hat hlv
    gi_wp2
    exact HI.out
  case done =>
    rintro D W hD hI hK
    obtain ⟨c0, f0⟩ := one_cell hI.2.2.2.1
    obtain ⟨r0, rf⟩ := one_cell hI.2.1
    obtain ⟨s0, sf⟩ := one_cell hI.2.2.1
    rw [HF.out.1] at c0
    have hbw := Lib.hid hI.2.2.2.2.2
    have HKD := Lib.hid hK
    clear hI hK
    gi_wp2
    have g0 : ((W.setCell ⟨w.heap.size + 1, 0, none⟩ (.int .i64 root.size)).setCell ⟨w.heap.size + 1 + 1, 0, none⟩ (.bool true)).cell? ⟨w.heap.size + 1, 0, none⟩ = some (.int .i64 root.size) := by go_simp
    have g2 : ((W.setCell ⟨w.heap.size + 1, 0, none⟩ (.int .i64 root.size)).setCell ⟨w.heap.size + 1 + 1, 0, none⟩ (.bool true)).cell? ⟨w.heap.size + 1 + 1, 0, none⟩ = some (.bool true) := by go_simp
    generalize hV : ((W.setCell ⟨w.heap.size + 1, 0, none⟩ (.int .i64 root.size)).setCell ⟨w.heap.size + 1 + 1, 0, none⟩ (.bool true)) = V at g0 g2 ⊢
    have hVD : V.heap[D]? = some (.deferred (some [])) := by
      rw [← hV]
      exact ((KeepsOthers.setCell _ _ _).trans (KeepsOthers.setCell _ _ _)).same D _ HKD.out rfl
    have hVb : Below w.heap.size w V := by
      rw [← hV]
      exact (hbw.out.setCell (p := ⟨w.heap.size + 1, 0, none⟩) (by show w.heap.size ≤ w.heap.size + 1; omega) _).setCell (p := ⟨w.heap.size + 1 + 1, 0, none⟩) (by show w.heap.size ≤ w.heap.size + 1 + 1; omega) _
    have hp : ∀ b j, b ≠ D → (V.putObj D (.deferred none)).cell? ⟨b, j, none⟩ = V.cell? ⟨b, j, none⟩ := fun b j hb => World.cell?_of_block (World.putObj_heap_other hb)
    have k0 := (hp (w.heap.size + 1) 0 (by omega)).trans g0
    have k2 := (hp (w.heap.size + 1 + 1) 0 (by omega)).trans g2
    refine ⟨by simp, .inl ⟨_, _, rfl, run_takeDeferred hVD, ?_⟩⟩
    refine ⟨.tuple #[.int .i64 root.size, .bool true], by simp [results, Tryz.results36, k0, k2, go_sem], rfl, hVb.trans ⟨rfl, rfl, rfl, by simp, fun k hk => World.putObj_heap_other (by omega)⟩⟩
  case stop => exact fun _ _ _ _ _ _ h => h.elim
theorem measureE_any (M b o md dd : Nat) (root : ET) (w : World) (hM : M ≤ w.heap.size) (hL : LiesE w M root b o) (h1 : root.size ≤ md) (h2 : root.depth ≤ dd) (hmd : md < 1000000000) :
    Calls Tryz.prog 36 #[.pointer (some ⟨b, o, none⟩), .agg #[.int .i64 md, .int .i64 dd]] w fun e w' => e = .returned (.tuple #[.int .i64 root.size, .bool true]) ∧ Below w.heap.size w w' :=
  callsIn_wide.1 (measureE_in M b o md dd root w hM hL (by omega) h1 h2)
end
end Go.Proofs.YthdhdmmlmbkalaaGreatDoor
namespace Go.Proofs.YthdhdmmlmbkalaaGreatDoor
section
open Go.RowKit

theorem IntsAt.upM {w : World} {M N : Nat} {a : Option Addr} {c : Nat} {zs : List Int} (h : IntsAt w M a c zs) (hMN : M ≤ N) : IntsAt w N a c zs := ⟨h.1.upM hMN, h.2⟩
mutual
theorem LiesE.upM {w : World} {M N : Nat} (hMN : M ≤ N) : ∀ (e : ET) (b o : Nat), LiesE w M e b o → LiesE w N e b o
  | .mk k d v va vc vs rs p ka kc kids, b, o, h => by
    simp only [LiesE] at h ⊢
    obtain ⟨h1, h2, ⟨h3, h4⟩, h5, h6⟩ := h
    exact ⟨Nat.lt_of_lt_of_le h1 hMN, h2, ⟨h3.upP hMN, h4.upM hMN⟩, h5.upM hMN, LiesER.upM hMN kids _ _ h6⟩
theorem LiesER.upM {w : World} {M N : Nat} (hMN : M ≤ N) : ∀ (l : List ET) (b o : Nat), LiesER w M l b o → LiesER w N l b o
  | [], _, _, _ => by simp [LiesER]
  | e :: l, b, o, h => by
    simp only [LiesER] at h ⊢
    exact ⟨LiesE.upM hMN e b o h.1, LiesER.upM hMN l b (o + 13) h.2⟩
end
theorem HeldE.upM {w : World} {M N : Nat} {e : ET} (h : HeldE w M e) (hMN : M ≤ N) : HeldE w N e := ⟨⟨h.1.1.upP hMN, h.1.2.upM hMN⟩, h.2.1.upM hMN, LiesER.upM hMN _ _ _ h.2.2⟩
/-- An expression that was put into a block of its own. -/
theorem HeldE.boxed {w W : World} {M B : Nat} {e : ET} (h : HeldE w M e) (hM : M ≤ w.heap.size) (hMB : M ≤ B) (hb : Below w.heap.size w W) (hB : W.heap[B]? = some (Obj.cells #[.int .i64 e.k, .int .i64 e.d.k, .bool e.d.g, .slice e.d.la e.d.ln e.d.lc, .bool e.d.bb, .string e.d.s, .slice e.d.ia e.d.items.length e.d.ic, .slice e.d.ta e.d.tail.length e.d.tc, .int .i64 e.v, .slice e.va e.vs.length e.vc, .bool e.rs, .int .i64 e.p, .slice e.ka e.kids.length e.kc] 31)) : LiesE W (B + 1) e B 0 := by
  refine liesE_held.2 ⟨Nat.lt_succ_self _, fun j x hj => ?_, (h.keep hb.size (fun q hq => hb.block q (by omega))).upM (by omega)⟩
  rw [Lib.cell_of_heap hB, Nat.zero_add]
  have hj2 := hj
  unfold ET.cells at hj2
  simpa using hj2
section
set_option maxRecDepth 100000 in
theorem lookedE_any (w : World) : Calls Tryz.prog 43 #[] w fun e w' => e = .returned (.agg #[.int .i64 100000, .int .i64 10000]) ∧ Below w.heap.size w w' := by
  go_enter Tryz.func43, Tryz.ntmps43
  go_wp2_with fail
  refine bodyPost_ret (v := .agg #[.int .i64 100000, .int .i64 10000]) (by simp [results, Tryz.results43, go_sem]) rfl ⟨rfl, ?_⟩
  exact (Below.refl _ w).alloc (Nat.le_refl _) _
set_option maxRecDepth 100000 in
theorem givenE_any (w : World) : Calls Tryz.prog 37 #[] w fun e w' => e = .returned (.agg #[.int .i64 12000000, .int .i64 65536]) ∧ Below w.heap.size w w' := by
  go_enter Tryz.func37, Tryz.ntmps37
  go_wp2_with fail
  refine bodyPost_ret (v := .agg #[.int .i64 12000000, .int .i64 65536]) (by simp [results, Tryz.results37, go_sem]) rfl ⟨rfl, ?_⟩
  exact (Below.refl _ w).alloc (Nat.le_refl _) _
set_option maxRecDepth 100000 in
theorem isLookedE_any (M : Nat) (t : ET) (w : World) (hM : M ≤ w.heap.size) (hH : HeldE w M t) (h1 : t.size ≤ 100000) (h2 : t.depth ≤ 10000) :
    Calls Tryz.prog 25 #[.agg #[.int .i64 t.k, .int .i64 t.d.k, .bool t.d.g, .slice t.d.la t.d.ln t.d.lc, .bool t.d.bb, .string t.d.s, .slice t.d.ia t.d.items.length t.d.ic, .slice t.d.ta t.d.tail.length t.d.tc, .int .i64 t.v, .slice t.va t.vs.length t.vc, .bool t.rs, .int .i64 t.p, .slice t.ka t.kids.length t.kc]] w fun e w' => e = .returned (.bool true) ∧ Below w.heap.size w w' := by
  obtain ⟨W0, hW0⟩ : ∃ W, w.alloc (Obj.cells #[.int .i64 t.k, .int .i64 t.d.k, .bool t.d.g, .slice t.d.la t.d.ln t.d.lc, .bool t.d.bb, .string t.d.s, .slice t.d.ia t.d.items.length t.d.ic, .slice t.d.ta t.d.tail.length t.d.tc, .int .i64 t.v, .slice t.va t.vs.length t.vc, .bool t.rs, .int .i64 t.p, .slice t.ka t.kids.length t.kc] 31) = W := ⟨_, rfl⟩
  have h0s : W0.heap.size = w.heap.size + 1 := by rw [← hW0]; exact World.size_alloc ..
  have hb0 : Below w.heap.size w W0 := hW0 ▸ (Below.refl _ w).alloc (Nat.le_refl _) _
  have HL := Lib.hid (hH.boxed hM hM hb0 (hW0 ▸ World.alloc_heap_new _ _))
  have HW := Lib.hid (And.intro hW0 (And.intro h0s hb0))
  clear hH hW0 hb0
  go_enter Tryz.func25, Tryz.ntmps25
  go_wp2_with fail
  rw [HW.out.1]
  refine (lookedE_any W0).mono ?_
  rintro e w1 ⟨rfl, b1⟩
  have HB := Lib.hid b1
  clear b1
  go_wp2_with fail
  refine (measureE_any (w.heap.size + 1) w.heap.size 0 100000 10000 t w1 (by have := HB.out.size; omega) (HL.out.keep HB.out.size (fun q hq => HB.out.block q (by omega)) _ _ _) h1 h2 (by decide)).mono ?_
  rintro e w2 ⟨rfl, b2⟩
  have hb2 := Lib.hid (bnext (bnext HW.out.2.2 HB.out) b2)
  clear b2
  go_wp2_with fail
  go_ret
  exact ⟨rfl, hb2.out⟩
/-- What pavanelaw08.light answers. -/
def lightE (l : List ET) : Bool := l.all fun e => decide (0 ≤ budE e 300 300) && shortE e
theorem lightE_drop {l : List ET} {k : Nat} (h : k < l.length) : lightE (l.drop k) = ((decide (0 ≤ budE l[k] 300 300) && shortE l[k]) && lightE (l.drop (k + 1))) := by rw [List.drop_eq_getElem_cons h]; rfl
set_option maxRecDepth 100000 in
set_option maxHeartbeats 6400000 in
theorem lightE_any (M : Nat) (l : List ET) (ka : Option Addr) (kc : Nat) (w : World) (hM : M ≤ w.heap.size) (hsp : Spot M ka l.length kc) (hL : LiesER w M l (blk ka) (ofs ka)) :
    Calls Tryz.prog 6 #[.slice ka l.length kc] w fun e w' => e = .returned (.bool (lightE l)) ∧ Below w.heap.size w w' := by
  have HLI := Lib.hid hL
  have hb0 := Below.refl w.heap.size w
  have hs1 := hsp.2.1
  have hsc := hsp.1
  unfold maxLen at hs1
  clear hL
  go_enter Tryz.func6, Tryz.ntmps6
  go_wp2_with fail
  go_loopw [7] (fun i wr => ∃ (k : Nat), k ≤ l.length ∧ i = .int .i64 k ∧ Hid (lightE l = lightE (l.drop k)) ∧ Below w.heap.size w wr) (fun i _ => l.length - (intOf i).toNat)
  case atStart => exact ⟨0, Nat.zero_le _, rfl, Lib.hid (by rw [List.drop_zero]), hb0⟩
  case round =>
    obtain ⟨k, hk, rfl, HK, hbs⟩ := hrel
    clear hb0
    by_cases hlk : k < l.length
    · obtain ⟨gb, go, hae, hR⟩ : ∃ gb go, ka = some ⟨gb, go, none⟩ ∧ LiesER w M l gb go := ⟨_, _, (hsp.2.2.1 (by omega)).1, HLI.out⟩
      have hli := ((liesER_iff _ _ _).1 hR k hlk).keep hbs.size (fun q hq => hbs.block q (by omega))
      obtain ⟨hgbM, hcell, hheld⟩ := liesE_held.1 hli
      have hdr := lightE_drop hlk
      clear hsp
      subst hae
      obtain ⟨u, hu⟩ : ∃ u, l[k] = u := ⟨_, rfl⟩
      rw [hu] at hcell hheld hdr
      rw [Nat.mul_comm 13 k] at hcell
      have d0 : wr.cell? ⟨gb, go + k * 13, none⟩ = some (.int .i64 u.k) := hcell 0 _ rfl
      have d1 : wr.cell? ⟨gb, go + k * 13 + 1, none⟩ = some (.int .i64 u.d.k) := hcell 1 _ rfl
      have d2 : wr.cell? ⟨gb, go + k * 13 + 2, none⟩ = some (.bool u.d.g) := hcell 2 _ rfl
      have d3 : wr.cell? ⟨gb, go + k * 13 + 3, none⟩ = some (.slice u.d.la u.d.ln u.d.lc) := hcell 3 _ rfl
      have d4 : wr.cell? ⟨gb, go + k * 13 + 4, none⟩ = some (.bool u.d.bb) := hcell 4 _ rfl
      have d5 : wr.cell? ⟨gb, go + k * 13 + 5, none⟩ = some (.string u.d.s) := hcell 5 _ rfl
      have d6 : wr.cell? ⟨gb, go + k * 13 + 6, none⟩ = some (.slice u.d.ia u.d.items.length u.d.ic) := hcell 6 _ rfl
      have d7 : wr.cell? ⟨gb, go + k * 13 + 7, none⟩ = some (.slice u.d.ta u.d.tail.length u.d.tc) := hcell 7 _ rfl
      have d8 : wr.cell? ⟨gb, go + k * 13 + 8, none⟩ = some (.int .i64 u.v) := hcell 8 _ rfl
      have d9 : wr.cell? ⟨gb, go + k * 13 + 9, none⟩ = some (.slice u.va u.vs.length u.vc) := hcell 9 _ rfl
      have d10 : wr.cell? ⟨gb, go + k * 13 + 10, none⟩ = some (.bool u.rs) := hcell 10 _ rfl
      have d11 : wr.cell? ⟨gb, go + k * 13 + 11, none⟩ = some (.int .i64 u.p) := hcell 11 _ rfl
      have d12 : wr.cell? ⟨gb, go + k * 13 + 12, none⟩ = some (.slice u.ka u.kids.length u.kc) := hcell 12 _ rfl
      obtain ⟨W0, hW0⟩ : ∃ W, wr.alloc (Obj.cells #[.int .i64 u.k, .int .i64 u.d.k, .bool u.d.g, .slice u.d.la u.d.ln u.d.lc, .bool u.d.bb, .string u.d.s, .slice u.d.ia u.d.items.length u.d.ic, .slice u.d.ta u.d.tail.length u.d.tc, .int .i64 u.v, .slice u.va u.vs.length u.vc, .bool u.rs, .int .i64 u.p, .slice u.ka u.kids.length u.kc] 31) = W := ⟨_, rfl⟩
      have hba : Below wr.heap.size wr W0 := hW0 ▸ (Below.refl _ _).alloc (Nat.le_refl _) _
      have h0n : W0.heap[wr.heap.size]? = some (Obj.cells #[.int .i64 u.k, .int .i64 u.d.k, .bool u.d.g, .slice u.d.la u.d.ln u.d.lc, .bool u.d.bb, .string u.d.s, .slice u.d.ia u.d.items.length u.d.ic, .slice u.d.ta u.d.tail.length u.d.tc, .int .i64 u.v, .slice u.va u.vs.length u.vc, .bool u.rs, .int .i64 u.p, .slice u.ka u.kids.length u.kc] 31) := hW0 ▸ World.alloc_heap_new _ _
      have h0s : W0.heap.size = wr.heap.size + 1 := by rw [← hW0]; exact World.size_alloc ..
      have hMs : M ≤ wr.heap.size := Nat.le_trans hM hbs.size
      have HN := Lib.hid (And.intro h0n (And.intro hW0 hba))
      have hheld0 := hheld.keep hba.size (fun q hq => hba.block q (by omega))
      have HS := Lib.hid (smallE_any M u 300 W0 (by omega) hheld0 (by decide) (by decide))
      have HT := Lib.hid (fun (hq : decide (0 ≤ budE u 300 300) = true) W (hb : Below W0.heap.size W0 W) => shortE_any M u.size (by have h0 := of_decide_eq_true hq; have := budE_few u 300 300 h0; omega) u (Nat.le_refl _) W (by have := hb.size; omega) (hheld0.keep hb.size (fun q hq => hb.block q (by omega))))
      have HBA := Lib.hid (bnext hbs hba)
      have HK2 := Lib.hid (show lightE l = ((decide (0 ≤ budE u 300 300) && shortE u) && lightE (l.drop (k + 1))) by rw [HK.out, hdr])
      clear hli hcell hheld hdr hba hR h0n hW0 hheld0
      generalize shortE u = r at *
      generalize decide (0 ≤ budE u 300 300) = q at *
      go_wp2_with fail
      rw [HN.out.2.1]
      refine HS.out.mono ?_
      rintro e w6 ⟨rfl, b6⟩
      have h6n := (b6.block wr.heap.size (by omega)).trans HN.out.1
      have HB6 := Lib.hid b6
      have hb6 := Lib.hid (bnext HBA.out b6)
      clear b6
      cases q
      · have HF := Lib.hid (show lightE l = false by rw [HK2.out]; rfl)
        go_wp2_with fail
        go_ret
        exact ⟨by rw [HF.out]; rfl, hb6.out⟩
      · clear d0 d1 d2 d3 d4 d5 d6 d7 d8 d9 d10 d11 d12
        have e0 : w6.cell? ⟨wr.heap.size, 0, none⟩ = some (.int .i64 u.k) := by rw [Lib.cell_of_heap h6n]; rfl
        have e1 : w6.cell? ⟨wr.heap.size, 1, none⟩ = some (.int .i64 u.d.k) := by rw [Lib.cell_of_heap h6n]; rfl
        have e2 : w6.cell? ⟨wr.heap.size, 2, none⟩ = some (.bool u.d.g) := by rw [Lib.cell_of_heap h6n]; rfl
        have e3 : w6.cell? ⟨wr.heap.size, 3, none⟩ = some (.slice u.d.la u.d.ln u.d.lc) := by rw [Lib.cell_of_heap h6n]; rfl
        have e4 : w6.cell? ⟨wr.heap.size, 4, none⟩ = some (.bool u.d.bb) := by rw [Lib.cell_of_heap h6n]; rfl
        have e5 : w6.cell? ⟨wr.heap.size, 5, none⟩ = some (.string u.d.s) := by rw [Lib.cell_of_heap h6n]; rfl
        have e6 : w6.cell? ⟨wr.heap.size, 6, none⟩ = some (.slice u.d.ia u.d.items.length u.d.ic) := by rw [Lib.cell_of_heap h6n]; rfl
        have e7 : w6.cell? ⟨wr.heap.size, 7, none⟩ = some (.slice u.d.ta u.d.tail.length u.d.tc) := by rw [Lib.cell_of_heap h6n]; rfl
        have e8 : w6.cell? ⟨wr.heap.size, 8, none⟩ = some (.int .i64 u.v) := by rw [Lib.cell_of_heap h6n]; rfl
        have e9 : w6.cell? ⟨wr.heap.size, 9, none⟩ = some (.slice u.va u.vs.length u.vc) := by rw [Lib.cell_of_heap h6n]; rfl
        have e10 : w6.cell? ⟨wr.heap.size, 10, none⟩ = some (.bool u.rs) := by rw [Lib.cell_of_heap h6n]; rfl
        have e11 : w6.cell? ⟨wr.heap.size, 11, none⟩ = some (.int .i64 u.p) := by rw [Lib.cell_of_heap h6n]; rfl
        have e12 : w6.cell? ⟨wr.heap.size, 12, none⟩ = some (.slice u.ka u.kids.length u.kc) := by rw [Lib.cell_of_heap h6n]; rfl
        clear h6n
        go_wp2_with fail
        refine (HT.out (by first | exact rfl | trivial) w6 HB6.out).mono ?_
        rintro e w7 ⟨rfl, b7⟩
        have hb7 := Lib.hid (bnext hb6.out b7)
        clear b7
        cases r
        · have HF := Lib.hid (show lightE l = false by rw [HK2.out]; rfl)
          go_wp2_with fail
          go_ret
          exact ⟨by rw [HF.out]; rfl, hb7.out⟩
        · have HG := Lib.hid (show lightE l = lightE (l.drop (k + 1)) by rw [HK2.out]; rfl)
          go_wp2_with fail
          go_roundw
          case rel => exact ⟨k + 1, by omega, by go_num, HG, hb7.out⟩
          case measure => simp [intOf]; omega
    · obtain rfl : k = l.length := by omega
      have HE := Lib.hid (show lightE l = true by rw [HK.out, List.drop_length]; rfl)
      go_wp2_with fail
      go_ret
      exact ⟨by rw [HE.out]; rfl, hbs⟩
end
end
end Go.Proofs.YthdhdmmlmbkalaaGreatDoor
namespace Go.Proofs.YthdhdmmlmbkalaaGreatDoor
section
open Go.RowKit

/-- The expression lies there as it came in: its Kids are the source's. -/
def SrcE (w0 : World) (M : Nat) (w : World) (s : ES) (b o : Nat) : Prop := ∃ u : ET, shapeE u = s ∧ HeldE w0 M u ∧ TameE u ∧ ∀ j v, u.cells[j]? = some v → w.cell? ⟨b, o + j, none⟩ = some v
/-- A block of the call's own that is none of these. -/
def LmE (B D g R : Nat) (w : World) (k : Nat) : Prop := Fresh w B k ∧ k ≠ D ∧ k ≠ g ∧ k ≠ R
def ZE : Obj := Obj.cells #[.int .i64 0, .int .i64 0, .bool false, .slice none 0 0, .bool false, .string ⟨#[]⟩, .slice none 0 0, .slice none 0 0, .int .i64 0, .slice none 0 0, .bool false, .int .i64 0, .slice none 0 0] 31
structure CopRel (w0 : World) (M D g R cap : Nat) (t : ET) (i : Nat) (S : List ES) (w : World) : Prop where
  le : i ≤ S.length
  room : RoomE w R g S.length cap
  root : PartedE w (LmE (D + 2) D g R w) g S 0 (shapeE t) D 0
  par : ∀ j (h : j < S.length), j < i → PartedE w (LmE (D + 2) D g R w) g S (j + 1) S[j] g (j * 13)
  src : ∀ j (h : j < S.length), i ≤ j → SrcE w0 M w S[j] g (j * 13)
  left : i + sizesES (S.drop i) = cap
  below : Below D w0 w
  res : w.heap[D + 1]? = some ZE
  size : R < w.heap.size
  fresh : Fresh w (D + 2) g
theorem AtE.mono {S X : List ES} {lo p : Nat} {l : List ES} (h : AtE S lo p l) : AtE (S ++ X) lo p l := fun hne => by
  obtain ⟨h1, h2⟩ := h hne
  refine ⟨h1, fun i hi => ?_⟩
  have h3 := h2 i hi
  rw [List.getElem?_append_left (List.getElem?_eq_some_iff.1 h3).1]
  exact h3
theorem PartedE.next {w w' : World} {P Q : Nat → Prop} {g : Nat} {S X : List ES} {lo : Nat} {s : ES} {b o : Nat} (h : PartedE w P g S lo s b o) (hc : ∀ j, j < 13 → w'.cell? ⟨b, o + j, none⟩ = w.cell? ⟨b, o + j, none⟩) (hs : w.heap.size ≤ w'.heap.size) (hk : ∀ k, P k → Q k ∧ w'.heap[k]? = w.heap[k]?) :
    PartedE w' Q g (S ++ X) lo s b o := by
  obtain ⟨u, va, vc, p, h1, h2, h3, h4, h5, h6⟩ := h
  refine ⟨u, va, vc, p, h1, h2, fun j v hj => ?_, ⟨h4.1.keep hs hk, h4.2.keep hk⟩, h5.mono, h6⟩
  rw [hc j (by have := (List.getElem?_eq_some_iff.1 hj).1; simpa using this)]
  exact h3 j v hj
theorem PartedE.mono {w : World} {P Q : Nat → Prop} {g : Nat} {S : List ES} {lo : Nat} {s : ES} {b o : Nat} (h : PartedE w P g S lo s b o) (hk : ∀ k, P k → Q k) : PartedE w Q g S lo s b o := by
  have := h.next (X := []) (w' := w) (Q := Q) (fun _ _ => rfl) (Nat.le_refl _) fun k hp => ⟨hk k hp, rfl⟩
  rwa [List.append_nil] at this
/-- What part leaves makes a copy of it. -/
theorem PartEffE.parted {w w' : World} {b o R g n cap B D lo : Nat} {u : ET} {S : List ES} (h : PartEffE w w' b o R g n cap u) (hn : S.length = n) (hlo : lo ≤ n) (hvs : u.vs.length ≤ 1000000) (hcap : cap ≤ maxLen) (hroom : n + u.kids.length ≤ cap) (hB : B ≤ w.heap.size) (hD : D < w.heap.size) (hg : g < w.heap.size) (hR : R < w.heap.size) :
    PartedE w' (LmE B D g R w') g (S ++ shapesE u.kids) lo (shapeE u) b o := by
  obtain ⟨d, va, vc, h1, h2, h3, h4, h5⟩ := h.here
  have hk : ∀ k, Fresh w' w.heap.size k → LmE B D g R w' k ∧ w'.heap[k]? = w'.heap[k]? := fun k hk => ⟨⟨hk.low hB, by have := hk.1; omega, by have := hk.1; omega, by have := hk.1; omega⟩, rfl⟩
  have e1 : (shapeE u).kids = shapesE u.kids := by rw [shapeE_eq]; rfl
  have e2 : (shapeE u).vs = u.vs := by rw [shapeE_eq]; rfl
  refine ⟨d, va, vc, n, by rw [h1, shapeE_eq]; rfl, h2, ?_, ⟨h4.keep (Nat.le_refl _) hk, by rw [e2]; exact h5.keep hk⟩, ?_, by rw [e1, shapesE_length]; omega, by rw [e2]; exact hvs⟩
  · rw [e1, e2, shapesE_length, show (shapeE u).k = u.k by rw [shapeE_eq]; rfl, show (shapeE u).v = u.v by rw [shapeE_eq]; rfl, show (shapeE u).rs = u.rs by rw [shapeE_eq]; rfl, show (shapeE u).p = u.p by rw [shapeE_eq]; rfl]
    exact h3
  · rw [e1]
    refine fun _ => ⟨hlo, fun i hi => ?_⟩
    rw [List.getElem?_append_right (by omega), hn, show n + i - n = i by omega, List.getElem?_eq_getElem hi]
/-- The new places hold the source's expressions. -/
theorem srcE_new {w0 w' : World} {M g n : Nat} {l : List ET} {b o : Nat} (hl : LiesER w0 M l b o) (hT : TameER l) (hn : ∀ j v, (cellsE l)[j]? = some v → w'.cell? ⟨g, n * 13 + j, none⟩ = some v) (i : Nat) (hi : i < l.length) : SrcE w0 M w' (shapeE l[i]) g ((n + i) * 13) := by
  have h1 := (liesE_held.1 ((liesER_iff _ _ _).1 hl i hi)).2.2
  refine ⟨l[i], rfl, h1, tameER_at l i hi hT, fun j v hj => ?_⟩
  have hj13 : j < 13 := (List.getElem?_eq_some_iff.1 hj).1
  have h2 := hn (i * 13 + j) v (by rw [cellsE_at l i hi j hj13]; exact hj)
  rwa [show n * 13 + (i * 13 + j) = (n + i) * 13 + j by omega] at h2
theorem cop_room {S : List ES} {i cap : Nat} {u : ET} (hi : i < S.length) (hb : i + sizesES (S.drop i) = cap) (hu : shapeE u = S[i]) : S.length + u.kids.length ≤ cap := by
  have h1 := List.drop_eq_getElem_cons hi
  rw [h1] at hb
  simp only [sizesES] at hb
  rw [← hu, sizeES_shape, u.size_eq] at hb
  have h2 := sizesE_ge u.kids
  have h4 := sizesES_ge (S.drop (i + 1))
  rw [List.length_drop] at h4
  omega
theorem RoomE.frz {w : World} {R g n cap : Nat} (h : RoomE w R g n cap) (j : Nat) : w.frozen? ⟨g, j, none⟩ = false := by
  obtain ⟨_, _, cur, h3, _⟩ := h
  exact Lib.frozen_of_heap h3 j
theorem RoomE.fresh {w : World} {R g n cap B : Nat} (h : RoomE w R g n cap) (hB : B ≤ g) : Fresh w B g := by
  obtain ⟨_, _, cur, h3, _⟩ := h
  exact Fresh.of hB h3 (by decide)
theorem cop_step {w0 w w' : World} {M D g R cap i : Nat} {t u : ET} {S : List ES} (hD : D = w0.heap.size) (hMD : M ≤ D) (hDg : D + 2 ≤ g) (hgR : R = g + 1) (hcap : cap ≤ maxLen) (hi : i < S.length) (h : CopRel w0 M D g R cap t i S w) (hu : shapeE u = S[i]) (hH : HeldE w0 M u) (hTu : TameE u) (he : PartEffE w w' g (i * 13) R g S.length cap u) :
    CopRel w0 M D g R cap t (i + 1) (S ++ shapesE u.kids) w' := by
  have hroom := cop_room hi h.left hu
  have hsz := h.size
  have hoth : ∀ k, k < w.heap.size → k ≠ R → k ≠ g → w'.heap[k]? = w.heap[k]? := fun k k0 k1 k2 => he.other k k0 k1 k2 k2
  have hlm : ∀ k, LmE (D + 2) D g R w k → LmE (D + 2) D g R w' k ∧ w'.heap[k]? = w.heap[k]? := fun k hk => by
    have e := hoth k hk.1.lt hk.2.2.2 hk.2.2.1
    exact ⟨⟨hk.1.same e, hk.2⟩, e⟩
  have hlen : (S ++ shapesE u.kids).length = S.length + u.kids.length := by rw [List.length_append, shapesE_length]
  have hT := (tameE_eq u).1 hTu
  refine ⟨by omega, by rw [hlen]; exact he.room, ?_, ?_, ?_, ?_, h.below.trans (he.below D (by omega) (by omega) (by omega) (by omega)), ?_, by have := he.size; omega, he.room.fresh hDg⟩
  · exact h.root.next (fun j _ => World.cell?_of_block (w := w) (a := ⟨D, 0 + j, none⟩) (hoth D (by omega) (by omega) (by omega))) he.size hlm
  · intro j hj hji
    by_cases hlt : j < i
    · have hjS : j < S.length := by omega
      rw [List.getElem_append_left hjS]
      exact (h.par j hjS hlt).next (fun c hc => he.low _ (by omega) (fun _ => .inl (by omega))) he.size hlm
    · obtain rfl : j = i := by omega
      rw [List.getElem_append_left hi, ← hu]
      exact he.parted rfl (by omega) hT.2.1 hcap hroom (by omega) (by omega) (by omega) (by omega)
  · intro j hj hij
    by_cases hlt : j < S.length
    · rw [List.getElem_append_left hlt]
      obtain ⟨v, v1, v2, v3, v4⟩ := h.src j hlt (by omega)
      refine ⟨v, v1, v2, v3, fun c x hc => ?_⟩
      have hc13 : c < 13 := (List.getElem?_eq_some_iff.1 hc).1
      rw [he.low (j * 13 + c) (by omega) (fun _ => .inr (by omega))]
      exact v4 c x hc
    · rw [List.getElem_append_right (by omega)]
      have hq : j - S.length < u.kids.length := by omega
      have h3 := srcE_new (n := S.length) hH.2.2 hT.2.2 he.new (j - S.length) hq
      rw [show S.length + (j - S.length) = j by omega] at h3
      have h4 := shapesE_at u.kids (j - S.length) hq
      rw [List.getElem?_eq_getElem (by rw [shapesE_length]; exact hq)] at h4
      rw [Option.some.inj h4]
      exact h3
  · have hb := h.left
    rw [List.drop_append_of_le_length (by omega), sizesES_append, sizesES_shapes]
    have h1 := List.drop_eq_getElem_cons hi
    rw [h1] at hb
    simp only [sizesES] at hb
    rw [← hu, sizeES_shape, u.size_eq] at hb
    omega
  · exact (hoth (D + 1) (by omega) (by omega) (by omega)).trans h.res
theorem cop_start {w0 w w' : World} {M D g R cap : Nat} {t : ET} (hD : D = w0.heap.size) (hMD : M ≤ D) (hDg : D + 2 ≤ g) (hgR : R = g + 1) (hcap : cap ≤ maxLen) (hb : t.size = cap + 1) (hbel : Below D w0 w) (hres : w.heap[D + 1]? = some ZE) (hsz : R < w.heap.size) (hH : HeldE w0 M t) (hTu : TameE t) (he : PartEffE w w' D 0 R g 0 cap t) :
    CopRel w0 M D g R cap t 0 (shapesE t.kids) w' := by
  have hse := t.size_eq
  have g1 := sizesE_ge t.kids
  have hT := (tameE_eq t).1 hTu
  have hlen := shapesE_length t.kids
  have hroom : 0 + t.kids.length ≤ cap := by omega
  refine ⟨Nat.zero_le _, by rw [hlen]; simpa using he.room, ?_, fun j _ h => absurd h (Nat.not_lt_zero _), ?_, ?_, hbel.trans (he.below D (by omega) (by omega) (by omega) (Nat.le_refl _)), ?_, by have := he.size; omega, he.room.fresh hDg⟩
  · have := he.parted (S := []) (lo := 0) (B := D + 2) (D := D) rfl (Nat.le_refl _) hT.2.1 hcap hroom (by omega) (by omega) (by omega) (by omega)
    simpa using this
  · intro j hj _
    have hq : j < t.kids.length := by omega
    have h3 := srcE_new (n := 0) hH.2.2 hT.2.2 he.new j hq
    rw [Nat.zero_add] at h3
    have h4 := shapesE_at t.kids j hq
    rw [List.getElem?_eq_getElem hj] at h4
    rw [Option.some.inj h4]
    exact h3
  · rw [List.drop_zero, sizesES_shapes]
    omega
  · exact (he.other (D + 1) (by omega) (by omega) (by omega) (by omega)).trans hres
/-- When all is copied, the root is a tree in blocks of the call's own. -/
theorem cop_end {w0 w : World} {M D g R cap i : Nat} {t : ET} {S : List ES} (h : CopRel w0 M D g R cap t i S w) (hi : S.length ≤ i) :
    ∃ u : ET, shapeE u = shapeE t ∧ TameE u ∧ (∀ j v, u.cells[j]? = some v → w.cell? ⟨D, 0 + j, none⟩ = some v) ∧ HeldEP w (Fresh w (D + 2)) u := by
  have hm : ∀ k, LmE (D + 2) D g R w k → Fresh w (D + 2) k := fun k hk => hk.1
  refine partedE_tree h.fresh (h.root.mono hm) fun j x _ hx => ?_
  exact roomE_trees h.fresh S (fun j hj => (h.par j hj (by omega)).mono hm) (S.length - j) j x (Nat.le_refl _) hx
end
end Go.Proofs.YthdhdmmlmbkalaaGreatDoor
