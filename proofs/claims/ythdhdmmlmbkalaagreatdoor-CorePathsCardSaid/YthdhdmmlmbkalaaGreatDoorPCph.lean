/-
  pavanelaw08.CorePaths, as far as its data are tame and lives is true.
-/
import Derived.Test.YthdhdmmlmbkalaaGreatDoorPCrd
import Derived.Test.YthdhdmmlmbkalaaGreatDoorPEux
set_option linter.unusedVariables false
set_option linter.unusedSimpArgs false
set_option linter.unusedSectionVars false
set_option linter.unnecessarySimpa false
namespace Go.Proofs.YthdhdmmlmbkalaaGreatDoor
open Go.RowKit

def Lives8 : Prop := ∀ w : World, Calls Tryz.prog 7 #[] w fun e w' => e = .returned (.bool true) ∧ Below w.heap.size w w'
theorem lightE_few {a x : ET} (h : lightE [a, x] = true) : (a.size ≤ 300 ∧ a.depth ≤ 300) ∧ x.size ≤ 300 ∧ x.depth ≤ 300 := by
  simp only [lightE, List.all_cons, List.all_nil, Bool.and_true, Bool.and_eq_true, decide_eq_true_eq] at h
  have h1 := budE_few a 300 300 h.1.1
  have h2 := budE_few x 300 300 h.2.1
  omega
theorem below_add {w W V : World} {O : Obj} (hb : Below w.heap.size w W) (h : W.alloc O = V) : Below w.heap.size w V := h ▸ hb.alloc hb.size _
theorem new_add {W V : World} {O : Obj} (h : W.alloc O = V) : V.heap[W.heap.size]? = some O := h ▸ World.alloc_heap_new _ _
theorem block_call {W V : World} {Q : Obj} {k : Nat} (hk : W.heap[k]? = some Q) (hb : Below W.heap.size W V) : V.heap[k]? = some Q := (hb.block k (Array.getElem?_eq_some_iff.1 hk).1).trans hk
/-- A variable that holds an expression. -/
def VarE (W : World) (B : Nat) (u : ET) : Prop := W.heap[B]? = some (Obj.cells #[.int .i64 u.k, .int .i64 u.d.k, .bool u.d.g, .slice u.d.la u.d.ln u.d.lc, .bool u.d.bb, .string u.d.s, .slice u.d.ia u.d.items.length u.d.ic, .slice u.d.ta u.d.tail.length u.d.tc, .int .i64 u.v, .slice u.va u.vs.length u.vc, .bool u.rs, .int .i64 u.p, .slice u.ka u.kids.length u.kc] 31) ∧ HeldE W W.heap.size u
theorem VarE.next {W V : World} {B : Nat} {u : ET} (h : VarE W B u) (hb : Below W.heap.size W V) : VarE V B u := ⟨block_call h.1 hb, (h.2.below (Nat.le_refl _) hb).upM hb.size⟩
theorem VarE.add {W V : World} {B : Nat} {u : ET} {O : Obj} (h : VarE W B u) (hV : W.alloc O = V) : VarE V B u := h.next (hV ▸ (Below.refl _ _).alloc (Nat.le_refl _) _)
theorem VarE.new {W V : World} {u : ET} (h : HeldE W W.heap.size u) (hV : W.alloc (Obj.cells #[.int .i64 u.k, .int .i64 u.d.k, .bool u.d.g, .slice u.d.la u.d.ln u.d.lc, .bool u.d.bb, .string u.d.s, .slice u.d.ia u.d.items.length u.d.ic, .slice u.d.ta u.d.tail.length u.d.tc, .int .i64 u.v, .slice u.va u.vs.length u.vc, .bool u.rs, .int .i64 u.p, .slice u.ka u.kids.length u.kc] 31) = V) : VarE V W.heap.size u := by
  have hb : Below W.heap.size W V := hV ▸ (Below.refl _ _).alloc (Nat.le_refl _) _
  exact ⟨new_add hV, (h.below (Nat.le_refl _) hb).upM hb.size⟩
theorem VarE.lt {W : World} {B : Nat} {u : ET} (h : VarE W B u) : B < W.heap.size := (Array.getElem?_eq_some_iff.1 h.1).1
theorem rput_two (t x : ET) (hT : TameE t) (hX : TameE x) (hts : t.size ≤ 12000000) (pa : Option Addr) (pc : Nat) (path : List Int) (w : World) (hH : HeldE w w.heap.size t) (hHX : HeldE w w.heap.size x) (hP : IntsAt w w.heap.size pa pc path) :
    Calls Tryz.prog 11 #[.agg #[.int .i64 t.k, .int .i64 t.d.k, .bool t.d.g, .slice t.d.la t.d.ln t.d.lc, .bool t.d.bb, .string t.d.s, .slice t.d.ia t.d.items.length t.d.ic, .slice t.d.ta t.d.tail.length t.d.tc, .int .i64 t.v, .slice t.va t.vs.length t.vc, .bool t.rs, .int .i64 t.p, .slice t.ka t.kids.length t.kc], .slice pa path.length pc, .agg #[.int .i64 x.k, .int .i64 x.d.k, .bool x.d.g, .slice x.d.la x.d.ln x.d.lc, .bool x.d.bb, .string x.d.s, .slice x.d.ia x.d.items.length x.d.ic, .slice x.d.ta x.d.tail.length x.d.tc, .int .i64 x.v, .slice x.va x.vs.length x.vc, .bool x.rs, .int .i64 x.p, .slice x.ka x.kids.length x.kc]] w (TwoE (putZ8 (shapeE t) path (shapeE x)) (putES (shapeE t) path (shapeE x)).isSome w) := by
  refine (rput_all path.length w.heap.size t x pa pc path w (Nat.le_refl _) hT hX hts (Nat.le_refl _) hH hHX hP).mono ?_
  rintro e w' ⟨u, rfl, hs, ht, hh, hb⟩
  exact ⟨u, rfl, hs, ht, hh.held fun k hk => hk.2, hb⟩
set_option maxRecDepth 100000 in
set_option maxHeartbeats 6400000 in
theorem corePaths_walk (LV : Lives8) (M : Nat) (a x : ET) (hTa : lightE [a, x] = true → TameE a) (hTx : lightE [a, x] = true → TameE x) (pa : Option Addr) (pc : Nat) (path : List Int) (w : World) (hM : M ≤ w.heap.size) (hA : HeldE w M a) (hX : HeldE w M x) (hP : IntsAt w M pa pc path) :
    Calls Tryz.prog 3 #[.agg #[.int .i64 a.k, .int .i64 a.d.k, .bool a.d.g, .slice a.d.la a.d.ln a.d.lc, .bool a.d.bb, .string a.d.s, .slice a.d.ia a.d.items.length a.d.ic, .slice a.d.ta a.d.tail.length a.d.tc, .int .i64 a.v, .slice a.va a.vs.length a.vc, .bool a.rs, .int .i64 a.p, .slice a.ka a.kids.length a.kc], .agg #[.int .i64 x.k, .int .i64 x.d.k, .bool x.d.g, .slice x.d.la x.d.ln x.d.lc, .bool x.d.bb, .string x.d.s, .slice x.d.ia x.d.items.length x.d.ic, .slice x.d.ta x.d.tail.length x.d.tc, .int .i64 x.v, .slice x.va x.vs.length x.vc, .bool x.rs, .int .i64 x.p, .slice x.ka x.kids.length x.kc], .slice pa path.length pc] w fun e w' => e = .returned (.bool true) ∧ Below w.heap.size w w' := by
  obtain ⟨W3, hW3, a0, a1, a2, hz, hbel, -⟩ := three3 w (Obj.cells #[.int .i64 a.k, .int .i64 a.d.k, .bool a.d.g, .slice a.d.la a.d.ln a.d.lc, .bool a.d.bb, .string a.d.s, .slice a.d.ia a.d.items.length a.d.ic, .slice a.d.ta a.d.tail.length a.d.tc, .int .i64 a.v, .slice a.va a.vs.length a.vc, .bool a.rs, .int .i64 a.p, .slice a.ka a.kids.length a.kc] 31) (Obj.cells #[.int .i64 x.k, .int .i64 x.d.k, .bool x.d.g, .slice x.d.la x.d.ln x.d.lc, .bool x.d.bb, .string x.d.s, .slice x.d.ia x.d.items.length x.d.ic, .slice x.d.ta x.d.tail.length x.d.tc, .int .i64 x.v, .slice x.va x.vs.length x.vc, .bool x.rs, .int .i64 x.p, .slice x.ka x.kids.length x.kc] 31) (Obj.cells #[.int .i64 a.k, .int .i64 a.d.k, .bool a.d.g, .slice a.d.la a.d.ln a.d.lc, .bool a.d.bb, .string a.d.s, .slice a.d.ia a.d.items.length a.d.ic, .slice a.d.ta a.d.tail.length a.d.tc, .int .i64 a.v, .slice a.va a.vs.length a.vc, .bool a.rs, .int .i64 a.p, .slice a.ka a.kids.length a.kc, .int .i64 x.k, .int .i64 x.d.k, .bool x.d.g, .slice x.d.la x.d.ln x.d.lc, .bool x.d.bb, .string x.d.s, .slice x.d.ia x.d.items.length x.d.ic, .slice x.d.ta x.d.tail.length x.d.tc, .int .i64 x.v, .slice x.va x.vs.length x.vc, .bool x.rs, .int .i64 x.p, .slice x.ka x.kids.length x.kc] 31)
  have hHA := fun W (hb : Below w.heap.size w W) => hA.below hM hb
  have hHX := fun W (hb : Below w.heap.size w W) => hX.below hM hb
  have hHP := fun W (hb : Below w.heap.size w W) => hP.keep (w' := W) fun q hq => hb.block q (by omega)
  have hrow : LiesER W3 (w.heap.size + 2 + 1) [a, x] (w.heap.size + 2) 0 := by
    rw [liesER_cons, liesER_cons, liesER_nil]
    refine ⟨liesE_held.2 ⟨by omega, fun j v hj => ?_, (hHA W3 hbel).upM (by omega)⟩, liesE_held.2 ⟨by omega, fun j v hj => ?_, (hHX W3 hbel).upM (by omega)⟩, trivial⟩
    · have hj13 : j < 13 := (List.getElem?_eq_some_iff.1 hj).1
      rw [Lib.cell_of_heap a2]
      rcases (show j = 0 ∨ j = 1 ∨ j = 2 ∨ j = 3 ∨ j = 4 ∨ j = 5 ∨ j = 6 ∨ j = 7 ∨ j = 8 ∨ j = 9 ∨ j = 10 ∨ j = 11 ∨ j = 12 by omega) with rfl | rfl | rfl | rfl | rfl | rfl | rfl | rfl | rfl | rfl | rfl | rfl | rfl <;> exact hj
    · have hj13 : j < 13 := (List.getElem?_eq_some_iff.1 hj).1
      rw [Lib.cell_of_heap a2]
      rcases (show j = 0 ∨ j = 1 ∨ j = 2 ∨ j = 3 ∨ j = 4 ∨ j = 5 ∨ j = 6 ∨ j = 7 ∨ j = 8 ∨ j = 9 ∨ j = 10 ∨ j = 11 ∨ j = 12 by omega) with rfl | rfl | rfl | rfl | rfl | rfl | rfl | rfl | rfl | rfl | rfl | rfl | rfl <;> exact hj
  have hlt := lightE_any (w.heap.size + 2 + 1) [a, x] (some ⟨w.heap.size + 2, 0, none⟩) 2 W3 (by omega) ⟨Nat.le_refl 2, by decide, fun _ => ⟨rfl, Nat.lt_succ_self _⟩, fun e => by cases e⟩ hrow
  have HH := Lib.hid (And.intro hHA (And.intro hHX (And.intro hHP (And.intro hlt (And.intro hW3 (And.intro a0 (And.intro a1 (And.intro hbel (And.intro hTa (And.intro hTx LV))))))))))
  clear hHA hHX hHP hlt hW3 a0 a1 a2 hbel hrow hA hX hP hTa hTx LV
  obtain ⟨lb, hlb⟩ : ∃ lb, lightE [a, x] = lb := ⟨_, rfl⟩
  rw [hlb] at HH
  have HLB := Lib.hid hlb
  clear hlb
  go_enter Tryz.func3, Tryz.ntmps3
  go_wp2_with fail
  rw [← HH.out.2.2.2.2.1]
  refine HH.out.2.2.2.1.mono ?_
  rintro e w4 ⟨rfl, b4⟩
  obtain ⟨xa, xx, hb4⟩ : w4.heap[w.heap.size]? = some (Obj.cells #[.int .i64 a.k, .int .i64 a.d.k, .bool a.d.g, .slice a.d.la a.d.ln a.d.lc, .bool a.d.bb, .string a.d.s, .slice a.d.ia a.d.items.length a.d.ic, .slice a.d.ta a.d.tail.length a.d.tc, .int .i64 a.v, .slice a.va a.vs.length a.vc, .bool a.rs, .int .i64 a.p, .slice a.ka a.kids.length a.kc] 31) ∧ w4.heap[w.heap.size + 1]? = some (Obj.cells #[.int .i64 x.k, .int .i64 x.d.k, .bool x.d.g, .slice x.d.la x.d.ln x.d.lc, .bool x.d.bb, .string x.d.s, .slice x.d.ia x.d.items.length x.d.ic, .slice x.d.ta x.d.tail.length x.d.tc, .int .i64 x.v, .slice x.va x.vs.length x.vc, .bool x.rs, .int .i64 x.p, .slice x.ka x.kids.length x.kc] 31) ∧ Below w.heap.size w w4 := ⟨block_call HH.out.2.2.2.2.2.1 b4, block_call HH.out.2.2.2.2.2.2.1 b4, HH.out.2.2.2.2.2.2.2.1.trans (b4.mono (by omega))⟩
  have H4 := Lib.hid (And.intro xa (And.intro xx hb4))
  clear xa xx hb4 b4
  cases lb
  · go_wp2_with fail
    refine (HH.out.2.2.2.2.2.2.2.2.2.2 w4).mono ?_
    rintro e w5 ⟨rfl, b5⟩
    have hb5 := Lib.hid (H4.out.2.2.trans (b5.mono H4.out.2.2.size))
    clear b5
    go_wp2_with fail
    go_ret
    exact ⟨rfl, hb5.out⟩
  by_cases hp : 50 < path.length
  · have q1 : decide (50 < (path.length : Int)) = true := decide_eq_true (by omega)
    have q2 : decide (50 < path.length) = true := decide_eq_true hp
    go_wp2_with fail
    refine (HH.out.2.2.2.2.2.2.2.2.2.2 w4).mono ?_
    rintro e w5 ⟨rfl, b5⟩
    have hb5 := Lib.hid (H4.out.2.2.trans (b5.mono H4.out.2.2.size))
    clear b5
    go_wp2_with fail
    go_ret
    exact ⟨rfl, hb5.out⟩
  have q1 : decide (50 < (path.length : Int)) = false := decide_eq_false (by omega)
  have q2 : decide (50 < path.length) = false := decide_eq_false hp
  have hfew := lightE_few HLB.out
  obtain ⟨⟨s1, s2⟩, s3, s4⟩ := hfew
  have hsa : sizeES (shapeE a) ≤ 300 ∧ depthES (shapeE a) ≤ 300 := by rw [sizeES_shape, depthES_shape]; omega
  have hsx : sizeES (shapeE x) ≤ 300 ∧ depthES (shapeE x) ≤ 300 := by rw [sizeES_shape, depthES_shape]; omega
  have hf1 := atZ_few (shapeE a) path
  have hf2 := putZ_few (shapeE a) path (shapeE x)
  have hTA := HH.out.2.2.2.2.2.2.2.2.1 (by first | exact rfl | trivial)
  have hTX := HH.out.2.2.2.2.2.2.2.2.2.1 (by first | exact rfl | trivial)
  have va : VarE w4 w.heap.size a := ⟨H4.out.1, (HH.out.1 w4 H4.out.2.2).upM (by have := H4.out.2.2.size; omega)⟩
  have vx : VarE w4 (w.heap.size + 1) x := ⟨H4.out.2.1, (HH.out.2.1 w4 H4.out.2.2).upM (by have := H4.out.2.2.size; omega)⟩
  have hb4 := H4.out.2.2
  have hm4 := hb4.size
  have HF := Lib.hid (And.intro hsa (And.intro hsx (And.intro hf1 (And.intro hf2 (And.intro hTA hTX)))))
  clear hsa hsx hf1 hf2 hTA hTX
  obtain ⟨S1, hS1⟩ : ∃ S, atZ (shapeE a) path = S := ⟨_, rfl⟩
  obtain ⟨S2, hS2⟩ : ∃ S, putZ8 (shapeE a) path (shapeE x) = S := ⟨_, rfl⟩
  obtain ⟨b1, hb1⟩ : ∃ b, (atES (shapeE a) path).isSome = b := ⟨_, rfl⟩
  obtain ⟨b2, hb2⟩ : ∃ b, (putES (shapeE a) path (shapeE x)).isSome = b := ⟨_, rfl⟩
  rw [hS1, hS2] at HF
  have HS := Lib.hid (And.intro hS1 (And.intro hS2 (And.intro hb1 hb2)))
  clear hS1 hS2 hb1 hb2
  have e1 : (b1 == b1) = true := by cases b1 <;> rfl
  have e2 : (b2 == b2) = true := by cases b2 <;> rfl
  have c0 : w4.cell? ⟨w.heap.size, 0, none⟩ = some (.int .i64 a.k) := by rw [Lib.cell_of_heap va.1]; rfl
  have c1 : w4.cell? ⟨w.heap.size, 1, none⟩ = some (.int .i64 a.d.k) := by rw [Lib.cell_of_heap va.1]; rfl
  have c2 : w4.cell? ⟨w.heap.size, 2, none⟩ = some (.bool a.d.g) := by rw [Lib.cell_of_heap va.1]; rfl
  have c3 : w4.cell? ⟨w.heap.size, 3, none⟩ = some (.slice a.d.la a.d.ln a.d.lc) := by rw [Lib.cell_of_heap va.1]; rfl
  have c4 : w4.cell? ⟨w.heap.size, 4, none⟩ = some (.bool a.d.bb) := by rw [Lib.cell_of_heap va.1]; rfl
  have c5 : w4.cell? ⟨w.heap.size, 5, none⟩ = some (.string a.d.s) := by rw [Lib.cell_of_heap va.1]; rfl
  have c6 : w4.cell? ⟨w.heap.size, 6, none⟩ = some (.slice a.d.ia a.d.items.length a.d.ic) := by rw [Lib.cell_of_heap va.1]; rfl
  have c7 : w4.cell? ⟨w.heap.size, 7, none⟩ = some (.slice a.d.ta a.d.tail.length a.d.tc) := by rw [Lib.cell_of_heap va.1]; rfl
  have c8 : w4.cell? ⟨w.heap.size, 8, none⟩ = some (.int .i64 a.v) := by rw [Lib.cell_of_heap va.1]; rfl
  have c9 : w4.cell? ⟨w.heap.size, 9, none⟩ = some (.slice a.va a.vs.length a.vc) := by rw [Lib.cell_of_heap va.1]; rfl
  have c10 : w4.cell? ⟨w.heap.size, 10, none⟩ = some (.bool a.rs) := by rw [Lib.cell_of_heap va.1]; rfl
  have c11 : w4.cell? ⟨w.heap.size, 11, none⟩ = some (.int .i64 a.p) := by rw [Lib.cell_of_heap va.1]; rfl
  have c12 : w4.cell? ⟨w.heap.size, 12, none⟩ = some (.slice a.ka a.kids.length a.kc) := by rw [Lib.cell_of_heap va.1]; rfl
  have HC := Lib.hid (by have h := at_two w4.heap.size a (by omega) (by omega) HF.out.2.2.2.2.1 pa pc path w4 (Nat.le_refl _) va.2 ((HH.out.2.2.1 w4 hb4).upM (by omega)); rw [HS.out.1, HS.out.2.2.1] at h; exact h)
  have HV4 := Lib.hid (And.intro va ( And.intro vx (hb4)))
  clear va vx hb4
  go_wp2_with fail
  refine HC.out.mono ?_
  rintro e v5 ⟨u, rfl, hsu, htu, hhu, hk⟩
  clear c0 c1 c2 c3 c4 c5 c6 c7 c8 c9 c10 c11 c12
  obtain ⟨w5, hw⟩ : ∃ V, v5.alloc (Obj.cells #[.int .i64 u.k, .int .i64 u.d.k, .bool u.d.g, .slice u.d.la u.d.ln u.d.lc, .bool u.d.bb, .string u.d.s, .slice u.d.ia u.d.items.length u.d.ic, .slice u.d.ta u.d.tail.length u.d.tc, .int .i64 u.v, .slice u.va u.vs.length u.vc, .bool u.rs, .int .i64 u.p, .slice u.ka u.kids.length u.kc] 31) = V := ⟨_, rfl⟩
  have va : VarE w5 w.heap.size a := (VarE.next (HV4.out.1) hk).add hw
  have vx : VarE w5 (w.heap.size + 1) x := (VarE.next (HV4.out.2.1) hk).add hw
  have hb5 : Below w.heap.size w w5 := below_add ((HV4.out.2.2).trans (hk.mono (HV4.out.2.2).size)) hw
  have vu : VarE w5 v5.heap.size u := VarE.new hhu hw
  have hm5 := hb5.size
  have l5a := VarE.lt va
  have l5x := VarE.lt vx
  have l5u := VarE.lt vu
  have ku := Lib.hid (And.intro hsu htu)
  clear hsu htu hhu hk HC
  have c0 : w5.cell? ⟨w.heap.size, 0, none⟩ = some (.int .i64 a.k) := by rw [Lib.cell_of_heap va.1]; rfl
  have c1 : w5.cell? ⟨w.heap.size, 1, none⟩ = some (.int .i64 a.d.k) := by rw [Lib.cell_of_heap va.1]; rfl
  have c2 : w5.cell? ⟨w.heap.size, 2, none⟩ = some (.bool a.d.g) := by rw [Lib.cell_of_heap va.1]; rfl
  have c3 : w5.cell? ⟨w.heap.size, 3, none⟩ = some (.slice a.d.la a.d.ln a.d.lc) := by rw [Lib.cell_of_heap va.1]; rfl
  have c4 : w5.cell? ⟨w.heap.size, 4, none⟩ = some (.bool a.d.bb) := by rw [Lib.cell_of_heap va.1]; rfl
  have c5 : w5.cell? ⟨w.heap.size, 5, none⟩ = some (.string a.d.s) := by rw [Lib.cell_of_heap va.1]; rfl
  have c6 : w5.cell? ⟨w.heap.size, 6, none⟩ = some (.slice a.d.ia a.d.items.length a.d.ic) := by rw [Lib.cell_of_heap va.1]; rfl
  have c7 : w5.cell? ⟨w.heap.size, 7, none⟩ = some (.slice a.d.ta a.d.tail.length a.d.tc) := by rw [Lib.cell_of_heap va.1]; rfl
  have c8 : w5.cell? ⟨w.heap.size, 8, none⟩ = some (.int .i64 a.v) := by rw [Lib.cell_of_heap va.1]; rfl
  have c9 : w5.cell? ⟨w.heap.size, 9, none⟩ = some (.slice a.va a.vs.length a.vc) := by rw [Lib.cell_of_heap va.1]; rfl
  have c10 : w5.cell? ⟨w.heap.size, 10, none⟩ = some (.bool a.rs) := by rw [Lib.cell_of_heap va.1]; rfl
  have c11 : w5.cell? ⟨w.heap.size, 11, none⟩ = some (.int .i64 a.p) := by rw [Lib.cell_of_heap va.1]; rfl
  have c12 : w5.cell? ⟨w.heap.size, 12, none⟩ = some (.slice a.ka a.kids.length a.kc) := by rw [Lib.cell_of_heap va.1]; rfl
  have HC := Lib.hid (by have h := rat_two w5.heap.size a HF.out.2.2.2.2.1 pa pc path w5 (Nat.le_refl _) va.2 ((HH.out.2.2.1 w5 hb5).upM (by omega)); rw [HS.out.1, HS.out.2.2.1] at h; exact h)
  have HV5 := Lib.hid (And.intro va ( And.intro vx ( And.intro vu (hb5))))
  clear va vx vu hb5
  go_wp2_with fail
  (try rw [hw])
  refine HC.out.mono ?_
  rintro e v6 ⟨y, rfl, hsy, hty, hhy, hk⟩
  clear c0 c1 c2 c3 c4 c5 c6 c7 c8 c9 c10 c11 c12
  clear hw
  obtain ⟨w6, hw⟩ : ∃ V, v6.alloc (Obj.cells #[.int .i64 y.k, .int .i64 y.d.k, .bool y.d.g, .slice y.d.la y.d.ln y.d.lc, .bool y.d.bb, .string y.d.s, .slice y.d.ia y.d.items.length y.d.ic, .slice y.d.ta y.d.tail.length y.d.tc, .int .i64 y.v, .slice y.va y.vs.length y.vc, .bool y.rs, .int .i64 y.p, .slice y.ka y.kids.length y.kc] 31) = V := ⟨_, rfl⟩
  have va : VarE w6 w.heap.size a := (VarE.next (HV5.out.1) hk).add hw
  have vx : VarE w6 (w.heap.size + 1) x := (VarE.next (HV5.out.2.1) hk).add hw
  have vu : VarE w6 v5.heap.size u := (VarE.next (HV5.out.2.2.1) hk).add hw
  have hb6 : Below w.heap.size w w6 := below_add ((HV5.out.2.2.2).trans (hk.mono (HV5.out.2.2.2).size)) hw
  have vy : VarE w6 v6.heap.size y := VarE.new hhy hw
  have hm6 := hb6.size
  have l6a := VarE.lt va
  have l6x := VarE.lt vx
  have l6u := VarE.lt vu
  have l6y := VarE.lt vy
  have ky := Lib.hid (And.intro hsy hty)
  clear hsy hty hhy hk HC
  have c0 : w6.cell? ⟨w.heap.size, 0, none⟩ = some (.int .i64 a.k) := by rw [Lib.cell_of_heap va.1]; rfl
  have c1 : w6.cell? ⟨w.heap.size, 1, none⟩ = some (.int .i64 a.d.k) := by rw [Lib.cell_of_heap va.1]; rfl
  have c2 : w6.cell? ⟨w.heap.size, 2, none⟩ = some (.bool a.d.g) := by rw [Lib.cell_of_heap va.1]; rfl
  have c3 : w6.cell? ⟨w.heap.size, 3, none⟩ = some (.slice a.d.la a.d.ln a.d.lc) := by rw [Lib.cell_of_heap va.1]; rfl
  have c4 : w6.cell? ⟨w.heap.size, 4, none⟩ = some (.bool a.d.bb) := by rw [Lib.cell_of_heap va.1]; rfl
  have c5 : w6.cell? ⟨w.heap.size, 5, none⟩ = some (.string a.d.s) := by rw [Lib.cell_of_heap va.1]; rfl
  have c6 : w6.cell? ⟨w.heap.size, 6, none⟩ = some (.slice a.d.ia a.d.items.length a.d.ic) := by rw [Lib.cell_of_heap va.1]; rfl
  have c7 : w6.cell? ⟨w.heap.size, 7, none⟩ = some (.slice a.d.ta a.d.tail.length a.d.tc) := by rw [Lib.cell_of_heap va.1]; rfl
  have c8 : w6.cell? ⟨w.heap.size, 8, none⟩ = some (.int .i64 a.v) := by rw [Lib.cell_of_heap va.1]; rfl
  have c9 : w6.cell? ⟨w.heap.size, 9, none⟩ = some (.slice a.va a.vs.length a.vc) := by rw [Lib.cell_of_heap va.1]; rfl
  have c10 : w6.cell? ⟨w.heap.size, 10, none⟩ = some (.bool a.rs) := by rw [Lib.cell_of_heap va.1]; rfl
  have c11 : w6.cell? ⟨w.heap.size, 11, none⟩ = some (.int .i64 a.p) := by rw [Lib.cell_of_heap va.1]; rfl
  have c12 : w6.cell? ⟨w.heap.size, 12, none⟩ = some (.slice a.ka a.kids.length a.kc) := by rw [Lib.cell_of_heap va.1]; rfl
  have d0 : w6.cell? ⟨w.heap.size + 1, 0, none⟩ = some (.int .i64 x.k) := by rw [Lib.cell_of_heap vx.1]; rfl
  have d1 : w6.cell? ⟨w.heap.size + 1, 1, none⟩ = some (.int .i64 x.d.k) := by rw [Lib.cell_of_heap vx.1]; rfl
  have d2 : w6.cell? ⟨w.heap.size + 1, 2, none⟩ = some (.bool x.d.g) := by rw [Lib.cell_of_heap vx.1]; rfl
  have d3 : w6.cell? ⟨w.heap.size + 1, 3, none⟩ = some (.slice x.d.la x.d.ln x.d.lc) := by rw [Lib.cell_of_heap vx.1]; rfl
  have d4 : w6.cell? ⟨w.heap.size + 1, 4, none⟩ = some (.bool x.d.bb) := by rw [Lib.cell_of_heap vx.1]; rfl
  have d5 : w6.cell? ⟨w.heap.size + 1, 5, none⟩ = some (.string x.d.s) := by rw [Lib.cell_of_heap vx.1]; rfl
  have d6 : w6.cell? ⟨w.heap.size + 1, 6, none⟩ = some (.slice x.d.ia x.d.items.length x.d.ic) := by rw [Lib.cell_of_heap vx.1]; rfl
  have d7 : w6.cell? ⟨w.heap.size + 1, 7, none⟩ = some (.slice x.d.ta x.d.tail.length x.d.tc) := by rw [Lib.cell_of_heap vx.1]; rfl
  have d8 : w6.cell? ⟨w.heap.size + 1, 8, none⟩ = some (.int .i64 x.v) := by rw [Lib.cell_of_heap vx.1]; rfl
  have d9 : w6.cell? ⟨w.heap.size + 1, 9, none⟩ = some (.slice x.va x.vs.length x.vc) := by rw [Lib.cell_of_heap vx.1]; rfl
  have d10 : w6.cell? ⟨w.heap.size + 1, 10, none⟩ = some (.bool x.rs) := by rw [Lib.cell_of_heap vx.1]; rfl
  have d11 : w6.cell? ⟨w.heap.size + 1, 11, none⟩ = some (.int .i64 x.p) := by rw [Lib.cell_of_heap vx.1]; rfl
  have d12 : w6.cell? ⟨w.heap.size + 1, 12, none⟩ = some (.slice x.ka x.kids.length x.kc) := by rw [Lib.cell_of_heap vx.1]; rfl
  have HC := Lib.hid (by have h := put_two w6.heap.size a x (by omega) (by omega) HF.out.2.2.2.2.1 (by omega) (by omega) HF.out.2.2.2.2.2 pa pc path w6 (Nat.le_refl _) va.2 vx.2 ((HH.out.2.2.1 w6 hb6).upM (by omega)); rw [HS.out.2.1, HS.out.2.2.2] at h; exact h)
  have HV6 := Lib.hid (And.intro va ( And.intro vx ( And.intro vu ( And.intro vy (hb6)))))
  clear va vx vu vy hb6
  go_wp2_with fail
  (try rw [hw])
  refine HC.out.mono ?_
  rintro e v7 ⟨g, rfl, hsg, htg, hhg, hk⟩
  clear c0 c1 c2 c3 c4 c5 c6 c7 c8 c9 c10 c11 c12 d0 d1 d2 d3 d4 d5 d6 d7 d8 d9 d10 d11 d12
  clear hw
  obtain ⟨w7, hw⟩ : ∃ V, v7.alloc (Obj.cells #[.int .i64 g.k, .int .i64 g.d.k, .bool g.d.g, .slice g.d.la g.d.ln g.d.lc, .bool g.d.bb, .string g.d.s, .slice g.d.ia g.d.items.length g.d.ic, .slice g.d.ta g.d.tail.length g.d.tc, .int .i64 g.v, .slice g.va g.vs.length g.vc, .bool g.rs, .int .i64 g.p, .slice g.ka g.kids.length g.kc] 31) = V := ⟨_, rfl⟩
  have va : VarE w7 w.heap.size a := (VarE.next (HV6.out.1) hk).add hw
  have vx : VarE w7 (w.heap.size + 1) x := (VarE.next (HV6.out.2.1) hk).add hw
  have vu : VarE w7 v5.heap.size u := (VarE.next (HV6.out.2.2.1) hk).add hw
  have vy : VarE w7 v6.heap.size y := (VarE.next (HV6.out.2.2.2.1) hk).add hw
  have hb7 : Below w.heap.size w w7 := below_add ((HV6.out.2.2.2.2).trans (hk.mono (HV6.out.2.2.2.2).size)) hw
  have vg : VarE w7 v7.heap.size g := VarE.new hhg hw
  have hm7 := hb7.size
  have l7a := VarE.lt va
  have l7x := VarE.lt vx
  have l7u := VarE.lt vu
  have l7y := VarE.lt vy
  have l7g := VarE.lt vg
  have kg := Lib.hid (And.intro hsg htg)
  clear hsg htg hhg hk HC
  have c0 : w7.cell? ⟨w.heap.size, 0, none⟩ = some (.int .i64 a.k) := by rw [Lib.cell_of_heap va.1]; rfl
  have c1 : w7.cell? ⟨w.heap.size, 1, none⟩ = some (.int .i64 a.d.k) := by rw [Lib.cell_of_heap va.1]; rfl
  have c2 : w7.cell? ⟨w.heap.size, 2, none⟩ = some (.bool a.d.g) := by rw [Lib.cell_of_heap va.1]; rfl
  have c3 : w7.cell? ⟨w.heap.size, 3, none⟩ = some (.slice a.d.la a.d.ln a.d.lc) := by rw [Lib.cell_of_heap va.1]; rfl
  have c4 : w7.cell? ⟨w.heap.size, 4, none⟩ = some (.bool a.d.bb) := by rw [Lib.cell_of_heap va.1]; rfl
  have c5 : w7.cell? ⟨w.heap.size, 5, none⟩ = some (.string a.d.s) := by rw [Lib.cell_of_heap va.1]; rfl
  have c6 : w7.cell? ⟨w.heap.size, 6, none⟩ = some (.slice a.d.ia a.d.items.length a.d.ic) := by rw [Lib.cell_of_heap va.1]; rfl
  have c7 : w7.cell? ⟨w.heap.size, 7, none⟩ = some (.slice a.d.ta a.d.tail.length a.d.tc) := by rw [Lib.cell_of_heap va.1]; rfl
  have c8 : w7.cell? ⟨w.heap.size, 8, none⟩ = some (.int .i64 a.v) := by rw [Lib.cell_of_heap va.1]; rfl
  have c9 : w7.cell? ⟨w.heap.size, 9, none⟩ = some (.slice a.va a.vs.length a.vc) := by rw [Lib.cell_of_heap va.1]; rfl
  have c10 : w7.cell? ⟨w.heap.size, 10, none⟩ = some (.bool a.rs) := by rw [Lib.cell_of_heap va.1]; rfl
  have c11 : w7.cell? ⟨w.heap.size, 11, none⟩ = some (.int .i64 a.p) := by rw [Lib.cell_of_heap va.1]; rfl
  have c12 : w7.cell? ⟨w.heap.size, 12, none⟩ = some (.slice a.ka a.kids.length a.kc) := by rw [Lib.cell_of_heap va.1]; rfl
  have d0 : w7.cell? ⟨w.heap.size + 1, 0, none⟩ = some (.int .i64 x.k) := by rw [Lib.cell_of_heap vx.1]; rfl
  have d1 : w7.cell? ⟨w.heap.size + 1, 1, none⟩ = some (.int .i64 x.d.k) := by rw [Lib.cell_of_heap vx.1]; rfl
  have d2 : w7.cell? ⟨w.heap.size + 1, 2, none⟩ = some (.bool x.d.g) := by rw [Lib.cell_of_heap vx.1]; rfl
  have d3 : w7.cell? ⟨w.heap.size + 1, 3, none⟩ = some (.slice x.d.la x.d.ln x.d.lc) := by rw [Lib.cell_of_heap vx.1]; rfl
  have d4 : w7.cell? ⟨w.heap.size + 1, 4, none⟩ = some (.bool x.d.bb) := by rw [Lib.cell_of_heap vx.1]; rfl
  have d5 : w7.cell? ⟨w.heap.size + 1, 5, none⟩ = some (.string x.d.s) := by rw [Lib.cell_of_heap vx.1]; rfl
  have d6 : w7.cell? ⟨w.heap.size + 1, 6, none⟩ = some (.slice x.d.ia x.d.items.length x.d.ic) := by rw [Lib.cell_of_heap vx.1]; rfl
  have d7 : w7.cell? ⟨w.heap.size + 1, 7, none⟩ = some (.slice x.d.ta x.d.tail.length x.d.tc) := by rw [Lib.cell_of_heap vx.1]; rfl
  have d8 : w7.cell? ⟨w.heap.size + 1, 8, none⟩ = some (.int .i64 x.v) := by rw [Lib.cell_of_heap vx.1]; rfl
  have d9 : w7.cell? ⟨w.heap.size + 1, 9, none⟩ = some (.slice x.va x.vs.length x.vc) := by rw [Lib.cell_of_heap vx.1]; rfl
  have d10 : w7.cell? ⟨w.heap.size + 1, 10, none⟩ = some (.bool x.rs) := by rw [Lib.cell_of_heap vx.1]; rfl
  have d11 : w7.cell? ⟨w.heap.size + 1, 11, none⟩ = some (.int .i64 x.p) := by rw [Lib.cell_of_heap vx.1]; rfl
  have d12 : w7.cell? ⟨w.heap.size + 1, 12, none⟩ = some (.slice x.ka x.kids.length x.kc) := by rw [Lib.cell_of_heap vx.1]; rfl
  have HC := Lib.hid (by have h := rput_two a x HF.out.2.2.2.2.1 HF.out.2.2.2.2.2 (by omega) pa pc path w7 va.2 vx.2 ((HH.out.2.2.1 w7 hb7).upM (by omega)); rw [HS.out.2.1, HS.out.2.2.2] at h; exact h)
  have HV7 := Lib.hid (And.intro va ( And.intro vx ( And.intro vu ( And.intro vy ( And.intro vg (hb7))))))
  clear va vx vu vy vg hb7
  go_wp2_with fail
  (try rw [hw])
  refine HC.out.mono ?_
  rintro e v8 ⟨r, rfl, hsr, htr, hhr, hk⟩
  clear c0 c1 c2 c3 c4 c5 c6 c7 c8 c9 c10 c11 c12 d0 d1 d2 d3 d4 d5 d6 d7 d8 d9 d10 d11 d12
  clear hw
  obtain ⟨w8, hw⟩ : ∃ V, v8.alloc (Obj.cells #[.int .i64 r.k, .int .i64 r.d.k, .bool r.d.g, .slice r.d.la r.d.ln r.d.lc, .bool r.d.bb, .string r.d.s, .slice r.d.ia r.d.items.length r.d.ic, .slice r.d.ta r.d.tail.length r.d.tc, .int .i64 r.v, .slice r.va r.vs.length r.vc, .bool r.rs, .int .i64 r.p, .slice r.ka r.kids.length r.kc] 31) = V := ⟨_, rfl⟩
  have va : VarE w8 w.heap.size a := (VarE.next (HV7.out.1) hk).add hw
  have vx : VarE w8 (w.heap.size + 1) x := (VarE.next (HV7.out.2.1) hk).add hw
  have vu : VarE w8 v5.heap.size u := (VarE.next (HV7.out.2.2.1) hk).add hw
  have vy : VarE w8 v6.heap.size y := (VarE.next (HV7.out.2.2.2.1) hk).add hw
  have vg : VarE w8 v7.heap.size g := (VarE.next (HV7.out.2.2.2.2.1) hk).add hw
  have hb8 : Below w.heap.size w w8 := below_add ((HV7.out.2.2.2.2.2).trans (hk.mono (HV7.out.2.2.2.2.2).size)) hw
  have vr : VarE w8 v8.heap.size r := VarE.new hhr hw
  have hm8 := hb8.size
  have l8a := VarE.lt va
  have l8x := VarE.lt vx
  have l8u := VarE.lt vu
  have l8y := VarE.lt vy
  have l8g := VarE.lt vg
  have l8r := VarE.lt vr
  have kr := Lib.hid (And.intro hsr htr)
  clear hsr htr hhr hk HC
  have c0 : w8.cell? ⟨v5.heap.size, 0, none⟩ = some (.int .i64 u.k) := by rw [Lib.cell_of_heap vu.1]; rfl
  have c1 : w8.cell? ⟨v5.heap.size, 1, none⟩ = some (.int .i64 u.d.k) := by rw [Lib.cell_of_heap vu.1]; rfl
  have c2 : w8.cell? ⟨v5.heap.size, 2, none⟩ = some (.bool u.d.g) := by rw [Lib.cell_of_heap vu.1]; rfl
  have c3 : w8.cell? ⟨v5.heap.size, 3, none⟩ = some (.slice u.d.la u.d.ln u.d.lc) := by rw [Lib.cell_of_heap vu.1]; rfl
  have c4 : w8.cell? ⟨v5.heap.size, 4, none⟩ = some (.bool u.d.bb) := by rw [Lib.cell_of_heap vu.1]; rfl
  have c5 : w8.cell? ⟨v5.heap.size, 5, none⟩ = some (.string u.d.s) := by rw [Lib.cell_of_heap vu.1]; rfl
  have c6 : w8.cell? ⟨v5.heap.size, 6, none⟩ = some (.slice u.d.ia u.d.items.length u.d.ic) := by rw [Lib.cell_of_heap vu.1]; rfl
  have c7 : w8.cell? ⟨v5.heap.size, 7, none⟩ = some (.slice u.d.ta u.d.tail.length u.d.tc) := by rw [Lib.cell_of_heap vu.1]; rfl
  have c8 : w8.cell? ⟨v5.heap.size, 8, none⟩ = some (.int .i64 u.v) := by rw [Lib.cell_of_heap vu.1]; rfl
  have c9 : w8.cell? ⟨v5.heap.size, 9, none⟩ = some (.slice u.va u.vs.length u.vc) := by rw [Lib.cell_of_heap vu.1]; rfl
  have c10 : w8.cell? ⟨v5.heap.size, 10, none⟩ = some (.bool u.rs) := by rw [Lib.cell_of_heap vu.1]; rfl
  have c11 : w8.cell? ⟨v5.heap.size, 11, none⟩ = some (.int .i64 u.p) := by rw [Lib.cell_of_heap vu.1]; rfl
  have c12 : w8.cell? ⟨v5.heap.size, 12, none⟩ = some (.slice u.ka u.kids.length u.kc) := by rw [Lib.cell_of_heap vu.1]; rfl
  have d0 : w8.cell? ⟨v6.heap.size, 0, none⟩ = some (.int .i64 y.k) := by rw [Lib.cell_of_heap vy.1]; rfl
  have d1 : w8.cell? ⟨v6.heap.size, 1, none⟩ = some (.int .i64 y.d.k) := by rw [Lib.cell_of_heap vy.1]; rfl
  have d2 : w8.cell? ⟨v6.heap.size, 2, none⟩ = some (.bool y.d.g) := by rw [Lib.cell_of_heap vy.1]; rfl
  have d3 : w8.cell? ⟨v6.heap.size, 3, none⟩ = some (.slice y.d.la y.d.ln y.d.lc) := by rw [Lib.cell_of_heap vy.1]; rfl
  have d4 : w8.cell? ⟨v6.heap.size, 4, none⟩ = some (.bool y.d.bb) := by rw [Lib.cell_of_heap vy.1]; rfl
  have d5 : w8.cell? ⟨v6.heap.size, 5, none⟩ = some (.string y.d.s) := by rw [Lib.cell_of_heap vy.1]; rfl
  have d6 : w8.cell? ⟨v6.heap.size, 6, none⟩ = some (.slice y.d.ia y.d.items.length y.d.ic) := by rw [Lib.cell_of_heap vy.1]; rfl
  have d7 : w8.cell? ⟨v6.heap.size, 7, none⟩ = some (.slice y.d.ta y.d.tail.length y.d.tc) := by rw [Lib.cell_of_heap vy.1]; rfl
  have d8 : w8.cell? ⟨v6.heap.size, 8, none⟩ = some (.int .i64 y.v) := by rw [Lib.cell_of_heap vy.1]; rfl
  have d9 : w8.cell? ⟨v6.heap.size, 9, none⟩ = some (.slice y.va y.vs.length y.vc) := by rw [Lib.cell_of_heap vy.1]; rfl
  have d10 : w8.cell? ⟨v6.heap.size, 10, none⟩ = some (.bool y.rs) := by rw [Lib.cell_of_heap vy.1]; rfl
  have d11 : w8.cell? ⟨v6.heap.size, 11, none⟩ = some (.int .i64 y.p) := by rw [Lib.cell_of_heap vy.1]; rfl
  have d12 : w8.cell? ⟨v6.heap.size, 12, none⟩ = some (.slice y.ka y.kids.length y.kc) := by rw [Lib.cell_of_heap vy.1]; rfl
  have zu : u.size ≤ 100000 ∧ u.depth ≤ 10000 := by
    have h := HF.out.2.2.1
    have q1 := HF.out.1
    rw [← ku.out.1, sizeES_shape, depthES_shape] at h
    omega
  have zg : g.size ≤ 100000 ∧ g.depth ≤ 10000 := by
    have h := HF.out.2.2.2.1
    have q1 := HF.out.1
    have q2 := HF.out.2.1
    rw [← kg.out.1, sizeES_shape, depthES_shape] at h
    omega
  have HC := Lib.hid (rsameEE_yes w8.heap.size u y (ku.out.1.trans ky.out.1.symm) zu.1 zu.2 ku.out.2 ky.out.2 w8 (Nat.le_refl _) vu.2 vy.2)
  have HV8 := Lib.hid (And.intro va ( And.intro vx ( And.intro vu ( And.intro vy ( And.intro vg ( And.intro vr (hb8)))))))
  clear va vx vu vy vg vr hb8
  go_wp2_with fail
  (try rw [hw])
  refine HC.out.mono ?_
  rintro e w9 ⟨rfl, hk⟩
  clear c0 c1 c2 c3 c4 c5 c6 c7 c8 c9 c10 c11 c12 d0 d1 d2 d3 d4 d5 d6 d7 d8 d9 d10 d11 d12
  clear hw HC
  have va : VarE w9 w.heap.size a := VarE.next (HV8.out.1) hk
  have vx : VarE w9 (w.heap.size + 1) x := VarE.next (HV8.out.2.1) hk
  have vu : VarE w9 v5.heap.size u := VarE.next (HV8.out.2.2.1) hk
  have vy : VarE w9 v6.heap.size y := VarE.next (HV8.out.2.2.2.1) hk
  have vg : VarE w9 v7.heap.size g := VarE.next (HV8.out.2.2.2.2.1) hk
  have vr : VarE w9 v8.heap.size r := VarE.next (HV8.out.2.2.2.2.2.1) hk
  have hb9 : Below w.heap.size w w9 := (HV8.out.2.2.2.2.2.2).trans (hk.mono (HV8.out.2.2.2.2.2.2).size)
  have hm9 := hb9.size
  have l9a := VarE.lt va
  have l9x := VarE.lt vx
  have l9u := VarE.lt vu
  have l9y := VarE.lt vy
  have l9g := VarE.lt vg
  have l9r := VarE.lt vr
  have c0 : w9.cell? ⟨v7.heap.size, 0, none⟩ = some (.int .i64 g.k) := by rw [Lib.cell_of_heap vg.1]; rfl
  have c1 : w9.cell? ⟨v7.heap.size, 1, none⟩ = some (.int .i64 g.d.k) := by rw [Lib.cell_of_heap vg.1]; rfl
  have c2 : w9.cell? ⟨v7.heap.size, 2, none⟩ = some (.bool g.d.g) := by rw [Lib.cell_of_heap vg.1]; rfl
  have c3 : w9.cell? ⟨v7.heap.size, 3, none⟩ = some (.slice g.d.la g.d.ln g.d.lc) := by rw [Lib.cell_of_heap vg.1]; rfl
  have c4 : w9.cell? ⟨v7.heap.size, 4, none⟩ = some (.bool g.d.bb) := by rw [Lib.cell_of_heap vg.1]; rfl
  have c5 : w9.cell? ⟨v7.heap.size, 5, none⟩ = some (.string g.d.s) := by rw [Lib.cell_of_heap vg.1]; rfl
  have c6 : w9.cell? ⟨v7.heap.size, 6, none⟩ = some (.slice g.d.ia g.d.items.length g.d.ic) := by rw [Lib.cell_of_heap vg.1]; rfl
  have c7 : w9.cell? ⟨v7.heap.size, 7, none⟩ = some (.slice g.d.ta g.d.tail.length g.d.tc) := by rw [Lib.cell_of_heap vg.1]; rfl
  have c8 : w9.cell? ⟨v7.heap.size, 8, none⟩ = some (.int .i64 g.v) := by rw [Lib.cell_of_heap vg.1]; rfl
  have c9 : w9.cell? ⟨v7.heap.size, 9, none⟩ = some (.slice g.va g.vs.length g.vc) := by rw [Lib.cell_of_heap vg.1]; rfl
  have c10 : w9.cell? ⟨v7.heap.size, 10, none⟩ = some (.bool g.rs) := by rw [Lib.cell_of_heap vg.1]; rfl
  have c11 : w9.cell? ⟨v7.heap.size, 11, none⟩ = some (.int .i64 g.p) := by rw [Lib.cell_of_heap vg.1]; rfl
  have c12 : w9.cell? ⟨v7.heap.size, 12, none⟩ = some (.slice g.ka g.kids.length g.kc) := by rw [Lib.cell_of_heap vg.1]; rfl
  have d0 : w9.cell? ⟨v8.heap.size, 0, none⟩ = some (.int .i64 r.k) := by rw [Lib.cell_of_heap vr.1]; rfl
  have d1 : w9.cell? ⟨v8.heap.size, 1, none⟩ = some (.int .i64 r.d.k) := by rw [Lib.cell_of_heap vr.1]; rfl
  have d2 : w9.cell? ⟨v8.heap.size, 2, none⟩ = some (.bool r.d.g) := by rw [Lib.cell_of_heap vr.1]; rfl
  have d3 : w9.cell? ⟨v8.heap.size, 3, none⟩ = some (.slice r.d.la r.d.ln r.d.lc) := by rw [Lib.cell_of_heap vr.1]; rfl
  have d4 : w9.cell? ⟨v8.heap.size, 4, none⟩ = some (.bool r.d.bb) := by rw [Lib.cell_of_heap vr.1]; rfl
  have d5 : w9.cell? ⟨v8.heap.size, 5, none⟩ = some (.string r.d.s) := by rw [Lib.cell_of_heap vr.1]; rfl
  have d6 : w9.cell? ⟨v8.heap.size, 6, none⟩ = some (.slice r.d.ia r.d.items.length r.d.ic) := by rw [Lib.cell_of_heap vr.1]; rfl
  have d7 : w9.cell? ⟨v8.heap.size, 7, none⟩ = some (.slice r.d.ta r.d.tail.length r.d.tc) := by rw [Lib.cell_of_heap vr.1]; rfl
  have d8 : w9.cell? ⟨v8.heap.size, 8, none⟩ = some (.int .i64 r.v) := by rw [Lib.cell_of_heap vr.1]; rfl
  have d9 : w9.cell? ⟨v8.heap.size, 9, none⟩ = some (.slice r.va r.vs.length r.vc) := by rw [Lib.cell_of_heap vr.1]; rfl
  have d10 : w9.cell? ⟨v8.heap.size, 10, none⟩ = some (.bool r.rs) := by rw [Lib.cell_of_heap vr.1]; rfl
  have d11 : w9.cell? ⟨v8.heap.size, 11, none⟩ = some (.int .i64 r.p) := by rw [Lib.cell_of_heap vr.1]; rfl
  have d12 : w9.cell? ⟨v8.heap.size, 12, none⟩ = some (.slice r.ka r.kids.length r.kc) := by rw [Lib.cell_of_heap vr.1]; rfl
  have HC := Lib.hid (rsameEE_yes w9.heap.size g r (kg.out.1.trans kr.out.1.symm) zg.1 zg.2 kg.out.2 kr.out.2 w9 (Nat.le_refl _) vg.2 vr.2)
  have HV9 := Lib.hid (And.intro va ( And.intro vx ( And.intro vu ( And.intro vy ( And.intro vg ( And.intro vr (hb9)))))))
  clear va vx vu vy vg vr hb9 hk
  go_wp2_with fail
  refine HC.out.mono ?_
  rintro e w10 ⟨rfl, hk⟩
  clear c0 c1 c2 c3 c4 c5 c6 c7 c8 c9 c10 c11 c12 d0 d1 d2 d3 d4 d5 d6 d7 d8 d9 d10 d11 d12
  clear HC
  have hb10 := Lib.hid ((HV9.out.2.2.2.2.2.2).trans (hk.mono (HV9.out.2.2.2.2.2.2).size))
  clear hk
  go_wp2_with fail
  refine (HH.out.2.2.2.2.2.2.2.2.2.2 w10).mono ?_
  rintro e w11 ⟨rfl, b11⟩
  have hb11 := Lib.hid (hb10.out.trans (b11.mono hb10.out.size))
  clear b11
  go_wp2_with fail
  go_ret
  exact ⟨rfl, hb11.out⟩
end Go.Proofs.YthdhdmmlmbkalaaGreatDoor
