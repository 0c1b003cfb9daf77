/-
  core.copiedAlone. core.copied: the room, and what its part leaves. core.copied: its part, walked.
-/
import Derived.Test.YthdhdmmlmbkalaaGreatDoorJr7
import Derived.Test.YthdhdmmlmbkalaaGreatDoorJr5
set_option linter.unusedVariables false
set_option linter.unusedSimpArgs false
set_option linter.unusedSectionVars false
set_option linter.unnecessarySimpa false
namespace Go.Proofs.YthdhdmmlmbkalaaGreatDoor
section
open Go.RowKit

theorem results_e {fn : Func} {tmps : Array Value} {t : Tmp} {w : World} {b : Nat} {v0 v1 v2 v3 v4 v5 v6 v7 v8 v9 v10 v11 v12 : Value} (h : fn.results = #[.cell t 31]) (ht : tmps.getD t undef = .pointer (some ⟨b, 0, none⟩)) (c0 : w.cell? ⟨b, 0, none⟩ = some v0) (c1 : w.cell? ⟨b, 1, none⟩ = some v1) (c2 : w.cell? ⟨b, 2, none⟩ = some v2) (c3 : w.cell? ⟨b, 3, none⟩ = some v3) (c4 : w.cell? ⟨b, 4, none⟩ = some v4) (c5 : w.cell? ⟨b, 5, none⟩ = some v5) (c6 : w.cell? ⟨b, 6, none⟩ = some v6) (c7 : w.cell? ⟨b, 7, none⟩ = some v7) (c8 : w.cell? ⟨b, 8, none⟩ = some v8) (c9 : w.cell? ⟨b, 9, none⟩ = some v9) (c10 : w.cell? ⟨b, 10, none⟩ = some v10) (c11 : w.cell? ⟨b, 11, none⟩ = some v11) (c12 : w.cell? ⟨b, 12, none⟩ = some v12) :
    (results fn tmps).run Tryz.prog w = .ok (.agg #[v0, v1, v2, v3, v4, v5, v6, v7, v8, v9, v10, v11, v12]) w := by
  rw [Array.getD_eq_getD_getElem?] at ht
  simp [results, h, ht, go_sem, c0, c1, c2, c3, c4, c5, c6, c7, c8, c9, c10, c11, c12]
/-- What copiedAlone leaves. -/
def CAPost (t : ET) (w : World) (e : Ending) (w' : World) : Prop := ∃ (d : LT) (va : Option Addr) (vc : Nat), e = .returned (.agg #[.int .i64 t.k, .int .i64 d.k, .bool d.g, .slice d.la d.ln d.lc, .bool d.bb, .string d.s, .slice d.ia d.items.length d.ic, .slice d.ta d.tail.length d.tc, .int .i64 t.v, .slice va t.vs.length vc, .bool t.rs, .int .i64 t.p, .slice t.ka t.kids.length t.kc]) ∧ HeldP w' (Fresh w' w.heap.size) d ∧ IntsP w' (Fresh w' w.heap.size) va vc t.vs ∧ shape d = shape t.d ∧ FewD d ∧ Below w.heap.size w w'
set_option maxRecDepth 100000 in
set_option maxHeartbeats 6400000 in
theorem copiedAlone_any (M : Nat) (t : ET) (hF : FewD t.d) (hn : t.vs.length ≤ 1000000) (w : World) (hM : M ≤ w.heap.size) (hH : Held w M t.d) (hV : IntsAt w M t.va t.vc t.vs) :
    Calls Tryz.prog 39 #[.agg #[.int .i64 t.k, .int .i64 t.d.k, .bool t.d.g, .slice t.d.la t.d.ln t.d.lc, .bool t.d.bb, .string t.d.s, .slice t.d.ia t.d.items.length t.d.ic, .slice t.d.ta t.d.tail.length t.d.tc, .int .i64 t.v, .slice t.va t.vs.length t.vc, .bool t.rs, .int .i64 t.p, .slice t.ka t.kids.length t.kc]] w (CAPost t w) := by
  obtain ⟨w2, hw2, a0, a1, hz, hbel⟩ := two2 w (Obj.cells #[.int .i64 t.k, .int .i64 t.d.k, .bool t.d.g, .slice t.d.la t.d.ln t.d.lc, .bool t.d.bb, .string t.d.s, .slice t.d.ia t.d.items.length t.d.ic, .slice t.d.ta t.d.tail.length t.d.tc, .int .i64 t.v, .slice t.va t.vs.length t.vc, .bool t.rs, .int .i64 t.p, .slice t.ka t.kids.length t.kc] 31) (Obj.cells #[.int .i64 0, .int .i64 0, .bool false, .slice none 0 0, .bool false, .string ⟨#[]⟩, .slice none 0 0, .slice none 0 0, .int .i64 0, .slice none 0 0, .bool false, .int .i64 0, .slice none 0 0] 31)
  have hcp := copiedD_any M t.d hF w2 (Nat.le_trans hM hbel.size) (hH.below hM hbel)
  have hcl := fun W (hb : Below w.heap.size w W) => cloneI_any M t.va t.vc t.vs W (Nat.le_trans hM hb.size) (hV.keep fun q hq => hb.block q (by omega)) hn
  have HH := Lib.hid (And.intro hcp (And.intro hcl (And.intro hw2 (And.intro a0 (And.intro a1 (And.intro hz hbel))))))
  clear hcp hcl hw2 a0 a1 hbel hH hV hF hn
  go_enter Tryz.func39, Tryz.ntmps39
  go_wp2_with fail
  rw [← HH.out.2.2.1]
  refine HH.out.1.mono ?_
  rintro e w3 ⟨d, rfl, hP, hs, hf, b3⟩
  have x0 := (b3.block w.heap.size (by omega)).trans HH.out.2.2.2.1
  have x1 := (b3.block (w.heap.size + 1) (by omega)).trans HH.out.2.2.2.2.1
  have z3 : w.heap.size + 2 ≤ w3.heap.size := by have := b3.size; omega
  have hb3 := HH.out.2.2.2.2.2.2.trans (b3.mono (by omega))
  rw [hz] at hP
  have s1 : w3.cell? ⟨w.heap.size, 1, none⟩ = some (.int .i64 t.d.k) := by rw [Lib.cell_of_heap x0]; rfl
  have q1 : w3.frozen? ⟨w.heap.size, 1, none⟩ = false := Lib.frozen_of_heap x0 _
  have s2 : w3.cell? ⟨w.heap.size, 2, none⟩ = some (.bool t.d.g) := by rw [Lib.cell_of_heap x0]; rfl
  have q2 : w3.frozen? ⟨w.heap.size, 2, none⟩ = false := Lib.frozen_of_heap x0 _
  have s3 : w3.cell? ⟨w.heap.size, 3, none⟩ = some (.slice t.d.la t.d.ln t.d.lc) := by rw [Lib.cell_of_heap x0]; rfl
  have q3 : w3.frozen? ⟨w.heap.size, 3, none⟩ = false := Lib.frozen_of_heap x0 _
  have s4 : w3.cell? ⟨w.heap.size, 4, none⟩ = some (.bool t.d.bb) := by rw [Lib.cell_of_heap x0]; rfl
  have q4 : w3.frozen? ⟨w.heap.size, 4, none⟩ = false := Lib.frozen_of_heap x0 _
  have s5 : w3.cell? ⟨w.heap.size, 5, none⟩ = some (.string t.d.s) := by rw [Lib.cell_of_heap x0]; rfl
  have q5 : w3.frozen? ⟨w.heap.size, 5, none⟩ = false := Lib.frozen_of_heap x0 _
  have s6 : w3.cell? ⟨w.heap.size, 6, none⟩ = some (.slice t.d.ia t.d.items.length t.d.ic) := by rw [Lib.cell_of_heap x0]; rfl
  have q6 : w3.frozen? ⟨w.heap.size, 6, none⟩ = false := Lib.frozen_of_heap x0 _
  have s7 : w3.cell? ⟨w.heap.size, 7, none⟩ = some (.slice t.d.ta t.d.tail.length t.d.tc) := by rw [Lib.cell_of_heap x0]; rfl
  have q7 : w3.frozen? ⟨w.heap.size, 7, none⟩ = false := Lib.frozen_of_heap x0 _
  have s9 : w3.cell? ⟨w.heap.size, 9, none⟩ = some (.slice t.va t.vs.length t.vc) := by rw [Lib.cell_of_heap x0]; rfl
  have q9 : w3.frozen? ⟨w.heap.size, 9, none⟩ = false := Lib.frozen_of_heap x0 _
  obtain ⟨w4, hw4⟩ : ∃ W, (((((((w3.setCell ⟨w.heap.size, 1, none⟩ (.int .i64 d.k)).setCell ⟨w.heap.size, 2, none⟩ (.bool d.g)).setCell ⟨w.heap.size, 3, none⟩ (.slice d.la d.ln d.lc)).setCell ⟨w.heap.size, 4, none⟩ (.bool d.bb)).setCell ⟨w.heap.size, 5, none⟩ (.string d.s)).setCell ⟨w.heap.size, 6, none⟩ (.slice d.ia d.items.length d.ic)).setCell ⟨w.heap.size, 7, none⟩ (.slice d.ta d.tail.length d.tc)) = W := ⟨_, rfl⟩
  have y0 : w4.heap[w.heap.size]? = some (.cells #[.int .i64 t.k, .int .i64 d.k, .bool d.g, .slice d.la d.ln d.lc, .bool d.bb, .string d.s, .slice d.ia d.items.length d.ic, .slice d.ta d.tail.length d.tc, .int .i64 t.v, .slice t.va t.vs.length t.vc, .bool t.rs, .int .i64 t.p, .slice t.ka t.kids.length t.kc] 31 (0, 0)) := by rw [← hw4]; simp [World.setCell, Array.getElem?_modify, x0]
  have hk4 : ∀ k, k ≠ w.heap.size → w4.heap[k]? = w3.heap[k]? := fun k hk => by rw [← hw4]; simp [World.setCell, Array.getElem?_modify, Ne.symm hk]
  have z4 : w4.heap.size = w3.heap.size := by rw [← hw4]; simp [World.setCell]
  have hb4 : Below w.heap.size w w4 := by
    rw [← hw4]
    exact (((((((hb3.setCell (p := ⟨w.heap.size, 1, none⟩) (Nat.le_refl _) _).setCell (p := ⟨w.heap.size, 2, none⟩) (Nat.le_refl _) _).setCell (p := ⟨w.heap.size, 3, none⟩) (Nat.le_refl _) _).setCell (p := ⟨w.heap.size, 4, none⟩) (Nat.le_refl _) _).setCell (p := ⟨w.heap.size, 5, none⟩) (Nat.le_refl _) _).setCell (p := ⟨w.heap.size, 6, none⟩) (Nat.le_refl _) _).setCell (p := ⟨w.heap.size, 7, none⟩) (Nat.le_refl _) _)
  have HA := Lib.hid (And.intro hP (And.intro hs (And.intro hf (And.intro hw4 (And.intro y0 (And.intro hk4 (And.intro z4 (And.intro hb4 x1))))))))
  clear hP hs hf hw4 y0 hk4 z4 hb4 hb3 b3 x0 x1
  go_wp2_with fail
  rw [HA.out.2.2.2.1]
  refine (HH.out.2.1 w4 HA.out.2.2.2.2.2.2.2.1).mono ?_
  rintro e w5 ⟨va, vc, rfl, hI, b5⟩
  clear s1 q1 s2 q2 s3 q3 s4 q4 s5 q5 s6 q6 s7 q7 s9 q9
  obtain ⟨hP, hs, hf, -, y0, hk4, z4, hb4, x1⟩ := HA.out
  have y5 := (b5.block w.heap.size (by omega)).trans y0
  have r5 := (b5.block (w.heap.size + 1) (by omega)).trans ((hk4 _ (by omega)).trans x1)
  have hb5 := hb4.trans (b5.mono hb4.size)
  have z5 : w.heap.size + 2 ≤ w5.heap.size := by have := b5.size; omega
  have hP5 : HeldP w5 (Fresh w5 (w.heap.size + 2)) d := hP.keep (by have := b5.size; omega) fun k hk => by
    have e := (b5.block k (by have := hk.lt; omega)).trans (hk4 k (by have := hk.1; omega))
    exact ⟨hk.same e, e⟩
  have hI5 : IntsP w5 (Fresh w5 (w.heap.size + 2)) va vc t.vs := hI.keep fun k hk => ⟨hk.low (by omega), rfl⟩
  have u0 : w5.cell? ⟨w.heap.size, 0, none⟩ = some (.int .i64 t.k) := by rw [Lib.cell_of_heap y5]; rfl
  have u1 : w5.cell? ⟨w.heap.size, 1, none⟩ = some (.int .i64 d.k) := by rw [Lib.cell_of_heap y5]; rfl
  have u2 : w5.cell? ⟨w.heap.size, 2, none⟩ = some (.bool d.g) := by rw [Lib.cell_of_heap y5]; rfl
  have u3 : w5.cell? ⟨w.heap.size, 3, none⟩ = some (.slice d.la d.ln d.lc) := by rw [Lib.cell_of_heap y5]; rfl
  have u4 : w5.cell? ⟨w.heap.size, 4, none⟩ = some (.bool d.bb) := by rw [Lib.cell_of_heap y5]; rfl
  have u5 : w5.cell? ⟨w.heap.size, 5, none⟩ = some (.string d.s) := by rw [Lib.cell_of_heap y5]; rfl
  have u6 : w5.cell? ⟨w.heap.size, 6, none⟩ = some (.slice d.ia d.items.length d.ic) := by rw [Lib.cell_of_heap y5]; rfl
  have u7 : w5.cell? ⟨w.heap.size, 7, none⟩ = some (.slice d.ta d.tail.length d.tc) := by rw [Lib.cell_of_heap y5]; rfl
  have u8 : w5.cell? ⟨w.heap.size, 8, none⟩ = some (.int .i64 t.v) := by rw [Lib.cell_of_heap y5]; rfl
  have u9 : w5.cell? ⟨w.heap.size, 9, none⟩ = some (.slice t.va t.vs.length t.vc) := by rw [Lib.cell_of_heap y5]; rfl
  have u10 : w5.cell? ⟨w.heap.size, 10, none⟩ = some (.bool t.rs) := by rw [Lib.cell_of_heap y5]; rfl
  have u11 : w5.cell? ⟨w.heap.size, 11, none⟩ = some (.int .i64 t.p) := by rw [Lib.cell_of_heap y5]; rfl
  have u12 : w5.cell? ⟨w.heap.size, 12, none⟩ = some (.slice t.ka t.kids.length t.kc) := by rw [Lib.cell_of_heap y5]; rfl
  have q9 : w5.frozen? ⟨w.heap.size, 9, none⟩ = false := Lib.frozen_of_heap y5 _
  have r100 : w5.cell? ⟨w.heap.size + 1, 0, none⟩ = some (.int .i64 0) := by rw [Lib.cell_of_heap r5]; rfl
  have f100 : w5.frozen? ⟨w.heap.size + 1, 0, none⟩ = false := Lib.frozen_of_heap r5 _
  have r101 : w5.cell? ⟨w.heap.size + 1, 1, none⟩ = some (.int .i64 0) := by rw [Lib.cell_of_heap r5]; rfl
  have f101 : w5.frozen? ⟨w.heap.size + 1, 1, none⟩ = false := Lib.frozen_of_heap r5 _
  have r102 : w5.cell? ⟨w.heap.size + 1, 2, none⟩ = some (.bool false) := by rw [Lib.cell_of_heap r5]; rfl
  have f102 : w5.frozen? ⟨w.heap.size + 1, 2, none⟩ = false := Lib.frozen_of_heap r5 _
  have r103 : w5.cell? ⟨w.heap.size + 1, 3, none⟩ = some (.slice none 0 0) := by rw [Lib.cell_of_heap r5]; rfl
  have f103 : w5.frozen? ⟨w.heap.size + 1, 3, none⟩ = false := Lib.frozen_of_heap r5 _
  have r104 : w5.cell? ⟨w.heap.size + 1, 4, none⟩ = some (.bool false) := by rw [Lib.cell_of_heap r5]; rfl
  have f104 : w5.frozen? ⟨w.heap.size + 1, 4, none⟩ = false := Lib.frozen_of_heap r5 _
  have r105 : w5.cell? ⟨w.heap.size + 1, 5, none⟩ = some (.string ⟨#[]⟩) := by rw [Lib.cell_of_heap r5]; rfl
  have f105 : w5.frozen? ⟨w.heap.size + 1, 5, none⟩ = false := Lib.frozen_of_heap r5 _
  have r106 : w5.cell? ⟨w.heap.size + 1, 6, none⟩ = some (.slice none 0 0) := by rw [Lib.cell_of_heap r5]; rfl
  have f106 : w5.frozen? ⟨w.heap.size + 1, 6, none⟩ = false := Lib.frozen_of_heap r5 _
  have r107 : w5.cell? ⟨w.heap.size + 1, 7, none⟩ = some (.slice none 0 0) := by rw [Lib.cell_of_heap r5]; rfl
  have f107 : w5.frozen? ⟨w.heap.size + 1, 7, none⟩ = false := Lib.frozen_of_heap r5 _
  have r108 : w5.cell? ⟨w.heap.size + 1, 8, none⟩ = some (.int .i64 0) := by rw [Lib.cell_of_heap r5]; rfl
  have f108 : w5.frozen? ⟨w.heap.size + 1, 8, none⟩ = false := Lib.frozen_of_heap r5 _
  have r109 : w5.cell? ⟨w.heap.size + 1, 9, none⟩ = some (.slice none 0 0) := by rw [Lib.cell_of_heap r5]; rfl
  have f109 : w5.frozen? ⟨w.heap.size + 1, 9, none⟩ = false := Lib.frozen_of_heap r5 _
  have r110 : w5.cell? ⟨w.heap.size + 1, 10, none⟩ = some (.bool false) := by rw [Lib.cell_of_heap r5]; rfl
  have f110 : w5.frozen? ⟨w.heap.size + 1, 10, none⟩ = false := Lib.frozen_of_heap r5 _
  have r111 : w5.cell? ⟨w.heap.size + 1, 11, none⟩ = some (.int .i64 0) := by rw [Lib.cell_of_heap r5]; rfl
  have f111 : w5.frozen? ⟨w.heap.size + 1, 11, none⟩ = false := Lib.frozen_of_heap r5 _
  have r112 : w5.cell? ⟨w.heap.size + 1, 12, none⟩ = some (.slice none 0 0) := by rw [Lib.cell_of_heap r5]; rfl
  have f112 : w5.frozen? ⟨w.heap.size + 1, 12, none⟩ = false := Lib.frozen_of_heap r5 _
  have HY := Lib.hid (And.intro hP5 (And.intro hI5 (And.intro hs (And.intro hf hb5))))
  have HR5 := Lib.hid r5
  clear hP hs hf y0 hk4 z4 hb4 x1 b5 y5 r5 hb5 hP5 hI5 hI HA
  go_wp2_with fail
  (try simp only [Exit.inBlock, Exit.then])
  obtain ⟨w6, hw6⟩ : ∃ W, ((((((((((((((w5.setCell ⟨w.heap.size, 9, none⟩ (.slice va t.vs.length vc)).setCell ⟨w.heap.size + 1, 0, none⟩ (.int .i64 t.k)).setCell ⟨w.heap.size + 1, 1, none⟩ (.int .i64 d.k)).setCell ⟨w.heap.size + 1, 2, none⟩ (.bool d.g)).setCell ⟨w.heap.size + 1, 3, none⟩ (.slice d.la d.ln d.lc)).setCell ⟨w.heap.size + 1, 4, none⟩ (.bool d.bb)).setCell ⟨w.heap.size + 1, 5, none⟩ (.string d.s)).setCell ⟨w.heap.size + 1, 6, none⟩ (.slice d.ia d.items.length d.ic)).setCell ⟨w.heap.size + 1, 7, none⟩ (.slice d.ta d.tail.length d.tc)).setCell ⟨w.heap.size + 1, 8, none⟩ (.int .i64 t.v)).setCell ⟨w.heap.size + 1, 9, none⟩ (.slice va t.vs.length vc)).setCell ⟨w.heap.size + 1, 10, none⟩ (.bool t.rs)).setCell ⟨w.heap.size + 1, 11, none⟩ (.int .i64 t.p)).setCell ⟨w.heap.size + 1, 12, none⟩ (.slice t.ka t.kids.length t.kc)) = W := ⟨_, rfl⟩
  have hlow : ∀ k, w.heap.size + 2 ≤ k → w6.heap[k]? = w5.heap[k]? := fun k hk => by rw [← hw6]; simp [World.setCell, Array.getElem?_modify, show ¬ w.heap.size = k by omega, show ¬ w.heap.size + 1 = k by omega]
  have z6 : w6.heap.size = w5.heap.size := by rw [← hw6]; simp [World.setCell]
  have y6 : w6.heap[w.heap.size + 1]? = some (.cells #[.int .i64 t.k, .int .i64 d.k, .bool d.g, .slice d.la d.ln d.lc, .bool d.bb, .string d.s, .slice d.ia d.items.length d.ic, .slice d.ta d.tail.length d.tc, .int .i64 t.v, .slice va t.vs.length vc, .bool t.rs, .int .i64 t.p, .slice t.ka t.kids.length t.kc] 31 (0, 0)) := by rw [← hw6]; simp [World.setCell, Array.getElem?_modify, HR5.out]
  have hb6 : Below w.heap.size w w6 := by
    rw [← hw6]
    exact ((((((((((((((HY.out.2.2.2.2.setCell (p := ⟨w.heap.size, 9, none⟩) (Nat.le_refl _) _).setCell (p := ⟨w.heap.size + 1, 0, none⟩) (Nat.le_succ _) _).setCell (p := ⟨w.heap.size + 1, 1, none⟩) (Nat.le_succ _) _).setCell (p := ⟨w.heap.size + 1, 2, none⟩) (Nat.le_succ _) _).setCell (p := ⟨w.heap.size + 1, 3, none⟩) (Nat.le_succ _) _).setCell (p := ⟨w.heap.size + 1, 4, none⟩) (Nat.le_succ _) _).setCell (p := ⟨w.heap.size + 1, 5, none⟩) (Nat.le_succ _) _).setCell (p := ⟨w.heap.size + 1, 6, none⟩) (Nat.le_succ _) _).setCell (p := ⟨w.heap.size + 1, 7, none⟩) (Nat.le_succ _) _).setCell (p := ⟨w.heap.size + 1, 8, none⟩) (Nat.le_succ _) _).setCell (p := ⟨w.heap.size + 1, 9, none⟩) (Nat.le_succ _) _).setCell (p := ⟨w.heap.size + 1, 10, none⟩) (Nat.le_succ _) _).setCell (p := ⟨w.heap.size + 1, 11, none⟩) (Nat.le_succ _) _).setCell (p := ⟨w.heap.size + 1, 12, none⟩) (Nat.le_succ _) _)
  refine bodyPost_ret (v := .agg #[.int .i64 t.k, .int .i64 d.k, .bool d.g, .slice d.la d.ln d.lc, .bool d.bb, .string d.s, .slice d.ia d.items.length d.ic, .slice d.ta d.tail.length d.tc, .int .i64 t.v, .slice va t.vs.length vc, .bool t.rs, .int .i64 t.p, .slice t.ka t.kids.length t.kc]) (results_e rfl rfl (by rw [hw6, Lib.cell_of_heap y6]; rfl) (by rw [hw6, Lib.cell_of_heap y6]; rfl) (by rw [hw6, Lib.cell_of_heap y6]; rfl) (by rw [hw6, Lib.cell_of_heap y6]; rfl) (by rw [hw6, Lib.cell_of_heap y6]; rfl) (by rw [hw6, Lib.cell_of_heap y6]; rfl) (by rw [hw6, Lib.cell_of_heap y6]; rfl) (by rw [hw6, Lib.cell_of_heap y6]; rfl) (by rw [hw6, Lib.cell_of_heap y6]; rfl) (by rw [hw6, Lib.cell_of_heap y6]; rfl) (by rw [hw6, Lib.cell_of_heap y6]; rfl) (by rw [hw6, Lib.cell_of_heap y6]; rfl) (by rw [hw6, Lib.cell_of_heap y6]; rfl)) rfl ?_
  (try rw [hw6])
  have hk6 : ∀ k, Fresh w5 (w.heap.size + 2) k → Fresh w6 w.heap.size k ∧ w6.heap[k]? = w5.heap[k]? := fun k hk => ⟨(hk.same (hlow k hk.1)).low (by omega), hlow k hk.1⟩
  exact ⟨d, va, vc, rfl, HY.out.1.keep (by omega) hk6, HY.out.2.1.keep hk6, HY.out.2.2.1, HY.out.2.2.2.1, hb6⟩
end
end Go.Proofs.YthdhdmmlmbkalaaGreatDoor
namespace Go.Proofs.YthdhdmmlmbkalaaGreatDoor
section
open Go.RowKit

def cellsE : List ET → List Value
  | [] => []
  | e :: l => e.cells ++ cellsE l
theorem cellsE_length (l : List ET) : (cellsE l).length = l.length * 13 := by
  induction l with
  | nil => rfl
  | cons e l ih => rw [cellsE, List.length_append, ih, show e.cells.length = 13 from rfl, List.length_cons]; omega
theorem cellsE_at : ∀ (l : List ET) (k : Nat) (h : k < l.length) (j : Nat), j < 13 → (cellsE l)[k * 13 + j]? = l[k].cells[j]?
  | t :: l, 0, h, j, hj => by
    simp only [cellsE, Nat.zero_mul, Nat.zero_add, List.getElem_cons_zero]
    rw [List.getElem?_append_left (by rw [show t.cells.length = 13 from rfl]; exact hj)]
  | t :: l, k + 1, h, j, hj => by
    simp only [cellsE, List.getElem_cons_succ]
    rw [List.getElem?_append_right (by rw [show t.cells.length = 13 from rfl]; omega), show t.cells.length = 13 from rfl, show (k + 1) * 13 + j - 13 = k * 13 + j by omega]
    exact cellsE_at l k (by simpa using h) j hj
theorem cellsE_one (l : List ET) : ∀ u ∈ cellsE l, u.oneCell' = true := by
  induction l with
  | nil => intro u h; simp [cellsE] at h
  | cons e l ih =>
    intro u h
    rw [cellsE] at h
    rcases List.mem_append.1 h with h | h
    · simp only [ET.cells, List.mem_cons, List.not_mem_nil, or_false] at h
      rcases h with rfl | rfl | rfl | rfl | rfl | rfl | rfl | rfl | rfl | rfl | rfl | rfl | rfl <;> rfl
    · exact ih u h
theorem cells_of_liesER {w : World} {M : Nat} : ∀ (l : List ET) (b o : Nat), LiesER w M l b o → ∀ j v, (cellsE l)[j]? = some v → w.cell? ⟨b, o + j, none⟩ = some v
  | [], _, _, _, j, v, hj => by simp [cellsE] at hj
  | t :: l, b, o, h, j, v, hj => by
    rw [liesER_cons] at h
    rw [cellsE] at hj
    by_cases hlt : j < t.cells.length
    · rw [List.getElem?_append_left hlt] at hj
      exact (liesE_held.1 h.1).2.1 j v hj
    · rw [List.getElem?_append_right (by omega), show t.cells.length = 13 from rfl] at hj
      have := cells_of_liesER l b (o + 13) h.2 (j - 13) v hj
      rwa [show o + 13 + (j - 13) = o + j by rw [show t.cells.length = 13 from rfl] at hlt; omega] at this
/-- These values in a row. -/
def setAll (w : World) (b o : Nat) : List Value → World
  | [] => w
  | v :: l => setAll (w.setCell ⟨b, o, none⟩ v) b (o + 1) l
theorem setAll_size (b : Nat) : ∀ (l : List Value) (o : Nat) (w : World), (setAll w b o l).heap.size = w.heap.size
  | [], _, _ => rfl
  | v :: l, o, w => by rw [setAll, setAll_size b l]; simp [World.setCell]
theorem setAll_block (b : Nat) : ∀ (l : List Value) (o : Nat) (w : World) (k : Nat), k ≠ b → (setAll w b o l).heap[k]? = w.heap[k]?
  | [], _, _, _, _ => rfl
  | v :: l, o, w, k, h => by rw [setAll, setAll_block b l _ _ k h]; exact Below.heap_setCell _ _ _ _ (by show k ≠ b; exact h)
theorem setAll_other (b : Nat) : ∀ (l : List Value) (o : Nat) (w : World) (c off : Nat), ¬ (c = b ∧ o ≤ off ∧ off < o + l.length) → (setAll w b o l).cell? ⟨c, off, none⟩ = w.cell? ⟨c, off, none⟩
  | [], _, _, _, _, _ => rfl
  | v :: l, o, w, c, off, h => by
    rw [List.length_cons] at h
    rw [setAll, setAll_other b l _ _ c off (fun x => h ⟨x.1, by omega, by omega⟩)]
    exact set_other fun x => h ⟨x.1, by omega, by omega⟩
theorem setAll_frz (b : Nat) : ∀ (l : List Value) (o : Nat) (w : World) (c off : Nat), (setAll w b o l).frozen? ⟨c, off, none⟩ = w.frozen? ⟨c, off, none⟩
  | [], _, _, _, _ => rfl
  | v :: l, o, w, c, off => by rw [setAll, setAll_frz b l]; exact set_frz
theorem setAll_here (b : Nat) : ∀ (l : List Value) (o : Nat) (w : World), (∀ j, j < l.length → ∃ x, w.cell? ⟨b, o + j, none⟩ = some x) → ∀ j v, l[j]? = some v → (setAll w b o l).cell? ⟨b, o + j, none⟩ = some v
  | [], _, _, _, j, v, hj => by simp at hj
  | v :: l, o, w, h, 0, u, hj => by
    rw [setAll, setAll_other b l _ _ b (o + 0) (fun x => by omega)]
    obtain ⟨x, hx⟩ := h 0 (by simp)
    have e : v = u := by simpa using hj
    subst e
    exact set_here hx
  | v :: l, o, w, h, j + 1, u, hj => by
    rw [setAll, show o + (j + 1) = o + 1 + j by omega]
    refine setAll_here b l (o + 1) _ (fun i hi => ?_) j u (by simpa using hj)
    obtain ⟨x, hx⟩ := h (i + 1) (by simpa using hi)
    exact ⟨x, by rw [set_other (fun x => by omega), show o + 1 + i = o + (i + 1) by omega]; exact hx⟩
theorem setAll_below (b : Nat) : ∀ (l : List Value) (o : Nat) (w : World) (B : Nat), B ≤ b → Below B w (setAll w b o l)
  | [], _, w, B, _ => Below.refl B w
  | v :: l, o, w, B, h => ((Below.refl B w).setCell (p := ⟨b, o, none⟩) h v).trans (setAll_below b l (o + 1) _ B h)

/-- The variable in block R is the room in block g, n of cap places used. -/
def RoomE (w : World) (R g n cap : Nat) : Prop := w.cell? ⟨R, 0, none⟩ = some (.slice (some ⟨g, 0, none⟩) n cap) ∧ w.frozen? ⟨R, 0, none⟩ = false ∧ ∃ cur, w.heap[g]? = some (.cells cur 31 (0, 0)) ∧ cur.size = cap * 13
theorem RoomE.below {w w' : World} {R g n cap : Nat} (h : RoomE w R g n cap) (hb : Below w.heap.size w w') : RoomE w' R g n cap := by
  obtain ⟨h1, h2, cur, h3, h4⟩ := h
  have hR := World.block_lt_of_cell? w _ h1
  have hg := (Array.getElem?_eq_some_iff.1 h3).1
  exact ⟨(hb.cell hR).trans h1, (hb.frozen hR).trans h2, cur, (hb.block g hg).trans h3, h4⟩
theorem RoomE.set {w : World} {R g n cap : Nat} (h : RoomE w R g n cap) {b : Nat} (o : Nat) (hp : b ≠ R) (v : Value) : RoomE (w.setCell ⟨b, o, none⟩ v) R g n cap := by
  obtain ⟨h1, h2, cur, h3, h4⟩ := h
  refine ⟨(World.cell?_of_block (w := w) (a := ⟨R, 0, none⟩) (Below.heap_setCell _ _ _ _ (by show R ≠ b; exact Ne.symm hp))).trans h1, (World.frozen?_of_block (w := w) (a := ⟨R, 0, none⟩) (Below.heap_setCell _ _ _ _ (by show R ≠ b; exact Ne.symm hp))).trans h2, ?_⟩
  by_cases hg : g = b
  · refine ⟨cur.setIfInBounds o v, ?_, by simpa using h4⟩
    subst hg
    simp [World.setCell, Array.getElem?_modify, h3]
  · exact ⟨cur, (Below.heap_setCell _ _ _ _ (by show g ≠ b; exact hg)).trans h3, h4⟩
theorem RoomE.sets {R g n cap b : Nat} (hp : b ≠ R) : ∀ (l : List Value) (o : Nat) (w : World), RoomE w R g n cap → RoomE (setAll w b o l) R g n cap
  | [], _, _, h => h
  | v :: l, o, w, h => RoomE.sets hp l (o + 1) _ (h.set o hp v)
/-- The block g with these cells from the n-th expression on. -/
def fillE (cur : Array Value) (n : Nat) (news : List Value) : Array Value := (cur.toList.take (n * 13) ++ news ++ cur.toList.drop (n * 13 + news.length)).toArray
theorem fillE_size (cur : Array Value) (n m cap : Nat) (news : List Value) (hc : cur.size = cap * 13) (hl : news.length = m * 13) (hr : n + m ≤ cap) : (fillE cur n news).size = cap * 13 := by
  unfold fillE
  rw [List.size_toArray, List.length_append, List.length_append, List.length_take, List.length_drop, Array.length_toList, hc, hl]
  omega
/-- What an append to the room leaves. -/
structure EffE (w w' : World) (R g n m cap : Nat) (news : List Value) : Prop where
  size : w'.heap.size = w.heap.size
  other : ∀ k, k ≠ R → k ≠ g → w'.heap[k]? = w.heap[k]?
  room : RoomE w' R g (n + m) cap
  low : ∀ off, off < n * 13 → w'.cell? ⟨g, off, none⟩ = w.cell? ⟨g, off, none⟩
  new : ∀ j v, news[j]? = some v → w'.cell? ⟨g, n * 13 + j, none⟩ = some v
  below : ∀ B, B ≤ R → B ≤ g → Below B w w'
theorem EffE.cell {w w' : World} {R g n m cap : Nat} {news : List Value} (h : EffE w w' R g n m cap news) (b off : Nat) (hR : b ≠ R) (hg : b = g → off < n * 13) : w'.cell? ⟨b, off, none⟩ = w.cell? ⟨b, off, none⟩ := by
  by_cases hb : b = g
  · subst hb; exact h.low off (hg rfl)
  · exact World.cell?_of_block (w := w) (a := ⟨b, off, none⟩) (h.other b hR hb)
theorem RoomE.noEff {w : World} {R g n cap : Nat} (h : RoomE w R g n cap) : EffE w w R g n 0 cap [] :=
  ⟨rfl, fun _ _ _ => rfl, h, fun _ _ => rfl, fun j v hj => by simp at hj, fun _ _ _ => Below.refl _ _⟩
theorem RoomE.eff {w : World} {R g n m cap : Nat} {cur : Array Value} {news : List Value} (hr : RoomE w R g n cap) (hcur : w.heap[g]? = some (.cells cur 31 (0, 0))) (hRg : R ≠ g) (hroom : n + m ≤ cap) (hl : news.length = m * 13) :
    EffE w ((w.setRow g (fillE cur n news)).setCell ⟨R, 0, none⟩ (.slice (some ⟨g, 0, none⟩) (n + m) cap)) R g n m cap news := by
  obtain ⟨r1, r2, cur', r3, r4⟩ := hr
  obtain rfl : cur' = cur := by rw [hcur] at r3; injection r3 with r3; injection r3 with r3; exact r3.symm
  have hg1 : ((w.setRow g (fillE cur' n news)).setCell ⟨R, 0, none⟩ (.slice (some ⟨g, 0, none⟩) (n + m) cap)).heap[g]? = some (.cells (fillE cur' n news) 31 (0, 0)) := (Below.heap_setCell _ _ _ _ (by show g ≠ R; exact Ne.symm hRg)).trans (setRow_here r3)
  have hsz : (fillE cur' n news).size = cap * 13 := fillE_size cur' n m cap news r4 hl hroom
  have hother : ∀ k, k ≠ R → k ≠ g → ((w.setRow g (fillE cur' n news)).setCell ⟨R, 0, none⟩ (.slice (some ⟨g, 0, none⟩) (n + m) cap)).heap[k]? = w.heap[k]? := fun k hk hk2 => (Below.heap_setCell _ _ _ _ (by show k ≠ R; exact hk)).trans (setRow_other w g k _ hk2)
  obtain ⟨curR, tR, fR, hRb⟩ : ∃ cs t fr, w.heap[R]? = some (.cells cs t fr) := by
    simp only [World.cell?] at r1
    revert r1
    cases hh : w.heap[R]? with
    | none => simp
    | some o => cases o <;> simp
  have hR1 : (w.setRow g (fillE cur' n news)).heap[R]? = some (.cells curR tR fR) := (setRow_other w g R _ hRg).trans hRb
  refine ⟨by rw [setCell_size, setRow_size], hother, ⟨?_, ?_, _, hg1, hsz⟩, fun off ho => ?_, fun j v hj => ?_, fun B hB hB2 => ?_⟩
  · have hlt : 0 < curR.size := by
      simp only [World.cell?, hRb] at r1
      rcases Nat.eq_zero_or_pos curR.size with h | h
      · have : curR[0]? = none := by simp [h]
        simp [this] at r1
      · exact h
    simp [World.setCell, World.cell?, Array.getElem?_modify, hR1, hlt]
  · have h := r2
    simp only [World.frozen?, hRb] at h
    simp [World.setCell, World.frozen?, Array.getElem?_modify, hR1]
    simpa using h
  · rw [Lib.cell_of_heap hg1, Lib.cell_of_heap r3]
    unfold fillE
    simp only [List.getElem?_toArray]
    rw [List.append_assoc, List.getElem?_append_left (by rw [List.length_take, Array.length_toList, r4]; omega), List.getElem?_take, if_pos ho]
    simp
  · rw [Lib.cell_of_heap hg1]
    have hjl := (List.getElem?_eq_some_iff.1 hj).1
    have htl : (List.take (n * 13) cur'.toList).length = n * 13 := by rw [List.length_take, Array.length_toList, r4]; omega
    unfold fillE
    simp only [List.getElem?_toArray]
    rw [List.append_assoc, List.getElem?_append_right (by rw [htl]; omega), htl, show n * 13 + j - n * 13 = j by omega, List.getElem?_append_left hjl]
    exact hj
  · have hb1 : Below B w (w.setRow g (fillE cur' n news)) := ⟨rfl, rfl, rfl, by rw [setRow_size]; exact Nat.le_refl _, fun k hk => setRow_other w g k _ (by omega)⟩
    exact hb1.setCell (p := ⟨R, 0, none⟩) hB _

/-- An expression's cells with a datum, variables and Kids of another place. -/
def ecellsAs (u : ET) (d : LT) (va : Option Addr) (vc : Nat) (kv : Value) : List Value := [.int .i64 u.k, .int .i64 d.k, .bool d.g, .slice d.la d.ln d.lc, .bool d.bb, .string d.s, .slice d.ia d.items.length d.ic, .slice d.ta d.tail.length d.tc, .int .i64 u.v, .slice va u.vs.length vc, .bool u.rs, .int .i64 u.p, kv]
/-- What part leaves. -/
structure PartEffE (w w' : World) (b o R g n cap : Nat) (u : ET) : Prop where
  here : ∃ (d : LT) (va : Option Addr) (vc : Nat), shape d = shape u.d ∧ FewD d ∧ (∀ j v, (ecellsAs u d va vc (childE g n u.kids.length))[j]? = some v → w'.cell? ⟨b, o + j, none⟩ = some v) ∧ HeldP w' (Fresh w' w.heap.size) d ∧ IntsP w' (Fresh w' w.heap.size) va vc u.vs
  room : RoomE w' R g (n + u.kids.length) cap
  new : ∀ j v, (cellsE u.kids)[j]? = some v → w'.cell? ⟨g, n * 13 + j, none⟩ = some v
  low : ∀ off, off < n * 13 → (b = g → off < o ∨ o + 13 ≤ off) → w'.cell? ⟨g, off, none⟩ = w.cell? ⟨g, off, none⟩
  other : ∀ k, k < w.heap.size → k ≠ R → k ≠ g → k ≠ b → w'.heap[k]? = w.heap[k]?
  size : w.heap.size ≤ w'.heap.size
  below : ∀ B, B ≤ w.heap.size → B ≤ R → B ≤ g → B ≤ b → Below B w w'
theorem partE_end {b o R g n cap : Nat} {u : ET} {w w1 w5 w6 : World} {d : LT} {va : Option Addr} {vc : Nat} (hc : ∀ j v, u.cells[j]? = some v → w.cell? ⟨b, o + j, none⟩ = some v) (b1 : Below w.heap.size w w1) (hs : shape d = shape u.d) (hf : FewD d) (hP : HeldP w1 (Fresh w1 w.heap.size) d) (hI : IntsP w1 (Fresh w1 w.heap.size) va vc u.vs)
    (ef : EffE ((setAll w1 b o (ecellsAs u d va vc (.slice u.ka u.kids.length u.kc))).setCell ⟨b, o + 12, none⟩ (.slice none 0 0)) w5 R g n u.kids.length cap (cellsE u.kids))
    (h12 : w6.cell? ⟨b, o + 12, none⟩ = some (childE g n u.kids.length)) (hcell : ∀ c off, ¬ (c = b ∧ off = o + 12) → w6.cell? ⟨c, off, none⟩ = w5.cell? ⟨c, off, none⟩) (hblk : ∀ k, k ≠ b → w6.heap[k]? = w5.heap[k]?) (hroom : RoomE w6 R g (n + u.kids.length) cap) (hsz : w6.heap.size = w5.heap.size) (hbel : ∀ B, B ≤ b → Below B w5 w6)
    (hblt : b < w.heap.size) (hRlt : R < w.heap.size) (hglt : g < w.heap.size) (d2 : b ≠ R) (hbg : b = g → o + 13 ≤ n * 13) : PartEffE w w6 b o R g n cap u := by
  obtain ⟨w3, hw3⟩ : ∃ W, (setAll w1 b o (ecellsAs u d va vc (.slice u.ka u.kids.length u.kc))).setCell ⟨b, o + 12, none⟩ (.slice none 0 0) = W := ⟨_, rfl⟩
  rw [hw3] at ef
  have z1 := b1.size
  have z3 : w3.heap.size = w1.heap.size := by rw [← hw3, setCell_size, setAll_size]
  have z5 := ef.size
  have hel : (ecellsAs u d va vc (.slice u.ka u.kids.length u.kc)).length = 13 := rfl
  have hoth : ∀ k, k ≠ R → k ≠ g → k ≠ b → w6.heap[k]? = w1.heap[k]? := fun k k1 k2 k3 => by
    rw [hblk k k3, ef.other k k1 k2, ← hw3, Below.heap_setCell _ _ _ _ (by show k ≠ b; exact k3), setAll_block b _ _ _ k k3]
  have hk : ∀ k, Fresh w1 w.heap.size k → Fresh w6 w.heap.size k ∧ w6.heap[k]? = w1.heap[k]? := fun k hk => by
    have := hk.1
    have e := hoth k (by omega) (by omega) (by omega)
    exact ⟨hk.same e, e⟩
  have hex : ∀ j, j < (ecellsAs u d va vc (.slice u.ka u.kids.length u.kc)).length → ∃ x, w1.cell? ⟨b, o + j, none⟩ = some x := fun j hj => by
    rw [hel] at hj
    exact ⟨_, (b1.cell (p := ⟨b, o + j, none⟩) hblt).trans (hc j (u.cells[j]'hj) (List.getElem?_eq_getElem hj))⟩
  refine ⟨⟨d, va, vc, hs, hf, fun j v hj => ?_, hP.keep (by omega) hk, hI.keep hk⟩, hroom, fun j v hj => ?_, fun off ho hb => ?_, fun k k0 k1 k2 k3 => (hoth k k1 k2 k3).trans (b1.block k k0), by omega, fun B B0 B1 B2 B3 => ?_⟩
  · have hj13 : j < 13 := (List.getElem?_eq_some_iff.1 hj).1
    by_cases h : j = 12
    · subst h
      rw [h12]
      exact hj
    · rw [hcell b (o + j) (fun e => by omega), ef.cell b (o + j) d2 (fun e => by have := hbg e; omega), ← hw3, set_other (fun e => by omega)]
      refine setAll_here b _ o w1 hex j v ?_
      rcases (show j = 0 ∨ j = 1 ∨ j = 2 ∨ j = 3 ∨ j = 4 ∨ j = 5 ∨ j = 6 ∨ j = 7 ∨ j = 8 ∨ j = 9 ∨ j = 10 ∨ j = 11 by omega) with rfl | rfl | rfl | rfl | rfl | rfl | rfl | rfl | rfl | rfl | rfl | rfl <;> exact hj
  · rw [hcell g _ (fun e => by have := hbg e.1.symm; omega)]
    exact ef.new j v hj
  · rw [hcell g off (fun e => by have := hb e.1.symm; omega), ef.low off ho, ← hw3, set_other (fun e => by have := hb e.1.symm; omega), setAll_other b _ _ _ g off (fun e => by have := hb e.1.symm; rw [hel] at e; omega)]
    exact b1.cell (p := ⟨g, off, none⟩) hglt
  · have e3 : Below B w w3 := by
      rw [← hw3]
      exact ((b1.mono B0).trans (setAll_below b _ o w1 B B3)).setCell (p := ⟨b, o + 12, none⟩) B3 _
    exact (e3.trans (ef.below B B1 B2)).trans (hbel B B3)
end
end Go.Proofs.YthdhdmmlmbkalaaGreatDoor
namespace Go.Proofs.YthdhdmmlmbkalaaGreatDoor
section
open Go.RowKit

theorem infoE1 : (Tryz.prog.info? 31).map (fun i => i.size) = some 13 := by kernel_rfl
theorem frz_row {w : World} {g b off : Nat} {X cur : Array Value} {t : TypeId} (h : w.heap[g]? = some (.cells cur t (0, 0))) : (w.setRow g X).frozen? ⟨b, off, none⟩ = w.frozen? ⟨b, off, none⟩ := by
  by_cases hb : b = g
  · subst hb
    rw [Lib.frozen_of_heap (setRow_here h), Lib.frozen_of_heap h]
  · exact World.frozen?_of_block (w := w) (a := ⟨b, off, none⟩) (setRow_other w g b X hb)
set_option maxRecDepth 100000 in
set_option maxHeartbeats 3200000 in
theorem partE_any (b o R g n cap M : Nat) (u : ET) (w : World) (hc : ∀ j v, u.cells[j]? = some v → w.cell? ⟨b, o + j, none⟩ = some v) (hfz : ∀ j, w.frozen? ⟨b, o + j, none⟩ = false) (hH : HeldE w M u) (hF : FewD u.d) (hn : u.vs.length ≤ 1000000) (hr : RoomE w R g n cap) (hcap : cap ≤ 1000000000) (hroom : n + u.kids.length ≤ cap)
    (d1 : R ≠ g) (d2 : b ≠ R) (hbg : b = g → o + 13 ≤ n * 13) (m1 : M ≤ R) (m2 : M ≤ g) (m3 : M ≤ b) :
    Calls Tryz.prog 38 #[.pointer (some ⟨b, o, none⟩), .pointer (some ⟨R, 0, none⟩)] w fun e w' => e = .returned (.tuple #[]) ∧ PartEffE w w' b o R g n cap u := by
  have c0 : w.cell? ⟨b, o, none⟩ = some (.int .i64 u.k) := hc 0 _ rfl
  have c1 : w.cell? ⟨b, o + 1, none⟩ = some (.int .i64 u.d.k) := hc 1 _ rfl
  have c2 : w.cell? ⟨b, o + 2, none⟩ = some (.bool u.d.g) := hc 2 _ rfl
  have c3 : w.cell? ⟨b, o + 3, none⟩ = some (.slice u.d.la u.d.ln u.d.lc) := hc 3 _ rfl
  have c4 : w.cell? ⟨b, o + 4, none⟩ = some (.bool u.d.bb) := hc 4 _ rfl
  have c5 : w.cell? ⟨b, o + 5, none⟩ = some (.string u.d.s) := hc 5 _ rfl
  have c6 : w.cell? ⟨b, o + 6, none⟩ = some (.slice u.d.ia u.d.items.length u.d.ic) := hc 6 _ rfl
  have c7 : w.cell? ⟨b, o + 7, none⟩ = some (.slice u.d.ta u.d.tail.length u.d.tc) := hc 7 _ rfl
  have c8 : w.cell? ⟨b, o + 8, none⟩ = some (.int .i64 u.v) := hc 8 _ rfl
  have c9 : w.cell? ⟨b, o + 9, none⟩ = some (.slice u.va u.vs.length u.vc) := hc 9 _ rfl
  have c10 : w.cell? ⟨b, o + 10, none⟩ = some (.bool u.rs) := hc 10 _ rfl
  have c11 : w.cell? ⟨b, o + 11, none⟩ = some (.int .i64 u.p) := hc 11 _ rfl
  have c12 : w.cell? ⟨b, o + 12, none⟩ = some (.slice u.ka u.kids.length u.kc) := hc 12 _ rfl
  have hblt : b < w.heap.size := World.block_lt_of_cell? w _ c0
  have hRlt : R < w.heap.size := World.block_lt_of_cell? w _ hr.1
  have hglt : g < w.heap.size := by
    obtain ⟨cur0, hgb, _⟩ := hr.2.2
    exact (Array.getElem?_eq_some_iff.1 hgb).1
  have hM : M ≤ w.heap.size := by omega
  have HC := Lib.hid (And.intro hc (And.intro hfz (And.intro hH hr)))
  have HCA := Lib.hid (copiedAlone_any M u hF hn w hM hH.1.1 hH.1.2)
  clear hc hfz hH hr
  go_enter Tryz.func38, Tryz.ntmps38
  go_wp2_with fail
  refine HCA.out.mono ?_
  rintro e w1 ⟨d, va, vc, rfl, hP, hI, hs, hf, b1⟩
  have hz1 := b1.size
  have e0 : w1.cell? ⟨b, o, none⟩ = some (.int .i64 u.k) := (b1.cell (p := ⟨b, o, none⟩) hblt).trans c0
  have f0 : w1.frozen? ⟨b, o, none⟩ = false := (b1.frozen (p := ⟨b, o, none⟩) hblt).trans (HC.out.2.1 0)
  have e1 : w1.cell? ⟨b, o + 1, none⟩ = some (.int .i64 u.d.k) := (b1.cell (p := ⟨b, o + 1, none⟩) hblt).trans c1
  have f1 : w1.frozen? ⟨b, o + 1, none⟩ = false := (b1.frozen (p := ⟨b, o + 1, none⟩) hblt).trans (HC.out.2.1 1)
  have e2 : w1.cell? ⟨b, o + 2, none⟩ = some (.bool u.d.g) := (b1.cell (p := ⟨b, o + 2, none⟩) hblt).trans c2
  have f2 : w1.frozen? ⟨b, o + 2, none⟩ = false := (b1.frozen (p := ⟨b, o + 2, none⟩) hblt).trans (HC.out.2.1 2)
  have e3 : w1.cell? ⟨b, o + 3, none⟩ = some (.slice u.d.la u.d.ln u.d.lc) := (b1.cell (p := ⟨b, o + 3, none⟩) hblt).trans c3
  have f3 : w1.frozen? ⟨b, o + 3, none⟩ = false := (b1.frozen (p := ⟨b, o + 3, none⟩) hblt).trans (HC.out.2.1 3)
  have e4 : w1.cell? ⟨b, o + 4, none⟩ = some (.bool u.d.bb) := (b1.cell (p := ⟨b, o + 4, none⟩) hblt).trans c4
  have f4 : w1.frozen? ⟨b, o + 4, none⟩ = false := (b1.frozen (p := ⟨b, o + 4, none⟩) hblt).trans (HC.out.2.1 4)
  have e5 : w1.cell? ⟨b, o + 5, none⟩ = some (.string u.d.s) := (b1.cell (p := ⟨b, o + 5, none⟩) hblt).trans c5
  have f5 : w1.frozen? ⟨b, o + 5, none⟩ = false := (b1.frozen (p := ⟨b, o + 5, none⟩) hblt).trans (HC.out.2.1 5)
  have e6 : w1.cell? ⟨b, o + 6, none⟩ = some (.slice u.d.ia u.d.items.length u.d.ic) := (b1.cell (p := ⟨b, o + 6, none⟩) hblt).trans c6
  have f6 : w1.frozen? ⟨b, o + 6, none⟩ = false := (b1.frozen (p := ⟨b, o + 6, none⟩) hblt).trans (HC.out.2.1 6)
  have e7 : w1.cell? ⟨b, o + 7, none⟩ = some (.slice u.d.ta u.d.tail.length u.d.tc) := (b1.cell (p := ⟨b, o + 7, none⟩) hblt).trans c7
  have f7 : w1.frozen? ⟨b, o + 7, none⟩ = false := (b1.frozen (p := ⟨b, o + 7, none⟩) hblt).trans (HC.out.2.1 7)
  have e8 : w1.cell? ⟨b, o + 8, none⟩ = some (.int .i64 u.v) := (b1.cell (p := ⟨b, o + 8, none⟩) hblt).trans c8
  have f8 : w1.frozen? ⟨b, o + 8, none⟩ = false := (b1.frozen (p := ⟨b, o + 8, none⟩) hblt).trans (HC.out.2.1 8)
  have e9 : w1.cell? ⟨b, o + 9, none⟩ = some (.slice u.va u.vs.length u.vc) := (b1.cell (p := ⟨b, o + 9, none⟩) hblt).trans c9
  have f9 : w1.frozen? ⟨b, o + 9, none⟩ = false := (b1.frozen (p := ⟨b, o + 9, none⟩) hblt).trans (HC.out.2.1 9)
  have e10 : w1.cell? ⟨b, o + 10, none⟩ = some (.bool u.rs) := (b1.cell (p := ⟨b, o + 10, none⟩) hblt).trans c10
  have f10 : w1.frozen? ⟨b, o + 10, none⟩ = false := (b1.frozen (p := ⟨b, o + 10, none⟩) hblt).trans (HC.out.2.1 10)
  have e11 : w1.cell? ⟨b, o + 11, none⟩ = some (.int .i64 u.p) := (b1.cell (p := ⟨b, o + 11, none⟩) hblt).trans c11
  have f11 : w1.frozen? ⟨b, o + 11, none⟩ = false := (b1.frozen (p := ⟨b, o + 11, none⟩) hblt).trans (HC.out.2.1 11)
  have e12 : w1.cell? ⟨b, o + 12, none⟩ = some (.slice u.ka u.kids.length u.kc) := (b1.cell (p := ⟨b, o + 12, none⟩) hblt).trans c12
  have f12 : w1.frozen? ⟨b, o + 12, none⟩ = false := (b1.frozen (p := ⟨b, o + 12, none⟩) hblt).trans (HC.out.2.1 12)
  clear c0 c1 c2 c3 c4 c5 c6 c7 c8 c9 c10 c11 c12
  obtain ⟨ka, hka⟩ : ∃ a, u.ka = a := ⟨_, rfl⟩
  rw [hka]
  obtain ⟨W2, hW2⟩ : ∃ W2, (((((((((((((w1.setCell ⟨b, o, none⟩ (.int .i64 u.k)).setCell ⟨b, o + 1, none⟩ (.int .i64 d.k)).setCell ⟨b, o + 2, none⟩ (.bool d.g)).setCell ⟨b, o + 3, none⟩ (.slice d.la d.ln d.lc)).setCell ⟨b, o + 4, none⟩ (.bool d.bb)).setCell ⟨b, o + 5, none⟩ (.string d.s)).setCell ⟨b, o + 6, none⟩ (.slice d.ia d.items.length d.ic)).setCell ⟨b, o + 7, none⟩ (.slice d.ta d.tail.length d.tc)).setCell ⟨b, o + 8, none⟩ (.int .i64 u.v)).setCell ⟨b, o + 9, none⟩ (.slice va u.vs.length vc)).setCell ⟨b, o + 10, none⟩ (.bool u.rs)).setCell ⟨b, o + 11, none⟩ (.int .i64 u.p)).setCell ⟨b, o + 12, none⟩ (.slice ka u.kids.length u.kc)) = W2 := ⟨_, rfl⟩
  have hS2 : setAll w1 b o (ecellsAs u d va vc (.slice u.ka u.kids.length u.kc)) = W2 := by rw [← hW2, hka]; rfl
  have hz2 : W2.heap.size = w1.heap.size := by rw [← hS2, setAll_size]
  have x12 : W2.cell? ⟨b, o + 12, none⟩ = some (.slice ka u.kids.length u.kc) := by
    rw [← hS2, ← hka]
    refine setAll_here b _ o w1 (fun j hj => ?_) 12 _ rfl
    have hj13 : j < 13 := hj
    exact ⟨_, (b1.cell (p := ⟨b, o + j, none⟩) hblt).trans (HC.out.1 j (u.cells[j]'hj13) (List.getElem?_eq_getElem hj13))⟩
  have g12 : W2.frozen? ⟨b, o + 12, none⟩ = false := by rw [← hS2, setAll_frz]; exact f12
  obtain ⟨W3, hW3⟩ : ∃ W3, W2.setCell ⟨b, o + 12, none⟩ (.slice none 0 0) = W3 := ⟨_, rfl⟩
  have hS3 : (setAll w1 b o (ecellsAs u d va vc (.slice u.ka u.kids.length u.kc))).setCell ⟨b, o + 12, none⟩ (.slice none 0 0) = W3 := by rw [hS2, hW3]
  have hr3 : RoomE W3 R g n cap := by rw [← hS3]; exact (RoomE.sets d2 _ o _ (HC.out.2.2.2.below b1)).set (o + 12) d2 _
  have hz3 : W3.heap.size = w1.heap.size := by rw [← hW3, setCell_size, hz2]
  have hoth3 : ∀ k, k ≠ b → W3.heap[k]? = w1.heap[k]? := fun k hk => by rw [← hS3, Below.heap_setCell _ _ _ _ (by show k ≠ b; exact hk), setAll_block b _ _ _ k hk]
  have y12 : W3.cell? ⟨b, o + 12, none⟩ = some (.slice none 0 0) := by rw [← hW3]; exact set_here x12
  have z12 : W3.frozen? ⟨b, o + 12, none⟩ = false := by rw [← hW3, set_frz]; exact g12
  have hH3 : HeldE W3 M u := HC.out.2.2.1.keep (by omega) fun q hq => (hoth3 q (by omega)).trans (b1.block q (by omega))
  have hRc : W3.cell? ⟨R, 0, none⟩ = some (.slice (some ⟨g, 0, none⟩) n cap) := hr3.1
  have HD := Lib.hid (And.intro hP (And.intro hI (And.intro hs (And.intro hf (And.intro b1 (And.intro hS3 (And.intro hr3 (And.intro hoth3 hH3))))))))
  clear hP hI hs hf b1 hS2 hS3 hr3 hoth3 hH3 HCA
  by_cases hk : u.kids.length = 0
  · have q1 : decide ((0 : Int) < ((u.kids.length : Nat) : Int)) = false := decide_eq_false (by omega)
    have q2 : decide (0 < u.kids.length) = false := decide_eq_false (by omega)
    have hkn : u.kids = [] := List.length_eq_zero_iff.1 hk
    have HQ := Lib.hid (And.intro y12 (And.intro hkn hk))
    clear y12 hRc z12 hk hkn
    go_wp2_with fail
    clear e0 f0 e1 f1 e2 f2 e3 f3 e4 f4 e5 f5 e6 f6 e7 f7 e8 f8 e9 f9 e10 f10 e11 f11 e12 f12
    go_end0
    obtain ⟨hP, hI, hs, hf, b1, hS3, hr3, hoth3, hH3⟩ := HD.out
    refine ⟨rfl, partE_end (w5 := W3) (w6 := W3) HC.out.1 b1 hs hf hP hI ?_ ?_ (fun _ _ _ => rfl) (fun _ _ => rfl) ?_ rfl (fun _ _ => Below.refl _ _) hblt hRlt hglt d2 hbg⟩
    · rw [hS3, HQ.out.2.1]; exact hr3.noEff
    · rw [HQ.out.1]; unfold childE; rw [if_pos HQ.out.2.2]
    · rw [HQ.out.2.2]; exact hr3
  · have q1 : decide ((0 : Int) < ((u.kids.length : Nat) : Int)) = true := decide_eq_true (by omega)
    obtain ⟨i0, hi0, hi1⟩ := Option.map_eq_some_iff.1 infoE1
    obtain ⟨cur, hcur, hcs⟩ := HD.out.2.2.2.2.2.2.1.2.2
    obtain ⟨hae, _⟩ := HD.out.2.2.2.2.2.2.2.2.2.1.2.2.1 (by omega)
    have hnews : ∀ j v, (cellsE u.kids)[j]? = some v → W3.cell? ((⟨blk u.ka, ofs u.ka, none⟩ : Addr).add j) = some v := fun j v hj => by
      rw [cell_add]
      exact cells_of_liesER _ _ _ HD.out.2.2.2.2.2.2.2.2.2.2 j v hj
    obtain ⟨gb, hgb⟩ : ∃ x, blk u.ka = x := ⟨_, rfl⟩
    obtain ⟨go, hgo⟩ : ∃ x, ofs u.ka = x := ⟨_, rfl⟩
    rw [hgb, hgo] at hae hnews
    obtain rfl : ka = some ⟨gb, go, none⟩ := hka.symm.trans hae
    have HN := Lib.hid (And.intro hnews (And.intro hcur (And.intro hcs (And.intro hi1 (And.intro y12 z12)))))
    clear hnews hcur hcs y12 z12 hgb hgo hae
    go_wp2_with (at_builtin; refine wpList_append_room rfl (.tmp 23) (.tmp 24) 29 rfl 31 i0 Tryz.underlying29 hi0 g n cap cur HN.out.2.1 rfl ⟨gb, go, none⟩ u.kids.length u.kc (cellsE u.kids) rfl (by rw [hi1]; exact cellsE_length _) HN.out.1 (cellsE_one _) hroom (by rw [hi1, HN.out.2.2.1, cellsE_length]; omega) ?_; intro w9 hw9; have hw9' : w9 = W3.setRow g (fillE cur n (cellsE u.kids)) := (by rw [hw9, hi1]; rfl); have HE := Lib.hid (HD.out.2.2.2.2.2.2.1.eff HN.out.2.1 d1 hroom (cellsE_length u.kids)); have hR9 : w9.cell? ⟨R, 0, none⟩ = some (.slice (some ⟨g, 0, none⟩) n cap) := (by rw [hw9']; exact (World.cell?_of_block (w := W3) (a := ⟨R, 0, none⟩) (setRow_other W3 g R _ d1)).trans hRc); have hF9 : w9.frozen? ⟨R, 0, none⟩ = false := (by rw [hw9']; exact (World.frozen?_of_block (w := W3) (a := ⟨R, 0, none⟩) (setRow_other W3 g R _ d1)).trans HD.out.2.2.2.2.2.2.1.2.1); obtain ⟨W5, hW5⟩ : ∃ W5, w9.setCell ⟨R, 0, none⟩ (.slice (some ⟨g, 0, none⟩) (n + u.kids.length) cap) = W5 := ⟨_, rfl⟩; have hW5' : (W3.setRow g (fillE cur n (cellsE u.kids))).setCell ⟨R, 0, none⟩ (.slice (some ⟨g, 0, none⟩) (n + u.kids.length) cap) = W5 := (by rw [← hw9']; exact hW5); have hR5 : W5.cell? ⟨R, 0, none⟩ = some (.slice (some ⟨g, 0, none⟩) (n + u.kids.length) cap) := (by have := HE.out.room.1; rwa [hW5'] at this); have hE5 : EffE W3 W5 R g n u.kids.length cap (cellsE u.kids) := (by have := HE.out; rwa [hW5'] at this); have hB5 : W5.cell? ⟨b, o + 12, none⟩ = some (.slice none 0 0) := (hE5.cell b (o + 12) d2 (fun e => by have := hbg e; omega)).trans HN.out.2.2.2.2.1; have hBf5 : W5.frozen? ⟨b, o + 12, none⟩ = false := (by rw [← hW5', set_frz]; exact (frz_row HN.out.2.1).trans HN.out.2.2.2.2.2); have H5 := Lib.hid (And.intro hE5 hW5'); clear hE5 hW5' hw9 hw9' HE hRc hW3 hW2 x12 g12)
    go_end0
    obtain ⟨hP, hI, hs, hf, b1, hS3, hr3, hoth3, hH3⟩ := HD.out
    refine ⟨rfl, partE_end (w5 := W5) HC.out.1 b1 hs hf hP hI ?_ ?_ (fun c off h => set_other h) (fun k hk => Below.heap_setCell _ _ _ _ (by show k ≠ b; exact hk)) (H5.out.1.room.set (o + 12) d2 _) (setCell_size _ _ _) (fun B hB => (Below.refl B W5).setCell (p := ⟨b, o + 12, none⟩) hB _) hblt hRlt hglt d2 hbg⟩
    · rw [hS3]; exact H5.out.1
    · unfold childE; rw [if_neg hk]; exact set_here hB5
end
end Go.Proofs.YthdhdmmlmbkalaaGreatDoor
