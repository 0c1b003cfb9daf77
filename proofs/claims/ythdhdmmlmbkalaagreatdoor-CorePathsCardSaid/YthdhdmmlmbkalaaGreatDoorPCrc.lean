/-
  pavaneref08.ints, same, Same of two expressions of one shape.
-/
import Derived.Test.YthdhdmmlmbkalaaGreatDoorJp12
import Derived.Test.YthdhdmmlmbkalaaGreatDoorPRs4
set_option linter.unusedVariables false
set_option linter.unusedSimpArgs false
set_option linter.unusedSectionVars false
set_option linter.unnecessarySimpa false
namespace Go.Proofs.YthdhdmmlmbkalaaGreatDoor
open Go.RowKit

mutual
theorem budT_ge : ∀ (t : LT) (left deep : Int), (t.size : Int) ≤ left → (t.depth : Int) ≤ deep → budT t left deep = left - t.size
  | .mk k g la ln lc ys bb s ia ic items ta tc tail, left, deep, h1, h2 => by
    have e1 : LT.size (.mk k g la ln lc ys bb s ia ic items ta tc tail) = 1 + (sizes items + sizes tail) := by simp [LT.size]
    have e2 : LT.depth (.mk k g la ln lc ys bb s ia ic items ta tc tail) = 1 + max (depths items) (depths tail) := by simp [LT.depth]
    rw [e1] at h1
    rw [e2] at h2
    rw [budT_eq, if_neg (by omega), e1]
    have h3 := budR_ge items (left - 1) (deep - 1) (by omega) (by omega)
    have h4 := budR_ge tail (budR items (left - 1) (deep - 1)) (deep - 1) (by omega) (by omega)
    simp only [LT.items, LT.tail]
    rw [h4, h3]
    omega
theorem budR_ge : ∀ (l : List LT) (left deep : Int), (sizes l : Int) ≤ left → (depths l : Int) ≤ deep → budR l left deep = left - sizes l
  | [], left, deep, _, _ => by rw [budR_nil]; simp [sizes]
  | t :: l, left, deep, h1, h2 => by
    simp only [sizes, depths] at h1 h2 ⊢
    have h3 := budT_ge t left deep (by omega) (by omega)
    rw [budR_cons, if_neg (by omega)]
    have h4 := budR_ge l (budT t left deep) deep (by omega) (by omega)
    rw [h4, h3]
    omega
end
set_option maxRecDepth 100000 in
set_option maxHeartbeats 3200000 in
theorem rints_yes (M : Nat) (a b : Option Addr) (ca cb : Nat) (zs : List Int) (w : World) (hM : M ≤ w.heap.size) (hA : IntsAt w M a ca zs) (hB : IntsAt w M b cb zs) :
    Calls Tryz.prog 40 #[.slice a zs.length ca, .slice b zs.length cb] w fun e w' => e = .returned (.bool true) ∧ Below w.heap.size w w' := by
  have hl := hA.1.1
  have hm := hA.1.2.1
  unfold maxLen at hm
  have HH := Lib.hid (And.intro hA hB)
  clear hA hB
  have hb0 := Below.refl w.heap.size w
  have hne : ((zs.length : Int) != (zs.length : Int)) = false := by simp
  go_enter Tryz.func40, Tryz.ntmps40
  go_wp2_with fail
  go_loopw [13] (fun i wr => ∃ k : Nat, k ≤ zs.length ∧ i = .int .i64 k ∧ Below w.heap.size w wr) (fun i _ => zs.length - (intOf i).toNat)
  case atStart => exact ⟨0, Nat.zero_le _, rfl, hb0⟩
  case round =>
    obtain ⟨k, hk, rfl, hbs⟩ := hrel
    clear hb0
    by_cases hlk : k < zs.length
    · have hsA := HH.out.1.1.2.2.1 (by omega)
      have hsB := HH.out.2.1.2.2.1 (by omega)
      have hxA := (HH.out.1.2 k hlk).1
      have hxB := (HH.out.2.2 k hlk).1
      obtain ⟨z, hz⟩ : ∃ z, zs[k] = z := ⟨_, rfl⟩
      rw [hz] at hxA hxB
      have hnz : (z != z) = false := by simp
      obtain ⟨ga, hga⟩ : ∃ x, blk a = x := ⟨_, rfl⟩
      obtain ⟨oa, hoa⟩ : ∃ x, ofs a = x := ⟨_, rfl⟩
      obtain ⟨gb, hgb⟩ : ∃ x, blk b = x := ⟨_, rfl⟩
      obtain ⟨ob, hob⟩ : ∃ x, ofs b = x := ⟨_, rfl⟩
      rw [hga, hoa] at hsA hxA
      rw [hgb, hob] at hsB hxB
      obtain ⟨e1, l1⟩ := hsA
      obtain ⟨e2, l2⟩ := hsB
      have c1 : wr.cell? ⟨ga, oa + k, none⟩ = some (.int .i64 z) := (World.cell?_of_block (w := w) (a := ⟨ga, oa + k, none⟩) (hbs.block ga (by omega))).trans hxA
      have c2 : wr.cell? ⟨gb, ob + k, none⟩ = some (.int .i64 z) := (World.cell?_of_block (w := w) (a := ⟨gb, ob + k, none⟩) (hbs.block gb (by omega))).trans hxB
      subst e1 e2
      clear hxA hxB l1 l2 hz
      have HB := Lib.hid hbs
      clear hbs
      go_wp2_with fail
      go_region
      all_goals
        go_wp2_with fail
        go_roundw
        case rel => exact ⟨k + 1, by omega, by go_num, by first | exact HB.out.drew | exact HB.out⟩
        case measure => simp [intOf]; omega
    · obtain rfl : k = zs.length := by omega
      go_wp2_with fail
      go_ret
      exact ⟨rfl, hbs⟩
theorem fewD_any (M : Nat) (t : LT) (w : World) (hM : M ≤ w.heap.size) (hH : Held w M t) (h1 : t.size ≤ 100000) (h2 : t.depth ≤ 10000) :
    Calls Tryz.prog 41 #[.agg #[.int .i64 t.k, .bool t.g, .slice t.la t.ln t.lc, .bool t.bb, .string t.s, .slice t.ia t.items.length t.ic, .slice t.ta t.tail.length t.tc]] w fun e w' => e = .returned (.bool true) ∧ Below w.heap.size w w' := by
  have h := few_any M t w hM hH
  rw [budT_ge t 100000 10000 (by omega) (by omega), show decide ((0 : Int) ≤ 100000 - (t.size : Int)) = true from decide_eq_true (by omega)] at h
  exact h
def Thirteen (w : World) (b o : Nat) (u : ET) : Prop := ∀ j v, u.cells[j]? = some v → w.cell? ⟨b, o + j, none⟩ = some v
theorem thirteen_below {w w' : World} {b o : Nat} {x : ET} (h : ∀ j v, x.cells[j]? = some v → w.cell? ⟨b, o + j, none⟩ = some v) (hlt : b < w.heap.size) (hb : Below w.heap.size w w') : Thirteen w' b o x := fun j v hj => (hb.cell (p := ⟨b, o + j, none⟩) hlt).trans (h j v hj)
theorem thirteen_keep {w w' : World} {b o : Nat} {x : ET} (h : Thirteen w b o x) (hb : Below w.heap.size w w') : Thirteen w' b o x := fun j v hj => by
  have h0 := h j v hj
  have hlt : b < w.heap.size := World.block_lt_of_cell? w _ h0
  exact (hb.cell (p := ⟨b, o + j, none⟩) hlt).trans h0
section
variable {a : Act} {w : World} {o : Oper} {p b off : Nat}
theorem exec_fE6 (ho : o.op = .fieldAddr 31 (.tmp p) 6) (ht : a.tmps.getD p undef = .pointer (some ⟨b, 0, none⟩)) : (execOp a.eval o).run Tryz.prog w = .ok (.value (.pointer (some ⟨b, 12, none⟩))) w := by
  rw [Array.getD_eq_getD_getElem?] at ht
  simp [execOp, ho, Act.eval, ht, go_sem]
theorem exec_ldR {n c : Nat} {A : Option Addr} (ho : o.op = .load 29 (.tmp p)) (ht : a.tmps.getD p undef = .pointer (some ⟨b, off, none⟩)) (hc : w.cell? ⟨b, off, none⟩ = some (.slice A n c)) : (execOp a.eval o).run Tryz.prog w = .ok (.value (.slice A n c)) w := by
  rw [Array.getD_eq_getD_getElem?] at ht
  simp [execOp, ho, Act.eval, ht, go_sem, hc]
theorem exec_ixE {q i n c : Nat} (ho : o.op = .indexAddr 29 (.tmp p) (.tmp q)) (ht : a.tmps.getD p undef = .slice (some ⟨b, off, none⟩) n c) (hq : a.tmps.getD q undef = .int .i64 (i : Nat)) (hn : i < n) : (execOp a.eval o).run Tryz.prog w = .ok (.value (.pointer (some ⟨b, off + i * 13, none⟩))) w := by
  rw [Array.getD_eq_getD_getElem?] at ht hq
  simp [execOp, ho, Act.eval, ht, hq, go_sem, hn]
theorem exec_loadE {u : ET} (ho : o.op = .load 31 (.tmp p)) (ht : a.tmps.getD p undef = .pointer (some ⟨b, off, none⟩)) (hc : Thirteen w b off u) :
    (execOp a.eval o).run Tryz.prog w = .ok (.value (.agg #[.int .i64 u.k, .int .i64 u.d.k, .bool u.d.g, .slice u.d.la u.d.ln u.d.lc, .bool u.d.bb, .string u.d.s, .slice u.d.ia u.d.items.length u.d.ic, .slice u.d.ta u.d.tail.length u.d.tc, .int .i64 u.v, .slice u.va u.vs.length u.vc, .bool u.rs, .int .i64 u.p, .slice u.ka u.kids.length u.kc])) w := by
  have c0 : w.cell? ⟨b, off, none⟩ = some (.int .i64 u.k) := hc 0 _ rfl
  have c1 : w.cell? ⟨b, off + 1, none⟩ = some (.int .i64 u.d.k) := hc 1 _ rfl
  have c2 : w.cell? ⟨b, off + 2, none⟩ = some (.bool u.d.g) := hc 2 _ rfl
  have c3 : w.cell? ⟨b, off + 3, none⟩ = some (.slice u.d.la u.d.ln u.d.lc) := hc 3 _ rfl
  have c4 : w.cell? ⟨b, off + 4, none⟩ = some (.bool u.d.bb) := hc 4 _ rfl
  have c5 : w.cell? ⟨b, off + 5, none⟩ = some (.string u.d.s) := hc 5 _ rfl
  have c6 : w.cell? ⟨b, off + 6, none⟩ = some (.slice u.d.ia u.d.items.length u.d.ic) := hc 6 _ rfl
  have c7 : w.cell? ⟨b, off + 7, none⟩ = some (.slice u.d.ta u.d.tail.length u.d.tc) := hc 7 _ rfl
  have c8 : w.cell? ⟨b, off + 8, none⟩ = some (.int .i64 u.v) := hc 8 _ rfl
  have c9 : w.cell? ⟨b, off + 9, none⟩ = some (.slice u.va u.vs.length u.vc) := hc 9 _ rfl
  have c10 : w.cell? ⟨b, off + 10, none⟩ = some (.bool u.rs) := hc 10 _ rfl
  have c11 : w.cell? ⟨b, off + 11, none⟩ = some (.int .i64 u.p) := hc 11 _ rfl
  have c12 : w.cell? ⟨b, off + 12, none⟩ = some (.slice u.ka u.kids.length u.kc) := hc 12 _ rfl
  rw [Array.getD_eq_getD_getElem?] at ht
  simp [execOp, ho, Act.eval, ht, go_sem, c0, c1, c2, c3, c4, c5, c6, c7, c8, c9, c10, c11, c12]
end
def RSameYes (M N : Nat) : Prop := ∀ (a b : ET), a.size ≤ N → shapeE a = shapeE b → TameE a → TameE b → ∀ (w : World), M ≤ w.heap.size → HeldE w M a → HeldE w M b →
    Calls Tryz.prog 24 #[.agg #[.int .i64 a.k, .int .i64 a.d.k, .bool a.d.g, .slice a.d.la a.d.ln a.d.lc, .bool a.d.bb, .string a.d.s, .slice a.d.ia a.d.items.length a.d.ic, .slice a.d.ta a.d.tail.length a.d.tc, .int .i64 a.v, .slice a.va a.vs.length a.vc, .bool a.rs, .int .i64 a.p, .slice a.ka a.kids.length a.kc], .agg #[.int .i64 b.k, .int .i64 b.d.k, .bool b.d.g, .slice b.d.la b.d.ln b.d.lc, .bool b.d.bb, .string b.d.s, .slice b.d.ia b.d.items.length b.d.ic, .slice b.d.ta b.d.tail.length b.d.tc, .int .i64 b.v, .slice b.va b.vs.length b.vc, .bool b.rs, .int .i64 b.p, .slice b.ka b.kids.length b.kc]] w fun e w' => e = .returned (.bool true) ∧ Below w.heap.size w w'
set_option maxRecDepth 100000 in
set_option maxHeartbeats 6400000 in
theorem rsameE_all (M : Nat) : ∀ N : Nat, N ≤ 1000000 → RSameYes M N := by
  intro N
  induction N with
  | zero => intro _ a b ha; rw [a.size_eq] at ha; omega
  | succ N ih =>
    intro hN a b ha hs hTa hTb w hM hA hB
    have IH := Lib.hid (ih (by omega))
    clear ih
    obtain ⟨W2, hW2, x0, x1, hz, hbel⟩ := two2 w (Obj.cells #[.int .i64 a.k, .int .i64 a.d.k, .bool a.d.g, .slice a.d.la a.d.ln a.d.lc, .bool a.d.bb, .string a.d.s, .slice a.d.ia a.d.items.length a.d.ic, .slice a.d.ta a.d.tail.length a.d.tc, .int .i64 a.v, .slice a.va a.vs.length a.vc, .bool a.rs, .int .i64 a.p, .slice a.ka a.kids.length a.kc] 31) (Obj.cells #[.int .i64 b.k, .int .i64 b.d.k, .bool b.d.g, .slice b.d.la b.d.ln b.d.lc, .bool b.d.bb, .string b.d.s, .slice b.d.ia b.d.items.length b.d.ic, .slice b.d.ta b.d.tail.length b.d.tc, .int .i64 b.v, .slice b.va b.vs.length b.vc, .bool b.rs, .int .i64 b.p, .slice b.ka b.kids.length b.kc] 31)
    have fa := (tameE_eq a).1 hTa
    have fb := (tameE_eq b).1 hTb
    rw [shapeE_eq a, shapeE_eq b] at hs
    injection hs with s1 s2 s3 s4 s5 s6 s7
    have hlen : b.kids.length = a.kids.length := by rw [← shapesE_length, ← s7, shapesE_length]
    have hat : ∀ k (h : k < a.kids.length) (h' : k < b.kids.length), shapeE a.kids[k] = shapeE b.kids[k] := fun k h h' => by
      have e1 := shapesE_at a.kids k h
      have e2 := shapesE_at b.kids k h'
      rw [s7, e2] at e1
      exact (Option.some.inj e1).symm
    have hi := fun W (hb : Below w.heap.size w W) => rints_yes M a.va b.va a.vc b.vc a.vs W (Nat.le_trans hM hb.size) (hA.1.2.keep fun q hq => hb.block q (by omega)) (s4 ▸ hB.1.2.keep fun q hq => hb.block q (by omega))
    have hfa := fun W (hb : Below w.heap.size w W) => fewD_any M a.d W (Nat.le_trans hM hb.size) (hA.1.1.below hM hb) fa.1.2.1 fa.1.2.2
    have hfb := fun W (hb : Below w.heap.size w W) => fewD_any M b.d W (Nat.le_trans hM hb.size) (hB.1.1.below hM hb) fb.1.2.1 fb.1.2.2
    have hd := fun W (hb : Below w.heap.size w W) => rs_any M 100000 (by decide) a.d b.d fa.1.2.1 s2 fa.1.1 fb.1.1 W (Nat.le_trans hM hb.size) (hA.1.1.below hM hb) (hB.1.1.below hM hb)
    have hsz : sizesE a.kids ≤ N := by rw [a.size_eq] at ha; omega
    have hvl : b.vs.length = a.vs.length := by rw [s4]
    rw [hvl, ← s1, ← s3, ← s5, ← s6, hlen] at hW2 x1
    have HH := Lib.hid (And.intro hi (And.intro hfa (And.intro hfb (And.intro hd (And.intro hbel (And.intro hW2 (And.intro x0 x1)))))))
    have HK := Lib.hid (And.intro hA.2 (And.intro hB.2 (And.intro fa.2.2 (And.intro fb.2.2 (And.intro hsz (And.intro hlen hat))))))
    have hkm := hA.2.1.2.1
    unfold maxLen at hkm
    have hkc := hA.2.1.1
    clear hi hfa hfb hd fa fb s2 s7 hTa hTb hA hB ha hbel hW2 x0 x1 hsz hat
    rw [hvl, ← s1, ← s3, ← s5, ← s6, hlen]
    clear s1 s3 s4 s5 s6 hvl hlen
    have n1 : (a.k != a.k) = false := by simp
    have n2 : (a.v != a.v) = false := by simp
    have n3 : (a.rs != a.rs) = false := by simp
    have n4 : (a.p != a.p) = false := by simp
    have n5 : ((a.kids.length : Int) != (a.kids.length : Int)) = false := by simp
    have n6 : (a.rs == a.rs) = true := by simp
    go_enter Tryz.func24, Tryz.ntmps24
    go_wp2_with fail
    rw [← HH.out.2.2.2.2.2.1]
    refine (HH.out.1 W2 HH.out.2.2.2.2.1).mono ?_
    rintro e w3 ⟨rfl, b3⟩
    have y0 := (b3.block w.heap.size (by omega)).trans HH.out.2.2.2.2.2.2.1
    have y1 := (b3.block (w.heap.size + 1) (by omega)).trans HH.out.2.2.2.2.2.2.2
    have hb3 := HH.out.2.2.2.2.1.trans (b3.mono (by omega))
    have z3 := b3.size
    have c1 : w3.cell? ⟨w.heap.size, 1, none⟩ = some (.int .i64 a.d.k) := by rw [Lib.cell_of_heap y0]; rfl
    have c2 : w3.cell? ⟨w.heap.size, 2, none⟩ = some (.bool a.d.g) := by rw [Lib.cell_of_heap y0]; rfl
    have c3 : w3.cell? ⟨w.heap.size, 3, none⟩ = some (.slice a.d.la a.d.ln a.d.lc) := by rw [Lib.cell_of_heap y0]; rfl
    have c4 : w3.cell? ⟨w.heap.size, 4, none⟩ = some (.bool a.d.bb) := by rw [Lib.cell_of_heap y0]; rfl
    have c5 : w3.cell? ⟨w.heap.size, 5, none⟩ = some (.string a.d.s) := by rw [Lib.cell_of_heap y0]; rfl
    have c6 : w3.cell? ⟨w.heap.size, 6, none⟩ = some (.slice a.d.ia a.d.items.length a.d.ic) := by rw [Lib.cell_of_heap y0]; rfl
    have c7 : w3.cell? ⟨w.heap.size, 7, none⟩ = some (.slice a.d.ta a.d.tail.length a.d.tc) := by rw [Lib.cell_of_heap y0]; rfl
    have c10 : w3.cell? ⟨w.heap.size, 10, none⟩ = some (.bool a.rs) := by rw [Lib.cell_of_heap y0]; rfl
    have c11 : w3.cell? ⟨w.heap.size, 11, none⟩ = some (.int .i64 a.p) := by rw [Lib.cell_of_heap y0]; rfl
    have c12 : w3.cell? ⟨w.heap.size, 12, none⟩ = some (.slice a.ka a.kids.length a.kc) := by rw [Lib.cell_of_heap y0]; rfl
    have e10 : w3.cell? ⟨w.heap.size + 1, 10, none⟩ = some (.bool a.rs) := by rw [Lib.cell_of_heap y1]; rfl
    have e11 : w3.cell? ⟨w.heap.size + 1, 11, none⟩ = some (.int .i64 a.p) := by rw [Lib.cell_of_heap y1]; rfl
    have e12 : w3.cell? ⟨w.heap.size + 1, 12, none⟩ = some (.slice b.ka a.kids.length b.kc) := by rw [Lib.cell_of_heap y1]; rfl
    have H3 := Lib.hid (And.intro y0 (And.intro y1 hb3))
    clear y0 y1 hb3 b3
    go_wp2_with fail
    refine (HH.out.2.1 w3 H3.out.2.2).mono ?_
    rintro e w4 ⟨rfl, b4⟩
    have y0 := (b4.block w.heap.size (by omega)).trans H3.out.1
    have y1 := (b4.block (w.heap.size + 1) (by omega)).trans H3.out.2.1
    have hb4 := H3.out.2.2.trans (b4.mono (by omega))
    have z4 := b4.size
    clear c1 c2 c3 c4 c5 c6 c7 c10 c11 c12
    clear e10 e11 e12
    have e1 : w4.cell? ⟨w.heap.size + 1, 1, none⟩ = some (.int .i64 b.d.k) := by rw [Lib.cell_of_heap y1]; rfl
    have e2 : w4.cell? ⟨w.heap.size + 1, 2, none⟩ = some (.bool b.d.g) := by rw [Lib.cell_of_heap y1]; rfl
    have e3 : w4.cell? ⟨w.heap.size + 1, 3, none⟩ = some (.slice b.d.la b.d.ln b.d.lc) := by rw [Lib.cell_of_heap y1]; rfl
    have e4 : w4.cell? ⟨w.heap.size + 1, 4, none⟩ = some (.bool b.d.bb) := by rw [Lib.cell_of_heap y1]; rfl
    have e5 : w4.cell? ⟨w.heap.size + 1, 5, none⟩ = some (.string b.d.s) := by rw [Lib.cell_of_heap y1]; rfl
    have e6 : w4.cell? ⟨w.heap.size + 1, 6, none⟩ = some (.slice b.d.ia b.d.items.length b.d.ic) := by rw [Lib.cell_of_heap y1]; rfl
    have e7 : w4.cell? ⟨w.heap.size + 1, 7, none⟩ = some (.slice b.d.ta b.d.tail.length b.d.tc) := by rw [Lib.cell_of_heap y1]; rfl
    have H4 := Lib.hid (And.intro y0 (And.intro y1 hb4))
    clear y0 y1 hb4 b4
    go_wp2_with fail
    refine (HH.out.2.2.1 w4 H4.out.2.2).mono ?_
    rintro e w5 ⟨rfl, b5⟩
    have y0 := (b5.block w.heap.size (by omega)).trans H4.out.1
    have y1 := (b5.block (w.heap.size + 1) (by omega)).trans H4.out.2.1
    have hb5 := H4.out.2.2.trans (b5.mono (by omega))
    have z5 := b5.size
    clear e1 e2 e3 e4 e5 e6 e7
    have c1 : w5.cell? ⟨w.heap.size, 1, none⟩ = some (.int .i64 a.d.k) := by rw [Lib.cell_of_heap y0]; rfl
    have c2 : w5.cell? ⟨w.heap.size, 2, none⟩ = some (.bool a.d.g) := by rw [Lib.cell_of_heap y0]; rfl
    have c3 : w5.cell? ⟨w.heap.size, 3, none⟩ = some (.slice a.d.la a.d.ln a.d.lc) := by rw [Lib.cell_of_heap y0]; rfl
    have c4 : w5.cell? ⟨w.heap.size, 4, none⟩ = some (.bool a.d.bb) := by rw [Lib.cell_of_heap y0]; rfl
    have c5 : w5.cell? ⟨w.heap.size, 5, none⟩ = some (.string a.d.s) := by rw [Lib.cell_of_heap y0]; rfl
    have c6 : w5.cell? ⟨w.heap.size, 6, none⟩ = some (.slice a.d.ia a.d.items.length a.d.ic) := by rw [Lib.cell_of_heap y0]; rfl
    have c7 : w5.cell? ⟨w.heap.size, 7, none⟩ = some (.slice a.d.ta a.d.tail.length a.d.tc) := by rw [Lib.cell_of_heap y0]; rfl
    have e1 : w5.cell? ⟨w.heap.size + 1, 1, none⟩ = some (.int .i64 b.d.k) := by rw [Lib.cell_of_heap y1]; rfl
    have e2 : w5.cell? ⟨w.heap.size + 1, 2, none⟩ = some (.bool b.d.g) := by rw [Lib.cell_of_heap y1]; rfl
    have e3 : w5.cell? ⟨w.heap.size + 1, 3, none⟩ = some (.slice b.d.la b.d.ln b.d.lc) := by rw [Lib.cell_of_heap y1]; rfl
    have e4 : w5.cell? ⟨w.heap.size + 1, 4, none⟩ = some (.bool b.d.bb) := by rw [Lib.cell_of_heap y1]; rfl
    have e5 : w5.cell? ⟨w.heap.size + 1, 5, none⟩ = some (.string b.d.s) := by rw [Lib.cell_of_heap y1]; rfl
    have e6 : w5.cell? ⟨w.heap.size + 1, 6, none⟩ = some (.slice b.d.ia b.d.items.length b.d.ic) := by rw [Lib.cell_of_heap y1]; rfl
    have e7 : w5.cell? ⟨w.heap.size + 1, 7, none⟩ = some (.slice b.d.ta b.d.tail.length b.d.tc) := by rw [Lib.cell_of_heap y1]; rfl
    have H5 := Lib.hid (And.intro y0 (And.intro y1 hb5))
    clear y0 y1 hb5 b5
    go_wp2_with fail
    refine (HH.out.2.2.2.1 w5 H5.out.2.2).mono ?_
    rintro e w6 ⟨rfl, b6⟩
    have y0 := (b6.block w.heap.size (by omega)).trans H5.out.1
    have y1 := (b6.block (w.heap.size + 1) (by omega)).trans H5.out.2.1
    have hb6 := H5.out.2.2.trans (b6.mono (by omega))
    have z6 := b6.size
    clear c1 c2 c3 c4 c5 c6 c7
    clear e1 e2 e3 e4 e5 e6 e7
    have c12 : w6.cell? ⟨w.heap.size, 12, none⟩ = some (.slice a.ka a.kids.length a.kc) := by rw [Lib.cell_of_heap y0]; rfl
    have H6 := Lib.hid (And.intro y0 (And.intro y1 hb6))
    clear y0 y1 hb6 b6
    go_wp2_with fail
    clear c12
    go_loopw [72] (fun i wr => ∃ k : Nat, k ≤ a.kids.length ∧ i = .int .i64 k ∧ Below w6.heap.size w6 wr) (fun i _ => a.kids.length - (intOf i).toNat)
    case atStart => exact ⟨0, Nat.zero_le _, rfl, Below.refl _ _⟩
    case round =>
      obtain ⟨k, hk, rfl, hb2⟩ := hrel
      by_cases hlk : k < a.kids.length
      · have hlk2 : k < b.kids.length := by rw [HK.out.2.2.2.2.2.1]; exact hlk
        obtain ⟨ga, oa, hae, hR1⟩ : ∃ ab ao, a.ka = some ⟨ab, ao, none⟩ ∧ LiesER w M a.kids ab ao := ⟨_, _, (HK.out.1.1.2.2.1 (by omega)).1, HK.out.1.2⟩
        obtain ⟨gb, ob, hbe, hR2⟩ : ∃ ab ao, b.ka = some ⟨ab, ao, none⟩ ∧ LiesER w M b.kids ab ao := ⟨_, _, (HK.out.2.1.1.2.2.1 (by omega)).1, HK.out.2.1.2⟩
        obtain ⟨l1, hcx, hhx⟩ := liesE_held.1 ((liesER_iff _ _ _).1 hR1 k hlk)
        obtain ⟨l2, hcy, hhy⟩ := liesE_held.1 ((liesER_iff _ _ _).1 hR2 k hlk2)
        have hsz := sizesE_mem hlk
        have hsh := HK.out.2.2.2.2.2.2 k hlk hlk2
        have htx := tameER_at _ _ hlk HK.out.2.2.1
        have hty := tameER_at _ _ hlk2 HK.out.2.2.2.1
        obtain ⟨x, hx⟩ : ∃ x, a.kids[k] = x := ⟨_, rfl⟩
        obtain ⟨y, hy⟩ : ∃ y, b.kids[k] = y := ⟨_, rfl⟩
        rw [hx] at hcx hhx hsz hsh htx
        rw [hy] at hcy hhy hsh hty
        rw [Nat.mul_comm 13 k] at hcx hcy
        have hbw2 : Below w.heap.size w wr := H6.out.2.2.trans (hb2.mono H6.out.2.2.size)
        have hxs : x.size ≤ N := by have := HK.out.2.2.2.2.1; omega
        have HX := Lib.hid (And.intro (thirteen_below (w' := wr) hcx (by omega) hbw2) (And.intro (thirteen_below (w' := wr) hcy (by omega) hbw2) (fun W (hb : Below wr.heap.size wr W) => IH.out x y hxs hsh htx hty W (by have := hbw2.size; have := hb.size; omega) (hhx.keep (by have := hbw2.size; have := hb.size; omega) fun q hq => (hb.block q (by have := hbw2.size; omega)).trans (hbw2.block q (by omega))) (hhy.keep (by have := hbw2.size; have := hb.size; omega) fun q hq => (hb.block q (by have := hbw2.size; omega)).trans (hbw2.block q (by omega))))))
        clear hcx hhx hcy hhy hsz hsh htx hty hx hy hR1 hR2 hxs l1 l2
        go_wp2_with fail
        refine wp_region_phases (nA := 12) (by kernel_rfl) (by kernel_rfl) (fun i => 75 + i)
          (fun i W v => match i with
            | 0 => v = .pointer (some ⟨w.heap.size, 12, none⟩)
            | 1 => v = .slice a.ka a.kids.length a.kc
            | 2 => v = .int .i64 (k : Nat)
            | 3 => v = .pointer (some ⟨ga, oa + k * 13, none⟩)
            | 4 => v = .agg #[.int .i64 x.k, .int .i64 x.d.k, .bool x.d.g, .slice x.d.la x.d.ln x.d.lc, .bool x.d.bb, .string x.d.s, .slice x.d.ia x.d.items.length x.d.ic, .slice x.d.ta x.d.tail.length x.d.tc, .int .i64 x.v, .slice x.va x.vs.length x.vc, .bool x.rs, .int .i64 x.p, .slice x.ka x.kids.length x.kc]
            | 5 => v = .pointer (some ⟨w.heap.size + 1, 12, none⟩)
            | 6 => v = .slice b.ka a.kids.length b.kc
            | 7 => v = .int .i64 (k : Nat)
            | 8 => v = .pointer (some ⟨gb, ob + k * 13, none⟩)
            | 9 => v = .agg #[.int .i64 y.k, .int .i64 y.d.k, .bool y.d.g, .slice y.d.la y.d.ln y.d.lc, .bool y.d.bb, .string y.d.s, .slice y.d.ia y.d.items.length y.d.ic, .slice y.d.ta y.d.tail.length y.d.tc, .int .i64 y.v, .slice y.va y.vs.length y.vc, .bool y.rs, .int .i64 y.p, .slice y.ka y.kids.length y.kc]
            | 10 => v = .bool true
            | _ => v = .bool false) (by decide) (by kernel_rfl)
          (fun i j hi hj h => by omega) (fun i hi => by simp only [List.size_toArray, List.length_cons, List.length_nil]; omega) ?_ ?_ ?_
        · intro i hi W W' v h hb
          rcases (show i = 0 ∨ i = 1 ∨ i = 2 ∨ i = 3 ∨ i = 4 ∨ i = 5 ∨ i = 6 ∨ i = 7 ∨ i = 8 ∨ i = 9 ∨ i = 10 ∨ i = 11 by omega) with rfl | rfl | rfl | rfl | rfl | rfl | rfl | rfl | rfl | rfl | rfl | rfl
          · exact h
          · exact h
          · exact h
          · exact h
          · exact h
          · exact h
          · exact h
          · exact h
          · exact h
          · exact h
          · exact h
          · exact h
        · intro i hi l A W I hdep
          rcases (show i = 0 ∨ i = 1 ∨ i = 2 ∨ i = 3 ∨ i = 4 ∨ i = 5 ∨ i = 6 ∨ i = 7 ∨ i = 8 ∨ i = 9 ∨ i = 10 ∨ i = 11 by omega) with rfl | rfl | rfl | rfl | rfl | rfl | rfl | rfl | rfl | rfl | rfl | rfl
          · exact wpOp_valW rfl (rfl) (exec_fE6 rfl ((I.other 2 (by intro j hj; omega)).trans rfl)) ⟨_, rfl, rfl, Below.refl _ _⟩
          · have v0 : A.tmps.getD 75 undef = _ := I.val 0 (by decide) (hdep 0 (by kernel_rfl))
            exact wpOp_valW rfl (rfl) (exec_ldR rfl v0 (cell_at H6.out.1 (hb2.trans (I.below.mono hb2.size)) 12 rfl)) ⟨_, rfl, rfl, Below.refl _ _⟩
          · exact wpOp_valW rfl (rfl) (exec_moveV rfl ((I.other 5 (by intro j hj; omega)).trans rfl)) ⟨_, rfl, rfl, Below.refl _ _⟩
          · have v1 : A.tmps.getD 76 undef = _ := I.val 1 (by decide) (hdep 1 (by kernel_rfl))
            have v2 : A.tmps.getD 77 undef = _ := I.val 2 (by decide) (hdep 2 (by kernel_rfl))
            exact wpOp_valW rfl (rfl) (exec_ixE rfl (v1.trans (by rw [hae])) v2 hlk) ⟨_, rfl, rfl, Below.refl _ _⟩
          · have v3 : A.tmps.getD 78 undef = _ := I.val 3 (by decide) (hdep 3 (by kernel_rfl))
            exact wpOp_valW rfl (rfl) (exec_loadE rfl v3 (thirteen_keep HX.out.1 I.below)) ⟨_, rfl, rfl, Below.refl _ _⟩
          · exact wpOp_valW rfl (rfl) (exec_fE6 rfl ((I.other 3 (by intro j hj; omega)).trans rfl)) ⟨_, rfl, rfl, Below.refl _ _⟩
          · have v5 : A.tmps.getD 80 undef = _ := I.val 5 (by decide) (hdep 5 (by kernel_rfl))
            exact wpOp_valW rfl (rfl) (exec_ldR rfl v5 (cell_at H6.out.2.1 (hb2.trans (I.below.mono hb2.size)) 12 rfl)) ⟨_, rfl, rfl, Below.refl _ _⟩
          · exact wpOp_valW rfl (rfl) (exec_moveV rfl ((I.other 5 (by intro j hj; omega)).trans rfl)) ⟨_, rfl, rfl, Below.refl _ _⟩
          · have v6 : A.tmps.getD 81 undef = _ := I.val 6 (by decide) (hdep 6 (by kernel_rfl))
            have v7 : A.tmps.getD 82 undef = _ := I.val 7 (by decide) (hdep 7 (by kernel_rfl))
            exact wpOp_valW rfl (rfl) (exec_ixE rfl (v6.trans (by rw [hbe])) v7 hlk) ⟨_, rfl, rfl, Below.refl _ _⟩
          · have v8 : A.tmps.getD 83 undef = _ := I.val 8 (by decide) (hdep 8 (by kernel_rfl))
            exact wpOp_valW rfl (rfl) (exec_loadE rfl v8 (thirteen_keep HX.out.2.1 I.below)) ⟨_, rfl, rfl, Below.refl _ _⟩
          · have v4 : A.tmps.getD 79 undef = _ := I.val 4 (by decide) (hdep 4 (by kernel_rfl))
            have v9 : A.tmps.getD 84 undef = _ := I.val 9 (by decide) (hdep 9 (by kernel_rfl))
            refine wpOp_callW rfl (rfl) ((exec_call2 rfl).trans (by rw [v4, v9])) (by simp [go_sem]) (HX.out.2.2 W I.below) ?_
            rintro e W' ⟨rfl, b⟩
            exact ⟨_, rfl, _, rfl, rfl, b⟩
          · have v10 : A.tmps.getD 85 undef = _ := I.val 10 (by decide) (hdep 10 (by kernel_rfl))
            exact wpOp_valW rfl (rfl) (exec_not rfl v10) ⟨_, rfl, rfl, Below.refl _ _⟩
        intro A w9 hdf hsz hoth hval hb9
        have v0 : A.tmps.getD 75 undef = _ := hval 0 (by decide)
        have v1 : A.tmps.getD 76 undef = _ := hval 1 (by decide)
        have v2 : A.tmps.getD 77 undef = _ := hval 2 (by decide)
        have v3 : A.tmps.getD 78 undef = _ := hval 3 (by decide)
        have v4 : A.tmps.getD 79 undef = _ := hval 4 (by decide)
        have v5 : A.tmps.getD 80 undef = _ := hval 5 (by decide)
        have v6 : A.tmps.getD 81 undef = _ := hval 6 (by decide)
        have v7 : A.tmps.getD 82 undef = _ := hval 7 (by decide)
        have v8 : A.tmps.getD 83 undef = _ := hval 8 (by decide)
        have v9 : A.tmps.getD 84 undef = _ := hval 9 (by decide)
        have v10 : A.tmps.getD 85 undef = _ := hval 10 (by decide)
        have v11 : A.tmps.getD 86 undef = _ := hval 11 (by decide)
        have hA := tower_pairs (a := A) [(75, .pointer (some ⟨w.heap.size, 12, none⟩)), (76, .slice a.ka a.kids.length a.kc), (77, .int .i64 (k : Nat)), (78, .pointer (some ⟨ga, oa + k * 13, none⟩)), (79, .agg #[.int .i64 x.k, .int .i64 x.d.k, .bool x.d.g, .slice x.d.la x.d.ln x.d.lc, .bool x.d.bb, .string x.d.s, .slice x.d.ia x.d.items.length x.d.ic, .slice x.d.ta x.d.tail.length x.d.tc, .int .i64 x.v, .slice x.va x.vs.length x.vc, .bool x.rs, .int .i64 x.p, .slice x.ka x.kids.length x.kc]), (80, .pointer (some ⟨w.heap.size + 1, 12, none⟩)), (81, .slice b.ka a.kids.length b.kc), (82, .int .i64 (k : Nat)), (83, .pointer (some ⟨gb, ob + k * 13, none⟩)), (84, .agg #[.int .i64 y.k, .int .i64 y.d.k, .bool y.d.g, .slice y.d.la y.d.ln y.d.lc, .bool y.d.bb, .string y.d.s, .slice y.d.ia y.d.items.length y.d.ic, .slice y.d.ta y.d.tail.length y.d.tc, .int .i64 y.v, .slice y.va y.vs.length y.vc, .bool y.rs, .int .i64 y.p, .slice y.ka y.kids.length y.kc]), (85, .bool true), (86, .bool false)] ?_ ?_ hdf hsz (fun m hm => hoth m (fun j hj => by
          simp only [List.forall_mem_cons] at hm
          obtain ⟨k0, k1, k2, k3, k4, k5, k6, k7, k8, k9, k10, k11, -⟩ := hm
          rcases (show j = 0 ∨ j = 1 ∨ j = 2 ∨ j = 3 ∨ j = 4 ∨ j = 5 ∨ j = 6 ∨ j = 7 ∨ j = 8 ∨ j = 9 ∨ j = 10 ∨ j = 11 by omega) with rfl | rfl | rfl | rfl | rfl | rfl | rfl | rfl | rfl | rfl | rfl | rfl
          · exact k0
          · exact k1
          · exact k2
          · exact k3
          · exact k4
          · exact k5
          · exact k6
          · exact k7
          · exact k8
          · exact k9
          · exact k10
          · exact k11))
        rotate_left
        · intro p hp
          simp only [List.mem_cons, List.not_mem_nil, or_false] at hp
          rcases hp with rfl | rfl | rfl | rfl | rfl | rfl | rfl | rfl | rfl | rfl | rfl | rfl <;> simp
        · intro p hp
          simp only [List.mem_cons, List.not_mem_nil, or_false] at hp
          rcases hp with rfl | rfl | rfl | rfl | rfl | rfl | rfl | rfl | rfl | rfl | rfl | rfl
          · exact v0
          · exact v1
          · exact v2
          · exact v3
          · exact v4
          · exact v5
          · exact v6
          · exact v7
          · exact v8
          · exact v9
          · exact v10
          · exact v11
        clear v0 v1 v2 v3 v4 v5 v6 v7 v8 v9 v10 v11 hval hoth hsz hdf
        subst hA
        simp only [List.foldl, Act.put, List.setIfInBounds_toArray, List.set_cons_zero, List.set_cons_succ]
        show wpOps _ _ _ [] _ _
        simp only [wpOps]
        have hb9' := hb2.trans (hb9.mono hb2.size)
        clear hb9 hb2 hbw2
        go_wp2_with fail
        go_roundw
        case rel => exact ⟨k + 1, by omega, by go_num, hb9'⟩
        case measure => simp [intOf]; omega
      · obtain rfl : k = a.kids.length := by omega
        have hbw2 : Below w.heap.size w wr := H6.out.2.2.trans (hb2.mono H6.out.2.2.size)
        go_wp2_with fail
        go_ret
        exact ⟨rfl, hbw2⟩
set_option maxRecDepth 100000 in
set_option maxHeartbeats 3200000 in
theorem rsameEE_yes (M : Nat) (a b : ET) (hs : shapeE a = shapeE b) (h1 : a.size ≤ 100000) (h2 : a.depth ≤ 10000) (hTa : TameE a) (hTb : TameE b) (w : World) (hM : M ≤ w.heap.size) (hA : HeldE w M a) (hB : HeldE w M b) :
    Calls Tryz.prog 12 #[.agg #[.int .i64 a.k, .int .i64 a.d.k, .bool a.d.g, .slice a.d.la a.d.ln a.d.lc, .bool a.d.bb, .string a.d.s, .slice a.d.ia a.d.items.length a.d.ic, .slice a.d.ta a.d.tail.length a.d.tc, .int .i64 a.v, .slice a.va a.vs.length a.vc, .bool a.rs, .int .i64 a.p, .slice a.ka a.kids.length a.kc], .agg #[.int .i64 b.k, .int .i64 b.d.k, .bool b.d.g, .slice b.d.la b.d.ln b.d.lc, .bool b.d.bb, .string b.d.s, .slice b.d.ia b.d.items.length b.d.ic, .slice b.d.ta b.d.tail.length b.d.tc, .int .i64 b.v, .slice b.va b.vs.length b.vc, .bool b.rs, .int .i64 b.p, .slice b.ka b.kids.length b.kc]] w fun e w' => e = .returned (.bool true) ∧ Below w.heap.size w w' := by
  obtain ⟨w2, hw2, a0, a1, hz, hbel⟩ := two2 w (Obj.cells #[.int .i64 a.k, .int .i64 a.d.k, .bool a.d.g, .slice a.d.la a.d.ln a.d.lc, .bool a.d.bb, .string a.d.s, .slice a.d.ia a.d.items.length a.d.ic, .slice a.d.ta a.d.tail.length a.d.tc, .int .i64 a.v, .slice a.va a.vs.length a.vc, .bool a.rs, .int .i64 a.p, .slice a.ka a.kids.length a.kc] 31) (Obj.cells #[.int .i64 b.k, .int .i64 b.d.k, .bool b.d.g, .slice b.d.la b.d.ln b.d.lc, .bool b.d.bb, .string b.d.s, .slice b.d.ia b.d.items.length b.d.ic, .slice b.d.ta b.d.tail.length b.d.tc, .int .i64 b.v, .slice b.va b.vs.length b.vc, .bool b.rs, .int .i64 b.p, .slice b.ka b.kids.length b.kc] 31)
  have hla := fun W (hb : Below w.heap.size w W) => fewE_any M a W (Nat.le_trans hM hb.size) (hA.below hM hb) h1 h2
  have hlb := fun W (hb : Below w.heap.size w W) => fewE_any M b W (Nat.le_trans hM hb.size) (hB.below hM hb) (by rw [← sizeES_shape, ← hs, sizeES_shape]; exact h1) (by rw [← depthES_shape, ← hs, depthES_shape]; exact h2)
  have hal := fun W (hb : Below w.heap.size w W) => rsameE_all M a.size (by omega) a b (Nat.le_refl _) hs hTa hTb W (Nat.le_trans hM hb.size) (hA.below hM hb) (hB.below hM hb)
  have HL := Lib.hid (And.intro hla (And.intro hlb hal))
  have HW := Lib.hid (And.intro hw2 (And.intro a0 (And.intro a1 (And.intro hz hbel))))
  clear hla hlb hal hw2 a0 a1 hz hbel hA hB hTa hTb hs
  go_enter Tryz.func12, Tryz.ntmps12
  go_wp2_with fail
  rw [← HW.out.1]
  refine (HL.out.1 w2 HW.out.2.2.2.2).mono ?_
  rintro e w3 ⟨rfl, b3⟩
  have x0 := (b3.block w.heap.size (by rw [HW.out.2.2.2.1]; omega)).trans HW.out.2.1
  have x1 := (b3.block (w.heap.size + 1) (by rw [HW.out.2.2.2.1]; omega)).trans HW.out.2.2.1
  have hb3 := HW.out.2.2.2.2.trans (b3.mono HW.out.2.2.2.2.size)
  have hz3 : w.heap.size + 2 ≤ w3.heap.size := by have := b3.size; rwa [HW.out.2.2.2.1] at this
  have s0 : w3.cell? ⟨w.heap.size + 1, 0, none⟩ = some (.int .i64 b.k) := by rw [Lib.cell_of_heap x1]; rfl
  have s1 : w3.cell? ⟨w.heap.size + 1, 1, none⟩ = some (.int .i64 b.d.k) := by rw [Lib.cell_of_heap x1]; rfl
  have s2 : w3.cell? ⟨w.heap.size + 1, 2, none⟩ = some (.bool b.d.g) := by rw [Lib.cell_of_heap x1]; rfl
  have s3 : w3.cell? ⟨w.heap.size + 1, 3, none⟩ = some (.slice b.d.la b.d.ln b.d.lc) := by rw [Lib.cell_of_heap x1]; rfl
  have s4 : w3.cell? ⟨w.heap.size + 1, 4, none⟩ = some (.bool b.d.bb) := by rw [Lib.cell_of_heap x1]; rfl
  have s5 : w3.cell? ⟨w.heap.size + 1, 5, none⟩ = some (.string b.d.s) := by rw [Lib.cell_of_heap x1]; rfl
  have s6 : w3.cell? ⟨w.heap.size + 1, 6, none⟩ = some (.slice b.d.ia b.d.items.length b.d.ic) := by rw [Lib.cell_of_heap x1]; rfl
  have s7 : w3.cell? ⟨w.heap.size + 1, 7, none⟩ = some (.slice b.d.ta b.d.tail.length b.d.tc) := by rw [Lib.cell_of_heap x1]; rfl
  have s8 : w3.cell? ⟨w.heap.size + 1, 8, none⟩ = some (.int .i64 b.v) := by rw [Lib.cell_of_heap x1]; rfl
  have s9 : w3.cell? ⟨w.heap.size + 1, 9, none⟩ = some (.slice b.va b.vs.length b.vc) := by rw [Lib.cell_of_heap x1]; rfl
  have s10 : w3.cell? ⟨w.heap.size + 1, 10, none⟩ = some (.bool b.rs) := by rw [Lib.cell_of_heap x1]; rfl
  have s11 : w3.cell? ⟨w.heap.size + 1, 11, none⟩ = some (.int .i64 b.p) := by rw [Lib.cell_of_heap x1]; rfl
  have s12 : w3.cell? ⟨w.heap.size + 1, 12, none⟩ = some (.slice b.ka b.kids.length b.kc) := by rw [Lib.cell_of_heap x1]; rfl
  have H3 := Lib.hid (And.intro x0 (And.intro x1 (And.intro hb3 hz3)))
  clear x0 x1 hb3 hz3 b3
  go_wp2_with fail
  refine (HL.out.2.1 w3 H3.out.2.2.1).mono ?_
  rintro e w4 ⟨rfl, b4⟩
  clear s0 s1 s2 s3 s4 s5 s6 s7 s8 s9 s10 s11 s12
  have x0 := (b4.block w.heap.size (by have := H3.out.2.2.2; omega)).trans H3.out.1
  have x1 := (b4.block (w.heap.size + 1) (by have := H3.out.2.2.2; omega)).trans H3.out.2.1
  have hb4 := H3.out.2.2.1.trans (b4.mono H3.out.2.2.1.size)
  have r0 : w4.cell? ⟨w.heap.size, 0, none⟩ = some (.int .i64 a.k) := by rw [Lib.cell_of_heap x0]; rfl
  have r1 : w4.cell? ⟨w.heap.size, 1, none⟩ = some (.int .i64 a.d.k) := by rw [Lib.cell_of_heap x0]; rfl
  have r2 : w4.cell? ⟨w.heap.size, 2, none⟩ = some (.bool a.d.g) := by rw [Lib.cell_of_heap x0]; rfl
  have r3 : w4.cell? ⟨w.heap.size, 3, none⟩ = some (.slice a.d.la a.d.ln a.d.lc) := by rw [Lib.cell_of_heap x0]; rfl
  have r4 : w4.cell? ⟨w.heap.size, 4, none⟩ = some (.bool a.d.bb) := by rw [Lib.cell_of_heap x0]; rfl
  have r5 : w4.cell? ⟨w.heap.size, 5, none⟩ = some (.string a.d.s) := by rw [Lib.cell_of_heap x0]; rfl
  have r6 : w4.cell? ⟨w.heap.size, 6, none⟩ = some (.slice a.d.ia a.d.items.length a.d.ic) := by rw [Lib.cell_of_heap x0]; rfl
  have r7 : w4.cell? ⟨w.heap.size, 7, none⟩ = some (.slice a.d.ta a.d.tail.length a.d.tc) := by rw [Lib.cell_of_heap x0]; rfl
  have r8 : w4.cell? ⟨w.heap.size, 8, none⟩ = some (.int .i64 a.v) := by rw [Lib.cell_of_heap x0]; rfl
  have r9 : w4.cell? ⟨w.heap.size, 9, none⟩ = some (.slice a.va a.vs.length a.vc) := by rw [Lib.cell_of_heap x0]; rfl
  have r10 : w4.cell? ⟨w.heap.size, 10, none⟩ = some (.bool a.rs) := by rw [Lib.cell_of_heap x0]; rfl
  have r11 : w4.cell? ⟨w.heap.size, 11, none⟩ = some (.int .i64 a.p) := by rw [Lib.cell_of_heap x0]; rfl
  have r12 : w4.cell? ⟨w.heap.size, 12, none⟩ = some (.slice a.ka a.kids.length a.kc) := by rw [Lib.cell_of_heap x0]; rfl
  have s0 : w4.cell? ⟨w.heap.size + 1, 0, none⟩ = some (.int .i64 b.k) := by rw [Lib.cell_of_heap x1]; rfl
  have s1 : w4.cell? ⟨w.heap.size + 1, 1, none⟩ = some (.int .i64 b.d.k) := by rw [Lib.cell_of_heap x1]; rfl
  have s2 : w4.cell? ⟨w.heap.size + 1, 2, none⟩ = some (.bool b.d.g) := by rw [Lib.cell_of_heap x1]; rfl
  have s3 : w4.cell? ⟨w.heap.size + 1, 3, none⟩ = some (.slice b.d.la b.d.ln b.d.lc) := by rw [Lib.cell_of_heap x1]; rfl
  have s4 : w4.cell? ⟨w.heap.size + 1, 4, none⟩ = some (.bool b.d.bb) := by rw [Lib.cell_of_heap x1]; rfl
  have s5 : w4.cell? ⟨w.heap.size + 1, 5, none⟩ = some (.string b.d.s) := by rw [Lib.cell_of_heap x1]; rfl
  have s6 : w4.cell? ⟨w.heap.size + 1, 6, none⟩ = some (.slice b.d.ia b.d.items.length b.d.ic) := by rw [Lib.cell_of_heap x1]; rfl
  have s7 : w4.cell? ⟨w.heap.size + 1, 7, none⟩ = some (.slice b.d.ta b.d.tail.length b.d.tc) := by rw [Lib.cell_of_heap x1]; rfl
  have s8 : w4.cell? ⟨w.heap.size + 1, 8, none⟩ = some (.int .i64 b.v) := by rw [Lib.cell_of_heap x1]; rfl
  have s9 : w4.cell? ⟨w.heap.size + 1, 9, none⟩ = some (.slice b.va b.vs.length b.vc) := by rw [Lib.cell_of_heap x1]; rfl
  have s10 : w4.cell? ⟨w.heap.size + 1, 10, none⟩ = some (.bool b.rs) := by rw [Lib.cell_of_heap x1]; rfl
  have s11 : w4.cell? ⟨w.heap.size + 1, 11, none⟩ = some (.int .i64 b.p) := by rw [Lib.cell_of_heap x1]; rfl
  have s12 : w4.cell? ⟨w.heap.size + 1, 12, none⟩ = some (.slice b.ka b.kids.length b.kc) := by rw [Lib.cell_of_heap x1]; rfl
  have H4 := Lib.hid hb4
  clear x0 x1 hb4 b4
  go_wp2_with fail
  refine (HL.out.2.2 w4 H4.out).mono ?_
  rintro e w5 ⟨rfl, b5⟩
  have hb5 := H4.out.trans (b5.mono H4.out.size)
  clear b5
  go_wp2_with fail
  go_ret
  exact ⟨rfl, hb5⟩
end Go.Proofs.YthdhdmmlmbkalaaGreatDoor
