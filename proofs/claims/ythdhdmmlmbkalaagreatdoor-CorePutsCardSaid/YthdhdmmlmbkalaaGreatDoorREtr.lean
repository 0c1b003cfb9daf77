/-
  core.same, core.Same of two expressions of one shape.
-/
import Derived.Test.YthdhdmmlmbkalaaGreatDoorJr10
import Derived.Test.YthdhdmmlmbkalaaGreatDoorJr5
import Derived.Test.YthdhdmmlmbkalaaGreatDoorJr7
set_option linter.unusedVariables false
set_option linter.unusedSimpArgs false
set_option linter.unusedSectionVars false
set_option linter.unnecessarySimpa false
namespace Go.Proofs.YthdhdmmlmbkalaaGreatDoor
open Go.RowKit

set_option maxRecDepth 100000 in
set_option maxHeartbeats 3200000 in
theorem equalI_yes (M : Nat) (a b : Option Addr) (ca cb : Nat) (zs : List Int) (w : World) (hM : M ≤ w.heap.size) (hA : IntsAt w M a ca zs) (hB : IntsAt w M b cb zs) :
    Calls Tryz.prog 45 #[.slice a zs.length ca, .slice b zs.length cb] w fun e w' => e = .returned (.bool true) ∧ Below w.heap.size w w' := by
  have hl := hA.1.1
  have hm := hA.1.2.1
  unfold maxLen at hm
  have HH := Lib.hid (And.intro hA hB)
  clear hA hB
  have hb0 := Below.refl w.heap.size w
  go_enter Tryz.func45, Tryz.ntmps45
  go_wp2_with fail
  go_loopw [13] (fun i wr => ∃ k : Nat, k ≤ zs.length ∧ i = .int .i64 k ∧ Below w.heap.size w wr) (fun i _ => zs.length - (intOf i).toNat)
  case atStart => exact ⟨0, Nat.zero_le _, rfl, hb0⟩
  case round =>
    obtain ⟨k, hk, rfl, hbs⟩ := hrel
    clear hb0
    by_cases hlk : k < zs.length
    · have hsA := HH.out.1.1.2.2.1 (by omega)
      have hsB := HH.out.2.1.2.2.1 (by omega)
      have hxA := (HH.out.1.2 k hlk).1
      have hxB := (HH.out.2.2 k hlk).1
      obtain ⟨z, hz⟩ : ∃ z, zs[k] = z := ⟨_, rfl⟩
      rw [hz] at hxA hxB
      obtain ⟨ga, hga⟩ : ∃ x, blk a = x := ⟨_, rfl⟩
      obtain ⟨oa, hoa⟩ : ∃ x, ofs a = x := ⟨_, rfl⟩
      obtain ⟨gb, hgb⟩ : ∃ x, blk b = x := ⟨_, rfl⟩
      obtain ⟨ob, hob⟩ : ∃ x, ofs b = x := ⟨_, rfl⟩
      rw [hga, hoa] at hsA hxA
      rw [hgb, hob] at hsB hxB
      obtain ⟨e1, l1⟩ := hsA
      obtain ⟨e2, l2⟩ := hsB
      have c1 : wr.cell? ⟨ga, oa + k, none⟩ = some (.int .i64 z) := (World.cell?_of_block (w := w) (a := ⟨ga, oa + k, none⟩) (hbs.block ga (by omega))).trans hxA
      have c2 : wr.cell? ⟨gb, ob + k, none⟩ = some (.int .i64 z) := (World.cell?_of_block (w := w) (a := ⟨gb, ob + k, none⟩) (hbs.block gb (by omega))).trans hxB
      subst e1 e2
      clear hxA hxB l1 l2 hz
      have HB := Lib.hid hbs
      clear hbs
      go_wp2_with fail
      go_region
      all_goals
        go_wp2_with fail
        go_roundw
        case rel => exact ⟨k + 1, by omega, by go_num, by first | exact HB.out.drew | exact HB.out⟩
        case measure => simp [intOf]; omega
    · obtain rfl : k = zs.length := by omega
      go_wp2_with fail
      go_ret
      exact ⟨rfl, hbs⟩
/-- What same answers of two of one shape. -/
def SameYes (M N : Nat) : Prop := ∀ (a b : ET), a.size ≤ N → shapeE a = shapeE b → TameE a → TameE b → ∀ (w : World), M ≤ w.heap.size → HeldE w M a → HeldE w M b →
    Calls Tryz.prog 26 #[.agg #[.int .i64 a.k, .int .i64 a.d.k, .bool a.d.g, .slice a.d.la a.d.ln a.d.lc, .bool a.d.bb, .string a.d.s, .slice a.d.ia a.d.items.length a.d.ic, .slice a.d.ta a.d.tail.length a.d.tc, .int .i64 a.v, .slice a.va a.vs.length a.vc, .bool a.rs, .int .i64 a.p, .slice a.ka a.kids.length a.kc], .agg #[.int .i64 b.k, .int .i64 b.d.k, .bool b.d.g, .slice b.d.la b.d.ln b.d.lc, .bool b.d.bb, .string b.d.s, .slice b.d.ia b.d.items.length b.d.ic, .slice b.d.ta b.d.tail.length b.d.tc, .int .i64 b.v, .slice b.va b.vs.length b.vc, .bool b.rs, .int .i64 b.p, .slice b.ka b.kids.length b.kc]] w fun e w' => e = .returned (.bool true) ∧ Below w.heap.size w w'
set_option maxRecDepth 100000 in
set_option maxHeartbeats 3200000 in
theorem equalE_yes (M N : Nat) (ih : SameYes M N) (la lb : List ET) (a b : Option Addr) (ca cb : Nat) (hs : shapesE la = shapesE lb) (hT : TameER la) (hT' : TameER lb) (hsz : sizesE la ≤ N) (w : World) (hM : M ≤ w.heap.size) (hsa : Spot M a la.length ca) (hA : LiesER w M la (blk a) (ofs a)) (hsb : Spot M b lb.length cb) (hB : LiesER w M lb (blk b) (ofs b)) :
    Calls Tryz.prog 46 #[.slice a la.length ca, .slice b lb.length cb, .func (.func 26) #[] #[]] w fun e w' => e = .returned (.bool true) ∧ Below w.heap.size w w' := by
  have hlen : lb.length = la.length := by rw [← shapesE_length, ← hs, shapesE_length]
  have hl := hsa.1
  have hm := hsa.2.1
  unfold maxLen at hm
  have hat : ∀ k (h : k < la.length) (h' : k < lb.length), shapeE la[k] = shapeE lb[k] := fun k h h' => by
    have e1 := shapesE_at la k h
    have e2 := shapesE_at lb k h'
    rw [hs, e2] at e1
    exact (Option.some.inj e1).symm
  have HH := Lib.hid (And.intro ih (And.intro hT (And.intro hT' (And.intro hsz (And.intro hA (And.intro hB (And.intro hat (And.intro hsa (And.intro hsb hlen)))))))))
  rw [hlen]
  clear ih hT hT' hsz hA hB hs hat hsa hsb hlen
  have hb0 := Below.refl w.heap.size w
  go_enter Tryz.func46, Tryz.ntmps46
  go_wp2_with fail
  go_loopw [17] (fun i wr => ∃ k : Nat, k ≤ la.length ∧ i = .int .i64 k ∧ Below w.heap.size w wr) (fun i _ => la.length - (intOf i).toNat)
  case atStart => exact ⟨0, Nat.zero_le _, rfl, hb0⟩
  case round =>
    obtain ⟨k, hk, rfl, hbs⟩ := hrel
    clear hb0
    by_cases hlk : k < la.length
    · obtain ⟨ih, hT, hT', hsz, hA, hB, hat, hsa, hsb, hlen⟩ := HH.out
      have hlk' : k < lb.length := by omega
      have hsA := hsa.2.2.1 (by omega)
      have hsB := hsb.2.2.1 (by omega)
      have hLA := ((liesER_iff _ _ _).1 hA k hlk).keep hbs.size (fun q hq => hbs.block q (by omega))
      have hLB := ((liesER_iff _ _ _).1 hB k hlk').keep hbs.size (fun q hq => hbs.block q (by omega))
      have hsh := hat k hlk hlk'
      have hTA := tameER_at _ _ hlk hT
      have hTB := tameER_at _ _ hlk' hT'
      have hzz := sizesE_mem hlk
      obtain ⟨ga, hga⟩ : ∃ x, blk a = x := ⟨_, rfl⟩
      obtain ⟨oa, hoa⟩ : ∃ x, ofs a = x := ⟨_, rfl⟩
      obtain ⟨gb, hgb⟩ : ∃ x, blk b = x := ⟨_, rfl⟩
      obtain ⟨ob, hob⟩ : ∃ x, ofs b = x := ⟨_, rfl⟩
      rw [hga, hoa] at hsA hLA
      rw [hgb, hob] at hsB hLB
      obtain ⟨e1, l1⟩ := hsA
      obtain ⟨e2, l2⟩ := hsB
      obtain ⟨u, hu⟩ : ∃ u, la[k] = u := ⟨_, rfl⟩
      obtain ⟨v, hv⟩ : ∃ v, lb[k] = v := ⟨_, rfl⟩
      rw [hu] at hLA hsh hTA hzz
      rw [hv] at hLB hsh hTB
      obtain ⟨-, hcA, hHA⟩ := liesE_held.1 hLA
      obtain ⟨-, hcB, hHB⟩ := liesE_held.1 hLB
      rw [Nat.mul_comm 13 k] at hcA hcB
      have c0 : wr.cell? ⟨ga, oa + k * 13, none⟩ = some (.int .i64 u.k) := hcA 0 _ rfl
      have c1 : wr.cell? ⟨ga, oa + k * 13 + 1, none⟩ = some (.int .i64 u.d.k) := hcA 1 _ rfl
      have c2 : wr.cell? ⟨ga, oa + k * 13 + 2, none⟩ = some (.bool u.d.g) := hcA 2 _ rfl
      have c3 : wr.cell? ⟨ga, oa + k * 13 + 3, none⟩ = some (.slice u.d.la u.d.ln u.d.lc) := hcA 3 _ rfl
      have c4 : wr.cell? ⟨ga, oa + k * 13 + 4, none⟩ = some (.bool u.d.bb) := hcA 4 _ rfl
      have c5 : wr.cell? ⟨ga, oa + k * 13 + 5, none⟩ = some (.string u.d.s) := hcA 5 _ rfl
      have c6 : wr.cell? ⟨ga, oa + k * 13 + 6, none⟩ = some (.slice u.d.ia u.d.items.length u.d.ic) := hcA 6 _ rfl
      have c7 : wr.cell? ⟨ga, oa + k * 13 + 7, none⟩ = some (.slice u.d.ta u.d.tail.length u.d.tc) := hcA 7 _ rfl
      have c8 : wr.cell? ⟨ga, oa + k * 13 + 8, none⟩ = some (.int .i64 u.v) := hcA 8 _ rfl
      have c9 : wr.cell? ⟨ga, oa + k * 13 + 9, none⟩ = some (.slice u.va u.vs.length u.vc) := hcA 9 _ rfl
      have c10 : wr.cell? ⟨ga, oa + k * 13 + 10, none⟩ = some (.bool u.rs) := hcA 10 _ rfl
      have c11 : wr.cell? ⟨ga, oa + k * 13 + 11, none⟩ = some (.int .i64 u.p) := hcA 11 _ rfl
      have c12 : wr.cell? ⟨ga, oa + k * 13 + 12, none⟩ = some (.slice u.ka u.kids.length u.kc) := hcA 12 _ rfl
      have d0 : wr.cell? ⟨gb, ob + k * 13, none⟩ = some (.int .i64 v.k) := hcB 0 _ rfl
      have d1 : wr.cell? ⟨gb, ob + k * 13 + 1, none⟩ = some (.int .i64 v.d.k) := hcB 1 _ rfl
      have d2 : wr.cell? ⟨gb, ob + k * 13 + 2, none⟩ = some (.bool v.d.g) := hcB 2 _ rfl
      have d3 : wr.cell? ⟨gb, ob + k * 13 + 3, none⟩ = some (.slice v.d.la v.d.ln v.d.lc) := hcB 3 _ rfl
      have d4 : wr.cell? ⟨gb, ob + k * 13 + 4, none⟩ = some (.bool v.d.bb) := hcB 4 _ rfl
      have d5 : wr.cell? ⟨gb, ob + k * 13 + 5, none⟩ = some (.string v.d.s) := hcB 5 _ rfl
      have d6 : wr.cell? ⟨gb, ob + k * 13 + 6, none⟩ = some (.slice v.d.ia v.d.items.length v.d.ic) := hcB 6 _ rfl
      have d7 : wr.cell? ⟨gb, ob + k * 13 + 7, none⟩ = some (.slice v.d.ta v.d.tail.length v.d.tc) := hcB 7 _ rfl
      have d8 : wr.cell? ⟨gb, ob + k * 13 + 8, none⟩ = some (.int .i64 v.v) := hcB 8 _ rfl
      have d9 : wr.cell? ⟨gb, ob + k * 13 + 9, none⟩ = some (.slice v.va v.vs.length v.vc) := hcB 9 _ rfl
      have d10 : wr.cell? ⟨gb, ob + k * 13 + 10, none⟩ = some (.bool v.rs) := hcB 10 _ rfl
      have d11 : wr.cell? ⟨gb, ob + k * 13 + 11, none⟩ = some (.int .i64 v.p) := hcB 11 _ rfl
      have d12 : wr.cell? ⟨gb, ob + k * 13 + 12, none⟩ = some (.slice v.ka v.kids.length v.kc) := hcB 12 _ rfl
      have hga' : ga < wr.heap.size := by have := hbs.size; omega
      have hgb' : gb < wr.heap.size := by have := hbs.size; omega
      obtain ⟨W2, hW2, x0, x1, hz2, hbW⟩ := two2 wr (Obj.cells #[.int .i64 u.k, .int .i64 u.d.k, .bool u.d.g, .slice u.d.la u.d.ln u.d.lc, .bool u.d.bb, .string u.d.s, .slice u.d.ia u.d.items.length u.d.ic, .slice u.d.ta u.d.tail.length u.d.tc, .int .i64 u.v, .slice u.va u.vs.length u.vc, .bool u.rs, .int .i64 u.p, .slice u.ka u.kids.length u.kc] 31) (Obj.cells #[.int .i64 v.k, .int .i64 v.d.k, .bool v.d.g, .slice v.d.la v.d.ln v.d.lc, .bool v.d.bb, .string v.d.s, .slice v.d.ia v.d.items.length v.d.ic, .slice v.d.ta v.d.tail.length v.d.tc, .int .i64 v.v, .slice v.va v.vs.length v.vc, .bool v.rs, .int .i64 v.p, .slice v.ka v.kids.length v.kc] 31)
      have HC := Lib.hid (ih u v (by omega) hsh hTA hTB W2 (by have := hbs.size; have := hbW.size; omega) (hHA.keep hbW.size fun q hq => hbW.block q (by have := hbs.size; omega)) (hHB.keep hbW.size fun q hq => hbW.block q (by have := hbs.size; omega)))
      have HB := Lib.hid (And.intro hW2 (hbs.trans (hbW.mono hbs.size)))
      have HBZ := Lib.hid (And.intro hz2 hbs.size)
      clear ih hT hT' hsz hA hB hat hsa hsb hlen hLA hLB hsh hTA hTB hzz hu hv hcA hcB hHA hHB hW2 x0 x1 hz2 hbW hbs hga hoa hgb hob l1 l2
      subst e1 e2
      go_wp2_with fail
      rw [← HB.out.1]
      refine HC.out.mono ?_
      rintro e w6 ⟨rfl, b6⟩
      have hb6 := HB.out.2.trans (b6.mono (by have := HBZ.out.1; have := HBZ.out.2; omega))
      have H6 := Lib.hid hb6
      clear b6 hb6
      go_wp2_with fail
      go_roundw
      case rel => exact ⟨k + 1, by omega, by go_num, H6.out⟩
      case measure => simp [intOf]; omega
    · obtain rfl : k = la.length := by omega
      go_wp2_with fail
      go_ret
      exact ⟨rfl, hbs⟩
set_option maxRecDepth 100000 in
set_option maxHeartbeats 3200000 in
theorem sameE_all (M : Nat) : ∀ N : Nat, SameYes M N := by
  intro N
  induction N with
  | zero => intro a b ha; rw [a.size_eq] at ha; omega
  | succ N ih =>
    intro a b ha hs hTa hTb w hM hA hB
    obtain ⟨W2, hW2, x0, x1, hz, hbel⟩ := two2 w (Obj.cells #[.int .i64 a.k, .int .i64 a.d.k, .bool a.d.g, .slice a.d.la a.d.ln a.d.lc, .bool a.d.bb, .string a.d.s, .slice a.d.ia a.d.items.length a.d.ic, .slice a.d.ta a.d.tail.length a.d.tc, .int .i64 a.v, .slice a.va a.vs.length a.vc, .bool a.rs, .int .i64 a.p, .slice a.ka a.kids.length a.kc] 31) (Obj.cells #[.int .i64 b.k, .int .i64 b.d.k, .bool b.d.g, .slice b.d.la b.d.ln b.d.lc, .bool b.d.bb, .string b.d.s, .slice b.d.ia b.d.items.length b.d.ic, .slice b.d.ta b.d.tail.length b.d.tc, .int .i64 b.v, .slice b.va b.vs.length b.vc, .bool b.rs, .int .i64 b.p, .slice b.ka b.kids.length b.kc] 31)
    have fa := (tameE_eq a).1 hTa
    have fb := (tameE_eq b).1 hTb
    rw [shapeE_eq a, shapeE_eq b] at hs
    injection hs with s1 s2 s3 s4 s5 s6 s7
    have hd := fun W (hb : Below w.heap.size w W) => same_yes M a.d b.d s2 fa.1.2.1 fa.1.2.2 fa.1.1 fb.1.1 W (Nat.le_trans hM hb.size) (hA.1.1.below hM hb) (hB.1.1.below hM hb)
    have hi := fun W (hb : Below w.heap.size w W) => equalI_yes M a.va b.va a.vc b.vc a.vs W (Nat.le_trans hM hb.size) (hA.1.2.keep fun q hq => hb.block q (by omega)) (s4 ▸ hB.1.2.keep fun q hq => hb.block q (by omega))
    have hk := fun W (hb : Below w.heap.size w W) => equalE_yes M N ih a.kids b.kids a.ka b.ka a.kc b.kc s7 fa.2.2 fb.2.2 (by rw [a.size_eq] at ha; omega) W (Nat.le_trans hM hb.size) hA.2.1 (LiesER.keep hb.size (fun q hq => hb.block q (by omega)) _ _ _ hA.2.2) hB.2.1 (LiesER.keep hb.size (fun q hq => hb.block q (by omega)) _ _ _ hB.2.2)
    have hvl : b.vs.length = a.vs.length := by rw [s4]
    rw [hvl, ← s1, ← s3, ← s5, ← s6] at hW2 x1
    have HH := Lib.hid (And.intro hd (And.intro hi (And.intro hk (And.intro hbel (And.intro hW2 (And.intro x0 (And.intro x1 hz)))))))
    clear hd hi hk fa fb s2 s7 hTa hTb hA hB ha ih hbel hW2 x0 x1
    rw [hvl, ← s1, ← s3, ← s5, ← s6]
    clear s1 s3 s4 s5 s6 hvl
    go_enter Tryz.func26, Tryz.ntmps26
    go_wp2_with fail
    rw [← HH.out.2.2.2.2.1]
    refine (HH.out.1 W2 HH.out.2.2.2.1).mono ?_
    rintro e w3 ⟨rfl, b3⟩
    have y0 := (b3.block w.heap.size (by omega)).trans HH.out.2.2.2.2.2.1
    have y1 := (b3.block (w.heap.size + 1) (by omega)).trans HH.out.2.2.2.2.2.2.1
    have hb3 := HH.out.2.2.2.1.trans (b3.mono (by omega))
    have z3 := b3.size
    have c8 : w3.cell? ⟨w.heap.size, 8, none⟩ = some (.int .i64 a.v) := by rw [Lib.cell_of_heap y0]; rfl
    have c9 : w3.cell? ⟨w.heap.size, 9, none⟩ = some (.slice a.va a.vs.length a.vc) := by rw [Lib.cell_of_heap y0]; rfl
    have d8 : w3.cell? ⟨w.heap.size + 1, 8, none⟩ = some (.int .i64 a.v) := by rw [Lib.cell_of_heap y1]; rfl
    have d9 : w3.cell? ⟨w.heap.size + 1, 9, none⟩ = some (.slice b.va a.vs.length b.vc) := by rw [Lib.cell_of_heap y1]; rfl
    have H3 := Lib.hid (And.intro y0 (And.intro y1 hb3))
    clear y0 y1 hb3 b3
    go_wp2_with fail
    refine (HH.out.2.1 w3 H3.out.2.2).mono ?_
    rintro e w4 ⟨rfl, b4⟩
    have y0 := (b4.block w.heap.size (by omega)).trans H3.out.1
    have y1 := (b4.block (w.heap.size + 1) (by omega)).trans H3.out.2.1
    have hb4 := H3.out.2.2.trans (b4.mono (by omega))
    clear c8 c9 d8 d9
    have c10 : w4.cell? ⟨w.heap.size, 10, none⟩ = some (.bool a.rs) := by rw [Lib.cell_of_heap y0]; rfl
    have c11 : w4.cell? ⟨w.heap.size, 11, none⟩ = some (.int .i64 a.p) := by rw [Lib.cell_of_heap y0]; rfl
    have c12 : w4.cell? ⟨w.heap.size, 12, none⟩ = some (.slice a.ka a.kids.length a.kc) := by rw [Lib.cell_of_heap y0]; rfl
    have d10 : w4.cell? ⟨w.heap.size + 1, 10, none⟩ = some (.bool a.rs) := by rw [Lib.cell_of_heap y1]; rfl
    have d11 : w4.cell? ⟨w.heap.size + 1, 11, none⟩ = some (.int .i64 a.p) := by rw [Lib.cell_of_heap y1]; rfl
    have d12 : w4.cell? ⟨w.heap.size + 1, 12, none⟩ = some (.slice b.ka b.kids.length b.kc) := by rw [Lib.cell_of_heap y1]; rfl
    have z4 := b4.size
    have H4 := Lib.hid hb4
    clear y0 y1 hb4 b4
    go_wp2_with fail
    refine (HH.out.2.2.1 w4 H4.out).mono ?_
    rintro e w5 ⟨rfl, b5⟩
    have H5 := Lib.hid (H4.out.trans (b5.mono (by omega)))
    clear b5
    go_wp2_with fail
    go_ret
    exact ⟨rfl, H5.out⟩
set_option maxRecDepth 100000 in
set_option maxHeartbeats 3200000 in
theorem sameEE_yes (M : Nat) (a b : ET) (hs : shapeE a = shapeE b) (h1 : a.size ≤ 100000) (h2 : a.depth ≤ 10000) (hTa : TameE a) (hTb : TameE b) (w : World) (hM : M ≤ w.heap.size) (hA : HeldE w M a) (hB : HeldE w M b) :
    Calls Tryz.prog 13 #[.agg #[.int .i64 a.k, .int .i64 a.d.k, .bool a.d.g, .slice a.d.la a.d.ln a.d.lc, .bool a.d.bb, .string a.d.s, .slice a.d.ia a.d.items.length a.d.ic, .slice a.d.ta a.d.tail.length a.d.tc, .int .i64 a.v, .slice a.va a.vs.length a.vc, .bool a.rs, .int .i64 a.p, .slice a.ka a.kids.length a.kc], .agg #[.int .i64 b.k, .int .i64 b.d.k, .bool b.d.g, .slice b.d.la b.d.ln b.d.lc, .bool b.d.bb, .string b.d.s, .slice b.d.ia b.d.items.length b.d.ic, .slice b.d.ta b.d.tail.length b.d.tc, .int .i64 b.v, .slice b.va b.vs.length b.vc, .bool b.rs, .int .i64 b.p, .slice b.ka b.kids.length b.kc]] w fun e w' => e = .returned (.bool true) ∧ Below w.heap.size w w' := by
  obtain ⟨w2, hw2, a0, a1, hz, hbel⟩ := two2 w (Obj.cells #[.int .i64 a.k, .int .i64 a.d.k, .bool a.d.g, .slice a.d.la a.d.ln a.d.lc, .bool a.d.bb, .string a.d.s, .slice a.d.ia a.d.items.length a.d.ic, .slice a.d.ta a.d.tail.length a.d.tc, .int .i64 a.v, .slice a.va a.vs.length a.vc, .bool a.rs, .int .i64 a.p, .slice a.ka a.kids.length a.kc] 31) (Obj.cells #[.int .i64 b.k, .int .i64 b.d.k, .bool b.d.g, .slice b.d.la b.d.ln b.d.lc, .bool b.d.bb, .string b.d.s, .slice b.d.ia b.d.items.length b.d.ic, .slice b.d.ta b.d.tail.length b.d.tc, .int .i64 b.v, .slice b.va b.vs.length b.vc, .bool b.rs, .int .i64 b.p, .slice b.ka b.kids.length b.kc] 31)
  have hla := fun W (hb : Below w.heap.size w W) => isLookedE_any M a W (Nat.le_trans hM hb.size) (hA.below hM hb) h1 h2
  have hlb := fun W (hb : Below w.heap.size w W) => isLookedE_any M b W (Nat.le_trans hM hb.size) (hB.below hM hb) (by rw [← sizeES_shape, ← hs, sizeES_shape]; exact h1) (by rw [← depthES_shape, ← hs, depthES_shape]; exact h2)
  have hal := fun W (hb : Below w.heap.size w W) => sameE_all M a.size a b (Nat.le_refl _) hs hTa hTb W (Nat.le_trans hM hb.size) (hA.below hM hb) (hB.below hM hb)
  have HL := Lib.hid (And.intro hla (And.intro hlb hal))
  have HW := Lib.hid (And.intro hw2 (And.intro a0 (And.intro a1 (And.intro hz hbel))))
  clear hla hlb hal hw2 a0 a1 hz hbel hA hB hTa hTb hs
  go_enter Tryz.func13, Tryz.ntmps13
  go_wp2_with fail
  rw [← HW.out.1]
  refine (HL.out.1 w2 HW.out.2.2.2.2).mono ?_
  rintro e w3 ⟨rfl, b3⟩
  have x0 := (b3.block w.heap.size (by rw [HW.out.2.2.2.1]; omega)).trans HW.out.2.1
  have x1 := (b3.block (w.heap.size + 1) (by rw [HW.out.2.2.2.1]; omega)).trans HW.out.2.2.1
  have hb3 := HW.out.2.2.2.2.trans (b3.mono HW.out.2.2.2.2.size)
  have hz3 : w.heap.size + 2 ≤ w3.heap.size := by have := b3.size; rwa [HW.out.2.2.2.1] at this
  have s0 : w3.cell? ⟨w.heap.size + 1, 0, none⟩ = some (.int .i64 b.k) := by rw [Lib.cell_of_heap x1]; rfl
  have s1 : w3.cell? ⟨w.heap.size + 1, 1, none⟩ = some (.int .i64 b.d.k) := by rw [Lib.cell_of_heap x1]; rfl
  have s2 : w3.cell? ⟨w.heap.size + 1, 2, none⟩ = some (.bool b.d.g) := by rw [Lib.cell_of_heap x1]; rfl
  have s3 : w3.cell? ⟨w.heap.size + 1, 3, none⟩ = some (.slice b.d.la b.d.ln b.d.lc) := by rw [Lib.cell_of_heap x1]; rfl
  have s4 : w3.cell? ⟨w.heap.size + 1, 4, none⟩ = some (.bool b.d.bb) := by rw [Lib.cell_of_heap x1]; rfl
  have s5 : w3.cell? ⟨w.heap.size + 1, 5, none⟩ = some (.string b.d.s) := by rw [Lib.cell_of_heap x1]; rfl
  have s6 : w3.cell? ⟨w.heap.size + 1, 6, none⟩ = some (.slice b.d.ia b.d.items.length b.d.ic) := by rw [Lib.cell_of_heap x1]; rfl
  have s7 : w3.cell? ⟨w.heap.size + 1, 7, none⟩ = some (.slice b.d.ta b.d.tail.length b.d.tc) := by rw [Lib.cell_of_heap x1]; rfl
  have s8 : w3.cell? ⟨w.heap.size + 1, 8, none⟩ = some (.int .i64 b.v) := by rw [Lib.cell_of_heap x1]; rfl
  have s9 : w3.cell? ⟨w.heap.size + 1, 9, none⟩ = some (.slice b.va b.vs.length b.vc) := by rw [Lib.cell_of_heap x1]; rfl
  have s10 : w3.cell? ⟨w.heap.size + 1, 10, none⟩ = some (.bool b.rs) := by rw [Lib.cell_of_heap x1]; rfl
  have s11 : w3.cell? ⟨w.heap.size + 1, 11, none⟩ = some (.int .i64 b.p) := by rw [Lib.cell_of_heap x1]; rfl
  have s12 : w3.cell? ⟨w.heap.size + 1, 12, none⟩ = some (.slice b.ka b.kids.length b.kc) := by rw [Lib.cell_of_heap x1]; rfl
  have H3 := Lib.hid (And.intro x0 (And.intro x1 (And.intro hb3 hz3)))
  clear x0 x1 hb3 hz3 b3
  go_wp2_with fail
  refine (HL.out.2.1 w3 H3.out.2.2.1).mono ?_
  rintro e w4 ⟨rfl, b4⟩
  clear s0 s1 s2 s3 s4 s5 s6 s7 s8 s9 s10 s11 s12
  have x0 := (b4.block w.heap.size (by have := H3.out.2.2.2; omega)).trans H3.out.1
  have x1 := (b4.block (w.heap.size + 1) (by have := H3.out.2.2.2; omega)).trans H3.out.2.1
  have hb4 := H3.out.2.2.1.trans (b4.mono H3.out.2.2.1.size)
  have r0 : w4.cell? ⟨w.heap.size, 0, none⟩ = some (.int .i64 a.k) := by rw [Lib.cell_of_heap x0]; rfl
  have r1 : w4.cell? ⟨w.heap.size, 1, none⟩ = some (.int .i64 a.d.k) := by rw [Lib.cell_of_heap x0]; rfl
  have r2 : w4.cell? ⟨w.heap.size, 2, none⟩ = some (.bool a.d.g) := by rw [Lib.cell_of_heap x0]; rfl
  have r3 : w4.cell? ⟨w.heap.size, 3, none⟩ = some (.slice a.d.la a.d.ln a.d.lc) := by rw [Lib.cell_of_heap x0]; rfl
  have r4 : w4.cell? ⟨w.heap.size, 4, none⟩ = some (.bool a.d.bb) := by rw [Lib.cell_of_heap x0]; rfl
  have r5 : w4.cell? ⟨w.heap.size, 5, none⟩ = some (.string a.d.s) := by rw [Lib.cell_of_heap x0]; rfl
  have r6 : w4.cell? ⟨w.heap.size, 6, none⟩ = some (.slice a.d.ia a.d.items.length a.d.ic) := by rw [Lib.cell_of_heap x0]; rfl
  have r7 : w4.cell? ⟨w.heap.size, 7, none⟩ = some (.slice a.d.ta a.d.tail.length a.d.tc) := by rw [Lib.cell_of_heap x0]; rfl
  have r8 : w4.cell? ⟨w.heap.size, 8, none⟩ = some (.int .i64 a.v) := by rw [Lib.cell_of_heap x0]; rfl
  have r9 : w4.cell? ⟨w.heap.size, 9, none⟩ = some (.slice a.va a.vs.length a.vc) := by rw [Lib.cell_of_heap x0]; rfl
  have r10 : w4.cell? ⟨w.heap.size, 10, none⟩ = some (.bool a.rs) := by rw [Lib.cell_of_heap x0]; rfl
  have r11 : w4.cell? ⟨w.heap.size, 11, none⟩ = some (.int .i64 a.p) := by rw [Lib.cell_of_heap x0]; rfl
  have r12 : w4.cell? ⟨w.heap.size, 12, none⟩ = some (.slice a.ka a.kids.length a.kc) := by rw [Lib.cell_of_heap x0]; rfl
  have s0 : w4.cell? ⟨w.heap.size + 1, 0, none⟩ = some (.int .i64 b.k) := by rw [Lib.cell_of_heap x1]; rfl
  have s1 : w4.cell? ⟨w.heap.size + 1, 1, none⟩ = some (.int .i64 b.d.k) := by rw [Lib.cell_of_heap x1]; rfl
  have s2 : w4.cell? ⟨w.heap.size + 1, 2, none⟩ = some (.bool b.d.g) := by rw [Lib.cell_of_heap x1]; rfl
  have s3 : w4.cell? ⟨w.heap.size + 1, 3, none⟩ = some (.slice b.d.la b.d.ln b.d.lc) := by rw [Lib.cell_of_heap x1]; rfl
  have s4 : w4.cell? ⟨w.heap.size + 1, 4, none⟩ = some (.bool b.d.bb) := by rw [Lib.cell_of_heap x1]; rfl
  have s5 : w4.cell? ⟨w.heap.size + 1, 5, none⟩ = some (.string b.d.s) := by rw [Lib.cell_of_heap x1]; rfl
  have s6 : w4.cell? ⟨w.heap.size + 1, 6, none⟩ = some (.slice b.d.ia b.d.items.length b.d.ic) := by rw [Lib.cell_of_heap x1]; rfl
  have s7 : w4.cell? ⟨w.heap.size + 1, 7, none⟩ = some (.slice b.d.ta b.d.tail.length b.d.tc) := by rw [Lib.cell_of_heap x1]; rfl
  have s8 : w4.cell? ⟨w.heap.size + 1, 8, none⟩ = some (.int .i64 b.v) := by rw [Lib.cell_of_heap x1]; rfl
  have s9 : w4.cell? ⟨w.heap.size + 1, 9, none⟩ = some (.slice b.va b.vs.length b.vc) := by rw [Lib.cell_of_heap x1]; rfl
  have s10 : w4.cell? ⟨w.heap.size + 1, 10, none⟩ = some (.bool b.rs) := by rw [Lib.cell_of_heap x1]; rfl
  have s11 : w4.cell? ⟨w.heap.size + 1, 11, none⟩ = some (.int .i64 b.p) := by rw [Lib.cell_of_heap x1]; rfl
  have s12 : w4.cell? ⟨w.heap.size + 1, 12, none⟩ = some (.slice b.ka b.kids.length b.kc) := by rw [Lib.cell_of_heap x1]; rfl
  have H4 := Lib.hid hb4
  clear x0 x1 hb4 b4
  go_wp2_with fail
  refine (HL.out.2.2 w4 H4.out).mono ?_
  rintro e w5 ⟨rfl, b5⟩
  have hb5 := H4.out.trans (b5.mono H4.out.size)
  clear b5
  go_wp2_with fail
  go_ret
  exact ⟨rfl, hb5⟩
end Go.Proofs.YthdhdmmlmbkalaaGreatDoor
