/-
  What data say, with their numbers as numbers: canT; datum.alike of any two data.
-/
import Derived.Test.YtocnlapbkidinaaGreatDoorQPrs
set_option linter.unusedVariables false
set_option linter.unusedSimpArgs false
set_option linter.unusedSectionVars false
set_option linter.unnecessarySimpa false
namespace Go.Proofs.YtocnlapbkidinaaGreatDoor
open Go.RowKit
set_option maxRecDepth 100000

/-- What a datum says. -/
inductive CT where
  | mk (k z : Int) (b : Bool) (s : ByteArray) (items tail : List CT) : CT
mutual
def canT : LT → CT
  | .mk k g _ _ _ ys bb s _ _ items _ _ tail => .mk k (zOf g (val ys)) bb s (cansT items) (cansT tail)
def cansT : List LT → List CT
  | [] => []
  | t :: l => canT t :: cansT l
end
theorem canT_eq (t : LT) : canT t = .mk t.k (zOf t.g (val t.ys)) t.bb t.s (cansT t.items) (cansT t.tail) := by cases t; simp [canT, LT.k, LT.g, LT.ys, LT.bb, LT.s, LT.items, LT.tail]
theorem cansT_length (l : List LT) : (cansT l).length = l.length := by
  induction l with
  | nil => simp [cansT]
  | cons t l ih => simp [cansT, ih]
theorem cansT_at : ∀ (l : List LT) (k : Nat) (h : k < l.length), (cansT l)[k]? = some (canT l[k])
  | t :: l, 0, _ => by simp [cansT]
  | t :: l, k + 1, h => by simp only [cansT, List.getElem?_cons_succ, List.getElem_cons_succ]; exact cansT_at l k (by simpa using h)
theorem cans_ext {l m : List LT} (hn : l.length = m.length) (h : ∀ q (h1 : q < l.length) (h2 : q < m.length), canT l[q] = canT m[q]) : cansT l = cansT m := by
  apply List.ext_getElem?
  intro q
  by_cases hq : q < l.length
  · rw [cansT_at l q hq, cansT_at m q (hn ▸ hq), h q hq (hn ▸ hq)]
  · rw [List.getElem?_eq_none (by rw [cansT_length]; omega), List.getElem?_eq_none (by rw [cansT_length]; omega)]
theorem cans_len {l m : List LT} (h : cansT l = cansT m) : l.length = m.length := by rw [← cansT_length, h, cansT_length]
theorem cans_nth {l m : List LT} (h : cansT l = cansT m) (q : Nat) (h1 : q < l.length) (h2 : q < m.length) : canT l[q] = canT m[q] := by
  have e := cansT_at l q h1
  rw [h, cansT_at m q h2] at e
  exact (Option.some.inj e).symm
/-- Do they say the same? -/
noncomputable def sameB (a b : LT) : Bool := @decide (canT a = canT b) (Classical.propDecidable _)
noncomputable def samesB (l m : List LT) : Bool := @decide (cansT l = cansT m) (Classical.propDecidable _)
theorem sameB_iff {a b : LT} : sameB a b = true ↔ canT a = canT b := by unfold sameB; simp
theorem samesB_iff {l m : List LT} : samesB l m = true ↔ cansT l = cansT m := by unfold samesB; simp
theorem sameB_no {a b : LT} (h : canT a ≠ canT b) : sameB a b = false := by
  rcases hb : sameB a b with _ | _
  · rfl
  · exact absurd (sameB_iff.1 hb) h
theorem samesB_no {l m : List LT} (h : cansT l ≠ cansT m) : samesB l m = false := by
  rcases hb : samesB l m with _ | _
  · rfl
  · exact absurd (samesB_iff.1 hb) h
theorem sameB_comm (a b : LT) : sameB a b = sameB b a := by
  rw [Bool.eq_iff_iff, sameB_iff, sameB_iff]
  exact ⟨fun h => h.symm, fun h => h.symm⟩
theorem same_parts {a b : LT} : canT a = canT b ↔ a.k = b.k ∧ zOf a.g (val a.ys) = zOf b.g (val b.ys) ∧ a.bb = b.bb ∧ a.s = b.s ∧ cansT a.items = cansT b.items ∧ cansT a.tail = cansT b.tail := by
  rw [canT_eq, canT_eq]
  constructor
  · intro h
    injection h with h1 h2 h3 h4 h5 h6
    exact ⟨h1, h2, h3, h4, h5, h6⟩
  · rintro ⟨h1, h2, h3, h4, h5, h6⟩
    rw [h1, h2, h3, h4, h5, h6]
def AlikeG (M N : Nat) : Prop := ∀ a b : LT, a.size ≤ N → Tame a → Tame b → ∀ w : World, M ≤ w.heap.size → Held w M a → Held w M b → Calls Tryz.prog 78 #[.agg #[.int .i64 a.k, .bool a.g, .slice a.la a.ln a.lc, .bool a.bb, .string a.s, .slice a.ia a.items.length a.ic, .slice a.ta a.tail.length a.tc], .agg #[.int .i64 b.k, .bool b.g, .slice b.la b.ln b.lc, .bool b.bb, .string b.s, .slice b.ia b.items.length b.ic, .slice b.ta b.tail.length b.tc]] w fun e w' => e = .returned (.bool (sameB a b)) ∧ Below w.heap.size w w'
set_option maxHeartbeats 6400000 in
theorem equal_len (l m : List LT) (hne : l.length ≠ m.length) (a1 a2 : Option Addr) (c1 c2 : Nat) (w : World) :
    Calls Tryz.prog 109 #[.slice a1 l.length c1, .slice a2 m.length c2, .func (.func 78) #[] #[]] w fun e w' => e = .returned (.bool (samesB l m)) ∧ Below w.heap.size w w' := by
  rw [samesB_no fun h => hne (cans_len h)]
  have h1 : ((l.length : Int) == (m.length : Int)) = false := beq_eq_false_iff_ne.2 (by omega)
  go_enter Tryz.func109, Tryz.ntmps109
  go_wp2_with fail
  go_ret
  exact ⟨rfl, Below.refl _ _⟩
set_option maxHeartbeats 6400000 in
theorem equal_rowsG (M N : Nat) (H : AlikeG M N) (l m : List LT) (hlen : m.length = l.length) (hN : sizes l ≤ N) (hn : l.length ≤ 1000000000) (hTl : TameR l) (hTm : TameR m) (a1 a2 : Option Addr) (c1 c2 : Nat) (w : World) (hM : M ≤ w.heap.size)
    (hS1 : Spot M a1 l.length c1) (hS2 : Spot M a2 m.length c2) (hL1 : LiesR w M l (blk a1) (ofs a1)) (hL2 : LiesR w M m (blk a2) (ofs a2)) :
    Calls Tryz.prog 109 #[.slice a1 l.length c1, .slice a2 l.length c2, .func (.func 78) #[] #[]] w fun e w' => e = .returned (.bool (samesB l m)) ∧ Below w.heap.size w w' := by
  obtain ⟨B1, O1, hA1, hR1⟩ : ∃ B O, (0 < l.length → a1 = some ⟨B, O, none⟩ ∧ B < M) ∧ LiesR w M l B O := ⟨blk a1, ofs a1, hS1.2.2.1, hL1⟩
  obtain ⟨B2, O2, hA2, hR2⟩ : ∃ B O, (0 < m.length → a2 = some ⟨B, O, none⟩ ∧ B < M) ∧ LiesR w M m B O := ⟨blk a2, ofs a2, hS2.2.2.1, hL2⟩
  have HS := Lib.hid (And.intro hA1 (And.intro hR1 (And.intro hA2 (And.intro hR2 hlen))))
  have HT := Lib.hid (And.intro hTl (And.intro hTm (And.intro hS1 hS2)))
  have HH := Lib.hid H
  clear hA1 hR1 hA2 hR2 hlen hTl hTm hS1 hS2 hL1 hL2 H
  go_enter Tryz.func109, Tryz.ntmps109
  go_wp2_with fail
  go_loopw [17] (fun i wr => ∃ k : Nat, k ≤ l.length ∧ i = .int .i64 k ∧ Below w.heap.size w wr ∧ Hid (∀ q (h1 : q < l.length) (h2 : q < m.length), q < k → canT l[q] = canT m[q])) (fun i _ => l.length - (intOf i).toNat)
  case atStart => exact ⟨0, Nat.zero_le _, rfl, Below.refl _ _, Lib.hid fun q _ _ h => by omega⟩
  case round =>
    obtain ⟨k, hk, rfl, hb, hq⟩ := hrel
    by_cases hlt : k < l.length
    · have hkm : k < m.length := by rw [HS.out.2.2.2.2]; exact hlt
      obtain ⟨rfl, hB1⟩ := HS.out.1 (by omega)
      obtain ⟨rfl, hB2⟩ := HS.out.2.2.1 (by omega)
      obtain ⟨_, hcx, hhx⟩ := lies_held.1 ((liesR_iff _ _ _).1 HS.out.2.1 k hlt)
      obtain ⟨_, hcy, hhy⟩ := lies_held.1 ((liesR_iff _ _ _).1 HS.out.2.2.2.1 k hkm)
      have hsz := size_in l k hlt
      have htx := tameR_at l k hlt HT.out.1
      have hty := tameR_at m k hkm HT.out.2.1
      have HQ : Hid (sameB l[k] m[k] = true → ∀ q (h1 : q < l.length) (h2 : q < m.length), q < k + 1 → canT l[q] = canT m[q]) := Lib.hid fun hs q h1 h2 h3 => by
        rcases Nat.lt_or_ge q k with h4 | h4
        · exact hq.out q h1 h2 h4
        · obtain rfl : q = k := by omega
          exact sameB_iff.1 hs
      have HF : Hid (sameB l[k] m[k] = false → samesB l m = false) := Lib.hid fun hs => samesB_no fun e => by
        have := cans_nth e k hlt hkm
        rw [← sameB_iff, hs] at this
        cases this
      obtain ⟨x, hx⟩ : ∃ x, l[k] = x := ⟨_, rfl⟩
      obtain ⟨y, hy⟩ : ∃ y, m[k] = y := ⟨_, rfl⟩
      rw [hx] at hcx hhx hsz htx
      rw [hy] at hcy hhy hty
      rw [hx, hy] at HQ HF
      rw [Nat.mul_comm 7 k] at hcx hcy
      have hzr := hb.size
      have hc : ∀ j v, x.cells[j]? = some v → wr.cell? ⟨B1, O1 + k * 7 + j, none⟩ = some v := fun j v hj => (hb.cell (p := ⟨B1, O1 + k * 7 + j, none⟩) (by show B1 < _; omega)).trans (hcx j v hj)
      have d0 : wr.cell? ⟨B1, O1 + k * 7, none⟩ = some (.int .i64 x.k) := hc 0 _ rfl
      have d1 : wr.cell? ⟨B1, O1 + k * 7 + 1, none⟩ = some (.bool x.g) := hc 1 _ rfl
      have d2 : wr.cell? ⟨B1, O1 + k * 7 + 2, none⟩ = some (.slice x.la x.ln x.lc) := hc 2 _ rfl
      have d3 : wr.cell? ⟨B1, O1 + k * 7 + 3, none⟩ = some (.bool x.bb) := hc 3 _ rfl
      have d4 : wr.cell? ⟨B1, O1 + k * 7 + 4, none⟩ = some (.string x.s) := hc 4 _ rfl
      have d5 : wr.cell? ⟨B1, O1 + k * 7 + 5, none⟩ = some (.slice x.ia x.items.length x.ic) := hc 5 _ rfl
      have d6 : wr.cell? ⟨B1, O1 + k * 7 + 6, none⟩ = some (.slice x.ta x.tail.length x.tc) := hc 6 _ rfl
      obtain ⟨W1, hW1⟩ : ∃ W1, wr.alloc (Obj.cells #[.int .i64 x.k, .bool x.g, .slice x.la x.ln x.lc, .bool x.bb, .string x.s, .slice x.ia x.items.length x.ic, .slice x.ta x.tail.length x.tc] 29) = W1 := ⟨_, rfl⟩
      have hb1 : Below wr.heap.size wr W1 := by rw [← hW1]; exact (Below.refl _ wr).alloc (Nat.le_refl _) _
      have hz1 : W1.heap.size = wr.heap.size + 1 := by rw [← hW1, World.size_alloc]
      have hc' : ∀ j v, y.cells[j]? = some v → W1.cell? ⟨B2, O2 + k * 7 + j, none⟩ = some v := fun j v hj => (hb1.cell (p := ⟨B2, O2 + k * 7 + j, none⟩) (by show B2 < _; omega)).trans ((hb.cell (p := ⟨B2, O2 + k * 7 + j, none⟩) (by show B2 < _; omega)).trans (hcy j v hj))
      have e0 : W1.cell? ⟨B2, O2 + k * 7, none⟩ = some (.int .i64 y.k) := hc' 0 _ rfl
      have e1 : W1.cell? ⟨B2, O2 + k * 7 + 1, none⟩ = some (.bool y.g) := hc' 1 _ rfl
      have e2 : W1.cell? ⟨B2, O2 + k * 7 + 2, none⟩ = some (.slice y.la y.ln y.lc) := hc' 2 _ rfl
      have e3 : W1.cell? ⟨B2, O2 + k * 7 + 3, none⟩ = some (.bool y.bb) := hc' 3 _ rfl
      have e4 : W1.cell? ⟨B2, O2 + k * 7 + 4, none⟩ = some (.string y.s) := hc' 4 _ rfl
      have e5 : W1.cell? ⟨B2, O2 + k * 7 + 5, none⟩ = some (.slice y.ia y.items.length y.ic) := hc' 5 _ rfl
      have e6 : W1.cell? ⟨B2, O2 + k * 7 + 6, none⟩ = some (.slice y.ta y.tail.length y.tc) := hc' 6 _ rfl
      obtain ⟨W2, hW2⟩ : ∃ W2, W1.alloc (Obj.cells #[.int .i64 y.k, .bool y.g, .slice y.la y.ln y.lc, .bool y.bb, .string y.s, .slice y.ia y.items.length y.ic, .slice y.ta y.tail.length y.tc] 29) = W2 := ⟨_, rfl⟩
      have hb2 : Below wr.heap.size wr W2 := by rw [← hW2]; exact hb1.alloc hb1.size _
      have hR1 : W2.heap[wr.heap.size]? = some (Obj.cells #[.int .i64 x.k, .bool x.g, .slice x.la x.ln x.lc, .bool x.bb, .string x.s, .slice x.ia x.items.length x.ic, .slice x.ta x.tail.length x.tc] 29) := by
        rw [← hW2, Below.heap_alloc _ _ _ (by rw [hz1]; omega), ← hW1]
        exact World.alloc_heap_new _ _
      have hR2 : W2.heap[W1.heap.size]? = some (Obj.cells #[.int .i64 y.k, .bool y.g, .slice y.la y.ln y.lc, .bool y.bb, .string y.s, .slice y.ia y.items.length y.ic, .slice y.ta y.tail.length y.tc] 29) := by rw [← hW2]; exact World.alloc_heap_new _ _
      have hds := fun j => Lib.cell_of_heap hR1 j
      have r0 := hds 0; have r1 := hds 1; have r2 := hds 2; have r3 := hds 3; have r4 := hds 4; have r5 := hds 5; have r6 := hds 6
      have hes := fun j => Lib.cell_of_heap hR2 j
      have s0 := hes 0; have s1 := hes 1; have s2 := hes 2; have s3 := hes 3; have s4 := hes 4; have s5 := hes 5; have s6 := hes 6
      simp only [List.getElem?_toArray, List.getElem?_cons_zero, List.getElem?_cons_succ] at r0 r1 r2 r3 r4 r5 r6 s0 s1 s2 s3 s4 s5 s6
      have hbW : Below w.heap.size w W2 := hb.trans (hb2.mono hzr)
      have HC := Lib.hid (HH.out x y (Nat.le_trans hsz hN) htx hty W2 (Nat.le_trans hM hbW.size) (hhx.below hM hbW) (hhy.below hM hbW))
      have HB := Lib.hid hbW
      clear hcx hhx hcy hhy hsz htx hty hx hy hc hc' hb hb1 hz1 hb2 hR1 hR2 hds hes hbW hq
      go_wp2_with fail
      clear hW1 hW2 d0 d1 d2 d3 d4 d5 d6 e0 e1 e2 e3 e4 e5 e6 r0 r1 r2 r3 r4 r5 r6 s0 s1 s2 s3 s4 s5 s6
      refine HC.out.mono ?_
      rintro e w3 ⟨rfl, b3⟩
      have HB3 := Lib.hid (HB.out.trans (b3.mono HB.out.size))
      clear b3 HC
      generalize sameB x y = r at HQ HF ⊢
      cases r
      · have HF2 := Lib.hid (HF.out rfl)
        clear HQ HF
        go_wp2_with fail
        go_ret
        rw [HF2.out]
        exact ⟨rfl, HB3.out⟩
      · have HQ2 := Lib.hid (HQ.out rfl)
        clear HQ HF
        go_wp2_with fail
        go_roundw
        case rel => exact ⟨k + 1, by omega, by go_num, HB3.out, HQ2⟩
        case measure => simp [intOf]; omega
    · have e : samesB l m = true := samesB_iff.2 (cans_ext HS.out.2.2.2.2.symm fun q h1 h2 => hq.out q h1 h2 (by omega))
      have HE := Lib.hid e
      clear e
      go_wp2_with fail
      go_ret
      rw [HE.out]
      exact ⟨rfl, hb⟩
end Go.Proofs.YtocnlapbkidinaaGreatDoor
