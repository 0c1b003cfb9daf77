/-
  pavanelaw08.CorePuts, as far as its data are tame and lives is true.
-/
import Derived.Test.YthdhdmmlmbkalaaGreatDoorJr12
import Derived.Test.YthdhdmmlmbkalaaGreatDoorREtr
set_option linter.unusedVariables false
set_option linter.unusedSimpArgs false
set_option linter.unusedSectionVars false
set_option linter.unnecessarySimpa false
namespace Go.Proofs.YthdhdmmlmbkalaaGreatDoor
open Go.RowKit

def Lives8 : Prop := ∀ w : World, Calls Tryz.prog 7 #[] w fun e w' => e = .returned (.bool true) ∧ Below w.heap.size w w'
theorem lightE_few {a x : ET} (h : lightE [a, x] = true) : (a.size ≤ 300 ∧ a.depth ≤ 300) ∧ x.size ≤ 300 ∧ x.depth ≤ 300 := by
  simp only [lightE, List.all_cons, List.all_nil, Bool.and_true, Bool.and_eq_true, decide_eq_true_eq] at h
  have h1 := budE_few a 300 300 h.1.1
  have h2 := budE_few x 300 300 h.2.1
  omega
theorem below_add {w W V : World} {O : Obj} (hb : Below w.heap.size w W) (h : W.alloc O = V) : Below w.heap.size w V := h ▸ hb.alloc hb.size _
theorem block_add {W V : World} {O Q : Obj} {k : Nat} (hk : W.heap[k]? = some Q) (h : W.alloc O = V) : V.heap[k]? = some Q := by
  rw [← h, Below.heap_alloc _ _ _ (Array.getElem?_eq_some_iff.1 hk).1]; exact hk
theorem new_add {W V : World} {O : Obj} (h : W.alloc O = V) : V.heap[W.heap.size]? = some O := h ▸ World.alloc_heap_new _ _
theorem block_call {W V : World} {Q : Obj} {k : Nat} (hk : W.heap[k]? = some Q) (hb : Below W.heap.size W V) : V.heap[k]? = some Q := (hb.block k (Array.getElem?_eq_some_iff.1 hk).1).trans hk
set_option maxRecDepth 100000 in
set_option maxHeartbeats 6400000 in
theorem corePuts_walk (LV : Lives8) (M : Nat) (a x : ET) (hTa : lightE [a, x] = true → TameE a) (hTx : lightE [a, x] = true → TameE x) (pa : Option Addr) (pc : Nat) (path : List Int) (w : World) (hM : M ≤ w.heap.size) (hA : HeldE w M a) (hX : HeldE w M x) (hP : IntsAt w M pa pc path) :
    Calls Tryz.prog 4 #[.agg #[.int .i64 a.k, .int .i64 a.d.k, .bool a.d.g, .slice a.d.la a.d.ln a.d.lc, .bool a.d.bb, .string a.d.s, .slice a.d.ia a.d.items.length a.d.ic, .slice a.d.ta a.d.tail.length a.d.tc, .int .i64 a.v, .slice a.va a.vs.length a.vc, .bool a.rs, .int .i64 a.p, .slice a.ka a.kids.length a.kc], .agg #[.int .i64 x.k, .int .i64 x.d.k, .bool x.d.g, .slice x.d.la x.d.ln x.d.lc, .bool x.d.bb, .string x.d.s, .slice x.d.ia x.d.items.length x.d.ic, .slice x.d.ta x.d.tail.length x.d.tc, .int .i64 x.v, .slice x.va x.vs.length x.vc, .bool x.rs, .int .i64 x.p, .slice x.ka x.kids.length x.kc], .slice pa path.length pc] w fun e w' => e = .returned (.bool true) ∧ Below w.heap.size w w' := by
  obtain ⟨W3, hW3, a0, a1, a2, hz, hbel, -⟩ := three3 w (Obj.cells #[.int .i64 a.k, .int .i64 a.d.k, .bool a.d.g, .slice a.d.la a.d.ln a.d.lc, .bool a.d.bb, .string a.d.s, .slice a.d.ia a.d.items.length a.d.ic, .slice a.d.ta a.d.tail.length a.d.tc, .int .i64 a.v, .slice a.va a.vs.length a.vc, .bool a.rs, .int .i64 a.p, .slice a.ka a.kids.length a.kc] 31) (Obj.cells #[.int .i64 x.k, .int .i64 x.d.k, .bool x.d.g, .slice x.d.la x.d.ln x.d.lc, .bool x.d.bb, .string x.d.s, .slice x.d.ia x.d.items.length x.d.ic, .slice x.d.ta x.d.tail.length x.d.tc, .int .i64 x.v, .slice x.va x.vs.length x.vc, .bool x.rs, .int .i64 x.p, .slice x.ka x.kids.length x.kc] 31) (Obj.cells #[.int .i64 a.k, .int .i64 a.d.k, .bool a.d.g, .slice a.d.la a.d.ln a.d.lc, .bool a.d.bb, .string a.d.s, .slice a.d.ia a.d.items.length a.d.ic, .slice a.d.ta a.d.tail.length a.d.tc, .int .i64 a.v, .slice a.va a.vs.length a.vc, .bool a.rs, .int .i64 a.p, .slice a.ka a.kids.length a.kc, .int .i64 x.k, .int .i64 x.d.k, .bool x.d.g, .slice x.d.la x.d.ln x.d.lc, .bool x.d.bb, .string x.d.s, .slice x.d.ia x.d.items.length x.d.ic, .slice x.d.ta x.d.tail.length x.d.tc, .int .i64 x.v, .slice x.va x.vs.length x.vc, .bool x.rs, .int .i64 x.p, .slice x.ka x.kids.length x.kc] 31)
  have hHA := fun W (hb : Below w.heap.size w W) => hA.below hM hb
  have hHX := fun W (hb : Below w.heap.size w W) => hX.below hM hb
  have hHP := fun W (hb : Below w.heap.size w W) => hP.keep (w' := W) fun q hq => hb.block q (by omega)
  have hrow : LiesER W3 (w.heap.size + 2 + 1) [a, x] (w.heap.size + 2) 0 := by
    rw [liesER_cons, liesER_cons, liesER_nil]
    refine ⟨liesE_held.2 ⟨by omega, fun j v hj => ?_, (hHA W3 hbel).upM (by omega)⟩, liesE_held.2 ⟨by omega, fun j v hj => ?_, (hHX W3 hbel).upM (by omega)⟩, trivial⟩
    · have hj13 : j < 13 := (List.getElem?_eq_some_iff.1 hj).1
      rw [Lib.cell_of_heap a2]
      rcases (show j = 0 ∨ j = 1 ∨ j = 2 ∨ j = 3 ∨ j = 4 ∨ j = 5 ∨ j = 6 ∨ j = 7 ∨ j = 8 ∨ j = 9 ∨ j = 10 ∨ j = 11 ∨ j = 12 by omega) with rfl | rfl | rfl | rfl | rfl | rfl | rfl | rfl | rfl | rfl | rfl | rfl | rfl <;> exact hj
    · have hj13 : j < 13 := (List.getElem?_eq_some_iff.1 hj).1
      rw [Lib.cell_of_heap a2]
      rcases (show j = 0 ∨ j = 1 ∨ j = 2 ∨ j = 3 ∨ j = 4 ∨ j = 5 ∨ j = 6 ∨ j = 7 ∨ j = 8 ∨ j = 9 ∨ j = 10 ∨ j = 11 ∨ j = 12 by omega) with rfl | rfl | rfl | rfl | rfl | rfl | rfl | rfl | rfl | rfl | rfl | rfl | rfl <;> exact hj
  have hlt := lightE_any (w.heap.size + 2 + 1) [a, x] (some ⟨w.heap.size + 2, 0, none⟩) 2 W3 (by omega) ⟨Nat.le_refl 2, by decide, fun _ => ⟨rfl, Nat.lt_succ_self _⟩, fun e => by cases e⟩ hrow
  have HH := Lib.hid (And.intro hHA (And.intro hHX (And.intro hHP (And.intro hlt (And.intro hW3 (And.intro a0 (And.intro a1 (And.intro hbel (And.intro hTa (And.intro hTx LV))))))))))
  clear hHA hHX hHP hlt hW3 a0 a1 a2 hbel hrow hA hX hP hTa hTx LV
  obtain ⟨lb, hlb⟩ : ∃ lb, lightE [a, x] = lb := ⟨_, rfl⟩
  rw [hlb] at HH
  have HLB := Lib.hid hlb
  clear hlb
  go_enter Tryz.func4, Tryz.ntmps4
  go_wp2_with fail
  rw [← HH.out.2.2.2.2.1]
  refine HH.out.2.2.2.1.mono ?_
  rintro e w4 ⟨rfl, b4⟩
  obtain ⟨xa, xx, hb4⟩ : w4.heap[w.heap.size]? = some (Obj.cells #[.int .i64 a.k, .int .i64 a.d.k, .bool a.d.g, .slice a.d.la a.d.ln a.d.lc, .bool a.d.bb, .string a.d.s, .slice a.d.ia a.d.items.length a.d.ic, .slice a.d.ta a.d.tail.length a.d.tc, .int .i64 a.v, .slice a.va a.vs.length a.vc, .bool a.rs, .int .i64 a.p, .slice a.ka a.kids.length a.kc] 31) ∧ w4.heap[w.heap.size + 1]? = some (Obj.cells #[.int .i64 x.k, .int .i64 x.d.k, .bool x.d.g, .slice x.d.la x.d.ln x.d.lc, .bool x.d.bb, .string x.d.s, .slice x.d.ia x.d.items.length x.d.ic, .slice x.d.ta x.d.tail.length x.d.tc, .int .i64 x.v, .slice x.va x.vs.length x.vc, .bool x.rs, .int .i64 x.p, .slice x.ka x.kids.length x.kc] 31) ∧ Below w.heap.size w w4 := ⟨block_call HH.out.2.2.2.2.2.1 b4, block_call HH.out.2.2.2.2.2.2.1 b4, HH.out.2.2.2.2.2.2.2.1.trans (b4.mono (by omega))⟩
  have H4 := Lib.hid (And.intro xa (And.intro xx hb4))
  clear xa xx hb4 b4
  cases lb
  · go_wp2_with fail
    refine (HH.out.2.2.2.2.2.2.2.2.2.2 w4).mono ?_
    rintro e w5 ⟨rfl, b5⟩
    have hb5 := Lib.hid (H4.out.2.2.trans (b5.mono H4.out.2.2.size))
    clear b5
    go_wp2_with fail
    go_ret
    exact ⟨rfl, hb5.out⟩
  by_cases hp : 50 < path.length
  · have q1 : decide (50 < (path.length : Int)) = true := decide_eq_true (by omega)
    have q2 : decide (50 < path.length) = true := decide_eq_true hp
    go_wp2_with fail
    refine (HH.out.2.2.2.2.2.2.2.2.2.2 w4).mono ?_
    rintro e w5 ⟨rfl, b5⟩
    have hb5 := Lib.hid (H4.out.2.2.trans (b5.mono H4.out.2.2.size))
    clear b5
    go_wp2_with fail
    go_ret
    exact ⟨rfl, hb5.out⟩
  have q1 : decide (50 < (path.length : Int)) = false := decide_eq_false (by omega)
  have q2 : decide (50 < path.length) = false := decide_eq_false hp
  have hfew := lightE_few HLB.out
  obtain ⟨⟨s1, s2⟩, s3, s4⟩ := hfew
  have HAT := Lib.hid (at_any w.heap.size a (by omega) (by omega) (HH.out.2.2.2.2.2.2.2.2.1 (by first | exact rfl | trivial)) pa pc path w4 H4.out.2.2.size ((HH.out.1 w4 H4.out.2.2).upM hM) ((HH.out.2.2.1 w4 H4.out.2.2).upM hM))
  have hmono := H4.out.2.2.size
  have c0 : w4.cell? ⟨w.heap.size, 0, none⟩ = some (.int .i64 a.k) := by rw [Lib.cell_of_heap H4.out.1]; rfl
  have c1 : w4.cell? ⟨w.heap.size, 1, none⟩ = some (.int .i64 a.d.k) := by rw [Lib.cell_of_heap H4.out.1]; rfl
  have c2 : w4.cell? ⟨w.heap.size, 2, none⟩ = some (.bool a.d.g) := by rw [Lib.cell_of_heap H4.out.1]; rfl
  have c3 : w4.cell? ⟨w.heap.size, 3, none⟩ = some (.slice a.d.la a.d.ln a.d.lc) := by rw [Lib.cell_of_heap H4.out.1]; rfl
  have c4 : w4.cell? ⟨w.heap.size, 4, none⟩ = some (.bool a.d.bb) := by rw [Lib.cell_of_heap H4.out.1]; rfl
  have c5 : w4.cell? ⟨w.heap.size, 5, none⟩ = some (.string a.d.s) := by rw [Lib.cell_of_heap H4.out.1]; rfl
  have c6 : w4.cell? ⟨w.heap.size, 6, none⟩ = some (.slice a.d.ia a.d.items.length a.d.ic) := by rw [Lib.cell_of_heap H4.out.1]; rfl
  have c7 : w4.cell? ⟨w.heap.size, 7, none⟩ = some (.slice a.d.ta a.d.tail.length a.d.tc) := by rw [Lib.cell_of_heap H4.out.1]; rfl
  have c8 : w4.cell? ⟨w.heap.size, 8, none⟩ = some (.int .i64 a.v) := by rw [Lib.cell_of_heap H4.out.1]; rfl
  have c9 : w4.cell? ⟨w.heap.size, 9, none⟩ = some (.slice a.va a.vs.length a.vc) := by rw [Lib.cell_of_heap H4.out.1]; rfl
  have c10 : w4.cell? ⟨w.heap.size, 10, none⟩ = some (.bool a.rs) := by rw [Lib.cell_of_heap H4.out.1]; rfl
  have c11 : w4.cell? ⟨w.heap.size, 11, none⟩ = some (.int .i64 a.p) := by rw [Lib.cell_of_heap H4.out.1]; rfl
  have c12 : w4.cell? ⟨w.heap.size, 12, none⟩ = some (.slice a.ka a.kids.length a.kc) := by rw [Lib.cell_of_heap H4.out.1]; rfl
  go_wp2_with fail
  refine HAT.out.mono ?_
  rintro e w5 ⟨b5, h5⟩
  clear c0 c1 c2 c3 c4 c5 c6 c7 c8 c9 c10 c11 c12
  have H5 := Lib.hid (And.intro (block_call H4.out.1 b5) (And.intro (block_call H4.out.2.1 b5) (H4.out.2.2.trans (b5.mono hmono))))
  have z5 := b5.size
  clear b5
  rcases h5 with ⟨hn, rfl⟩ | ⟨b0, u, hs, rfl, hsh, htm, hhd⟩
  · have hb5 : Below w.heap.size w (w5.alloc (Obj.cells #[.int .i64 0, .int .i64 0, .bool false, .slice none 0 0, .bool false, .string ⟨#[]⟩, .slice none 0 0, .slice none 0 0, .int .i64 0, .slice none 0 0, .bool false, .int .i64 0, .slice none 0 0] 31)) := below_add H5.out.2.2 rfl
    have HPT := Lib.hid (put_any w.heap.size a x (by omega) (by omega) (HH.out.2.2.2.2.2.2.2.2.1 (by first | exact rfl | trivial)) (by omega) (by omega) (HH.out.2.2.2.2.2.2.2.2.2.1 (by first | exact rfl | trivial)) pa pc path _ hb5.size ((HH.out.1 _ hb5).upM hM) ((HH.out.2.1 _ hb5).upM hM) ((HH.out.2.2.1 _ hb5).upM hM))
    have HB5 := Lib.hid hb5
    have HN := Lib.hid hn
    have ya := block_add (V := w5.alloc (Obj.cells #[.int .i64 0, .int .i64 0, .bool false, .slice none 0 0, .bool false, .string ⟨#[]⟩, .slice none 0 0, .slice none 0 0, .int .i64 0, .slice none 0 0, .bool false, .int .i64 0, .slice none 0 0] 31)) H5.out.1 rfl
    have yx := block_add (V := w5.alloc (Obj.cells #[.int .i64 0, .int .i64 0, .bool false, .slice none 0 0, .bool false, .string ⟨#[]⟩, .slice none 0 0, .slice none 0 0, .int .i64 0, .slice none 0 0, .bool false, .int .i64 0, .slice none 0 0] 31)) H5.out.2.1 rfl
    have c0 : (w5.alloc (Obj.cells #[.int .i64 0, .int .i64 0, .bool false, .slice none 0 0, .bool false, .string ⟨#[]⟩, .slice none 0 0, .slice none 0 0, .int .i64 0, .slice none 0 0, .bool false, .int .i64 0, .slice none 0 0] 31)).cell? ⟨w.heap.size, 0, none⟩ = some (.int .i64 a.k) := by rw [Lib.cell_of_heap ya]; rfl
    have c1 : (w5.alloc (Obj.cells #[.int .i64 0, .int .i64 0, .bool false, .slice none 0 0, .bool false, .string ⟨#[]⟩, .slice none 0 0, .slice none 0 0, .int .i64 0, .slice none 0 0, .bool false, .int .i64 0, .slice none 0 0] 31)).cell? ⟨w.heap.size, 1, none⟩ = some (.int .i64 a.d.k) := by rw [Lib.cell_of_heap ya]; rfl
    have c2 : (w5.alloc (Obj.cells #[.int .i64 0, .int .i64 0, .bool false, .slice none 0 0, .bool false, .string ⟨#[]⟩, .slice none 0 0, .slice none 0 0, .int .i64 0, .slice none 0 0, .bool false, .int .i64 0, .slice none 0 0] 31)).cell? ⟨w.heap.size, 2, none⟩ = some (.bool a.d.g) := by rw [Lib.cell_of_heap ya]; rfl
    have c3 : (w5.alloc (Obj.cells #[.int .i64 0, .int .i64 0, .bool false, .slice none 0 0, .bool false, .string ⟨#[]⟩, .slice none 0 0, .slice none 0 0, .int .i64 0, .slice none 0 0, .bool false, .int .i64 0, .slice none 0 0] 31)).cell? ⟨w.heap.size, 3, none⟩ = some (.slice a.d.la a.d.ln a.d.lc) := by rw [Lib.cell_of_heap ya]; rfl
    have c4 : (w5.alloc (Obj.cells #[.int .i64 0, .int .i64 0, .bool false, .slice none 0 0, .bool false, .string ⟨#[]⟩, .slice none 0 0, .slice none 0 0, .int .i64 0, .slice none 0 0, .bool false, .int .i64 0, .slice none 0 0] 31)).cell? ⟨w.heap.size, 4, none⟩ = some (.bool a.d.bb) := by rw [Lib.cell_of_heap ya]; rfl
    have c5 : (w5.alloc (Obj.cells #[.int .i64 0, .int .i64 0, .bool false, .slice none 0 0, .bool false, .string ⟨#[]⟩, .slice none 0 0, .slice none 0 0, .int .i64 0, .slice none 0 0, .bool false, .int .i64 0, .slice none 0 0] 31)).cell? ⟨w.heap.size, 5, none⟩ = some (.string a.d.s) := by rw [Lib.cell_of_heap ya]; rfl
    have c6 : (w5.alloc (Obj.cells #[.int .i64 0, .int .i64 0, .bool false, .slice none 0 0, .bool false, .string ⟨#[]⟩, .slice none 0 0, .slice none 0 0, .int .i64 0, .slice none 0 0, .bool false, .int .i64 0, .slice none 0 0] 31)).cell? ⟨w.heap.size, 6, none⟩ = some (.slice a.d.ia a.d.items.length a.d.ic) := by rw [Lib.cell_of_heap ya]; rfl
    have c7 : (w5.alloc (Obj.cells #[.int .i64 0, .int .i64 0, .bool false, .slice none 0 0, .bool false, .string ⟨#[]⟩, .slice none 0 0, .slice none 0 0, .int .i64 0, .slice none 0 0, .bool false, .int .i64 0, .slice none 0 0] 31)).cell? ⟨w.heap.size, 7, none⟩ = some (.slice a.d.ta a.d.tail.length a.d.tc) := by rw [Lib.cell_of_heap ya]; rfl
    have c8 : (w5.alloc (Obj.cells #[.int .i64 0, .int .i64 0, .bool false, .slice none 0 0, .bool false, .string ⟨#[]⟩, .slice none 0 0, .slice none 0 0, .int .i64 0, .slice none 0 0, .bool false, .int .i64 0, .slice none 0 0] 31)).cell? ⟨w.heap.size, 8, none⟩ = some (.int .i64 a.v) := by rw [Lib.cell_of_heap ya]; rfl
    have c9 : (w5.alloc (Obj.cells #[.int .i64 0, .int .i64 0, .bool false, .slice none 0 0, .bool false, .string ⟨#[]⟩, .slice none 0 0, .slice none 0 0, .int .i64 0, .slice none 0 0, .bool false, .int .i64 0, .slice none 0 0] 31)).cell? ⟨w.heap.size, 9, none⟩ = some (.slice a.va a.vs.length a.vc) := by rw [Lib.cell_of_heap ya]; rfl
    have c10 : (w5.alloc (Obj.cells #[.int .i64 0, .int .i64 0, .bool false, .slice none 0 0, .bool false, .string ⟨#[]⟩, .slice none 0 0, .slice none 0 0, .int .i64 0, .slice none 0 0, .bool false, .int .i64 0, .slice none 0 0] 31)).cell? ⟨w.heap.size, 10, none⟩ = some (.bool a.rs) := by rw [Lib.cell_of_heap ya]; rfl
    have c11 : (w5.alloc (Obj.cells #[.int .i64 0, .int .i64 0, .bool false, .slice none 0 0, .bool false, .string ⟨#[]⟩, .slice none 0 0, .slice none 0 0, .int .i64 0, .slice none 0 0, .bool false, .int .i64 0, .slice none 0 0] 31)).cell? ⟨w.heap.size, 11, none⟩ = some (.int .i64 a.p) := by rw [Lib.cell_of_heap ya]; rfl
    have c12 : (w5.alloc (Obj.cells #[.int .i64 0, .int .i64 0, .bool false, .slice none 0 0, .bool false, .string ⟨#[]⟩, .slice none 0 0, .slice none 0 0, .int .i64 0, .slice none 0 0, .bool false, .int .i64 0, .slice none 0 0] 31)).cell? ⟨w.heap.size, 12, none⟩ = some (.slice a.ka a.kids.length a.kc) := by rw [Lib.cell_of_heap ya]; rfl
    have d0 : (w5.alloc (Obj.cells #[.int .i64 0, .int .i64 0, .bool false, .slice none 0 0, .bool false, .string ⟨#[]⟩, .slice none 0 0, .slice none 0 0, .int .i64 0, .slice none 0 0, .bool false, .int .i64 0, .slice none 0 0] 31)).cell? ⟨w.heap.size + 1, 0, none⟩ = some (.int .i64 x.k) := by rw [Lib.cell_of_heap yx]; rfl
    have d1 : (w5.alloc (Obj.cells #[.int .i64 0, .int .i64 0, .bool false, .slice none 0 0, .bool false, .string ⟨#[]⟩, .slice none 0 0, .slice none 0 0, .int .i64 0, .slice none 0 0, .bool false, .int .i64 0, .slice none 0 0] 31)).cell? ⟨w.heap.size + 1, 1, none⟩ = some (.int .i64 x.d.k) := by rw [Lib.cell_of_heap yx]; rfl
    have d2 : (w5.alloc (Obj.cells #[.int .i64 0, .int .i64 0, .bool false, .slice none 0 0, .bool false, .string ⟨#[]⟩, .slice none 0 0, .slice none 0 0, .int .i64 0, .slice none 0 0, .bool false, .int .i64 0, .slice none 0 0] 31)).cell? ⟨w.heap.size + 1, 2, none⟩ = some (.bool x.d.g) := by rw [Lib.cell_of_heap yx]; rfl
    have d3 : (w5.alloc (Obj.cells #[.int .i64 0, .int .i64 0, .bool false, .slice none 0 0, .bool false, .string ⟨#[]⟩, .slice none 0 0, .slice none 0 0, .int .i64 0, .slice none 0 0, .bool false, .int .i64 0, .slice none 0 0] 31)).cell? ⟨w.heap.size + 1, 3, none⟩ = some (.slice x.d.la x.d.ln x.d.lc) := by rw [Lib.cell_of_heap yx]; rfl
    have d4 : (w5.alloc (Obj.cells #[.int .i64 0, .int .i64 0, .bool false, .slice none 0 0, .bool false, .string ⟨#[]⟩, .slice none 0 0, .slice none 0 0, .int .i64 0, .slice none 0 0, .bool false, .int .i64 0, .slice none 0 0] 31)).cell? ⟨w.heap.size + 1, 4, none⟩ = some (.bool x.d.bb) := by rw [Lib.cell_of_heap yx]; rfl
    have d5 : (w5.alloc (Obj.cells #[.int .i64 0, .int .i64 0, .bool false, .slice none 0 0, .bool false, .string ⟨#[]⟩, .slice none 0 0, .slice none 0 0, .int .i64 0, .slice none 0 0, .bool false, .int .i64 0, .slice none 0 0] 31)).cell? ⟨w.heap.size + 1, 5, none⟩ = some (.string x.d.s) := by rw [Lib.cell_of_heap yx]; rfl
    have d6 : (w5.alloc (Obj.cells #[.int .i64 0, .int .i64 0, .bool false, .slice none 0 0, .bool false, .string ⟨#[]⟩, .slice none 0 0, .slice none 0 0, .int .i64 0, .slice none 0 0, .bool false, .int .i64 0, .slice none 0 0] 31)).cell? ⟨w.heap.size + 1, 6, none⟩ = some (.slice x.d.ia x.d.items.length x.d.ic) := by rw [Lib.cell_of_heap yx]; rfl
    have d7 : (w5.alloc (Obj.cells #[.int .i64 0, .int .i64 0, .bool false, .slice none 0 0, .bool false, .string ⟨#[]⟩, .slice none 0 0, .slice none 0 0, .int .i64 0, .slice none 0 0, .bool false, .int .i64 0, .slice none 0 0] 31)).cell? ⟨w.heap.size + 1, 7, none⟩ = some (.slice x.d.ta x.d.tail.length x.d.tc) := by rw [Lib.cell_of_heap yx]; rfl
    have d8 : (w5.alloc (Obj.cells #[.int .i64 0, .int .i64 0, .bool false, .slice none 0 0, .bool false, .string ⟨#[]⟩, .slice none 0 0, .slice none 0 0, .int .i64 0, .slice none 0 0, .bool false, .int .i64 0, .slice none 0 0] 31)).cell? ⟨w.heap.size + 1, 8, none⟩ = some (.int .i64 x.v) := by rw [Lib.cell_of_heap yx]; rfl
    have d9 : (w5.alloc (Obj.cells #[.int .i64 0, .int .i64 0, .bool false, .slice none 0 0, .bool false, .string ⟨#[]⟩, .slice none 0 0, .slice none 0 0, .int .i64 0, .slice none 0 0, .bool false, .int .i64 0, .slice none 0 0] 31)).cell? ⟨w.heap.size + 1, 9, none⟩ = some (.slice x.va x.vs.length x.vc) := by rw [Lib.cell_of_heap yx]; rfl
    have d10 : (w5.alloc (Obj.cells #[.int .i64 0, .int .i64 0, .bool false, .slice none 0 0, .bool false, .string ⟨#[]⟩, .slice none 0 0, .slice none 0 0, .int .i64 0, .slice none 0 0, .bool false, .int .i64 0, .slice none 0 0] 31)).cell? ⟨w.heap.size + 1, 10, none⟩ = some (.bool x.rs) := by rw [Lib.cell_of_heap yx]; rfl
    have d11 : (w5.alloc (Obj.cells #[.int .i64 0, .int .i64 0, .bool false, .slice none 0 0, .bool false, .string ⟨#[]⟩, .slice none 0 0, .slice none 0 0, .int .i64 0, .slice none 0 0, .bool false, .int .i64 0, .slice none 0 0] 31)).cell? ⟨w.heap.size + 1, 11, none⟩ = some (.int .i64 x.p) := by rw [Lib.cell_of_heap yx]; rfl
    have d12 : (w5.alloc (Obj.cells #[.int .i64 0, .int .i64 0, .bool false, .slice none 0 0, .bool false, .string ⟨#[]⟩, .slice none 0 0, .slice none 0 0, .int .i64 0, .slice none 0 0, .bool false, .int .i64 0, .slice none 0 0] 31)).cell? ⟨w.heap.size + 1, 12, none⟩ = some (.slice x.ka x.kids.length x.kc) := by rw [Lib.cell_of_heap yx]; rfl
    clear ya yx hb5 hn
    go_wp2_with fail
    refine HPT.out.mono ?_
    rintro e w6 ⟨b6, h6⟩
    clear c0 c1 c2 c3 c4 c5 c6 c7 c8 c9 c10 c11 c12 d0 d1 d2 d3 d4 d5 d6 d7 d8 d9 d10 d11 d12
    have hno : putES (shapeE a) path (shapeE x) = none := (at_put_none path _ _).1 (by rw [atES_shape, HN.out]; rfl)
    have hb6 := Lib.hid (HB5.out.trans (b6.mono HB5.out.size))
    obtain rfl : e = .returned (.tuple #[(.agg #[.int .i64 0, .int .i64 0, .bool false, .slice none 0 0, .bool false, .string ⟨#[]⟩, .slice none 0 0, .slice none 0 0, .int .i64 0, .slice none 0 0, .bool false, .int .i64 0, .slice none 0 0]), .bool false]) := by
      rcases h6 with ⟨_, h⟩ | ⟨s, u, h, _⟩
      · exact h
      · rw [hno] at h; cases h
    clear h6 b6 hno
    go_wp2_with fail
    refine (HH.out.2.2.2.2.2.2.2.2.2.2 _).mono ?_
    rintro e w7 ⟨rfl, b7⟩
    have hb7 := Lib.hid ((hb6.out.alloc hb6.out.size _).trans (b7.mono (hb6.out.alloc hb6.out.size _).size))
    clear b7
    go_wp2_with fail
    go_ret
    exact ⟨rfl, hb7.out⟩
  · obtain ⟨V5, hV5⟩ : ∃ V, w5.alloc (Obj.cells #[.int .i64 u.k, .int .i64 u.d.k, .bool u.d.g, .slice u.d.la u.d.ln u.d.lc, .bool u.d.bb, .string u.d.s, .slice u.d.ia u.d.items.length u.d.ic, .slice u.d.ta u.d.tail.length u.d.tc, .int .i64 u.v, .slice u.va u.vs.length u.vc, .bool u.rs, .int .i64 u.p, .slice u.ka u.kids.length u.kc] 31) = V := ⟨_, rfl⟩
    have hb5 := below_add H5.out.2.2 hV5
    have HPT := Lib.hid (put_any w.heap.size a x (by omega) (by omega) (HH.out.2.2.2.2.2.2.2.2.1 (by first | exact rfl | trivial)) (by omega) (by omega) (HH.out.2.2.2.2.2.2.2.2.2.1 (by first | exact rfl | trivial)) pa pc path V5 hb5.size ((HH.out.1 V5 hb5).upM hM) ((HH.out.2.1 V5 hb5).upM hM) ((HH.out.2.2.1 V5 hb5).upM hM))
    have hu5 : HeldE V5 w5.heap.size u := (hhd.held fun k hk => hk.lt).below (Nat.le_refl _) (by rw [← hV5]; exact (Below.refl _ _).alloc (Nat.le_refl _) _)
    have hzV5 : w5.heap.size < V5.heap.size := by rw [← hV5, World.size_alloc]; exact Nat.lt_succ_self _
    have ya := block_add H5.out.1 hV5
    have yx := block_add H5.out.2.1 hV5
    have HV5 := Lib.hid (And.intro ya (And.intro yx (And.intro (new_add hV5) (And.intro hb5 (And.intro hu5 (And.intro hzV5 (And.intro hs (And.intro hsh htm))))))))
    have c0 : V5.cell? ⟨w.heap.size, 0, none⟩ = some (.int .i64 a.k) := by rw [Lib.cell_of_heap ya]; rfl
    have c1 : V5.cell? ⟨w.heap.size, 1, none⟩ = some (.int .i64 a.d.k) := by rw [Lib.cell_of_heap ya]; rfl
    have c2 : V5.cell? ⟨w.heap.size, 2, none⟩ = some (.bool a.d.g) := by rw [Lib.cell_of_heap ya]; rfl
    have c3 : V5.cell? ⟨w.heap.size, 3, none⟩ = some (.slice a.d.la a.d.ln a.d.lc) := by rw [Lib.cell_of_heap ya]; rfl
    have c4 : V5.cell? ⟨w.heap.size, 4, none⟩ = some (.bool a.d.bb) := by rw [Lib.cell_of_heap ya]; rfl
    have c5 : V5.cell? ⟨w.heap.size, 5, none⟩ = some (.string a.d.s) := by rw [Lib.cell_of_heap ya]; rfl
    have c6 : V5.cell? ⟨w.heap.size, 6, none⟩ = some (.slice a.d.ia a.d.items.length a.d.ic) := by rw [Lib.cell_of_heap ya]; rfl
    have c7 : V5.cell? ⟨w.heap.size, 7, none⟩ = some (.slice a.d.ta a.d.tail.length a.d.tc) := by rw [Lib.cell_of_heap ya]; rfl
    have c8 : V5.cell? ⟨w.heap.size, 8, none⟩ = some (.int .i64 a.v) := by rw [Lib.cell_of_heap ya]; rfl
    have c9 : V5.cell? ⟨w.heap.size, 9, none⟩ = some (.slice a.va a.vs.length a.vc) := by rw [Lib.cell_of_heap ya]; rfl
    have c10 : V5.cell? ⟨w.heap.size, 10, none⟩ = some (.bool a.rs) := by rw [Lib.cell_of_heap ya]; rfl
    have c11 : V5.cell? ⟨w.heap.size, 11, none⟩ = some (.int .i64 a.p) := by rw [Lib.cell_of_heap ya]; rfl
    have c12 : V5.cell? ⟨w.heap.size, 12, none⟩ = some (.slice a.ka a.kids.length a.kc) := by rw [Lib.cell_of_heap ya]; rfl
    have d0 : V5.cell? ⟨w.heap.size + 1, 0, none⟩ = some (.int .i64 x.k) := by rw [Lib.cell_of_heap yx]; rfl
    have d1 : V5.cell? ⟨w.heap.size + 1, 1, none⟩ = some (.int .i64 x.d.k) := by rw [Lib.cell_of_heap yx]; rfl
    have d2 : V5.cell? ⟨w.heap.size + 1, 2, none⟩ = some (.bool x.d.g) := by rw [Lib.cell_of_heap yx]; rfl
    have d3 : V5.cell? ⟨w.heap.size + 1, 3, none⟩ = some (.slice x.d.la x.d.ln x.d.lc) := by rw [Lib.cell_of_heap yx]; rfl
    have d4 : V5.cell? ⟨w.heap.size + 1, 4, none⟩ = some (.bool x.d.bb) := by rw [Lib.cell_of_heap yx]; rfl
    have d5 : V5.cell? ⟨w.heap.size + 1, 5, none⟩ = some (.string x.d.s) := by rw [Lib.cell_of_heap yx]; rfl
    have d6 : V5.cell? ⟨w.heap.size + 1, 6, none⟩ = some (.slice x.d.ia x.d.items.length x.d.ic) := by rw [Lib.cell_of_heap yx]; rfl
    have d7 : V5.cell? ⟨w.heap.size + 1, 7, none⟩ = some (.slice x.d.ta x.d.tail.length x.d.tc) := by rw [Lib.cell_of_heap yx]; rfl
    have d8 : V5.cell? ⟨w.heap.size + 1, 8, none⟩ = some (.int .i64 x.v) := by rw [Lib.cell_of_heap yx]; rfl
    have d9 : V5.cell? ⟨w.heap.size + 1, 9, none⟩ = some (.slice x.va x.vs.length x.vc) := by rw [Lib.cell_of_heap yx]; rfl
    have d10 : V5.cell? ⟨w.heap.size + 1, 10, none⟩ = some (.bool x.rs) := by rw [Lib.cell_of_heap yx]; rfl
    have d11 : V5.cell? ⟨w.heap.size + 1, 11, none⟩ = some (.int .i64 x.p) := by rw [Lib.cell_of_heap yx]; rfl
    have d12 : V5.cell? ⟨w.heap.size + 1, 12, none⟩ = some (.slice x.ka x.kids.length x.kc) := by rw [Lib.cell_of_heap yx]; rfl
    clear ya yx hb5 hu5 hzV5 hs hsh htm hhd
    go_wp2_with fail
    refine HPT.out.mono ?_
    rintro e w6 ⟨b6, h6⟩
    clear c0 c1 c2 c3 c4 c5 c6 c7 c8 c9 c10 c11 c12 d0 d1 d2 d3 d4 d5 d6 d7 d8 d9 d10 d11 d12 hV5
    have hat : atES (shapeE a) path = some (shapeE u) := by rw [atES_shape, HV5.out.2.2.2.2.2.2.1, HV5.out.2.2.2.2.2.2.2.1]; rfl
    obtain ⟨sc, c, hput, rfl, hsc, htc, hhc⟩ : ∃ (s : ES) (c : ET), putES (shapeE a) path (shapeE x) = some s ∧ e = .returned (.tuple #[.agg #[.int .i64 c.k, .int .i64 c.d.k, .bool c.d.g, .slice c.d.la c.d.ln c.d.lc, .bool c.d.bb, .string c.d.s, .slice c.d.ia c.d.items.length c.d.ic, .slice c.d.ta c.d.tail.length c.d.tc, .int .i64 c.v, .slice c.va c.vs.length c.vc, .bool c.rs, .int .i64 c.p, .slice c.ka c.kids.length c.kc], .bool true]) ∧ shapeE c = s ∧ TameE c ∧ HeldEP w6 (Fresh w6 V5.heap.size) c := by
      rcases h6 with ⟨h, _⟩ | h
      · have := (at_put_none path _ (shapeE x)).2 h; rw [hat] at this; cases this
      · exact h
    obtain ⟨V6, hV6⟩ : ∃ V, w6.alloc (Obj.cells #[.int .i64 c.k, .int .i64 c.d.k, .bool c.d.g, .slice c.d.la c.d.ln c.d.lc, .bool c.d.bb, .string c.d.s, .slice c.d.ia c.d.items.length c.d.ic, .slice c.d.ta c.d.tail.length c.d.tc, .int .i64 c.v, .slice c.va c.vs.length c.vc, .bool c.rs, .int .i64 c.p, .slice c.ka c.kids.length c.kc] 31) = V := ⟨_, rfl⟩
    have hfc := put_few path _ _ _ hput
    rw [← hsc, sizeES_shape, sizeES_shape, sizeES_shape, depthES_shape, depthES_shape, depthES_shape] at hfc
    have hb6' := HV5.out.2.2.2.1.trans (b6.mono HV5.out.2.2.2.1.size)
    have hb6 := below_add hb6' hV6
    have hc6 : HeldE V6 w6.heap.size c := (hhc.held fun k hk => hk.lt).below (Nat.le_refl _) (by rw [← hV6]; exact (Below.refl _ _).alloc (Nat.le_refl _) _)
    have hu6 : HeldE V6 w6.heap.size u := ((HV5.out.2.2.2.2.1.below (by have := HV5.out.2.2.2.2.2.1; omega) b6).upM (by have := b6.size; have := HV5.out.2.2.2.2.2.1; omega)).below (Nat.le_refl _) (by rw [← hV6]; exact (Below.refl _ _).alloc (Nat.le_refl _) _)
    have hzV6 : w6.heap.size ≤ V6.heap.size := by rw [← hV6, World.size_alloc]; exact Nat.le_succ _
    have h6a := block_add (block_call HV5.out.1 b6) hV6
    have h6x := block_add (block_call HV5.out.2.1 b6) hV6
    have h6b := block_add (block_call HV5.out.2.2.1 b6) hV6
    have h6c := new_add hV6
    have HAT2 := Lib.hid (at_any w6.heap.size c (by omega) (by omega) htc pa pc path V6 hzV6 hc6 ((HH.out.2.2.1 V6 hb6).upM (by have := hb6'.size; omega)))
    have HV6 := Lib.hid (And.intro h6a (And.intro h6x (And.intro h6b (And.intro h6c (And.intro hb6 (And.intro hc6 (And.intro hu6 (And.intro hzV6 (And.intro htc (And.intro hsc (And.intro hput (And.intro hat hfc))))))))))))
    have hm6 := hb6.size
    have hn6 : w.heap.size ≤ w6.heap.size := hb6'.size
    have c0 : V6.cell? ⟨w6.heap.size, 0, none⟩ = some (.int .i64 c.k) := by rw [Lib.cell_of_heap h6c]; rfl
    have c1 : V6.cell? ⟨w6.heap.size, 1, none⟩ = some (.int .i64 c.d.k) := by rw [Lib.cell_of_heap h6c]; rfl
    have c2 : V6.cell? ⟨w6.heap.size, 2, none⟩ = some (.bool c.d.g) := by rw [Lib.cell_of_heap h6c]; rfl
    have c3 : V6.cell? ⟨w6.heap.size, 3, none⟩ = some (.slice c.d.la c.d.ln c.d.lc) := by rw [Lib.cell_of_heap h6c]; rfl
    have c4 : V6.cell? ⟨w6.heap.size, 4, none⟩ = some (.bool c.d.bb) := by rw [Lib.cell_of_heap h6c]; rfl
    have c5 : V6.cell? ⟨w6.heap.size, 5, none⟩ = some (.string c.d.s) := by rw [Lib.cell_of_heap h6c]; rfl
    have c6 : V6.cell? ⟨w6.heap.size, 6, none⟩ = some (.slice c.d.ia c.d.items.length c.d.ic) := by rw [Lib.cell_of_heap h6c]; rfl
    have c7 : V6.cell? ⟨w6.heap.size, 7, none⟩ = some (.slice c.d.ta c.d.tail.length c.d.tc) := by rw [Lib.cell_of_heap h6c]; rfl
    have c8 : V6.cell? ⟨w6.heap.size, 8, none⟩ = some (.int .i64 c.v) := by rw [Lib.cell_of_heap h6c]; rfl
    have c9 : V6.cell? ⟨w6.heap.size, 9, none⟩ = some (.slice c.va c.vs.length c.vc) := by rw [Lib.cell_of_heap h6c]; rfl
    have c10 : V6.cell? ⟨w6.heap.size, 10, none⟩ = some (.bool c.rs) := by rw [Lib.cell_of_heap h6c]; rfl
    have c11 : V6.cell? ⟨w6.heap.size, 11, none⟩ = some (.int .i64 c.p) := by rw [Lib.cell_of_heap h6c]; rfl
    have c12 : V6.cell? ⟨w6.heap.size, 12, none⟩ = some (.slice c.ka c.kids.length c.kc) := by rw [Lib.cell_of_heap h6c]; rfl
    clear h6a h6x h6b h6c hb6 hb6' hc6 hu6 hzV6 htc hsc hput hat hfc hhc h6 b6
    go_wp2_with fail
    refine HAT2.out.mono ?_
    rintro e w7 ⟨b7, h7⟩
    clear c0 c1 c2 c3 c4 c5 c6 c7 c8 c9 c10 c11 c12 hV6
    have hz7 := b7.size
    have hatc : atES (shapeE c) path = some (shapeE x) := by rw [HV6.out.2.2.2.2.2.2.2.2.2.1]; exact put_at path _ _ _ HV6.out.2.2.2.2.2.2.2.2.2.2.1
    obtain ⟨d0, d, hd0, rfl, hsd, htd, hhd⟩ : ∃ x' u, atE c path = some x' ∧ e = .returned (.tuple #[.agg #[.int .i64 u.k, .int .i64 u.d.k, .bool u.d.g, .slice u.d.la u.d.ln u.d.lc, .bool u.d.bb, .string u.d.s, .slice u.d.ia u.d.items.length u.d.ic, .slice u.d.ta u.d.tail.length u.d.tc, .int .i64 u.v, .slice u.va u.vs.length u.vc, .bool u.rs, .int .i64 u.p, .slice u.ka u.kids.length u.kc], .bool true]) ∧ shapeE u = shapeE x' ∧ TameE u ∧ HeldEP w7 (Fresh w7 V6.heap.size) u := by
      rcases h7 with ⟨h, _⟩ | h
      · rw [atES_shape, h] at hatc; cases hatc
      · exact h
    have hdx : shapeE d = shapeE x := by rw [atES_shape, hd0] at hatc; rw [hsd]; exact Option.some.inj hatc
    clear h7 hd0 hsd hatc
    obtain ⟨V7, hV7⟩ : ∃ V, w7.alloc (Obj.cells #[.int .i64 d.k, .int .i64 d.d.k, .bool d.d.g, .slice d.d.la d.d.ln d.d.lc, .bool d.d.bb, .string d.d.s, .slice d.d.ia d.d.items.length d.d.ic, .slice d.d.ta d.d.tail.length d.d.tc, .int .i64 d.v, .slice d.va d.vs.length d.vc, .bool d.rs, .int .i64 d.p, .slice d.ka d.kids.length d.kc] 31) = V := ⟨_, rfl⟩
    have hb7' := HV6.out.2.2.2.2.1.trans (b7.mono HV6.out.2.2.2.2.1.size)
    have hb7 := below_add hb7' hV7
    have hk7 : Below V6.heap.size V6 V7 := below_add b7 hV7
    have hd7 : HeldE V7 w7.heap.size d := (hhd.held fun k hk => hk.lt).below (Nat.le_refl _) (by rw [← hV7]; exact (Below.refl _ _).alloc (Nat.le_refl _) _)
    have hc7 := HV6.out.2.2.2.2.2.1.below HV6.out.2.2.2.2.2.2.2.1 hk7
    have hu7 := HV6.out.2.2.2.2.2.2.1.below HV6.out.2.2.2.2.2.2.2.1 hk7
    have hzV7 : V7.heap.size = w7.heap.size + 1 := by rw [← hV7, World.size_alloc]
    have h7a := block_add (block_call HV6.out.1 b7) hV7
    have h7x := block_add (block_call HV6.out.2.1 b7) hV7
    have h7b := block_add (block_call HV6.out.2.2.1 b7) hV7
    have h7c := block_add (block_call HV6.out.2.2.2.1 b7) hV7
    have h7d := new_add hV7
    have hus : u.size ≤ 300 ∧ u.depth ≤ 300 := by
      have e1 := HV6.out.2.2.2.2.2.2.2.2.2.2.2.1
      have e2 := at_few path _ _ e1
      rw [sizeES_shape, sizeES_shape, depthES_shape, depthES_shape] at e2
      omega
    have hfc := HV6.out.2.2.2.2.2.2.2.2.2.2.2.2
    have HPT2 := Lib.hid (put_any w6.heap.size c u (by omega) (by omega) HV6.out.2.2.2.2.2.2.2.2.1 (by omega) (by omega) HV5.out.2.2.2.2.2.2.2.2 pa pc path V7 (by have := hk7.size; have := HV6.out.2.2.2.2.2.2.2.1; omega) hc7 hu7 ((HH.out.2.2.1 V7 hb7).upM (by omega)))
    have hback : putES (shapeE c) path (shapeE u) = some (shapeE a) := by rw [HV6.out.2.2.2.2.2.2.2.2.2.1]; exact put_back path _ _ _ _ HV6.out.2.2.2.2.2.2.2.2.2.2.2.1 HV6.out.2.2.2.2.2.2.2.2.2.2.1
    have HV7 := Lib.hid (And.intro h7a (And.intro h7x (And.intro h7d (And.intro hb7 (And.intro hd7 (And.intro hdx (And.intro htd hback)))))))
    have c0 : V7.cell? ⟨w6.heap.size, 0, none⟩ = some (.int .i64 c.k) := by rw [Lib.cell_of_heap h7c]; rfl
    have c1 : V7.cell? ⟨w6.heap.size, 1, none⟩ = some (.int .i64 c.d.k) := by rw [Lib.cell_of_heap h7c]; rfl
    have c2 : V7.cell? ⟨w6.heap.size, 2, none⟩ = some (.bool c.d.g) := by rw [Lib.cell_of_heap h7c]; rfl
    have c3 : V7.cell? ⟨w6.heap.size, 3, none⟩ = some (.slice c.d.la c.d.ln c.d.lc) := by rw [Lib.cell_of_heap h7c]; rfl
    have c4 : V7.cell? ⟨w6.heap.size, 4, none⟩ = some (.bool c.d.bb) := by rw [Lib.cell_of_heap h7c]; rfl
    have c5 : V7.cell? ⟨w6.heap.size, 5, none⟩ = some (.string c.d.s) := by rw [Lib.cell_of_heap h7c]; rfl
    have c6 : V7.cell? ⟨w6.heap.size, 6, none⟩ = some (.slice c.d.ia c.d.items.length c.d.ic) := by rw [Lib.cell_of_heap h7c]; rfl
    have c7 : V7.cell? ⟨w6.heap.size, 7, none⟩ = some (.slice c.d.ta c.d.tail.length c.d.tc) := by rw [Lib.cell_of_heap h7c]; rfl
    have c8 : V7.cell? ⟨w6.heap.size, 8, none⟩ = some (.int .i64 c.v) := by rw [Lib.cell_of_heap h7c]; rfl
    have c9 : V7.cell? ⟨w6.heap.size, 9, none⟩ = some (.slice c.va c.vs.length c.vc) := by rw [Lib.cell_of_heap h7c]; rfl
    have c10 : V7.cell? ⟨w6.heap.size, 10, none⟩ = some (.bool c.rs) := by rw [Lib.cell_of_heap h7c]; rfl
    have c11 : V7.cell? ⟨w6.heap.size, 11, none⟩ = some (.int .i64 c.p) := by rw [Lib.cell_of_heap h7c]; rfl
    have c12 : V7.cell? ⟨w6.heap.size, 12, none⟩ = some (.slice c.ka c.kids.length c.kc) := by rw [Lib.cell_of_heap h7c]; rfl
    have d0 : V7.cell? ⟨w5.heap.size, 0, none⟩ = some (.int .i64 u.k) := by rw [Lib.cell_of_heap h7b]; rfl
    have d1 : V7.cell? ⟨w5.heap.size, 1, none⟩ = some (.int .i64 u.d.k) := by rw [Lib.cell_of_heap h7b]; rfl
    have d2 : V7.cell? ⟨w5.heap.size, 2, none⟩ = some (.bool u.d.g) := by rw [Lib.cell_of_heap h7b]; rfl
    have d3 : V7.cell? ⟨w5.heap.size, 3, none⟩ = some (.slice u.d.la u.d.ln u.d.lc) := by rw [Lib.cell_of_heap h7b]; rfl
    have d4 : V7.cell? ⟨w5.heap.size, 4, none⟩ = some (.bool u.d.bb) := by rw [Lib.cell_of_heap h7b]; rfl
    have d5 : V7.cell? ⟨w5.heap.size, 5, none⟩ = some (.string u.d.s) := by rw [Lib.cell_of_heap h7b]; rfl
    have d6 : V7.cell? ⟨w5.heap.size, 6, none⟩ = some (.slice u.d.ia u.d.items.length u.d.ic) := by rw [Lib.cell_of_heap h7b]; rfl
    have d7 : V7.cell? ⟨w5.heap.size, 7, none⟩ = some (.slice u.d.ta u.d.tail.length u.d.tc) := by rw [Lib.cell_of_heap h7b]; rfl
    have d8 : V7.cell? ⟨w5.heap.size, 8, none⟩ = some (.int .i64 u.v) := by rw [Lib.cell_of_heap h7b]; rfl
    have d9 : V7.cell? ⟨w5.heap.size, 9, none⟩ = some (.slice u.va u.vs.length u.vc) := by rw [Lib.cell_of_heap h7b]; rfl
    have d10 : V7.cell? ⟨w5.heap.size, 10, none⟩ = some (.bool u.rs) := by rw [Lib.cell_of_heap h7b]; rfl
    have d11 : V7.cell? ⟨w5.heap.size, 11, none⟩ = some (.int .i64 u.p) := by rw [Lib.cell_of_heap h7b]; rfl
    have d12 : V7.cell? ⟨w5.heap.size, 12, none⟩ = some (.slice u.ka u.kids.length u.kc) := by rw [Lib.cell_of_heap h7b]; rfl
    clear h7a h7x h7b h7c h7d hb7 hb7' hd7 hdx htd hback hc7 hu7 hfc hus hk7 hhd b7
    go_wp2_with fail
    refine HPT2.out.mono ?_
    rintro e w8 ⟨b8, h8⟩
    clear c0 c1 c2 c3 c4 c5 c6 c7 c8 c9 c10 c11 c12 d0 d1 d2 d3 d4 d5 d6 d7 d8 d9 d10 d11 d12 hV7
    have hz8 := b8.size
    obtain ⟨g, hsg, rfl, htg, hhg⟩ : ∃ u : ET, shapeE u = shapeE a ∧ e = .returned (.tuple #[.agg #[.int .i64 u.k, .int .i64 u.d.k, .bool u.d.g, .slice u.d.la u.d.ln u.d.lc, .bool u.d.bb, .string u.d.s, .slice u.d.ia u.d.items.length u.d.ic, .slice u.d.ta u.d.tail.length u.d.tc, .int .i64 u.v, .slice u.va u.vs.length u.vc, .bool u.rs, .int .i64 u.p, .slice u.ka u.kids.length u.kc], .bool true]) ∧ TameE u ∧ HeldEP w8 (Fresh w8 V7.heap.size) u := by
      rcases h8 with ⟨h, _⟩ | ⟨s, u, h, he, hs, ht, hh⟩
      · rw [HV7.out.2.2.2.2.2.2.2] at h; cases h
      · rw [HV7.out.2.2.2.2.2.2.2] at h
        exact ⟨u, by rw [hs]; exact (Option.some.inj h).symm, he, ht, hh⟩
    clear h8
    obtain ⟨V8, hV8⟩ : ∃ V, w8.alloc (Obj.cells #[.int .i64 g.k, .int .i64 g.d.k, .bool g.d.g, .slice g.d.la g.d.ln g.d.lc, .bool g.d.bb, .string g.d.s, .slice g.d.ia g.d.items.length g.d.ic, .slice g.d.ta g.d.tail.length g.d.tc, .int .i64 g.v, .slice g.va g.vs.length g.vc, .bool g.rs, .int .i64 g.p, .slice g.ka g.kids.length g.kc] 31) = V := ⟨_, rfl⟩
    have hb8 := below_add (HV7.out.2.2.2.1.trans (b8.mono HV7.out.2.2.2.1.size)) hV8
    have hk8 : Below V7.heap.size V7 V8 := below_add b8 hV8
    have hg8 : HeldE V8 w8.heap.size g := (hhg.held fun k hk => hk.lt).below (Nat.le_refl _) (by rw [← hV8]; exact (Below.refl _ _).alloc (Nat.le_refl _) _)
    have hd8 := HV7.out.2.2.2.2.1.below (by omega) hk8
    have hzV8 : V8.heap.size = w8.heap.size + 1 := by rw [← hV8, World.size_alloc]
    have h8a := block_add (block_call HV7.out.1 b8) hV8
    have h8x := block_add (block_call HV7.out.2.1 b8) hV8
    have h8d := block_add (block_call HV7.out.2.2.1 b8) hV8
    have h8g := new_add hV8
    have hds : d.size = x.size ∧ d.depth = x.depth := ⟨by rw [← sizeES_shape, HV7.out.2.2.2.2.2.1, sizeES_shape], by rw [← depthES_shape, HV7.out.2.2.2.2.2.1, depthES_shape]⟩
    have hgs : g.size = a.size ∧ g.depth = a.depth := ⟨by rw [← sizeES_shape, hsg, sizeES_shape], by rw [← depthES_shape, hsg, depthES_shape]⟩
    have HS1 := Lib.hid (sameEE_yes w7.heap.size d x HV7.out.2.2.2.2.2.1 (by omega) (by omega) HV7.out.2.2.2.2.2.2.1 (HH.out.2.2.2.2.2.2.2.2.2.1 (by first | exact rfl | trivial)) V8 (by omega) hd8 ((HH.out.2.1 V8 hb8).upM (by omega)))
    have HV8 := Lib.hid (And.intro h8a (And.intro h8g (And.intro hb8 (And.intro hg8 (And.intro hsg htg)))))
    have c0 : V8.cell? ⟨w7.heap.size, 0, none⟩ = some (.int .i64 d.k) := by rw [Lib.cell_of_heap h8d]; rfl
    have c1 : V8.cell? ⟨w7.heap.size, 1, none⟩ = some (.int .i64 d.d.k) := by rw [Lib.cell_of_heap h8d]; rfl
    have c2 : V8.cell? ⟨w7.heap.size, 2, none⟩ = some (.bool d.d.g) := by rw [Lib.cell_of_heap h8d]; rfl
    have c3 : V8.cell? ⟨w7.heap.size, 3, none⟩ = some (.slice d.d.la d.d.ln d.d.lc) := by rw [Lib.cell_of_heap h8d]; rfl
    have c4 : V8.cell? ⟨w7.heap.size, 4, none⟩ = some (.bool d.d.bb) := by rw [Lib.cell_of_heap h8d]; rfl
    have c5 : V8.cell? ⟨w7.heap.size, 5, none⟩ = some (.string d.d.s) := by rw [Lib.cell_of_heap h8d]; rfl
    have c6 : V8.cell? ⟨w7.heap.size, 6, none⟩ = some (.slice d.d.ia d.d.items.length d.d.ic) := by rw [Lib.cell_of_heap h8d]; rfl
    have c7 : V8.cell? ⟨w7.heap.size, 7, none⟩ = some (.slice d.d.ta d.d.tail.length d.d.tc) := by rw [Lib.cell_of_heap h8d]; rfl
    have c8 : V8.cell? ⟨w7.heap.size, 8, none⟩ = some (.int .i64 d.v) := by rw [Lib.cell_of_heap h8d]; rfl
    have c9 : V8.cell? ⟨w7.heap.size, 9, none⟩ = some (.slice d.va d.vs.length d.vc) := by rw [Lib.cell_of_heap h8d]; rfl
    have c10 : V8.cell? ⟨w7.heap.size, 10, none⟩ = some (.bool d.rs) := by rw [Lib.cell_of_heap h8d]; rfl
    have c11 : V8.cell? ⟨w7.heap.size, 11, none⟩ = some (.int .i64 d.p) := by rw [Lib.cell_of_heap h8d]; rfl
    have c12 : V8.cell? ⟨w7.heap.size, 12, none⟩ = some (.slice d.ka d.kids.length d.kc) := by rw [Lib.cell_of_heap h8d]; rfl
    have d0 : V8.cell? ⟨w.heap.size + 1, 0, none⟩ = some (.int .i64 x.k) := by rw [Lib.cell_of_heap h8x]; rfl
    have d1 : V8.cell? ⟨w.heap.size + 1, 1, none⟩ = some (.int .i64 x.d.k) := by rw [Lib.cell_of_heap h8x]; rfl
    have d2 : V8.cell? ⟨w.heap.size + 1, 2, none⟩ = some (.bool x.d.g) := by rw [Lib.cell_of_heap h8x]; rfl
    have d3 : V8.cell? ⟨w.heap.size + 1, 3, none⟩ = some (.slice x.d.la x.d.ln x.d.lc) := by rw [Lib.cell_of_heap h8x]; rfl
    have d4 : V8.cell? ⟨w.heap.size + 1, 4, none⟩ = some (.bool x.d.bb) := by rw [Lib.cell_of_heap h8x]; rfl
    have d5 : V8.cell? ⟨w.heap.size + 1, 5, none⟩ = some (.string x.d.s) := by rw [Lib.cell_of_heap h8x]; rfl
    have d6 : V8.cell? ⟨w.heap.size + 1, 6, none⟩ = some (.slice x.d.ia x.d.items.length x.d.ic) := by rw [Lib.cell_of_heap h8x]; rfl
    have d7 : V8.cell? ⟨w.heap.size + 1, 7, none⟩ = some (.slice x.d.ta x.d.tail.length x.d.tc) := by rw [Lib.cell_of_heap h8x]; rfl
    have d8 : V8.cell? ⟨w.heap.size + 1, 8, none⟩ = some (.int .i64 x.v) := by rw [Lib.cell_of_heap h8x]; rfl
    have d9 : V8.cell? ⟨w.heap.size + 1, 9, none⟩ = some (.slice x.va x.vs.length x.vc) := by rw [Lib.cell_of_heap h8x]; rfl
    have d10 : V8.cell? ⟨w.heap.size + 1, 10, none⟩ = some (.bool x.rs) := by rw [Lib.cell_of_heap h8x]; rfl
    have d11 : V8.cell? ⟨w.heap.size + 1, 11, none⟩ = some (.int .i64 x.p) := by rw [Lib.cell_of_heap h8x]; rfl
    have d12 : V8.cell? ⟨w.heap.size + 1, 12, none⟩ = some (.slice x.ka x.kids.length x.kc) := by rw [Lib.cell_of_heap h8x]; rfl
    clear h8a h8x h8d h8g hb8 hg8 hsg htg hd8 hk8 hhg b8
    go_wp2_with fail
    refine HS1.out.mono ?_
    rintro e w9 ⟨rfl, b9⟩
    clear c0 c1 c2 c3 c4 c5 c6 c7 c8 c9 c10 c11 c12 d0 d1 d2 d3 d4 d5 d6 d7 d8 d9 d10 d11 d12 hV8
    have hz9 := b9.size
    have h9a := block_call HV8.out.1 b9
    have h9g := block_call HV8.out.2.1 b9
    have hb9 := HV8.out.2.2.1.trans (b9.mono HV8.out.2.2.1.size)
    have HS2 := Lib.hid (sameEE_yes w8.heap.size g a HV8.out.2.2.2.2.1 (by omega) (by omega) HV8.out.2.2.2.2.2 (HH.out.2.2.2.2.2.2.2.2.1 (by first | exact rfl | trivial)) w9 (by omega) (HV8.out.2.2.2.1.below (by omega) b9) ((HH.out.1 w9 hb9).upM (by omega)))
    have HB9 := Lib.hid hb9
    have c0 : w9.cell? ⟨w8.heap.size, 0, none⟩ = some (.int .i64 g.k) := by rw [Lib.cell_of_heap h9g]; rfl
    have c1 : w9.cell? ⟨w8.heap.size, 1, none⟩ = some (.int .i64 g.d.k) := by rw [Lib.cell_of_heap h9g]; rfl
    have c2 : w9.cell? ⟨w8.heap.size, 2, none⟩ = some (.bool g.d.g) := by rw [Lib.cell_of_heap h9g]; rfl
    have c3 : w9.cell? ⟨w8.heap.size, 3, none⟩ = some (.slice g.d.la g.d.ln g.d.lc) := by rw [Lib.cell_of_heap h9g]; rfl
    have c4 : w9.cell? ⟨w8.heap.size, 4, none⟩ = some (.bool g.d.bb) := by rw [Lib.cell_of_heap h9g]; rfl
    have c5 : w9.cell? ⟨w8.heap.size, 5, none⟩ = some (.string g.d.s) := by rw [Lib.cell_of_heap h9g]; rfl
    have c6 : w9.cell? ⟨w8.heap.size, 6, none⟩ = some (.slice g.d.ia g.d.items.length g.d.ic) := by rw [Lib.cell_of_heap h9g]; rfl
    have c7 : w9.cell? ⟨w8.heap.size, 7, none⟩ = some (.slice g.d.ta g.d.tail.length g.d.tc) := by rw [Lib.cell_of_heap h9g]; rfl
    have c8 : w9.cell? ⟨w8.heap.size, 8, none⟩ = some (.int .i64 g.v) := by rw [Lib.cell_of_heap h9g]; rfl
    have c9 : w9.cell? ⟨w8.heap.size, 9, none⟩ = some (.slice g.va g.vs.length g.vc) := by rw [Lib.cell_of_heap h9g]; rfl
    have c10 : w9.cell? ⟨w8.heap.size, 10, none⟩ = some (.bool g.rs) := by rw [Lib.cell_of_heap h9g]; rfl
    have c11 : w9.cell? ⟨w8.heap.size, 11, none⟩ = some (.int .i64 g.p) := by rw [Lib.cell_of_heap h9g]; rfl
    have c12 : w9.cell? ⟨w8.heap.size, 12, none⟩ = some (.slice g.ka g.kids.length g.kc) := by rw [Lib.cell_of_heap h9g]; rfl
    have d0 : w9.cell? ⟨w.heap.size, 0, none⟩ = some (.int .i64 a.k) := by rw [Lib.cell_of_heap h9a]; rfl
    have d1 : w9.cell? ⟨w.heap.size, 1, none⟩ = some (.int .i64 a.d.k) := by rw [Lib.cell_of_heap h9a]; rfl
    have d2 : w9.cell? ⟨w.heap.size, 2, none⟩ = some (.bool a.d.g) := by rw [Lib.cell_of_heap h9a]; rfl
    have d3 : w9.cell? ⟨w.heap.size, 3, none⟩ = some (.slice a.d.la a.d.ln a.d.lc) := by rw [Lib.cell_of_heap h9a]; rfl
    have d4 : w9.cell? ⟨w.heap.size, 4, none⟩ = some (.bool a.d.bb) := by rw [Lib.cell_of_heap h9a]; rfl
    have d5 : w9.cell? ⟨w.heap.size, 5, none⟩ = some (.string a.d.s) := by rw [Lib.cell_of_heap h9a]; rfl
    have d6 : w9.cell? ⟨w.heap.size, 6, none⟩ = some (.slice a.d.ia a.d.items.length a.d.ic) := by rw [Lib.cell_of_heap h9a]; rfl
    have d7 : w9.cell? ⟨w.heap.size, 7, none⟩ = some (.slice a.d.ta a.d.tail.length a.d.tc) := by rw [Lib.cell_of_heap h9a]; rfl
    have d8 : w9.cell? ⟨w.heap.size, 8, none⟩ = some (.int .i64 a.v) := by rw [Lib.cell_of_heap h9a]; rfl
    have d9 : w9.cell? ⟨w.heap.size, 9, none⟩ = some (.slice a.va a.vs.length a.vc) := by rw [Lib.cell_of_heap h9a]; rfl
    have d10 : w9.cell? ⟨w.heap.size, 10, none⟩ = some (.bool a.rs) := by rw [Lib.cell_of_heap h9a]; rfl
    have d11 : w9.cell? ⟨w.heap.size, 11, none⟩ = some (.int .i64 a.p) := by rw [Lib.cell_of_heap h9a]; rfl
    have d12 : w9.cell? ⟨w.heap.size, 12, none⟩ = some (.slice a.ka a.kids.length a.kc) := by rw [Lib.cell_of_heap h9a]; rfl
    clear h9a h9g hb9 b9
    go_wp2_with fail
    refine HS2.out.mono ?_
    rintro e w10 ⟨rfl, b10⟩
    clear c0 c1 c2 c3 c4 c5 c6 c7 c8 c9 c10 c11 c12 d0 d1 d2 d3 d4 d5 d6 d7 d8 d9 d10 d11 d12
    have hb10 := Lib.hid (HB9.out.trans (b10.mono HB9.out.size))
    clear b10
    go_wp2_with fail
    refine (HH.out.2.2.2.2.2.2.2.2.2.2 w10).mono ?_
    rintro e w11 ⟨rfl, b11⟩
    have hb11 := Lib.hid (hb10.out.trans (b11.mono hb10.out.size))
    clear b11
    go_wp2_with fail
    go_ret
    exact ⟨rfl, hb11.out⟩
end Go.Proofs.YthdhdmmlmbkalaaGreatDoor
