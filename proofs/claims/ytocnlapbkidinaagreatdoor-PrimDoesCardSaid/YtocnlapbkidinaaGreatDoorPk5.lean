/-
  The primitives' names, and the tables in which they lie. prim.Name. pavaneref07.Prim of each name. pavaneref09.Name.
-/
import Derived.Test.YtocnlapbkidinaaGreatDoorPk1
import Derived.LoopTactic
set_option linter.unusedVariables false
set_option linter.unusedSimpArgs false
set_option linter.unusedSectionVars false
set_option linter.unnecessarySimpa false
namespace Go.Proofs.YtocnlapbkidinaaGreatDoor
section
open Go.RowKit
set_option maxRecDepth 100000

def nmL : List ByteArray := [⟨#[43]⟩, ⟨#[45]⟩, ⟨#[42]⟩, ⟨#[113, 117, 111, 116, 105, 101, 110, 116]⟩, ⟨#[114, 101, 109, 97, 105, 110, 100, 101, 114]⟩, ⟨#[109, 111, 100, 117, 108, 111]⟩, ⟨#[61]⟩, ⟨#[60]⟩, ⟨#[99, 111, 110, 115]⟩, ⟨#[99, 97, 114]⟩, ⟨#[99, 100, 114]⟩, ⟨#[115, 101, 116, 45, 99, 97, 114, 33]⟩, ⟨#[115, 101, 116, 45, 99, 100, 114, 33]⟩, ⟨#[110, 117, 108, 108, 63]⟩, ⟨#[112, 97, 105, 114, 63]⟩, ⟨#[105, 110, 116, 101, 103, 101, 114, 63]⟩, ⟨#[115, 121, 109, 98, 111, 108, 63]⟩, ⟨#[115, 116, 114, 105, 110, 103, 63]⟩, ⟨#[98, 111, 111, 108, 101, 97, 110, 63]⟩, ⟨#[112, 114, 111, 99, 101, 100, 117, 114, 101, 63]⟩, ⟨#[101, 113, 63]⟩, ⟨#[110, 111, 116]⟩, ⟨#[115, 116, 114, 105, 110, 103, 45, 108, 101, 110, 103, 116, 104]⟩, ⟨#[115, 116, 114, 105, 110, 103, 45, 97, 112, 112, 101, 110, 100]⟩, ⟨#[115, 116, 114, 105, 110, 103, 61, 63]⟩, ⟨#[115, 121, 109, 98, 111, 108, 45, 62, 115, 116, 114, 105, 110, 103]⟩, ⟨#[110, 117, 109, 98, 101, 114, 45, 62, 115, 116, 114, 105, 110, 103]⟩, ⟨#[119, 114, 105, 116, 101]⟩, ⟨#[100, 105, 115, 112, 108, 97, 121]⟩, ⟨#[110, 101, 119, 108, 105, 110, 101]⟩, ⟨#[114, 101, 97, 100, 45, 98, 121, 116, 101]⟩, ⟨#[114, 97, 105, 115, 101]⟩, ⟨#[99, 97, 108, 108, 47, 99, 99]⟩, ⟨#[97, 112, 112, 108, 121]⟩, ⟨#[98, 111, 120]⟩, ⟨#[117, 110, 98, 111, 120]⟩, ⟨#[115, 101, 116, 45, 98, 111, 120, 33]⟩, ⟨#[118, 111, 105, 100]⟩]
/-- The k-th name, from 0 on. -/
def nm (k : Nat) : ByteArray := nmL.getD k ⟨#[]⟩
theorem nm_at (k : Nat) (hk : k < 38) : (#[.string ⟨#[43]⟩, .string ⟨#[45]⟩, .string ⟨#[42]⟩, .string ⟨#[113, 117, 111, 116, 105, 101, 110, 116]⟩, .string ⟨#[114, 101, 109, 97, 105, 110, 100, 101, 114]⟩, .string ⟨#[109, 111, 100, 117, 108, 111]⟩, .string ⟨#[61]⟩, .string ⟨#[60]⟩, .string ⟨#[99, 111, 110, 115]⟩, .string ⟨#[99, 97, 114]⟩, .string ⟨#[99, 100, 114]⟩, .string ⟨#[115, 101, 116, 45, 99, 97, 114, 33]⟩, .string ⟨#[115, 101, 116, 45, 99, 100, 114, 33]⟩, .string ⟨#[110, 117, 108, 108, 63]⟩, .string ⟨#[112, 97, 105, 114, 63]⟩, .string ⟨#[105, 110, 116, 101, 103, 101, 114, 63]⟩, .string ⟨#[115, 121, 109, 98, 111, 108, 63]⟩, .string ⟨#[115, 116, 114, 105, 110, 103, 63]⟩, .string ⟨#[98, 111, 111, 108, 101, 97, 110, 63]⟩, .string ⟨#[112, 114, 111, 99, 101, 100, 117, 114, 101, 63]⟩, .string ⟨#[101, 113, 63]⟩, .string ⟨#[110, 111, 116]⟩, .string ⟨#[115, 116, 114, 105, 110, 103, 45, 108, 101, 110, 103, 116, 104]⟩, .string ⟨#[115, 116, 114, 105, 110, 103, 45, 97, 112, 112, 101, 110, 100]⟩, .string ⟨#[115, 116, 114, 105, 110, 103, 61, 63]⟩, .string ⟨#[115, 121, 109, 98, 111, 108, 45, 62, 115, 116, 114, 105, 110, 103]⟩, .string ⟨#[110, 117, 109, 98, 101, 114, 45, 62, 115, 116, 114, 105, 110, 103]⟩, .string ⟨#[119, 114, 105, 116, 101]⟩, .string ⟨#[100, 105, 115, 112, 108, 97, 121]⟩, .string ⟨#[110, 101, 119, 108, 105, 110, 101]⟩, .string ⟨#[114, 101, 97, 100, 45, 98, 121, 116, 101]⟩, .string ⟨#[114, 97, 105, 115, 101]⟩, .string ⟨#[99, 97, 108, 108, 47, 99, 99]⟩, .string ⟨#[97, 112, 112, 108, 121]⟩, .string ⟨#[98, 111, 120]⟩, .string ⟨#[117, 110, 98, 111, 120]⟩, .string ⟨#[115, 101, 116, 45, 98, 111, 120, 33]⟩, .string ⟨#[118, 111, 105, 100]⟩] : Array Value)[k]? = some (.string (nm k)) := by
  match k, hk with
  | 0, _ | 1, _ | 2, _ | 3, _ | 4, _ | 5, _ | 6, _ | 7, _ | 8, _ | 9, _ | 10, _ | 11, _ | 12, _ | 13, _ | 14, _ | 15, _ | 16, _ | 17, _ | 18, _ | 19, _ | 20, _ | 21, _ | 22, _ | 23, _ | 24, _ | 25, _ | 26, _ | 27, _ | 28, _ | 29, _ | 30, _ | 31, _ | 32, _ | 33, _ | 34, _ | 35, _ | 36, _ | 37, _ => rfl
  | j + 38, hj => omega
theorem run_nm (A : Array Value) (k : Nat) (s : ByteArray) (w : World) (hk : k < 38) (h : A[k]? = some (.string s)) : (Instr.index 54 (.agg A) (.int .i64 (k : Int))).run Tryz.prog w = .ok (.string s) w := by
  simp [Instr.index, asIntOf, part, Sem.run_bind, run_underlying Tryz.underlying54, go_sem, h, hk]
theorem nm_ne : ∀ i k : Fin 38, i ≠ k → (nm i.1).data.toList ≠ (nm k.1).data.toList := by decide +kernel
theorem nm_eq (i k : Nat) (hi : i < 38) (hk : k < 38) : ((nm i).toList == (nm k).toList) = decide (i = k) := by
  by_cases h : i = k
  · subst h; simp
  · rw [decide_eq_false h]
    have := nm_ne ⟨i, hi⟩ ⟨k, hk⟩ (fun e => h (congrArg Fin.val e))
    simpa [ByteArray.toList_eq] using this
def arL : List Int := [0, 2, 2, 2, 2, 2, 2, 2, 2, 2, 1, 1, 2, 2, 1, 1, 1, 1, 1, 1, 1, 2, 1, 1, 2, 2, 1, 1, 1, 1, 0, 0, 1, 1, 2, 1, 1, 2, 0]
theorem ar_at (k : Nat) (hk : k < 39) : (#[.int .i64 0, .int .i64 2, .int .i64 2, .int .i64 2, .int .i64 2, .int .i64 2, .int .i64 2, .int .i64 2, .int .i64 2, .int .i64 2, .int .i64 1, .int .i64 1, .int .i64 2, .int .i64 2, .int .i64 1, .int .i64 1, .int .i64 1, .int .i64 1, .int .i64 1, .int .i64 1, .int .i64 1, .int .i64 2, .int .i64 1, .int .i64 1, .int .i64 2, .int .i64 2, .int .i64 1, .int .i64 1, .int .i64 1, .int .i64 1, .int .i64 0, .int .i64 0, .int .i64 1, .int .i64 1, .int .i64 2, .int .i64 1, .int .i64 1, .int .i64 2, .int .i64 0] : Array Value)[k]? = some (.int .i64 (arL.getD k 0)) := by
  match k, hk with
  | 0, _ | 1, _ | 2, _ | 3, _ | 4, _ | 5, _ | 6, _ | 7, _ | 8, _ | 9, _ | 10, _ | 11, _ | 12, _ | 13, _ | 14, _ | 15, _ | 16, _ | 17, _ | 18, _ | 19, _ | 20, _ | 21, _ | 22, _ | 23, _ | 24, _ | 25, _ | 26, _ | 27, _ | 28, _ | 29, _ | 30, _ | 31, _ | 32, _ | 33, _ | 34, _ | 35, _ | 36, _ | 37, _ | 38, _ => rfl
  | j + 39, hj => omega
set_option maxHeartbeats 6400000 in
theorem rarity_gen (k : Nat) (h1 : 1 ≤ k) (hk : k < 39) (w : World) : Calls Tryz.prog 26 #[.int .i64 (k : Int)] w fun e w' => e = .returned (.int .i64 (arL.getD k 0)) ∧ Below w.heap.size w w' := by
  have hix := run_ar #[.int .i64 0, .int .i64 2, .int .i64 2, .int .i64 2, .int .i64 2, .int .i64 2, .int .i64 2, .int .i64 2, .int .i64 2, .int .i64 2, .int .i64 1, .int .i64 1, .int .i64 2, .int .i64 2, .int .i64 1, .int .i64 1, .int .i64 1, .int .i64 1, .int .i64 1, .int .i64 1, .int .i64 1, .int .i64 2, .int .i64 1, .int .i64 1, .int .i64 2, .int .i64 2, .int .i64 1, .int .i64 1, .int .i64 1, .int .i64 1, .int .i64 0, .int .i64 0, .int .i64 1, .int .i64 1, .int .i64 2, .int .i64 1, .int .i64 1, .int .i64 2, .int .i64 0] k _ w hk (ar_at k hk)
  generalize arL.getD k 0 = x at *
  have e1 : decide ((k : Int) < 1) = false := decide_eq_false (by omega)
  have e2 : decide ((38 : Int) < (k : Int)) = false := decide_eq_false (by omega)
  have e3 : decide (38 < k) = false := decide_eq_false (by omega)
  have e4 : decide (k < 1) = false := decide_eq_false (by omega)
  go_enter Tryz.func26, Tryz.ntmps26
  go_wp2_with fail
  go_ret
  exact ⟨rfl, Below.refl _ _⟩
def MakT (w : World) : Prop := ∃ t, w.heap[0]? = some (.cells #[.int .i64 24, .int .i64 26, .int .i64 27] t (0, 0))
def NamT (w : World) : Prop := ∃ t, w.heap[1]? = some (.cells #[.string ⟨#[43]⟩, .string ⟨#[45]⟩, .string ⟨#[42]⟩, .string ⟨#[113, 117, 111, 116, 105, 101, 110, 116]⟩, .string ⟨#[114, 101, 109, 97, 105, 110, 100, 101, 114]⟩, .string ⟨#[109, 111, 100, 117, 108, 111]⟩, .string ⟨#[61]⟩, .string ⟨#[60]⟩, .string ⟨#[99, 111, 110, 115]⟩, .string ⟨#[99, 97, 114]⟩, .string ⟨#[99, 100, 114]⟩, .string ⟨#[115, 101, 116, 45, 99, 97, 114, 33]⟩, .string ⟨#[115, 101, 116, 45, 99, 100, 114, 33]⟩, .string ⟨#[110, 117, 108, 108, 63]⟩, .string ⟨#[112, 97, 105, 114, 63]⟩, .string ⟨#[105, 110, 116, 101, 103, 101, 114, 63]⟩, .string ⟨#[115, 121, 109, 98, 111, 108, 63]⟩, .string ⟨#[115, 116, 114, 105, 110, 103, 63]⟩, .string ⟨#[98, 111, 111, 108, 101, 97, 110, 63]⟩, .string ⟨#[112, 114, 111, 99, 101, 100, 117, 114, 101, 63]⟩, .string ⟨#[101, 113, 63]⟩, .string ⟨#[110, 111, 116]⟩, .string ⟨#[115, 116, 114, 105, 110, 103, 45, 108, 101, 110, 103, 116, 104]⟩, .string ⟨#[115, 116, 114, 105, 110, 103, 45, 97, 112, 112, 101, 110, 100]⟩, .string ⟨#[115, 116, 114, 105, 110, 103, 61, 63]⟩, .string ⟨#[115, 121, 109, 98, 111, 108, 45, 62, 115, 116, 114, 105, 110, 103]⟩, .string ⟨#[110, 117, 109, 98, 101, 114, 45, 62, 115, 116, 114, 105, 110, 103]⟩, .string ⟨#[119, 114, 105, 116, 101]⟩, .string ⟨#[100, 105, 115, 112, 108, 97, 121]⟩, .string ⟨#[110, 101, 119, 108, 105, 110, 101]⟩, .string ⟨#[114, 101, 97, 100, 45, 98, 121, 116, 101]⟩, .string ⟨#[114, 97, 105, 115, 101]⟩, .string ⟨#[99, 97, 108, 108, 47, 99, 99]⟩, .string ⟨#[97, 112, 112, 108, 121]⟩, .string ⟨#[98, 111, 120]⟩, .string ⟨#[117, 110, 98, 111, 120]⟩, .string ⟨#[115, 101, 116, 45, 98, 111, 120, 33]⟩, .string ⟨#[118, 111, 105, 100]⟩] t (0, 0))
theorem MakT.below {w w' : World} (h : MakT w) (hb : Below w.heap.size w w') : MakT w' := by
  obtain ⟨t, h⟩ := h
  exact ⟨t, (hb.block _ (Array.getElem?_eq_some_iff.1 h).1).trans h⟩
theorem NamT.below {w w' : World} (h : NamT w) (hb : Below w.heap.size w w') : NamT w' := by
  obtain ⟨t, h⟩ := h
  exact ⟨t, (hb.block _ (Array.getElem?_eq_some_iff.1 h).1).trans h⟩
/-- A primitive's name. -/
def nameB (p : Int) : ByteArray := if 1 ≤ p ∧ p ≤ 38 then nm (p.toNat - 1) else ⟨#[]⟩
/-- Does a primitive neither do something nor make something new? -/
def pureB (p : Int) : Bool := (plainB p && decide (p ≠ 24) && decide (p ≠ 26) && decide (p ≠ 27)) || decide (p = 20) || decide (p = 38)
end
end Go.Proofs.YtocnlapbkidinaaGreatDoor
namespace Go.Proofs.YtocnlapbkidinaaGreatDoor
section
open Go.RowKit
set_option maxRecDepth 100000

set_option maxHeartbeats 12800000 in
theorem name_is (p : Int) (w : World) (ht : NamT w) : Calls Tryz.prog 15 #[.int .i64 p] w fun e w' => e = .returned (.string (nameB p)) ∧ Below w.heap.size w w' := by
  by_cases hp : 1 ≤ p ∧ p ≤ 38
  · obtain ⟨k, rfl⟩ : ∃ k : Nat, p = (k : Int) + 1 := ⟨p.toNat - 1, by omega⟩
    have hk : k < 38 := by omega
    rw [show nameB ((k : Int) + 1) = nm k by unfold nameB; rw [if_pos hp]; congr 1]
    obtain ⟨t, ht⟩ := ht
    have hc : w.cell? ⟨1, k, none⟩ = some (.string (nm k)) := by
      rw [Lib.cell_of_heap ht k]
      exact nm_at k hk
    generalize nm k = s at *
    have e1 : decide ((k : Int) + 1 < 1) = false := decide_eq_false (by omega)
    have e2 : decide ((38 : Int) < (k : Int) + 1) = false := decide_eq_false (by omega)
    clear ht
    go_enter Tryz.func15, Tryz.ntmps15
    go_wp2_with fail
    go_ret
    exact ⟨rfl, Below.refl _ _⟩
  · rw [show nameB p = ⟨#[]⟩ by unfold nameB; rw [if_neg hp]]
    by_cases h1 : 1 ≤ p
    · have e1 : decide (p < 1) = false := decide_eq_false (by omega)
      have e2 : decide (38 < p) = true := decide_eq_true (by omega)
      clear hp ht h1
      go_enter Tryz.func15, Tryz.ntmps15
      go_wp2_with fail
      go_ret
      exact ⟨rfl, Below.refl _ _⟩
    · have e1 : decide (p < 1) = true := decide_eq_true (by omega)
      clear hp ht h1
      go_enter Tryz.func15, Tryz.ntmps15
      go_wp2_with fail
      go_ret
      exact ⟨rfl, Below.refl _ _⟩
end
end Go.Proofs.YtocnlapbkidinaaGreatDoor
namespace Go.Proofs.YtocnlapbkidinaaGreatDoor
section
open Go.RowKit
set_option maxRecDepth 100000

set_option maxHeartbeats 12800000 in
theorem results_tr {fn : Func} {t u v : Tmp} (h : fn.results = #[.tmp t, .tmp u, .tmp v]) (tmps : Array Value) (P : Program) (w : World) : (results fn tmps).run P w = .ok (.tuple #[tmps.getD t undef, tmps.getD u undef, tmps.getD v undef]) w := by
  simp [results, h]
set_option maxHeartbeats 12800000 in
theorem rprim_is (k : Nat) (hk : k < 38) (w : World) : Calls Tryz.prog 34 #[.string (nm k)] w fun e w' => e = .returned (.tuple #[.int .i64 ((k : Int) + 1), .int .i64 (arL.getD (k + 1) 0), .bool true]) ∧ Below w.heap.size w w' := by
  obtain ⟨x, hx⟩ : ∃ x, arL.getD (k + 1) 0 = x := ⟨_, rfl⟩
  have har := rarity_gen (k + 1) (by omega) (by omega)
  rw [hx] at har ⊢
  push_cast at har
  have HAR := Lib.hid har
  clear har hx
  go_enter Tryz.func34, Tryz.ntmps34
  go_wp2_with fail
  obtain ⟨A, hA⟩ : ∃ A, A = (#[.string ⟨#[43]⟩, .string ⟨#[45]⟩, .string ⟨#[42]⟩, .string ⟨#[113, 117, 111, 116, 105, 101, 110, 116]⟩, .string ⟨#[114, 101, 109, 97, 105, 110, 100, 101, 114]⟩, .string ⟨#[109, 111, 100, 117, 108, 111]⟩, .string ⟨#[61]⟩, .string ⟨#[60]⟩, .string ⟨#[99, 111, 110, 115]⟩, .string ⟨#[99, 97, 114]⟩, .string ⟨#[99, 100, 114]⟩, .string ⟨#[115, 101, 116, 45, 99, 97, 114, 33]⟩, .string ⟨#[115, 101, 116, 45, 99, 100, 114, 33]⟩, .string ⟨#[110, 117, 108, 108, 63]⟩, .string ⟨#[112, 97, 105, 114, 63]⟩, .string ⟨#[105, 110, 116, 101, 103, 101, 114, 63]⟩, .string ⟨#[115, 121, 109, 98, 111, 108, 63]⟩, .string ⟨#[115, 116, 114, 105, 110, 103, 63]⟩, .string ⟨#[98, 111, 111, 108, 101, 97, 110, 63]⟩, .string ⟨#[112, 114, 111, 99, 101, 100, 117, 114, 101, 63]⟩, .string ⟨#[101, 113, 63]⟩, .string ⟨#[110, 111, 116]⟩, .string ⟨#[115, 116, 114, 105, 110, 103, 45, 108, 101, 110, 103, 116, 104]⟩, .string ⟨#[115, 116, 114, 105, 110, 103, 45, 97, 112, 112, 101, 110, 100]⟩, .string ⟨#[115, 116, 114, 105, 110, 103, 61, 63]⟩, .string ⟨#[115, 121, 109, 98, 111, 108, 45, 62, 115, 116, 114, 105, 110, 103]⟩, .string ⟨#[110, 117, 109, 98, 101, 114, 45, 62, 115, 116, 114, 105, 110, 103]⟩, .string ⟨#[119, 114, 105, 116, 101]⟩, .string ⟨#[100, 105, 115, 112, 108, 97, 121]⟩, .string ⟨#[110, 101, 119, 108, 105, 110, 101]⟩, .string ⟨#[114, 101, 97, 100, 45, 98, 121, 116, 101]⟩, .string ⟨#[114, 97, 105, 115, 101]⟩, .string ⟨#[99, 97, 108, 108, 47, 99, 99]⟩, .string ⟨#[97, 112, 112, 108, 121]⟩, .string ⟨#[98, 111, 120]⟩, .string ⟨#[117, 110, 98, 111, 120]⟩, .string ⟨#[115, 101, 116, 45, 98, 111, 120, 33]⟩, .string ⟨#[118, 111, 105, 100]⟩] : Array Value) := ⟨_, rfl⟩
  have hat := Lib.hid (fun i (hi : i < 38) => hA ▸ nm_at i hi)
  rw [← hA]
  clear hA
  go_loopw [8] (fun i wr => ∃ j : Nat, j ≤ k ∧ i = .int .i64 j ∧ Below w.heap.size w wr) (fun i _ => 38 - (intOf i).toNat)
  case atStart => exact ⟨0, Nat.zero_le _, rfl, Below.refl _ _⟩
  case round =>
    obtain ⟨j, hj, rfl, hb⟩ := hrel
    have hj38 : j < 38 := by omega
    have hrun := run_nm A j _ wr hj38 (hat.out j hj38)
    have heq := nm_eq j k hj38 hk
    by_cases he : j = k
    · subst he
      rw [decide_eq_true rfl] at heq
      generalize nm j = s at *
      have HB := Lib.hid hb
      clear hj hb
      go_wp2_with fail
      refine (HAR.out wr).mono ?_
      rintro e w3 ⟨rfl, b3⟩
      have H3 := Lib.hid (HB.out.trans (b3.mono HB.out.size))
      clear b3
      go_wp2_with fail
      (try simp only [Exit.inBlock, Exit.then])
      refine bodyPost_ret (results_tr rfl _ _ _) rfl ?_
      exact ⟨rfl, H3.out⟩
    · rw [decide_eq_false he] at heq
      generalize nm j = s at *
      generalize nm k = u at *
      go_wp2_with fail
      go_roundw
      case rel => exact ⟨j + 1, by omega, by go_num, hb⟩
      case measure => simp [intOf]; omega
end
end Go.Proofs.YtocnlapbkidinaaGreatDoor
namespace Go.Proofs.YtocnlapbkidinaaGreatDoor
section
open Go.RowKit
set_option maxRecDepth 100000

set_option maxHeartbeats 12800000 in
theorem rname_is (p : Int) (w : World) : Calls Tryz.prog 16 #[.int .i64 p] w fun e w' => e = .returned (.string (nameB p)) ∧ Below w.heap.size w w' := by
  have HPR := Lib.hid (fun k (hk : k < 38) => rprim_is k hk)
  have HYES := Lib.hid (show ∀ j : Nat, j < 38 → (j : Int) + 1 = p → nameB p = nm j by
    rintro j hj rfl
    unfold nameB
    rw [if_pos (by omega)]
    congr 1)
  have HNO := Lib.hid (show (∀ q : Nat, q < 38 → (q : Int) + 1 ≠ p) → nameB p = ⟨#[]⟩ by
    intro h
    unfold nameB
    rw [if_neg]
    intro h2
    exact h (p.toNat - 1) (by omega) (by omega))
  go_enter Tryz.func16, Tryz.ntmps16
  go_wp2_with fail
  obtain ⟨A, hA⟩ : ∃ A, A = (#[.string ⟨#[43]⟩, .string ⟨#[45]⟩, .string ⟨#[42]⟩, .string ⟨#[113, 117, 111, 116, 105, 101, 110, 116]⟩, .string ⟨#[114, 101, 109, 97, 105, 110, 100, 101, 114]⟩, .string ⟨#[109, 111, 100, 117, 108, 111]⟩, .string ⟨#[61]⟩, .string ⟨#[60]⟩, .string ⟨#[99, 111, 110, 115]⟩, .string ⟨#[99, 97, 114]⟩, .string ⟨#[99, 100, 114]⟩, .string ⟨#[115, 101, 116, 45, 99, 97, 114, 33]⟩, .string ⟨#[115, 101, 116, 45, 99, 100, 114, 33]⟩, .string ⟨#[110, 117, 108, 108, 63]⟩, .string ⟨#[112, 97, 105, 114, 63]⟩, .string ⟨#[105, 110, 116, 101, 103, 101, 114, 63]⟩, .string ⟨#[115, 121, 109, 98, 111, 108, 63]⟩, .string ⟨#[115, 116, 114, 105, 110, 103, 63]⟩, .string ⟨#[98, 111, 111, 108, 101, 97, 110, 63]⟩, .string ⟨#[112, 114, 111, 99, 101, 100, 117, 114, 101, 63]⟩, .string ⟨#[101, 113, 63]⟩, .string ⟨#[110, 111, 116]⟩, .string ⟨#[115, 116, 114, 105, 110, 103, 45, 108, 101, 110, 103, 116, 104]⟩, .string ⟨#[115, 116, 114, 105, 110, 103, 45, 97, 112, 112, 101, 110, 100]⟩, .string ⟨#[115, 116, 114, 105, 110, 103, 61, 63]⟩, .string ⟨#[115, 121, 109, 98, 111, 108, 45, 62, 115, 116, 114, 105, 110, 103]⟩, .string ⟨#[110, 117, 109, 98, 101, 114, 45, 62, 115, 116, 114, 105, 110, 103]⟩, .string ⟨#[119, 114, 105, 116, 101]⟩, .string ⟨#[100, 105, 115, 112, 108, 97, 121]⟩, .string ⟨#[110, 101, 119, 108, 105, 110, 101]⟩, .string ⟨#[114, 101, 97, 100, 45, 98, 121, 116, 101]⟩, .string ⟨#[114, 97, 105, 115, 101]⟩, .string ⟨#[99, 97, 108, 108, 47, 99, 99]⟩, .string ⟨#[97, 112, 112, 108, 121]⟩, .string ⟨#[98, 111, 120]⟩, .string ⟨#[117, 110, 98, 111, 120]⟩, .string ⟨#[115, 101, 116, 45, 98, 111, 120, 33]⟩, .string ⟨#[118, 111, 105, 100]⟩] : Array Value) := ⟨_, rfl⟩
  have hat := Lib.hid (fun i (hi : i < 38) => hA ▸ nm_at i hi)
  rw [← hA]
  clear hA
  go_loopw [9] (fun i wr => ∃ j : Nat, j ≤ 38 ∧ i = .int .i64 j ∧ Below w.heap.size w wr ∧ Hid (∀ q : Nat, q < j → (q : Int) + 1 ≠ p)) (fun i _ => 38 - (intOf i).toNat)
  case atStart => exact ⟨0, Nat.zero_le _, rfl, Below.refl _ _, Lib.hid fun q hq => by omega⟩
  case round =>
    obtain ⟨j, hj, rfl, hb, hq⟩ := hrel
    by_cases hlt : j < 38
    · have hrun := run_nm A j _ wr hlt (hat.out j hlt)
      have HC := Lib.hid (HPR.out j hlt wr)
      have HY := Lib.hid (HYES.out j hlt)
      have HB := Lib.hid hb
      generalize arL.getD (j + 1) 0 = y at *
      generalize nm j = s at *
      clear hb hat
      go_wp2_with fail
      refine HC.out.mono ?_
      rintro e w3 ⟨rfl, b3⟩
      have H3 := Lib.hid (HB.out.trans (b3.mono HB.out.size))
      clear b3
      by_cases he : (j : Int) + 1 = p
      · have ee : ((j : Int) + 1 == p) = true := beq_iff_eq.2 he
        have HV := Lib.hid (HY.out he)
        clear he
        go_wp2_with fail
        go_ret
        exact ⟨by rw [HV.out]; rfl, H3.out⟩
      · have ee : ((j : Int) + 1 == p) = false := beq_eq_false_iff_ne.2 he
        have HQ : Hid (∀ q : Nat, q < j + 1 → (q : Int) + 1 ≠ p) := Lib.hid fun q h1 => by
          rcases Nat.lt_or_ge q j with h4 | h4
          · exact hq.out q h4
          · obtain rfl : q = j := by omega
            exact he
        clear he
        go_wp2_with fail
        go_roundw
        case rel => exact ⟨j + 1, by omega, by go_num, H3.out, HQ⟩
        case measure => simp [intOf]; omega
    · obtain rfl : j = 38 := by omega
      have HV := Lib.hid (HNO.out hq.out)
      clear hat
      go_wp2_with fail
      go_ret
      exact ⟨by rw [HV.out]; rfl, hb⟩
end
end Go.Proofs.YtocnlapbkidinaaGreatDoor
