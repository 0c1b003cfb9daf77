/-
  datum.normal of a symbol or a string, datum.normalList of a list of such.
-/
import Derived.Test.YtlohdglhebplfaaGreatDoorNrm
import Derived.OwnWalk
namespace Go.Proofs.YtlohdglhebplfaaGreatDoor
open Go.RowKit

/-- A symbol or a string, as a value and as cells. -/
def leafC (k : Int) (s : ByteArray) : List Value := [.int .i64 k, .bool false, .slice none 0 0, .bool false, .string s, .slice none 0 0, .slice none 0 0]
theorem results_d {fn : Func} {tmps : Array Value} {t : Tmp} {w : World} {b : Nat} {v0 v1 v2 v3 v4 v5 v6 : Value} (h : fn.results = #[.cell t 31]) (ht : tmps.getD t undef = .pointer (some ⟨b, 0, none⟩)) (c0 : w.cell? ⟨b, 0, none⟩ = some v0) (c1 : w.cell? ⟨b, 1, none⟩ = some v1)
    (c2 : w.cell? ⟨b, 2, none⟩ = some v2) (c3 : w.cell? ⟨b, 3, none⟩ = some v3) (c4 : w.cell? ⟨b, 4, none⟩ = some v4) (c5 : w.cell? ⟨b, 5, none⟩ = some v5) (c6 : w.cell? ⟨b, 6, none⟩ = some v6) :
    (results fn tmps).run Tryz.prog w = .ok (.agg #[v0, v1, v2, v3, v4, v5, v6]) w := by
  rw [Array.getD_eq_getD_getElem?] at ht
  simp [results, h, ht, go_sem, c0, c1, c2, c3, c4, c5, c6]

set_option maxRecDepth 100000 in
set_option maxHeartbeats 3200000 in
theorem normal_leaf (k : Int) (hk : k = 3 ∨ k = 4) (s : ByteArray) (w : World) :
    Calls Tryz.prog 134 #[.agg (leafC k s).toArray] w fun e w' => e = .returned (.agg (leafC k s).toArray) ∧ Below w.heap.size w w' := by
  unfold leafC
  rcases hk with rfl | rfl
  all_goals
    go_enter Tryz.func134, Tryz.ntmps134
    go_wp2_with fail
    (try simp only [Exit.inBlock, Exit.then])
    refine bodyPost_ret (results_d rfl rfl (by go_simp) (by go_simp) (by go_simp) (by go_simp) (by go_simp) (by go_simp) (by go_simp)) rfl ⟨rfl, ?_⟩
    repeat (first | exact Below.refl _ _ | refine Below.setCell (hp := by first | (simp; done) | (simp; omega)) ?_ _ | refine Below.alloc ?_ (by first | (simp; done) | (simp; omega)) _)
end Go.Proofs.YtlohdglhebplfaaGreatDoor
