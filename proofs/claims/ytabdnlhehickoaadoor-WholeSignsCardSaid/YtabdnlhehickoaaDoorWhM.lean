/-
  What the laws over whole numbers use: their entry, and facts on order.
-/
import Derived.Test.YtabdnlhehickoaaDoorWhL
import Derived.Test.YtabdnlhehickoaaDoorWhN
namespace Go.Proofs.YtabdnlhehickoaaDoor
open Go.RowKit
theorem Wh.of_sl {w : World} {A : Option Addr} {n c : Nat} {xs : List Nat} {K : Nat} (s : Bool) (h : Sl w A n c xs) (hn : n ≤ K) : Wh w (.agg #[.bool s, .slice A n c]) (zOf s (val xs)) K := ⟨s, _, _, rfl, Num.of_sl h hn, rfl⟩
theorem ents1 (w : World) (s x : Value) : Var (w.alloc (.cells #[s, x] 36)) w.heap.size s x ∧ Below w.heap.size w (w.alloc (.cells #[s, x] 36)) := ⟨Var.mk_ _ _ _, bnew (Below.refl _ _) _⟩
theorem ents2 (w : World) (s x t y : Value) : Var ((w.alloc (.cells #[s, x] 36)).alloc (.cells #[t, y] 36)) w.heap.size s x ∧ Var ((w.alloc (.cells #[s, x] 36)).alloc (.cells #[t, y] 36)) (w.heap.size + 1) t y ∧ Below w.heap.size w ((w.alloc (.cells #[s, x] 36)).alloc (.cells #[t, y] 36)) := by
  obtain ⟨W, rfl, h1, h2, h3⟩ := enter2 w s x t y
  exact ⟨h1, h2, h3⟩
theorem mk2 (w : World) (s x t y : Value) : Var ((w.alloc (.cells #[s, x] 36)).alloc (.cells #[t, y] 36)) w.heap.size s x ∧ Var ((w.alloc (.cells #[s, x] 36)).alloc (.cells #[t, y] 36)) (w.heap.size + 1) t y := ⟨(ents2 w s x t y).1, (ents2 w s x t y).2.1⟩
theorem ents3 (w : World) (s x t y p q : Value) : Var (((w.alloc (.cells #[s, x] 36)).alloc (.cells #[t, y] 36)).alloc (.cells #[p, q] 36)) w.heap.size s x ∧ Var (((w.alloc (.cells #[s, x] 36)).alloc (.cells #[t, y] 36)).alloc (.cells #[p, q] 36)) (w.heap.size + 1) t y ∧
    Var (((w.alloc (.cells #[s, x] 36)).alloc (.cells #[t, y] 36)).alloc (.cells #[p, q] 36)) (w.heap.size + 1 + 1) p q ∧ Below w.heap.size w (((w.alloc (.cells #[s, x] 36)).alloc (.cells #[t, y] 36)).alloc (.cells #[p, q] 36)) := by
  obtain ⟨W, hW, h1, h2, h3⟩ := enter2 w s x t y
  have hsz : W.heap.size = w.heap.size + 1 + 1 := by rw [hW]; simp
  have h5 := Var.mk_ W p q
  rw [hsz] at h5
  rw [← hW]
  exact ⟨h1.alloc _, h2.alloc _, h5, bnew h3 _⟩
theorem cell_new (W : World) (c : Array Value) (t : TypeId) (i : Nat) : (W.alloc (.cells c t)).cell? ⟨W.heap.size, i, none⟩ = c[i]? := by
  have h := heap_alloc_new W (.cells c t)
  unfold World.cell?
  dsimp only
  rw [h]
  rfl
theorem cmpZ_bd (a b : Int) : -1 ≤ cmpZ a b ∧ cmpZ a b ≤ 1 := by unfold cmpZ; split <;> (try split) <;> omega
theorem cmpZ_swap (a b : Int) : cmpZ b a = -cmpZ a b := by unfold cmpZ; split <;> split <;> (try split) <;> (try split) <;> omega
theorem cmpZ_sub (a b : Int) : cmpZ (a - b) 0 = cmpZ a b := by unfold cmpZ; split <;> split <;> (try split) <;> (try split) <;> omega
theorem cmpZ_add (a b c : Int) : cmpZ (a + c) (b + c) = cmpZ a b := by unfold cmpZ; split <;> split <;> (try split) <;> (try split) <;> omega
theorem cmpZ_neg (a b : Int) : cmpZ (-b) (-a) = cmpZ a b := by unfold cmpZ; split <;> split <;> (try split) <;> (try split) <;> omega
theorem cmpZ_zero (a b : Int) : cmpZ a b = 0 ↔ a = b := by unfold cmpZ; split <;> (try split) <;> omega
theorem cmpZ_le (a b : Int) : cmpZ a b ≤ 0 ↔ a ≤ b := by unfold cmpZ; split <;> (try split) <;> omega
theorem cmpZ_lt (a b : Int) : cmpZ a b < 0 ↔ a < b := by unfold cmpZ; split <;> (try split) <;> omega
theorem cmpZ_gt (a b : Int) : 0 < cmpZ a b ↔ b < a := by unfold cmpZ; split <;> (try split) <;> omega

end Go.Proofs.YtabdnlhehickoaaDoor
