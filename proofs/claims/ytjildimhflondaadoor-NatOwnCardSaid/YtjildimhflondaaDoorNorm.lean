/-
  nat.Norm: what it answers.
-/
import Derived.Test.YtjildimhflondaaDoorSums
namespace Go.Proofs.YtjildimhflondaaDoor
open Go.RowKit

set_option maxHeartbeats 400000 in
theorem norm_exact (A1 : Option Addr) (n1 c1 : Nat) (xs : List Nat) (w : World) (h1 : Sl w A1 n1 c1 xs) (b1 : n1 ≤ 1000000000) (n : Nat) (HN : Hid (n = (limbs (val xs)).length)) :
    Calls Tryd.prog 10 #[.slice A1 n1 c1] w fun e w' => e = .returned (.slice (some ⟨w.heap.size, 0, none⟩) n n) ∧ Blk w' w.heap.size (limbs (val xs)) ∧ Below w.heap.size w w' := by
  have ht := h1.trim
  have hl := limbs_len_val h1.ok
  have hlen := h1.len
  rw [← HN.out] at ht hl
  have hmk := fun W => make32 (n : Int) n rfl (by omega) W
  have HLen := Lib.hid hlen
  clear hlen
  go_enter Tryd.func10, Tryd.ntmps10
  have HB := Lib.hid (Blk.made w n)
  have hs := ht.alloc (.cells (madeCells #[Value.int .u32 0] n) 32)
  go_wp2_with (first | (go_at_call 51; refine (trim_at _ _ _ _ _ h1 n HN).mono ?_; rintro e w' ⟨rfl, rfl⟩) | (with_reducible refine wpList_copy_limbs rfl (.tmp 9) (.tmp 10) rfl Tryd.underlying22 (by kernel_rfl) _ _ _ _ _ _ rfl rfl w.heap.size 0 (List.replicate n 0) _ HB.out hs (fun _ => rfl) (Nat.le_refl _) (by simp) ?_; intro w2 hg2 ho2))
  go_ret
  rw [splice_all _ _ (by simp [← HN.out])] at hg2
  exact ⟨rfl, hg2, ((Below.refl _ _).alloc (Nat.le_refl _) _).trans (ho2.below (Nat.le_refl _))⟩
theorem norm_any (A1 : Option Addr) (n1 c1 : Nat) (xs : List Nat) (w : World) (h1 : Sl w A1 n1 c1 xs) (b1 : n1 ≤ 1000000000) :
    Calls Tryd.prog 10 #[.slice A1 n1 c1] w (Gives w (val xs)) := by
  refine (norm_exact A1 n1 c1 xs w h1 b1 _ rfl).mono fun e w' ⟨he, hb, hbel⟩ => ⟨_, he, ?_, hbel⟩
  have := hb.newAll (base := w.heap.size) (limbs_ok _) (limbs_trim _) (by have := limbs_len_val h1.ok; have := h1.len; unfold maxLen; omega) (Nat.le_refl _)
  rwa [limbs_val] at this
end Go.Proofs.YtjildimhflondaaDoor
