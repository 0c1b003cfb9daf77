/-
  write.pen: a number, and what is of no kind, is written.
-/
import Derived.Test.YtgfamihldecmbaaDoorWd
namespace Go.Proofs.YtgfamihldecmbaaDoor
open Go.RowKit

set_option maxRecDepth 100000 in
set_option maxHeartbeats 6400000 in
theorem one_numT (base b f g : Nat) (t : LT) (hk : t.k = 1) (hl9 : t.ln ≤ 1000) (l : List UInt8) (w : World) (hsl : Sl w t.la t.ln t.lc t.ys) (h : Bl base b l w) (hl : l.length + (wtxt (zOf t.g (val t.ys))).length < 100000000000) (hb : base ≤ w.heap.size) :
    Calls Tryd.prog 48 #[penV b f g, .agg #[.int .i64 t.k, .bool t.g, .slice t.la t.ln t.lc, .bool t.bb, .string t.s, .slice t.ia t.items.length t.ic, .slice t.ta t.tail.length t.tc]] w fun e w' => e = .returned (.tuple #[]) ∧ Wrote base b (l ++ wtxt (zOf t.g (val t.ys))) w w' := by
  rw [hk]
  clear hk
  obtain ⟨tx, htx⟩ : ∃ tx, tx = wtxt (zOf t.g (val t.ys)) := ⟨_, rfl⟩
  rw [← htx] at hl ⊢
  unfold penV
  have hbw : Below w.heap.size w ((w.alloc (Obj.cells (penC b f g) 64)).alloc (Obj.cells #[.int .i64 1, .bool t.g, .slice t.la t.ln t.lc, .bool t.bb, .string t.s, .slice t.ia t.items.length t.ic, .slice t.ta t.tail.length t.tc] 27)) := ((Below.refl w.heap.size w).alloc (Nat.le_refl _) _).alloc (by simp) _
  have hP := (Below.heap_alloc (w.alloc (Obj.cells (penC b f g) 64)) (Obj.cells #[.int .i64 1, .bool t.g, .slice t.la t.ln t.lc, .bool t.bb, .string t.s, .slice t.ia t.items.length t.ic, .slice t.ta t.tail.length t.tc] 27) w.heap.size (by simp)).trans (World.alloc_heap_new w _)
  have hD := World.alloc_heap_new (w.alloc (Obj.cells (penC b f g) 64)) (Obj.cells #[.int .i64 1, .bool t.g, .slice t.la t.ln t.lc, .bool t.bb, .string t.s, .slice t.ia t.items.length t.ic, .slice t.ta t.tail.length t.tc] 27)
  rw [World.size_alloc] at hD
  have hz : ((w.alloc (Obj.cells (penC b f g) 64)).alloc (Obj.cells #[.int .i64 1, .bool t.g, .slice t.la t.ln t.lc, .bool t.bb, .string t.s, .slice t.ia t.items.length t.ic, .slice t.ta t.tail.length t.tc] 27)).heap.size = w.heap.size + 1 + 1 := by rw [World.size_alloc, World.size_alloc]
  unfold penC at hbw hP hD hz
  go_enter Tryd.func48, Tryd.ntmps48
  go_wp2_with fail
  generalize hW : ((w.alloc (Obj.cells #[.func (.func 46) #[.pointer (some ⟨b, 0, none⟩)] #[], .func (.func 47) #[.pointer (some ⟨b, 0, none⟩)] #[], .func (.func f) #[] #[], .func (.func g) #[] #[]] 64)).alloc (Obj.cells #[.int .i64 1, .bool t.g, .slice t.la t.ln t.lc, .bool t.bb, .string t.s, .slice t.ia t.items.length t.ic, .slice t.ta t.tail.length t.tc] 27)) = W2 at *
  have c1 : W2.cell? ⟨w.heap.size, 1, none⟩ = some (.func (.func 47) #[.pointer (some ⟨b, 0, none⟩)] #[]) := by rw [Lib.cell_of_heap hP]; rfl
  have c1d : W2.drew.cell? ⟨w.heap.size, 1, none⟩ = some (.func (.func 47) #[.pointer (some ⟨b, 0, none⟩)] #[]) := c1
  have h2 : Bl base b l W2 := h.below hbw
  have d1 : W2.cell? ⟨w.heap.size + 1, 1, none⟩ = some (.bool t.g) := by rw [Lib.cell_of_heap hD]; rfl
  have d2 : W2.cell? ⟨w.heap.size + 1, 2, none⟩ = some (.slice t.la t.ln t.lc) := by rw [Lib.cell_of_heap hD]; rfl
  have d1d : W2.drew.cell? ⟨w.heap.size + 1, 1, none⟩ = some (.bool t.g) := d1
  have d2d : W2.drew.cell? ⟨w.heap.size + 1, 2, none⟩ = some (.slice t.la t.ln t.lc) := d2
  have HT := Lib.hid (wtext_num (w := W2.drew) (u := .agg #[.bool t.g, .slice t.la t.ln t.lc]) (a := zOf t.g (val t.ys)) (K := 1000) ⟨t.g, _, val t.ys, rfl, ⟨t.la, t.ln, t.lc, t.ys, rfl, (hsl.below hbw).keepM (Nat.le_refl _) (M := W2.heap.size) (fun hp => by obtain ⟨q, o, e, hq, _⟩ := (hsl.below hbw).here hp; rw [e]; exact hq) (fun _ _ => rfl), rfl, hl9⟩, rfl⟩ (by decide))
  have HH := Lib.hid (And.intro h2 hbw)
  have hmix : Tryd.prog.follows .mixedOrders = true := by kernel_rfl
  clear hsl h h2 hP hD hbw hW
  rw [← htx] at HT
  clear htx
  go_region_law
    (first
      | (refine step_call 63 #[.agg #[.bool t.g, .slice t.la t.ln t.lc]] (by rfl) (by simp [execOp, Act.eval, go_sem]) (HT.out.mono ?_); rintro e w3 ⟨s', rfl, hs', b3⟩; have hsz' : s'.size = tx.length := (by rw [← hs']; exact (Array.length_toList (xs := s'.data)).symm); have HS := Lib.hid hs'; clear hs'; refine ⟨_, rfl, ?_⟩; have c3 : Below W2.heap.size W2 w3 := (⟨b3.os, b3.tape, b3.output, b3.size, b3.block⟩); clear b3; have e1 := (c3.cell (p := ⟨w.heap.size, 1, none⟩) (by show w.heap.size < W2.heap.size; omega)).trans c1)
      | (refine step_call 47 #[.pointer (some ⟨b, 0, none⟩), .string s'] (by rfl) (by simp [execOp, Act.eval, go_sem]) ((putText base b l s' w3 (HH.out.1.below c3) (by omega) (by have := c3.size; omega)).mono ?_); rintro e w4 ⟨rfl, h4⟩; refine ⟨_, rfl, ?_⟩)
      | fail)
  all_goals
    go_wp2_with fail
    go_end0
    rw [← HS.out]
    exact ⟨rfl, h4.1, (HH.out.2.mono hb).trans ((c3.mono (by omega)).trans h4.2.1), ((kept_below HH.out.2).trans (kept_below c3)).trans h4.2.2⟩

set_option maxRecDepth 100000 in
set_option maxHeartbeats 6400000 in
theorem one_otherT (base b f g : Nat) (t : LT) (h1 : t.k ≠ 1) (h2 : t.k ≠ 2) (h3 : t.k ≠ 3) (h4 : t.k ≠ 4) (h5 : t.k ≠ 5) (l : List UInt8) (w : World) (h : Bl base b l w) (hl : l.length < 100000000) (hb : base ≤ w.heap.size) :
    Calls Tryd.prog 48 #[penV b f g, .agg #[.int .i64 t.k, .bool t.g, .slice t.la t.ln t.lc, .bool t.bb, .string t.s, .slice t.ia t.items.length t.ic, .slice t.ta t.tail.length t.tc]] w fun e w' => e = .returned (.tuple #[]) ∧ Wrote base b (l ++ [35, 118]) w w' := by
  generalize t.k = k at *
  have q1 : (k == 1) = false := beq_eq_false_iff_ne.2 h1
  have q2 : (k == 2) = false := beq_eq_false_iff_ne.2 h2
  have q3 : (k == 3) = false := beq_eq_false_iff_ne.2 h3
  have q4 : (k == 4) = false := beq_eq_false_iff_ne.2 h4
  have q5 : (k == 5) = false := beq_eq_false_iff_ne.2 h5
  unfold penV
  have hbw : Below w.heap.size w ((w.alloc (Obj.cells (penC b f g) 64)).alloc (Obj.cells #[.int .i64 k, .bool t.g, .slice t.la t.ln t.lc, .bool t.bb, .string t.s, .slice t.ia t.items.length t.ic, .slice t.ta t.tail.length t.tc] 27)) := ((Below.refl w.heap.size w).alloc (Nat.le_refl _) _).alloc (by simp) _
  have hz : ((w.alloc (Obj.cells (penC b f g) 64)).alloc (Obj.cells #[.int .i64 k, .bool t.g, .slice t.la t.ln t.lc, .bool t.bb, .string t.s, .slice t.ia t.items.length t.ic, .slice t.ta t.tail.length t.tc] 27)).heap.size = w.heap.size + 1 + 1 := by rw [World.size_alloc, World.size_alloc]
  have hbl : Bl base b l ((w.alloc (Obj.cells (penC b f g) 64)).alloc (Obj.cells #[.int .i64 k, .bool t.g, .slice t.la t.ln t.lc, .bool t.bb, .string t.s, .slice t.ia t.items.length t.ic, .slice t.ta t.tail.length t.tc] 27)) := h.below hbw
  have HH := Lib.hid (And.intro hbl hbw)
  clear h hbl hbw
  unfold penC at HH hz
  go_enter Tryd.func48, Tryd.ntmps48
  go_wp2_with fail
  refine (putText base b l ⟨#[35, 118]⟩ _ HH.out.1 (by show l.length + 2 < _; omega) (by omega)).mono ?_
  rintro e w4 ⟨rfl, h4⟩
  go_wp2_with fail
  go_end0
  exact ⟨rfl, h4.1, (HH.out.2.mono hb).trans h4.2.1, (kept_below HH.out.2).trans h4.2.2⟩
end Go.Proofs.YtgfamihldecmbaaDoor
