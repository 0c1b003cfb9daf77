/-
  write.pen: what is no list is written, of any shape.
-/
import Derived.Test.YtgfamihldecmbaaDoorWd
namespace Go.Proofs.YtgfamihldecmbaaDoor
open Go.RowKit

theorem truth_any (x : Bool) (w : World) : Calls Tryd.prog 64 #[.bool x] w fun e w' => e = .returned (.string (if x then ⟨#[35, 116]⟩ else ⟨#[35, 102]⟩)) ∧ Below w.heap.size w w' := by
  cases x
  all_goals
    go_enter Tryd.func64, Tryd.ntmps64
    go_wp2
    go_ret
    exact ⟨rfl, Below.refl _ _⟩

set_option maxRecDepth 100000 in
set_option maxHeartbeats 6400000 in
theorem one_symT (base b f g : Nat) (hfx : ∀ args w, (callFunc f args).run Tryd.prog w = .ok (.enter f args) w) (t : LT) (hk : t.k = 3) (s' : ByteArray) (hf : Tells f t.s s') (l : List UInt8) (w : World) (ht : Tab w) (h : Bl base b l w) (hl : l.length + s'.size < 100000000000) (hb : base ≤ w.heap.size) :
    Calls Tryd.prog 48 #[penV b f g, .agg #[.int .i64 t.k, .bool t.g, .slice t.la t.ln t.lc, .bool t.bb, .string t.s, .slice t.ia t.items.length t.ic, .slice t.ta t.tail.length t.tc]] w fun e w' => e = .returned (.tuple #[]) ∧ Wrote base b (l ++ s'.data.toList) w w' := by
  rw [hk]
  clear hk
  unfold penV
  have hbw : Below w.heap.size w ((w.alloc (Obj.cells (penC b f g) 64)).alloc (Obj.cells #[.int .i64 3, .bool t.g, .slice t.la t.ln t.lc, .bool t.bb, .string t.s, .slice t.ia t.items.length t.ic, .slice t.ta t.tail.length t.tc] 27)) := ((Below.refl w.heap.size w).alloc (Nat.le_refl _) _).alloc (by simp) _
  have hP := (Below.heap_alloc (w.alloc (Obj.cells (penC b f g) 64)) (Obj.cells #[.int .i64 3, .bool t.g, .slice t.la t.ln t.lc, .bool t.bb, .string t.s, .slice t.ia t.items.length t.ic, .slice t.ta t.tail.length t.tc] 27) w.heap.size (by simp)).trans (World.alloc_heap_new w _)
  have hD := World.alloc_heap_new (w.alloc (Obj.cells (penC b f g) 64)) (Obj.cells #[.int .i64 3, .bool t.g, .slice t.la t.ln t.lc, .bool t.bb, .string t.s, .slice t.ia t.items.length t.ic, .slice t.ta t.tail.length t.tc] 27)
  rw [World.size_alloc] at hD
  have hz : ((w.alloc (Obj.cells (penC b f g) 64)).alloc (Obj.cells #[.int .i64 3, .bool t.g, .slice t.la t.ln t.lc, .bool t.bb, .string t.s, .slice t.ia t.items.length t.ic, .slice t.ta t.tail.length t.tc] 27)).heap.size = w.heap.size + 1 + 1 := by rw [World.size_alloc, World.size_alloc]
  unfold penC at hbw hP hD hz
  go_enter Tryd.func48, Tryd.ntmps48
  go_wp2_with fail
  generalize hW : ((w.alloc (Obj.cells #[.func (.func 46) #[.pointer (some ⟨b, 0, none⟩)] #[], .func (.func 47) #[.pointer (some ⟨b, 0, none⟩)] #[], .func (.func f) #[] #[], .func (.func g) #[] #[]] 64)).alloc (Obj.cells #[.int .i64 3, .bool t.g, .slice t.la t.ln t.lc, .bool t.bb, .string t.s, .slice t.ia t.items.length t.ic, .slice t.ta t.tail.length t.tc] 27)) = W2 at *
  have c1 : W2.cell? ⟨w.heap.size, 1, none⟩ = some (.func (.func 47) #[.pointer (some ⟨b, 0, none⟩)] #[]) := by rw [Lib.cell_of_heap hP]; rfl
  have c1d : W2.drew.cell? ⟨w.heap.size, 1, none⟩ = some (.func (.func 47) #[.pointer (some ⟨b, 0, none⟩)] #[]) := c1
  have h2 : Bl base b l W2 := h.below hbw
  have c2 : W2.cell? ⟨w.heap.size, 2, none⟩ = some (.func (.func f) #[] #[]) := by rw [Lib.cell_of_heap hP]; rfl
  have d3 : W2.cell? ⟨w.heap.size + 1, 4, none⟩ = some (.string t.s) := by rw [Lib.cell_of_heap hD]; rfl
  have c2d : W2.drew.cell? ⟨w.heap.size, 2, none⟩ = some (.func (.func f) #[] #[]) := c2
  have d3d : W2.drew.cell? ⟨w.heap.size + 1, 4, none⟩ = some (.string t.s) := d3
  have t2 : Tab W2.drew := ht.below hbw.drew
  have HF := Lib.hid (And.intro hf t2)
  have HH := Lib.hid (And.intro h2 hbw)
  have hmix : Tryd.prog.follows .mixedOrders = true := by kernel_rfl
  clear hf ht h h2 t2 hP hD hbw hW
  go_region_law
    (first
      | (refine step_call f #[.string t.s] (by rfl) (by simp [execOp, Act.eval, go_sem, hfx]) ((HF.out.1 _ HF.out.2).mono ?_); rintro e w3 ⟨rfl, b3⟩; refine ⟨_, rfl, ?_⟩; have c3 : Below W2.heap.size W2 w3 := (⟨b3.os, b3.tape, b3.output, b3.size, b3.block⟩); clear b3; have e1 := (c3.cell (p := ⟨w.heap.size, 1, none⟩) (by show w.heap.size < W2.heap.size; omega)).trans c1)
      | (refine step_call 47 #[.pointer (some ⟨b, 0, none⟩), .string s'] (by rfl) (by simp [execOp, Act.eval, go_sem]) ((putText base b l s' w3 (HH.out.1.below c3) (by omega) (by have := c3.size; omega)).mono ?_); rintro e w4 ⟨rfl, h4⟩; refine ⟨_, rfl, ?_⟩)
      | fail)
  all_goals
    go_wp2_with fail
    go_end0
    exact ⟨rfl, h4.1, (HH.out.2.mono hb).trans ((c3.mono (by omega)).trans h4.2.1), ((kept_below HH.out.2).trans (kept_below c3)).trans h4.2.2⟩

set_option maxRecDepth 100000 in
set_option maxHeartbeats 6400000 in
theorem one_strT (base b f g : Nat) (hfx : ∀ args w, (callFunc g args).run Tryd.prog w = .ok (.enter g args) w) (t : LT) (hk : t.k = 4) (s' : ByteArray) (hf : Tells g t.s s') (l : List UInt8) (w : World) (ht : Tab w) (h : Bl base b l w) (hl : l.length + s'.size < 100000000000) (hb : base ≤ w.heap.size) :
    Calls Tryd.prog 48 #[penV b f g, .agg #[.int .i64 t.k, .bool t.g, .slice t.la t.ln t.lc, .bool t.bb, .string t.s, .slice t.ia t.items.length t.ic, .slice t.ta t.tail.length t.tc]] w fun e w' => e = .returned (.tuple #[]) ∧ Wrote base b (l ++ s'.data.toList) w w' := by
  rw [hk]
  clear hk
  unfold penV
  have hbw : Below w.heap.size w ((w.alloc (Obj.cells (penC b f g) 64)).alloc (Obj.cells #[.int .i64 4, .bool t.g, .slice t.la t.ln t.lc, .bool t.bb, .string t.s, .slice t.ia t.items.length t.ic, .slice t.ta t.tail.length t.tc] 27)) := ((Below.refl w.heap.size w).alloc (Nat.le_refl _) _).alloc (by simp) _
  have hP := (Below.heap_alloc (w.alloc (Obj.cells (penC b f g) 64)) (Obj.cells #[.int .i64 4, .bool t.g, .slice t.la t.ln t.lc, .bool t.bb, .string t.s, .slice t.ia t.items.length t.ic, .slice t.ta t.tail.length t.tc] 27) w.heap.size (by simp)).trans (World.alloc_heap_new w _)
  have hD := World.alloc_heap_new (w.alloc (Obj.cells (penC b f g) 64)) (Obj.cells #[.int .i64 4, .bool t.g, .slice t.la t.ln t.lc, .bool t.bb, .string t.s, .slice t.ia t.items.length t.ic, .slice t.ta t.tail.length t.tc] 27)
  rw [World.size_alloc] at hD
  have hz : ((w.alloc (Obj.cells (penC b f g) 64)).alloc (Obj.cells #[.int .i64 4, .bool t.g, .slice t.la t.ln t.lc, .bool t.bb, .string t.s, .slice t.ia t.items.length t.ic, .slice t.ta t.tail.length t.tc] 27)).heap.size = w.heap.size + 1 + 1 := by rw [World.size_alloc, World.size_alloc]
  unfold penC at hbw hP hD hz
  go_enter Tryd.func48, Tryd.ntmps48
  go_wp2_with fail
  generalize hW : ((w.alloc (Obj.cells #[.func (.func 46) #[.pointer (some ⟨b, 0, none⟩)] #[], .func (.func 47) #[.pointer (some ⟨b, 0, none⟩)] #[], .func (.func f) #[] #[], .func (.func g) #[] #[]] 64)).alloc (Obj.cells #[.int .i64 4, .bool t.g, .slice t.la t.ln t.lc, .bool t.bb, .string t.s, .slice t.ia t.items.length t.ic, .slice t.ta t.tail.length t.tc] 27)) = W2 at *
  have c1 : W2.cell? ⟨w.heap.size, 1, none⟩ = some (.func (.func 47) #[.pointer (some ⟨b, 0, none⟩)] #[]) := by rw [Lib.cell_of_heap hP]; rfl
  have c1d : W2.drew.cell? ⟨w.heap.size, 1, none⟩ = some (.func (.func 47) #[.pointer (some ⟨b, 0, none⟩)] #[]) := c1
  have h2 : Bl base b l W2 := h.below hbw
  have c2 : W2.cell? ⟨w.heap.size, 3, none⟩ = some (.func (.func g) #[] #[]) := by rw [Lib.cell_of_heap hP]; rfl
  have d3 : W2.cell? ⟨w.heap.size + 1, 4, none⟩ = some (.string t.s) := by rw [Lib.cell_of_heap hD]; rfl
  have c2d : W2.drew.cell? ⟨w.heap.size, 3, none⟩ = some (.func (.func g) #[] #[]) := c2
  have d3d : W2.drew.cell? ⟨w.heap.size + 1, 4, none⟩ = some (.string t.s) := d3
  have t2 : Tab W2.drew := ht.below hbw.drew
  have HF := Lib.hid (And.intro hf t2)
  have HH := Lib.hid (And.intro h2 hbw)
  have hmix : Tryd.prog.follows .mixedOrders = true := by kernel_rfl
  clear hf ht h h2 t2 hP hD hbw hW
  go_region_law
    (first
      | (refine step_call g #[.string t.s] (by rfl) (by simp [execOp, Act.eval, go_sem, hfx]) ((HF.out.1 _ HF.out.2).mono ?_); rintro e w3 ⟨rfl, b3⟩; refine ⟨_, rfl, ?_⟩; have c3 : Below W2.heap.size W2 w3 := (⟨b3.os, b3.tape, b3.output, b3.size, b3.block⟩); clear b3; have e1 := (c3.cell (p := ⟨w.heap.size, 1, none⟩) (by show w.heap.size < W2.heap.size; omega)).trans c1)
      | (refine step_call 47 #[.pointer (some ⟨b, 0, none⟩), .string s'] (by rfl) (by simp [execOp, Act.eval, go_sem]) ((putText base b l s' w3 (HH.out.1.below c3) (by omega) (by have := c3.size; omega)).mono ?_); rintro e w4 ⟨rfl, h4⟩; refine ⟨_, rfl, ?_⟩)
      | fail)
  all_goals
    go_wp2_with fail
    go_end0
    exact ⟨rfl, h4.1, (HH.out.2.mono hb).trans ((c3.mono (by omega)).trans h4.2.1), ((kept_below HH.out.2).trans (kept_below c3)).trans h4.2.2⟩

set_option maxRecDepth 100000 in
set_option maxHeartbeats 6400000 in
theorem one_boolT (base b f g : Nat) (t : LT) (hk : t.k = 2) (l : List UInt8) (w : World) (h : Bl base b l w) (hl : l.length < 100000000) (hb : base ≤ w.heap.size) :
    Calls Tryd.prog 48 #[penV b f g, .agg #[.int .i64 t.k, .bool t.g, .slice t.la t.ln t.lc, .bool t.bb, .string t.s, .slice t.ia t.items.length t.ic, .slice t.ta t.tail.length t.tc]] w fun e w' => e = .returned (.tuple #[]) ∧ Wrote base b (l ++ (if t.bb then [35, 116] else [35, 102])) w w' := by
  rw [hk]
  clear hk
  obtain ⟨s', hs'⟩ : ∃ s' : ByteArray, s' = (if t.bb then ⟨#[35, 116]⟩ else ⟨#[35, 102]⟩) := ⟨_, rfl⟩
  have hsz' : s'.size = 2 := by rw [hs']; split <;> rfl
  have HT := Lib.hid (show ∀ W, Calls Tryd.prog 64 #[.bool t.bb] W fun e w' => e = .returned (.string s') ∧ Below W.heap.size W w' from fun W => by rw [hs']; exact truth_any t.bb W)
  have HS := Lib.hid (show s'.data.toList = (if t.bb then [35, 116] else [35, 102]) by rw [hs']; split <;> rfl)
  rw [← HS.out]
  clear hs'
  unfold penV
  have hbw : Below w.heap.size w ((w.alloc (Obj.cells (penC b f g) 64)).alloc (Obj.cells #[.int .i64 2, .bool t.g, .slice t.la t.ln t.lc, .bool t.bb, .string t.s, .slice t.ia t.items.length t.ic, .slice t.ta t.tail.length t.tc] 27)) := ((Below.refl w.heap.size w).alloc (Nat.le_refl _) _).alloc (by simp) _
  have hP := (Below.heap_alloc (w.alloc (Obj.cells (penC b f g) 64)) (Obj.cells #[.int .i64 2, .bool t.g, .slice t.la t.ln t.lc, .bool t.bb, .string t.s, .slice t.ia t.items.length t.ic, .slice t.ta t.tail.length t.tc] 27) w.heap.size (by simp)).trans (World.alloc_heap_new w _)
  have hD := World.alloc_heap_new (w.alloc (Obj.cells (penC b f g) 64)) (Obj.cells #[.int .i64 2, .bool t.g, .slice t.la t.ln t.lc, .bool t.bb, .string t.s, .slice t.ia t.items.length t.ic, .slice t.ta t.tail.length t.tc] 27)
  rw [World.size_alloc] at hD
  have hz : ((w.alloc (Obj.cells (penC b f g) 64)).alloc (Obj.cells #[.int .i64 2, .bool t.g, .slice t.la t.ln t.lc, .bool t.bb, .string t.s, .slice t.ia t.items.length t.ic, .slice t.ta t.tail.length t.tc] 27)).heap.size = w.heap.size + 1 + 1 := by rw [World.size_alloc, World.size_alloc]
  unfold penC at hbw hP hD hz
  go_enter Tryd.func48, Tryd.ntmps48
  go_wp2_with fail
  generalize hW : ((w.alloc (Obj.cells #[.func (.func 46) #[.pointer (some ⟨b, 0, none⟩)] #[], .func (.func 47) #[.pointer (some ⟨b, 0, none⟩)] #[], .func (.func f) #[] #[], .func (.func g) #[] #[]] 64)).alloc (Obj.cells #[.int .i64 2, .bool t.g, .slice t.la t.ln t.lc, .bool t.bb, .string t.s, .slice t.ia t.items.length t.ic, .slice t.ta t.tail.length t.tc] 27)) = W2 at *
  have c1 : W2.cell? ⟨w.heap.size, 1, none⟩ = some (.func (.func 47) #[.pointer (some ⟨b, 0, none⟩)] #[]) := by rw [Lib.cell_of_heap hP]; rfl
  have c1d : W2.drew.cell? ⟨w.heap.size, 1, none⟩ = some (.func (.func 47) #[.pointer (some ⟨b, 0, none⟩)] #[]) := c1
  have h2 : Bl base b l W2 := h.below hbw
  have d3 : W2.cell? ⟨w.heap.size + 1, 3, none⟩ = some (.bool t.bb) := by rw [Lib.cell_of_heap hD]; rfl
  have d3d : W2.drew.cell? ⟨w.heap.size + 1, 3, none⟩ = some (.bool t.bb) := d3
  have HH := Lib.hid (And.intro h2 hbw)
  have hmix : Tryd.prog.follows .mixedOrders = true := by kernel_rfl
  clear h h2 hP hD hbw hW
  go_region_law
    (first
      | (refine step_call 64 #[.bool t.bb] (by rfl) (by simp [execOp, Act.eval, go_sem]) ((HT.out _).mono ?_); rintro e w3 ⟨rfl, b3⟩; refine ⟨_, rfl, ?_⟩; have c3 : Below W2.heap.size W2 w3 := (⟨b3.os, b3.tape, b3.output, b3.size, b3.block⟩); clear b3; have e1 := (c3.cell (p := ⟨w.heap.size, 1, none⟩) (by show w.heap.size < W2.heap.size; omega)).trans c1)
      | (refine step_call 47 #[.pointer (some ⟨b, 0, none⟩), .string s'] (by rfl) (by simp [execOp, Act.eval, go_sem]) ((putText base b l s' w3 (HH.out.1.below c3) (by omega) (by have := c3.size; omega)).mono ?_); rintro e w4 ⟨rfl, h4⟩; refine ⟨_, rfl, ?_⟩)
      | fail)
  all_goals
    go_wp2_with fail
    go_end0
    exact ⟨rfl, h4.1, (HH.out.2.mono hb).trans ((c3.mono (by omega)).trans h4.2.1), ((kept_below HH.out.2).trans (kept_below c3)).trans h4.2.2⟩

end Go.Proofs.YtgfamihldecmbaaDoor
