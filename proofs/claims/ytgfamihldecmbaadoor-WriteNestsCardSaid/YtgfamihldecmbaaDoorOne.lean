/-
  write.pen: a symbol or a string is written.
-/
import Derived.Test.YtgfamihldecmbaaDoorPlain
import Derived.Test.YtgfamihldecmbaaDoorNorm7
namespace Go.Proofs.YtgfamihldecmbaaDoor
open Go.RowKit

theorem Bl.below {base b : Nat} {l : List UInt8} {w w' : World} (h : Bl base b l w) (hb : Below w.heap.size w w') : Bl base b l w' := by
  have key : ∀ p, Lib.BuilderAtF 60 5 base b p (Lib.byteCells l) w → Lib.BuilderAtF 60 5 base b p (Lib.byteCells l) w' := by
    intro p hp
    have hlt := hp.lt
    obtain ⟨h1, v, h2, h3, h4⟩ := hp
    exact ⟨h1, v, (hb.block b hlt).trans h2, h3.kept (row := none) ⟨hb.os, hb.tape, hb.output, hb.size, fun k hk _ => hb.block k hk⟩ (by cases hv : v.ownBlock <;> simp), h4⟩
  exact h.elim (fun h => .inl (key _ h)) (fun h => .inr (key _ h))
theorem Bl.lt {base b : Nat} {l : List UInt8} {w : World} (h : Bl base b l w) : b < w.heap.size := h.elim (·.lt) (·.lt)
theorem Bl.base_le {base b : Nat} {l : List UInt8} {w : World} (h : Bl base b l w) : base ≤ b := h.elim (·.1) (·.1)
theorem kept_below {b : Nat} {w w' : World} (hb : Below w.heap.size w w') : Lib.OthersKept 5 (some b) w w' := fun k _ hk _ _ => (hb.block k (Array.getElem?_eq_some_iff.1 hk).1).trans hk
/-- A block of data, or of a pen, stays. -/
theorem Wrote.block {base b k : Nat} {l : List UInt8} {w w' : World} {cs : Array Value} {t : TypeId} {fr : Nat × Nat} (h : Wrote base b l w w') (hk : w.heap[k]? = some (.cells cs t fr)) (hb : k ≠ b) (ht : t ≠ 5) : w'.heap[k]? = some (.cells cs t fr) :=
  h.2.2 k _ hk (fun e => hb (Option.some.inj e)) (fun c fz e => by cases e; exact ht rfl)

/-- A pen on the builder in block b, that writes symbols by function f, strings by function g. -/
def penV (b f g : Nat) : Value := .agg #[.func (.func 46) #[.pointer (some ⟨b, 0, none⟩)] #[], .func (.func 47) #[.pointer (some ⟨b, 0, none⟩)] #[], .func (.func f) #[] #[], .func (.func g) #[] #[]]
def penC (b f g : Nat) : Array Value := #[.func (.func 46) #[.pointer (some ⟨b, 0, none⟩)] #[], .func (.func 47) #[.pointer (some ⟨b, 0, none⟩)] #[], .func (.func f) #[] #[], .func (.func g) #[] #[]]

/-- What a symbol's, or a string's, function tells. -/
def Tells (f : Nat) (s t : ByteArray) : Prop := ∀ W, Tab W → Calls Tryd.prog f #[.string s] W fun e w' => e = .returned (.string t) ∧ Below W.heap.size W w'

set_option maxRecDepth 100000 in
set_option maxHeartbeats 6400000 in
theorem one_sym (base b f g : Nat) (hfx : ∀ args w, (callFunc f args).run Tryd.prog w = .ok (.enter f args) w) (s t : ByteArray) (hf : Tells f s t) (l : List UInt8) (w : World) (ht : Tab w) (h : Bl base b l w) (hl : l.length + t.size < 100000000000) (hb : base ≤ w.heap.size) :
    Calls Tryd.prog 48 #[penV b f g, .agg #[.int .i64 3, .bool false, .slice none 0 0, .bool false, .string s, .slice none 0 0, .slice none 0 0]] w fun e w' => e = .returned (.tuple #[]) ∧ Wrote base b (l ++ t.data.toList) w w' := by
  unfold penV
  have hbw : Below w.heap.size w ((w.alloc (Obj.cells (penC b f g) 64)).alloc (Obj.cells #[.int .i64 3, .bool false, .slice none 0 0, .bool false, .string s, .slice none 0 0, .slice none 0 0] 27)) := ((Below.refl w.heap.size w).alloc (Nat.le_refl _) _).alloc (by simp) _
  have hP := (Below.heap_alloc (w.alloc (Obj.cells (penC b f g) 64)) (Obj.cells #[.int .i64 3, .bool false, .slice none 0 0, .bool false, .string s, .slice none 0 0, .slice none 0 0] 27) w.heap.size (by simp)).trans (World.alloc_heap_new w _)
  have hD := World.alloc_heap_new (w.alloc (Obj.cells (penC b f g) 64)) (Obj.cells #[.int .i64 3, .bool false, .slice none 0 0, .bool false, .string s, .slice none 0 0, .slice none 0 0] 27)
  rw [World.size_alloc] at hD
  have hz : ((w.alloc (Obj.cells (penC b f g) 64)).alloc (Obj.cells #[.int .i64 3, .bool false, .slice none 0 0, .bool false, .string s, .slice none 0 0, .slice none 0 0] 27)).heap.size = w.heap.size + 1 + 1 := by rw [World.size_alloc, World.size_alloc]
  unfold penC at hbw hP hD hz
  go_enter Tryd.func48, Tryd.ntmps48
  go_wp2_with fail
  generalize hW : ((w.alloc (Obj.cells #[.func (.func 46) #[.pointer (some ⟨b, 0, none⟩)] #[], .func (.func 47) #[.pointer (some ⟨b, 0, none⟩)] #[], .func (.func f) #[] #[], .func (.func g) #[] #[]] 64)).alloc (Obj.cells #[.int .i64 3, .bool false, .slice none 0 0, .bool false, .string s, .slice none 0 0, .slice none 0 0] 27)) = W2 at *
  have c1 : W2.cell? ⟨w.heap.size, 1, none⟩ = some (.func (.func 47) #[.pointer (some ⟨b, 0, none⟩)] #[]) := by rw [Lib.cell_of_heap hP]; rfl
  have c2 : W2.cell? ⟨w.heap.size, 2, none⟩ = some (.func (.func f) #[] #[]) := by rw [Lib.cell_of_heap hP]; rfl
  have d3 : W2.cell? ⟨w.heap.size + 1, 4, none⟩ = some (.string s) := by rw [Lib.cell_of_heap hD]; rfl
  have c1d : W2.drew.cell? ⟨w.heap.size, 1, none⟩ = some (.func (.func 47) #[.pointer (some ⟨b, 0, none⟩)] #[]) := c1
  have c2d : W2.drew.cell? ⟨w.heap.size, 2, none⟩ = some (.func (.func f) #[] #[]) := c2
  have d3d : W2.drew.cell? ⟨w.heap.size + 1, 4, none⟩ = some (.string s) := d3
  have h2 : Bl base b l W2 := h.below hbw
  have t2 : Tab W2.drew := ht.below hbw.drew
  have HH := Lib.hid (And.intro hf (And.intro h2 (And.intro t2 hbw)))
  have hmix : Tryd.prog.follows .mixedOrders = true := by kernel_rfl
  clear hf ht h h2 t2 hP hD hbw hW
  go_region_law
    (first
      | (refine step_call f #[.string s] (by rfl) (by simp [execOp, Act.eval, go_sem, hfx]) ((HH.out.1 _ HH.out.2.2.1).mono ?_); rintro e w3 ⟨rfl, b3⟩; refine ⟨_, rfl, ?_⟩; have c3 : Below W2.heap.size W2 w3 := (⟨b3.os, b3.tape, b3.output, b3.size, b3.block⟩); clear b3; have e1 := (c3.cell (p := ⟨w.heap.size, 1, none⟩) (by show w.heap.size < W2.heap.size; omega)).trans c1)
      | (refine step_call 47 #[.pointer (some ⟨b, 0, none⟩), .string t] (by rfl) (by simp [execOp, Act.eval, go_sem]) ((putText base b l t w3 (HH.out.2.1.below c3) (by omega) (by have := c3.size; omega)).mono ?_); rintro e w4 ⟨rfl, h4⟩; refine ⟨_, rfl, ?_⟩)
      | fail)
  all_goals
    go_wp2_with fail
    go_end0
    exact ⟨rfl, h4.1, (HH.out.2.2.2.mono hb).trans ((c3.mono (by omega)).trans h4.2.1), ((kept_below HH.out.2.2.2).trans (kept_below c3)).trans h4.2.2⟩

set_option maxRecDepth 100000 in
set_option maxHeartbeats 6400000 in
theorem one_str (base b f g : Nat) (hfx : ∀ args w, (callFunc g args).run Tryd.prog w = .ok (.enter g args) w) (s t : ByteArray) (hf : Tells g s t) (l : List UInt8) (w : World) (ht : Tab w) (h : Bl base b l w) (hl : l.length + t.size < 100000000000) (hb : base ≤ w.heap.size) :
    Calls Tryd.prog 48 #[penV b f g, .agg #[.int .i64 4, .bool false, .slice none 0 0, .bool false, .string s, .slice none 0 0, .slice none 0 0]] w fun e w' => e = .returned (.tuple #[]) ∧ Wrote base b (l ++ t.data.toList) w w' := by
  unfold penV
  have hbw : Below w.heap.size w ((w.alloc (Obj.cells (penC b f g) 64)).alloc (Obj.cells #[.int .i64 4, .bool false, .slice none 0 0, .bool false, .string s, .slice none 0 0, .slice none 0 0] 27)) := ((Below.refl w.heap.size w).alloc (Nat.le_refl _) _).alloc (by simp) _
  have hP := (Below.heap_alloc (w.alloc (Obj.cells (penC b f g) 64)) (Obj.cells #[.int .i64 4, .bool false, .slice none 0 0, .bool false, .string s, .slice none 0 0, .slice none 0 0] 27) w.heap.size (by simp)).trans (World.alloc_heap_new w _)
  have hD := World.alloc_heap_new (w.alloc (Obj.cells (penC b f g) 64)) (Obj.cells #[.int .i64 4, .bool false, .slice none 0 0, .bool false, .string s, .slice none 0 0, .slice none 0 0] 27)
  rw [World.size_alloc] at hD
  have hz : ((w.alloc (Obj.cells (penC b f g) 64)).alloc (Obj.cells #[.int .i64 4, .bool false, .slice none 0 0, .bool false, .string s, .slice none 0 0, .slice none 0 0] 27)).heap.size = w.heap.size + 1 + 1 := by rw [World.size_alloc, World.size_alloc]
  unfold penC at hbw hP hD hz
  go_enter Tryd.func48, Tryd.ntmps48
  go_wp2_with fail
  generalize hW : ((w.alloc (Obj.cells #[.func (.func 46) #[.pointer (some ⟨b, 0, none⟩)] #[], .func (.func 47) #[.pointer (some ⟨b, 0, none⟩)] #[], .func (.func f) #[] #[], .func (.func g) #[] #[]] 64)).alloc (Obj.cells #[.int .i64 4, .bool false, .slice none 0 0, .bool false, .string s, .slice none 0 0, .slice none 0 0] 27)) = W2 at *
  have c1 : W2.cell? ⟨w.heap.size, 1, none⟩ = some (.func (.func 47) #[.pointer (some ⟨b, 0, none⟩)] #[]) := by rw [Lib.cell_of_heap hP]; rfl
  have c2 : W2.cell? ⟨w.heap.size, 3, none⟩ = some (.func (.func g) #[] #[]) := by rw [Lib.cell_of_heap hP]; rfl
  have d3 : W2.cell? ⟨w.heap.size + 1, 4, none⟩ = some (.string s) := by rw [Lib.cell_of_heap hD]; rfl
  have c1d : W2.drew.cell? ⟨w.heap.size, 1, none⟩ = some (.func (.func 47) #[.pointer (some ⟨b, 0, none⟩)] #[]) := c1
  have c2d : W2.drew.cell? ⟨w.heap.size, 3, none⟩ = some (.func (.func g) #[] #[]) := c2
  have d3d : W2.drew.cell? ⟨w.heap.size + 1, 4, none⟩ = some (.string s) := d3
  have h2 : Bl base b l W2 := h.below hbw
  have t2 : Tab W2.drew := ht.below hbw.drew
  have HH := Lib.hid (And.intro hf (And.intro h2 (And.intro t2 hbw)))
  have hmix : Tryd.prog.follows .mixedOrders = true := by kernel_rfl
  clear hf ht h h2 t2 hP hD hbw hW
  go_region_law
    (first
      | (refine step_call g #[.string s] (by rfl) (by simp [execOp, Act.eval, go_sem, hfx]) ((HH.out.1 _ HH.out.2.2.1).mono ?_); rintro e w3 ⟨rfl, b3⟩; refine ⟨_, rfl, ?_⟩; have c3 : Below W2.heap.size W2 w3 := (⟨b3.os, b3.tape, b3.output, b3.size, b3.block⟩); clear b3; have e1 := (c3.cell (p := ⟨w.heap.size, 1, none⟩) (by show w.heap.size < W2.heap.size; omega)).trans c1)
      | (refine step_call 47 #[.pointer (some ⟨b, 0, none⟩), .string t] (by rfl) (by simp [execOp, Act.eval, go_sem]) ((putText base b l t w3 (HH.out.2.1.below c3) (by omega) (by have := c3.size; omega)).mono ?_); rintro e w4 ⟨rfl, h4⟩; refine ⟨_, rfl, ?_⟩)
      | fail)
  all_goals
    go_wp2_with fail
    go_end0
    exact ⟨rfl, h4.1, (HH.out.2.2.2.mono hb).trans ((c3.mono (by omega)).trans h4.2.1), ((kept_below HH.out.2.2.2).trans (kept_below c3)).trans h4.2.2⟩

end Go.Proofs.YtgfamihldecmbaaDoor
