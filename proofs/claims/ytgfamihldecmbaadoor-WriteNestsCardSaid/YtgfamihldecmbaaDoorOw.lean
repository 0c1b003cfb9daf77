/-
  write.pen.one, write.written, write.Write, write.Display of any tree.
-/
import Derived.Test.YtgfamihldecmbaaDoorOg
import Derived.Test.YtgfamihldecmbaaDoorNgn
import Derived.Test.YtgfamihldecmbaaDoorWtn
namespace Go.Proofs.YtgfamihldecmbaaDoor
open Go.RowKit

set_option maxRecDepth 100000 in
set_option maxHeartbeats 3200000 in
theorem one_listT (base b f g : Nat) (t : LT) (hk : t.k = 5) (out : List UInt8) (w : World) (hb : base ≤ w.heap.size) (h : ∀ W, Below w.heap.size w W → Calls Tryd.prog 65 #[penV b f g, .agg #[.int .i64 t.k, .bool t.g, .slice t.la t.ln t.lc, .bool t.bb, .string t.s, .slice t.ia t.items.length t.ic, .slice t.ta t.tail.length t.tc]] W (OPost base b out W)) :
    Calls Tryd.prog 48 #[penV b f g, .agg #[.int .i64 t.k, .bool t.g, .slice t.la t.ln t.lc, .bool t.bb, .string t.s, .slice t.ia t.items.length t.ic, .slice t.ta t.tail.length t.tc]] w (OPost base b out w) := by
  rw [hk] at h ⊢
  clear hk
  have hbw : Below w.heap.size w ((w.alloc (Obj.cells (penC b f g) 64)).alloc (Obj.cells #[.int .i64 5, .bool t.g, .slice t.la t.ln t.lc, .bool t.bb, .string t.s, .slice t.ia t.items.length t.ic, .slice t.ta t.tail.length t.tc] 27)) := ((Below.refl w.heap.size w).alloc (Nat.le_refl _) _).alloc (by simp) _
  have HL := Lib.hid (And.intro (h _ hbw) hbw)
  clear hbw h
  unfold penV penC at *
  go_enter Tryd.func48, Tryd.ntmps48
  go_wp2_with fail
  refine HL.out.1.mono ?_
  rintro e w3 ⟨rfl, h3⟩
  go_wp2_with fail
  go_end0
  exact ⟨rfl, h3.1, (HL.out.2.mono hb).trans h3.2.1, (kept_below HL.out.2).trans h3.2.2⟩

theorem one_tree (base b f g : Nat) (hff : ∀ args w, (callFunc f args).run Tryd.prog w = .ok (.enter f args) w) (hgg : ∀ args w, (callFunc g args).run Tryd.prog w = .ok (.enter g args) w) (tf tg : ByteArray → ByteArray)
    (hf : ∀ s : ByteArray, s.size ≤ 1100 → Tells f s (tf s)) (hg : ∀ s : ByteArray, s.size ≤ 1100 → Tells g s (tg s)) (h0 : 0 < base) :
    ∀ (N : Nat) (t : LT), t.size ≤ N → ∀ (l : List UInt8) (w : World), Tab w → Bl base b l w → HeldP w (Solid w b) t → AllD pB (shape t) → l.length + (wD tf tg (shape t)).length < 100000000 → base ≤ w.heap.size → Calls Tryd.prog 48 #[penV b f g, .agg #[.int .i64 t.k, .bool t.g, .slice t.la t.ln t.lc, .bool t.bb, .string t.s, .slice t.ia t.items.length t.ic, .slice t.ta t.tail.length t.tc]] w (OPost base b (l ++ wD tf tg (shape t)) w)
  | 0, t, ht, _, _, _, _, _, _, _, _ => by rw [t.size_eq] at ht; omega
  | N + 1, t, hsz, l, w, ht, h, hH, hA, hl, hb => by
    have hp := ((allD_eq t).1 hA).1
    by_cases h1 : t.k = 1
    · rw [wD_num tf tg t h1] at hl ⊢
      exact one_numT base b f g t h1 (by rw [hH.1.1.len]; exact hp.2.1) l w hH.1.1 h (by omega) hb
    · by_cases h2 : t.k = 2
      · rw [wD_bool tf tg t h2]
        exact one_boolT base b f g t h2 l w h (by rw [wD_bool tf tg t h2] at hl; omega) hb
      · by_cases h3 : t.k = 3
        · rw [wD_sym tf tg t h3] at hl ⊢
          exact one_symT base b f g hff t h3 (tf t.s) (hf t.s hp.2.2) l w ht h (by have h9 : (tf t.s).data.toList.length = (tf t.s).data.size := Array.length_toList; show l.length + (tf t.s).data.size < _; omega) hb
        · by_cases h4 : t.k = 4
          · rw [wD_str tf tg t h4] at hl ⊢
            exact one_strT base b f g hgg t h4 (tg t.s) (hg t.s hp.2.2) l w ht h (by have h9 : (tg t.s).data.toList.length = (tg t.s).data.size := Array.length_toList; show l.length + (tg t.s).data.size < _; omega) hb
          · by_cases h5 : t.k = 5
            · refine one_listT base b f g t h5 _ w hb fun W hW => ?_
              exact list_tree base b f g N tf tg (one_tree base b f g hff hgg tf tg hf hg h0 N) h0 t hsz h5 l W (ht.low hW ht.lt) (h.below hW) (hH.solid_below hW) hA hl (Nat.le_trans hb hW.size)
            · rw [wD_other tf tg t h1 h2 h3 h4 h5]
              exact one_otherT base b f g t h1 h2 h3 h4 h5 l w h (by rw [wD_other tf tg t h1 h2 h3 h4 h5] at hl; omega) hb
set_option maxRecDepth 100000 in
set_option maxHeartbeats 6400000 in
theorem written_tree (M f g : Nat) (hff : ∀ args w, (callFunc f args).run Tryd.prog w = .ok (.enter f args) w) (hgg : ∀ args w, (callFunc g args).run Tryd.prog w = .ok (.enter g args) w) (tf tg : ByteArray → ByteArray)
    (hf : ∀ s : ByteArray, s.size ≤ 1100 → Tells f s (tf s)) (hg : ∀ s : ByteArray, s.size ≤ 1100 → Tells g s (tg s)) (htf : ∀ s : ByteArray, s.size ≤ 1100 → (tf s).data.toList.length ≤ 30000) (htg : ∀ s : ByteArray, s.size ≤ 1100 → (tg s).data.toList.length ≤ 30000)
    (t : LT) (h1 : t.size ≤ 1000) (h2 : t.depth ≤ 10000) (hT : Tame t) (hA : AllL pB t) (w : World) (ht : Tab w) (hM : M ≤ w.heap.size) (hH : Held w M t) :
    Calls Tryd.prog 28 #[.agg #[.int .i64 t.k, .bool t.g, .slice t.la t.ln t.lc, .bool t.bb, .string t.s, .slice t.ia t.items.length t.ic, .slice t.ta t.tail.length t.tc], .func (.func f) #[] #[], .func (.func g) #[] #[]] w fun e w' => e = .returned (.string ⟨(wD tf tg (normT t)).toArray⟩) ∧ Below w.heap.size w w' := by
  have hdep : ∀ W, Below w.heap.size w W → Calls Tryd.prog 45 #[.agg #[.int .i64 t.k, .bool t.g, .slice t.la t.ln t.lc, .bool t.bb, .string t.s, .slice t.ia t.items.length t.ic, .slice t.ta t.tail.length t.tc]] W fun e w' => e = .returned (.int .i64 t.depth) ∧ Below W.heap.size W w' := fun W hW =>
    depth_any t M W (hH.below hM hW) (Nat.le_trans hM hW.size) (by omega) h2
  have hd1 := depth_pos t
  have hnm : ∀ W, Below w.heap.size w W → Calls Tryd.prog 49 #[.agg #[.int .i64 t.k, .bool t.g, .slice t.la t.ln t.lc, .bool t.bb, .string t.s, .slice t.ia t.items.length t.ic, .slice t.ta t.tail.length t.tc]] W (NPost (normT t) W) := fun W hW =>
    norm_tree M t (by omega) h2 hT W (Nat.le_trans hM hW.size) (hH.below hM hW)
  have hAn := allD_norm keepsB t hA
  have hlen : (wD tf tg (normT t)).length < 100000000 := by
    have q1 := wD_len tf tg htf htg _ hAn
    have q2 := size_norm t
    omega
  have HD := Lib.hid (And.intro hdep hnm)
  have HT := Lib.hid (And.intro ht (And.intro hf (And.intro hg (And.intro hAn hlen))))
  clear hdep hnm ht hf hg hA hT hH hAn hlen
  generalize normT t = d at *
  generalize t.depth = dp at *
  go_enter Tryd.func28, Tryd.ntmps28
  go_wp2_with fail
  have hb0 : Below w.heap.size w (w.alloc (Obj.cells #[.int .i64 t.k, .bool t.g, .slice t.la t.ln t.lc, .bool t.bb, .string t.s, .slice t.ia t.items.length t.ic, .slice t.ta t.tail.length t.tc] 27)) := (Below.refl _ _).alloc (Nat.le_refl _) _
  refine (HD.out.1 _ hb0).mono ?_
  rintro e w1 ⟨rfl, b1⟩
  have hz1 : w.heap.size + 1 ≤ w1.heap.size := by have := b1.size; simp at this; omega
  have hd := (b1.block w.heap.size (by simp)).trans (World.alloc_heap_new w _)
  have hb1 := hb0.trans (b1.mono (by simp))
  have hdz : ((dp : Int) == 0) = false := by simp; omega
  clear b1 hb0
  have hds := fun j => Lib.cell_of_heap hd j
  have d0 := hds 0; have d1 := hds 1; have d2 := hds 2; have d3 := hds 3; have d4 := hds 4; have d5 := hds 5; have d6 := hds 6
  simp only [List.getElem?_toArray, List.getElem?_cons_zero, List.getElem?_cons_succ] at d0 d1 d2 d3 d4 d5 d6
  have HB := Lib.hid (And.intro hd hb1)
  clear hds hd hb1
  have hbw : Below w1.heap.size w1 ((w1.alloc (Obj.cells #[Value.pointer none, .slice none 0 0] 60)).alloc (Obj.cells (penC w1.heap.size f g) 64)) := ((Below.refl w1.heap.size w1).alloc (Nat.le_refl _) _).alloc (by simp) _
  have hz4 : ((w1.alloc (Obj.cells #[Value.pointer none, .slice none 0 0] 60)).alloc (Obj.cells (penC w1.heap.size f g) 64)).heap.size = w1.heap.size + 1 + 1 := by rw [World.size_alloc, World.size_alloc]
  have hP := World.alloc_heap_new (w1.alloc (Obj.cells #[Value.pointer none, .slice none 0 0] 60)) (Obj.cells (penC w1.heap.size f g) 64)
  rw [World.size_alloc] at hP
  have hbl : Bl w1.heap.size w1.heap.size [] ((w1.alloc (Obj.cells #[Value.pointer none, .slice none 0 0] 60)).alloc (Obj.cells (penC w1.heap.size f g) 64)) := (Bl.fresh w1).below ((Below.refl _ _).alloc (Nat.le_refl _) _)
  have hd4 := (hbw.block w.heap.size (by omega)).trans HB.out.1
  go_wp2_with fail
  clear d0 d1 d2 d3 d4 d5 d6
  unfold penC at hbw hz4 hP hbl hd4
  generalize hW : ((w1.alloc (Obj.cells #[Value.pointer none, .slice none 0 0] 60)).alloc (Obj.cells #[.func (.func 46) #[.pointer (some ⟨w1.heap.size, 0, none⟩)] #[], .func (.func 47) #[.pointer (some ⟨w1.heap.size, 0, none⟩)] #[], .func (.func f) #[] #[], .func (.func g) #[] #[]] 64)) = W4 at *
  have hds := fun j => Lib.cell_of_heap hd4 j
  have d0 := hds 0; have d1 := hds 1; have d2 := hds 2; have d3 := hds 3; have d4 := hds 4; have d5 := hds 5; have d6 := hds 6
  have hps := fun j => Lib.cell_of_heap hP j
  have y0 := hps 0; have y1 := hps 1; have y2 := hps 2; have y3 := hps 3
  simp only [List.getElem?_toArray, List.getElem?_cons_zero, List.getElem?_cons_succ] at d0 d1 d2 d3 d4 d5 d6 y0 y1 y2 y3
  have x0 := show W4.drew.cell? ⟨w.heap.size, 0, none⟩ = _ from d0
  have x1 := show W4.drew.cell? ⟨w.heap.size, 1, none⟩ = _ from d1
  have x2 := show W4.drew.cell? ⟨w.heap.size, 2, none⟩ = _ from d2
  have x3 := show W4.drew.cell? ⟨w.heap.size, 3, none⟩ = _ from d3
  have x4 := show W4.drew.cell? ⟨w.heap.size, 4, none⟩ = _ from d4
  have x5 := show W4.drew.cell? ⟨w.heap.size, 5, none⟩ = _ from d5
  have x6 := show W4.drew.cell? ⟨w.heap.size, 6, none⟩ = _ from d6
  have u0 := show W4.drew.cell? ⟨w1.heap.size + 1, 0, none⟩ = _ from y0
  have u1 := show W4.drew.cell? ⟨w1.heap.size + 1, 1, none⟩ = _ from y1
  have u2 := show W4.drew.cell? ⟨w1.heap.size + 1, 2, none⟩ = _ from y2
  have u3 := show W4.drew.cell? ⟨w1.heap.size + 1, 3, none⟩ = _ from y3
  have HP := Lib.hid (And.intro hbw (And.intro hbl (HB.out.2.trans (hbw.mono (by omega)))))
  have hmix : Tryd.prog.follows .mixedOrders = true := by kernel_rfl
  have hsig : 0 < w1.heap.size := by have := HT.out.1.lt; omega
  clear hds hps hbw hP hbl hd4 hW
  go_region_law
    (first
      | (refine step_call 49 #[.agg #[.int .i64 t.k, .bool t.g, .slice t.la t.ln t.lc, .bool t.bb, .string t.s, .slice t.ia t.items.length t.ic, .slice t.ta t.tail.length t.tc]] (by rfl) (by simp [execOp, Act.eval, go_sem]) ((HD.out.2 W4.drew HP.out.2.2.drew).mono ?_); rintro e w5 ⟨x', rfl, own5, hsh5, b5⟩; refine ⟨_, rfl, ?_⟩; have c5 : Below W4.heap.size W4 w5 := (⟨b5.os, b5.tape, b5.output, b5.size, b5.block⟩); clear b5; have O5 := Lib.hid (And.intro own5 hsh5); clear own5 hsh5;
          have v0 := (c5.cell (p := ⟨w1.heap.size + 1, 0, none⟩) (by show w1.heap.size + 1 < W4.heap.size; omega)).trans y0; have v1 := (c5.cell (p := ⟨w1.heap.size + 1, 1, none⟩) (by show w1.heap.size + 1 < W4.heap.size; omega)).trans y1; have v2 := (c5.cell (p := ⟨w1.heap.size + 1, 2, none⟩) (by show w1.heap.size + 1 < W4.heap.size; omega)).trans y2; have v3 := (c5.cell (p := ⟨w1.heap.size + 1, 3, none⟩) (by show w1.heap.size + 1 < W4.heap.size; omega)).trans y3)
      | (refine step_call 48 #[penV w1.heap.size f g, .agg #[.int .i64 x'.k, .bool x'.g, .slice x'.la x'.ln x'.lc, .bool x'.bb, .string x'.s, .slice x'.ia x'.items.length x'.ic, .slice x'.ta x'.tail.length x'.tc]] (by rfl) (by simp [execOp, Act.eval, go_sem, penV]) ((one_tree w1.heap.size w1.heap.size f g hff hgg tf tg HT.out.2.1 HT.out.2.2.1 hsig x'.size x' (Nat.le_refl _) [] w5 (HT.out.1.low (HP.out.2.2.trans (c5.mono (by omega))) HT.out.1.lt) (HP.out.2.1.below c5) (HeldP.solid (B := W4.heap.size) O5.out.1 (by omega)) (by rw [O5.out.2]; exact HT.out.2.2.2.1) (by rw [O5.out.2]; simpa using HT.out.2.2.2.2) (by have := c5.size; omega)).mono ?_); rintro e w6 ⟨rfl, h6⟩; refine ⟨_, rfl, ?_⟩)
      | fail)
  all_goals
    go_wp2_with fail
    refine (built w1.heap.size w1.heap.size _ _ h6.1 (by have := c5.size; have := h6.size; omega)).mono ?_
    rintro e w7 ⟨rfl, h7⟩
    go_wp2_with fail
    go_ret
    exact ⟨by rw [← O5.out.2]; rfl, (HP.out.2.2.trans (c5.mono (by omega))).trans ((h6.2.1.mono (by omega)).trans (h7.2.1.mono (by omega)))⟩


end Go.Proofs.YtgfamihldecmbaaDoor
