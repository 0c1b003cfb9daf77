/-
  write.written of a list of symbols and strings.
-/
import Derived.Test.YtgfamihldecmbaaDoorLst
import Derived.Laws.EntriesVeiled
namespace Go.Proofs.YtgfamihldecmbaaDoor
open Go.RowKit

set_option maxRecDepth 100000 in
set_option maxHeartbeats 3200000 in
theorem one_list (base b f g gb n c : Nat) (cs : Array Value) (fr : Nat × Nat) (hff : ∀ args w, (callFunc f args).run Tryd.prog w = .ok (.enter f args) w) (hgg : ∀ args w, (callFunc g args).run Tryd.prog w = .ok (.enter g args) w) (tf tg : ByteArray → ByteArray) (its : List (Int × ByteArray)) (hn : its.length = n) (hn9 : n ≤ 1000) (hc : n ≤ c) (hc9 : c ≤ maxLen)
    (hf : ∀ x ∈ its, Tells f x.2 (tf x.2)) (hg : ∀ x ∈ its, Tells g x.2 (tg x.2)) (l : List UInt8) (w : World) (ht : Tab w) (h : Bl base b l w) (hl : l.length + (rowW tf tg its).length < 10000000000) (hb : base ≤ w.heap.size) (h0 : 0 < base)
    (hrow : LeafRow w gb 0 its) (hgb : w.heap[gb]? = some (.cells cs 27 fr)) (hne : gb ≠ b) :
    Calls Tryd.prog 48 #[penV b f g, .agg #[.int .i64 5, .bool false, .slice none 0 0, .bool false, .string ⟨#[]⟩, .slice (some ⟨gb, 0, none⟩) n c, .slice none 0 0]] w fun e w' => e = .returned (.tuple #[]) ∧ Wrote base b (l ++ by8 40 :: (rowW tf tg its ++ [by8 41])) w w' := by
  have hbw : Below w.heap.size w ((w.alloc (Obj.cells (penC b f g) 64)).alloc (Obj.cells #[.int .i64 5, .bool false, .slice none 0 0, .bool false, .string ⟨#[]⟩, .slice (some ⟨gb, 0, none⟩) n c, .slice none 0 0] 27)) := ((Below.refl w.heap.size w).alloc (Nat.le_refl _) _).alloc (by simp) _
  have hlist := list_any base b f g gb n c cs fr hff hgg tf tg its hn hn9 hc hc9 hf hg l _ (ht.low hbw (ht.lt)) (h.below hbw) hl (by simp; omega) h0 (leafRow_at hrow (hbw.block gb (Array.getElem?_eq_some_iff.1 hgb).1)) ((hbw.block gb (Array.getElem?_eq_some_iff.1 hgb).1).trans hgb) hne
  have HL := Lib.hid (And.intro hlist (And.intro hbw (h.wrote)))
  clear hlist hbw hrow hgb ht h hf hg hn
  unfold penV penC at *
  go_enter Tryd.func48, Tryd.ntmps48
  go_wp2_with fail
  refine HL.out.1.mono ?_
  rintro e w3 ⟨rfl, h3⟩
  go_wp2_with fail
  go_end0
  exact ⟨rfl, h3.1, (HL.out.2.1.mono hb).trans h3.2.1, (kept_below HL.out.2.1).trans h3.2.2⟩

theorem asBytes_any (s : ByteArray) (w : World) : Calls Tryd.prog 31 #[.string s] w fun e w' => e = .returned (.string s) ∧ Below w.heap.size w w' := by
  go_enter Tryd.func31, Tryd.ntmps31
  go_wp2
  go_ret
  exact ⟨rfl, Below.refl _ _⟩

theorem own_open {w : World} {base size n : Nat} {e : TypeId} {v : Value} {xs : List Value} (h : w.ownsRow base e size v n xs) (hn : 1 ≤ n) : ∃ gb c cur, v = .slice (some ⟨gb, 0, none⟩) n c ∧ base ≤ gb ∧ w.heap[gb]? = some (.cells cur e (0, 0)) ∧ n ≤ c ∧ c ≤ maxLen := by
  rcases h.2 with ⟨_, h0⟩ | ⟨gb, c, cur, hv, hb, hg, h1, h2, _⟩
  · omega
  · exact ⟨gb, c, cur, hv, hb, hg, h1, h2⟩

set_option maxRecDepth 100000 in
set_option maxHeartbeats 6400000 in
theorem written_any (f g ib io n : Nat) (hff : ∀ args w, (callFunc f args).run Tryd.prog w = .ok (.enter f args) w) (hgg : ∀ args w, (callFunc g args).run Tryd.prog w = .ok (.enter g args) w) (tf tg : ByteArray → ByteArray) (its : List (Int × ByteArray)) (hn : its.length = n) (hn1 : 1 ≤ n) (hn9 : n ≤ 1000)
    (hf : ∀ x ∈ its, Tells f x.2 (tf x.2)) (hg : ∀ x ∈ its, Tells g x.2 (tg x.2)) (hk : ∀ x ∈ its, x.1 = 3 ∨ x.1 = 4) (hs : ∀ x ∈ its, x.2.size ≤ maxLen) (w : World) (ht : Tab w) (hl : (rowW tf tg its).length < 1000000000) (hrow : LeafRow w ib io its) (hib : ib < w.heap.size) :
    Calls Tryd.prog 28 #[listV ib io n, .func (.func f) #[] #[], .func (.func g) #[] #[]] w fun e w' => e = .returned (.string ⟨(by8 40 :: (rowW tf tg its ++ [by8 41])).toArray⟩) ∧ Below w.heap.size w w' := by
  have hdep : ∀ W, Below w.heap.size w W → Calls Tryd.prog 45 #[listV ib io n] W fun e w' => e = .returned (.int .i64 (listT ib io its.length its).depth) ∧ Below W.heap.size W w' := fun W hW => by
    have := depth_any (listT ib io its.length its) (ib + 1) W (list_datV (by omega) (by omega) hs (hrow.below hW hib)) (by have := hW.size; omega) (by rw [listT_size]; omega) (by have := listT_depth ib io its.length its; omega)
    rwa [listV_cells, hn] at this
  have hd1 := listT_depth1 ib io its.length its
  have hd2 := listT_depth ib io its.length its
  generalize (listT ib io its.length its).depth = dp at *
  have hnm : ∀ W, Below w.heap.size w W → Calls Tryd.prog 49 #[listV ib io n] W (NormPost its W) := fun W hW => by
    have := norm_list ib io its W (by omega) hs (hrow.below hW hib) (by have := hW.size; omega)
    rwa [hn] at this
  have HD := Lib.hid (And.intro hdep hnm)
  have HT := Lib.hid (And.intro ht (And.intro hf (And.intro hg (And.intro hk hn))))
  clear hdep hnm ht hf hg hk hs hrow hn
  unfold listV at *
  go_enter Tryd.func28, Tryd.ntmps28
  go_wp2_with fail
  have hb0 : Below w.heap.size w (w.alloc (Obj.cells #[.int .i64 5, .bool false, .slice none 0 0, .bool false, .string ⟨#[]⟩, .slice (some ⟨ib, io, none⟩) n n, .slice none 0 0] 27)) := (Below.refl _ _).alloc (Nat.le_refl _) _
  refine (HD.out.1 _ hb0).mono ?_
  rintro e w1 ⟨rfl, b1⟩
  have hz1 : w.heap.size + 1 ≤ w1.heap.size := by have := b1.size; simp at this; omega
  have hd := (b1.block w.heap.size (by simp)).trans (World.alloc_heap_new w _)
  have hb1 := hb0.trans (b1.mono (by simp))
  have hdz : ((dp : Int) == 0) = false := by simp; omega
  clear b1 hb0
  have hds := fun j => Lib.cell_of_heap hd j
  have d0 := hds 0; have d1 := hds 1; have d2 := hds 2; have d3 := hds 3; have d4 := hds 4; have d5 := hds 5; have d6 := hds 6
  simp only [List.getElem?_toArray, List.getElem?_cons_zero, List.getElem?_cons_succ] at d0 d1 d2 d3 d4 d5 d6
  have HB := Lib.hid (And.intro hd hb1)
  clear hds hd hb1
  have hbw : Below w1.heap.size w1 ((w1.alloc (Obj.cells #[Value.pointer none, .slice none 0 0] 60)).alloc (Obj.cells (penC w1.heap.size f g) 64)) := ((Below.refl w1.heap.size w1).alloc (Nat.le_refl _) _).alloc (by simp) _
  have hz4 : ((w1.alloc (Obj.cells #[Value.pointer none, .slice none 0 0] 60)).alloc (Obj.cells (penC w1.heap.size f g) 64)).heap.size = w1.heap.size + 1 + 1 := by rw [World.size_alloc, World.size_alloc]
  have hP := World.alloc_heap_new (w1.alloc (Obj.cells #[Value.pointer none, .slice none 0 0] 60)) (Obj.cells (penC w1.heap.size f g) 64)
  rw [World.size_alloc] at hP
  have hbl : Bl w1.heap.size w1.heap.size [] ((w1.alloc (Obj.cells #[Value.pointer none, .slice none 0 0] 60)).alloc (Obj.cells (penC w1.heap.size f g) 64)) := (Bl.fresh w1).below ((Below.refl _ _).alloc (Nat.le_refl _) _)
  have hd4 := (hbw.block w.heap.size (by omega)).trans HB.out.1
  go_wp2_with fail
  clear d0 d1 d2 d3 d4 d5 d6
  unfold penC at hbw hz4 hP hbl hd4
  generalize hW : ((w1.alloc (Obj.cells #[Value.pointer none, .slice none 0 0] 60)).alloc (Obj.cells #[.func (.func 46) #[.pointer (some ⟨w1.heap.size, 0, none⟩)] #[], .func (.func 47) #[.pointer (some ⟨w1.heap.size, 0, none⟩)] #[], .func (.func f) #[] #[], .func (.func g) #[] #[]] 64)) = W4 at *
  have hds := fun j => Lib.cell_of_heap hd4 j
  have d0 := hds 0; have d1 := hds 1; have d2 := hds 2; have d3 := hds 3; have d4 := hds 4; have d5 := hds 5; have d6 := hds 6
  have hps := fun j => Lib.cell_of_heap hP j
  have y0 := hps 0; have y1 := hps 1; have y2 := hps 2; have y3 := hps 3
  simp only [List.getElem?_toArray, List.getElem?_cons_zero, List.getElem?_cons_succ] at d0 d1 d2 d3 d4 d5 d6 y0 y1 y2 y3
  have x0 := show W4.drew.cell? ⟨w.heap.size, 0, none⟩ = _ from d0
  have x1 := show W4.drew.cell? ⟨w.heap.size, 1, none⟩ = _ from d1
  have x2 := show W4.drew.cell? ⟨w.heap.size, 2, none⟩ = _ from d2
  have x3 := show W4.drew.cell? ⟨w.heap.size, 3, none⟩ = _ from d3
  have x4 := show W4.drew.cell? ⟨w.heap.size, 4, none⟩ = _ from d4
  have x5 := show W4.drew.cell? ⟨w.heap.size, 5, none⟩ = _ from d5
  have x6 := show W4.drew.cell? ⟨w.heap.size, 6, none⟩ = _ from d6
  have u0 := show W4.drew.cell? ⟨w1.heap.size + 1, 0, none⟩ = _ from y0
  have u1 := show W4.drew.cell? ⟨w1.heap.size + 1, 1, none⟩ = _ from y1
  have u2 := show W4.drew.cell? ⟨w1.heap.size + 1, 2, none⟩ = _ from y2
  have u3 := show W4.drew.cell? ⟨w1.heap.size + 1, 3, none⟩ = _ from y3
  have HP := Lib.hid (And.intro hbw (And.intro hbl (HB.out.2.trans (hbw.mono (by omega)))))
  have hmix : Tryd.prog.follows .mixedOrders = true := by kernel_rfl
  have hsig : 0 < w1.heap.size := by have := HT.out.1.lt; omega
  clear hds hps hbw hP hbl hd4 hW
  go_region_law
    (first
      | (refine step_call 49 #[.agg #[.int .i64 5, .bool false, .slice none 0 0, .bool false, .string ⟨#[]⟩, .slice (some ⟨ib, io, none⟩) n n, .slice none 0 0]] (by rfl) (by simp [execOp, Act.eval, go_sem]) ((HD.out.2 W4.drew HP.out.2.2.drew).mono ?_); rintro e w5 ⟨V, rfl, own5, b5⟩; refine ⟨_, rfl, ?_⟩; have c5 : Below W4.heap.size W4 w5 := (⟨b5.os, b5.tape, b5.output, b5.size, b5.block⟩); clear b5; obtain ⟨gb, c, cur, rfl, hgB, hgb, hc1, hc2⟩ := own_open own5 (by rw [HT.out.2.2.2.2]; exact hn1); have hgB2 : W4.heap.size ≤ gb := hgB; clear hgB; have O5 := Lib.hid own5; clear own5;
          have v0 := (c5.cell (p := ⟨w1.heap.size + 1, 0, none⟩) (by show w1.heap.size + 1 < W4.heap.size; omega)).trans y0; have v1 := (c5.cell (p := ⟨w1.heap.size + 1, 1, none⟩) (by show w1.heap.size + 1 < W4.heap.size; omega)).trans y1; have v2 := (c5.cell (p := ⟨w1.heap.size + 1, 2, none⟩) (by show w1.heap.size + 1 < W4.heap.size; omega)).trans y2; have v3 := (c5.cell (p := ⟨w1.heap.size + 1, 3, none⟩) (by show w1.heap.size + 1 < W4.heap.size; omega)).trans y3)
      | (refine step_call 48 #[penV w1.heap.size f g, .agg #[.int .i64 5, .bool false, .slice none 0 0, .bool false, .string ⟨#[]⟩, .slice (some ⟨gb, 0, none⟩) its.length c, .slice none 0 0]] (by rfl) (by simp [execOp, Act.eval, go_sem, penV]) ((one_list w1.heap.size w1.heap.size f g gb its.length c cur (0, 0) hff hgg tf tg its rfl (by rw [HT.out.2.2.2.2]; exact hn9) hc1 hc2 HT.out.2.1 HT.out.2.2.1 [] w5 (HT.out.1.low (HP.out.2.2.trans (c5.mono (by omega))) HT.out.1.lt) (HP.out.2.1.below c5) (by simp; omega) (by have := c5.size; omega) hsig (leafRow_own O5.out HT.out.2.2.2.1) hgb (by omega)).mono ?_); rintro e w6 ⟨rfl, h6⟩; refine ⟨_, rfl, ?_⟩)
      | fail)
  all_goals
    go_wp2_with fail
    refine (built w1.heap.size w1.heap.size _ _ h6.1 (by have := c5.size; have := h6.size; omega)).mono ?_
    rintro e w7 ⟨rfl, h7⟩
    go_wp2_with fail
    go_ret
    exact ⟨rfl, (HP.out.2.2.trans (c5.mono (by omega))).trans ((h6.2.1.mono (by omega)).trans (h7.2.1.mono (by omega)))⟩

def quoS (s : ByteArray) : ByteArray := ⟨(betw 34 s.data.toList).toArray⟩
theorem tells_name (s : ByteArray) (hs : s.size ≤ 100000000) : Tells 18 s (nameS s) := fun W hW => name_any s W hW hs
theorem tells_quote (s : ByteArray) (hs : s.size ≤ 100000000) : Tells 20 s (quoS s) := fun W _ => quote_any s W hs
theorem tells_as (s : ByteArray) : Tells 31 s s := fun W _ => asBytes_any s W

set_option maxRecDepth 100000 in
set_option maxHeartbeats 1600000 in
theorem write_any (ib io n : Nat) (its : List (Int × ByteArray)) (hn : its.length = n) (hn1 : 1 ≤ n) (hn9 : n ≤ 1000) (hk : ∀ x ∈ its, x.1 = 3 ∨ x.1 = 4) (hs : ∀ x ∈ its, x.2.size ≤ 1000) (w : World) (ht : Tab w) (hl : (rowW nameS quoS its).length < 1000000000) (hrow : LeafRow w ib io its) (hib : ib < w.heap.size) :
    Calls Tryd.prog 12 #[listV ib io n] w fun e w' => e = .returned (.string ⟨(by8 40 :: (rowW nameS quoS its ++ [by8 41])).toArray⟩) ∧ Below w.heap.size w w' := by
  have hb : ∀ o, Below w.heap.size w (w.alloc o) := fun o => (Below.refl _ _).alloc (Nat.le_refl _) o
  have hw := fun o => written_any 18 20 ib io n (enters_of Tryd.func18 (by kernel_rfl) rfl) (enters_of Tryd.func20 (by kernel_rfl) rfl) nameS quoS its hn hn1 hn9 (fun x hx => tells_name _ (by have := hs x hx; omega)) (fun x hx => tells_quote _ (by have := hs x hx; omega)) hk (fun x hx => by have := hs x hx; unfold maxLen; omega) (w.alloc o) (ht.below (hb o)) hl (hrow.below (hb o) hib) (by simp; omega)
  have HW := Lib.hid (And.intro hw hb)
  clear hw hb ht hrow hs hk
  unfold listV at *
  go_enter Tryd.func12, Tryd.ntmps12
  go_wp2_with fail
  refine (HW.out.1 _).mono ?_
  rintro e w1 ⟨rfl, b1⟩
  go_wp2_with fail
  go_ret
  exact ⟨rfl, (HW.out.2 _).trans (b1.mono (by simp))⟩

set_option maxRecDepth 100000 in
set_option maxHeartbeats 1600000 in
theorem display_any (ib io n : Nat) (its : List (Int × ByteArray)) (hn : its.length = n) (hn1 : 1 ≤ n) (hn9 : n ≤ 1000) (hk : ∀ x ∈ its, x.1 = 3 ∨ x.1 = 4) (hs : ∀ x ∈ its, x.2.size ≤ 1000) (w : World) (ht : Tab w) (hl : (rowW id id its).length < 1000000000) (hrow : LeafRow w ib io its) (hib : ib < w.heap.size) :
    Calls Tryd.prog 14 #[listV ib io n] w fun e w' => e = .returned (.string ⟨(by8 40 :: (rowW id id its ++ [by8 41])).toArray⟩) ∧ Below w.heap.size w w' := by
  have hb : ∀ o, Below w.heap.size w (w.alloc o) := fun o => (Below.refl _ _).alloc (Nat.le_refl _) o
  have hw := fun o => written_any 31 31 ib io n (enters_of Tryd.func31 (by kernel_rfl) rfl) (enters_of Tryd.func31 (by kernel_rfl) rfl) id id its hn hn1 hn9 (fun x _ => tells_as _) (fun x _ => tells_as _) hk (fun x hx => by have := hs x hx; unfold maxLen; omega) (w.alloc o) (ht.below (hb o)) hl (hrow.below (hb o) hib) (by simp; omega)
  have HW := Lib.hid (And.intro hw hb)
  clear hw hb ht hrow hs hk
  unfold listV at *
  go_enter Tryd.func14, Tryd.ntmps14
  go_wp2_with fail
  refine (HW.out.1 _).mono ?_
  rintro e w1 ⟨rfl, b1⟩
  go_wp2_with fail
  go_ret
  exact ⟨rfl, (HW.out.2 _).trans (b1.mono (by simp))⟩

/-- The document's example. -/
def exL : List (Int × ByteArray) := [(3, ⟨#[97]⟩), (4, ⟨#[98]⟩), (3, ⟨#[97, 32, 98]⟩)]
theorem ex_write : by8 40 :: (rowW nameS quoS exL ++ [by8 41]) = [40, 97, 32, 34, 98, 34, 32, 124, 97, 32, 98, 124, 41] := by decide +kernel
theorem ex_show : by8 40 :: (rowW id id exL ++ [by8 41]) = [40, 97, 32, 98, 32, 97, 32, 98, 41] := by decide +kernel

theorem ex_row {w : World} {gb : Nat} (h : w.heap[gb]? = some (.cells #[.int .i64 3, .bool false, .slice none 0 0, .bool false, .string ⟨#[97]⟩, .slice none 0 0, .slice none 0 0, .int .i64 4, .bool false, .slice none 0 0, .bool false, .string ⟨#[98]⟩, .slice none 0 0, .slice none 0 0, .int .i64 3, .bool false, .slice none 0 0, .bool false, .string ⟨#[97, 32, 98]⟩, .slice none 0 0, .slice none 0 0] 27 (0, 0))) : LeafRow w gb 0 exL :=
  leafRow_own (base := gb) (n := 3) (c := 3) ⟨rfl, .inr ⟨gb, 3, _, rfl, Nat.le_refl _, h, Nat.le_refl _, by decide, rfl, rfl⟩⟩ (by simp [exL])
theorem ex_sizes : ∀ x ∈ exL, x.2.size ≤ 1000 := fun x hx => by
  simp only [exL, List.mem_cons, List.not_mem_nil, or_false] at hx
  rcases hx with rfl | rfl | rfl <;> decide
theorem ex_w (ib : Nat) (w : World) (ht : Tab w) (h : w.heap[ib]? = some (.cells #[.int .i64 3, .bool false, .slice none 0 0, .bool false, .string ⟨#[97]⟩, .slice none 0 0, .slice none 0 0, .int .i64 4, .bool false, .slice none 0 0, .bool false, .string ⟨#[98]⟩, .slice none 0 0, .slice none 0 0, .int .i64 3, .bool false, .slice none 0 0, .bool false, .string ⟨#[97, 32, 98]⟩, .slice none 0 0, .slice none 0 0] 27 (0, 0))) : Calls Tryd.prog 12 #[listV ib 0 3] w fun e w' => e = .returned (.string ⟨#[40, 97, 32, 34, 98, 34, 32, 124, 97, 32, 98, 124, 41]⟩) ∧ Below w.heap.size w w' := by
  have := write_any ib 0 3 exL rfl (by decide) (by decide) (by simp [exL]) ex_sizes w ht (by decide +kernel) (ex_row h) (Array.getElem?_eq_some_iff.1 h).1
  rw [ex_write] at this
  exact this
theorem ex_d (ib : Nat) (w : World) (ht : Tab w) (h : w.heap[ib]? = some (.cells #[.int .i64 3, .bool false, .slice none 0 0, .bool false, .string ⟨#[97]⟩, .slice none 0 0, .slice none 0 0, .int .i64 4, .bool false, .slice none 0 0, .bool false, .string ⟨#[98]⟩, .slice none 0 0, .slice none 0 0, .int .i64 3, .bool false, .slice none 0 0, .bool false, .string ⟨#[97, 32, 98]⟩, .slice none 0 0, .slice none 0 0] 27 (0, 0))) : Calls Tryd.prog 14 #[listV ib 0 3] w fun e w' => e = .returned (.string ⟨#[40, 97, 32, 98, 32, 97, 32, 98, 41]⟩) ∧ Below w.heap.size w w' := by
  have := display_any ib 0 3 exL rfl (by decide) (by decide) (by simp [exL]) ex_sizes w ht (by decide +kernel) (ex_row h) (Array.getElem?_eq_some_iff.1 h).1
  rw [ex_show] at this
  exact this

set_option maxRecDepth 100000 in
set_option maxHeartbeats 1600000 in
theorem lives4_yes (w : World) (ht : Tab w) : Calls Tryd.prog 11 #[] w fun e w' => e = .returned (.bool true) ∧ Below w.heap.size w w' := by
  have hb0 : Below w.heap.size w ((w.alloc (Obj.cells #[.int .i64 3, .bool false, .slice none 0 0, .bool false, .string ⟨#[97]⟩, .slice none 0 0, .slice none 0 0, .int .i64 4, .bool false, .slice none 0 0, .bool false, .string ⟨#[98]⟩, .slice none 0 0, .slice none 0 0, .int .i64 3, .bool false, .slice none 0 0, .bool false, .string ⟨#[97, 32, 98]⟩, .slice none 0 0, .slice none 0 0] 27)).alloc (Obj.cells #[.int .i64 5, .bool false, .slice none 0 0, .bool false, .string ⟨#[]⟩, .slice (some ⟨w.heap.size, 0, none⟩) 3 3, .slice none 0 0] 27)) := ((Below.refl w.heap.size w).alloc (Nat.le_refl _) _).alloc (by simp) _
  have hR := (Below.heap_alloc (w.alloc (Obj.cells #[.int .i64 3, .bool false, .slice none 0 0, .bool false, .string ⟨#[97]⟩, .slice none 0 0, .slice none 0 0, .int .i64 4, .bool false, .slice none 0 0, .bool false, .string ⟨#[98]⟩, .slice none 0 0, .slice none 0 0, .int .i64 3, .bool false, .slice none 0 0, .bool false, .string ⟨#[97, 32, 98]⟩, .slice none 0 0, .slice none 0 0] 27)) (Obj.cells #[.int .i64 5, .bool false, .slice none 0 0, .bool false, .string ⟨#[]⟩, .slice (some ⟨w.heap.size, 0, none⟩) 3 3, .slice none 0 0] 27) w.heap.size (by simp)).trans (World.alloc_heap_new w _)
  have hD := World.alloc_heap_new (w.alloc (Obj.cells #[.int .i64 3, .bool false, .slice none 0 0, .bool false, .string ⟨#[97]⟩, .slice none 0 0, .slice none 0 0, .int .i64 4, .bool false, .slice none 0 0, .bool false, .string ⟨#[98]⟩, .slice none 0 0, .slice none 0 0, .int .i64 3, .bool false, .slice none 0 0, .bool false, .string ⟨#[97, 32, 98]⟩, .slice none 0 0, .slice none 0 0] 27)) (Obj.cells #[.int .i64 5, .bool false, .slice none 0 0, .bool false, .string ⟨#[]⟩, .slice (some ⟨w.heap.size, 0, none⟩) 3 3, .slice none 0 0] 27)
  rw [World.size_alloc] at hD
  have hz : ((w.alloc (Obj.cells #[.int .i64 3, .bool false, .slice none 0 0, .bool false, .string ⟨#[97]⟩, .slice none 0 0, .slice none 0 0, .int .i64 4, .bool false, .slice none 0 0, .bool false, .string ⟨#[98]⟩, .slice none 0 0, .slice none 0 0, .int .i64 3, .bool false, .slice none 0 0, .bool false, .string ⟨#[97, 32, 98]⟩, .slice none 0 0, .slice none 0 0] 27)).alloc (Obj.cells #[.int .i64 5, .bool false, .slice none 0 0, .bool false, .string ⟨#[]⟩, .slice (some ⟨w.heap.size, 0, none⟩) 3 3, .slice none 0 0] 27)).heap.size = w.heap.size + 1 + 1 := by rw [World.size_alloc, World.size_alloc]
  have hw1 := ex_w w.heap.size _ (ht.below hb0) hR
  have HT := Lib.hid ht
  have H1 := Lib.hid (And.intro hw1 (And.intro hb0 (And.intro hR hD)))
  clear hw1 hb0 hR hD ht
  unfold listV at H1
  go_enter Tryd.func11, Tryd.ntmps11
  go_wp2_with fail
  refine H1.out.1.mono ?_
  rintro e w3 ⟨rfl, b3⟩
  have hR3 := (b3.block w.heap.size (by rw [hz]; omega)).trans H1.out.2.2.1
  have hD3 := (b3.block (w.heap.size + 1) (by rw [hz]; omega)).trans H1.out.2.2.2
  have hb3 := H1.out.2.1.trans (b3.mono (by rw [hz]; omega))
  have hw2 := ex_d w.heap.size w3 (HT.out.below hb3) hR3
  have hds := fun j => Lib.cell_of_heap hD3 j
  have d0 := hds 0; have d1 := hds 1; have d2 := hds 2; have d3 := hds 3; have d4 := hds 4; have d5 := hds 5; have d6 := hds 6
  simp only [List.getElem?_toArray, List.getElem?_cons_zero, List.getElem?_cons_succ] at d0 d1 d2 d3 d4 d5 d6
  have H2 := Lib.hid (And.intro hw2 hb3)
  clear hw2 hb3 hR3 hD3 hds b3 hz
  unfold listV at H2
  go_wp2_with fail
  refine H2.out.1.mono ?_
  rintro e w4 ⟨rfl, b4⟩
  go_wp2_with fail
  go_ret
  exact ⟨rfl, H2.out.2.trans (b4.mono H2.out.2.size)⟩
end Go.Proofs.YtgfamihldecmbaaDoor
