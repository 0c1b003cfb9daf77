/-
  pavaneref03.norm of any tree; Norm.
-/
import Derived.Test.YtgfamihldecmbaaDoorRnl
namespace Go.Proofs.YtgfamihldecmbaaDoor
open Go.RowKit

theorem join_held {B gb2 c2' m : Nat} {ts : List LT} {x' : LT} {V : Value} {wr wA w2 : World} (hAL : AllP wA (fun q => Fresh wA (B + 3) q ∧ q < wr.heap.size ∧ V.ownBlock ≠ some q) ts) (hP : HeldP wA (Fresh wA wr.heap.size) x')
    (hk2 : ∀ q, q < wA.heap.size → V.ownBlock ≠ some q → w2.heap[q]? = wA.heap[q]?) (hVg : ∀ q, V.ownBlock = some q → B + 3 ≤ q ∧ q < wr.heap.size) (hz : wA.heap.size ≤ w2.heap.size) (hsz : B + 3 ≤ wr.heap.size)
    (own2 : w2.ownsRow (B + 3) 27 7 (.slice (some ⟨gb2, 0, none⟩) (m + x'.items.length) c2') (m + x'.items.length) (cellsAll ts ++ cellsAll x'.items)) (hm : ts.length = m) :
    HeldP w2 (Fresh w2 (B + 3)) (rowT (some ⟨gb2, 0, none⟩) c2' (ts ++ x'.items) x'.ta x'.tc x'.tail) := by
  subst hm
  have hxF : ∀ q, Fresh wA wr.heap.size q → Fresh w2 (B + 3) q ∧ w2.heap[q]? = wA.heap[q]? := fun q hq => by
    have e := hk2 q hq.lt (fun e => by have := (hVg _ e).2; have := hq.1; omega)
    exact ⟨(hq.same e).low hsz, e⟩
  have hA2 : AllP w2 (Fresh w2 (B + 3)) (ts ++ x'.items) := AllP.append
    (hAL.keep hz fun q hq => ⟨hq.1.same (hk2 q hq.1.lt hq.2.2), hk2 q hq.1.lt hq.2.2⟩)
    ((allP_of_lies _ _ _ hP.2.2.2.1).keep hz fun q hq => hxF q hq)
  have hO2 : w2.ownsRow (B + 3) 27 7 (.slice (some ⟨gb2, 0, none⟩) (ts.length + x'.items.length) c2') (ts ++ x'.items).length (cellsAll (ts ++ x'.items)) := by
    rw [List.length_append, cellsAll_append]; exact own2
  obtain ⟨ia2, ic2, he2, hs2, hl2⟩ := row_parts2 hO2 hA2
  injection he2 with e1 e2 e3
  subst e1 e3
  exact rowT_held hs2 hl2 (hP.2.2.1.mono fun q hq => (hxF q hq).1) (hP.2.2.2.2.keep hz fun q hq => hxF q hq)
theorem rowT_val (ia : Option Addr) (ic : Nat) (ts : List LT) (ta : Option Addr) (tc : Nat) (tl : List LT) (n : Nat) (h : ts.length = n) : Ending.returned (.agg #[.int .i64 5, .bool false, .slice none 0 0, .bool false, .string ⟨#[]⟩, .slice ia n ic, .slice ta tl.length tc]) = .returned (.agg #[.int .i64 (rowT ia ic ts ta tc tl).k, .bool (rowT ia ic ts ta tc tl).g, .slice (rowT ia ic ts ta tc tl).la (rowT ia ic ts ta tc tl).ln (rowT ia ic ts ta tc tl).lc, .bool (rowT ia ic ts ta tc tl).bb, .string (rowT ia ic ts ta tc tl).s, .slice (rowT ia ic ts ta tc tl).ia (rowT ia ic ts ta tc tl).items.length (rowT ia ic ts ta tc tl).ic, .slice (rowT ia ic ts ta tc tl).ta (rowT ia ic ts ta tc tl).tail.length (rowT ia ic ts ta tc tl).tc]) := by
  subst h; rfl
set_option maxRecDepth 100000 in
set_option maxHeartbeats 12800000 in
theorem rnorm_list_tree (M N : Nat) (ih : ∀ u : LT, u.size ≤ N → Tame u → ∀ w : World, M ≤ w.heap.size → Held w M u → Calls Tryd.prog 41 #[.agg #[.int .i64 u.k, .bool u.g, .slice u.la u.ln u.lc, .bool u.bb, .string u.s, .slice u.ia u.items.length u.ic, .slice u.ta u.tail.length u.tc]] w (NPost (normT u) w)) (hN : N + 1 ≤ 100000)
    (t : LT) (ht : t.size ≤ N + 1) (hk : t.k = 5) (hT : Tame t) (w : World) (hM : M ≤ w.heap.size) (hH : Held w M t) :
    Calls Tryd.prog 41 #[.agg #[.int .i64 t.k, .bool t.g, .slice t.la t.ln t.lc, .bool t.bb, .string t.s, .slice t.ia t.items.length t.ic, .slice t.ta t.tail.length t.tc]] w (NPost (normT t) w) := by
  have IH := Lib.hid ih
  have HH := Lib.hid hH
  have HTT := Lib.hid hT
  have HD := Lib.hid (normT_list t hk)
  have hszu : t.size ≤ N + 1 := ht
  have q1 : (t.k == 1) = false := beq_eq_false_iff_ne.2 (by omega)
  have q2 : (t.k == 2) = false := beq_eq_false_iff_ne.2 (by omega)
  have q3 : (t.k == 3) = false := beq_eq_false_iff_ne.2 (by omega)
  have q4 : (t.k == 4) = false := beq_eq_false_iff_ne.2 (by omega)
  have q5 : (t.k == 5) = true := beq_iff_eq.2 hk
  clear ih hT hH ht hk
  generalize normT t = d at *
  have hbX : Below w.heap.size w (((w.alloc (Obj.cells #[.int .i64 t.k, .bool t.g, .slice t.la t.ln t.lc, .bool t.bb, .string t.s, .slice t.ia t.items.length t.ic, .slice t.ta t.tail.length t.tc] 27)).alloc (Obj.cells #[.int .i64 0, .bool false, .slice none 0 0, .bool false, .string ⟨#[]⟩, .slice none 0 0, .slice none 0 0] 27)).alloc (Obj.cells #[.int .i64 5, .bool false, .slice none 0 0, .bool false, .string ⟨#[]⟩, .slice none 0 0, .slice none 0 0] 27)) := (((Below.refl _ w).alloc (Nat.le_refl _) _).alloc (by simp) _).alloc (by simp; omega) _
  have hb0 : (((w.alloc (Obj.cells #[.int .i64 t.k, .bool t.g, .slice t.la t.ln t.lc, .bool t.bb, .string t.s, .slice t.ia t.items.length t.ic, .slice t.ta t.tail.length t.tc] 27)).alloc (Obj.cells #[.int .i64 0, .bool false, .slice none 0 0, .bool false, .string ⟨#[]⟩, .slice none 0 0, .slice none 0 0] 27)).alloc (Obj.cells #[.int .i64 5, .bool false, .slice none 0 0, .bool false, .string ⟨#[]⟩, .slice none 0 0, .slice none 0 0] 27)).heap[w.heap.size]? = some (Obj.cells #[.int .i64 t.k, .bool t.g, .slice t.la t.ln t.lc, .bool t.bb, .string t.s, .slice t.ia t.items.length t.ic, .slice t.ta t.tail.length t.tc] 27) := (Below.heap_alloc _ _ _ (by simp; omega)).trans ((Below.heap_alloc _ _ _ (by simp)).trans (World.alloc_heap_new w _))
  have hb1 : (((w.alloc (Obj.cells #[.int .i64 t.k, .bool t.g, .slice t.la t.ln t.lc, .bool t.bb, .string t.s, .slice t.ia t.items.length t.ic, .slice t.ta t.tail.length t.tc] 27)).alloc (Obj.cells #[.int .i64 0, .bool false, .slice none 0 0, .bool false, .string ⟨#[]⟩, .slice none 0 0, .slice none 0 0] 27)).alloc (Obj.cells #[.int .i64 5, .bool false, .slice none 0 0, .bool false, .string ⟨#[]⟩, .slice none 0 0, .slice none 0 0] 27)).heap[w.heap.size + 1]? = some (Obj.cells #[.int .i64 0, .bool false, .slice none 0 0, .bool false, .string ⟨#[]⟩, .slice none 0 0, .slice none 0 0] 27) := (Below.heap_alloc _ _ _ (by simp)).trans (by have := World.alloc_heap_new (w.alloc (Obj.cells #[.int .i64 t.k, .bool t.g, .slice t.la t.ln t.lc, .bool t.bb, .string t.s, .slice t.ia t.items.length t.ic, .slice t.ta t.tail.length t.tc] 27)) (Obj.cells #[.int .i64 0, .bool false, .slice none 0 0, .bool false, .string ⟨#[]⟩, .slice none 0 0, .slice none 0 0] 27); rwa [World.size_alloc] at this)
  have hb2 : (((w.alloc (Obj.cells #[.int .i64 t.k, .bool t.g, .slice t.la t.ln t.lc, .bool t.bb, .string t.s, .slice t.ia t.items.length t.ic, .slice t.ta t.tail.length t.tc] 27)).alloc (Obj.cells #[.int .i64 0, .bool false, .slice none 0 0, .bool false, .string ⟨#[]⟩, .slice none 0 0, .slice none 0 0] 27)).alloc (Obj.cells #[.int .i64 5, .bool false, .slice none 0 0, .bool false, .string ⟨#[]⟩, .slice none 0 0, .slice none 0 0] 27)).heap[w.heap.size + 1 + 1]? = some (Obj.cells #[.int .i64 5, .bool false, .slice none 0 0, .bool false, .string ⟨#[]⟩, .slice none 0 0, .slice none 0 0] 27) := by
    have := World.alloc_heap_new ((w.alloc (Obj.cells #[.int .i64 t.k, .bool t.g, .slice t.la t.ln t.lc, .bool t.bb, .string t.s, .slice t.ia t.items.length t.ic, .slice t.ta t.tail.length t.tc] 27)).alloc (Obj.cells #[.int .i64 0, .bool false, .slice none 0 0, .bool false, .string ⟨#[]⟩, .slice none 0 0, .slice none 0 0] 27)) (Obj.cells #[.int .i64 5, .bool false, .slice none 0 0, .bool false, .string ⟨#[]⟩, .slice none 0 0, .slice none 0 0] 27)
    rwa [World.size_alloc, World.size_alloc] at this
  have hbz : (((w.alloc (Obj.cells #[.int .i64 t.k, .bool t.g, .slice t.la t.ln t.lc, .bool t.bb, .string t.s, .slice t.ia t.items.length t.ic, .slice t.ta t.tail.length t.tc] 27)).alloc (Obj.cells #[.int .i64 0, .bool false, .slice none 0 0, .bool false, .string ⟨#[]⟩, .slice none 0 0, .slice none 0 0] 27)).alloc (Obj.cells #[.int .i64 5, .bool false, .slice none 0 0, .bool false, .string ⟨#[]⟩, .slice none 0 0, .slice none 0 0] 27)).heap.size = w.heap.size + 1 + 1 + 1 := by rw [World.size_alloc, World.size_alloc, World.size_alloc]
  have HS := Lib.hid (show NiRel M w.heap.size (N + 1) t d w (.int .i64 0) (((w.alloc (Obj.cells #[.int .i64 t.k, .bool t.g, .slice t.la t.ln t.lc, .bool t.bb, .string t.s, .slice t.ia t.items.length t.ic, .slice t.ta t.tail.length t.tc] 27)).alloc (Obj.cells #[.int .i64 0, .bool false, .slice none 0 0, .bool false, .string ⟨#[]⟩, .slice none 0 0, .slice none 0 0] 27)).alloc (Obj.cells #[.int .i64 5, .bool false, .slice none 0 0, .bool false, .string ⟨#[]⟩, .slice none 0 0, .slice none 0 0] 27)) from by
    refine ⟨0, .slice none 0 0, [], Nat.zero_le _, rfl, hb0, hb1, hb2, ⟨World.ownsRow_nil _ _ _ _, fun _ h => by cases h⟩, Lib.hid (by rw [HD.out, shapes_nil]; rfl), ?_, Lib.hid (HH.out.keep hbX.size fun q hq => hbX.block q (by omega)), hbX, by omega⟩
    have h1 := t.size_eq
    have h2 := sizes_ge t.items
    simp only [List.length_nil]
    omega)
  clear hbX hb0 hb1 hb2 hbz
  by_cases hn : 0 < t.items.length
  · obtain ⟨haa, hgM⟩ := HH.out.2.1.2.2.1 hn
    have hcap := HH.out.2.1.2.1
    have hcl := HH.out.2.1.1
    unfold maxLen at hcap
    generalize hgb : blk t.ia = gb at *
    generalize hgo : ofs t.ia = go at *
    rw [haa] at HS ⊢
    have HA := Lib.hid haa
    clear haa
    generalize hni : t.items.length = n at *
    have HX := Lib.hid (And.intro hni (And.intro hgb hgo))
    clear hni hgb hgo
    go_enter Tryd.func41, Tryd.ntmps41
    go_wp2_with fail
    go_loopw [37] (fun i wr => NiRel M w.heap.size (N + 1) t d w i wr) (fun i _ => n - (intOf i).toNat)
    case atStart => exact HS.out
    case round =>
      obtain ⟨k, V, ts, hk, rfl, kB0, kB1, kB2, kR, kD, klen, kU, kbel, hszX⟩ := hrel
      rw [HX.out.1] at hk klen
      by_cases hlt : k < n
      · have hku : k < t.items.length := by rw [HX.out.1]; exact hlt
        have hli := (liesR_iff _ _ _).1 kU.out.2.2.2.1 k hku
        rw [HX.out.2.1, HX.out.2.2] at hli
        obtain ⟨hgbM, hcell, hheld⟩ := lies_held.1 hli
        have hsz1 := sizes_mem hku
        have hszs := t.size_eq
        have htx := tameR_at _ k hku ((tame_eq t).1 HTT.out).2.1
        obtain ⟨x, hx⟩ : ∃ x, t.items[k] = x := ⟨_, rfl⟩
        rw [hx] at hcell hheld hsz1 htx
        rw [Nat.mul_comm 7 k] at hcell
        have d0 : wr.cell? ⟨gb, go + k * 7, none⟩ = some (.int .i64 x.k) := hcell 0 _ rfl
        have d1 : wr.cell? ⟨gb, go + k * 7 + 1, none⟩ = some (.bool x.g) := hcell 1 _ rfl
        have d2 : wr.cell? ⟨gb, go + k * 7 + 2, none⟩ = some (.slice x.la x.ln x.lc) := hcell 2 _ rfl
        have d3 : wr.cell? ⟨gb, go + k * 7 + 3, none⟩ = some (.bool x.bb) := hcell 3 _ rfl
        have d4 : wr.cell? ⟨gb, go + k * 7 + 4, none⟩ = some (.string x.s) := hcell 4 _ rfl
        have d5 : wr.cell? ⟨gb, go + k * 7 + 5, none⟩ = some (.slice x.ia x.items.length x.ic) := hcell 5 _ rfl
        have d6 : wr.cell? ⟨gb, go + k * 7 + 6, none⟩ = some (.slice x.ta x.tail.length x.tc) := hcell 6 _ rfl
        have hbw6 : Below wr.heap.size wr (wr.alloc (Obj.cells #[.int .i64 x.k, .bool x.g, .slice x.la x.ln x.lc, .bool x.bb, .string x.s, .slice x.ia x.items.length x.ic, .slice x.ta x.tail.length x.tc] 27)) := (Below.refl _ wr).alloc (Nat.le_refl _) _
        have hbelS := kbel.size
        have HC := Lib.hid (IH.out x (by omega) htx (wr.alloc (Obj.cells #[.int .i64 x.k, .bool x.g, .slice x.la x.ln x.lc, .bool x.bb, .string x.s, .slice x.ia x.items.length x.ic, .slice x.ta x.tail.length x.tc] 27)).drew (by show M ≤ (wr.alloc (Obj.cells #[.int .i64 x.k, .bool x.g, .slice x.la x.ln x.lc, .bool x.bb, .string x.s, .slice x.ia x.items.length x.ic, .slice x.ta x.tail.length x.tc] 27)).heap.size; have := hbw6.size; omega) (Held.keep (w := wr) hheld (by show wr.heap.size ≤ (wr.alloc (Obj.cells #[.int .i64 x.k, .bool x.g, .slice x.la x.ln x.lc, .bool x.bb, .string x.s, .slice x.ia x.items.length x.ic, .slice x.ta x.tail.length x.tc] 27)).heap.size; exact hbw6.size) fun q hq => (by show (wr.alloc (Obj.cells #[.int .i64 x.k, .bool x.g, .slice x.la x.ln x.lc, .bool x.bb, .string x.s, .slice x.ia x.items.length x.ic, .slice x.ta x.tail.length x.tc] 27)).heap[q]? = wr.heap[q]?; exact hbw6.block q (by omega))))
        clear hli hcell hheld hsz1 htx
        go_wp2_with fail
        have own6 : (wr.alloc (Obj.cells #[.int .i64 x.k, .bool x.g, .slice x.la x.ln x.lc, .bool x.bb, .string x.s, .slice x.ia x.items.length x.ic, .slice x.ta x.tail.length x.tc] 27)).ownsRow (w.heap.size + 3) 27 7 V ts.length (cellsAll ts) := kR.1.alloc _
        have e5 : (wr.alloc (Obj.cells #[.int .i64 x.k, .bool x.g, .slice x.la x.ln x.lc, .bool x.bb, .string x.s, .slice x.ia x.items.length x.ic, .slice x.ta x.tail.length x.tc] 27)).cell? ⟨w.heap.size + 1 + 1, 5, none⟩ = some V := (hbw6.cell (p := ⟨w.heap.size + 1 + 1, 5, none⟩) (by show w.heap.size + 1 + 1 < wr.heap.size; omega)).trans (by rw [Lib.cell_of_heap kB2]; rfl)
        have f5 : (wr.alloc (Obj.cells #[.int .i64 x.k, .bool x.g, .slice x.la x.ln x.lc, .bool x.bb, .string x.s, .slice x.ia x.items.length x.ic, .slice x.ta x.tail.length x.tc] 27)).frozen? ⟨w.heap.size + 1 + 1, 5, none⟩ = false := (hbw6.frozen (p := ⟨w.heap.size + 1 + 1, 5, none⟩) (by show w.heap.size + 1 + 1 < wr.heap.size; omega)).trans (Lib.frozen_of_heap kB2 5)
        have hc := fun j => Lib.cell_of_heap (World.alloc_heap_new wr (Obj.cells #[.int .i64 x.k, .bool x.g, .slice x.la x.ln x.lc, .bool x.bb, .string x.s, .slice x.ia x.items.length x.ic, .slice x.ta x.tail.length x.tc] 27)) j
        have g0 := hc 0; have g1 := hc 1; have g2 := hc 2; have g3 := hc 3; have g4 := hc 4; have g5 := hc 5; have g6 := hc 6
        have hz6 : (wr.alloc (Obj.cells #[.int .i64 x.k, .bool x.g, .slice x.la x.ln x.lc, .bool x.bb, .string x.s, .slice x.ia x.items.length x.ic, .slice x.ta x.tail.length x.tc] 27)).heap.size = wr.heap.size + 1 := World.size_alloc ..
        simp only [List.getElem?_toArray, List.getElem?_cons_zero, List.getElem?_cons_succ] at g0 g1 g2 g3 g4 g5 g6
        obtain ⟨W6, hW6⟩ : ∃ W6, wr.alloc (Obj.cells #[.int .i64 x.k, .bool x.g, .slice x.la x.ln x.lc, .bool x.bb, .string x.s, .slice x.ia x.items.length x.ic, .slice x.ta x.tail.length x.tc] 27) = W6 := ⟨_, rfl⟩
        rw [hW6] at own6 hbw6 e5 f5 g0 g1 g2 g3 g4 g5 g6 hz6 HC ⊢
        have HI := Lib.hid (And.intro kB0 (And.intro kB1 (And.intro kB2 (And.intro kbel hbw6))))
        have HO := Lib.hid own6
        have HR := Lib.hid kR
        have hVg : ∀ g, V.ownBlock = some g → w.heap.size + 3 ≤ g := fun g h => (kR.1.lt g h).1
        have neB : some (w.heap.size + 1 + 1) ≠ V.ownBlock := fun h => by have := kR.1.lt _ h.symm; omega
        have neI : some wr.heap.size ≠ V.ownBlock := fun h => by have := kR.1.lt _ h.symm; omega
        have hts9 : ts.length ≤ 100000 := by omega
        clear hc d0 d1 d2 d3 d4 d5 d6 kB0 kB1 kB2 kbel kR own6 hW6 hbw6 hVg
        generalize hmm : ts.length = m at *
        have HMM := Lib.hid hmm
        clear hmm
        obtain ⟨i0, hi0, hz0, hz1, hz2⟩ := info_parts infoD
        have hmix : Tryd.prog.follows .mixedOrders = true := by kernel_rfl
        have e5d : W6.drew.cell? ⟨w.heap.size + 1 + 1, 5, none⟩ = some V := e5
        have g0d := show W6.drew.cell? ⟨wr.heap.size, 0, none⟩ = _ from g0
        have g1d := show W6.drew.cell? ⟨wr.heap.size, 1, none⟩ = _ from g1
        have g2d := show W6.drew.cell? ⟨wr.heap.size, 2, none⟩ = _ from g2
        have g3d := show W6.drew.cell? ⟨wr.heap.size, 3, none⟩ = _ from g3
        have g4d := show W6.drew.cell? ⟨wr.heap.size, 4, none⟩ = _ from g4
        have g5d := show W6.drew.cell? ⟨wr.heap.size, 5, none⟩ = _ from g5
        have g6d := show W6.drew.cell? ⟨wr.heap.size, 6, none⟩ = _ from g6
        go_region_law
          (first
            | (refine step_call 41 #[.agg #[.int .i64 x.k, .bool x.g, .slice x.la x.ln x.lc, .bool x.bb, .string x.s, .slice x.ia x.items.length x.ic, .slice x.ta x.tail.length x.tc]] (by rfl) (by simp [execOp, Act.eval, go_sem]) (HC.out.mono ?_); rintro e w7 ⟨x', rfl, hP7, hsh7, b7⟩; refine ⟨_, rfl, ?_⟩; have c7 : Below W6.heap.size W6 w7 := (⟨b7.os, b7.tape, b7.output, b7.size, b7.block⟩); clear b7; have g7s := And.intro ((c7.cell (p := ⟨wr.heap.size, 0, none⟩) (by show wr.heap.size < W6.heap.size; omega)).trans g0) (And.intro ((c7.cell (p := ⟨wr.heap.size, 1, none⟩) (by show wr.heap.size < W6.heap.size; omega)).trans g1) (And.intro ((c7.cell (p := ⟨wr.heap.size, 2, none⟩) (by show wr.heap.size < W6.heap.size; omega)).trans g2) (And.intro ((c7.cell (p := ⟨wr.heap.size, 3, none⟩) (by show wr.heap.size < W6.heap.size; omega)).trans g3) (And.intro ((c7.cell (p := ⟨wr.heap.size, 4, none⟩) (by show wr.heap.size < W6.heap.size; omega)).trans g4) (And.intro ((c7.cell (p := ⟨wr.heap.size, 5, none⟩) (by show wr.heap.size < W6.heap.size; omega)).trans g5) ((c7.cell (p := ⟨wr.heap.size, 6, none⟩) (by show wr.heap.size < W6.heap.size; omega)).trans g6)))))); obtain ⟨q0, q1, q2, q3, q4, q5, q6⟩ := g7s; have e7 := (c7.cell (p := ⟨w.heap.size + 1 + 1, 5, none⟩) (by show w.heap.size + 1 + 1 < W6.heap.size; omega)).trans e5; have e7a : ∀ o : Obj, (w7.alloc o).cell? ⟨w.heap.size + 1 + 1, 5, none⟩ = some V := fun o => (World.cell?_of_block (w := w7) (Below.heap_alloc w7 o _ (by have := c7.size; show w.heap.size + 1 + 1 < w7.heap.size; omega))).trans e7; have HP7 := Lib.hid (And.intro hP7 hsh7); clear hP7 hsh7)
            | (refine step_append_lies _ (by rfl) (.tmp 42) (.tmp 45) 25 (by rfl) (w.heap.size + 3) 27 i0 (.agg #[.int .i64 0, .bool false, .slice none 0 0, .bool false, .string ⟨#[]⟩, .slice none 0 0, .slice none 0 0]) 7 112 Tryd.underlying25 hi0 hz0 hz1 hz2 rfl (by omega) V m (cellsAll ts) (by rfl) ((own_below7 HO.out c7).alloc _)
                ⟨w7.heap.size, 0, none⟩ 1 1 x'.cells (by rfl) (by rfl) (cells_news (heap_alloc_new _ _)) (lt_one _) (by omega) (by unfold maxLen; omega) (by omega) (by have := c7.size; simp; omega) (w7.heap.size + 1) (by simp) ?_; intro gg cap w8 own8 hgrow8 hat hlt8; have e8 := after_app c7 hgrow8 e5 neB; have f8 := frozen_app (a := ⟨w.heap.size + 1 + 1, 5, none⟩) c7 hgrow8 (by show w.heap.size + 1 + 1 < W6.heap.size; omega) f5 neB; have h0 := after_app c7 hgrow8 g0 neI; have h1 := after_app c7 hgrow8 g1 neI; have h2 := after_app c7 hgrow8 g2 neI; have h3 := after_app c7 hgrow8 g3 neI; have h4 := after_app c7 hgrow8 g4 neI; have h5' := after_app c7 hgrow8 g5 neI; have h6 := after_app c7 hgrow8 g6 neI; have far8 : ∀ (x : Value) (j : Nat), (w8.setCell ⟨w.heap.size + 1 + 1, 5, none⟩ x).cell? ⟨wr.heap.size, j, none⟩ = w8.cell? ⟨wr.heap.size, j, none⟩ := fun x j => World.cell?_of_block (Below.heap_setCell _ _ _ _ (by show wr.heap.size ≠ w.heap.size + 1 + 1; omega)))
            | fail)
        all_goals
          go_wp2_with fail
          go_roundw
          case rel =>
            obtain rfl := HMM.out
            exact ni_next hku hM HI.out HR.out HP7.out.1 (by omega) kU.out hszX c7 hgrow8 hat own8 kD.out (by rw [hx]; exact HP7.out.2) (by rw [HX.out.1]; exact klen) _ (by omega)
          case measure => simp [intOf]; omega
      · obtain rfl : k = n := by omega
        replace kD := Lib.hid (show closeD (shapes ts ++ (spineR t.tail).1, (spineR t.tail).2) = d by have h := kD.out; rw [← HX.out.1, List.drop_length, normR_nil, List.nil_append] at h; exact h)
        have hszs := t.size_eq
        clear hlt hgM hcap hcl
        have hsz3 := hszX
        have hI5 := Lib.cell_of_heap kB0 6
        simp only [List.getElem?_toArray, List.getElem?_cons_zero, List.getElem?_cons_succ] at hI5
        by_cases ht0 : t.tail.length = 0
        · rw [ht0] at hI5
          obtain ⟨ia, ic, rfl, hsp, hli⟩ := row_parts kR
          have hos := fun j => Lib.cell_of_heap kB2 j
          have o0 := hos 0; have o1 := hos 1; have o2 := hos 2; have o3 := hos 3; have o4 := hos 4; have o5 := hos 5; have o6 := hos 6
          have hrs := fun j => Lib.cell_of_heap kB1 j
          have r0 := hrs 0; have r1 := hrs 1; have r2 := hrs 2; have r3 := hrs 3; have r4 := hrs 4; have r5 := hrs 5; have r6 := hrs 6
          have hrf := fun j => Lib.frozen_of_heap kB1 j
          have f0 := hrf 0; have f1 := hrf 1; have f2 := hrf 2; have f3 := hrf 3; have f4 := hrf 4; have f5 := hrf 5; have f6 := hrf 6
          simp only [List.getElem?_toArray, List.getElem?_cons_zero, List.getElem?_cons_succ] at o0 o1 o2 o3 o4 o5 o6 r0 r1 r2 r3 r4 r5 r6
          have HZ := Lib.hid (And.intro hsp (And.intro hli (And.intro kbel (show d = .mk 5 false [] false ⟨#[]⟩ (shapes ts) [] by
            have h := kD.out
            rw [List.length_eq_zero_iff.1 ht0, spineR_nil] at h
            simp only [List.append_nil] at h
            rw [← h, close_none]))))
          clear hos hrs hrf kB0 kB1 kB2 kR kbel hsp hli
          generalize hnt : ts.length = m at *
          have HM := Lib.hid hnt
          clear hnt
          go_wp2_with fail
          (try simp only [Exit.inBlock, Exit.then])
          refine bodyPost_ret (v := .agg #[.int .i64 5, .bool false, .slice none 0 0, .bool false, .string ⟨#[]⟩, .slice ia m ic, .slice none 0 0]) (results_d rfl rfl (by go_simp) (by go_simp) (by go_simp) (by go_simp) (by go_simp) (by go_simp <;> rfl) (by go_simp)) rfl ⟨rowT ia ic ts none 0 [], by rw [← HM.out]; rfl, ?_, ?_, ?_⟩
          · exact HeldP.low (rowT_held (by rw [HM.out]; exact HZ.out.1) HZ.out.2.1 (spotP_nil _) (by rw [liesPR_nil]; trivial)) (set7_low (Low.refl w.heap.size (w.heap.size + 3) _) (by omega) (by omega)) (by omega)
          · rw [rowT_shape, HZ.out.2.2.2, shapes_nil]
          · exact set7_below HZ.out.2.2.1 (by omega)
        · obtain ⟨y, ys, hy0⟩ : ∃ y ys, t.tail = y :: ys := by
            cases hc : t.tail with
            | nil => exact absurd (by rw [hc]; rfl) ht0
            | cons y ys => exact ⟨y, ys, rfl⟩
          have HYY := Lib.hid hy0
          obtain ⟨hta, htM⟩ := kU.out.2.2.1.2.2.1 (by omega)
          have htc := kU.out.2.2.1.2.1
          have htl := kU.out.2.2.1.1
          unfold maxLen at htc
          have htR := kU.out.2.2.2.2
          rw [HYY.out, liesR_cons] at htR
          obtain ⟨_, hyc, hyh⟩ := lies_held.1 htR.1
          rw [hta] at hI5
          have y0 : wr.cell? ⟨blk t.ta, ofs t.ta, none⟩ = some (.int .i64 y.k) := hyc 0 _ rfl
          have y1 : wr.cell? ⟨blk t.ta, ofs t.ta + 1, none⟩ = some (.bool y.g) := hyc 1 _ rfl
          have y2 : wr.cell? ⟨blk t.ta, ofs t.ta + 2, none⟩ = some (.slice y.la y.ln y.lc) := hyc 2 _ rfl
          have y3 : wr.cell? ⟨blk t.ta, ofs t.ta + 3, none⟩ = some (.bool y.bb) := hyc 3 _ rfl
          have y4 : wr.cell? ⟨blk t.ta, ofs t.ta + 4, none⟩ = some (.string y.s) := hyc 4 _ rfl
          have y5 : wr.cell? ⟨blk t.ta, ofs t.ta + 5, none⟩ = some (.slice y.ia y.items.length y.ic) := hyc 5 _ rfl
          have y6 : wr.cell? ⟨blk t.ta, ofs t.ta + 6, none⟩ = some (.slice y.ta y.tail.length y.tc) := hyc 6 _ rfl
          generalize blk t.ta = tb at *
          generalize ofs t.ta = to at *
          have htz : (((t.tail.length : Nat) : Int) == 0) = false := beq_eq_false_iff_ne.2 (by omega)
          have htp : 0 < t.tail.length := by omega
          have hlb : sizes t.tail = y.size + sizes ys := by rw [HYY.out]; rfl
          have hTy : Tame y := by
            have h := ((tame_eq t).1 HTT.out).2.2
            rw [HYY.out] at h
            exact h.1
          have hyN : y.size ≤ N := by omega
          have hwM : M ≤ wr.heap.size := by omega
          have HC := Lib.hid (IH.out y hyN hTy wr hwM hyh)
          have HSZ := Lib.hid (show sizeD (normT y) ≤ 200000 by have := size_norm y; omega)
          have hSP : ∀ e, (spineR t.tail).2 = some e → e.k ≠ 5 := spineR_leaf t.tail
          have hNY : normT y = closeD ((spineR t.tail).1, (spineR t.tail).2) := by rw [HYY.out, spineR_cons]; rfl
          have HNY := Lib.hid (And.intro hSP hNY)
          clear hSP hNY
          generalize t.tail.length = tm at *
          clear hta hy0 hyc hyh htR hTy ht0
          have HZ := Lib.hid (And.intro kB1 (And.intro kB2 (And.intro kR kbel)))
          have hVg : ∀ q, V.ownBlock = some q → w.heap.size + 3 ≤ q ∧ q < wr.heap.size := fun q h => kR.1.lt q h
          have HVG := Lib.hid hVg
          clear kB0 kB1 kB2 kR kbel hVg
          go_wp2_with fail
          clear y0 y1 y2 y3 y4 y5 y6 hI5
          refine HC.out.mono ?_
          rintro e w1 ⟨x', rfl, hP, hsh, b1⟩
          have hz1 := b1.size
          have hba : Below w1.heap.size w1 (w1.alloc (Obj.cells #[.int .i64 x'.k, .bool x'.g, .slice x'.la x'.ln x'.lc, .bool x'.bb, .string x'.s, .slice x'.ia x'.items.length x'.ic, .slice x'.ta x'.tail.length x'.tc] 27)) := (Below.refl _ _).alloc (Nat.le_refl _) _
          have hzA : (w1.alloc (Obj.cells #[.int .i64 x'.k, .bool x'.g, .slice x'.la x'.ln x'.lc, .bool x'.bb, .string x'.s, .slice x'.ia x'.items.length x'.ic, .slice x'.ta x'.tail.length x'.tc] 27)).heap.size = w1.heap.size + 1 := World.size_alloc ..
          have kB1 := (hba.block (w.heap.size + 1) (by omega)).trans ((b1.block (w.heap.size + 1) (by omega)).trans HZ.out.1)
          have kB2 := (hba.block (w.heap.size + 1 + 1) (by omega)).trans ((b1.block (w.heap.size + 1 + 1) (by omega)).trans HZ.out.2.1)
          have kN := World.alloc_heap_new w1 (Obj.cells #[.int .i64 x'.k, .bool x'.g, .slice x'.la x'.ln x'.lc, .bool x'.bb, .string x'.s, .slice x'.ia x'.items.length x'.ic, .slice x'.ta x'.tail.length x'.tc] 27)
          have hbA : Below wr.heap.size wr (w1.alloc (Obj.cells #[.int .i64 x'.k, .bool x'.g, .slice x'.la x'.ln x'.lc, .bool x'.bb, .string x'.s, .slice x'.ia x'.items.length x'.ic, .slice x'.ta x'.tail.length x'.tc] 27)) := b1.trans (hba.mono (by omega))
          have hx9 : x'.items.length ≤ 200000 := items_bd x' _ _ hsh HSZ.out
          have hPA : HeldP (w1.alloc (Obj.cells #[.int .i64 x'.k, .bool x'.g, .slice x'.la x'.ln x'.lc, .bool x'.bb, .string x'.s, .slice x'.ia x'.items.length x'.ic, .slice x'.ta x'.tail.length x'.tc] 27)) (Fresh (w1.alloc (Obj.cells #[.int .i64 x'.k, .bool x'.g, .slice x'.la x'.ln x'.lc, .bool x'.bb, .string x'.s, .slice x'.ia x'.items.length x'.ic, .slice x'.ta x'.tail.length x'.tc] 27)) wr.heap.size) x' := hP.below hba (Nat.le_refl _)
          obtain ⟨n0, n1, n2, n3, n4, n5, n6⟩ := cells7 kN
          obtain ⟨r0, r1, r2, r3, r4, r5, r6⟩ := cells7 kB1
          obtain ⟨f0, f1, f2, f3, f4, f5, f6⟩ := frozen7 kB1
          obtain ⟨o0, o1, o2, o3, o4, o5, o6⟩ := cells7 kB2
          obtain ⟨_, _, _, _, _, p5, p6⟩ := frozen7 kB2
          have HY := Lib.hid (And.intro hPA (And.intro hsh (And.intro (HZ.out.2.2.2.trans (hbA.mono (by omega))) (And.intro hbA (And.intro kB1 (And.intro kB2 kN))))))
          clear hP hsh b1 hba hbA hPA kB1 kB2 kN
          by_cases h0 : ts.length = 0
          · obtain ⟨ia, ic, rfl, _, _⟩ := row_parts HZ.out.2.2.1
            rw [h0] at o5
            go_wp2_with fail
            (try simp only [Exit.inBlock, Exit.then])
            refine bodyPost_ret (v := .agg #[.int .i64 x'.k, .bool x'.g, .slice x'.la x'.ln x'.lc, .bool x'.bb, .string x'.s, .slice x'.ia x'.items.length x'.ic, .slice x'.ta x'.tail.length x'.tc]) (results_d rfl rfl (by go_simp) (by go_simp) (by go_simp) (by go_simp) (by go_simp) (by go_simp <;> rfl) (by go_simp)) rfl ⟨x', rfl, ?_, ?_, ?_⟩
            · exact HeldP.low (U := w.heap.size + 3) (HY.out.1.keep (Nat.le_refl _) fun q hq => ⟨hq.low (by omega), rfl⟩) (set7_low (Low.refl w.heap.size (w.heap.size + 3) _) (by omega) (by omega)) (by omega)
            · have h := kD.out
              rw [List.length_eq_zero_iff.1 h0, shapes_nil, List.nil_append, ← HNY.out.2] at h
              exact HY.out.2.1.trans h
            · exact set7_below HY.out.2.2.1 (by omega)
          · have hts : shapes ts ≠ [] := fun h => h0 (by rw [← shapes_length, h]; rfl)
            have e6 : (((ts.length : Nat) : Int) == 0) = false := beq_eq_false_iff_ne.2 (by omega)
            have hts1 : 1 ≤ ts.length := by omega
            have hts9 : ts.length ≤ 100000 := by omega
            have hown := own_below7 HZ.out.2.2.1.1 HY.out.2.2.2.1
            have HAL := Lib.hid (show AllP (w1.alloc (Obj.cells #[.int .i64 x'.k, .bool x'.g, .slice x'.la x'.ln x'.lc, .bool x'.bb, .string x'.s, .slice x'.ia x'.items.length x'.ic, .slice x'.ta x'.tail.length x'.tc] 27)) (fun q => Fresh (w1.alloc (Obj.cells #[.int .i64 x'.k, .bool x'.g, .slice x'.la x'.ln x'.lc, .bool x'.bb, .string x'.s, .slice x'.ia x'.items.length x'.ic, .slice x'.ta x'.tail.length x'.tc] 27)) (w.heap.size + 3) q ∧ q < wr.heap.size ∧ V.ownBlock ≠ some q) ts from
              HZ.out.2.2.1.2.keep HY.out.2.2.2.1.size fun q hq => ⟨⟨hq.1.same (HY.out.2.2.2.1.block q hq.1.lt), hq.1.lt, hq.2⟩, HY.out.2.2.2.1.block q hq.1.lt⟩)
            by_cases hx5 : x'.k = 5
            · have hj := close_join (shapes ts) _ _ x' (HY.out.2.1.trans HNY.out.2) hx5 HNY.out.1
              rw [kD.out] at hj
              have HJ := Lib.hid hj
              have q5' : (x'.k == 5) = true := beq_iff_eq.2 hx5
              clear hj hx5 h0 q5
              obtain ⟨ia, ic, hVe, hsp, hli⟩ := row_parts HZ.out.2.2.1
              generalize hmm : ts.length = m at *
              have HMM := Lib.hid hmm
              have HO := Lib.hid hown
              have HVE := Lib.hid (And.intro hVe (And.intro hsp hli))
              clear hown hmm hsp hli
              obtain ⟨i0, hi0, hz0, hz1', hz2⟩ := info_parts infoD
              obtain hxi | ⟨ad, hxi⟩ : x'.ia = none ∨ ∃ ad, x'.ia = some ad := by cases x'.ia <;> simp
              · have hn0 : x'.items.length = 0 := by
                  rcases Nat.eq_zero_or_pos x'.items.length with h | h
                  · exact h
                  · have := (HY.out.1.2.1.2.2.1 h).1
                    rw [hxi] at this
                    cases this
                have hc0 : x'.ic = 0 := HY.out.1.2.1.2.2.2 hxi
                have n5n : (w1.alloc (Obj.cells #[.int .i64 x'.k, .bool x'.g, .slice x'.la x'.ln x'.lc, .bool x'.bb, .string x'.s, .slice x'.ia x'.items.length x'.ic, .slice x'.ta x'.tail.length x'.tc] 27)).cell? ⟨w1.heap.size, 5, none⟩ = some (.slice none 0 0) := by rw [n5, hxi, hn0, hc0]
                clear n5
                have HN0 := Lib.hid hn0
                clear hxi hn0 hc0
                rw [hVe] at o5
                clear hVe
                go_wp2_with (at_builtin; refine wpList_append_own_none rfl (.tmp 73) (.tmp 75) 25 rfl (w.heap.size + 3) 27 i0 7 Tryd.underlying25 hi0 _ m (cellsAll ts) rfl (HVE.out.1 ▸ HO.out) rfl ?_)
                (try simp only [Exit.inBlock, Exit.then])
                refine bodyPost_ret (v := .agg #[.int .i64 5, .bool false, .slice none 0 0, .bool false, .string ⟨#[]⟩, .slice ia m ic, .slice x'.ta x'.tail.length x'.tc]) (results_d rfl rfl (by go_simp) (by go_simp) (by go_simp) (by go_simp) (by go_simp) (by go_simp <;> rfl) (by go_simp)) rfl ⟨rowT ia ic ts x'.ta x'.tc x'.tail, by rw [← HMM.out]; rfl, ?_, ?_, ?_⟩
                · refine HeldP.low (L := w.heap.size) (U := w.heap.size + 3) (w := w1.alloc (Obj.cells #[.int .i64 x'.k, .bool x'.g, .slice x'.la x'.ln x'.lc, .bool x'.bb, .string x'.s, .slice x'.ia x'.items.length x'.ic, .slice x'.ta x'.tail.length x'.tc] 27)) (rowT_held ?_ ?_ ?_ ?_) (set7_low (((Low.refl w.heap.size (w.heap.size + 3) _).setCell (p := ⟨w.heap.size + 1 + 1, 5, none⟩) (by show w.heap.size ≤ w.heap.size + 1 + 1; omega) (by show w.heap.size + 1 + 1 < w.heap.size + 3; omega) _).setCell (p := ⟨w.heap.size + 1 + 1, 6, none⟩) (by show w.heap.size ≤ w.heap.size + 1 + 1; omega) (by show w.heap.size + 1 + 1 < w.heap.size + 3; omega) _) (by omega) (by omega)) (by omega)
                  · rw [HMM.out]
                    exact HVE.out.2.1.mono fun q hq => hq.same (HY.out.2.2.2.1.block q hq.lt)
                  · exact HVE.out.2.2.keep HY.out.2.2.2.1.size fun q hq => ⟨hq.same (HY.out.2.2.2.1.block q hq.lt), HY.out.2.2.2.1.block q hq.lt⟩
                  · exact HY.out.1.2.2.1.mono fun q hq => hq.low (by omega)
                  · exact HY.out.1.2.2.2.2.keep (Nat.le_refl _) fun q hq => ⟨hq.low (by omega), rfl⟩
                · rw [rowT_shape, HJ.out, List.length_eq_zero_iff.1 HN0.out, shapes_nil, List.append_nil]
                · exact set7_below ((HY.out.2.2.1.setCell (p := ⟨w.heap.size + 1 + 1, 5, none⟩) (by show w.heap.size ≤ w.heap.size + 1 + 1; omega) _).setCell (p := ⟨w.heap.size + 1 + 1, 6, none⟩) (by show w.heap.size ≤ w.heap.size + 1 + 1; omega) _) (by omega)
              · have n5n : (w1.alloc (Obj.cells #[.int .i64 x'.k, .bool x'.g, .slice x'.la x'.ln x'.lc, .bool x'.bb, .string x'.s, .slice x'.ia x'.items.length x'.ic, .slice x'.ta x'.tail.length x'.tc] 27)).cell? ⟨w1.heap.size, 5, none⟩ = some (.slice (some ad) x'.items.length x'.ic) := by rw [n5, hxi]
                clear n5
                have HN2 := Lib.hid (show ∀ j u, (cellsAll x'.items)[j]? = some u → (w1.alloc (Obj.cells #[.int .i64 x'.k, .bool x'.g, .slice x'.la x'.ln x'.lc, .bool x'.bb, .string x'.s, .slice x'.ia x'.items.length x'.ic, .slice x'.ta x'.tail.length x'.tc] 27)).cell? (ad.add j) = some u from by
                  intro j u hj
                  rcases Nat.eq_zero_or_pos x'.items.length with h | h
                  · rw [List.length_eq_zero_iff.1 h] at hj
                    simp [cellsAll] at hj
                  · have h1 := (HY.out.1.2.1.2.2.1 h).1
                    have h3 := Option.some.inj (hxi.symm.trans h1)
                    rw [h3, cell_add]
                    have h2 := cells_of_lies x'.items _ _ HY.out.1.2.2.2.1 j u hj
                    exact h2)
                clear hxi
                rw [hVe] at o5
                have hVo : V.ownBlock = Value.ownBlock (.slice ia m ic) := by rw [hVe]
                have HVO := Lib.hid hVo
                clear hVe hVo
                have hOI := HO.out
                rw [HVE.out.1] at hOI
                have HOI := Lib.hid hOI
                clear hOI
                go_wp2_with (at_builtin; refine wpList_append_own _ rfl (.tmp 73) (.tmp 75) 25 rfl (w.heap.size + 3) 27 i0 (.agg #[.int .i64 0, .bool false, .slice none 0 0, .bool false, .string ⟨#[]⟩, .slice none 0 0, .slice none 0 0]) 7 112 Tryd.underlying25 hi0 hz0 hz1' hz2 rfl (by decide) (.slice ia m ic) m (cellsAll ts) rfl ?h1 ad x'.items.length _ (cellsAll x'.items) rfl ?h2 ?h3 ?h4 ?h5 ?h6 ?h7 ?h8)
                case h1 => exact HOI.out
                case h2 => exact cellsAll_length _
                case h3 => exact HN2.out
                case h4 => exact cellsAll_one _
                case h5 => unfold maxLen; omega
                case h6 => omega
                case h7 => omega
                case h8 =>
                  intro v1 w2 own2 grow2 _
                  obtain ⟨gb2, c2', rfl, hgb2⟩ := own_open7 own2 (by omega)
                  have hz2w := grow2.size
                  have hk2 : ∀ q, q < (w1.alloc (Obj.cells #[.int .i64 x'.k, .bool x'.g, .slice x'.la x'.ln x'.lc, .bool x'.bb, .string x'.s, .slice x'.ia x'.items.length x'.ic, .slice x'.ta x'.tail.length x'.tc] 27)).heap.size → V.ownBlock ≠ some q → w2.heap[q]? = (w1.alloc (Obj.cells #[.int .i64 x'.k, .bool x'.g, .slice x'.la x'.ln x'.lc, .bool x'.bb, .string x'.s, .slice x'.ia x'.items.length x'.ic, .slice x'.ta x'.tail.length x'.tc] 27)).heap[q]? := (fun q h1 h2 => grow2.block q h1 (fun e => h2 (HVO.out.trans e.symm)))
                  have mB1 := (hk2 (w.heap.size + 1) (by omega) (fun e => by have := (HVG.out _ e).1; omega)).trans HY.out.2.2.2.2.1
                  have mB2 := (hk2 (w.heap.size + 1 + 1) (by omega) (fun e => by have := (HVG.out _ e).1; omega)).trans HY.out.2.2.2.2.2.1
                  have mN := (hk2 w1.heap.size (by omega) (fun e => by have := (HVG.out _ e).2; omega)).trans HY.out.2.2.2.2.2.2
                  obtain ⟨n0', n1', n2', n3', n4', n5', n6'⟩ := cells7 mN
                  obtain ⟨r0', r1', r2', r3', r4', r5', r6'⟩ := cells7 mB1
                  obtain ⟨f0', f1', f2', f3', f4', f5', f6'⟩ := frozen7 mB1
                  obtain ⟨o0', o1', o2', o3', o4', o5', o6'⟩ := cells7 mB2
                  obtain ⟨_, _, _, _, _, p5', p6'⟩ := frozen7 mB2
                  have HG := Lib.hid (And.intro own2 (And.intro grow2 hk2))
                  clear own2 grow2 hk2 mB1 mB2 mN n0 n1 n2 n3 n4 n5n n6 r0 r1 r2 r3 r4 r5 r6 f0 f1 f2 f3 f4 f5 f6 o0 o1 o2 o3 o4 o5 o6 p5 p6
                  go_wp2_with fail
                  (try simp only [Exit.inBlock, Exit.then])
                  refine bodyPost_ret (v := .agg #[.int .i64 5, .bool false, .slice none 0 0, .bool false, .string ⟨#[]⟩, .slice (some ⟨gb2, 0, none⟩) (m + x'.items.length) c2', .slice x'.ta x'.tail.length x'.tc]) (results_d rfl rfl (by go_simp) (by go_simp) (by go_simp) (by go_simp) (by go_simp) (by go_simp <;> rfl) (by go_simp)) rfl ⟨rowT (some ⟨gb2, 0, none⟩) c2' (ts ++ x'.items) x'.ta x'.tc x'.tail, rowT_val _ _ _ _ _ _ _ (by rw [List.length_append, HMM.out]), ?_, ?_, ?_⟩
                  · exact HeldP.low (L := w.heap.size) (U := w.heap.size + 3) (w := w2) (join_held HAL.out HY.out.1 HG.out.2.2 HVG.out hz2w hszX HG.out.1 HMM.out) (set7_low (((Low.refl w.heap.size (w.heap.size + 3) _).setCell (p := ⟨w.heap.size + 1 + 1, 5, none⟩) (by show w.heap.size ≤ w.heap.size + 1 + 1; omega) (by show w.heap.size + 1 + 1 < w.heap.size + 3; omega) _).setCell (p := ⟨w.heap.size + 1 + 1, 6, none⟩) (by show w.heap.size ≤ w.heap.size + 1 + 1; omega) (by show w.heap.size + 1 + 1 < w.heap.size + 3; omega) _) (by omega) (by omega)) (by omega)
                  · rw [rowT_shape, HJ.out, shapes_append]
                  · have hb2 : Below w.heap.size w w2 := HY.out.2.2.1.grown HG.out.2.1 (by omega) (fun q hq => by have := (HVG.out q (HVO.out.trans hq)).1; omega)
                    exact set7_below ((hb2.setCell (p := ⟨w.heap.size + 1 + 1, 5, none⟩) (by show w.heap.size ≤ w.heap.size + 1 + 1; omega) _).setCell (p := ⟨w.heap.size + 1 + 1, 6, none⟩) (by show w.heap.size ≤ w.heap.size + 1 + 1; omega) _) (by omega)
            · have hj := close_dot (shapes ts) hts _ _ x' (HY.out.2.1.trans HNY.out.2) hx5
              rw [kD.out] at hj
              have HJ := Lib.hid hj
              have q5' : (x'.k == 5) = false := beq_eq_false_iff_ne.2 hx5
              clear hj hx5 h0 q5
              obtain ⟨ia, ic, rfl, hsp, hli⟩ := row_parts HZ.out.2.2.1
              generalize hmm : ts.length = m at *
              have HMM := Lib.hid hmm
              have HVE := Lib.hid (And.intro hsp hli)
              clear hown hmm hsp hli
              have hbb : Below (w1.alloc (Obj.cells #[.int .i64 x'.k, .bool x'.g, .slice x'.la x'.ln x'.lc, .bool x'.bb, .string x'.s, .slice x'.ia x'.items.length x'.ic, .slice x'.ta x'.tail.length x'.tc] 27)).heap.size (w1.alloc (Obj.cells #[.int .i64 x'.k, .bool x'.g, .slice x'.la x'.ln x'.lc, .bool x'.bb, .string x'.s, .slice x'.ia x'.items.length x'.ic, .slice x'.ta x'.tail.length x'.tc] 27)) ((w1.alloc (Obj.cells #[.int .i64 x'.k, .bool x'.g, .slice x'.la x'.ln x'.lc, .bool x'.bb, .string x'.s, .slice x'.ia x'.items.length x'.ic, .slice x'.ta x'.tail.length x'.tc] 27)).alloc (Obj.cells #[.int .i64 x'.k, .bool x'.g, .slice x'.la x'.ln x'.lc, .bool x'.bb, .string x'.s, .slice x'.ia x'.items.length x'.ic, .slice x'.ta x'.tail.length x'.tc] 27)) := (Below.refl _ _).alloc (Nat.le_refl _) _
              have kT := World.alloc_heap_new (w1.alloc (Obj.cells #[.int .i64 x'.k, .bool x'.g, .slice x'.la x'.ln x'.lc, .bool x'.bb, .string x'.s, .slice x'.ia x'.items.length x'.ic, .slice x'.ta x'.tail.length x'.tc] 27)) (Obj.cells #[.int .i64 x'.k, .bool x'.g, .slice x'.la x'.ln x'.lc, .bool x'.bb, .string x'.s, .slice x'.ia x'.items.length x'.ic, .slice x'.ta x'.tail.length x'.tc] 27)
              rw [hzA] at kT
              have hzB : ((w1.alloc (Obj.cells #[.int .i64 x'.k, .bool x'.g, .slice x'.la x'.ln x'.lc, .bool x'.bb, .string x'.s, .slice x'.ia x'.items.length x'.ic, .slice x'.ta x'.tail.length x'.tc] 27)).alloc (Obj.cells #[.int .i64 x'.k, .bool x'.g, .slice x'.la x'.ln x'.lc, .bool x'.bb, .string x'.s, .slice x'.ia x'.items.length x'.ic, .slice x'.ta x'.tail.length x'.tc] 27)).heap.size = w1.heap.size + 1 + 1 := by rw [World.size_alloc, hzA]
              have mB1 := (hbb.block (w.heap.size + 1) (by omega)).trans HY.out.2.2.2.2.1
              have mB2 := (hbb.block (w.heap.size + 1 + 1) (by omega)).trans HY.out.2.2.2.2.2.1
              obtain ⟨r0', r1', r2', r3', r4', r5', r6'⟩ := cells7 mB1
              obtain ⟨f0', f1', f2', f3', f4', f5', f6'⟩ := frozen7 mB1
              obtain ⟨o0', o1', o2', o3', o4', o5', o6'⟩ := cells7 mB2
              obtain ⟨_, _, _, _, _, p5', p6'⟩ := frozen7 mB2
              have HT2 := Lib.hid (And.intro hbb (And.intro kT hzB))
              clear hbb kT mB1 mB2
              go_wp2_with fail
              (try simp only [Exit.inBlock, Exit.then])
              refine bodyPost_ret (v := .agg #[.int .i64 5, .bool false, .slice none 0 0, .bool false, .string ⟨#[]⟩, .slice ia m ic, .slice (some ⟨w1.heap.size + 1, 0, none⟩) 1 1]) (results_d rfl rfl (by go_simp) (by go_simp) (by go_simp) (by go_simp) (by go_simp) (by go_simp <;> rfl) (by go_simp)) rfl ⟨rowT ia ic ts (some ⟨w1.heap.size + 1, 0, none⟩) 1 [x'], by rw [← HMM.out]; rfl, ?_, ?_, ?_⟩
              · have hA : Fresh ((w1.alloc (Obj.cells #[.int .i64 x'.k, .bool x'.g, .slice x'.la x'.ln x'.lc, .bool x'.bb, .string x'.s, .slice x'.ia x'.items.length x'.ic, .slice x'.ta x'.tail.length x'.tc] 27)).alloc (Obj.cells #[.int .i64 x'.k, .bool x'.g, .slice x'.la x'.ln x'.lc, .bool x'.bb, .string x'.s, .slice x'.ia x'.items.length x'.ic, .slice x'.ta x'.tail.length x'.tc] 27)) (w.heap.size + 3) (w1.heap.size + 1) := ⟨by omega, _, HT2.out.2.1, fun c fz e => by cases e⟩
                have hk3 : ∀ q, Fresh wr (w.heap.size + 3) q → Fresh ((w1.alloc (Obj.cells #[.int .i64 x'.k, .bool x'.g, .slice x'.la x'.ln x'.lc, .bool x'.bb, .string x'.s, .slice x'.ia x'.items.length x'.ic, .slice x'.ta x'.tail.length x'.tc] 27)).alloc (Obj.cells #[.int .i64 x'.k, .bool x'.g, .slice x'.la x'.ln x'.lc, .bool x'.bb, .string x'.s, .slice x'.ia x'.items.length x'.ic, .slice x'.ta x'.tail.length x'.tc] 27)) (w.heap.size + 3) q ∧ ((w1.alloc (Obj.cells #[.int .i64 x'.k, .bool x'.g, .slice x'.la x'.ln x'.lc, .bool x'.bb, .string x'.s, .slice x'.ia x'.items.length x'.ic, .slice x'.ta x'.tail.length x'.tc] 27)).alloc (Obj.cells #[.int .i64 x'.k, .bool x'.g, .slice x'.la x'.ln x'.lc, .bool x'.bb, .string x'.s, .slice x'.ia x'.items.length x'.ic, .slice x'.ta x'.tail.length x'.tc] 27)).heap[q]? = wr.heap[q]? := fun q hq => by
                  have e := (HT2.out.1.block q (by have := hq.lt; omega)).trans (HY.out.2.2.2.1.block q hq.lt)
                  exact ⟨hq.same e, e⟩
                refine HeldP.low (L := w.heap.size) (U := w.heap.size + 3) (w := (w1.alloc (Obj.cells #[.int .i64 x'.k, .bool x'.g, .slice x'.la x'.ln x'.lc, .bool x'.bb, .string x'.s, .slice x'.ia x'.items.length x'.ic, .slice x'.ta x'.tail.length x'.tc] 27)).alloc (Obj.cells #[.int .i64 x'.k, .bool x'.g, .slice x'.la x'.ln x'.lc, .bool x'.bb, .string x'.s, .slice x'.ia x'.items.length x'.ic, .slice x'.ta x'.tail.length x'.tc] 27)) (rowT_held ?_ ?_ ⟨by simp, by simp [maxLen], fun _ => ⟨rfl, hA⟩, fun e => by cases e⟩ ?_) (set7_low ((Low.refl w.heap.size (w.heap.size + 3) _).setCell (p := ⟨w.heap.size + 1 + 1, 6, none⟩) (by show w.heap.size ≤ w.heap.size + 1 + 1; omega) (by show w.heap.size + 1 + 1 < w.heap.size + 3; omega) _) (by omega) (by omega)) (by omega)
                · rw [HMM.out]
                  exact HVE.out.1.mono fun q hq => (hk3 q hq).1
                · exact HVE.out.2.keep (by rw [HT2.out.2.2]; omega) fun q hq => hk3 q hq
                · refine liesPR_of hA [x'] 0 (fun z hz => ?_) fun j v hj => ?_
                  · rw [List.mem_singleton.1 hz]
                    exact HY.out.1.below HT2.out.1 (by omega)
                  · have h := cells_news HT2.out.2.1 j v (by rw [show cellsAll [x'] = x'.cells from List.append_nil _] at hj; exact hj)
                    rwa [cell_add] at h
              · rw [rowT_shape, shapes_cons, shapes_nil, HJ.out]
              · exact set7_below (((HY.out.2.2.1).trans (HT2.out.1.mono (by omega))).setCell (p := ⟨w.heap.size + 1 + 1, 6, none⟩) (by show w.heap.size ≤ w.heap.size + 1 + 1; omega) _) (by omega)
  · have hn0 : t.items.length = 0 := by omega
    rw [hn0] at HS ⊢
    have HX := Lib.hid hn0
    clear hn hn0
    go_enter Tryd.func41, Tryd.ntmps41
    go_wp2_with fail
    go_loopw [37] (fun i wr => NiRel M w.heap.size (N + 1) t d w i wr) (fun _ _ => 0)
    case atStart => exact HS.out
    case round =>
      obtain ⟨k, V, ts, hk, rfl, kB0, kB1, kB2, kR, kD, klen, kU, kbel, hszX⟩ := hrel
      rw [HX.out] at hk klen
      obtain rfl : k = 0 := by omega
      replace kD := Lib.hid (show closeD (shapes ts ++ (spineR t.tail).1, (spineR t.tail).2) = d by have h := kD.out; rw [List.length_eq_zero_iff.1 HX.out] at h; simpa [normR_nil] using h)
      have hszs := t.size_eq
      have hsz3 := hszX
      have hI5 := Lib.cell_of_heap kB0 6
      simp only [List.getElem?_toArray, List.getElem?_cons_zero, List.getElem?_cons_succ] at hI5
      by_cases ht0 : t.tail.length = 0
      · rw [ht0] at hI5
        obtain ⟨ia, ic, rfl, hsp, hli⟩ := row_parts kR
        have hos := fun j => Lib.cell_of_heap kB2 j
        have o0 := hos 0; have o1 := hos 1; have o2 := hos 2; have o3 := hos 3; have o4 := hos 4; have o5 := hos 5; have o6 := hos 6
        have hrs := fun j => Lib.cell_of_heap kB1 j
        have r0 := hrs 0; have r1 := hrs 1; have r2 := hrs 2; have r3 := hrs 3; have r4 := hrs 4; have r5 := hrs 5; have r6 := hrs 6
        have hrf := fun j => Lib.frozen_of_heap kB1 j
        have f0 := hrf 0; have f1 := hrf 1; have f2 := hrf 2; have f3 := hrf 3; have f4 := hrf 4; have f5 := hrf 5; have f6 := hrf 6
        simp only [List.getElem?_toArray, List.getElem?_cons_zero, List.getElem?_cons_succ] at o0 o1 o2 o3 o4 o5 o6 r0 r1 r2 r3 r4 r5 r6
        have HZ := Lib.hid (And.intro hsp (And.intro hli (And.intro kbel (show d = .mk 5 false [] false ⟨#[]⟩ (shapes ts) [] by
          have h := kD.out
          rw [List.length_eq_zero_iff.1 ht0, spineR_nil] at h
          simp only [List.append_nil] at h
          rw [← h, close_none]))))
        clear hos hrs hrf kB0 kB1 kB2 kR kbel hsp hli
        generalize hnt : ts.length = m at *
        have HM := Lib.hid hnt
        clear hnt
        go_wp2_with fail
        (try simp only [Exit.inBlock, Exit.then])
        refine bodyPost_ret (v := .agg #[.int .i64 5, .bool false, .slice none 0 0, .bool false, .string ⟨#[]⟩, .slice ia m ic, .slice none 0 0]) (results_d rfl rfl (by go_simp) (by go_simp) (by go_simp) (by go_simp) (by go_simp) (by go_simp <;> rfl) (by go_simp)) rfl ⟨rowT ia ic ts none 0 [], by rw [← HM.out]; rfl, ?_, ?_, ?_⟩
        · exact HeldP.low (rowT_held (by rw [HM.out]; exact HZ.out.1) HZ.out.2.1 (spotP_nil _) (by rw [liesPR_nil]; trivial)) (set7_low (Low.refl w.heap.size (w.heap.size + 3) _) (by omega) (by omega)) (by omega)
        · rw [rowT_shape, HZ.out.2.2.2, shapes_nil]
        · exact set7_below HZ.out.2.2.1 (by omega)
      · obtain ⟨y, ys, hy0⟩ : ∃ y ys, t.tail = y :: ys := by
          cases hc : t.tail with
          | nil => exact absurd (by rw [hc]; rfl) ht0
          | cons y ys => exact ⟨y, ys, rfl⟩
        have HYY := Lib.hid hy0
        obtain ⟨hta, htM⟩ := kU.out.2.2.1.2.2.1 (by omega)
        have htc := kU.out.2.2.1.2.1
        have htl := kU.out.2.2.1.1
        unfold maxLen at htc
        have htR := kU.out.2.2.2.2
        rw [HYY.out, liesR_cons] at htR
        obtain ⟨_, hyc, hyh⟩ := lies_held.1 htR.1
        rw [hta] at hI5
        have y0 : wr.cell? ⟨blk t.ta, ofs t.ta, none⟩ = some (.int .i64 y.k) := hyc 0 _ rfl
        have y1 : wr.cell? ⟨blk t.ta, ofs t.ta + 1, none⟩ = some (.bool y.g) := hyc 1 _ rfl
        have y2 : wr.cell? ⟨blk t.ta, ofs t.ta + 2, none⟩ = some (.slice y.la y.ln y.lc) := hyc 2 _ rfl
        have y3 : wr.cell? ⟨blk t.ta, ofs t.ta + 3, none⟩ = some (.bool y.bb) := hyc 3 _ rfl
        have y4 : wr.cell? ⟨blk t.ta, ofs t.ta + 4, none⟩ = some (.string y.s) := hyc 4 _ rfl
        have y5 : wr.cell? ⟨blk t.ta, ofs t.ta + 5, none⟩ = some (.slice y.ia y.items.length y.ic) := hyc 5 _ rfl
        have y6 : wr.cell? ⟨blk t.ta, ofs t.ta + 6, none⟩ = some (.slice y.ta y.tail.length y.tc) := hyc 6 _ rfl
        generalize blk t.ta = tb at *
        generalize ofs t.ta = to at *
        have htz : (((t.tail.length : Nat) : Int) == 0) = false := beq_eq_false_iff_ne.2 (by omega)
        have htp : 0 < t.tail.length := by omega
        have hlb : sizes t.tail = y.size + sizes ys := by rw [HYY.out]; rfl
        have hTy : Tame y := by
          have h := ((tame_eq t).1 HTT.out).2.2
          rw [HYY.out] at h
          exact h.1
        have hyN : y.size ≤ N := by omega
        have hwM : M ≤ wr.heap.size := by omega
        have HC := Lib.hid (IH.out y hyN hTy wr hwM hyh)
        have HSZ := Lib.hid (show sizeD (normT y) ≤ 200000 by have := size_norm y; omega)
        have hSP : ∀ e, (spineR t.tail).2 = some e → e.k ≠ 5 := spineR_leaf t.tail
        have hNY : normT y = closeD ((spineR t.tail).1, (spineR t.tail).2) := by rw [HYY.out, spineR_cons]; rfl
        have HNY := Lib.hid (And.intro hSP hNY)
        clear hSP hNY
        generalize t.tail.length = tm at *
        clear hta hy0 hyc hyh htR hTy ht0
        have HZ := Lib.hid (And.intro kB1 (And.intro kB2 (And.intro kR kbel)))
        have hVg : ∀ q, V.ownBlock = some q → w.heap.size + 3 ≤ q ∧ q < wr.heap.size := fun q h => kR.1.lt q h
        have HVG := Lib.hid hVg
        clear kB0 kB1 kB2 kR kbel hVg
        go_wp2_with fail
        clear y0 y1 y2 y3 y4 y5 y6 hI5
        refine HC.out.mono ?_
        rintro e w1 ⟨x', rfl, hP, hsh, b1⟩
        have hz1 := b1.size
        have hba : Below w1.heap.size w1 (w1.alloc (Obj.cells #[.int .i64 x'.k, .bool x'.g, .slice x'.la x'.ln x'.lc, .bool x'.bb, .string x'.s, .slice x'.ia x'.items.length x'.ic, .slice x'.ta x'.tail.length x'.tc] 27)) := (Below.refl _ _).alloc (Nat.le_refl _) _
        have hzA : (w1.alloc (Obj.cells #[.int .i64 x'.k, .bool x'.g, .slice x'.la x'.ln x'.lc, .bool x'.bb, .string x'.s, .slice x'.ia x'.items.length x'.ic, .slice x'.ta x'.tail.length x'.tc] 27)).heap.size = w1.heap.size + 1 := World.size_alloc ..
        have kB1 := (hba.block (w.heap.size + 1) (by omega)).trans ((b1.block (w.heap.size + 1) (by omega)).trans HZ.out.1)
        have kB2 := (hba.block (w.heap.size + 1 + 1) (by omega)).trans ((b1.block (w.heap.size + 1 + 1) (by omega)).trans HZ.out.2.1)
        have kN := World.alloc_heap_new w1 (Obj.cells #[.int .i64 x'.k, .bool x'.g, .slice x'.la x'.ln x'.lc, .bool x'.bb, .string x'.s, .slice x'.ia x'.items.length x'.ic, .slice x'.ta x'.tail.length x'.tc] 27)
        have hbA : Below wr.heap.size wr (w1.alloc (Obj.cells #[.int .i64 x'.k, .bool x'.g, .slice x'.la x'.ln x'.lc, .bool x'.bb, .string x'.s, .slice x'.ia x'.items.length x'.ic, .slice x'.ta x'.tail.length x'.tc] 27)) := b1.trans (hba.mono (by omega))
        have hx9 : x'.items.length ≤ 200000 := items_bd x' _ _ hsh HSZ.out
        have hPA : HeldP (w1.alloc (Obj.cells #[.int .i64 x'.k, .bool x'.g, .slice x'.la x'.ln x'.lc, .bool x'.bb, .string x'.s, .slice x'.ia x'.items.length x'.ic, .slice x'.ta x'.tail.length x'.tc] 27)) (Fresh (w1.alloc (Obj.cells #[.int .i64 x'.k, .bool x'.g, .slice x'.la x'.ln x'.lc, .bool x'.bb, .string x'.s, .slice x'.ia x'.items.length x'.ic, .slice x'.ta x'.tail.length x'.tc] 27)) wr.heap.size) x' := hP.below hba (Nat.le_refl _)
        obtain ⟨n0, n1, n2, n3, n4, n5, n6⟩ := cells7 kN
        obtain ⟨r0, r1, r2, r3, r4, r5, r6⟩ := cells7 kB1
        obtain ⟨f0, f1, f2, f3, f4, f5, f6⟩ := frozen7 kB1
        obtain ⟨o0, o1, o2, o3, o4, o5, o6⟩ := cells7 kB2
        obtain ⟨_, _, _, _, _, p5, p6⟩ := frozen7 kB2
        have HY := Lib.hid (And.intro hPA (And.intro hsh (And.intro (HZ.out.2.2.2.trans (hbA.mono (by omega))) (And.intro hbA (And.intro kB1 (And.intro kB2 kN))))))
        clear hP hsh b1 hba hbA hPA kB1 kB2 kN
        by_cases h0 : ts.length = 0
        · obtain ⟨ia, ic, rfl, _, _⟩ := row_parts HZ.out.2.2.1
          rw [h0] at o5
          go_wp2_with fail
          (try simp only [Exit.inBlock, Exit.then])
          refine bodyPost_ret (v := .agg #[.int .i64 x'.k, .bool x'.g, .slice x'.la x'.ln x'.lc, .bool x'.bb, .string x'.s, .slice x'.ia x'.items.length x'.ic, .slice x'.ta x'.tail.length x'.tc]) (results_d rfl rfl (by go_simp) (by go_simp) (by go_simp) (by go_simp) (by go_simp) (by go_simp <;> rfl) (by go_simp)) rfl ⟨x', rfl, ?_, ?_, ?_⟩
          · exact HeldP.low (U := w.heap.size + 3) (HY.out.1.keep (Nat.le_refl _) fun q hq => ⟨hq.low (by omega), rfl⟩) (set7_low (Low.refl w.heap.size (w.heap.size + 3) _) (by omega) (by omega)) (by omega)
          · have h := kD.out
            rw [List.length_eq_zero_iff.1 h0, shapes_nil, List.nil_append, ← HNY.out.2] at h
            exact HY.out.2.1.trans h
          · exact set7_below HY.out.2.2.1 (by omega)
        · have hts : shapes ts ≠ [] := fun h => h0 (by rw [← shapes_length, h]; rfl)
          have e6 : (((ts.length : Nat) : Int) == 0) = false := beq_eq_false_iff_ne.2 (by omega)
          have hts1 : 1 ≤ ts.length := by omega
          have hts9 : ts.length ≤ 100000 := by omega
          have hown := own_below7 HZ.out.2.2.1.1 HY.out.2.2.2.1
          have HAL := Lib.hid (show AllP (w1.alloc (Obj.cells #[.int .i64 x'.k, .bool x'.g, .slice x'.la x'.ln x'.lc, .bool x'.bb, .string x'.s, .slice x'.ia x'.items.length x'.ic, .slice x'.ta x'.tail.length x'.tc] 27)) (fun q => Fresh (w1.alloc (Obj.cells #[.int .i64 x'.k, .bool x'.g, .slice x'.la x'.ln x'.lc, .bool x'.bb, .string x'.s, .slice x'.ia x'.items.length x'.ic, .slice x'.ta x'.tail.length x'.tc] 27)) (w.heap.size + 3) q ∧ q < wr.heap.size ∧ V.ownBlock ≠ some q) ts from
            HZ.out.2.2.1.2.keep HY.out.2.2.2.1.size fun q hq => ⟨⟨hq.1.same (HY.out.2.2.2.1.block q hq.1.lt), hq.1.lt, hq.2⟩, HY.out.2.2.2.1.block q hq.1.lt⟩)
          by_cases hx5 : x'.k = 5
          · have hj := close_join (shapes ts) _ _ x' (HY.out.2.1.trans HNY.out.2) hx5 HNY.out.1
            rw [kD.out] at hj
            have HJ := Lib.hid hj
            have q5' : (x'.k == 5) = true := beq_iff_eq.2 hx5
            clear hj hx5 h0 q5
            obtain ⟨ia, ic, hVe, hsp, hli⟩ := row_parts HZ.out.2.2.1
            generalize hmm : ts.length = m at *
            have HMM := Lib.hid hmm
            have HO := Lib.hid hown
            have HVE := Lib.hid (And.intro hVe (And.intro hsp hli))
            clear hown hmm hsp hli
            obtain ⟨i0, hi0, hz0, hz1', hz2⟩ := info_parts infoD
            obtain hxi | ⟨ad, hxi⟩ : x'.ia = none ∨ ∃ ad, x'.ia = some ad := by cases x'.ia <;> simp
            · have hn0 : x'.items.length = 0 := by
                rcases Nat.eq_zero_or_pos x'.items.length with h | h
                · exact h
                · have := (HY.out.1.2.1.2.2.1 h).1
                  rw [hxi] at this
                  cases this
              have hc0 : x'.ic = 0 := HY.out.1.2.1.2.2.2 hxi
              have n5n : (w1.alloc (Obj.cells #[.int .i64 x'.k, .bool x'.g, .slice x'.la x'.ln x'.lc, .bool x'.bb, .string x'.s, .slice x'.ia x'.items.length x'.ic, .slice x'.ta x'.tail.length x'.tc] 27)).cell? ⟨w1.heap.size, 5, none⟩ = some (.slice none 0 0) := by rw [n5, hxi, hn0, hc0]
              clear n5
              have HN0 := Lib.hid hn0
              clear hxi hn0 hc0
              rw [hVe] at o5
              clear hVe
              go_wp2_with (at_builtin; refine wpList_append_own_none rfl (.tmp 73) (.tmp 75) 25 rfl (w.heap.size + 3) 27 i0 7 Tryd.underlying25 hi0 _ m (cellsAll ts) rfl (HVE.out.1 ▸ HO.out) rfl ?_)
              (try simp only [Exit.inBlock, Exit.then])
              refine bodyPost_ret (v := .agg #[.int .i64 5, .bool false, .slice none 0 0, .bool false, .string ⟨#[]⟩, .slice ia m ic, .slice x'.ta x'.tail.length x'.tc]) (results_d rfl rfl (by go_simp) (by go_simp) (by go_simp) (by go_simp) (by go_simp) (by go_simp <;> rfl) (by go_simp)) rfl ⟨rowT ia ic ts x'.ta x'.tc x'.tail, by rw [← HMM.out]; rfl, ?_, ?_, ?_⟩
              · refine HeldP.low (L := w.heap.size) (U := w.heap.size + 3) (w := w1.alloc (Obj.cells #[.int .i64 x'.k, .bool x'.g, .slice x'.la x'.ln x'.lc, .bool x'.bb, .string x'.s, .slice x'.ia x'.items.length x'.ic, .slice x'.ta x'.tail.length x'.tc] 27)) (rowT_held ?_ ?_ ?_ ?_) (set7_low (((Low.refl w.heap.size (w.heap.size + 3) _).setCell (p := ⟨w.heap.size + 1 + 1, 5, none⟩) (by show w.heap.size ≤ w.heap.size + 1 + 1; omega) (by show w.heap.size + 1 + 1 < w.heap.size + 3; omega) _).setCell (p := ⟨w.heap.size + 1 + 1, 6, none⟩) (by show w.heap.size ≤ w.heap.size + 1 + 1; omega) (by show w.heap.size + 1 + 1 < w.heap.size + 3; omega) _) (by omega) (by omega)) (by omega)
                · rw [HMM.out]
                  exact HVE.out.2.1.mono fun q hq => hq.same (HY.out.2.2.2.1.block q hq.lt)
                · exact HVE.out.2.2.keep HY.out.2.2.2.1.size fun q hq => ⟨hq.same (HY.out.2.2.2.1.block q hq.lt), HY.out.2.2.2.1.block q hq.lt⟩
                · exact HY.out.1.2.2.1.mono fun q hq => hq.low (by omega)
                · exact HY.out.1.2.2.2.2.keep (Nat.le_refl _) fun q hq => ⟨hq.low (by omega), rfl⟩
              · rw [rowT_shape, HJ.out, List.length_eq_zero_iff.1 HN0.out, shapes_nil, List.append_nil]
              · exact set7_below ((HY.out.2.2.1.setCell (p := ⟨w.heap.size + 1 + 1, 5, none⟩) (by show w.heap.size ≤ w.heap.size + 1 + 1; omega) _).setCell (p := ⟨w.heap.size + 1 + 1, 6, none⟩) (by show w.heap.size ≤ w.heap.size + 1 + 1; omega) _) (by omega)
            · have n5n : (w1.alloc (Obj.cells #[.int .i64 x'.k, .bool x'.g, .slice x'.la x'.ln x'.lc, .bool x'.bb, .string x'.s, .slice x'.ia x'.items.length x'.ic, .slice x'.ta x'.tail.length x'.tc] 27)).cell? ⟨w1.heap.size, 5, none⟩ = some (.slice (some ad) x'.items.length x'.ic) := by rw [n5, hxi]
              clear n5
              have HN2 := Lib.hid (show ∀ j u, (cellsAll x'.items)[j]? = some u → (w1.alloc (Obj.cells #[.int .i64 x'.k, .bool x'.g, .slice x'.la x'.ln x'.lc, .bool x'.bb, .string x'.s, .slice x'.ia x'.items.length x'.ic, .slice x'.ta x'.tail.length x'.tc] 27)).cell? (ad.add j) = some u from by
                intro j u hj
                rcases Nat.eq_zero_or_pos x'.items.length with h | h
                · rw [List.length_eq_zero_iff.1 h] at hj
                  simp [cellsAll] at hj
                · have h1 := (HY.out.1.2.1.2.2.1 h).1
                  have h3 := Option.some.inj (hxi.symm.trans h1)
                  rw [h3, cell_add]
                  have h2 := cells_of_lies x'.items _ _ HY.out.1.2.2.2.1 j u hj
                  exact h2)
              clear hxi
              rw [hVe] at o5
              have hVo : V.ownBlock = Value.ownBlock (.slice ia m ic) := by rw [hVe]
              have HVO := Lib.hid hVo
              clear hVe hVo
              have hOI := HO.out
              rw [HVE.out.1] at hOI
              have HOI := Lib.hid hOI
              clear hOI
              go_wp2_with (at_builtin; refine wpList_append_own _ rfl (.tmp 73) (.tmp 75) 25 rfl (w.heap.size + 3) 27 i0 (.agg #[.int .i64 0, .bool false, .slice none 0 0, .bool false, .string ⟨#[]⟩, .slice none 0 0, .slice none 0 0]) 7 112 Tryd.underlying25 hi0 hz0 hz1' hz2 rfl (by decide) (.slice ia m ic) m (cellsAll ts) rfl ?h1 ad x'.items.length _ (cellsAll x'.items) rfl ?h2 ?h3 ?h4 ?h5 ?h6 ?h7 ?h8)
              case h1 => exact HOI.out
              case h2 => exact cellsAll_length _
              case h3 => exact HN2.out
              case h4 => exact cellsAll_one _
              case h5 => unfold maxLen; omega
              case h6 => omega
              case h7 => omega
              case h8 =>
                intro v1 w2 own2 grow2 _
                obtain ⟨gb2, c2', rfl, hgb2⟩ := own_open7 own2 (by omega)
                have hz2w := grow2.size
                have hk2 : ∀ q, q < (w1.alloc (Obj.cells #[.int .i64 x'.k, .bool x'.g, .slice x'.la x'.ln x'.lc, .bool x'.bb, .string x'.s, .slice x'.ia x'.items.length x'.ic, .slice x'.ta x'.tail.length x'.tc] 27)).heap.size → V.ownBlock ≠ some q → w2.heap[q]? = (w1.alloc (Obj.cells #[.int .i64 x'.k, .bool x'.g, .slice x'.la x'.ln x'.lc, .bool x'.bb, .string x'.s, .slice x'.ia x'.items.length x'.ic, .slice x'.ta x'.tail.length x'.tc] 27)).heap[q]? := (fun q h1 h2 => grow2.block q h1 (fun e => h2 (HVO.out.trans e.symm)))
                have mB1 := (hk2 (w.heap.size + 1) (by omega) (fun e => by have := (HVG.out _ e).1; omega)).trans HY.out.2.2.2.2.1
                have mB2 := (hk2 (w.heap.size + 1 + 1) (by omega) (fun e => by have := (HVG.out _ e).1; omega)).trans HY.out.2.2.2.2.2.1
                have mN := (hk2 w1.heap.size (by omega) (fun e => by have := (HVG.out _ e).2; omega)).trans HY.out.2.2.2.2.2.2
                obtain ⟨n0', n1', n2', n3', n4', n5', n6'⟩ := cells7 mN
                obtain ⟨r0', r1', r2', r3', r4', r5', r6'⟩ := cells7 mB1
                obtain ⟨f0', f1', f2', f3', f4', f5', f6'⟩ := frozen7 mB1
                obtain ⟨o0', o1', o2', o3', o4', o5', o6'⟩ := cells7 mB2
                obtain ⟨_, _, _, _, _, p5', p6'⟩ := frozen7 mB2
                have HG := Lib.hid (And.intro own2 (And.intro grow2 hk2))
                clear own2 grow2 hk2 mB1 mB2 mN n0 n1 n2 n3 n4 n5n n6 r0 r1 r2 r3 r4 r5 r6 f0 f1 f2 f3 f4 f5 f6 o0 o1 o2 o3 o4 o5 o6 p5 p6
                go_wp2_with fail
                (try simp only [Exit.inBlock, Exit.then])
                refine bodyPost_ret (v := .agg #[.int .i64 5, .bool false, .slice none 0 0, .bool false, .string ⟨#[]⟩, .slice (some ⟨gb2, 0, none⟩) (m + x'.items.length) c2', .slice x'.ta x'.tail.length x'.tc]) (results_d rfl rfl (by go_simp) (by go_simp) (by go_simp) (by go_simp) (by go_simp) (by go_simp <;> rfl) (by go_simp)) rfl ⟨rowT (some ⟨gb2, 0, none⟩) c2' (ts ++ x'.items) x'.ta x'.tc x'.tail, rowT_val _ _ _ _ _ _ _ (by rw [List.length_append, HMM.out]), ?_, ?_, ?_⟩
                · exact HeldP.low (L := w.heap.size) (U := w.heap.size + 3) (w := w2) (join_held HAL.out HY.out.1 HG.out.2.2 HVG.out hz2w hszX HG.out.1 HMM.out) (set7_low (((Low.refl w.heap.size (w.heap.size + 3) _).setCell (p := ⟨w.heap.size + 1 + 1, 5, none⟩) (by show w.heap.size ≤ w.heap.size + 1 + 1; omega) (by show w.heap.size + 1 + 1 < w.heap.size + 3; omega) _).setCell (p := ⟨w.heap.size + 1 + 1, 6, none⟩) (by show w.heap.size ≤ w.heap.size + 1 + 1; omega) (by show w.heap.size + 1 + 1 < w.heap.size + 3; omega) _) (by omega) (by omega)) (by omega)
                · rw [rowT_shape, HJ.out, shapes_append]
                · have hb2 : Below w.heap.size w w2 := HY.out.2.2.1.grown HG.out.2.1 (by omega) (fun q hq => by have := (HVG.out q (HVO.out.trans hq)).1; omega)
                  exact set7_below ((hb2.setCell (p := ⟨w.heap.size + 1 + 1, 5, none⟩) (by show w.heap.size ≤ w.heap.size + 1 + 1; omega) _).setCell (p := ⟨w.heap.size + 1 + 1, 6, none⟩) (by show w.heap.size ≤ w.heap.size + 1 + 1; omega) _) (by omega)
          · have hj := close_dot (shapes ts) hts _ _ x' (HY.out.2.1.trans HNY.out.2) hx5
            rw [kD.out] at hj
            have HJ := Lib.hid hj
            have q5' : (x'.k == 5) = false := beq_eq_false_iff_ne.2 hx5
            clear hj hx5 h0 q5
            obtain ⟨ia, ic, rfl, hsp, hli⟩ := row_parts HZ.out.2.2.1
            generalize hmm : ts.length = m at *
            have HMM := Lib.hid hmm
            have HVE := Lib.hid (And.intro hsp hli)
            clear hown hmm hsp hli
            have hbb : Below (w1.alloc (Obj.cells #[.int .i64 x'.k, .bool x'.g, .slice x'.la x'.ln x'.lc, .bool x'.bb, .string x'.s, .slice x'.ia x'.items.length x'.ic, .slice x'.ta x'.tail.length x'.tc] 27)).heap.size (w1.alloc (Obj.cells #[.int .i64 x'.k, .bool x'.g, .slice x'.la x'.ln x'.lc, .bool x'.bb, .string x'.s, .slice x'.ia x'.items.length x'.ic, .slice x'.ta x'.tail.length x'.tc] 27)) ((w1.alloc (Obj.cells #[.int .i64 x'.k, .bool x'.g, .slice x'.la x'.ln x'.lc, .bool x'.bb, .string x'.s, .slice x'.ia x'.items.length x'.ic, .slice x'.ta x'.tail.length x'.tc] 27)).alloc (Obj.cells #[.int .i64 x'.k, .bool x'.g, .slice x'.la x'.ln x'.lc, .bool x'.bb, .string x'.s, .slice x'.ia x'.items.length x'.ic, .slice x'.ta x'.tail.length x'.tc] 27)) := (Below.refl _ _).alloc (Nat.le_refl _) _
            have kT := World.alloc_heap_new (w1.alloc (Obj.cells #[.int .i64 x'.k, .bool x'.g, .slice x'.la x'.ln x'.lc, .bool x'.bb, .string x'.s, .slice x'.ia x'.items.length x'.ic, .slice x'.ta x'.tail.length x'.tc] 27)) (Obj.cells #[.int .i64 x'.k, .bool x'.g, .slice x'.la x'.ln x'.lc, .bool x'.bb, .string x'.s, .slice x'.ia x'.items.length x'.ic, .slice x'.ta x'.tail.length x'.tc] 27)
            rw [hzA] at kT
            have hzB : ((w1.alloc (Obj.cells #[.int .i64 x'.k, .bool x'.g, .slice x'.la x'.ln x'.lc, .bool x'.bb, .string x'.s, .slice x'.ia x'.items.length x'.ic, .slice x'.ta x'.tail.length x'.tc] 27)).alloc (Obj.cells #[.int .i64 x'.k, .bool x'.g, .slice x'.la x'.ln x'.lc, .bool x'.bb, .string x'.s, .slice x'.ia x'.items.length x'.ic, .slice x'.ta x'.tail.length x'.tc] 27)).heap.size = w1.heap.size + 1 + 1 := by rw [World.size_alloc, hzA]
            have mB1 := (hbb.block (w.heap.size + 1) (by omega)).trans HY.out.2.2.2.2.1
            have mB2 := (hbb.block (w.heap.size + 1 + 1) (by omega)).trans HY.out.2.2.2.2.2.1
            obtain ⟨r0', r1', r2', r3', r4', r5', r6'⟩ := cells7 mB1
            obtain ⟨f0', f1', f2', f3', f4', f5', f6'⟩ := frozen7 mB1
            obtain ⟨o0', o1', o2', o3', o4', o5', o6'⟩ := cells7 mB2
            obtain ⟨_, _, _, _, _, p5', p6'⟩ := frozen7 mB2
            have HT2 := Lib.hid (And.intro hbb (And.intro kT hzB))
            clear hbb kT mB1 mB2
            go_wp2_with fail
            (try simp only [Exit.inBlock, Exit.then])
            refine bodyPost_ret (v := .agg #[.int .i64 5, .bool false, .slice none 0 0, .bool false, .string ⟨#[]⟩, .slice ia m ic, .slice (some ⟨w1.heap.size + 1, 0, none⟩) 1 1]) (results_d rfl rfl (by go_simp) (by go_simp) (by go_simp) (by go_simp) (by go_simp) (by go_simp <;> rfl) (by go_simp)) rfl ⟨rowT ia ic ts (some ⟨w1.heap.size + 1, 0, none⟩) 1 [x'], by rw [← HMM.out]; rfl, ?_, ?_, ?_⟩
            · have hA : Fresh ((w1.alloc (Obj.cells #[.int .i64 x'.k, .bool x'.g, .slice x'.la x'.ln x'.lc, .bool x'.bb, .string x'.s, .slice x'.ia x'.items.length x'.ic, .slice x'.ta x'.tail.length x'.tc] 27)).alloc (Obj.cells #[.int .i64 x'.k, .bool x'.g, .slice x'.la x'.ln x'.lc, .bool x'.bb, .string x'.s, .slice x'.ia x'.items.length x'.ic, .slice x'.ta x'.tail.length x'.tc] 27)) (w.heap.size + 3) (w1.heap.size + 1) := ⟨by omega, _, HT2.out.2.1, fun c fz e => by cases e⟩
              have hk3 : ∀ q, Fresh wr (w.heap.size + 3) q → Fresh ((w1.alloc (Obj.cells #[.int .i64 x'.k, .bool x'.g, .slice x'.la x'.ln x'.lc, .bool x'.bb, .string x'.s, .slice x'.ia x'.items.length x'.ic, .slice x'.ta x'.tail.length x'.tc] 27)).alloc (Obj.cells #[.int .i64 x'.k, .bool x'.g, .slice x'.la x'.ln x'.lc, .bool x'.bb, .string x'.s, .slice x'.ia x'.items.length x'.ic, .slice x'.ta x'.tail.length x'.tc] 27)) (w.heap.size + 3) q ∧ ((w1.alloc (Obj.cells #[.int .i64 x'.k, .bool x'.g, .slice x'.la x'.ln x'.lc, .bool x'.bb, .string x'.s, .slice x'.ia x'.items.length x'.ic, .slice x'.ta x'.tail.length x'.tc] 27)).alloc (Obj.cells #[.int .i64 x'.k, .bool x'.g, .slice x'.la x'.ln x'.lc, .bool x'.bb, .string x'.s, .slice x'.ia x'.items.length x'.ic, .slice x'.ta x'.tail.length x'.tc] 27)).heap[q]? = wr.heap[q]? := fun q hq => by
                have e := (HT2.out.1.block q (by have := hq.lt; omega)).trans (HY.out.2.2.2.1.block q hq.lt)
                exact ⟨hq.same e, e⟩
              refine HeldP.low (L := w.heap.size) (U := w.heap.size + 3) (w := (w1.alloc (Obj.cells #[.int .i64 x'.k, .bool x'.g, .slice x'.la x'.ln x'.lc, .bool x'.bb, .string x'.s, .slice x'.ia x'.items.length x'.ic, .slice x'.ta x'.tail.length x'.tc] 27)).alloc (Obj.cells #[.int .i64 x'.k, .bool x'.g, .slice x'.la x'.ln x'.lc, .bool x'.bb, .string x'.s, .slice x'.ia x'.items.length x'.ic, .slice x'.ta x'.tail.length x'.tc] 27)) (rowT_held ?_ ?_ ⟨by simp, by simp [maxLen], fun _ => ⟨rfl, hA⟩, fun e => by cases e⟩ ?_) (set7_low ((Low.refl w.heap.size (w.heap.size + 3) _).setCell (p := ⟨w.heap.size + 1 + 1, 6, none⟩) (by show w.heap.size ≤ w.heap.size + 1 + 1; omega) (by show w.heap.size + 1 + 1 < w.heap.size + 3; omega) _) (by omega) (by omega)) (by omega)
              · rw [HMM.out]
                exact HVE.out.1.mono fun q hq => (hk3 q hq).1
              · exact HVE.out.2.keep (by rw [HT2.out.2.2]; omega) fun q hq => hk3 q hq
              · refine liesPR_of hA [x'] 0 (fun z hz => ?_) fun j v hj => ?_
                · rw [List.mem_singleton.1 hz]
                  exact HY.out.1.below HT2.out.1 (by omega)
                · have h := cells_news HT2.out.2.1 j v (by rw [show cellsAll [x'] = x'.cells from List.append_nil _] at hj; exact hj)
                  rwa [cell_add] at h
            · rw [rowT_shape, shapes_cons, shapes_nil, HJ.out]
            · exact set7_below (((HY.out.2.2.1).trans (HT2.out.1.mono (by omega))).setCell (p := ⟨w.heap.size + 1 + 1, 6, none⟩) (by show w.heap.size ≤ w.heap.size + 1 + 1; omega) _) (by omega)
end Go.Proofs.YtgfamihldecmbaaDoor
