/-
  datum.normalList of any tree: the walk.
-/
import Derived.Test.YtgboiopkihemaaaNgm
namespace Go.Proofs.Ytgboiopkihemaaa
open Go.RowKit

set_option maxRecDepth 100000 in
set_option maxHeartbeats 12800000 in
theorem normalList_tree (M N : Nat) (ih : ∀ u : LT, u.size ≤ N → Tame u → ∀ w : World, M ≤ w.heap.size → Held w M u → Calls Try.prog 41 #[.agg #[.int .i64 u.k, .bool u.g, .slice u.la u.ln u.lc, .bool u.bb, .string u.s, .slice u.ia u.items.length u.ic, .slice u.ta u.tail.length u.tc]] w (NPost (normT u) w)) (hN : N + 1 ≤ 100000)
    (t : LT) (ht : t.size ≤ N + 1) (hk : t.k = 5) (hT : Tame t) (w : World) (hM : M ≤ w.heap.size) (hH : Held w M t) :
    Calls Try.prog 66 #[.agg #[.int .i64 t.k, .bool t.g, .slice t.la t.ln t.lc, .bool t.bb, .string t.s, .slice t.ia t.items.length t.ic, .slice t.ta t.tail.length t.tc]] w (NPost (normT t) w) := by
  have IH := Lib.hid ih
  have HT := Lib.hid (And.intro hT (And.intro hH (And.intro ht (show closeD (shapes [] ++ (spineT t).1, (spineT t).2) = normT t by rw [shapes_nil, List.nil_append]; rfl))))
  clear ih hT hH ht hk
  generalize normT t = d at *
  go_enter Try.func66, Try.ntmps66
  go_wp2_with fail
  go_loopg [] t.size (fun q wr => NgRel M w.heap.size (N + 1) d w q wr)
  case atStart =>
    refine ⟨t, .slice none 0 0, [], rfl, ?_, ?_, ?_, ⟨World.ownsRow_nil _ _ _ _, fun _ h => by cases h⟩, Lib.hid HT.out.2.2.2, by have := HT.out.2.2.1; simpa using this, Lib.hid ?_, Lib.hid HT.out.1, (((Below.refl _ w).alloc (Nat.le_refl _) _).alloc (by simp) _).alloc (by simp; omega) _, by simp⟩
    · exact (Below.heap_alloc _ _ _ (by simp; omega)).trans ((Below.heap_alloc _ _ _ (by simp)).trans (World.alloc_heap_new w _))
    · exact (Below.heap_alloc _ _ _ (by simp)).trans (by have := World.alloc_heap_new (w.alloc (Obj.cells #[.int .i64 t.k, .bool t.g, .slice t.la t.ln t.lc, .bool t.bb, .string t.s, .slice t.ia t.items.length t.ic, .slice t.ta t.tail.length t.tc] 27)) (Obj.cells #[.int .i64 0, .bool false, .slice none 0 0, .bool false, .string ⟨#[]⟩, .slice none 0 0, .slice none 0 0] 27); rwa [World.size_alloc] at this)
    · have := World.alloc_heap_new ((w.alloc (Obj.cells #[.int .i64 t.k, .bool t.g, .slice t.la t.ln t.lc, .bool t.bb, .string t.s, .slice t.ia t.items.length t.ic, .slice t.ta t.tail.length t.tc] 27)).alloc (Obj.cells #[.int .i64 0, .bool false, .slice none 0 0, .bool false, .string ⟨#[]⟩, .slice none 0 0, .slice none 0 0] 27)) (Obj.cells #[.int .i64 5, .bool false, .slice none 0 0, .bool false, .string ⟨#[]⟩, .slice none 0 0, .slice none 0 0] 27)
      rwa [World.size_alloc, World.size_alloc] at this
    · have hb : Below w.heap.size w (((w.alloc (Obj.cells #[.int .i64 t.k, .bool t.g, .slice t.la t.ln t.lc, .bool t.bb, .string t.s, .slice t.ia t.items.length t.ic, .slice t.ta t.tail.length t.tc] 27)).alloc (Obj.cells #[.int .i64 0, .bool false, .slice none 0 0, .bool false, .string ⟨#[]⟩, .slice none 0 0, .slice none 0 0] 27)).alloc (Obj.cells #[.int .i64 5, .bool false, .slice none 0 0, .bool false, .string ⟨#[]⟩, .slice none 0 0, .slice none 0 0] 27)) := (((Below.refl _ w).alloc (Nat.le_refl _) _).alloc (by simp) _).alloc (by simp; omega) _
      exact HT.out.2.1.keep hb.size fun q hq => hb.block q (by omega)
  case round =>
    obtain ⟨u, V, ts, hq, hB0, hB1, hB2, hR, HD, hlen, HU, HTU, hbel, hsz⟩ := hrel
    have hbs := fun j => Lib.cell_of_heap hB0 j
    have a0 := hbs 0; have a5 := hbs 5
    simp only [List.getElem?_toArray, List.getElem?_cons_zero, List.getElem?_cons_succ] at a0 a5
    clear hbs
    by_cases h5 : u.k = 5
    · rw [h5] at a0
      by_cases hn : 0 < u.items.length
      · obtain ⟨haa, hgM⟩ := HU.out.2.1.2.2.1 hn
        have hcap := HU.out.2.1.2.1
        have hcl := HU.out.2.1.1
        unfold maxLen at hcap
        rw [haa] at a5
        generalize hgb : blk u.ia = gb at *
        generalize hgo : ofs u.ia = go at *
        generalize hni : u.items.length = n at *
        have HX := Lib.hid (And.intro hB0 (And.intro hB1 (And.intro hB2 (And.intro hR (And.intro hbel (And.intro hgb (And.intro hgo (And.intro haa (And.intro hni hq)))))))))
        clear hB0 hB1 hB2 hR hbel hgb hgo haa hni hq
        go_wp2_with fail
        go_loopw [13] (fun i wr => NiRel M w.heap.size (N + 1) u d w i wr) (fun i _ => n - (intOf i).toNat)
        case atStart =>
          refine ⟨0, V, ts, Nat.zero_le _, rfl, by have h := HX.out.1; rw [← HX.out.2.2.2.2.2.2.2.2.1] at h; exact h, HX.out.2.1, HX.out.2.2.1, HX.out.2.2.2.1, ?_, ?_, HU, HX.out.2.2.2.2.1, hsz⟩
          · have h := HD.out
            rw [spineT_eq, if_pos h5] at h
            exact Lib.hid h
          · have h1 := u.size_eq
            have h2 := sizes_ge u.items
            omega
        case round =>
          obtain ⟨k, V, ts, hk, rfl, kB0, kB1, kB2, kR, kD, klen, kU, kbel, hszX⟩ := hrel
          have hszu : u.size ≤ N + 1 := by omega
          clear a0 a5
          rw [HX.out.2.2.2.2.2.2.2.2.1] at hk klen
          by_cases hlt : k < n
          · have hku : k < u.items.length := by rw [HX.out.2.2.2.2.2.2.2.2.1]; exact hlt
            have hli := (liesR_iff _ _ _).1 kU.out.2.2.2.1 k hku
            rw [HX.out.2.2.2.2.2.1, HX.out.2.2.2.2.2.2.1] at hli
            obtain ⟨hgbM, hcell, hheld⟩ := lies_held.1 hli
            have hsz1 := sizes_mem hku
            have hszs := u.size_eq
            have htx := tameR_at _ k hku ((tame_eq u).1 HTU.out).2.1
            obtain ⟨x, hx⟩ : ∃ x, u.items[k] = x := ⟨_, rfl⟩
            rw [hx] at hcell hheld hsz1 htx
            rw [Nat.mul_comm 7 k] at hcell
            have d0 : wr.cell? ⟨gb, go + k * 7, none⟩ = some (.int .i64 x.k) := hcell 0 _ rfl
            have d1 : wr.cell? ⟨gb, go + k * 7 + 1, none⟩ = some (.bool x.g) := hcell 1 _ rfl
            have d2 : wr.cell? ⟨gb, go + k * 7 + 2, none⟩ = some (.slice x.la x.ln x.lc) := hcell 2 _ rfl
            have d3 : wr.cell? ⟨gb, go + k * 7 + 3, none⟩ = some (.bool x.bb) := hcell 3 _ rfl
            have d4 : wr.cell? ⟨gb, go + k * 7 + 4, none⟩ = some (.string x.s) := hcell 4 _ rfl
            have d5 : wr.cell? ⟨gb, go + k * 7 + 5, none⟩ = some (.slice x.ia x.items.length x.ic) := hcell 5 _ rfl
            have d6 : wr.cell? ⟨gb, go + k * 7 + 6, none⟩ = some (.slice x.ta x.tail.length x.tc) := hcell 6 _ rfl
            have hbw6 : Below wr.heap.size wr (wr.alloc (Obj.cells #[.int .i64 x.k, .bool x.g, .slice x.la x.ln x.lc, .bool x.bb, .string x.s, .slice x.ia x.items.length x.ic, .slice x.ta x.tail.length x.tc] 27)) := (Below.refl _ wr).alloc (Nat.le_refl _) _
            have hbelS := kbel.size
            have HC := Lib.hid (IH.out x (by omega) htx (wr.alloc (Obj.cells #[.int .i64 x.k, .bool x.g, .slice x.la x.ln x.lc, .bool x.bb, .string x.s, .slice x.ia x.items.length x.ic, .slice x.ta x.tail.length x.tc] 27)).drew (by show M ≤ (wr.alloc (Obj.cells #[.int .i64 x.k, .bool x.g, .slice x.la x.ln x.lc, .bool x.bb, .string x.s, .slice x.ia x.items.length x.ic, .slice x.ta x.tail.length x.tc] 27)).heap.size; have := hbw6.size; omega) (Held.keep (w := wr) hheld (by show wr.heap.size ≤ (wr.alloc (Obj.cells #[.int .i64 x.k, .bool x.g, .slice x.la x.ln x.lc, .bool x.bb, .string x.s, .slice x.ia x.items.length x.ic, .slice x.ta x.tail.length x.tc] 27)).heap.size; exact hbw6.size) fun q hq => (by show (wr.alloc (Obj.cells #[.int .i64 x.k, .bool x.g, .slice x.la x.ln x.lc, .bool x.bb, .string x.s, .slice x.ia x.items.length x.ic, .slice x.ta x.tail.length x.tc] 27)).heap[q]? = wr.heap[q]?; exact hbw6.block q (by omega))))
            clear hli hcell hheld hsz1 htx
            go_wp2_with fail
            have own6 : (wr.alloc (Obj.cells #[.int .i64 x.k, .bool x.g, .slice x.la x.ln x.lc, .bool x.bb, .string x.s, .slice x.ia x.items.length x.ic, .slice x.ta x.tail.length x.tc] 27)).ownsRow (w.heap.size + 3) 27 7 V ts.length (cellsAll ts) := kR.1.alloc _
            have e5 : (wr.alloc (Obj.cells #[.int .i64 x.k, .bool x.g, .slice x.la x.ln x.lc, .bool x.bb, .string x.s, .slice x.ia x.items.length x.ic, .slice x.ta x.tail.length x.tc] 27)).cell? ⟨w.heap.size + 1 + 1, 5, none⟩ = some V := (hbw6.cell (p := ⟨w.heap.size + 1 + 1, 5, none⟩) (by show w.heap.size + 1 + 1 < wr.heap.size; omega)).trans (by rw [Lib.cell_of_heap kB2]; rfl)
            have f5 : (wr.alloc (Obj.cells #[.int .i64 x.k, .bool x.g, .slice x.la x.ln x.lc, .bool x.bb, .string x.s, .slice x.ia x.items.length x.ic, .slice x.ta x.tail.length x.tc] 27)).frozen? ⟨w.heap.size + 1 + 1, 5, none⟩ = false := (hbw6.frozen (p := ⟨w.heap.size + 1 + 1, 5, none⟩) (by show w.heap.size + 1 + 1 < wr.heap.size; omega)).trans (Lib.frozen_of_heap kB2 5)
            have hc := fun j => Lib.cell_of_heap (World.alloc_heap_new wr (Obj.cells #[.int .i64 x.k, .bool x.g, .slice x.la x.ln x.lc, .bool x.bb, .string x.s, .slice x.ia x.items.length x.ic, .slice x.ta x.tail.length x.tc] 27)) j
            have g0 := hc 0; have g1 := hc 1; have g2 := hc 2; have g3 := hc 3; have g4 := hc 4; have g5 := hc 5; have g6 := hc 6
            have hz6 : (wr.alloc (Obj.cells #[.int .i64 x.k, .bool x.g, .slice x.la x.ln x.lc, .bool x.bb, .string x.s, .slice x.ia x.items.length x.ic, .slice x.ta x.tail.length x.tc] 27)).heap.size = wr.heap.size + 1 := World.size_alloc ..
            simp only [List.getElem?_toArray, List.getElem?_cons_zero, List.getElem?_cons_succ] at g0 g1 g2 g3 g4 g5 g6
            obtain ⟨W6, hW6⟩ : ∃ W6, wr.alloc (Obj.cells #[.int .i64 x.k, .bool x.g, .slice x.la x.ln x.lc, .bool x.bb, .string x.s, .slice x.ia x.items.length x.ic, .slice x.ta x.tail.length x.tc] 27) = W6 := ⟨_, rfl⟩
            rw [hW6] at own6 hbw6 e5 f5 g0 g1 g2 g3 g4 g5 g6 hz6 HC ⊢
            have HI := Lib.hid (And.intro kB0 (And.intro kB1 (And.intro kB2 (And.intro kbel hbw6))))
            have HO := Lib.hid own6
            have HR := Lib.hid kR
            have hVg : ∀ g, V.ownBlock = some g → w.heap.size + 3 ≤ g := fun g h => (kR.1.lt g h).1
            have neB : some (w.heap.size + 1 + 1) ≠ V.ownBlock := fun h => by have := kR.1.lt _ h.symm; omega
            have neI : some wr.heap.size ≠ V.ownBlock := fun h => by have := kR.1.lt _ h.symm; omega
            have hts9 : ts.length ≤ 100000 := by omega
            clear hc d0 d1 d2 d3 d4 d5 d6 kB0 kB1 kB2 kbel kR own6 hW6 hbw6 hVg
            generalize hmm : ts.length = m at *
            have HMM := Lib.hid hmm
            clear hmm
            obtain ⟨i0, hi0, hz0, hz1, hz2⟩ := info_parts infoD
            have hmix : Try.prog.follows .mixedOrders = true := by kernel_rfl
            have e5d : W6.drew.cell? ⟨w.heap.size + 1 + 1, 5, none⟩ = some V := e5
            have g0d := show W6.drew.cell? ⟨wr.heap.size, 0, none⟩ = _ from g0
            have g1d := show W6.drew.cell? ⟨wr.heap.size, 1, none⟩ = _ from g1
            have g2d := show W6.drew.cell? ⟨wr.heap.size, 2, none⟩ = _ from g2
            have g3d := show W6.drew.cell? ⟨wr.heap.size, 3, none⟩ = _ from g3
            have g4d := show W6.drew.cell? ⟨wr.heap.size, 4, none⟩ = _ from g4
            have g5d := show W6.drew.cell? ⟨wr.heap.size, 5, none⟩ = _ from g5
            have g6d := show W6.drew.cell? ⟨wr.heap.size, 6, none⟩ = _ from g6
            go_region_law
              (first
                | (refine step_call 41 #[.agg #[.int .i64 x.k, .bool x.g, .slice x.la x.ln x.lc, .bool x.bb, .string x.s, .slice x.ia x.items.length x.ic, .slice x.ta x.tail.length x.tc]] (by rfl) (by simp [execOp, Act.eval, go_sem]) (HC.out.mono ?_); rintro e w7 ⟨x', rfl, hP7, hsh7, b7⟩; refine ⟨_, rfl, ?_⟩; have c7 : Below W6.heap.size W6 w7 := (⟨b7.os, b7.tape, b7.output, b7.size, b7.block⟩); clear b7; have g7s := And.intro ((c7.cell (p := ⟨wr.heap.size, 0, none⟩) (by show wr.heap.size < W6.heap.size; omega)).trans g0) (And.intro ((c7.cell (p := ⟨wr.heap.size, 1, none⟩) (by show wr.heap.size < W6.heap.size; omega)).trans g1) (And.intro ((c7.cell (p := ⟨wr.heap.size, 2, none⟩) (by show wr.heap.size < W6.heap.size; omega)).trans g2) (And.intro ((c7.cell (p := ⟨wr.heap.size, 3, none⟩) (by show wr.heap.size < W6.heap.size; omega)).trans g3) (And.intro ((c7.cell (p := ⟨wr.heap.size, 4, none⟩) (by show wr.heap.size < W6.heap.size; omega)).trans g4) (And.intro ((c7.cell (p := ⟨wr.heap.size, 5, none⟩) (by show wr.heap.size < W6.heap.size; omega)).trans g5) ((c7.cell (p := ⟨wr.heap.size, 6, none⟩) (by show wr.heap.size < W6.heap.size; omega)).trans g6)))))); obtain ⟨q0, q1, q2, q3, q4, q5, q6⟩ := g7s; have e7 := (c7.cell (p := ⟨w.heap.size + 1 + 1, 5, none⟩) (by show w.heap.size + 1 + 1 < W6.heap.size; omega)).trans e5; have e7a : ∀ o : Obj, (w7.alloc o).cell? ⟨w.heap.size + 1 + 1, 5, none⟩ = some V := fun o => (World.cell?_of_block (w := w7) (Below.heap_alloc w7 o _ (by have := c7.size; show w.heap.size + 1 + 1 < w7.heap.size; omega))).trans e7; have HP7 := Lib.hid (And.intro hP7 hsh7); clear hP7 hsh7)
                | (refine step_append_lies _ (by rfl) (.tmp 18) (.tmp 21) 25 (by rfl) (w.heap.size + 3) 27 i0 (.agg #[.int .i64 0, .bool false, .slice none 0 0, .bool false, .string ⟨#[]⟩, .slice none 0 0, .slice none 0 0]) 7 112 Try.underlying25 hi0 hz0 hz1 hz2 rfl (by omega) V m (cellsAll ts) (by rfl) ((own_below7 HO.out c7).alloc _)
                    ⟨w7.heap.size, 0, none⟩ 1 1 x'.cells (by rfl) (by rfl) (cells_news (heap_alloc_new _ _)) (lt_one _) (by omega) (by unfold maxLen; omega) (by omega) (by have := c7.size; simp; omega) (w7.heap.size + 1) (by simp) ?_; intro gg cap w8 own8 hgrow8 hat hlt8; have e8 := after_app c7 hgrow8 e5 neB; have f8 := frozen_app (a := ⟨w.heap.size + 1 + 1, 5, none⟩) c7 hgrow8 (by show w.heap.size + 1 + 1 < W6.heap.size; omega) f5 neB; have h0 := after_app c7 hgrow8 g0 neI; have h1 := after_app c7 hgrow8 g1 neI; have h2 := after_app c7 hgrow8 g2 neI; have h3 := after_app c7 hgrow8 g3 neI; have h4 := after_app c7 hgrow8 g4 neI; have h5' := after_app c7 hgrow8 g5 neI; have h6 := after_app c7 hgrow8 g6 neI; have far8 : ∀ (x : Value) (j : Nat), (w8.setCell ⟨w.heap.size + 1 + 1, 5, none⟩ x).cell? ⟨wr.heap.size, j, none⟩ = w8.cell? ⟨wr.heap.size, j, none⟩ := fun x j => World.cell?_of_block (Below.heap_setCell _ _ _ _ (by show wr.heap.size ≠ w.heap.size + 1 + 1; omega)))
                | fail)
            all_goals
              go_wp2_with fail
              go_roundw
              case rel =>
                obtain rfl := HMM.out
                exact ni_next hku hM HI.out HR.out HP7.out.1 (by omega) kU.out hszX c7 hgrow8 hat own8 kD.out (by rw [hx]; exact HP7.out.2) (by rw [HX.out.2.2.2.2.2.2.2.2.1]; exact klen) _ (by omega)
              case measure => simp [intOf]; omega
          · obtain rfl : k = n := by omega
            replace kD := Lib.hid (show closeD (shapes ts ++ (spineR u.tail).1, (spineR u.tail).2) = d by have h := kD.out; rw [← HX.out.2.2.2.2.2.2.2.2.1, List.drop_length, normR_nil, List.nil_append] at h; exact h)
            have hgk : u.size = gk := HX.out.2.2.2.2.2.2.2.2.2
            have hszs := u.size_eq
            clear hlt hgM hcap hcl
            have hsz3 := hszX
            have hI5 := Lib.cell_of_heap kB0 6
            simp only [List.getElem?_toArray, List.getElem?_cons_zero, List.getElem?_cons_succ] at hI5
            by_cases ht0 : u.tail.length = 0
            · rw [ht0] at hI5
              obtain ⟨ia, ic, rfl, hsp, hli⟩ := row_parts kR
              have hos := fun j => Lib.cell_of_heap kB2 j
              have o0 := hos 0; have o1 := hos 1; have o2 := hos 2; have o3 := hos 3; have o4 := hos 4; have o5 := hos 5; have o6 := hos 6
              have hrs := fun j => Lib.cell_of_heap kB1 j
              have r0 := hrs 0; have r1 := hrs 1; have r2 := hrs 2; have r3 := hrs 3; have r4 := hrs 4; have r5 := hrs 5; have r6 := hrs 6
              have hrf := fun j => Lib.frozen_of_heap kB1 j
              have f0 := hrf 0; have f1 := hrf 1; have f2 := hrf 2; have f3 := hrf 3; have f4 := hrf 4; have f5 := hrf 5; have f6 := hrf 6
              simp only [List.getElem?_toArray, List.getElem?_cons_zero, List.getElem?_cons_succ] at o0 o1 o2 o3 o4 o5 o6 r0 r1 r2 r3 r4 r5 r6
              have HZ := Lib.hid (And.intro hsp (And.intro hli (And.intro kbel (show d = .mk 5 false [] false ⟨#[]⟩ (shapes ts) [] by
                have h := kD.out
                rw [List.length_eq_zero_iff.1 ht0, spineR_nil] at h
                simp only [List.append_nil] at h
                rw [← h, close_none]))))
              clear hos hrs hrf kB0 kB1 kB2 kR kbel hsp hli
              generalize hnt : ts.length = m at *
              have HM := Lib.hid hnt
              clear hnt
              go_wp2_with fail
              (try simp only [Exit.inBlock, Exit.then])
              refine bodyPost_ret (v := .agg #[.int .i64 5, .bool false, .slice none 0 0, .bool false, .string ⟨#[]⟩, .slice ia m ic, .slice none 0 0]) (results_d rfl rfl (by go_simp) (by go_simp) (by go_simp) (by go_simp) (by go_simp) (by go_simp <;> rfl) (by go_simp)) rfl ⟨rowT ia ic ts none 0 [], by rw [← HM.out]; rfl, ?_, ?_, ?_⟩
              · exact HeldP.low (rowT_held (by rw [HM.out]; exact HZ.out.1) HZ.out.2.1 (spotP_nil _) (by rw [liesPR_nil]; trivial)) (set7_low (Low.refl w.heap.size (w.heap.size + 3) _) (by omega) (by omega)) (by omega)
              · rw [rowT_shape, HZ.out.2.2.2, shapes_nil]
              · exact set7_below HZ.out.2.2.1 (by omega)
            · obtain ⟨y, ys, hy⟩ : ∃ y ys, u.tail = y :: ys := by
                cases hc : u.tail with
                | nil => exact absurd (by rw [hc]; rfl) ht0
                | cons y ys => exact ⟨y, ys, rfl⟩
              obtain ⟨hta, htM⟩ := kU.out.2.2.1.2.2.1 (by omega)
              have htc := kU.out.2.2.1.2.1
              have htl := kU.out.2.2.1.1
              unfold maxLen at htc
              have htR := kU.out.2.2.2.2
              rw [hy, liesR_cons] at htR
              obtain ⟨_, hyc, hyh⟩ := lies_held.1 htR.1
              rw [hta] at hI5
              have y0 : wr.cell? ⟨blk u.ta, ofs u.ta, none⟩ = some (.int .i64 y.k) := hyc 0 _ rfl
              have y1 : wr.cell? ⟨blk u.ta, ofs u.ta + 1, none⟩ = some (.bool y.g) := hyc 1 _ rfl
              have y2 : wr.cell? ⟨blk u.ta, ofs u.ta + 2, none⟩ = some (.slice y.la y.ln y.lc) := hyc 2 _ rfl
              have y3 : wr.cell? ⟨blk u.ta, ofs u.ta + 3, none⟩ = some (.bool y.bb) := hyc 3 _ rfl
              have y4 : wr.cell? ⟨blk u.ta, ofs u.ta + 4, none⟩ = some (.string y.s) := hyc 4 _ rfl
              have y5 : wr.cell? ⟨blk u.ta, ofs u.ta + 5, none⟩ = some (.slice y.ia y.items.length y.ic) := hyc 5 _ rfl
              have y6 : wr.cell? ⟨blk u.ta, ofs u.ta + 6, none⟩ = some (.slice y.ta y.tail.length y.tc) := hyc 6 _ rfl
              generalize blk u.ta = tb at *
              generalize ofs u.ta = to at *
              have htz : (((u.tail.length : Nat) : Int) == 0) = false := beq_eq_false_iff_ne.2 (by omega)
              have htp : 0 < u.tail.length := by omega
              have hlb : sizes u.tail = y.size + sizes ys := by rw [hy]; rfl
              generalize hnt : u.tail.length = m at *
              have hdf := fun j => Lib.frozen_of_heap kB0 j
              have f0 := hdf 0; have f1 := hdf 1; have f2 := hdf 2; have f3 := hdf 3; have f4 := hdf 4; have f5 := hdf 5; have f6 := hdf 6
              have hds := fun j => Lib.cell_of_heap kB0 j
              have d0 := hds 0; have d1 := hds 1; have d2 := hds 2; have d3 := hds 3; have d4 := hds 4; have d5 := hds 5
              simp only [List.getElem?_toArray, List.getElem?_cons_zero, List.getElem?_cons_succ] at d0 d1 d2 d3 d4 d5
              have HZ := Lib.hid (And.intro kB0 (And.intro kB1 (And.intro kB2 (And.intro kR (And.intro kbel (And.intro hy (And.intro hyh hnt)))))))
              clear kB0 kB1 kB2 kR kbel hdf hds hyc htR hyh hy ht0 hnt hta
              go_wp2_with fail
              go_roundg y.size
              case rel =>
                have hsame : ∀ k, k ≠ w.heap.size → (((((((wr.setCell ⟨w.heap.size, 0, none⟩ (.int .i64 y.k)).setCell ⟨w.heap.size, 1, none⟩ (.bool y.g)).setCell ⟨w.heap.size, 2, none⟩ (.slice y.la y.ln y.lc)).setCell ⟨w.heap.size, 3, none⟩ (.bool y.bb)).setCell ⟨w.heap.size, 4, none⟩ (.string y.s)).setCell ⟨w.heap.size, 5, none⟩ (.slice y.ia y.items.length y.ic)).setCell ⟨w.heap.size, 6, none⟩ (.slice y.ta y.tail.length y.tc)).heap[k]? = wr.heap[k]? := fun k hk => set7_other hk
                have hbw := set7_below (v0 := .int .i64 y.k) (v1 := .bool y.g) (v2 := .slice y.la y.ln y.lc) (v3 := .bool y.bb) (v4 := .string y.s) (v5 := .slice y.ia y.items.length y.ic) (v6 := .slice y.ta y.tail.length y.tc) HZ.out.2.2.2.2.1 (Nat.le_refl _)
                have hlw := set7_low (v0 := .int .i64 y.k) (v1 := .bool y.g) (v2 := .slice y.la y.ln y.lc) (v3 := .bool y.bb) (v4 := .string y.s) (v5 := .slice y.ia y.items.length y.ic) (v6 := .slice y.ta y.tail.length y.tc) (Low.refl w.heap.size (w.heap.size + 1) wr) (Nat.le_refl _) (by omega)
                have hz9 := hlw.1
                refine ⟨y, V, ts, rfl, set7 HZ.out.1, (hsame _ (by omega)).trans HZ.out.2.1, (hsame _ (by omega)).trans HZ.out.2.2.1, ⟨?_, ?_⟩, ?_, by omega, Lib.hid (HZ.out.2.2.2.2.2.2.1.keep hz9 fun q hq => hsame q (by omega)), ?_, hbw, by omega⟩
                · exact ownsRow_kept_low HZ.out.2.2.2.1.1 (by omega) hlw
                · exact HZ.out.2.2.2.1.2.keep hz9 fun q hq => ⟨⟨hq.1.same (hsame q (by have := hq.1.1; omega)), hq.2⟩, hsame q (by have := hq.1.1; omega)⟩
                · have h := kD.out
                  rw [HZ.out.2.2.2.2.2.1, spineR_cons] at h
                  exact Lib.hid h
                · have h := ((tame_eq u).1 HTU.out).2.2
                  rw [HZ.out.2.2.2.2.2.1] at h
                  exact Lib.hid h.1
              case measure => omega
      · have hn0 : u.items.length = 0 := by omega
        rw [hn0] at a5
        replace HD := Lib.hid (show closeD (shapes ts ++ (spineR u.tail).1, (spineR u.tail).2) = d by
          have h := HD.out
          rw [spineT_eq, if_pos h5, List.length_eq_zero_iff.1 hn0, normR_nil, List.nil_append] at h
          exact h)
        have HS := Lib.hid (And.intro hB0 (And.intro hB1 (And.intro hB2 (And.intro hR hbel))))
        clear hB0 hB1 hB2 hR hbel
        obtain ⟨wo, hwo⟩ : ∃ wo, wo = wr := ⟨_, rfl⟩
        rw [← hwo] at a0 a5 HS hsz HU ⊢
        clear hwo
        go_wp2_with fail
        go_loopw [13] (fun i ws => i = .int .i64 0 ∧ ws = wo) (fun _ _ => 0)
        case atStart => exact ⟨rfl, rfl⟩
        case round =>
          clear a0 a5
          obtain ⟨rfl, rfl⟩ := hrel
          obtain ⟨kB0, kB1, kB2, kR, kbel⟩ := HS.out
          have kD := HD
          have kU := HU
          have hszX := hsz
          have hgk := hq
          have hszs := u.size_eq
          have klen := hlen
          clear HS
          have hsz3 := hszX
          have hI5 := Lib.cell_of_heap kB0 6
          simp only [List.getElem?_toArray, List.getElem?_cons_zero, List.getElem?_cons_succ] at hI5
          by_cases ht0 : u.tail.length = 0
          · rw [ht0] at hI5
            obtain ⟨ia, ic, rfl, hsp, hli⟩ := row_parts kR
            have hos := fun j => Lib.cell_of_heap kB2 j
            have o0 := hos 0; have o1 := hos 1; have o2 := hos 2; have o3 := hos 3; have o4 := hos 4; have o5 := hos 5; have o6 := hos 6
            have hrs := fun j => Lib.cell_of_heap kB1 j
            have r0 := hrs 0; have r1 := hrs 1; have r2 := hrs 2; have r3 := hrs 3; have r4 := hrs 4; have r5 := hrs 5; have r6 := hrs 6
            have hrf := fun j => Lib.frozen_of_heap kB1 j
            have f0 := hrf 0; have f1 := hrf 1; have f2 := hrf 2; have f3 := hrf 3; have f4 := hrf 4; have f5 := hrf 5; have f6 := hrf 6
            simp only [List.getElem?_toArray, List.getElem?_cons_zero, List.getElem?_cons_succ] at o0 o1 o2 o3 o4 o5 o6 r0 r1 r2 r3 r4 r5 r6
            have HZ := Lib.hid (And.intro hsp (And.intro hli (And.intro kbel (show d = .mk 5 false [] false ⟨#[]⟩ (shapes ts) [] by
              have h := kD.out
              rw [List.length_eq_zero_iff.1 ht0, spineR_nil] at h
              simp only [List.append_nil] at h
              rw [← h, close_none]))))
            clear hos hrs hrf kB0 kB1 kB2 kR kbel hsp hli
            generalize hnt : ts.length = m at *
            have HM := Lib.hid hnt
            clear hnt
            go_wp2_with fail
            (try simp only [Exit.inBlock, Exit.then])
            refine bodyPost_ret (v := .agg #[.int .i64 5, .bool false, .slice none 0 0, .bool false, .string ⟨#[]⟩, .slice ia m ic, .slice none 0 0]) (results_d rfl rfl (by go_simp) (by go_simp) (by go_simp) (by go_simp) (by go_simp) (by go_simp <;> rfl) (by go_simp)) rfl ⟨rowT ia ic ts none 0 [], by rw [← HM.out]; rfl, ?_, ?_, ?_⟩
            · exact HeldP.low (rowT_held (by rw [HM.out]; exact HZ.out.1) HZ.out.2.1 (spotP_nil _) (by rw [liesPR_nil]; trivial)) (set7_low (Low.refl w.heap.size (w.heap.size + 3) _) (by omega) (by omega)) (by omega)
            · rw [rowT_shape, HZ.out.2.2.2, shapes_nil]
            · exact set7_below HZ.out.2.2.1 (by omega)
          · obtain ⟨y, ys, hy⟩ : ∃ y ys, u.tail = y :: ys := by
              cases hc : u.tail with
              | nil => exact absurd (by rw [hc]; rfl) ht0
              | cons y ys => exact ⟨y, ys, rfl⟩
            obtain ⟨hta, htM⟩ := kU.out.2.2.1.2.2.1 (by omega)
            have htc := kU.out.2.2.1.2.1
            have htl := kU.out.2.2.1.1
            unfold maxLen at htc
            have htR := kU.out.2.2.2.2
            rw [hy, liesR_cons] at htR
            obtain ⟨_, hyc, hyh⟩ := lies_held.1 htR.1
            rw [hta] at hI5
            have y0 : wr.cell? ⟨blk u.ta, ofs u.ta, none⟩ = some (.int .i64 y.k) := hyc 0 _ rfl
            have y1 : wr.cell? ⟨blk u.ta, ofs u.ta + 1, none⟩ = some (.bool y.g) := hyc 1 _ rfl
            have y2 : wr.cell? ⟨blk u.ta, ofs u.ta + 2, none⟩ = some (.slice y.la y.ln y.lc) := hyc 2 _ rfl
            have y3 : wr.cell? ⟨blk u.ta, ofs u.ta + 3, none⟩ = some (.bool y.bb) := hyc 3 _ rfl
            have y4 : wr.cell? ⟨blk u.ta, ofs u.ta + 4, none⟩ = some (.string y.s) := hyc 4 _ rfl
            have y5 : wr.cell? ⟨blk u.ta, ofs u.ta + 5, none⟩ = some (.slice y.ia y.items.length y.ic) := hyc 5 _ rfl
            have y6 : wr.cell? ⟨blk u.ta, ofs u.ta + 6, none⟩ = some (.slice y.ta y.tail.length y.tc) := hyc 6 _ rfl
            generalize blk u.ta = tb at *
            generalize ofs u.ta = to at *
            have htz : (((u.tail.length : Nat) : Int) == 0) = false := beq_eq_false_iff_ne.2 (by omega)
            have htp : 0 < u.tail.length := by omega
            have hlb : sizes u.tail = y.size + sizes ys := by rw [hy]; rfl
            generalize hnt : u.tail.length = m at *
            have hdf := fun j => Lib.frozen_of_heap kB0 j
            have f0 := hdf 0; have f1 := hdf 1; have f2 := hdf 2; have f3 := hdf 3; have f4 := hdf 4; have f5 := hdf 5; have f6 := hdf 6
            have hds := fun j => Lib.cell_of_heap kB0 j
            have d0 := hds 0; have d1 := hds 1; have d2 := hds 2; have d3 := hds 3; have d4 := hds 4; have d5 := hds 5
            simp only [List.getElem?_toArray, List.getElem?_cons_zero, List.getElem?_cons_succ] at d0 d1 d2 d3 d4 d5
            have HZ := Lib.hid (And.intro kB0 (And.intro kB1 (And.intro kB2 (And.intro kR (And.intro kbel (And.intro hy (And.intro hyh hnt)))))))
            clear kB0 kB1 kB2 kR kbel hdf hds hyc htR hyh hy ht0 hnt hta
            go_wp2_with fail
            go_roundg y.size
            case rel =>
              have hsame : ∀ k, k ≠ w.heap.size → (((((((wr.setCell ⟨w.heap.size, 0, none⟩ (.int .i64 y.k)).setCell ⟨w.heap.size, 1, none⟩ (.bool y.g)).setCell ⟨w.heap.size, 2, none⟩ (.slice y.la y.ln y.lc)).setCell ⟨w.heap.size, 3, none⟩ (.bool y.bb)).setCell ⟨w.heap.size, 4, none⟩ (.string y.s)).setCell ⟨w.heap.size, 5, none⟩ (.slice y.ia y.items.length y.ic)).setCell ⟨w.heap.size, 6, none⟩ (.slice y.ta y.tail.length y.tc)).heap[k]? = wr.heap[k]? := fun k hk => set7_other hk
              have hbw := set7_below (v0 := .int .i64 y.k) (v1 := .bool y.g) (v2 := .slice y.la y.ln y.lc) (v3 := .bool y.bb) (v4 := .string y.s) (v5 := .slice y.ia y.items.length y.ic) (v6 := .slice y.ta y.tail.length y.tc) HZ.out.2.2.2.2.1 (Nat.le_refl _)
              have hlw := set7_low (v0 := .int .i64 y.k) (v1 := .bool y.g) (v2 := .slice y.la y.ln y.lc) (v3 := .bool y.bb) (v4 := .string y.s) (v5 := .slice y.ia y.items.length y.ic) (v6 := .slice y.ta y.tail.length y.tc) (Low.refl w.heap.size (w.heap.size + 1) wr) (Nat.le_refl _) (by omega)
              have hz9 := hlw.1
              refine ⟨y, V, ts, rfl, set7 HZ.out.1, (hsame _ (by omega)).trans HZ.out.2.1, (hsame _ (by omega)).trans HZ.out.2.2.1, ⟨?_, ?_⟩, ?_, by omega, Lib.hid (HZ.out.2.2.2.2.2.2.1.keep hz9 fun q hq => hsame q (by omega)), ?_, hbw, by omega⟩
              · exact ownsRow_kept_low HZ.out.2.2.2.1.1 (by omega) hlw
              · exact HZ.out.2.2.2.1.2.keep hz9 fun q hq => ⟨⟨hq.1.same (hsame q (by have := hq.1.1; omega)), hq.2⟩, hsame q (by have := hq.1.1; omega)⟩
              · have h := kD.out
                rw [HZ.out.2.2.2.2.2.1, spineR_cons] at h
                exact Lib.hid h
              · have h := ((tame_eq u).1 HTU.out).2.2
                rw [HZ.out.2.2.2.2.2.1] at h
                exact Lib.hid h.1
            case measure => omega
    · have hD2 : closeD (shapes ts, some (normT u)) = d := by
        have h := HD.out
        rw [spineT_eq, if_neg h5, List.append_nil, ← normT_leaf u h5] at h
        exact h
      have e5 : (u.k == 5) = false := beq_eq_false_iff_ne.2 h5
      obtain ⟨ia, ic, rfl, hsp, hli⟩ := row_parts hR
      have hds := fun j => Lib.cell_of_heap hB0 j
      have d1 := hds 1; have d2 := hds 2; have d3 := hds 3; have d4 := hds 4; have d6 := hds 6
      have hO5 := Lib.cell_of_heap hB2 5
      simp only [List.getElem?_toArray, List.getElem?_cons_zero, List.getElem?_cons_succ] at d1 d2 d3 d4 d6 hO5
      have HC := Lib.hid (normal_nl u h5 ((tame_eq u).1 HTU.out).1 HU.out.1.2.2 wr HU.out.1.1)
      have HZ := Lib.hid (And.intro hB1 (And.intro hB2 (And.intro hsp (And.intro hli (And.intro hbel hD2)))))
      clear hds hB0 hB1 hB2 hR hbel hsp hli hD2
      by_cases h0 : ts.length = 0
      · rw [h0] at hO5
        go_wp2_with fail
        refine HC.out.mono ?_
        rintro e w1 ⟨x', rfl, hP, hsh, b1⟩
        have hz1 := b1.size
        have kB1 := (b1.block (w.heap.size + 1) (by omega)).trans HZ.out.1
        have hrs := fun j => Lib.cell_of_heap kB1 j
        have r0 := hrs 0; have r1 := hrs 1; have r2 := hrs 2; have r3 := hrs 3; have r4 := hrs 4; have r5 := hrs 5; have r6 := hrs 6
        have hrf := fun j => Lib.frozen_of_heap kB1 j
        have f0 := hrf 0; have f1 := hrf 1; have f2 := hrf 2; have f3 := hrf 3; have f4 := hrf 4; have f5 := hrf 5; have f6 := hrf 6
        simp only [List.getElem?_toArray, List.getElem?_cons_zero, List.getElem?_cons_succ] at r0 r1 r2 r3 r4 r5 r6
        have HY := Lib.hid (And.intro hP (And.intro hsh (HZ.out.2.2.2.2.1.trans (b1.mono (by omega)))))
        clear hrs hrf kB1 hP hsh b1 a0 a5 d1 d2 d3 d4 d6 hO5
        go_wp2_with fail
        (try simp only [Exit.inBlock, Exit.then])
        refine bodyPost_ret (v := .agg #[.int .i64 x'.k, .bool x'.g, .slice x'.la x'.ln x'.lc, .bool x'.bb, .string x'.s, .slice x'.ia x'.items.length x'.ic, .slice x'.ta x'.tail.length x'.tc]) (results_d rfl rfl (by go_simp) (by go_simp) (by go_simp) (by go_simp) (by go_simp) (by go_simp <;> rfl) (by go_simp)) rfl ⟨x', rfl, ?_, ?_, ?_⟩
        · exact HeldP.low (U := w.heap.size + 3) (HY.out.1.keep (Nat.le_refl _) fun q hq => ⟨hq.low (by omega), rfl⟩) (set7_low (Low.refl w.heap.size (w.heap.size + 3) _) (by omega) (by omega)) (by omega)
        · have h := HZ.out.2.2.2.2.2
          rw [List.length_eq_zero_iff.1 h0, shapes_nil] at h
          exact HY.out.2.1.trans h
        · exact set7_below HY.out.2.2 (by omega)
      · have e6 : (((ts.length : Nat) : Int) == 0) = false := beq_eq_false_iff_ne.2 (by omega)
        have hts : shapes ts ≠ [] := fun h => h0 (by rw [← shapes_length, h]; rfl)
        generalize hnt : ts.length = m at *
        have HM := Lib.hid hnt
        clear hnt
        go_wp2_with fail
        refine HC.out.mono ?_
        rintro e w1 ⟨x', rfl, hP, hsh, b1⟩
        have hz1 := b1.size
        have hba : Below w1.heap.size w1 (w1.alloc (Obj.cells #[.int .i64 x'.k, .bool x'.g, .slice x'.la x'.ln x'.lc, .bool x'.bb, .string x'.s, .slice x'.ia x'.items.length x'.ic, .slice x'.ta x'.tail.length x'.tc] 27)) := (Below.refl _ _).alloc (Nat.le_refl _) _
        have kB1 := (hba.block (w.heap.size + 1) (by omega)).trans ((b1.block (w.heap.size + 1) (by omega)).trans HZ.out.1)
        have kB2 := (hba.block (w.heap.size + 1 + 1) (by omega)).trans ((b1.block (w.heap.size + 1 + 1) (by omega)).trans HZ.out.2.1)
        have kN := World.alloc_heap_new w1 (Obj.cells #[.int .i64 x'.k, .bool x'.g, .slice x'.la x'.ln x'.lc, .bool x'.bb, .string x'.s, .slice x'.ia x'.items.length x'.ic, .slice x'.ta x'.tail.length x'.tc] 27)
        have hrs := fun j => Lib.cell_of_heap kB1 j
        have r0 := hrs 0; have r1 := hrs 1; have r2 := hrs 2; have r3 := hrs 3; have r4 := hrs 4; have r5 := hrs 5; have r6 := hrs 6
        have hrf := fun j => Lib.frozen_of_heap kB1 j
        have f0 := hrf 0; have f1 := hrf 1; have f2 := hrf 2; have f3 := hrf 3; have f4 := hrf 4; have f5 := hrf 5; have f6 := hrf 6
        have hos := fun j => Lib.cell_of_heap kB2 j
        have o0 := hos 0; have o1 := hos 1; have o2 := hos 2; have o3 := hos 3; have o4 := hos 4; have o5 := hos 5; have o6 := hos 6
        have p6 := Lib.frozen_of_heap kB2 6
        simp only [List.getElem?_toArray, List.getElem?_cons_zero, List.getElem?_cons_succ] at r0 r1 r2 r3 r4 r5 r6 o0 o1 o2 o3 o4 o5 o6
        have hzA : (w1.alloc (Obj.cells #[.int .i64 x'.k, .bool x'.g, .slice x'.la x'.ln x'.lc, .bool x'.bb, .string x'.s, .slice x'.ia x'.items.length x'.ic, .slice x'.ta x'.tail.length x'.tc] 27)).heap.size = w1.heap.size + 1 := World.size_alloc ..
        have HY := Lib.hid (And.intro hP (And.intro hsh (And.intro ((HZ.out.2.2.2.2.1.trans (b1.mono (by omega))).trans (hba.mono (by omega))) (And.intro hba (And.intro b1 (And.intro kN hzA))))))
        clear hrs hrf hos kB1 kB2 kN hba hP hsh b1 a0 a5 d1 d2 d3 d4 d6 hO5 hzA
        go_wp2_with fail
        (try simp only [Exit.inBlock, Exit.then])
        refine bodyPost_ret (v := .agg #[.int .i64 5, .bool false, .slice none 0 0, .bool false, .string ⟨#[]⟩, .slice ia m ic, .slice (some ⟨w1.heap.size, 0, none⟩) 1 1]) (results_d rfl rfl (by go_simp) (by go_simp) (by go_simp) (by go_simp) (by go_simp) (by go_simp <;> rfl) (by go_simp)) rfl ⟨rowT ia ic ts (some ⟨w1.heap.size, 0, none⟩) 1 [x'], by rw [← HM.out]; rfl, ?_, ?_, ?_⟩
        · have hA : Fresh (w1.alloc (Obj.cells #[.int .i64 x'.k, .bool x'.g, .slice x'.la x'.ln x'.lc, .bool x'.bb, .string x'.s, .slice x'.ia x'.items.length x'.ic, .slice x'.ta x'.tail.length x'.tc] 27)) (w.heap.size + 3) w1.heap.size := Fresh.of (by omega) HY.out.2.2.2.2.2.1 (by decide)
          refine HeldP.low (L := w.heap.size) (U := w.heap.size + 3) (w := w1.alloc (Obj.cells #[.int .i64 x'.k, .bool x'.g, .slice x'.la x'.ln x'.lc, .bool x'.bb, .string x'.s, .slice x'.ia x'.items.length x'.ic, .slice x'.ta x'.tail.length x'.tc] 27)) (rowT_held ?_ ?_ ⟨by simp, by simp [maxLen], fun _ => ⟨rfl, hA⟩, fun e => by cases e⟩ ?_) (set7_low ((Low.refl w.heap.size (w.heap.size + 3) _).setCell (p := ⟨w.heap.size + 1 + 1, 6, none⟩) (by show w.heap.size ≤ w.heap.size + 1 + 1; omega) (by show w.heap.size + 1 + 1 < w.heap.size + 3; omega) _) (by omega) (by omega)) (by omega)
          · rw [HM.out]
            exact HZ.out.2.2.1.mono fun q hq => hq.same ((HY.out.2.2.2.1.block q (by have := hq.lt; omega)).trans (HY.out.2.2.2.2.1.block q hq.lt))
          · exact HZ.out.2.2.2.1.keep (by rw [HY.out.2.2.2.2.2.2]; omega) fun q hq => ⟨hq.same ((HY.out.2.2.2.1.block q (by have := hq.lt; omega)).trans (HY.out.2.2.2.2.1.block q hq.lt)), (HY.out.2.2.2.1.block q (by have := hq.lt; omega)).trans (HY.out.2.2.2.2.1.block q hq.lt)⟩
          · refine liesPR_of hA [x'] 0 (fun y hy => ?_) fun j v hj => ?_
            · rw [List.mem_singleton.1 hy]
              exact HY.out.1.below HY.out.2.2.2.1 (by omega)
            · have h := cells_news HY.out.2.2.2.2.2.1 j v (by rw [show cellsAll [x'] = x'.cells from List.append_nil _] at hj; exact hj)
              rwa [cell_add] at h
        · rw [rowT_shape, shapes_cons, shapes_nil, HY.out.2.1, ← close_some _ _ hts]
          exact HZ.out.2.2.2.2.2
        · exact set7_below (HY.out.2.2.1.setCell (p := ⟨w.heap.size + 1 + 1, 6, none⟩) (by show w.heap.size ≤ w.heap.size + 1 + 1; omega) _) (by omega)
end Go.Proofs.Ytgboiopkihemaaa
