/-
  core.At and core.Put, each with one answer; pavaneref08.At.
-/
import Derived.Test.YthdhdmmlmbkalaaGreatDoorJp12
import Derived.Test.YthdhdmmlmbkalaaGreatDoorJp11
set_option linter.unusedVariables false
set_option linter.unusedSimpArgs false
set_option linter.unusedSectionVars false
set_option linter.unnecessarySimpa false
namespace Go.Proofs.YthdhdmmlmbkalaaGreatDoor
open Go.RowKit

theorem at_two (M : Nat) (t : ET) (h1 : t.size ≤ 12000000) (h2 : t.depth ≤ 65536) (hT : TameE t) (pa : Option Addr) (pc : Nat) (path : List Int) (w : World) (hM : M ≤ w.heap.size) (hH : HeldE w M t) (hP : IntsAt w M pa pc path) :
    Calls Tryz.prog 8 #[.agg #[.int .i64 t.k, .int .i64 t.d.k, .bool t.d.g, .slice t.d.la t.d.ln t.d.lc, .bool t.d.bb, .string t.d.s, .slice t.d.ia t.d.items.length t.d.ic, .slice t.d.ta t.d.tail.length t.d.tc, .int .i64 t.v, .slice t.va t.vs.length t.vc, .bool t.rs, .int .i64 t.p, .slice t.ka t.kids.length t.kc], .slice pa path.length pc] w (TwoE (atZ (shapeE t) path) (atES (shapeE t) path).isSome w) := by
  refine (at_any M t h1 h2 hT pa pc path w hM hH hP).mono ?_
  rintro e w' ⟨hb, h⟩
  rcases h with ⟨hn, rfl⟩ | ⟨x, u, hs, rfl, hsh, htm, hhd⟩
  · have e1 : atES (shapeE t) path = none := by rw [atES_shape, hn]; rfl
    rw [show atZ (shapeE t) path = shapeE zE by rw [atZ, e1]; rfl, e1]
    exact ⟨zE, rfl, rfl, zE_tame, zE_held _ _, hb⟩
  · have e1 : atES (shapeE t) path = some (shapeE x) := by rw [atES_shape, hs]; rfl
    rw [show atZ (shapeE t) path = shapeE x by rw [atZ, e1]; rfl, e1]
    exact ⟨u, rfl, hsh, htm, hhd.held fun k hk => hk.lt, hb⟩
theorem put_two (M : Nat) (t x : ET) (h1 : t.size ≤ 12000000) (h2 : t.depth ≤ 65536) (hT : TameE t) (g1 : x.size ≤ 12000000) (g2 : x.depth ≤ 65536) (hX : TameE x) (pa : Option Addr) (pc : Nat) (path : List Int) (w : World) (hM : M ≤ w.heap.size) (hH : HeldE w M t) (hHX : HeldE w M x) (hP : IntsAt w M pa pc path) :
    Calls Tryz.prog 10 #[.agg #[.int .i64 t.k, .int .i64 t.d.k, .bool t.d.g, .slice t.d.la t.d.ln t.d.lc, .bool t.d.bb, .string t.d.s, .slice t.d.ia t.d.items.length t.d.ic, .slice t.d.ta t.d.tail.length t.d.tc, .int .i64 t.v, .slice t.va t.vs.length t.vc, .bool t.rs, .int .i64 t.p, .slice t.ka t.kids.length t.kc], .slice pa path.length pc, .agg #[.int .i64 x.k, .int .i64 x.d.k, .bool x.d.g, .slice x.d.la x.d.ln x.d.lc, .bool x.d.bb, .string x.d.s, .slice x.d.ia x.d.items.length x.d.ic, .slice x.d.ta x.d.tail.length x.d.tc, .int .i64 x.v, .slice x.va x.vs.length x.vc, .bool x.rs, .int .i64 x.p, .slice x.ka x.kids.length x.kc]] w (TwoE (putZ8 (shapeE t) path (shapeE x)) (putES (shapeE t) path (shapeE x)).isSome w) := by
  refine (put_any M t x h1 h2 hT g1 g2 hX pa pc path w hM hH hHX hP).mono ?_
  rintro e w' ⟨hb, h⟩
  rcases h with ⟨e1, rfl⟩ | ⟨s, u, e1, rfl, hsh, htm, hhd⟩
  · rw [show putZ8 (shapeE t) path (shapeE x) = shapeE zE by rw [putZ8, e1]; rfl, e1]
    exact ⟨zE, rfl, rfl, zE_tame, zE_held _ _, hb⟩
  · rw [show putZ8 (shapeE t) path (shapeE x) = s by rw [putZ8, e1]; rfl, e1]
    exact ⟨u, rfl, hsh, htm, hhd.held fun k hk => hk.lt, hb⟩
set_option maxRecDepth 100000 in
set_option maxHeartbeats 6400000 in
theorem rat_two (M : Nat) (t : ET) (hT : TameE t) (pa : Option Addr) (pc : Nat) (path : List Int) (w : World) (hM : M ≤ w.heap.size) (hH : HeldE w M t) (hP : IntsAt w M pa pc path) :
    Calls Tryz.prog 9 #[.agg #[.int .i64 t.k, .int .i64 t.d.k, .bool t.d.g, .slice t.d.la t.d.ln t.d.lc, .bool t.d.bb, .string t.d.s, .slice t.d.ia t.d.items.length t.d.ic, .slice t.d.ta t.d.tail.length t.d.tc, .int .i64 t.v, .slice t.va t.vs.length t.vc, .bool t.rs, .int .i64 t.p, .slice t.ka t.kids.length t.kc], .slice pa path.length pc] w (TwoE (atZ (shapeE t) path) (atES (shapeE t) path).isSome w) := by
  obtain ⟨W2, hW2, a0, hres, hz, hbel⟩ := two2 w (Obj.cells #[.int .i64 t.k, .int .i64 t.d.k, .bool t.d.g, .slice t.d.la t.d.ln t.d.lc, .bool t.d.bb, .string t.d.s, .slice t.d.ia t.d.items.length t.d.ic, .slice t.d.ta t.d.tail.length t.d.tc, .int .i64 t.v, .slice t.va t.vs.length t.vc, .bool t.rs, .int .i64 t.p, .slice t.ka t.kids.length t.kc] 31) (Obj.cells #[.int .i64 0, .int .i64 0, .bool false, .slice none 0 0, .bool false, .string ⟨#[]⟩, .slice none 0 0, .slice none 0 0, .int .i64 0, .slice none 0 0, .bool false, .int .i64 0, .slice none 0 0] 31)
  have hP2 := hP.keep (w' := W2) fun q hq => hbel.block q (by omega)
  have hpl := hP2.1.2.1
  have hpn := hP2.1.1
  unfold maxLen at hpl
  have HH := Lib.hid (And.intro hP2 (And.intro a0 (And.intro hres (And.intro hbel hz))))
  have HT := Lib.hid (And.intro hT (hH.below hM hbel))
  have hW := hW2.symm
  clear hH hP hP2 hT hbel hW2 a0 hres hz
  go_enter Tryz.func9, Tryz.ntmps9
  go_wp2_with fail
  go_loopw [10] (fun i wr => ∃ (k : Nat) (u : ET), k ≤ path.length ∧ i = .int .i64 k ∧ Hid (atES (shapeE t) path = atES (shapeE u) (path.drop k) ∧ TameE u ∧ HeldE wr M u ∧ wr.heap[w.heap.size]? = some (Obj.cells #[.int .i64 u.k, .int .i64 u.d.k, .bool u.d.g, .slice u.d.la u.d.ln u.d.lc, .bool u.d.bb, .string u.d.s, .slice u.d.ia u.d.items.length u.d.ic, .slice u.d.ta u.d.tail.length u.d.tc, .int .i64 u.v, .slice u.va u.vs.length u.vc, .bool u.rs, .int .i64 u.p, .slice u.ka u.kids.length u.kc] 31) ∧ wr.heap[w.heap.size + 1]? = some (Obj.cells #[.int .i64 0, .int .i64 0, .bool false, .slice none 0 0, .bool false, .string ⟨#[]⟩, .slice none 0 0, .slice none 0 0, .int .i64 0, .slice none 0 0, .bool false, .int .i64 0, .slice none 0 0] 31) ∧ Below w.heap.size w wr ∧ wr.heap.size = w.heap.size + 2)) (fun i _ => path.length - (intOf i).toNat)
  case atStart => exact ⟨0, t, Nat.zero_le _, rfl, Lib.hid ⟨by rw [List.drop_zero], HT.out.1, HT.out.2, HH.out.2.1, HH.out.2.2.1, HH.out.2.2.2.1, HH.out.2.2.2.2⟩⟩
  case round =>
    obtain ⟨k, u, hk, rfl, HK⟩ := hrel
    have hzr := HK.out.2.2.2.2.2.2
    clear hW
    have c0 : wr.cell? ⟨w.heap.size, 0, none⟩ = some (.int .i64 u.k) := by rw [Lib.cell_of_heap HK.out.2.2.2.1]; rfl
    have c1 : wr.cell? ⟨w.heap.size, 1, none⟩ = some (.int .i64 u.d.k) := by rw [Lib.cell_of_heap HK.out.2.2.2.1]; rfl
    have c2 : wr.cell? ⟨w.heap.size, 2, none⟩ = some (.bool u.d.g) := by rw [Lib.cell_of_heap HK.out.2.2.2.1]; rfl
    have c3 : wr.cell? ⟨w.heap.size, 3, none⟩ = some (.slice u.d.la u.d.ln u.d.lc) := by rw [Lib.cell_of_heap HK.out.2.2.2.1]; rfl
    have c4 : wr.cell? ⟨w.heap.size, 4, none⟩ = some (.bool u.d.bb) := by rw [Lib.cell_of_heap HK.out.2.2.2.1]; rfl
    have c5 : wr.cell? ⟨w.heap.size, 5, none⟩ = some (.string u.d.s) := by rw [Lib.cell_of_heap HK.out.2.2.2.1]; rfl
    have c6 : wr.cell? ⟨w.heap.size, 6, none⟩ = some (.slice u.d.ia u.d.items.length u.d.ic) := by rw [Lib.cell_of_heap HK.out.2.2.2.1]; rfl
    have c7 : wr.cell? ⟨w.heap.size, 7, none⟩ = some (.slice u.d.ta u.d.tail.length u.d.tc) := by rw [Lib.cell_of_heap HK.out.2.2.2.1]; rfl
    have c8 : wr.cell? ⟨w.heap.size, 8, none⟩ = some (.int .i64 u.v) := by rw [Lib.cell_of_heap HK.out.2.2.2.1]; rfl
    have c9 : wr.cell? ⟨w.heap.size, 9, none⟩ = some (.slice u.va u.vs.length u.vc) := by rw [Lib.cell_of_heap HK.out.2.2.2.1]; rfl
    have c10 : wr.cell? ⟨w.heap.size, 10, none⟩ = some (.bool u.rs) := by rw [Lib.cell_of_heap HK.out.2.2.2.1]; rfl
    have c11 : wr.cell? ⟨w.heap.size, 11, none⟩ = some (.int .i64 u.p) := by rw [Lib.cell_of_heap HK.out.2.2.2.1]; rfl
    have c12 : wr.cell? ⟨w.heap.size, 12, none⟩ = some (.slice u.ka u.kids.length u.kc) := by rw [Lib.cell_of_heap HK.out.2.2.2.1]; rfl
    have g0 : wr.frozen? ⟨w.heap.size, 0, none⟩ = false := Lib.frozen_of_heap HK.out.2.2.2.1 _
    have g1 : wr.frozen? ⟨w.heap.size, 1, none⟩ = false := Lib.frozen_of_heap HK.out.2.2.2.1 _
    have g2 : wr.frozen? ⟨w.heap.size, 2, none⟩ = false := Lib.frozen_of_heap HK.out.2.2.2.1 _
    have g3 : wr.frozen? ⟨w.heap.size, 3, none⟩ = false := Lib.frozen_of_heap HK.out.2.2.2.1 _
    have g4 : wr.frozen? ⟨w.heap.size, 4, none⟩ = false := Lib.frozen_of_heap HK.out.2.2.2.1 _
    have g5 : wr.frozen? ⟨w.heap.size, 5, none⟩ = false := Lib.frozen_of_heap HK.out.2.2.2.1 _
    have g6 : wr.frozen? ⟨w.heap.size, 6, none⟩ = false := Lib.frozen_of_heap HK.out.2.2.2.1 _
    have g7 : wr.frozen? ⟨w.heap.size, 7, none⟩ = false := Lib.frozen_of_heap HK.out.2.2.2.1 _
    have g8 : wr.frozen? ⟨w.heap.size, 8, none⟩ = false := Lib.frozen_of_heap HK.out.2.2.2.1 _
    have g9 : wr.frozen? ⟨w.heap.size, 9, none⟩ = false := Lib.frozen_of_heap HK.out.2.2.2.1 _
    have g10 : wr.frozen? ⟨w.heap.size, 10, none⟩ = false := Lib.frozen_of_heap HK.out.2.2.2.1 _
    have g11 : wr.frozen? ⟨w.heap.size, 11, none⟩ = false := Lib.frozen_of_heap HK.out.2.2.2.1 _
    have g12 : wr.frozen? ⟨w.heap.size, 12, none⟩ = false := Lib.frozen_of_heap HK.out.2.2.2.1 _
    have r100 : wr.cell? ⟨w.heap.size + 1, 0, none⟩ = some (.int .i64 0) := by rw [Lib.cell_of_heap HK.out.2.2.2.2.1]; rfl
    have r101 : wr.cell? ⟨w.heap.size + 1, 1, none⟩ = some (.int .i64 0) := by rw [Lib.cell_of_heap HK.out.2.2.2.2.1]; rfl
    have r102 : wr.cell? ⟨w.heap.size + 1, 2, none⟩ = some (.bool false) := by rw [Lib.cell_of_heap HK.out.2.2.2.2.1]; rfl
    have r103 : wr.cell? ⟨w.heap.size + 1, 3, none⟩ = some (.slice none 0 0) := by rw [Lib.cell_of_heap HK.out.2.2.2.2.1]; rfl
    have r104 : wr.cell? ⟨w.heap.size + 1, 4, none⟩ = some (.bool false) := by rw [Lib.cell_of_heap HK.out.2.2.2.2.1]; rfl
    have r105 : wr.cell? ⟨w.heap.size + 1, 5, none⟩ = some (.string ⟨#[]⟩) := by rw [Lib.cell_of_heap HK.out.2.2.2.2.1]; rfl
    have r106 : wr.cell? ⟨w.heap.size + 1, 6, none⟩ = some (.slice none 0 0) := by rw [Lib.cell_of_heap HK.out.2.2.2.2.1]; rfl
    have r107 : wr.cell? ⟨w.heap.size + 1, 7, none⟩ = some (.slice none 0 0) := by rw [Lib.cell_of_heap HK.out.2.2.2.2.1]; rfl
    have r108 : wr.cell? ⟨w.heap.size + 1, 8, none⟩ = some (.int .i64 0) := by rw [Lib.cell_of_heap HK.out.2.2.2.2.1]; rfl
    have r109 : wr.cell? ⟨w.heap.size + 1, 9, none⟩ = some (.slice none 0 0) := by rw [Lib.cell_of_heap HK.out.2.2.2.2.1]; rfl
    have r110 : wr.cell? ⟨w.heap.size + 1, 10, none⟩ = some (.bool false) := by rw [Lib.cell_of_heap HK.out.2.2.2.2.1]; rfl
    have r111 : wr.cell? ⟨w.heap.size + 1, 11, none⟩ = some (.int .i64 0) := by rw [Lib.cell_of_heap HK.out.2.2.2.2.1]; rfl
    have r112 : wr.cell? ⟨w.heap.size + 1, 12, none⟩ = some (.slice none 0 0) := by rw [Lib.cell_of_heap HK.out.2.2.2.2.1]; rfl
    have f100 : wr.frozen? ⟨w.heap.size + 1, 0, none⟩ = false := Lib.frozen_of_heap HK.out.2.2.2.2.1 _
    have f101 : wr.frozen? ⟨w.heap.size + 1, 1, none⟩ = false := Lib.frozen_of_heap HK.out.2.2.2.2.1 _
    have f102 : wr.frozen? ⟨w.heap.size + 1, 2, none⟩ = false := Lib.frozen_of_heap HK.out.2.2.2.2.1 _
    have f103 : wr.frozen? ⟨w.heap.size + 1, 3, none⟩ = false := Lib.frozen_of_heap HK.out.2.2.2.2.1 _
    have f104 : wr.frozen? ⟨w.heap.size + 1, 4, none⟩ = false := Lib.frozen_of_heap HK.out.2.2.2.2.1 _
    have f105 : wr.frozen? ⟨w.heap.size + 1, 5, none⟩ = false := Lib.frozen_of_heap HK.out.2.2.2.2.1 _
    have f106 : wr.frozen? ⟨w.heap.size + 1, 6, none⟩ = false := Lib.frozen_of_heap HK.out.2.2.2.2.1 _
    have f107 : wr.frozen? ⟨w.heap.size + 1, 7, none⟩ = false := Lib.frozen_of_heap HK.out.2.2.2.2.1 _
    have f108 : wr.frozen? ⟨w.heap.size + 1, 8, none⟩ = false := Lib.frozen_of_heap HK.out.2.2.2.2.1 _
    have f109 : wr.frozen? ⟨w.heap.size + 1, 9, none⟩ = false := Lib.frozen_of_heap HK.out.2.2.2.2.1 _
    have f110 : wr.frozen? ⟨w.heap.size + 1, 10, none⟩ = false := Lib.frozen_of_heap HK.out.2.2.2.2.1 _
    have f111 : wr.frozen? ⟨w.heap.size + 1, 11, none⟩ = false := Lib.frozen_of_heap HK.out.2.2.2.2.1 _
    have f112 : wr.frozen? ⟨w.heap.size + 1, 12, none⟩ = false := Lib.frozen_of_heap HK.out.2.2.2.2.1 _
    have hl0 : w.heap.size < wr.heap.size := by omega
    have hl1 : w.heap.size + 1 < wr.heap.size := by omega
    by_cases hlk : k < path.length
    · obtain ⟨pb, po, rfl, hpb⟩ : ∃ pb po, pa = some ⟨pb, po, none⟩ ∧ wr.cell? ⟨pb, po + k, none⟩ = some (.int .i64 path[k]) := by
        have hsp := HH.out.1.1.2.2.1 (by omega)
        refine ⟨_, _, hsp.1, (World.cell?_of_block (w := W2) (a := ⟨blk pa, ofs pa + k, none⟩) ?_).trans (HH.out.1.2 k hlk).1⟩
        exact (HK.out.2.2.2.2.2.1.block _ (Nat.lt_of_lt_of_le hsp.2 hM)).trans (HH.out.2.2.2.1.block _ (Nat.lt_of_lt_of_le hsp.2 hM)).symm
      have hdr := List.drop_eq_getElem_cons hlk
      obtain ⟨z, hz0⟩ : ∃ z, path[k] = z := ⟨_, rfl⟩
      rw [hz0] at hpb hdr
      by_cases hz1 : 0 ≤ z ∧ z < (u.kids.length : Int)
      · obtain ⟨q, rfl⟩ : ∃ q : Nat, z = q := ⟨z.toNat, by omega⟩
        have hq : q < u.kids.length := by omega
        have hheld := HK.out.2.2.1
        have hsp := hheld.2.1
        have hkm := hsp.2.1
        unfold maxLen at hkm
        have hgl : blk u.ka < M := (hsp.2.2.1 (by omega)).2
        obtain ⟨gb, go, hae, hR, hgb⟩ : ∃ gb go, u.ka = some ⟨gb, go, none⟩ ∧ LiesER wr M u.kids gb go ∧ gb < M := ⟨_, _, (hsp.2.2.1 (by omega)).1, hheld.2.2, hgl⟩
        have hli := (liesER_iff _ _ _).1 hR q hq
        obtain ⟨-, hcell, hheldq⟩ := liesE_held.1 hli
        have htq := tameER_at _ _ hq ((tameE_eq u).1 HK.out.2.1).2.2
        obtain ⟨v, hv⟩ : ∃ v, u.kids[q] = v := ⟨_, rfl⟩
        have hat : atES (shapeE t) path = atES (shapeE v) (path.drop (k + 1)) := by
          rw [HK.out.1, hdr, atES, dif_pos (by rw [kids_shape, shapesE_length]; exact ⟨by omega, by simpa using hq⟩)]
          congr 1
          have e1 := shapesE_at u.kids q hq
          rw [← hv]
          have e2 : (shapeE u).kids[q]? = some (shapeE u.kids[q]) := by rw [kids_shape]; exact e1
          simpa using Option.some.inj ((List.getElem?_eq_getElem (by rw [kids_shape, shapesE_length]; exact hq)).symm.trans e2)
        rw [hv] at hcell hheldq htq
        rw [Nat.mul_comm 13 q] at hcell
        have d0 : wr.cell? ⟨gb, go + q * 13, none⟩ = some (.int .i64 v.k) := hcell 0 _ rfl
        have d1 : wr.cell? ⟨gb, go + q * 13 + 1, none⟩ = some (.int .i64 v.d.k) := hcell 1 _ rfl
        have d2 : wr.cell? ⟨gb, go + q * 13 + 2, none⟩ = some (.bool v.d.g) := hcell 2 _ rfl
        have d3 : wr.cell? ⟨gb, go + q * 13 + 3, none⟩ = some (.slice v.d.la v.d.ln v.d.lc) := hcell 3 _ rfl
        have d4 : wr.cell? ⟨gb, go + q * 13 + 4, none⟩ = some (.bool v.d.bb) := hcell 4 _ rfl
        have d5 : wr.cell? ⟨gb, go + q * 13 + 5, none⟩ = some (.string v.d.s) := hcell 5 _ rfl
        have d6 : wr.cell? ⟨gb, go + q * 13 + 6, none⟩ = some (.slice v.d.ia v.d.items.length v.d.ic) := hcell 6 _ rfl
        have d7 : wr.cell? ⟨gb, go + q * 13 + 7, none⟩ = some (.slice v.d.ta v.d.tail.length v.d.tc) := hcell 7 _ rfl
        have d8 : wr.cell? ⟨gb, go + q * 13 + 8, none⟩ = some (.int .i64 v.v) := hcell 8 _ rfl
        have d9 : wr.cell? ⟨gb, go + q * 13 + 9, none⟩ = some (.slice v.va v.vs.length v.vc) := hcell 9 _ rfl
        have d10 : wr.cell? ⟨gb, go + q * 13 + 10, none⟩ = some (.bool v.rs) := hcell 10 _ rfl
        have d11 : wr.cell? ⟨gb, go + q * 13 + 11, none⟩ = some (.int .i64 v.p) := hcell 11 _ rfl
        have d12 : wr.cell? ⟨gb, go + q * 13 + 12, none⟩ = some (.slice v.ka v.kids.length v.kc) := hcell 12 _ rfl
        rw [hae] at c12
        have q1 : decide ((q : Int) < 0) = false := decide_eq_false (by omega)
        have q2 : decide ((u.kids.length : Int) ≤ (q : Int)) = false := decide_eq_false (by omega)
        have HN := Lib.hid (And.intro hat (And.intro htq (And.intro hheldq hgb)))
        clear hcell hheldq htq hat hli hR hheld hsp hgl hz1 hz0 hdr hv hae
        go_wp2_with fail
        obtain ⟨W, hW⟩ : ∃ W, (((((((((((((wr.setCell ⟨w.heap.size, 0, none⟩ (.int .i64 v.k)).setCell ⟨w.heap.size, 1, none⟩ (.int .i64 v.d.k)).setCell ⟨w.heap.size, 2, none⟩ (.bool v.d.g)).setCell ⟨w.heap.size, 3, none⟩ (.slice v.d.la v.d.ln v.d.lc)).setCell ⟨w.heap.size, 4, none⟩ (.bool v.d.bb)).setCell ⟨w.heap.size, 5, none⟩ (.string v.d.s)).setCell ⟨w.heap.size, 6, none⟩ (.slice v.d.ia v.d.items.length v.d.ic)).setCell ⟨w.heap.size, 7, none⟩ (.slice v.d.ta v.d.tail.length v.d.tc)).setCell ⟨w.heap.size, 8, none⟩ (.int .i64 v.v)).setCell ⟨w.heap.size, 9, none⟩ (.slice v.va v.vs.length v.vc)).setCell ⟨w.heap.size, 10, none⟩ (.bool v.rs)).setCell ⟨w.heap.size, 11, none⟩ (.int .i64 v.p)).setCell ⟨w.heap.size, 12, none⟩ (.slice v.ka v.kids.length v.kc)) = W := ⟨_, rfl⟩
        have y6 : W.heap[w.heap.size]? = some (Obj.cells #[.int .i64 v.k, .int .i64 v.d.k, .bool v.d.g, .slice v.d.la v.d.ln v.d.lc, .bool v.d.bb, .string v.d.s, .slice v.d.ia v.d.items.length v.d.ic, .slice v.d.ta v.d.tail.length v.d.tc, .int .i64 v.v, .slice v.va v.vs.length v.vc, .bool v.rs, .int .i64 v.p, .slice v.ka v.kids.length v.kc] 31) := by rw [← hW]; simp [World.setCell, Array.getElem?_modify, HK.out.2.2.2.1]
        have y7 : W.heap[w.heap.size + 1]? = some (Obj.cells #[.int .i64 0, .int .i64 0, .bool false, .slice none 0 0, .bool false, .string ⟨#[]⟩, .slice none 0 0, .slice none 0 0, .int .i64 0, .slice none 0 0, .bool false, .int .i64 0, .slice none 0 0] 31) := by rw [← hW]; simp [World.setCell, Array.getElem?_modify, HK.out.2.2.2.2.1]
        have zW : W.heap.size = w.heap.size + 2 := by rw [← hW]; simp [World.setCell, hzr]
        have hbW : Below w.heap.size w W := by rw [← hW]; exact (((((((((((((HK.out.2.2.2.2.2.1.setCell (p := ⟨w.heap.size, 0, none⟩) (by show w.heap.size ≤ w.heap.size; omega) _).setCell (p := ⟨w.heap.size, 1, none⟩) (by show w.heap.size ≤ w.heap.size; omega) _).setCell (p := ⟨w.heap.size, 2, none⟩) (by show w.heap.size ≤ w.heap.size; omega) _).setCell (p := ⟨w.heap.size, 3, none⟩) (by show w.heap.size ≤ w.heap.size; omega) _).setCell (p := ⟨w.heap.size, 4, none⟩) (by show w.heap.size ≤ w.heap.size; omega) _).setCell (p := ⟨w.heap.size, 5, none⟩) (by show w.heap.size ≤ w.heap.size; omega) _).setCell (p := ⟨w.heap.size, 6, none⟩) (by show w.heap.size ≤ w.heap.size; omega) _).setCell (p := ⟨w.heap.size, 7, none⟩) (by show w.heap.size ≤ w.heap.size; omega) _).setCell (p := ⟨w.heap.size, 8, none⟩) (by show w.heap.size ≤ w.heap.size; omega) _).setCell (p := ⟨w.heap.size, 9, none⟩) (by show w.heap.size ≤ w.heap.size; omega) _).setCell (p := ⟨w.heap.size, 10, none⟩) (by show w.heap.size ≤ w.heap.size; omega) _).setCell (p := ⟨w.heap.size, 11, none⟩) (by show w.heap.size ≤ w.heap.size; omega) _).setCell (p := ⟨w.heap.size, 12, none⟩) (by show w.heap.size ≤ w.heap.size; omega) _)
        have hhW : HeldE W M v := HN.out.2.2.1.keep (by omega) fun p hp => by rw [← hW]; simp [World.setCell, Array.getElem?_modify, show ¬ w.heap.size = p by omega]
        rw [hW]
        have HZ := Lib.hid (show atES (shapeE t) path = atES (shapeE v) (path.drop (k + 1)) ∧ TameE v ∧ HeldE W M v ∧ W.heap[w.heap.size]? = some (Obj.cells #[.int .i64 v.k, .int .i64 v.d.k, .bool v.d.g, .slice v.d.la v.d.ln v.d.lc, .bool v.d.bb, .string v.d.s, .slice v.d.ia v.d.items.length v.d.ic, .slice v.d.ta v.d.tail.length v.d.tc, .int .i64 v.v, .slice v.va v.vs.length v.vc, .bool v.rs, .int .i64 v.p, .slice v.ka v.kids.length v.kc] 31) ∧ W.heap[w.heap.size + 1]? = some (Obj.cells #[.int .i64 0, .int .i64 0, .bool false, .slice none 0 0, .bool false, .string ⟨#[]⟩, .slice none 0 0, .slice none 0 0, .int .i64 0, .slice none 0 0, .bool false, .int .i64 0, .slice none 0 0] 31) ∧ Below w.heap.size w W ∧ W.heap.size = w.heap.size + 2 from ⟨HN.out.1, HN.out.2.1, hhW, y6, y7, hbW, zW⟩)
        clear hW y6 y7 zW hbW hhW
        go_wp2_with fail
        go_roundw
        case rel => exact ⟨k + 1, v, by omega, by go_num, HZ⟩
        case measure => simp [intOf]; omega
      · have HN := Lib.hid (show atES (shapeE t) path = none by rw [HK.out.1, hdr, atES, dif_neg (by rw [kids_shape, shapesE_length]; exact fun y => hz1 ⟨y.1, by omega⟩)])
        have fin : ∀ w6 : World, (((((((((((((wr.setCell ⟨w.heap.size + 1, 0, none⟩ (.int .i64 0)).setCell ⟨w.heap.size + 1, 1, none⟩ (.int .i64 0)).setCell ⟨w.heap.size + 1, 2, none⟩ (.bool false)).setCell ⟨w.heap.size + 1, 3, none⟩ (.slice none 0 0)).setCell ⟨w.heap.size + 1, 4, none⟩ (.bool false)).setCell ⟨w.heap.size + 1, 5, none⟩ (.string ⟨#[]⟩)).setCell ⟨w.heap.size + 1, 6, none⟩ (.slice none 0 0)).setCell ⟨w.heap.size + 1, 7, none⟩ (.slice none 0 0)).setCell ⟨w.heap.size + 1, 8, none⟩ (.int .i64 0)).setCell ⟨w.heap.size + 1, 9, none⟩ (.slice none 0 0)).setCell ⟨w.heap.size + 1, 10, none⟩ (.bool false)).setCell ⟨w.heap.size + 1, 11, none⟩ (.int .i64 0)).setCell ⟨w.heap.size + 1, 12, none⟩ (.slice none 0 0)) = w6 → Below w.heap.size w w6 ∧ w6.heap[w.heap.size + 1]? = some (Obj.cells #[.int .i64 0, .int .i64 0, .bool false, .slice none 0 0, .bool false, .string ⟨#[]⟩, .slice none 0 0, .slice none 0 0, .int .i64 0, .slice none 0 0, .bool false, .int .i64 0, .slice none 0 0] 31) := fun w6 hw6 => by
          refine ⟨?_, ?_⟩
          · rw [← hw6]; exact (((((((((((((HK.out.2.2.2.2.2.1.setCell (p := ⟨w.heap.size + 1, 0, none⟩) (by show w.heap.size ≤ w.heap.size + 1; omega) _).setCell (p := ⟨w.heap.size + 1, 1, none⟩) (by show w.heap.size ≤ w.heap.size + 1; omega) _).setCell (p := ⟨w.heap.size + 1, 2, none⟩) (by show w.heap.size ≤ w.heap.size + 1; omega) _).setCell (p := ⟨w.heap.size + 1, 3, none⟩) (by show w.heap.size ≤ w.heap.size + 1; omega) _).setCell (p := ⟨w.heap.size + 1, 4, none⟩) (by show w.heap.size ≤ w.heap.size + 1; omega) _).setCell (p := ⟨w.heap.size + 1, 5, none⟩) (by show w.heap.size ≤ w.heap.size + 1; omega) _).setCell (p := ⟨w.heap.size + 1, 6, none⟩) (by show w.heap.size ≤ w.heap.size + 1; omega) _).setCell (p := ⟨w.heap.size + 1, 7, none⟩) (by show w.heap.size ≤ w.heap.size + 1; omega) _).setCell (p := ⟨w.heap.size + 1, 8, none⟩) (by show w.heap.size ≤ w.heap.size + 1; omega) _).setCell (p := ⟨w.heap.size + 1, 9, none⟩) (by show w.heap.size ≤ w.heap.size + 1; omega) _).setCell (p := ⟨w.heap.size + 1, 10, none⟩) (by show w.heap.size ≤ w.heap.size + 1; omega) _).setCell (p := ⟨w.heap.size + 1, 11, none⟩) (by show w.heap.size ≤ w.heap.size + 1; omega) _).setCell (p := ⟨w.heap.size + 1, 12, none⟩) (by show w.heap.size ≤ w.heap.size + 1; omega) _)
          · rw [← hw6]; simp [World.setCell, Array.getElem?_modify, HK.out.2.2.2.2.1]
        have FIN := Lib.hid fin
        clear fin
        by_cases hz2 : 0 ≤ z
        · have q1 : decide (z < 0) = false := decide_eq_false (by omega)
          have q2 : decide ((u.kids.length : Int) ≤ z) = true := decide_eq_true (by omega)
          clear hz1 hz0 hdr
          go_wp2_with fail
          (try simp only [Exit.inBlock, Exit.then])
          obtain ⟨w6, hw6⟩ : ∃ W, (((((((((((((wr.setCell ⟨w.heap.size + 1, 0, none⟩ (.int .i64 0)).setCell ⟨w.heap.size + 1, 1, none⟩ (.int .i64 0)).setCell ⟨w.heap.size + 1, 2, none⟩ (.bool false)).setCell ⟨w.heap.size + 1, 3, none⟩ (.slice none 0 0)).setCell ⟨w.heap.size + 1, 4, none⟩ (.bool false)).setCell ⟨w.heap.size + 1, 5, none⟩ (.string ⟨#[]⟩)).setCell ⟨w.heap.size + 1, 6, none⟩ (.slice none 0 0)).setCell ⟨w.heap.size + 1, 7, none⟩ (.slice none 0 0)).setCell ⟨w.heap.size + 1, 8, none⟩ (.int .i64 0)).setCell ⟨w.heap.size + 1, 9, none⟩ (.slice none 0 0)).setCell ⟨w.heap.size + 1, 10, none⟩ (.bool false)).setCell ⟨w.heap.size + 1, 11, none⟩ (.int .i64 0)).setCell ⟨w.heap.size + 1, 12, none⟩ (.slice none 0 0)) = W := ⟨_, rfl⟩
          obtain ⟨hb6, y6⟩ := FIN.out w6 hw6
          refine bodyPost_ret (v := .tuple #[(.agg #[.int .i64 0, .int .i64 0, .bool false, .slice none 0 0, .bool false, .string ⟨#[]⟩, .slice none 0 0, .slice none 0 0, .int .i64 0, .slice none 0 0, .bool false, .int .i64 0, .slice none 0 0]), .bool false]) (results_eb rfl rfl rfl (by rw [hw6, Lib.cell_of_heap y6]; rfl) (by rw [hw6, Lib.cell_of_heap y6]; rfl) (by rw [hw6, Lib.cell_of_heap y6]; rfl) (by rw [hw6, Lib.cell_of_heap y6]; rfl) (by rw [hw6, Lib.cell_of_heap y6]; rfl) (by rw [hw6, Lib.cell_of_heap y6]; rfl) (by rw [hw6, Lib.cell_of_heap y6]; rfl) (by rw [hw6, Lib.cell_of_heap y6]; rfl) (by rw [hw6, Lib.cell_of_heap y6]; rfl) (by rw [hw6, Lib.cell_of_heap y6]; rfl) (by rw [hw6, Lib.cell_of_heap y6]; rfl) (by rw [hw6, Lib.cell_of_heap y6]; rfl) (by rw [hw6, Lib.cell_of_heap y6]; rfl)) rfl ?_
          (try rw [hw6])
          rw [show atZ (shapeE t) path = shapeE zE by rw [atZ, HN.out]; rfl, HN.out]
          exact ⟨zE, rfl, rfl, zE_tame, zE_held _ _, hb6⟩
        · have q1 : decide (z < 0) = true := decide_eq_true (by omega)
          clear hz1 hz0 hdr
          go_wp2_with fail
          (try simp only [Exit.inBlock, Exit.then])
          obtain ⟨w6, hw6⟩ : ∃ W, (((((((((((((wr.setCell ⟨w.heap.size + 1, 0, none⟩ (.int .i64 0)).setCell ⟨w.heap.size + 1, 1, none⟩ (.int .i64 0)).setCell ⟨w.heap.size + 1, 2, none⟩ (.bool false)).setCell ⟨w.heap.size + 1, 3, none⟩ (.slice none 0 0)).setCell ⟨w.heap.size + 1, 4, none⟩ (.bool false)).setCell ⟨w.heap.size + 1, 5, none⟩ (.string ⟨#[]⟩)).setCell ⟨w.heap.size + 1, 6, none⟩ (.slice none 0 0)).setCell ⟨w.heap.size + 1, 7, none⟩ (.slice none 0 0)).setCell ⟨w.heap.size + 1, 8, none⟩ (.int .i64 0)).setCell ⟨w.heap.size + 1, 9, none⟩ (.slice none 0 0)).setCell ⟨w.heap.size + 1, 10, none⟩ (.bool false)).setCell ⟨w.heap.size + 1, 11, none⟩ (.int .i64 0)).setCell ⟨w.heap.size + 1, 12, none⟩ (.slice none 0 0)) = W := ⟨_, rfl⟩
          obtain ⟨hb6, y6⟩ := FIN.out w6 hw6
          refine bodyPost_ret (v := .tuple #[(.agg #[.int .i64 0, .int .i64 0, .bool false, .slice none 0 0, .bool false, .string ⟨#[]⟩, .slice none 0 0, .slice none 0 0, .int .i64 0, .slice none 0 0, .bool false, .int .i64 0, .slice none 0 0]), .bool false]) (results_eb rfl rfl rfl (by rw [hw6, Lib.cell_of_heap y6]; rfl) (by rw [hw6, Lib.cell_of_heap y6]; rfl) (by rw [hw6, Lib.cell_of_heap y6]; rfl) (by rw [hw6, Lib.cell_of_heap y6]; rfl) (by rw [hw6, Lib.cell_of_heap y6]; rfl) (by rw [hw6, Lib.cell_of_heap y6]; rfl) (by rw [hw6, Lib.cell_of_heap y6]; rfl) (by rw [hw6, Lib.cell_of_heap y6]; rfl) (by rw [hw6, Lib.cell_of_heap y6]; rfl) (by rw [hw6, Lib.cell_of_heap y6]; rfl) (by rw [hw6, Lib.cell_of_heap y6]; rfl) (by rw [hw6, Lib.cell_of_heap y6]; rfl) (by rw [hw6, Lib.cell_of_heap y6]; rfl)) rfl ?_
          (try rw [hw6])
          rw [show atZ (shapeE t) path = shapeE zE by rw [atZ, HN.out]; rfl, HN.out]
          exact ⟨zE, rfl, rfl, zE_tame, zE_held _ _, hb6⟩
    · obtain rfl : k = path.length := by omega
      have HN := Lib.hid (show atES (shapeE t) path = some (shapeE u) by rw [HK.out.1, List.drop_length]; rfl)
      have fin : ∀ w6 : World, (((((((((((((wr.setCell ⟨w.heap.size + 1, 0, none⟩ (.int .i64 u.k)).setCell ⟨w.heap.size + 1, 1, none⟩ (.int .i64 u.d.k)).setCell ⟨w.heap.size + 1, 2, none⟩ (.bool u.d.g)).setCell ⟨w.heap.size + 1, 3, none⟩ (.slice u.d.la u.d.ln u.d.lc)).setCell ⟨w.heap.size + 1, 4, none⟩ (.bool u.d.bb)).setCell ⟨w.heap.size + 1, 5, none⟩ (.string u.d.s)).setCell ⟨w.heap.size + 1, 6, none⟩ (.slice u.d.ia u.d.items.length u.d.ic)).setCell ⟨w.heap.size + 1, 7, none⟩ (.slice u.d.ta u.d.tail.length u.d.tc)).setCell ⟨w.heap.size + 1, 8, none⟩ (.int .i64 u.v)).setCell ⟨w.heap.size + 1, 9, none⟩ (.slice u.va u.vs.length u.vc)).setCell ⟨w.heap.size + 1, 10, none⟩ (.bool u.rs)).setCell ⟨w.heap.size + 1, 11, none⟩ (.int .i64 u.p)).setCell ⟨w.heap.size + 1, 12, none⟩ (.slice u.ka u.kids.length u.kc)) = w6 → Below w.heap.size w w6 ∧ w6.heap[w.heap.size + 1]? = some (Obj.cells #[.int .i64 u.k, .int .i64 u.d.k, .bool u.d.g, .slice u.d.la u.d.ln u.d.lc, .bool u.d.bb, .string u.d.s, .slice u.d.ia u.d.items.length u.d.ic, .slice u.d.ta u.d.tail.length u.d.tc, .int .i64 u.v, .slice u.va u.vs.length u.vc, .bool u.rs, .int .i64 u.p, .slice u.ka u.kids.length u.kc] 31) := fun w6 hw6 => by
        refine ⟨?_, ?_⟩
        · rw [← hw6]; exact (((((((((((((HK.out.2.2.2.2.2.1.setCell (p := ⟨w.heap.size + 1, 0, none⟩) (by show w.heap.size ≤ w.heap.size + 1; omega) _).setCell (p := ⟨w.heap.size + 1, 1, none⟩) (by show w.heap.size ≤ w.heap.size + 1; omega) _).setCell (p := ⟨w.heap.size + 1, 2, none⟩) (by show w.heap.size ≤ w.heap.size + 1; omega) _).setCell (p := ⟨w.heap.size + 1, 3, none⟩) (by show w.heap.size ≤ w.heap.size + 1; omega) _).setCell (p := ⟨w.heap.size + 1, 4, none⟩) (by show w.heap.size ≤ w.heap.size + 1; omega) _).setCell (p := ⟨w.heap.size + 1, 5, none⟩) (by show w.heap.size ≤ w.heap.size + 1; omega) _).setCell (p := ⟨w.heap.size + 1, 6, none⟩) (by show w.heap.size ≤ w.heap.size + 1; omega) _).setCell (p := ⟨w.heap.size + 1, 7, none⟩) (by show w.heap.size ≤ w.heap.size + 1; omega) _).setCell (p := ⟨w.heap.size + 1, 8, none⟩) (by show w.heap.size ≤ w.heap.size + 1; omega) _).setCell (p := ⟨w.heap.size + 1, 9, none⟩) (by show w.heap.size ≤ w.heap.size + 1; omega) _).setCell (p := ⟨w.heap.size + 1, 10, none⟩) (by show w.heap.size ≤ w.heap.size + 1; omega) _).setCell (p := ⟨w.heap.size + 1, 11, none⟩) (by show w.heap.size ≤ w.heap.size + 1; omega) _).setCell (p := ⟨w.heap.size + 1, 12, none⟩) (by show w.heap.size ≤ w.heap.size + 1; omega) _)
        · rw [← hw6]; simp [World.setCell, Array.getElem?_modify, HK.out.2.2.2.2.1]
      have FIN := Lib.hid fin
      clear fin
      go_wp2_with fail
      (try simp only [Exit.inBlock, Exit.then])
      obtain ⟨w6, hw6⟩ : ∃ W, (((((((((((((wr.setCell ⟨w.heap.size + 1, 0, none⟩ (.int .i64 u.k)).setCell ⟨w.heap.size + 1, 1, none⟩ (.int .i64 u.d.k)).setCell ⟨w.heap.size + 1, 2, none⟩ (.bool u.d.g)).setCell ⟨w.heap.size + 1, 3, none⟩ (.slice u.d.la u.d.ln u.d.lc)).setCell ⟨w.heap.size + 1, 4, none⟩ (.bool u.d.bb)).setCell ⟨w.heap.size + 1, 5, none⟩ (.string u.d.s)).setCell ⟨w.heap.size + 1, 6, none⟩ (.slice u.d.ia u.d.items.length u.d.ic)).setCell ⟨w.heap.size + 1, 7, none⟩ (.slice u.d.ta u.d.tail.length u.d.tc)).setCell ⟨w.heap.size + 1, 8, none⟩ (.int .i64 u.v)).setCell ⟨w.heap.size + 1, 9, none⟩ (.slice u.va u.vs.length u.vc)).setCell ⟨w.heap.size + 1, 10, none⟩ (.bool u.rs)).setCell ⟨w.heap.size + 1, 11, none⟩ (.int .i64 u.p)).setCell ⟨w.heap.size + 1, 12, none⟩ (.slice u.ka u.kids.length u.kc)) = W := ⟨_, rfl⟩
      obtain ⟨hb6, y6⟩ := FIN.out w6 hw6
      refine bodyPost_ret (v := .tuple #[(.agg #[.int .i64 u.k, .int .i64 u.d.k, .bool u.d.g, .slice u.d.la u.d.ln u.d.lc, .bool u.d.bb, .string u.d.s, .slice u.d.ia u.d.items.length u.d.ic, .slice u.d.ta u.d.tail.length u.d.tc, .int .i64 u.v, .slice u.va u.vs.length u.vc, .bool u.rs, .int .i64 u.p, .slice u.ka u.kids.length u.kc]), .bool true]) (results_eb rfl rfl rfl (by rw [hw6, Lib.cell_of_heap y6]; rfl) (by rw [hw6, Lib.cell_of_heap y6]; rfl) (by rw [hw6, Lib.cell_of_heap y6]; rfl) (by rw [hw6, Lib.cell_of_heap y6]; rfl) (by rw [hw6, Lib.cell_of_heap y6]; rfl) (by rw [hw6, Lib.cell_of_heap y6]; rfl) (by rw [hw6, Lib.cell_of_heap y6]; rfl) (by rw [hw6, Lib.cell_of_heap y6]; rfl) (by rw [hw6, Lib.cell_of_heap y6]; rfl) (by rw [hw6, Lib.cell_of_heap y6]; rfl) (by rw [hw6, Lib.cell_of_heap y6]; rfl) (by rw [hw6, Lib.cell_of_heap y6]; rfl) (by rw [hw6, Lib.cell_of_heap y6]; rfl)) rfl ?_
      (try rw [hw6])
      rw [show atZ (shapeE t) path = shapeE u by rw [atZ, HN.out]; rfl, HN.out]
      refine ⟨u, rfl, rfl, HK.out.2.1, HeldE.upM (HK.out.2.2.1.keep (by rw [← hw6]; simp [World.setCell]) fun p hp => (hb6.block p (by omega)).trans (HK.out.2.2.2.2.2.1.block p (by omega)).symm) (by have := hb6.size; omega), hb6⟩
end Go.Proofs.YthdhdmmlmbkalaaGreatDoor
