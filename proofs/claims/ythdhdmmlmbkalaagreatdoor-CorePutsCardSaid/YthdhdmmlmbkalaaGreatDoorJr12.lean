/-
  core.Put. Paths in expressions: what is put somewhere is there; put back, all is as it was.
-/
import Derived.Test.YthdhdmmlmbkalaaGreatDoorJr11
set_option linter.unusedVariables false
set_option linter.unusedSimpArgs false
set_option linter.unusedSectionVars false
set_option linter.unnecessarySimpa false
namespace Go.Proofs.YthdhdmmlmbkalaaGreatDoor
section
open Go.RowKit

def PutPost (t : ET) (path : List Int) (x : ET) (w : World) (e : Ending) (w' : World) : Prop := Below w.heap.size w w' ∧
  ((putES (shapeE t) path (shapeE x) = none ∧ e = .returned (.tuple #[(.agg #[.int .i64 0, .int .i64 0, .bool false, .slice none 0 0, .bool false, .string ⟨#[]⟩, .slice none 0 0, .slice none 0 0, .int .i64 0, .slice none 0 0, .bool false, .int .i64 0, .slice none 0 0]), .bool false])) ∨ ∃ s u, putES (shapeE t) path (shapeE x) = some s ∧ e = .returned (.tuple #[.agg #[.int .i64 u.k, .int .i64 u.d.k, .bool u.d.g, .slice u.d.la u.d.ln u.d.lc, .bool u.d.bb, .string u.d.s, .slice u.d.ia u.d.items.length u.d.ic, .slice u.d.ta u.d.tail.length u.d.tc, .int .i64 u.v, .slice u.va u.vs.length u.vc, .bool u.rs, .int .i64 u.p, .slice u.ka u.kids.length u.kc], .bool true]) ∧ shapeE u = s ∧ TameE u ∧ HeldEP w' (Fresh w' w.heap.size) u)
structure PutI (w wr : World) (O b o k : Nat) (t : ET) (path : List Int) (x v : ET) (f : ES → ES) : Prop where
  eq : ∀ sx, putES (shapeE t) path sx = (putES (shapeE v) (path.drop k) sx).map f
  hole : Hole wr (w.heap.size + 3) O b o f
  fresh : Fresh wr (w.heap.size + 3) b
  high : O ≤ b
  cells : ∀ j y, v.cells[j]? = some y → wr.cell? ⟨b, o + j, none⟩ = some y
  held : HeldEP wr (OldP wr (w.heap.size + 3) O) v
  tame : TameE v
  few : v.size ≤ t.size
  below : Below w.heap.size w wr
  box : wr.heap[w.heap.size + 1]? = some (Obj.cells #[.int .i64 x.k, .int .i64 x.d.k, .bool x.d.g, .slice x.d.la x.d.ln x.d.lc, .bool x.d.bb, .string x.d.s, .slice x.d.ia x.d.items.length x.d.ic, .slice x.d.ta x.d.tail.length x.d.tc, .int .i64 x.v, .slice x.va x.vs.length x.vc, .bool x.rs, .int .i64 x.p, .slice x.ka x.kids.length x.kc] 31)
  res : wr.heap[w.heap.size + 2]? = some (Obj.cells #[.int .i64 0, .int .i64 0, .bool false, .slice none 0 0, .bool false, .string ⟨#[]⟩, .slice none 0 0, .slice none 0 0, .int .i64 0, .slice none 0 0, .bool false, .int .i64 0, .slice none 0 0] 31)
  big : O < wr.heap.size
theorem PutI.start {w w4 : World} {t x u : ET} {path : List Int} (hz : w.heap.size + 3 ≤ w4.heap.size) (hu : HeldEP w4 (Fresh w4 (w.heap.size + 3)) u) (hT : TameE u) (hs : shapeE u = shapeE t) (hb : Below w.heap.size w w4) (hx : w4.heap[w.heap.size + 1]? = some (Obj.cells #[.int .i64 x.k, .int .i64 x.d.k, .bool x.d.g, .slice x.d.la x.d.ln x.d.lc, .bool x.d.bb, .string x.d.s, .slice x.d.ia x.d.items.length x.d.ic, .slice x.d.ta x.d.tail.length x.d.tc, .int .i64 x.v, .slice x.va x.vs.length x.vc, .bool x.rs, .int .i64 x.p, .slice x.ka x.kids.length x.kc] 31)) (hr : w4.heap[w.heap.size + 2]? = some (Obj.cells #[.int .i64 0, .int .i64 0, .bool false, .slice none 0 0, .bool false, .string ⟨#[]⟩, .slice none 0 0, .slice none 0 0, .int .i64 0, .slice none 0 0, .bool false, .int .i64 0, .slice none 0 0] 31)) :
    PutI w (w4.alloc (Obj.cells #[.int .i64 u.k, .int .i64 u.d.k, .bool u.d.g, .slice u.d.la u.d.ln u.d.lc, .bool u.d.bb, .string u.d.s, .slice u.d.ia u.d.items.length u.d.ic, .slice u.d.ta u.d.tail.length u.d.tc, .int .i64 u.v, .slice u.va u.vs.length u.vc, .bool u.rs, .int .i64 u.p, .slice u.ka u.kids.length u.kc] 31)) w4.heap.size w4.heap.size 0 0 t path x u id := by
  have h0 : (w4.alloc (Obj.cells #[.int .i64 u.k, .int .i64 u.d.k, .bool u.d.g, .slice u.d.la u.d.ln u.d.lc, .bool u.d.bb, .string u.d.s, .slice u.d.ia u.d.items.length u.d.ic, .slice u.d.ta u.d.tail.length u.d.tc, .int .i64 u.v, .slice u.va u.vs.length u.vc, .bool u.rs, .int .i64 u.p, .slice u.ka u.kids.length u.kc] 31)).heap[w4.heap.size]? = some (Obj.cells #[.int .i64 u.k, .int .i64 u.d.k, .bool u.d.g, .slice u.d.la u.d.ln u.d.lc, .bool u.d.bb, .string u.d.s, .slice u.d.ia u.d.items.length u.d.ic, .slice u.d.ta u.d.tail.length u.d.tc, .int .i64 u.v, .slice u.va u.vs.length u.vc, .bool u.rs, .int .i64 u.p, .slice u.ka u.kids.length u.kc] 31) := World.alloc_heap_new _ _
  have hz1 : (w4.alloc (Obj.cells #[.int .i64 u.k, .int .i64 u.d.k, .bool u.d.g, .slice u.d.la u.d.ln u.d.lc, .bool u.d.bb, .string u.d.s, .slice u.d.ia u.d.items.length u.d.ic, .slice u.d.ta u.d.tail.length u.d.tc, .int .i64 u.v, .slice u.va u.vs.length u.vc, .bool u.rs, .int .i64 u.p, .slice u.ka u.kids.length u.kc] 31)).heap.size = w4.heap.size + 1 := World.size_alloc ..
  have hk : ∀ k, k < w4.heap.size → (w4.alloc (Obj.cells #[.int .i64 u.k, .int .i64 u.d.k, .bool u.d.g, .slice u.d.la u.d.ln u.d.lc, .bool u.d.bb, .string u.d.s, .slice u.d.ia u.d.items.length u.d.ic, .slice u.d.ta u.d.tail.length u.d.tc, .int .i64 u.v, .slice u.va u.vs.length u.vc, .bool u.rs, .int .i64 u.p, .slice u.ka u.kids.length u.kc] 31)).heap[k]? = w4.heap[k]? := fun k hk => Below.heap_alloc _ _ _ hk
  refine ⟨fun sx => by rw [List.drop_zero, hs]; simp, Hole.root, Fresh.of hz h0 (by decide), Nat.le_refl _, fun j y hj => ?_, hu.keep (by omega) fun k hp => ⟨⟨hp.same (hk k hp.lt), hp.lt⟩, hk k hp.lt⟩, hT, by rw [← sizeES_shape, hs, sizeES_shape]; exact Nat.le_refl _, hb.alloc hb.size _, (hk _ (by omega)).trans hx, (hk _ (by omega)).trans hr, by omega⟩
  rw [Lib.cell_of_heap h0, Nat.zero_add]
  unfold ET.cells at hj
  simpa using hj
theorem PutI.kids {w wr : World} {O b o k : Nat} {t x v : ET} {path : List Int} {f : ES → ES} (h : PutI w wr O b o k t path x v f) (hn : 0 < v.kids.length) : ∃ gb go, v.ka = some ⟨gb, go, none⟩ ∧ gb < wr.heap.size ∧ ∀ j y, (cellsE v.kids)[j]? = some y → wr.cell? ⟨gb, go + j, none⟩ = some y := by
  obtain ⟨h1, h2⟩ := h.held.2.1.2.2.1 hn
  exact ⟨_, _, h1, h2.1.lt, cells_of_liesER _ _ _ (LiesEPR.lies (M := wr.heap.size) (fun k hk => hk.1.lt) _ _ _ h.held.2.2)⟩
theorem PutI.step {w wr w5 w6 : World} {O b o k g c q : Nat} {t x v : ET} {path : List Int} {f : ES → ES} (h : PutI w wr O b o k t path x v f) (hO : w.heap.size + 3 ≤ O) (hlk : k < path.length) (hz : path[k] = q) (hq : q < v.kids.length)
    (b5 : Below wr.heap.size wr w5) (hg : Fresh w5 wr.heap.size g) (h1 : v.kids.length ≤ c) (h2 : c ≤ maxLen) (hcl : ∀ j x, (cellsE v.kids)[j]? = some x → w5.cell? ⟨g, j, none⟩ = some x) (h6 : w5.setCell ⟨b, o + 12, none⟩ (.slice (some ⟨g, 0, none⟩) v.kids.length c) = w6) :
    ∃ f', PutI w w6 O g (q * 13) (k + 1) t path x v.kids[q] f' := by
  have hb := h.fresh.lt
  have hbig := h.big
  have hhigh := h.high
  obtain ⟨s1, s2, s3, s4, s5, s6, s7⟩ := Hole.step h.big hb h.high h.hole hO h.fresh h.cells h.held h.tame hq b5 hg h1 h2 hcl h6
  have hk : ∀ j, j < w.heap.size + 3 → w6.heap[j]? = wr.heap[j]? := fun j hj => s7.block j hj
  have hTT := (tameE_eq v).1 h.tame
  have hsl : q < (shapeE v).kids.length := by rw [shapeE_eq]; show q < (shapesE v.kids).length; rw [shapesE_length]; exact hq
  have hsk : (shapeE v).kids[q] = shapeE v.kids[q] := by
    have e1 := shapesE_at v.kids q hq
    have e2 : (shapeE v).kids = shapesE v.kids := by rw [shapeE_eq]; rfl
    rw [← e2, List.getElem?_eq_getElem hsl] at e1
    exact Option.some.inj e1
  refine ⟨_, fun sx => ?_, s1, s2, by omega, s5, s6, tameER_at _ _ hq hTT.2.2, by have := sizesE_mem hq; have := v.size_eq; have := h.few; omega, h.below.trans (s7.mono (by omega)), (hk _ (by omega)).trans h.box, (hk _ (by omega)).trans h.res, by omega⟩
  rw [h.eq sx, List.drop_eq_getElem_cons hlk, putES_kid hz hsl, hsk, Option.map_map]
  rfl
theorem PutI.no {w wr : World} {O b o k : Nat} {t x v : ET} {path : List Int} {f : ES → ES} (h : PutI w wr O b o k t path x v f) (hlk : k < path.length) (hz : ¬ (0 ≤ path[k] ∧ path[k] < (v.kids.length : Int))) (sx : ES) : putES (shapeE t) path sx = none := by
  rw [h.eq sx, List.drop_eq_getElem_cons hlk, putES_no (by rw [shapeE_eq]; show ¬ (_ ∧ path[k] < (((shapesE v.kids).length : Nat) : Int)); rw [shapesE_length]; exact hz)]
  rfl
theorem PutI.last {w wr w7 w8 : World} {O b o : Nat} {t x v u : ET} {path : List Int} {f : ES → ES} (h : PutI w wr O b o path.length t path x v f) (b7 : Below wr.heap.size wr w7) (hu : HeldEP w7 (Fresh w7 wr.heap.size) u) (hT : TameE u) (hO : w.heap.size + 3 ≤ O) (h8 : setAll w7 b o u.cells = w8) (hs : shapeE u = shapeE x) :
    ∃ r : ET, putES (shapeE t) path (shapeE x) = some (shapeE r) ∧ (∀ j y, r.cells[j]? = some y → w8.cell? ⟨O, j, none⟩ = some y) ∧ TameE r ∧ HeldEP w8 (Fresh w8 (w.heap.size + 3)) r ∧ Below (w.heap.size + 3) wr w8 := by
  have hb := h.fresh.lt
  have hhigh := h.high
  have z7 := b7.size
  have z8 : w8.heap.size = w7.heap.size := by rw [← h8, setAll_size]
  have hk8 : ∀ k, k ≠ b → w8.heap[k]? = w7.heap[k]? := fun k hk => by rw [← h8]; exact setAll_block b _ _ _ k hk
  have hb8 : Below (w.heap.size + 3) wr w8 := by rw [← h8]; exact (b7.mono (by omega)).trans (setAll_below b _ o w7 _ (by omega))
  have hF8 : Fresh w8 (w.heap.size + 3) b := by
    obtain ⟨f1, cs, T, f2, f3⟩ := h.fresh
    have f5 := (b7.block b hb).trans f2
    have key : ∀ (l : List Value) (o : Nat) (W : World) (cs : Array Value), W.heap[b]? = some (.cells cs T (0, 0)) → ∃ cs', (setAll W b o l).heap[b]? = some (.cells cs' T (0, 0)) := by
      intro l
      induction l with
      | nil => exact fun _ W cs h => ⟨cs, h⟩
      | cons y l ih =>
        intro o W cs hW
        rw [setAll]
        exact ih (o + 1) _ (cs.setIfInBounds o y) (by simp [World.setCell, Array.getElem?_modify, hW])
    obtain ⟨cs', h9⟩ := key u.cells o w7 cs f5
    exact ⟨f1, cs', T, by rw [← h8]; exact h9, f3⟩
  have hL8 : LiesEP w8 (Fresh w8 (w.heap.size + 3)) u b o := by
    refine liesEP_held.2 ⟨hF8, fun j y hj => ?_, hu.keep (by omega) fun k hp => ?_⟩
    · rw [← h8]
      refine setAll_here b _ o w7 (fun i hi => ?_) j y hj
      have hi13 : i < 13 := hi
      exact ⟨_, (b7.cell (p := ⟨b, o + i, none⟩) hb).trans (h.cells i (v.cells[i]'hi13) (List.getElem?_eq_getElem hi13))⟩
    · have := hp.1
      have e := hk8 k (by omega)
      exact ⟨(hp.same e).low (by omega), e⟩
  obtain ⟨r, r1, r2, r3⟩ := h.hole w8 u (by omega) (fun k k0 k1 => (hk8 k k1).trans (b7.block k k0)) (fun off ho => by
    rw [← h8, setAll_other b _ _ _ b off (fun e => ho ⟨e.2.1, by have := e.2.2; rw [show u.cells.length = 13 from rfl] at this; exact this⟩)]
    exact b7.cell (p := ⟨b, off, none⟩) hb) hF8 hT hL8
  obtain ⟨-, c1, c2⟩ := liesEP_held.1 r1
  refine ⟨r, ?_, fun j y hj => by have := c1 j y hj; rwa [Nat.zero_add] at this, r2, c2, hb8⟩
  rw [h.eq, List.drop_length, putES, Option.map_some, r3, hs]
set_option maxRecDepth 100000 in
set_option maxHeartbeats 3200000 in
theorem put_any (M : Nat) (t x : ET) (h1 : t.size ≤ 12000000) (h2 : t.depth ≤ 65536) (hT : TameE t) (h1x : x.size ≤ 12000000) (h2x : x.depth ≤ 65536) (hTx : TameE x) (pa : Option Addr) (pc : Nat) (path : List Int) (w : World) (hM : M ≤ w.heap.size) (hH : HeldE w M t) (hHx : HeldE w M x) (hP : IntsAt w M pa pc path) :
    Calls Tryz.prog 10 #[.agg #[.int .i64 t.k, .int .i64 t.d.k, .bool t.d.g, .slice t.d.la t.d.ln t.d.lc, .bool t.d.bb, .string t.d.s, .slice t.d.ia t.d.items.length t.d.ic, .slice t.d.ta t.d.tail.length t.d.tc, .int .i64 t.v, .slice t.va t.vs.length t.vc, .bool t.rs, .int .i64 t.p, .slice t.ka t.kids.length t.kc], .slice pa path.length pc, .agg #[.int .i64 x.k, .int .i64 x.d.k, .bool x.d.g, .slice x.d.la x.d.ln x.d.lc, .bool x.d.bb, .string x.d.s, .slice x.d.ia x.d.items.length x.d.ic, .slice x.d.ta x.d.tail.length x.d.tc, .int .i64 x.v, .slice x.va x.vs.length x.vc, .bool x.rs, .int .i64 x.p, .slice x.ka x.kids.length x.kc]] w (PutPost t path x w) := by
  obtain ⟨W3, hW3, a0, a1, a2, hz, hbel, -⟩ := three3 w (Obj.cells #[.int .i64 t.k, .int .i64 t.d.k, .bool t.d.g, .slice t.d.la t.d.ln t.d.lc, .bool t.d.bb, .string t.d.s, .slice t.d.ia t.d.items.length t.d.ic, .slice t.d.ta t.d.tail.length t.d.tc, .int .i64 t.v, .slice t.va t.vs.length t.vc, .bool t.rs, .int .i64 t.p, .slice t.ka t.kids.length t.kc] 31) (Obj.cells #[.int .i64 x.k, .int .i64 x.d.k, .bool x.d.g, .slice x.d.la x.d.ln x.d.lc, .bool x.d.bb, .string x.d.s, .slice x.d.ia x.d.items.length x.d.ic, .slice x.d.ta x.d.tail.length x.d.tc, .int .i64 x.v, .slice x.va x.vs.length x.vc, .bool x.rs, .int .i64 x.p, .slice x.ka x.kids.length x.kc] 31) (Obj.cells #[.int .i64 0, .int .i64 0, .bool false, .slice none 0 0, .bool false, .string ⟨#[]⟩, .slice none 0 0, .slice none 0 0, .int .i64 0, .slice none 0 0, .bool false, .int .i64 0, .slice none 0 0] 31)
  have hpl := hP.1.2.1
  have hpn := hP.1.1
  unfold maxLen at hpl
  have hcp := copiedE_any M t h1 h2 hT W3 (Nat.le_trans hM hbel.size) (hH.below hM hbel)
  have hcx := fun W (hb : Below w.heap.size w W) => copiedE_any M x h1x h2x hTx W (Nat.le_trans hM hb.size) (hHx.below hM hb)
  have HH := Lib.hid (And.intro hcp (And.intro hcx (And.intro hW3 (And.intro a1 (And.intro a2 (And.intro hbel (And.intro hP h1)))))))
  clear hcp hcx hW3 a0 a1 a2 hbel hT hTx hH hHx hP h1 h2 h1x h2x
  go_enter Tryz.func10, Tryz.ntmps10
  go_wp2_with fail
  rw [← HH.out.2.2.1]
  refine HH.out.1.mono ?_
  rintro e w4 ⟨u, rfl, hu, hTu, hsu, b4⟩
  have z4 : w.heap.size + 3 ≤ w4.heap.size := by have := b4.size; omega
  rw [hz] at hu
  have HI := Lib.hid (PutI.start (path := path) z4 hu hTu hsu (HH.out.2.2.2.2.2.1.trans (b4.mono (by omega))) ((b4.block _ (by omega)).trans HH.out.2.2.2.1) ((b4.block _ (by omega)).trans HH.out.2.2.2.2.1))
  clear hu hTu hsu b4
  go_wp2_with fail
  generalize w4.heap.size = O at *
  go_loopw [9, 16] (fun p i wr => ∃ (k b o : Nat) (v : ET) (f : ES → ES), k ≤ path.length ∧ i = .int .i64 k ∧ p = .pointer (some ⟨b, o, none⟩) ∧ Hid (PutI w wr O b o k t path x v f)) (fun _ i _ => path.length - (intOf i).toNat)
  case atStart => exact ⟨0, _, _, u, id, Nat.zero_le _, rfl, rfl, HI⟩
  case round =>
    obtain ⟨k, b, o, v, f, hk, rfl, rfl, HK⟩ := hrel
    clear HI
    have hcell := HK.out.cells
    have hhigh := HK.out.high
    have hbb := HK.out.fresh.lt
    have hbig := HK.out.big
    by_cases hlk : k < path.length
    · have hres := HK.out.res
      obtain ⟨pb, po, rfl, hpb, hpbl⟩ : ∃ pb po, pa = some ⟨pb, po, none⟩ ∧ wr.cell? ⟨pb, po + k, none⟩ = some (.int .i64 path[k]) ∧ pb < wr.heap.size := by
        have hsp := HH.out.2.2.2.2.2.2.1.1.2.2.1 (by omega)
        have hs := HK.out.below.size
        exact ⟨_, _, hsp.1, (World.cell?_of_block (w := w) (a := ⟨blk pa, ofs pa + k, none⟩) (HK.out.below.block (blk pa) (by have := hsp.2; omega))).trans (HH.out.2.2.2.2.2.2.1.2 k hlk).1, by have := hsp.2; omega⟩
      obtain ⟨z, hz0⟩ : ∃ z, path[k] = z := ⟨_, rfl⟩
      rw [hz0] at hpb
      have c12 : wr.cell? ⟨b, o + 12, none⟩ = some (.slice v.ka v.kids.length v.kc) := hcell 12 _ rfl
      have HC := Lib.hid (hasKid_any b o z v.ka v.kids.length v.kc wr c12)
      by_cases hz1 : 0 ≤ z ∧ z < (v.kids.length : Int)
      · have hd : decide (0 ≤ z ∧ z < (v.kids.length : Int)) = true := decide_eq_true hz1
        obtain ⟨q, rfl⟩ : ∃ q : Nat, z = q := ⟨z.toNat, by omega⟩
        have hq : q < v.kids.length := by omega
        obtain ⟨gb, go, hae, hgb, hkc⟩ := HK.out.kids (by omega)
        have hkn : v.kids.length ≤ 12000000 := by
          have := HK.out.few
          have := v.size_eq
          have := sizesE_ge v.kids
          have := HH.out.2.2.2.2.2.2.2
          omega
        have HCL := Lib.hid (cloneE_any v.kids gb go v.kc wr (by omega) hkn hgb hkc)
        rw [hae] at c12
        rw [hd] at HC
        have HZ := Lib.hid hz0
        clear hd hz1 hcell hkc hae hz0 hres
        go_wp2_with fail
        refine HC.out.mono ?_
        rintro e w6 ⟨rfl, rfl⟩
        go_wp2_with fail
        refine HCL.out.mono ?_
        rintro e w5 ⟨g, c, rfl, g1, g2, g3, g4, b5⟩
        have k12 : w5.cell? ⟨b, o + 12, none⟩ = some (.slice (some ⟨gb, go, none⟩) v.kids.length v.kc) := (b5.cell (p := ⟨b, o + 12, none⟩) hbb).trans c12
        have f12 : w5.frozen? ⟨b, o + 12, none⟩ = false := (b5.frozen (p := ⟨b, o + 12, none⟩) hbb).trans (HK.out.fresh.free _)
        obtain ⟨W6, hW6⟩ : ∃ W, w5.setCell ⟨b, o + 12, none⟩ (.slice (some ⟨g, 0, none⟩) v.kids.length c) = W := ⟨_, rfl⟩
        have x12 : W6.cell? ⟨b, o + 12, none⟩ = some (.slice (some ⟨g, 0, none⟩) v.kids.length c) := by rw [← hW6]; exact set_here k12
        have HN := Lib.hid (HK.out.step z4 hlk HZ.out hq b5 g3 g1 g2 g4 hW6)
        clear g1 g3 g4 b5 c12 hpb
        unfold maxLen at g2
        go_wp2_with fail
        go_roundw
        case rel =>
          obtain ⟨f', hf'⟩ := HN.out
          exact ⟨k + 1, g, q * 13, _, f', by omega, by go_num, by first | rfl | trivial, Lib.hid hf'⟩
        case measure => simp [intOf]; omega
      · have HN := Lib.hid (HK.out.no hlk (by rw [hz0]; exact hz1) (shapeE x))
        rw [decide_eq_false hz1] at HC
        have r100 : wr.cell? ⟨w.heap.size + 1 + 1, 0, none⟩ = some (.int .i64 0) := by rw [Lib.cell_of_heap hres]; rfl
        have f100 : wr.frozen? ⟨w.heap.size + 1 + 1, 0, none⟩ = false := Lib.frozen_of_heap hres _
        have r101 : wr.cell? ⟨w.heap.size + 1 + 1, 1, none⟩ = some (.int .i64 0) := by rw [Lib.cell_of_heap hres]; rfl
        have f101 : wr.frozen? ⟨w.heap.size + 1 + 1, 1, none⟩ = false := Lib.frozen_of_heap hres _
        have r102 : wr.cell? ⟨w.heap.size + 1 + 1, 2, none⟩ = some (.bool false) := by rw [Lib.cell_of_heap hres]; rfl
        have f102 : wr.frozen? ⟨w.heap.size + 1 + 1, 2, none⟩ = false := Lib.frozen_of_heap hres _
        have r103 : wr.cell? ⟨w.heap.size + 1 + 1, 3, none⟩ = some (.slice none 0 0) := by rw [Lib.cell_of_heap hres]; rfl
        have f103 : wr.frozen? ⟨w.heap.size + 1 + 1, 3, none⟩ = false := Lib.frozen_of_heap hres _
        have r104 : wr.cell? ⟨w.heap.size + 1 + 1, 4, none⟩ = some (.bool false) := by rw [Lib.cell_of_heap hres]; rfl
        have f104 : wr.frozen? ⟨w.heap.size + 1 + 1, 4, none⟩ = false := Lib.frozen_of_heap hres _
        have r105 : wr.cell? ⟨w.heap.size + 1 + 1, 5, none⟩ = some (.string ⟨#[]⟩) := by rw [Lib.cell_of_heap hres]; rfl
        have f105 : wr.frozen? ⟨w.heap.size + 1 + 1, 5, none⟩ = false := Lib.frozen_of_heap hres _
        have r106 : wr.cell? ⟨w.heap.size + 1 + 1, 6, none⟩ = some (.slice none 0 0) := by rw [Lib.cell_of_heap hres]; rfl
        have f106 : wr.frozen? ⟨w.heap.size + 1 + 1, 6, none⟩ = false := Lib.frozen_of_heap hres _
        have r107 : wr.cell? ⟨w.heap.size + 1 + 1, 7, none⟩ = some (.slice none 0 0) := by rw [Lib.cell_of_heap hres]; rfl
        have f107 : wr.frozen? ⟨w.heap.size + 1 + 1, 7, none⟩ = false := Lib.frozen_of_heap hres _
        have r108 : wr.cell? ⟨w.heap.size + 1 + 1, 8, none⟩ = some (.int .i64 0) := by rw [Lib.cell_of_heap hres]; rfl
        have f108 : wr.frozen? ⟨w.heap.size + 1 + 1, 8, none⟩ = false := Lib.frozen_of_heap hres _
        have r109 : wr.cell? ⟨w.heap.size + 1 + 1, 9, none⟩ = some (.slice none 0 0) := by rw [Lib.cell_of_heap hres]; rfl
        have f109 : wr.frozen? ⟨w.heap.size + 1 + 1, 9, none⟩ = false := Lib.frozen_of_heap hres _
        have r110 : wr.cell? ⟨w.heap.size + 1 + 1, 10, none⟩ = some (.bool false) := by rw [Lib.cell_of_heap hres]; rfl
        have f110 : wr.frozen? ⟨w.heap.size + 1 + 1, 10, none⟩ = false := Lib.frozen_of_heap hres _
        have r111 : wr.cell? ⟨w.heap.size + 1 + 1, 11, none⟩ = some (.int .i64 0) := by rw [Lib.cell_of_heap hres]; rfl
        have f111 : wr.frozen? ⟨w.heap.size + 1 + 1, 11, none⟩ = false := Lib.frozen_of_heap hres _
        have r112 : wr.cell? ⟨w.heap.size + 1 + 1, 12, none⟩ = some (.slice none 0 0) := by rw [Lib.cell_of_heap hres]; rfl
        have f112 : wr.frozen? ⟨w.heap.size + 1 + 1, 12, none⟩ = false := Lib.frozen_of_heap hres _
        clear hz1 hcell hz0
        have HRS := Lib.hid hres
        clear hres
        go_wp2_with fail
        refine HC.out.mono ?_
        rintro e w6 ⟨rfl, rfl⟩
        go_wp2_with fail
        (try simp only [Exit.inBlock, Exit.then])
        obtain ⟨w6, hw6⟩ : ∃ W, (((((((((((((wr.setCell ⟨w.heap.size + 1 + 1, 0, none⟩ (.int .i64 0)).setCell ⟨w.heap.size + 1 + 1, 1, none⟩ (.int .i64 0)).setCell ⟨w.heap.size + 1 + 1, 2, none⟩ (.bool false)).setCell ⟨w.heap.size + 1 + 1, 3, none⟩ (.slice none 0 0)).setCell ⟨w.heap.size + 1 + 1, 4, none⟩ (.bool false)).setCell ⟨w.heap.size + 1 + 1, 5, none⟩ (.string ⟨#[]⟩)).setCell ⟨w.heap.size + 1 + 1, 6, none⟩ (.slice none 0 0)).setCell ⟨w.heap.size + 1 + 1, 7, none⟩ (.slice none 0 0)).setCell ⟨w.heap.size + 1 + 1, 8, none⟩ (.int .i64 0)).setCell ⟨w.heap.size + 1 + 1, 9, none⟩ (.slice none 0 0)).setCell ⟨w.heap.size + 1 + 1, 10, none⟩ (.bool false)).setCell ⟨w.heap.size + 1 + 1, 11, none⟩ (.int .i64 0)).setCell ⟨w.heap.size + 1 + 1, 12, none⟩ (.slice none 0 0)) = W := ⟨_, rfl⟩
        have y6 : w6.heap[w.heap.size + 2]? = some (Obj.cells #[.int .i64 0, .int .i64 0, .bool false, .slice none 0 0, .bool false, .string ⟨#[]⟩, .slice none 0 0, .slice none 0 0, .int .i64 0, .slice none 0 0, .bool false, .int .i64 0, .slice none 0 0] 31) := by rw [← hw6]; simp [World.setCell, Array.getElem?_modify, HRS.out]
        have hb6 : Below w.heap.size w w6 := by
          rw [← hw6]
          exact (((((((((((((HK.out.below.setCell (p := ⟨w.heap.size + 1 + 1, 0, none⟩) (by show w.heap.size ≤ w.heap.size + 1 + 1; omega) _).setCell (p := ⟨w.heap.size + 1 + 1, 1, none⟩) (by show w.heap.size ≤ w.heap.size + 1 + 1; omega) _).setCell (p := ⟨w.heap.size + 1 + 1, 2, none⟩) (by show w.heap.size ≤ w.heap.size + 1 + 1; omega) _).setCell (p := ⟨w.heap.size + 1 + 1, 3, none⟩) (by show w.heap.size ≤ w.heap.size + 1 + 1; omega) _).setCell (p := ⟨w.heap.size + 1 + 1, 4, none⟩) (by show w.heap.size ≤ w.heap.size + 1 + 1; omega) _).setCell (p := ⟨w.heap.size + 1 + 1, 5, none⟩) (by show w.heap.size ≤ w.heap.size + 1 + 1; omega) _).setCell (p := ⟨w.heap.size + 1 + 1, 6, none⟩) (by show w.heap.size ≤ w.heap.size + 1 + 1; omega) _).setCell (p := ⟨w.heap.size + 1 + 1, 7, none⟩) (by show w.heap.size ≤ w.heap.size + 1 + 1; omega) _).setCell (p := ⟨w.heap.size + 1 + 1, 8, none⟩) (by show w.heap.size ≤ w.heap.size + 1 + 1; omega) _).setCell (p := ⟨w.heap.size + 1 + 1, 9, none⟩) (by show w.heap.size ≤ w.heap.size + 1 + 1; omega) _).setCell (p := ⟨w.heap.size + 1 + 1, 10, none⟩) (by show w.heap.size ≤ w.heap.size + 1 + 1; omega) _).setCell (p := ⟨w.heap.size + 1 + 1, 11, none⟩) (by show w.heap.size ≤ w.heap.size + 1 + 1; omega) _).setCell (p := ⟨w.heap.size + 1 + 1, 12, none⟩) (by show w.heap.size ≤ w.heap.size + 1 + 1; omega) _)
        refine bodyPost_ret (v := .tuple #[(.agg #[.int .i64 0, .int .i64 0, .bool false, .slice none 0 0, .bool false, .string ⟨#[]⟩, .slice none 0 0, .slice none 0 0, .int .i64 0, .slice none 0 0, .bool false, .int .i64 0, .slice none 0 0]), .bool false]) (results_eb rfl rfl rfl (by rw [hw6, Lib.cell_of_heap y6]; rfl) (by rw [hw6, Lib.cell_of_heap y6]; rfl) (by rw [hw6, Lib.cell_of_heap y6]; rfl) (by rw [hw6, Lib.cell_of_heap y6]; rfl) (by rw [hw6, Lib.cell_of_heap y6]; rfl) (by rw [hw6, Lib.cell_of_heap y6]; rfl) (by rw [hw6, Lib.cell_of_heap y6]; rfl) (by rw [hw6, Lib.cell_of_heap y6]; rfl) (by rw [hw6, Lib.cell_of_heap y6]; rfl) (by rw [hw6, Lib.cell_of_heap y6]; rfl) (by rw [hw6, Lib.cell_of_heap y6]; rfl) (by rw [hw6, Lib.cell_of_heap y6]; rfl) (by rw [hw6, Lib.cell_of_heap y6]; rfl)) rfl ?_
        (try rw [hw6])
        exact ⟨hb6, .inl ⟨HN.out, rfl⟩⟩
    · obtain rfl : k = path.length := by omega
      have hbox := HK.out.box
      have d0 : wr.cell? ⟨w.heap.size + 1, 0, none⟩ = some (.int .i64 x.k) := by rw [Lib.cell_of_heap hbox]; rfl
      have d1 : wr.cell? ⟨w.heap.size + 1, 1, none⟩ = some (.int .i64 x.d.k) := by rw [Lib.cell_of_heap hbox]; rfl
      have d2 : wr.cell? ⟨w.heap.size + 1, 2, none⟩ = some (.bool x.d.g) := by rw [Lib.cell_of_heap hbox]; rfl
      have d3 : wr.cell? ⟨w.heap.size + 1, 3, none⟩ = some (.slice x.d.la x.d.ln x.d.lc) := by rw [Lib.cell_of_heap hbox]; rfl
      have d4 : wr.cell? ⟨w.heap.size + 1, 4, none⟩ = some (.bool x.d.bb) := by rw [Lib.cell_of_heap hbox]; rfl
      have d5 : wr.cell? ⟨w.heap.size + 1, 5, none⟩ = some (.string x.d.s) := by rw [Lib.cell_of_heap hbox]; rfl
      have d6 : wr.cell? ⟨w.heap.size + 1, 6, none⟩ = some (.slice x.d.ia x.d.items.length x.d.ic) := by rw [Lib.cell_of_heap hbox]; rfl
      have d7 : wr.cell? ⟨w.heap.size + 1, 7, none⟩ = some (.slice x.d.ta x.d.tail.length x.d.tc) := by rw [Lib.cell_of_heap hbox]; rfl
      have d8 : wr.cell? ⟨w.heap.size + 1, 8, none⟩ = some (.int .i64 x.v) := by rw [Lib.cell_of_heap hbox]; rfl
      have d9 : wr.cell? ⟨w.heap.size + 1, 9, none⟩ = some (.slice x.va x.vs.length x.vc) := by rw [Lib.cell_of_heap hbox]; rfl
      have d10 : wr.cell? ⟨w.heap.size + 1, 10, none⟩ = some (.bool x.rs) := by rw [Lib.cell_of_heap hbox]; rfl
      have d11 : wr.cell? ⟨w.heap.size + 1, 11, none⟩ = some (.int .i64 x.p) := by rw [Lib.cell_of_heap hbox]; rfl
      have d12 : wr.cell? ⟨w.heap.size + 1, 12, none⟩ = some (.slice x.ka x.kids.length x.kc) := by rw [Lib.cell_of_heap hbox]; rfl
      have HCX := Lib.hid (HH.out.2.1 wr HK.out.below)
      have HCE := Lib.hid hcell
      clear hbox hcell
      go_wp2_with fail
      refine HCX.out.mono ?_
      rintro e w7 ⟨y, rfl, hh, htm, hsh, b7⟩
      clear d0 d1 d2 d3 d4 d5 d6 d7 d8 d9 d10 d11 d12
      have e0 : w7.cell? ⟨b, o, none⟩ = some (.int .i64 v.k) := (b7.cell (p := ⟨b, o, none⟩) hbb).trans (HCE.out 0 _ rfl)
      have q0 : w7.frozen? ⟨b, o, none⟩ = false := (b7.frozen (p := ⟨b, o, none⟩) hbb).trans (HK.out.fresh.free _)
      have e1 : w7.cell? ⟨b, o + 1, none⟩ = some (.int .i64 v.d.k) := (b7.cell (p := ⟨b, o + 1, none⟩) hbb).trans (HCE.out 1 _ rfl)
      have q1 : w7.frozen? ⟨b, o + 1, none⟩ = false := (b7.frozen (p := ⟨b, o + 1, none⟩) hbb).trans (HK.out.fresh.free _)
      have e2 : w7.cell? ⟨b, o + 2, none⟩ = some (.bool v.d.g) := (b7.cell (p := ⟨b, o + 2, none⟩) hbb).trans (HCE.out 2 _ rfl)
      have q2 : w7.frozen? ⟨b, o + 2, none⟩ = false := (b7.frozen (p := ⟨b, o + 2, none⟩) hbb).trans (HK.out.fresh.free _)
      have e3 : w7.cell? ⟨b, o + 3, none⟩ = some (.slice v.d.la v.d.ln v.d.lc) := (b7.cell (p := ⟨b, o + 3, none⟩) hbb).trans (HCE.out 3 _ rfl)
      have q3 : w7.frozen? ⟨b, o + 3, none⟩ = false := (b7.frozen (p := ⟨b, o + 3, none⟩) hbb).trans (HK.out.fresh.free _)
      have e4 : w7.cell? ⟨b, o + 4, none⟩ = some (.bool v.d.bb) := (b7.cell (p := ⟨b, o + 4, none⟩) hbb).trans (HCE.out 4 _ rfl)
      have q4 : w7.frozen? ⟨b, o + 4, none⟩ = false := (b7.frozen (p := ⟨b, o + 4, none⟩) hbb).trans (HK.out.fresh.free _)
      have e5 : w7.cell? ⟨b, o + 5, none⟩ = some (.string v.d.s) := (b7.cell (p := ⟨b, o + 5, none⟩) hbb).trans (HCE.out 5 _ rfl)
      have q5 : w7.frozen? ⟨b, o + 5, none⟩ = false := (b7.frozen (p := ⟨b, o + 5, none⟩) hbb).trans (HK.out.fresh.free _)
      have e6 : w7.cell? ⟨b, o + 6, none⟩ = some (.slice v.d.ia v.d.items.length v.d.ic) := (b7.cell (p := ⟨b, o + 6, none⟩) hbb).trans (HCE.out 6 _ rfl)
      have q6 : w7.frozen? ⟨b, o + 6, none⟩ = false := (b7.frozen (p := ⟨b, o + 6, none⟩) hbb).trans (HK.out.fresh.free _)
      have e7 : w7.cell? ⟨b, o + 7, none⟩ = some (.slice v.d.ta v.d.tail.length v.d.tc) := (b7.cell (p := ⟨b, o + 7, none⟩) hbb).trans (HCE.out 7 _ rfl)
      have q7 : w7.frozen? ⟨b, o + 7, none⟩ = false := (b7.frozen (p := ⟨b, o + 7, none⟩) hbb).trans (HK.out.fresh.free _)
      have e8 : w7.cell? ⟨b, o + 8, none⟩ = some (.int .i64 v.v) := (b7.cell (p := ⟨b, o + 8, none⟩) hbb).trans (HCE.out 8 _ rfl)
      have q8 : w7.frozen? ⟨b, o + 8, none⟩ = false := (b7.frozen (p := ⟨b, o + 8, none⟩) hbb).trans (HK.out.fresh.free _)
      have e9 : w7.cell? ⟨b, o + 9, none⟩ = some (.slice v.va v.vs.length v.vc) := (b7.cell (p := ⟨b, o + 9, none⟩) hbb).trans (HCE.out 9 _ rfl)
      have q9 : w7.frozen? ⟨b, o + 9, none⟩ = false := (b7.frozen (p := ⟨b, o + 9, none⟩) hbb).trans (HK.out.fresh.free _)
      have e10 : w7.cell? ⟨b, o + 10, none⟩ = some (.bool v.rs) := (b7.cell (p := ⟨b, o + 10, none⟩) hbb).trans (HCE.out 10 _ rfl)
      have q10 : w7.frozen? ⟨b, o + 10, none⟩ = false := (b7.frozen (p := ⟨b, o + 10, none⟩) hbb).trans (HK.out.fresh.free _)
      have e11 : w7.cell? ⟨b, o + 11, none⟩ = some (.int .i64 v.p) := (b7.cell (p := ⟨b, o + 11, none⟩) hbb).trans (HCE.out 11 _ rfl)
      have q11 : w7.frozen? ⟨b, o + 11, none⟩ = false := (b7.frozen (p := ⟨b, o + 11, none⟩) hbb).trans (HK.out.fresh.free _)
      have e12 : w7.cell? ⟨b, o + 12, none⟩ = some (.slice v.ka v.kids.length v.kc) := (b7.cell (p := ⟨b, o + 12, none⟩) hbb).trans (HCE.out 12 _ rfl)
      have q12 : w7.frozen? ⟨b, o + 12, none⟩ = false := (b7.frozen (p := ⟨b, o + 12, none⟩) hbb).trans (HK.out.fresh.free _)
      obtain ⟨W8, hW8⟩ : ∃ W, (((((((((((((w7.setCell ⟨b, o, none⟩ (.int .i64 y.k)).setCell ⟨b, o + 1, none⟩ (.int .i64 y.d.k)).setCell ⟨b, o + 2, none⟩ (.bool y.d.g)).setCell ⟨b, o + 3, none⟩ (.slice y.d.la y.d.ln y.d.lc)).setCell ⟨b, o + 4, none⟩ (.bool y.d.bb)).setCell ⟨b, o + 5, none⟩ (.string y.d.s)).setCell ⟨b, o + 6, none⟩ (.slice y.d.ia y.d.items.length y.d.ic)).setCell ⟨b, o + 7, none⟩ (.slice y.d.ta y.d.tail.length y.d.tc)).setCell ⟨b, o + 8, none⟩ (.int .i64 y.v)).setCell ⟨b, o + 9, none⟩ (.slice y.va y.vs.length y.vc)).setCell ⟨b, o + 10, none⟩ (.bool y.rs)).setCell ⟨b, o + 11, none⟩ (.int .i64 y.p)).setCell ⟨b, o + 12, none⟩ (.slice y.ka y.kids.length y.kc)) = W := ⟨_, rfl⟩
      have hS8 : setAll w7 b o y.cells = W8 := by rw [← hW8]; rfl
      obtain ⟨r, l1, l2, l3, l4, l5⟩ := HK.out.last b7 hh htm z4 hS8 hsh
      have x8 : W8.heap[w.heap.size + 2]? = some (Obj.cells #[.int .i64 0, .int .i64 0, .bool false, .slice none 0 0, .bool false, .string ⟨#[]⟩, .slice none 0 0, .slice none 0 0, .int .i64 0, .slice none 0 0, .bool false, .int .i64 0, .slice none 0 0] 31) := (l5.block _ (by omega)).trans HK.out.res
      have d0 : W8.cell? ⟨O, 0, none⟩ = some (.int .i64 r.k) := l2 0 _ rfl
      have d1 : W8.cell? ⟨O, 1, none⟩ = some (.int .i64 r.d.k) := l2 1 _ rfl
      have d2 : W8.cell? ⟨O, 2, none⟩ = some (.bool r.d.g) := l2 2 _ rfl
      have d3 : W8.cell? ⟨O, 3, none⟩ = some (.slice r.d.la r.d.ln r.d.lc) := l2 3 _ rfl
      have d4 : W8.cell? ⟨O, 4, none⟩ = some (.bool r.d.bb) := l2 4 _ rfl
      have d5 : W8.cell? ⟨O, 5, none⟩ = some (.string r.d.s) := l2 5 _ rfl
      have d6 : W8.cell? ⟨O, 6, none⟩ = some (.slice r.d.ia r.d.items.length r.d.ic) := l2 6 _ rfl
      have d7 : W8.cell? ⟨O, 7, none⟩ = some (.slice r.d.ta r.d.tail.length r.d.tc) := l2 7 _ rfl
      have d8 : W8.cell? ⟨O, 8, none⟩ = some (.int .i64 r.v) := l2 8 _ rfl
      have d9 : W8.cell? ⟨O, 9, none⟩ = some (.slice r.va r.vs.length r.vc) := l2 9 _ rfl
      have d10 : W8.cell? ⟨O, 10, none⟩ = some (.bool r.rs) := l2 10 _ rfl
      have d11 : W8.cell? ⟨O, 11, none⟩ = some (.int .i64 r.p) := l2 11 _ rfl
      have d12 : W8.cell? ⟨O, 12, none⟩ = some (.slice r.ka r.kids.length r.kc) := l2 12 _ rfl
      have r100 : W8.cell? ⟨w.heap.size + 1 + 1, 0, none⟩ = some (.int .i64 0) := by rw [Lib.cell_of_heap x8]; rfl
      have f100 : W8.frozen? ⟨w.heap.size + 1 + 1, 0, none⟩ = false := Lib.frozen_of_heap x8 _
      have r101 : W8.cell? ⟨w.heap.size + 1 + 1, 1, none⟩ = some (.int .i64 0) := by rw [Lib.cell_of_heap x8]; rfl
      have f101 : W8.frozen? ⟨w.heap.size + 1 + 1, 1, none⟩ = false := Lib.frozen_of_heap x8 _
      have r102 : W8.cell? ⟨w.heap.size + 1 + 1, 2, none⟩ = some (.bool false) := by rw [Lib.cell_of_heap x8]; rfl
      have f102 : W8.frozen? ⟨w.heap.size + 1 + 1, 2, none⟩ = false := Lib.frozen_of_heap x8 _
      have r103 : W8.cell? ⟨w.heap.size + 1 + 1, 3, none⟩ = some (.slice none 0 0) := by rw [Lib.cell_of_heap x8]; rfl
      have f103 : W8.frozen? ⟨w.heap.size + 1 + 1, 3, none⟩ = false := Lib.frozen_of_heap x8 _
      have r104 : W8.cell? ⟨w.heap.size + 1 + 1, 4, none⟩ = some (.bool false) := by rw [Lib.cell_of_heap x8]; rfl
      have f104 : W8.frozen? ⟨w.heap.size + 1 + 1, 4, none⟩ = false := Lib.frozen_of_heap x8 _
      have r105 : W8.cell? ⟨w.heap.size + 1 + 1, 5, none⟩ = some (.string ⟨#[]⟩) := by rw [Lib.cell_of_heap x8]; rfl
      have f105 : W8.frozen? ⟨w.heap.size + 1 + 1, 5, none⟩ = false := Lib.frozen_of_heap x8 _
      have r106 : W8.cell? ⟨w.heap.size + 1 + 1, 6, none⟩ = some (.slice none 0 0) := by rw [Lib.cell_of_heap x8]; rfl
      have f106 : W8.frozen? ⟨w.heap.size + 1 + 1, 6, none⟩ = false := Lib.frozen_of_heap x8 _
      have r107 : W8.cell? ⟨w.heap.size + 1 + 1, 7, none⟩ = some (.slice none 0 0) := by rw [Lib.cell_of_heap x8]; rfl
      have f107 : W8.frozen? ⟨w.heap.size + 1 + 1, 7, none⟩ = false := Lib.frozen_of_heap x8 _
      have r108 : W8.cell? ⟨w.heap.size + 1 + 1, 8, none⟩ = some (.int .i64 0) := by rw [Lib.cell_of_heap x8]; rfl
      have f108 : W8.frozen? ⟨w.heap.size + 1 + 1, 8, none⟩ = false := Lib.frozen_of_heap x8 _
      have r109 : W8.cell? ⟨w.heap.size + 1 + 1, 9, none⟩ = some (.slice none 0 0) := by rw [Lib.cell_of_heap x8]; rfl
      have f109 : W8.frozen? ⟨w.heap.size + 1 + 1, 9, none⟩ = false := Lib.frozen_of_heap x8 _
      have r110 : W8.cell? ⟨w.heap.size + 1 + 1, 10, none⟩ = some (.bool false) := by rw [Lib.cell_of_heap x8]; rfl
      have f110 : W8.frozen? ⟨w.heap.size + 1 + 1, 10, none⟩ = false := Lib.frozen_of_heap x8 _
      have r111 : W8.cell? ⟨w.heap.size + 1 + 1, 11, none⟩ = some (.int .i64 0) := by rw [Lib.cell_of_heap x8]; rfl
      have f111 : W8.frozen? ⟨w.heap.size + 1 + 1, 11, none⟩ = false := Lib.frozen_of_heap x8 _
      have r112 : W8.cell? ⟨w.heap.size + 1 + 1, 12, none⟩ = some (.slice none 0 0) := by rw [Lib.cell_of_heap x8]; rfl
      have f112 : W8.frozen? ⟨w.heap.size + 1 + 1, 12, none⟩ = false := Lib.frozen_of_heap x8 _
      have HY := Lib.hid (And.intro l1 (And.intro l3 (And.intro l4 (And.intro (HK.out.below.trans (l5.mono (by omega))) x8))))
      clear l1 l2 l3 l4 l5 x8 hh htm hsh b7 hS8
      go_wp2_with fail
      (try simp only [Exit.inBlock, Exit.then])
      obtain ⟨w9, hw9⟩ : ∃ W, (((((((((((((W8.setCell ⟨w.heap.size + 1 + 1, 0, none⟩ (.int .i64 r.k)).setCell ⟨w.heap.size + 1 + 1, 1, none⟩ (.int .i64 r.d.k)).setCell ⟨w.heap.size + 1 + 1, 2, none⟩ (.bool r.d.g)).setCell ⟨w.heap.size + 1 + 1, 3, none⟩ (.slice r.d.la r.d.ln r.d.lc)).setCell ⟨w.heap.size + 1 + 1, 4, none⟩ (.bool r.d.bb)).setCell ⟨w.heap.size + 1 + 1, 5, none⟩ (.string r.d.s)).setCell ⟨w.heap.size + 1 + 1, 6, none⟩ (.slice r.d.ia r.d.items.length r.d.ic)).setCell ⟨w.heap.size + 1 + 1, 7, none⟩ (.slice r.d.ta r.d.tail.length r.d.tc)).setCell ⟨w.heap.size + 1 + 1, 8, none⟩ (.int .i64 r.v)).setCell ⟨w.heap.size + 1 + 1, 9, none⟩ (.slice r.va r.vs.length r.vc)).setCell ⟨w.heap.size + 1 + 1, 10, none⟩ (.bool r.rs)).setCell ⟨w.heap.size + 1 + 1, 11, none⟩ (.int .i64 r.p)).setCell ⟨w.heap.size + 1 + 1, 12, none⟩ (.slice r.ka r.kids.length r.kc)) = W := ⟨_, rfl⟩
      have hlow : ∀ k, w.heap.size + 3 ≤ k → w9.heap[k]? = W8.heap[k]? := fun k hk => by rw [← hw9]; simp [World.setCell, Array.getElem?_modify, show ¬ w.heap.size + 1 + 1 = k by omega, show ¬ w.heap.size + 2 = k by omega]
      have z9 : w9.heap.size = W8.heap.size := by rw [← hw9]; simp [World.setCell]
      have y9 : w9.heap[w.heap.size + 2]? = some (.cells #[.int .i64 r.k, .int .i64 r.d.k, .bool r.d.g, .slice r.d.la r.d.ln r.d.lc, .bool r.d.bb, .string r.d.s, .slice r.d.ia r.d.items.length r.d.ic, .slice r.d.ta r.d.tail.length r.d.tc, .int .i64 r.v, .slice r.va r.vs.length r.vc, .bool r.rs, .int .i64 r.p, .slice r.ka r.kids.length r.kc] 31 (0, 0)) := by rw [← hw9]; simp [World.setCell, Array.getElem?_modify, HY.out.2.2.2.2]
      have hb9 : Below w.heap.size w w9 := by
        rw [← hw9]
        exact (((((((((((((HY.out.2.2.2.1.setCell (p := ⟨w.heap.size + 1 + 1, 0, none⟩) (by show w.heap.size ≤ w.heap.size + 1 + 1; omega) _).setCell (p := ⟨w.heap.size + 1 + 1, 1, none⟩) (by show w.heap.size ≤ w.heap.size + 1 + 1; omega) _).setCell (p := ⟨w.heap.size + 1 + 1, 2, none⟩) (by show w.heap.size ≤ w.heap.size + 1 + 1; omega) _).setCell (p := ⟨w.heap.size + 1 + 1, 3, none⟩) (by show w.heap.size ≤ w.heap.size + 1 + 1; omega) _).setCell (p := ⟨w.heap.size + 1 + 1, 4, none⟩) (by show w.heap.size ≤ w.heap.size + 1 + 1; omega) _).setCell (p := ⟨w.heap.size + 1 + 1, 5, none⟩) (by show w.heap.size ≤ w.heap.size + 1 + 1; omega) _).setCell (p := ⟨w.heap.size + 1 + 1, 6, none⟩) (by show w.heap.size ≤ w.heap.size + 1 + 1; omega) _).setCell (p := ⟨w.heap.size + 1 + 1, 7, none⟩) (by show w.heap.size ≤ w.heap.size + 1 + 1; omega) _).setCell (p := ⟨w.heap.size + 1 + 1, 8, none⟩) (by show w.heap.size ≤ w.heap.size + 1 + 1; omega) _).setCell (p := ⟨w.heap.size + 1 + 1, 9, none⟩) (by show w.heap.size ≤ w.heap.size + 1 + 1; omega) _).setCell (p := ⟨w.heap.size + 1 + 1, 10, none⟩) (by show w.heap.size ≤ w.heap.size + 1 + 1; omega) _).setCell (p := ⟨w.heap.size + 1 + 1, 11, none⟩) (by show w.heap.size ≤ w.heap.size + 1 + 1; omega) _).setCell (p := ⟨w.heap.size + 1 + 1, 12, none⟩) (by show w.heap.size ≤ w.heap.size + 1 + 1; omega) _)
      refine bodyPost_ret (v := .tuple #[.agg #[.int .i64 r.k, .int .i64 r.d.k, .bool r.d.g, .slice r.d.la r.d.ln r.d.lc, .bool r.d.bb, .string r.d.s, .slice r.d.ia r.d.items.length r.d.ic, .slice r.d.ta r.d.tail.length r.d.tc, .int .i64 r.v, .slice r.va r.vs.length r.vc, .bool r.rs, .int .i64 r.p, .slice r.ka r.kids.length r.kc], .bool true]) (results_eb rfl rfl rfl (by rw [hw9, Lib.cell_of_heap y9]; rfl) (by rw [hw9, Lib.cell_of_heap y9]; rfl) (by rw [hw9, Lib.cell_of_heap y9]; rfl) (by rw [hw9, Lib.cell_of_heap y9]; rfl) (by rw [hw9, Lib.cell_of_heap y9]; rfl) (by rw [hw9, Lib.cell_of_heap y9]; rfl) (by rw [hw9, Lib.cell_of_heap y9]; rfl) (by rw [hw9, Lib.cell_of_heap y9]; rfl) (by rw [hw9, Lib.cell_of_heap y9]; rfl) (by rw [hw9, Lib.cell_of_heap y9]; rfl) (by rw [hw9, Lib.cell_of_heap y9]; rfl) (by rw [hw9, Lib.cell_of_heap y9]; rfl) (by rw [hw9, Lib.cell_of_heap y9]; rfl)) rfl ?_
      (try rw [hw9])
      have hk9 : ∀ k, Fresh W8 (w.heap.size + 3) k → Fresh w9 w.heap.size k ∧ w9.heap[k]? = W8.heap[k]? := fun k hk => ⟨(hk.same (hlow k hk.1)).low (by omega), hlow k hk.1⟩
      exact ⟨hb9, .inr ⟨_, r, HY.out.1, rfl, rfl, HY.out.2.1, HY.out.2.2.1.keep (by omega) hk9⟩⟩
end
end Go.Proofs.YthdhdmmlmbkalaaGreatDoor
namespace Go.Proofs.YthdhdmmlmbkalaaGreatDoor
section
open Go.RowKit

def atES : ES → List Int → Option ES
  | s, [] => some s
  | s, i :: p => if h : 0 ≤ i ∧ i.toNat < s.kids.length then atES (s.kids[i.toNat]'h.2) p else none
theorem kids_shape (t : ET) : (shapeE t).kids = shapesE t.kids := by rw [shapeE_eq]; rfl
theorem atES_shape : ∀ (p : List Int) (t : ET), atES (shapeE t) p = (atE t p).map shapeE
  | [], t => rfl
  | i :: p, t => by
    have hk := kids_shape t
    have hl : (shapeE t).kids.length = t.kids.length := by rw [hk, shapesE_length]
    rw [atES, atE]
    by_cases h : 0 ≤ i ∧ i.toNat < t.kids.length
    · have h' : 0 ≤ i ∧ i.toNat < (shapeE t).kids.length := by rw [hl]; exact h
      rw [dif_pos h, dif_pos h', ← atES_shape p]
      congr 1
      have e1 := shapesE_at t.kids i.toNat h.2
      rw [← hk, List.getElem?_eq_getElem h'.2] at e1
      exact Option.some.inj e1
    · have h' : ¬ (0 ≤ i ∧ i.toNat < (shapeE t).kids.length) := by rw [hl]; exact h
      rw [dif_neg h, dif_neg h']
      rfl
theorem at_put_none : ∀ (p : List Int) (s x : ES), atES s p = none ↔ putES s p x = none
  | [], s, x => by simp [atES, putES]
  | i :: p, s, x => by
    rw [atES, putES]
    by_cases h : 0 ≤ i ∧ i.toNat < s.kids.length
    · rw [dif_pos h, dif_pos h, Option.map_eq_none_iff]
      exact at_put_none p _ x
    · rw [dif_neg h, dif_neg h]
theorem put_at : ∀ (p : List Int) (s x c : ES), putES s p x = some c → atES c p = some x
  | [], s, x, c, h => by simp only [putES, Option.some.injEq] at h; rw [h]; rfl
  | i :: p, s, x, c, h => by
    rw [putES] at h
    by_cases hi : 0 ≤ i ∧ i.toNat < s.kids.length
    · rw [dif_pos hi] at h
      obtain ⟨y, hy, rfl⟩ := Option.map_eq_some_iff.1 h
      have hl : 0 ≤ i ∧ i.toNat < (ES.mk s.k s.d s.v s.vs s.rs s.p (s.kids.set i.toNat y)).kids.length := by simp only [ES.kids, List.length_set]; exact hi
      rw [atES, dif_pos hl]
      have : (ES.mk s.k s.d s.v s.vs s.rs s.p (s.kids.set i.toNat y)).kids[i.toNat]'hl.2 = y := by simp [ES.kids]
      rw [this]
      exact put_at p _ x y hy
    · rw [dif_neg hi] at h; cases h
theorem put_back : ∀ (p : List Int) (s x b c : ES), atES s p = some b → putES s p x = some c → putES c p b = some s
  | [], s, x, b, c, h1, _ => by simp only [atES, Option.some.injEq] at h1; rw [h1]; rfl
  | i :: p, s, x, b, c, h1, h2 => by
    rw [atES] at h1
    rw [putES] at h2
    by_cases hi : 0 ≤ i ∧ i.toNat < s.kids.length
    · rw [dif_pos hi] at h1 h2
      obtain ⟨y, hy, rfl⟩ := Option.map_eq_some_iff.1 h2
      have hl : 0 ≤ i ∧ i.toNat < (ES.mk s.k s.d s.v s.vs s.rs s.p (s.kids.set i.toNat y)).kids.length := by simp only [ES.kids, List.length_set]; exact hi
      have e : (ES.mk s.k s.d s.v s.vs s.rs s.p (s.kids.set i.toNat y)).kids[i.toNat]'hl.2 = y := by simp [ES.kids]
      rw [putES, dif_pos hl, e, put_back p _ x b y h1 hy]
      simp only [Option.map_some, ES.k, ES.d, ES.v, ES.vs, ES.rs, ES.p, ES.kids]
      cases s
      simp [ES.k, ES.d, ES.v, ES.vs, ES.rs, ES.p, ES.kids]
    · rw [dif_neg hi] at h1; cases h1
theorem sizesES_set {l : List ES} {q : Nat} (h : q < l.length) (y : ES) : sizesES (l.set q y) ≤ sizesES l + sizeES y ∧ sizeES l[q] ≤ sizesES l ∧ sizesES (l.set q y) + sizeES l[q] = sizesES l + sizeES y := by
  induction l generalizing q with
  | nil => simp at h
  | cons t l ih =>
    cases q with
    | zero => simp only [List.set_cons_zero, sizesES, List.getElem_cons_zero]; omega
    | succ q =>
      have := ih (q := q) (by simpa using h)
      simp only [List.set_cons_succ, sizesES, List.getElem_cons_succ]
      omega
theorem depthsES_set {l : List ES} {q : Nat} (h : q < l.length) (y : ES) : depthsES (l.set q y) ≤ max (depthsES l) (depthES y) ∧ depthES l[q] ≤ depthsES l := by
  induction l generalizing q with
  | nil => simp at h
  | cons t l ih =>
    cases q with
    | zero => simp only [List.set_cons_zero, depthsES, List.getElem_cons_zero]; omega
    | succ q =>
      have := ih (q := q) (by simpa using h)
      simp only [List.set_cons_succ, depthsES, List.getElem_cons_succ]
      omega
theorem depthES_eq (s : ES) : depthES s = 1 + depthsES s.kids := by cases s; simp [depthES, ES.kids]
theorem put_few : ∀ (p : List Int) (s x c : ES), putES s p x = some c → sizeES c ≤ sizeES s + sizeES x ∧ depthES c ≤ depthES s + depthES x
  | [], s, x, c, h => by simp only [putES, Option.some.injEq] at h; rw [h]; omega
  | i :: p, s, x, c, h => by
    rw [putES] at h
    by_cases hi : 0 ≤ i ∧ i.toNat < s.kids.length
    · rw [dif_pos hi] at h
      obtain ⟨y, hy, rfl⟩ := Option.map_eq_some_iff.1 h
      have h1 := put_few p _ x y hy
      have h2 := sizesES_set hi.2 y
      have h3 := depthsES_set hi.2 y
      rw [sizeES_eq s, depthES_eq s]
      simp only [sizeES, depthES]
      omega
    · rw [dif_neg hi] at h; cases h
theorem sizesES_mem {l : List ES} {k : Nat} (h : k < l.length) : sizeES l[k] ≤ sizesES l ∧ depthES l[k] ≤ depthsES l := ⟨(sizesES_set h l[k]).2.1, (depthsES_set h l[k]).2⟩
theorem at_few : ∀ (p : List Int) (s b : ES), atES s p = some b → sizeES b ≤ sizeES s ∧ depthES b ≤ depthES s
  | [], s, b, h => by simp only [atES, Option.some.injEq] at h; rw [h]; omega
  | i :: p, s, b, h => by
    rw [atES] at h
    by_cases hi : 0 ≤ i ∧ i.toNat < s.kids.length
    · rw [dif_pos hi] at h
      have h1 := at_few p _ b h
      have h2 := sizesES_mem hi.2
      rw [sizeES_eq s, depthES_eq s]
      omega
    · rw [dif_neg hi] at h; cases h
end
end Go.Proofs.YthdhdmmlmbkalaaGreatDoor
