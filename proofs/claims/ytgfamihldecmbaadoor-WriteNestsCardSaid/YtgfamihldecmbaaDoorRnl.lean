/-
  pavaneref03.norm of what is no list; rows of a call's own that hold what lies elsewhere.
-/
import Derived.Test.YtgfamihldecmbaaDoorNgn
import Derived.Test.YtgfamihldecmbaaDoorRw
import Derived.Test.YtgfamihldecmbaaDoorWd
namespace Go.Proofs.YtgfamihldecmbaaDoor
open Go.RowKit

theorem row_parts2 {B : Nat} {V : Value} {ts : List LT} {wr : World} (hown : wr.ownsRow (B + 3) 27 7 V ts.length (cellsAll ts)) (hall : AllP wr (Fresh wr (B + 3)) ts) : ∃ ia ic, V = .slice ia ts.length ic ∧ SpotP (Fresh wr (B + 3)) ia ts.length ic ∧ LiesPR wr (Fresh wr (B + 3)) ts (blk ia) (ofs ia) := by
  have hc := hown.2
  rcases hc with ⟨hv, h0⟩ | ⟨g, c, cur, hv, hg, hgc, h1, h2, _⟩
  · obtain rfl : ts = [] := List.length_eq_zero_iff.1 h0
    exact ⟨none, 0, hv, ⟨Nat.le_refl _, Nat.zero_le _, fun h => absurd h (by simp), fun _ => rfl⟩, by rw [liesPR_nil]; trivial⟩
  · have hf : Fresh wr (B + 3) g := ⟨hg, _, hgc, fun c fz e => by cases e⟩
    refine ⟨some ⟨g, 0, none⟩, c, hv, ⟨h1, h2, fun _ => ⟨rfl, hf⟩, fun e => by cases e⟩, liesPR_of hf ts 0 hall fun j v hj => ?_⟩
    have h3 := hown.cells (g := g) (by rw [hv]; rfl) j v hj
    rw [cell_add] at h3
    exact h3
theorem allP_of_lies {w : World} {P : Nat → Prop} : ∀ (l : List LT) (b o : Nat), LiesPR w P l b o → AllP w P l
  | [], _, _, _ => fun _ h => by cases h
  | t :: l, b, o, h => by
    rw [liesPR_cons] at h
    intro x hx
    rcases List.mem_cons.1 hx with rfl | hx
    · exact (liesP_held.1 h.1).2.2
    · exact allP_of_lies l b (o + 7) h.2 x hx
theorem cells_of_lies {w : World} {P : Nat → Prop} : ∀ (l : List LT) (b o : Nat), LiesPR w P l b o → ∀ j v, (cellsAll l)[j]? = some v → w.cell? ⟨b, o + j, none⟩ = some v
  | [], _, _, _, j, v, hj => by simp [cellsAll] at hj
  | t :: l, b, o, h, j, v, hj => by
    rw [liesPR_cons] at h
    rw [cellsAll] at hj
    by_cases hlt : j < t.cells.length
    · rw [List.getElem?_append_left hlt] at hj
      exact (liesP_held.1 h.1).2.1 j v hj
    · rw [List.getElem?_append_right (by omega), show t.cells.length = 7 from rfl] at hj
      have := cells_of_lies l b (o + 7) h.2 (j - 7) v hj
      rwa [show o + 7 + (j - 7) = o + j by rw [show t.cells.length = 7 from rfl] at hlt; omega] at this
theorem AllP.append {w : World} {P : Nat → Prop} {l m : List LT} (h : AllP w P l) (h2 : AllP w P m) : AllP w P (l ++ m) := by
  intro x hx
  rcases List.mem_append.1 hx with hx | hx
  · exact h x hx
  · exact h2 x hx

theorem cells7 {w : World} {g : Nat} {c0 c1 c2 c3 c4 c5 c6 : Value} {T : TypeId} {fr : Nat × Nat} (h : w.heap[g]? = some (.cells #[c0, c1, c2, c3, c4, c5, c6] T fr)) :
    w.cell? ⟨g, 0, none⟩ = some c0 ∧ w.cell? ⟨g, 1, none⟩ = some c1 ∧ w.cell? ⟨g, 2, none⟩ = some c2 ∧ w.cell? ⟨g, 3, none⟩ = some c3 ∧ w.cell? ⟨g, 4, none⟩ = some c4 ∧ w.cell? ⟨g, 5, none⟩ = some c5 ∧ w.cell? ⟨g, 6, none⟩ = some c6 := by
  refine ⟨?_, ?_, ?_, ?_, ?_, ?_, ?_⟩ <;> (rw [Lib.cell_of_heap h]; rfl)
theorem frozen7 {w : World} {g : Nat} {cs : Array Value} {T : TypeId} (h : w.heap[g]? = some (.cells cs T (0, 0))) :
    w.frozen? ⟨g, 0, none⟩ = false ∧ w.frozen? ⟨g, 1, none⟩ = false ∧ w.frozen? ⟨g, 2, none⟩ = false ∧ w.frozen? ⟨g, 3, none⟩ = false ∧ w.frozen? ⟨g, 4, none⟩ = false ∧ w.frozen? ⟨g, 5, none⟩ = false ∧ w.frozen? ⟨g, 6, none⟩ = false :=
  ⟨Lib.frozen_of_heap h 0, Lib.frozen_of_heap h 1, Lib.frozen_of_heap h 2, Lib.frozen_of_heap h 3, Lib.frozen_of_heap h 4, Lib.frozen_of_heap h 5, Lib.frozen_of_heap h 6⟩
theorem sizesD_ge (l : List DT) : l.length ≤ sizesD l := by
  induction l with
  | nil => simp
  | cons t l ih =>
    have : 1 ≤ sizeD t := by cases t; simp only [sizeD]; omega
    simp only [sizesD, List.length_cons]; omega
theorem items_bd (u : LT) (d : DT) (n : Nat) (h : shape u = d) (hd : sizeD d ≤ n) : u.items.length ≤ n := by
  have h1 : sizeD (shape u) = 1 + (sizesD (shapes u.items) + sizesD (shapes u.tail)) := by rw [shape_eq]; simp only [sizeD]
  have h2 := sizesD_ge (shapes u.items)
  rw [shapes_length] at h2
  rw [h] at h1
  omega
theorem leafD_k (k : Int) (g : Bool) (ys : List Nat) (bb : Bool) (s : ByteArray) : (leafD k g ys bb s).k = k := by
  unfold leafD
  split
  · rename_i h; rw [h]; rfl
  · split
    · rename_i h; rw [h]; rfl
    · split <;> rfl
mutual
theorem spine_leaf : ∀ (t : LT) (e : DT), (spineT t).2 = some e → e.k ≠ 5
  | .mk k g la ln lc ys bb s ia ic items ta tc tail, e, h => by
    simp only [spineT] at h
    split at h
    · exact spineR_leaf tail e h
    · rename_i h5
      obtain rfl := Option.some.inj h
      rw [leafD_k]; exact h5
theorem spineR_leaf : ∀ (l : List LT) (e : DT), (spineR l).2 = some e → e.k ≠ 5
  | [], e, h => by simp [spineR] at h
  | t :: l, e, h => by
    simp only [spineR] at h
    exact spine_leaf t e h
end
theorem shape_k (t : LT) : (shape t).k = t.k := by rw [shape_eq]; rfl
/-- What the rest of a list is, joined to its items. -/
theorem close_join (ts : List DT) (l2 : List DT) (e2 : Option DT) (u : LT) (hu : shape u = closeD (l2, e2)) (h5 : u.k = 5) (he : ∀ e, e2 = some e → e.k ≠ 5) : closeD (ts ++ l2, e2) = .mk 5 false [] false ⟨#[]⟩ (ts ++ shapes u.items) (shapes u.tail) := by
  rw [shape_eq] at hu
  cases e2 with
  | none =>
    rw [close_none] at hu
    injection hu with _ _ _ _ _ h1 h2
    rw [close_none, h1, h2]
  | some e =>
    cases l2 with
    | nil =>
      exact absurd (show e.k = 5 by have h : DT.mk u.k u.g u.ys u.bb u.s (shapes u.items) (shapes u.tail) = e := hu; rw [← h]; exact h5) (he e rfl)
    | cons x l2 =>
      rw [close_some _ _ (by simp)] at hu
      injection hu with _ _ _ _ _ h1 h2
      rw [close_some _ _ (by simp), h1, h2]
theorem close_dot (ts : List DT) (hts : ts ≠ []) (l2 : List DT) (e2 : Option DT) (u : LT) (hu : shape u = closeD (l2, e2)) (h5 : u.k ≠ 5) : closeD (ts ++ l2, e2) = .mk 5 false [] false ⟨#[]⟩ ts [shape u] := by
  cases e2 with
  | none => rw [close_none] at hu; exact absurd (by rw [← shape_k, hu]; rfl) h5
  | some e =>
    cases l2 with
    | nil =>
      have h : shape u = e := hu
      rw [List.append_nil, close_some _ _ hts, h]
    | cons x l2 => rw [close_some _ _ (by simp)] at hu; exact absurd (by rw [← shape_k, hu]; rfl) h5

set_option maxRecDepth 100000 in
set_option maxHeartbeats 3200000 in
theorem rnorm_23 (t : LT) (hk : t.k = 2 ∨ t.k = 3 ∨ t.k = 4) (hs : t.s.size ≤ maxLen) (w : World) : Calls Tryd.prog 41 #[.agg #[.int .i64 t.k, .bool t.g, .slice t.la t.ln t.lc, .bool t.bb, .string t.s, .slice t.ia t.items.length t.ic, .slice t.ta t.tail.length t.tc]] w (NPost (normT t) w) := by
  have hd : normT t = if t.k = 2 then .mk 2 false [] t.bb ⟨#[]⟩ [] [] else .mk t.k false [] false t.s [] [] := by
    rw [normT_leaf t (by omega)]
    unfold leafD
    rcases hk with h | h | h <;> simp [h]
  rw [hd]
  clear hd
  generalize t.k = k at *
  rcases hk with rfl | rfl | rfl
  all_goals
    go_enter Tryd.func41, Tryd.ntmps41
    go_wp2_with fail
    (try simp only [Exit.inBlock, Exit.then])
  · refine bodyPost_ret (v := .agg #[.int .i64 2, .bool false, .slice none 0 0, .bool t.bb, .string ⟨#[]⟩, .slice none 0 0, .slice none 0 0]) (results_d rfl rfl (by go_simp) (by go_simp) (by go_simp) (by go_simp) (by go_simp) (by go_simp) (by go_simp)) rfl ⟨plainT 2 false none 0 0 [] t.bb ⟨#[]⟩, rfl, plainT_held ⟨Sl.nil, fun h => absurd h (by decide), empty_le⟩, plainT_shape .., ?_⟩
    repeat (first | exact Below.refl _ _ | refine Below.setCell (hp := by first | (simp; done) | (simp; omega)) ?_ _ | refine Below.alloc ?_ (by first | (simp; done) | (simp; omega)) _)
  · refine bodyPost_ret (v := .agg #[.int .i64 3, .bool false, .slice none 0 0, .bool false, .string t.s, .slice none 0 0, .slice none 0 0]) (results_d rfl rfl (by go_simp) (by go_simp) (by go_simp) (by go_simp) (by go_simp) (by go_simp) (by go_simp)) rfl ⟨plainT 3 false none 0 0 [] false t.s, rfl, plainT_held ⟨Sl.nil, fun h => absurd h (by decide), hs⟩, plainT_shape .., ?_⟩
    repeat (first | exact Below.refl _ _ | refine Below.setCell (hp := by first | (simp; done) | (simp; omega)) ?_ _ | refine Below.alloc ?_ (by first | (simp; done) | (simp; omega)) _)
  · refine bodyPost_ret (v := .agg #[.int .i64 4, .bool false, .slice none 0 0, .bool false, .string t.s, .slice none 0 0, .slice none 0 0]) (results_d rfl rfl (by go_simp) (by go_simp) (by go_simp) (by go_simp) (by go_simp) (by go_simp) (by go_simp)) rfl ⟨plainT 4 false none 0 0 [] false t.s, rfl, plainT_held ⟨Sl.nil, fun h => absurd h (by decide), hs⟩, plainT_shape .., ?_⟩
    repeat (first | exact Below.refl _ _ | refine Below.setCell (hp := by first | (simp; done) | (simp; omega)) ?_ _ | refine Below.alloc ?_ (by first | (simp; done) | (simp; omega)) _)

set_option maxRecDepth 100000 in
set_option maxHeartbeats 3200000 in
theorem rnorm_other (t : LT) (h1 : t.k ≠ 1) (h2 : t.k ≠ 2) (h3 : t.k ≠ 3) (h4 : t.k ≠ 4) (h5 : t.k ≠ 5) (w : World) : Calls Tryd.prog 41 #[.agg #[.int .i64 t.k, .bool t.g, .slice t.la t.ln t.lc, .bool t.bb, .string t.s, .slice t.ia t.items.length t.ic, .slice t.ta t.tail.length t.tc]] w (NPost (normT t) w) := by
  have hd : normT t = .mk t.k false [] false ⟨#[]⟩ [] [] := by
    rw [normT_leaf t h5]
    unfold leafD
    rw [if_neg h1, if_neg h2, if_neg (by omega)]
  rw [hd]
  clear hd
  generalize t.k = k at *
  have e1 : (k == 1) = false := by simp [h1]
  have e2 : (k == 2) = false := by simp [h2]
  have e3 : (k == 3) = false := by simp [h3]
  have e4 : (k == 4) = false := by simp [h4]
  have e5 : (k == 5) = false := by simp [h5]
  go_enter Tryd.func41, Tryd.ntmps41
  go_wp2_with fail
  (try simp only [Exit.inBlock, Exit.then])
  refine bodyPost_ret (v := .agg #[.int .i64 k, .bool false, .slice none 0 0, .bool false, .string ⟨#[]⟩, .slice none 0 0, .slice none 0 0]) (results_d rfl rfl (by go_simp) (by go_simp) (by go_simp) (by go_simp) (by go_simp) (by go_simp) (by go_simp)) rfl ⟨plainT k false none 0 0 [] false ⟨#[]⟩, rfl, plainT_held ⟨Sl.nil, fun h => absurd h (by decide), empty_le⟩, plainT_shape .., ?_⟩
  repeat (first | exact Below.refl _ _ | refine Below.setCell (hp := by first | (simp; done) | (simp; omega)) ?_ _ | refine Below.alloc ?_ (by first | (simp; done) | (simp; omega)) _)

set_option maxRecDepth 100000 in
set_option maxHeartbeats 3200000 in
theorem rnorm_numL (t : LT) (hk : t.k = 1) (hl : t.ln ≤ 1000) (w : World) (hs : Sl w t.la t.ln t.lc t.ys) : Calls Tryd.prog 41 #[.agg #[.int .i64 t.k, .bool t.g, .slice t.la t.ln t.lc, .bool t.bb, .string t.s, .slice t.ia t.items.length t.ic, .slice t.ta t.tail.length t.tc]] w (NPost (normT t) w) := by
  have hd : normT t = .mk 1 (decide (zOf t.g (val t.ys) < 0)) (limbs (zOf t.g (val t.ys)).natAbs) false ⟨#[]⟩ [] [] := by
    rw [normT_leaf t (by omega)]
    unfold leafD
    rw [if_pos hk]
  rw [hd, hk]
  clear hd hk
  have HW := Lib.hid (fun W (hb : Below w.heap.size w W) => (⟨t.g, _, val t.ys, rfl, ⟨t.la, t.ln, t.lc, t.ys, rfl, hs.below hb, rfl, hl⟩, rfl⟩ : Wh W (.agg #[.bool t.g, .slice t.la t.ln t.lc]) (zOf t.g (val t.ys)) 1000))
  clear hs
  go_enter Tryd.func41, Tryd.ntmps41
  go_wp2_with fail
  have hb3 : Below w.heap.size w ((w.alloc (Obj.cells #[.int .i64 1, .bool t.g, .slice t.la t.ln t.lc, .bool t.bb, .string t.s, .slice t.ia t.items.length t.ic, .slice t.ta t.tail.length t.tc] 27)).alloc (Obj.cells #[.int .i64 0, .bool false, .slice none 0 0, .bool false, .string ⟨#[]⟩, .slice none 0 0, .slice none 0 0] 27)) := ((Below.refl w.heap.size w).alloc (Nat.le_refl _) _).alloc (by simp) _
  have hz3 : ((w.alloc (Obj.cells #[.int .i64 1, .bool t.g, .slice t.la t.ln t.lc, .bool t.bb, .string t.s, .slice t.ia t.items.length t.ic, .slice t.ta t.tail.length t.tc] 27)).alloc (Obj.cells #[.int .i64 0, .bool false, .slice none 0 0, .bool false, .string ⟨#[]⟩, .slice none 0 0, .slice none 0 0] 27)).heap.size = w.heap.size + 1 + 1 := by rw [World.size_alloc, World.size_alloc]
  have hr : ((w.alloc (Obj.cells #[.int .i64 1, .bool t.g, .slice t.la t.ln t.lc, .bool t.bb, .string t.s, .slice t.ia t.items.length t.ic, .slice t.ta t.tail.length t.tc] 27)).alloc (Obj.cells #[.int .i64 0, .bool false, .slice none 0 0, .bool false, .string ⟨#[]⟩, .slice none 0 0, .slice none 0 0] 27)).heap[w.heap.size + 1]? = some (Obj.cells #[.int .i64 0, .bool false, .slice none 0 0, .bool false, .string ⟨#[]⟩, .slice none 0 0, .slice none 0 0] 27) := by have := World.alloc_heap_new (w.alloc (Obj.cells #[.int .i64 1, .bool t.g, .slice t.la t.ln t.lc, .bool t.bb, .string t.s, .slice t.ia t.items.length t.ic, .slice t.ta t.tail.length t.tc] 27)) (Obj.cells #[.int .i64 0, .bool false, .slice none 0 0, .bool false, .string ⟨#[]⟩, .slice none 0 0, .slice none 0 0] 27); rwa [World.size_alloc] at this
  have H3 := Lib.hid (And.intro hb3 (And.intro hz3 hr))
  clear hb3 hz3 hr
  refine (rwnorm_num (HW.out _ H3.out.1) (by decide)).mono ?_
  rintro e w1 ⟨v, rfl, ⟨x, rfl, A, n, c, rfl, hsl, hor⟩, b1⟩
  have hz1 : w.heap.size + 2 ≤ w1.heap.size := by have := b1.size; rw [H3.out.2.1] at this; omega
  have hr1 := (b1.block (w.heap.size + 1) (by rw [H3.out.2.1]; omega)).trans H3.out.2.2
  have hb1 := H3.out.1.trans (b1.mono (by rw [H3.out.2.1]; omega))
  have hrs := fun j => Lib.cell_of_heap hr1 j
  have r0 := hrs 0; have r1 := hrs 1; have r2 := hrs 2; have r3 := hrs 3; have r4 := hrs 4; have r5 := hrs 5; have r6 := hrs 6
  have hrf := fun j => Lib.frozen_of_heap hr1 j
  have f0 := hrf 0; have f1 := hrf 1; have f2 := hrf 2; have f3 := hrf 3; have f4 := hrf 4; have f5 := hrf 5; have f6 := hrf 6
  simp only [List.getElem?_toArray, List.getElem?_cons_zero, List.getElem?_cons_succ] at r0 r1 r2 r3 r4 r5 r6
  rw [H3.out.2.1] at hor
  have HQ := Lib.hid (And.intro hsl (And.intro hor (And.intro hb1 hz1)))
  clear hrs hrf hr1 hb1 b1 hsl hor HW
  generalize hd0 : decide (zOf t.g (val t.ys) < 0) = dg at *
  generalize hl0 : limbs (zOf t.g (val t.ys)).natAbs = lz at *
  go_wp2_with fail
  (try simp only [Exit.inBlock, Exit.then])
  refine bodyPost_ret (v := .agg #[.int .i64 1, .bool dg, .slice A n c, .bool false, .string ⟨#[]⟩, .slice none 0 0, .slice none 0 0]) (results_d rfl rfl (by go_simp) (by go_simp) (by go_simp) (by go_simp) (by go_simp) (by go_simp) (by go_simp)) rfl ⟨plainT 1 dg A n c lz false ⟨#[]⟩, rfl, ?_, plainT_shape .., ?_⟩
  · refine HeldP.low (L := w.heap.size) (U := w.heap.size + 2) (w := w1) (plainT_held ⟨HQ.out.1, fun hp => ?_, empty_le⟩) (set7_low (Low.refl w.heap.size (w.heap.size + 2) w1) (by omega) (by omega)) (by omega)
    rcases HQ.out.2.1 with ⟨h1, h2⟩ | ⟨g, cur, rfl, hg, hgc, _⟩
    · have h3 := HQ.out.1.le
      omega
    · exact ⟨hg, _, hgc, fun c fz e => by cases e⟩
  · exact set7_below HQ.out.2.2.1 (by omega)

theorem rnorm_nl (t : LT) (h5 : t.k ≠ 5) (hl : t.ln ≤ 1000) (hs : t.s.size ≤ maxLen) (w : World) (hsl : Sl w t.la t.ln t.lc t.ys) : Calls Tryd.prog 41 #[.agg #[.int .i64 t.k, .bool t.g, .slice t.la t.ln t.lc, .bool t.bb, .string t.s, .slice t.ia t.items.length t.ic, .slice t.ta t.tail.length t.tc]] w (NPost (normT t) w) := by
  by_cases h1 : t.k = 1
  · exact rnorm_numL t h1 hl w hsl
  · by_cases h2 : t.k = 2 ∨ t.k = 3 ∨ t.k = 4
    · exact rnorm_23 t h2 hs w
    · exact rnorm_other t h1 (by omega) (by omega) (by omega) h5 w
end Go.Proofs.YtgfamihldecmbaaDoor
