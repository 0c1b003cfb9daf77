/-
  datum.normal of what is no list, of any shape.
-/
import Derived.Test.YtlohdglhebplfaaGreatDoorDt
import Derived.Test.YtlohdglhebplfaaGreatDoorNw
namespace Go.Proofs.YtlohdglhebplfaaGreatDoor
open Go.RowKit

/-- A block at B or above, that is no row of bytes, and may be written. -/
def Fresh (w : World) (B k : Nat) : Prop := B ≤ k ∧ ∃ c T, w.heap[k]? = some (.cells c T (0, 0)) ∧ T ≠ 5 ∧ T ≠ 195
theorem Fresh.of {w : World} {B k : Nat} {c : Array Value} {T : TypeId} (hB : B ≤ k) (h : w.heap[k]? = some (.cells c T (0, 0))) (hT : T ≠ 5 ∧ T ≠ 195) : Fresh w B k := ⟨hB, _, _, h, hT⟩
theorem Fresh.free {w : World} {B k : Nat} (h : Fresh w B k) (o : Nat) : w.frozen? ⟨k, o, none⟩ = false := by
  obtain ⟨_, c, T, hx, _⟩ := h
  simp [World.frozen?, hx]
theorem Fresh.lt {w : World} {B k : Nat} (h : Fresh w B k) : k < w.heap.size := by
  obtain ⟨_, c, T, ho, _⟩ := h
  exact (Array.getElem?_eq_some_iff.1 ho).1
theorem Fresh.low {w : World} {B B' k : Nat} (h : Fresh w B k) (hB : B' ≤ B) : Fresh w B' k := ⟨Nat.le_trans hB h.1, h.2⟩
theorem Fresh.same {w w' : World} {B k : Nat} (h : Fresh w B k) (e : w'.heap[k]? = w.heap[k]?) : Fresh w' B k := ⟨h.1, by rw [e]; exact h.2⟩
theorem HeldP.below {w w' : World} {B B' : Nat} {t : LT} (h : HeldP w (Fresh w B) t) (hb : Below w.heap.size w w') (hB : B' ≤ B) : HeldP w' (Fresh w' B') t :=
  h.keep hb.size fun k hk => ⟨(hk.same (hb.block k hk.lt)).low hB, hb.block k hk.lt⟩
/-- Only blocks from L to U are other ones. -/
def Low (L U : Nat) (w w' : World) : Prop := w.heap.size ≤ w'.heap.size ∧ ∀ k, (k < L ∨ U ≤ k) → w'.heap[k]? = w.heap[k]?
theorem Low.refl (L U : Nat) (w : World) : Low L U w w := ⟨Nat.le_refl _, fun _ _ => rfl⟩
theorem Low.setCell {L U : Nat} {w w' : World} {p : Addr} (h : Low L U w w') (h1 : L ≤ p.block) (h2 : p.block < U) (v : Value) : Low L U w (w'.setCell p v) :=
  ⟨Nat.le_trans h.1 (KeepsWalks.setCell w' p v).size, fun k hk => (Below.heap_setCell _ _ _ _ (by omega)).trans (h.2 k hk)⟩
theorem HeldP.low {L U B : Nat} {w w' : World} {t : LT} (h : HeldP w (Fresh w U) t) (hl : Low L U w w') (hB : B ≤ U) : HeldP w' (Fresh w' B) t :=
  h.keep hl.1 fun k hk => ⟨(hk.same (hl.2 k (.inr hk.1))).low hB, hl.2 k (.inr hk.1)⟩
/-- What normal leaves. -/
def NPost (d : DT) (w : World) (e : Ending) (w' : World) : Prop := ∃ u : LT, e = .returned (.agg #[.int .i64 u.k, .bool u.g, .slice u.la u.ln u.lc, .bool u.bb, .string u.s, .slice u.ia u.items.length u.ic, .slice u.ta u.tail.length u.tc]) ∧ HeldP w' (Fresh w' w.heap.size) u ∧ shape u = d ∧ Below w.heap.size w w'
def plainT (k : Int) (g : Bool) (la : Option Addr) (ln lc : Nat) (ys : List Nat) (bb : Bool) (s : ByteArray) : LT := .mk k g la ln lc ys bb s none 0 [] none 0 []
theorem plainT_held {w : World} {P : Nat → Prop} {k : Int} {g bb : Bool} {la : Option Addr} {ln lc : Nat} {ys : List Nat} {s : ByteArray} (h : Sl w la ln lc ys ∧ (0 < ln → P (blk la)) ∧ s.size ≤ maxLen) : HeldP w P (plainT k g la ln lc ys bb s) :=
  ⟨h, ⟨by simp [plainT, LT.items, LT.ic], by simp [plainT, LT.ic], fun h => absurd h (by simp [plainT, LT.items]), fun _ => rfl⟩, ⟨by simp [plainT, LT.tail, LT.tc], by simp [plainT, LT.tc], fun h => absurd h (by simp [plainT, LT.tail]), fun _ => rfl⟩, by simp [plainT, LT.items, LiesPR], by simp [plainT, LT.tail, LiesPR]⟩
theorem plainT_shape (k : Int) (g : Bool) (la : Option Addr) (ln lc : Nat) (ys : List Nat) (bb : Bool) (s : ByteArray) : shape (plainT k g la ln lc ys bb s) = .mk k g ys bb s [] [] := by simp [plainT, shape, shapes]
theorem empty_le : (⟨#[]⟩ : ByteArray).size ≤ maxLen := by decide

set_option maxRecDepth 100000 in
set_option maxHeartbeats 3200000 in
theorem normal_23 (t : LT) (hk : t.k = 2 ∨ t.k = 3 ∨ t.k = 4) (hs : t.s.size ≤ maxLen) (w : World) : Calls Tryz.prog 134 #[.agg #[.int .i64 t.k, .bool t.g, .slice t.la t.ln t.lc, .bool t.bb, .string t.s, .slice t.ia t.items.length t.ic, .slice t.ta t.tail.length t.tc]] w (NPost (normT t) w) := by
  have hd : normT t = if t.k = 2 then .mk 2 false [] t.bb ⟨#[]⟩ [] [] else .mk t.k false [] false t.s [] [] := by
    rw [normT_leaf t (by omega)]
    unfold leafD
    rcases hk with h | h | h <;> simp [h]
  rw [hd]
  clear hd
  generalize t.k = k at *
  rcases hk with rfl | rfl | rfl
  all_goals
    go_enter Tryz.func134, Tryz.ntmps134
    go_wp2_with fail
    (try simp only [Exit.inBlock, Exit.then])
  · refine bodyPost_ret (v := .agg #[.int .i64 2, .bool false, .slice none 0 0, .bool t.bb, .string ⟨#[]⟩, .slice none 0 0, .slice none 0 0]) (results_d rfl rfl (by go_simp) (by go_simp) (by go_simp) (by go_simp) (by go_simp) (by go_simp) (by go_simp)) rfl ⟨plainT 2 false none 0 0 [] t.bb ⟨#[]⟩, rfl, plainT_held ⟨Sl.nil, fun h => absurd h (by decide), empty_le⟩, plainT_shape .., ?_⟩
    repeat (first | exact Below.refl _ _ | refine Below.setCell (hp := by first | (simp; done) | (simp; omega)) ?_ _ | refine Below.alloc ?_ (by first | (simp; done) | (simp; omega)) _)
  · refine bodyPost_ret (v := .agg #[.int .i64 3, .bool false, .slice none 0 0, .bool false, .string t.s, .slice none 0 0, .slice none 0 0]) (results_d rfl rfl (by go_simp) (by go_simp) (by go_simp) (by go_simp) (by go_simp) (by go_simp) (by go_simp)) rfl ⟨plainT 3 false none 0 0 [] false t.s, rfl, plainT_held ⟨Sl.nil, fun h => absurd h (by decide), hs⟩, plainT_shape .., ?_⟩
    repeat (first | exact Below.refl _ _ | refine Below.setCell (hp := by first | (simp; done) | (simp; omega)) ?_ _ | refine Below.alloc ?_ (by first | (simp; done) | (simp; omega)) _)
  · refine bodyPost_ret (v := .agg #[.int .i64 4, .bool false, .slice none 0 0, .bool false, .string t.s, .slice none 0 0, .slice none 0 0]) (results_d rfl rfl (by go_simp) (by go_simp) (by go_simp) (by go_simp) (by go_simp) (by go_simp) (by go_simp)) rfl ⟨plainT 4 false none 0 0 [] false t.s, rfl, plainT_held ⟨Sl.nil, fun h => absurd h (by decide), hs⟩, plainT_shape .., ?_⟩
    repeat (first | exact Below.refl _ _ | refine Below.setCell (hp := by first | (simp; done) | (simp; omega)) ?_ _ | refine Below.alloc ?_ (by first | (simp; done) | (simp; omega)) _)

set_option maxRecDepth 100000 in
set_option maxHeartbeats 3200000 in
theorem normal_other (t : LT) (h1 : t.k ≠ 1) (h2 : t.k ≠ 2) (h3 : t.k ≠ 3) (h4 : t.k ≠ 4) (h5 : t.k ≠ 5) (w : World) : Calls Tryz.prog 134 #[.agg #[.int .i64 t.k, .bool t.g, .slice t.la t.ln t.lc, .bool t.bb, .string t.s, .slice t.ia t.items.length t.ic, .slice t.ta t.tail.length t.tc]] w (NPost (normT t) w) := by
  have hd : normT t = .mk t.k false [] false ⟨#[]⟩ [] [] := by
    rw [normT_leaf t h5]
    unfold leafD
    rw [if_neg h1, if_neg h2, if_neg (by omega)]
  rw [hd]
  clear hd
  generalize t.k = k at *
  have e1 : (k == 1) = false := by simp [h1]
  have e2 : (k == 2) = false := by simp [h2]
  have e3 : (k == 3) = false := by simp [h3]
  have e4 : (k == 4) = false := by simp [h4]
  have e5 : (k == 5) = false := by simp [h5]
  go_enter Tryz.func134, Tryz.ntmps134
  go_wp2_with fail
  (try simp only [Exit.inBlock, Exit.then])
  refine bodyPost_ret (v := .agg #[.int .i64 k, .bool false, .slice none 0 0, .bool false, .string ⟨#[]⟩, .slice none 0 0, .slice none 0 0]) (results_d rfl rfl (by go_simp) (by go_simp) (by go_simp) (by go_simp) (by go_simp) (by go_simp) (by go_simp)) rfl ⟨plainT k false none 0 0 [] false ⟨#[]⟩, rfl, plainT_held ⟨Sl.nil, fun h => absurd h (by decide), empty_le⟩, plainT_shape .., ?_⟩
  repeat (first | exact Below.refl _ _ | refine Below.setCell (hp := by first | (simp; done) | (simp; omega)) ?_ _ | refine Below.alloc ?_ (by first | (simp; done) | (simp; omega)) _)

set_option maxRecDepth 100000 in
set_option maxHeartbeats 3200000 in
theorem normal_num (t : LT) (hk : t.k = 1) (hl : t.ln ≤ 1000) (w : World) (hs : Sl w t.la t.ln t.lc t.ys) : Calls Tryz.prog 134 #[.agg #[.int .i64 t.k, .bool t.g, .slice t.la t.ln t.lc, .bool t.bb, .string t.s, .slice t.ia t.items.length t.ic, .slice t.ta t.tail.length t.tc]] w (NPost (normT t) w) := by
  have hd : normT t = .mk 1 (decide (zOf t.g (val t.ys) < 0)) (limbs (zOf t.g (val t.ys)).natAbs) false ⟨#[]⟩ [] [] := by
    rw [normT_leaf t (by omega)]
    unfold leafD
    rw [if_pos hk]
  rw [hd, hk]
  clear hd hk
  have HW := Lib.hid (fun W (hb : Below w.heap.size w W) => (⟨t.g, _, val t.ys, rfl, ⟨t.la, t.ln, t.lc, t.ys, rfl, hs.below hb, rfl, hl⟩, rfl⟩ : Wh W (.agg #[.bool t.g, .slice t.la t.ln t.lc]) (zOf t.g (val t.ys)) 1000))
  clear hs
  go_enter Tryz.func134, Tryz.ntmps134
  go_wp2_with fail
  have hb3 : Below w.heap.size w (((w.alloc (Obj.cells #[.int .i64 1, .bool t.g, .slice t.la t.ln t.lc, .bool t.bb, .string t.s, .slice t.ia t.items.length t.ic, .slice t.ta t.tail.length t.tc] 31)).alloc (Obj.cells #[.int .i64 0, .bool false, .slice none 0 0, .bool false, .string ⟨#[]⟩, .slice none 0 0, .slice none 0 0] 31)).alloc (Obj.cells #[.int .i64 1, .bool false, .slice none 0 0, .bool false, .string ⟨#[]⟩, .slice none 0 0, .slice none 0 0] 31)) := (((Below.refl w.heap.size w).alloc (Nat.le_refl _) _).alloc (by simp) _).alloc (by simp; omega) _
  have hz3 : (((w.alloc (Obj.cells #[.int .i64 1, .bool t.g, .slice t.la t.ln t.lc, .bool t.bb, .string t.s, .slice t.ia t.items.length t.ic, .slice t.ta t.tail.length t.tc] 31)).alloc (Obj.cells #[.int .i64 0, .bool false, .slice none 0 0, .bool false, .string ⟨#[]⟩, .slice none 0 0, .slice none 0 0] 31)).alloc (Obj.cells #[.int .i64 1, .bool false, .slice none 0 0, .bool false, .string ⟨#[]⟩, .slice none 0 0, .slice none 0 0] 31)).heap.size = w.heap.size + 1 + 1 + 1 := by rw [World.size_alloc, World.size_alloc, World.size_alloc]
  have hr : (((w.alloc (Obj.cells #[.int .i64 1, .bool t.g, .slice t.la t.ln t.lc, .bool t.bb, .string t.s, .slice t.ia t.items.length t.ic, .slice t.ta t.tail.length t.tc] 31)).alloc (Obj.cells #[.int .i64 0, .bool false, .slice none 0 0, .bool false, .string ⟨#[]⟩, .slice none 0 0, .slice none 0 0] 31)).alloc (Obj.cells #[.int .i64 1, .bool false, .slice none 0 0, .bool false, .string ⟨#[]⟩, .slice none 0 0, .slice none 0 0] 31)).heap[w.heap.size + 1]? = some (Obj.cells #[.int .i64 0, .bool false, .slice none 0 0, .bool false, .string ⟨#[]⟩, .slice none 0 0, .slice none 0 0] 31) := (Below.heap_alloc _ _ _ (by simp)).trans (by have := World.alloc_heap_new (w.alloc (Obj.cells #[.int .i64 1, .bool t.g, .slice t.la t.ln t.lc, .bool t.bb, .string t.s, .slice t.ia t.items.length t.ic, .slice t.ta t.tail.length t.tc] 31)) (Obj.cells #[.int .i64 0, .bool false, .slice none 0 0, .bool false, .string ⟨#[]⟩, .slice none 0 0, .slice none 0 0] 31); rwa [World.size_alloc] at this)
  have ho : (((w.alloc (Obj.cells #[.int .i64 1, .bool t.g, .slice t.la t.ln t.lc, .bool t.bb, .string t.s, .slice t.ia t.items.length t.ic, .slice t.ta t.tail.length t.tc] 31)).alloc (Obj.cells #[.int .i64 0, .bool false, .slice none 0 0, .bool false, .string ⟨#[]⟩, .slice none 0 0, .slice none 0 0] 31)).alloc (Obj.cells #[.int .i64 1, .bool false, .slice none 0 0, .bool false, .string ⟨#[]⟩, .slice none 0 0, .slice none 0 0] 31)).heap[w.heap.size + 1 + 1]? = some (Obj.cells #[.int .i64 1, .bool false, .slice none 0 0, .bool false, .string ⟨#[]⟩, .slice none 0 0, .slice none 0 0] 31) := by
    have := World.alloc_heap_new ((w.alloc (Obj.cells #[.int .i64 1, .bool t.g, .slice t.la t.ln t.lc, .bool t.bb, .string t.s, .slice t.ia t.items.length t.ic, .slice t.ta t.tail.length t.tc] 31)).alloc (Obj.cells #[.int .i64 0, .bool false, .slice none 0 0, .bool false, .string ⟨#[]⟩, .slice none 0 0, .slice none 0 0] 31)) (Obj.cells #[.int .i64 1, .bool false, .slice none 0 0, .bool false, .string ⟨#[]⟩, .slice none 0 0, .slice none 0 0] 31)
    rwa [World.size_alloc, World.size_alloc] at this
  have H3 := Lib.hid (And.intro hb3 (And.intro hz3 (And.intro hr ho)))
  clear hb3 hz3 hr ho
  refine (wnorm_num (HW.out _ H3.out.1) (by decide)).mono ?_
  rintro e w1 ⟨v, rfl, ⟨x, rfl, A, n, c, rfl, hsl, hor⟩, b1⟩
  have hz1 : w.heap.size + 3 ≤ w1.heap.size := by have := b1.size; rw [H3.out.2.1] at this; omega
  have hr1 := (b1.block (w.heap.size + 1) (by rw [H3.out.2.1]; omega)).trans H3.out.2.2.1
  have ho1 := (b1.block (w.heap.size + 1 + 1) (by rw [H3.out.2.1]; omega)).trans H3.out.2.2.2
  have hb1 := H3.out.1.trans (b1.mono (by rw [H3.out.2.1]; omega))
  have hrs := fun j => Lib.cell_of_heap hr1 j
  have r0 := hrs 0; have r1 := hrs 1; have r2 := hrs 2; have r3 := hrs 3; have r4 := hrs 4; have r5 := hrs 5; have r6 := hrs 6
  have hrf := fun j => Lib.frozen_of_heap hr1 j
  have f0 := hrf 0; have f1 := hrf 1; have f2 := hrf 2; have f3 := hrf 3; have f4 := hrf 4; have f5 := hrf 5; have f6 := hrf 6
  have hos := fun j => Lib.cell_of_heap ho1 j
  have o0 := hos 0; have o1 := hos 1; have o2 := hos 2; have o3 := hos 3; have o4 := hos 4; have o5 := hos 5; have o6 := hos 6
  have hof := fun j => Lib.frozen_of_heap ho1 j
  have p1 := hof 1; have p2 := hof 2
  simp only [List.getElem?_toArray, List.getElem?_cons_zero, List.getElem?_cons_succ] at r0 r1 r2 r3 r4 r5 r6 o0 o1 o2 o3 o4 o5 o6
  rw [H3.out.2.1] at hor
  have HQ := Lib.hid (And.intro hsl (And.intro hor (And.intro hb1 hz1)))
  clear hrs hrf hos hof hr1 ho1 hb1 b1 hsl hor HW
  generalize hd0 : decide (zOf t.g (val t.ys) < 0) = dg at *
  generalize hl0 : limbs (zOf t.g (val t.ys)).natAbs = lz at *
  go_wp2_with fail
  (try simp only [Exit.inBlock, Exit.then])
  refine bodyPost_ret (v := .agg #[.int .i64 1, .bool dg, .slice A n c, .bool false, .string ⟨#[]⟩, .slice none 0 0, .slice none 0 0]) (results_d rfl rfl (by go_simp) (by go_simp) (by go_simp) (by go_simp) (by go_simp) (by go_simp) (by go_simp)) rfl ⟨plainT 1 dg A n c lz false ⟨#[]⟩, rfl, ?_, plainT_shape .., ?_⟩
  · refine HeldP.low (L := w.heap.size) (U := w.heap.size + 3) (w := w1) (plainT_held ⟨HQ.out.1, fun hp => ?_, empty_le⟩) (Low.setCell (p := ⟨w.heap.size + 1, 6, none⟩) (Low.setCell (p := ⟨w.heap.size + 1, 5, none⟩) (Low.setCell (p := ⟨w.heap.size + 1, 4, none⟩) (Low.setCell (p := ⟨w.heap.size + 1, 3, none⟩) (Low.setCell (p := ⟨w.heap.size + 1, 2, none⟩) (Low.setCell (p := ⟨w.heap.size + 1, 1, none⟩) (Low.setCell (p := ⟨w.heap.size + 1, 0, none⟩) (Low.setCell (p := ⟨w.heap.size + 1 + 1, 2, none⟩) (Low.setCell (p := ⟨w.heap.size + 1 + 1, 1, none⟩) (Low.refl w.heap.size (w.heap.size + 3) w1) (by show w.heap.size ≤ w.heap.size + 1 + 1; omega) (by show w.heap.size + 1 + 1 < w.heap.size + 3; omega) _) (by show w.heap.size ≤ w.heap.size + 1 + 1; omega) (by show w.heap.size + 1 + 1 < w.heap.size + 3; omega) _) (by show w.heap.size ≤ w.heap.size + 1; omega) (by show w.heap.size + 1 < w.heap.size + 3; omega) _) (by show w.heap.size ≤ w.heap.size + 1; omega) (by show w.heap.size + 1 < w.heap.size + 3; omega) _) (by show w.heap.size ≤ w.heap.size + 1; omega) (by show w.heap.size + 1 < w.heap.size + 3; omega) _) (by show w.heap.size ≤ w.heap.size + 1; omega) (by show w.heap.size + 1 < w.heap.size + 3; omega) _) (by show w.heap.size ≤ w.heap.size + 1; omega) (by show w.heap.size + 1 < w.heap.size + 3; omega) _) (by show w.heap.size ≤ w.heap.size + 1; omega) (by show w.heap.size + 1 < w.heap.size + 3; omega) _) (by show w.heap.size ≤ w.heap.size + 1; omega) (by show w.heap.size + 1 < w.heap.size + 3; omega) _) (by omega)
    rcases HQ.out.2.1 with ⟨h1, h2⟩ | ⟨g, cur, rfl, hg, hgc, _⟩
    · have h3 := HQ.out.1.le
      omega
    · exact Fresh.of hg hgc (by decide)
  · exact (Below.setCell (p := ⟨w.heap.size + 1, 6, none⟩) (hp := by show w.heap.size ≤ w.heap.size + 1; omega) (Below.setCell (p := ⟨w.heap.size + 1, 5, none⟩) (hp := by show w.heap.size ≤ w.heap.size + 1; omega) (Below.setCell (p := ⟨w.heap.size + 1, 4, none⟩) (hp := by show w.heap.size ≤ w.heap.size + 1; omega) (Below.setCell (p := ⟨w.heap.size + 1, 3, none⟩) (hp := by show w.heap.size ≤ w.heap.size + 1; omega) (Below.setCell (p := ⟨w.heap.size + 1, 2, none⟩) (hp := by show w.heap.size ≤ w.heap.size + 1; omega) (Below.setCell (p := ⟨w.heap.size + 1, 1, none⟩) (hp := by show w.heap.size ≤ w.heap.size + 1; omega) (Below.setCell (p := ⟨w.heap.size + 1, 0, none⟩) (hp := by show w.heap.size ≤ w.heap.size + 1; omega) (Below.setCell (p := ⟨w.heap.size + 1 + 1, 2, none⟩) (hp := by show w.heap.size ≤ w.heap.size + 1 + 1; omega) (Below.setCell (p := ⟨w.heap.size + 1 + 1, 1, none⟩) (hp := by show w.heap.size ≤ w.heap.size + 1 + 1; omega) (HQ.out.2.2.1) _) _) _) _) _) _) _) _) _)
end Go.Proofs.YtlohdglhebplfaaGreatDoor
