/-
  datum.Number of any int.
-/
import Derived.Test.YtgboiopkihemaaaCop
import Derived.Test.YtgboiopkihemaaaWof
import Derived.Test.YtgboiopkihemaaaNgp
namespace Go.Proofs.Ytgboiopkihemaaa
open Go.RowKit

set_option maxRecDepth 100000 in
set_option maxHeartbeats 3200000 in
theorem number_any (i : Int) (w : World) (h0 : -9223372036854775808 ≤ i) (h1 : i ≤ 9223372036854775807) :
    Calls Try.prog 38 #[.int .i64 i] w (NPost (.mk 1 (decide (i < 0)) (limbs i.natAbs) false ⟨#[]⟩ [] []) w) := by
  have HW := Lib.hid (fun W => wof_num i W h0 h1)
  have hR := World.alloc_heap_new w (Obj.cells #[.int .i64 0, .bool false, .slice none 0 0, .bool false, .string ⟨#[]⟩, .slice none 0 0, .slice none 0 0] 27)
  have hb1 : Below w.heap.size w (w.alloc (Obj.cells #[.int .i64 0, .bool false, .slice none 0 0, .bool false, .string ⟨#[]⟩, .slice none 0 0, .slice none 0 0] 27)) := (Below.refl w.heap.size w).alloc (Nat.le_refl _) _
  have HA := Lib.hid (And.intro hR hb1)
  clear hR hb1
  go_enter Try.func38, Try.ntmps38
  go_wp2_with fail
  refine (HW.out _).mono ?_
  rintro e w1 ⟨v, rfl, ⟨x, rfl, A, n, c, rfl, hsl, hor⟩, b1⟩
  have z1 : w.heap.size + 1 ≤ w1.heap.size := by have := b1.size; rwa [World.size_alloc] at this
  have hr6 := (b1.block w.heap.size (by rw [World.size_alloc]; omega)).trans HA.out.1
  have hrs := fun j => Lib.cell_of_heap hr6 j
  have r0 := hrs 0; have r1 := hrs 1; have r2 := hrs 2; have r3 := hrs 3; have r4 := hrs 4; have r5 := hrs 5; have r6 := hrs 6
  have hrf := fun j => Lib.frozen_of_heap hr6 j
  have f0 := hrf 0; have f1 := hrf 1; have f2 := hrf 2; have f3 := hrf 3; have f4 := hrf 4; have f5 := hrf 5; have f6 := hrf 6
  simp only [List.getElem?_toArray, List.getElem?_cons_zero, List.getElem?_cons_succ] at r0 r1 r2 r3 r4 r5 r6
  have HY := Lib.hid (And.intro hsl (And.intro hor (HA.out.2.trans (b1.mono (by rw [World.size_alloc]; omega)))))
  clear b1 hrs hrf hr6 hsl hor
  go_wp2_with fail
  (try simp only [Exit.inBlock, Exit.then])
  refine bodyPost_ret (v := .agg #[.int .i64 1, .bool (decide (i < 0)), .slice A n c, .bool false, .string ⟨#[]⟩, .slice none 0 0, .slice none 0 0]) (results_d rfl rfl (by go_simp) (by go_simp) (by go_simp) (by go_simp) (by go_simp) (by go_simp <;> rfl) (by go_simp)) rfl ⟨plainT 1 (decide (i < 0)) A n c (limbs i.natAbs) false ⟨#[]⟩, rfl, ?_, plainT_shape .., ?_⟩
  · refine HeldP.low (L := w.heap.size) (U := w.heap.size + 1) (w := w1) (plainT_held ⟨HY.out.1, fun hp => ?_, empty_le⟩) (set7_low (Low.refl w.heap.size (w.heap.size + 1) _) (by omega) (by omega)) (by omega)
    rcases HY.out.2.1 with ⟨h1, h2⟩ | ⟨g, cur, rfl, hg, hgc, _⟩
    · have h3 := HY.out.1.le
      omega
    · rw [World.size_alloc] at hg
      exact Fresh.of hg hgc (by decide)
  · exact set7_below HY.out.2.2 (by omega)
theorem liesP_cells {w : World} {P : Nat → Prop} {t : LT} {b : Nat} (hb : P b) (h : w.heap[b]? = some (Obj.cells #[.int .i64 t.k, .bool t.g, .slice t.la t.ln t.lc, .bool t.bb, .string t.s, .slice t.ia t.items.length t.ic, .slice t.ta t.tail.length t.tc] 27)) (hH : HeldP w P t) : LiesP w P t b 0 := liesP_held.2 ⟨hb, fun j v hj => by rw [Lib.cell_of_heap h, Nat.zero_add, List.getElem?_toArray]; exact hj, hH⟩

set_option maxRecDepth 100000 in
set_option maxHeartbeats 3200000 in
theorem pair_walk (a b : LT) (w : World) (d : DT) (h : ∀ W, Below w.heap.size w W → W.heap[w.heap.size + 3]? = some (Obj.cells #[.int .i64 a.k, .bool a.g, .slice a.la a.ln a.lc, .bool a.bb, .string a.s, .slice a.ia a.items.length a.ic, .slice a.ta a.tail.length a.tc] 27) → W.heap[w.heap.size + 4]? = some (Obj.cells #[.int .i64 b.k, .bool b.g, .slice b.la b.ln b.lc, .bool b.bb, .string b.s, .slice b.ia b.items.length b.ic, .slice b.ta b.tail.length b.tc] 27) → Calls Try.prog 12 #[.agg #[.int .i64 5, .bool false, .slice none 0 0, .bool false, .string ⟨#[]⟩, .slice (some ⟨w.heap.size + 3, 0, none⟩) 1 1, .slice (some ⟨w.heap.size + 4, 0, none⟩) 1 1]] W (NPost d W)) :
    Calls Try.prog 13 #[.agg #[.int .i64 a.k, .bool a.g, .slice a.la a.ln a.lc, .bool a.bb, .string a.s, .slice a.ia a.items.length a.ic, .slice a.ta a.tail.length a.tc], .agg #[.int .i64 b.k, .bool b.g, .slice b.la b.ln b.lc, .bool b.bb, .string b.s, .slice b.ia b.items.length b.ic, .slice b.ta b.tail.length b.tc]] w (NPost d w) := by
  have HH := Lib.hid h
  clear h
  go_enter Try.func13, Try.ntmps13
  go_wp2_with fail
  obtain ⟨w5, hw5, a0, a1, a2, a3, a4, hz, hbel⟩ := five5 w (Obj.cells #[.int .i64 a.k, .bool a.g, .slice a.la a.ln a.lc, .bool a.bb, .string a.s, .slice a.ia a.items.length a.ic, .slice a.ta a.tail.length a.tc] 27) (Obj.cells #[.int .i64 b.k, .bool b.g, .slice b.la b.ln b.lc, .bool b.bb, .string b.s, .slice b.ia b.items.length b.ic, .slice b.ta b.tail.length b.tc] 27) (Obj.cells #[.int .i64 0, .bool false, .slice none 0 0, .bool false, .string ⟨#[]⟩, .slice none 0 0, .slice none 0 0] 27) (Obj.cells #[.int .i64 a.k, .bool a.g, .slice a.la a.ln a.lc, .bool a.bb, .string a.s, .slice a.ia a.items.length a.ic, .slice a.ta a.tail.length a.tc] 27) (Obj.cells #[.int .i64 b.k, .bool b.g, .slice b.la b.ln b.lc, .bool b.bb, .string b.s, .slice b.ia b.items.length b.ic, .slice b.ta b.tail.length b.tc] 27)
  rw [← hw5]
  have HA := Lib.hid (And.intro a2 (And.intro hz hbel))
  refine (HH.out w5 hbel a3 a4).mono ?_
  clear hw5 a0 a1 a2 a3 a4 hz hbel
  rintro e w6 ⟨u, rfl, hP, hsh, b6⟩
  have z6 : w.heap.size + 5 ≤ w6.heap.size := by have := b6.size; rwa [HA.out.2.1] at this
  have hr6 := (b6.block (w.heap.size + 2) (by rw [HA.out.2.1]; omega)).trans HA.out.1
  have hrs := fun j => Lib.cell_of_heap hr6 j
  have r0 : w6.cell? ⟨w.heap.size + 1 + 1, 0, none⟩ = _ := hrs 0
  have r1 : w6.cell? ⟨w.heap.size + 1 + 1, 1, none⟩ = _ := hrs 1
  have r2 : w6.cell? ⟨w.heap.size + 1 + 1, 2, none⟩ = _ := hrs 2
  have r3 : w6.cell? ⟨w.heap.size + 1 + 1, 3, none⟩ = _ := hrs 3
  have r4 : w6.cell? ⟨w.heap.size + 1 + 1, 4, none⟩ = _ := hrs 4
  have r5 : w6.cell? ⟨w.heap.size + 1 + 1, 5, none⟩ = _ := hrs 5
  have r6 : w6.cell? ⟨w.heap.size + 1 + 1, 6, none⟩ = _ := hrs 6
  have hrf := fun j => Lib.frozen_of_heap hr6 j
  have f0 : w6.frozen? ⟨w.heap.size + 1 + 1, 0, none⟩ = _ := hrf 0
  have f1 : w6.frozen? ⟨w.heap.size + 1 + 1, 1, none⟩ = _ := hrf 1
  have f2 : w6.frozen? ⟨w.heap.size + 1 + 1, 2, none⟩ = _ := hrf 2
  have f3 : w6.frozen? ⟨w.heap.size + 1 + 1, 3, none⟩ = _ := hrf 3
  have f4 : w6.frozen? ⟨w.heap.size + 1 + 1, 4, none⟩ = _ := hrf 4
  have f5 : w6.frozen? ⟨w.heap.size + 1 + 1, 5, none⟩ = _ := hrf 5
  have f6 : w6.frozen? ⟨w.heap.size + 1 + 1, 6, none⟩ = _ := hrf 6
  simp only [List.getElem?_toArray, List.getElem?_cons_zero, List.getElem?_cons_succ] at r0 r1 r2 r3 r4 r5 r6
  rw [HA.out.2.1] at hP
  have HY := Lib.hid (And.intro hP (And.intro hsh (HA.out.2.2.trans (b6.mono (by rw [HA.out.2.1]; omega)))))
  clear b6 hrs hrf hr6 hP hsh
  go_wp2_with fail
  (try simp only [Exit.inBlock, Exit.then])
  refine bodyPost_ret (v := .agg #[.int .i64 u.k, .bool u.g, .slice u.la u.ln u.lc, .bool u.bb, .string u.s, .slice u.ia u.items.length u.ic, .slice u.ta u.tail.length u.tc]) (results_d rfl rfl (by go_simp) (by go_simp) (by go_simp) (by go_simp) (by go_simp) (by go_simp <;> rfl) (by go_simp)) rfl ⟨u, rfl, ?_, HY.out.2.1, ?_⟩
  · exact HeldP.low (U := w.heap.size + 5) (HY.out.1.keep (Nat.le_refl _) fun q hq => ⟨hq.low (by omega), rfl⟩) (set7_low (Low.refl w.heap.size (w.heap.size + 5) _) (by omega) (by omega)) (by omega)
  · exact set7_below HY.out.2.2 (by omega)
/-- A first one and the rest, as Pair lays them. -/
def pairT (D : Nat) (a b : LT) : LT := .mk 5 false none 0 0 [] false ⟨#[]⟩ (some ⟨D + 3, 0, none⟩) 1 [a] (some ⟨D + 4, 0, none⟩) 1 [b]
theorem Spot.upM {M N : Nat} {a : Option Addr} {n c : Nat} (h : Spot M a n c) (hMN : M ≤ N) : Spot N a n c := ⟨h.1, h.2.1, fun hp => ⟨(h.2.2.1 hp).1, Nat.lt_of_lt_of_le (h.2.2.1 hp).2 hMN⟩, h.2.2.2⟩
mutual
theorem Lies.upM {w : World} {M N : Nat} (hMN : M ≤ N) : ∀ (t : LT) (b o : Nat), Lies w M t b o → Lies w N t b o
  | .mk k g la ln lc ys bb s ia ic items ta tc tail, b, o, h => by
    simp only [Lies] at h ⊢
    obtain ⟨h1, h2, h3, h4, h5, h6, h7⟩ := h
    exact ⟨by omega, h2, ⟨h3.1, fun hp => Nat.lt_of_lt_of_le (h3.2.1 hp) hMN, h3.2.2⟩, h4.upM hMN, h5.upM hMN, LiesR.upM hMN _ _ _ h6, LiesR.upM hMN _ _ _ h7⟩
theorem LiesR.upM {w : World} {M N : Nat} (hMN : M ≤ N) : ∀ (l : List LT) (b o : Nat), LiesR w M l b o → LiesR w N l b o
  | [], _, _, _ => by simp [LiesR]
  | t :: l, b, o, h => by
    simp only [LiesR] at h ⊢
    exact ⟨Lies.upM hMN t b o h.1, LiesR.upM hMN l b (o + 7) h.2⟩
end
theorem Held.upP {w : World} {M N : Nat} {t : LT} (h : Held w M t) (hMN : M ≤ N) : Held w N t := ⟨⟨h.1.1, fun hp => Nat.lt_of_lt_of_le (h.1.2.1 hp) hMN, h.1.2.2⟩, h.2.1.upM hMN, h.2.2.1.upM hMN, LiesR.upM hMN _ _ _ h.2.2.2.1, LiesR.upM hMN _ _ _ h.2.2.2.2⟩
theorem pairT_held {M D : Nat} {a b : LT} {W : World} (hD : M ≤ D) (h3 : W.heap[D + 3]? = some (Obj.cells #[.int .i64 a.k, .bool a.g, .slice a.la a.ln a.lc, .bool a.bb, .string a.s, .slice a.ia a.items.length a.ic, .slice a.ta a.tail.length a.tc] 27)) (h4 : W.heap[D + 4]? = some (Obj.cells #[.int .i64 b.k, .bool b.g, .slice b.la b.ln b.lc, .bool b.bb, .string b.s, .slice b.ia b.items.length b.ic, .slice b.ta b.tail.length b.tc] 27)) (ha : Held W M a) (hb : Held W M b) : Held W (D + 5) (pairT D a b) := by
  refine ⟨⟨Sl.nil, fun h => absurd h (Nat.lt_irrefl _), empty_le⟩, ⟨Nat.le_refl _, by show 1 ≤ maxLen; decide, fun _ => ⟨rfl, by show D + 3 < D + 5; omega⟩, fun h => by cases h⟩, ⟨Nat.le_refl _, by show 1 ≤ maxLen; decide, fun _ => ⟨rfl, by show D + 4 < D + 5; omega⟩, fun h => by cases h⟩, ?_, ?_⟩
  · show LiesR W (D + 5) [a] (D + 3) 0
    rw [liesR_cons]
    exact ⟨lies_held.2 ⟨by omega, fun j v hj => by rw [Lib.cell_of_heap h3, Nat.zero_add, List.getElem?_toArray]; exact hj, ha.upP (by omega)⟩, by simp [LiesR]⟩
  · show LiesR W (D + 5) [b] (D + 4) 0
    rw [liesR_cons]
    exact ⟨lies_held.2 ⟨by omega, fun j v hj => by rw [Lib.cell_of_heap h4, Nat.zero_add, List.getElem?_toArray]; exact hj, hb.upP (by omega)⟩, by simp [LiesR]⟩
theorem pair_any (M : Nat) (a b : LT) (w : World) (hM : M ≤ w.heap.size) (ha : Held w M a) (hb : Held w M b) (hs : a.size + b.size ≤ 90000) (da : a.depth ≤ 9000) (db : b.depth ≤ 9000) (ta : Tame a) (tb : Tame b) :
    Calls Try.prog 13 #[.agg #[.int .i64 a.k, .bool a.g, .slice a.la a.ln a.lc, .bool a.bb, .string a.s, .slice a.ia a.items.length a.ic, .slice a.ta a.tail.length a.tc], .agg #[.int .i64 b.k, .bool b.g, .slice b.la b.ln b.lc, .bool b.bb, .string b.s, .slice b.ia b.items.length b.ic, .slice b.ta b.tail.length b.tc]] w (NPost (normT (pairT w.heap.size a b)) w) := by
  refine pair_walk a b w _ fun W hbel h3 h4 => ?_
  have hz : w.heap.size + 5 ≤ W.heap.size := (Array.getElem?_eq_some_iff.1 h4).1
  refine norm_tree (w.heap.size + 5) (pairT w.heap.size a b) ?_ ?_ ?_ W hz (pairT_held hM h3 h4 (ha.below hM hbel) (hb.below hM hbel))
  · simp only [pairT, LT.size, sizes]
    omega
  · simp only [pairT, LT.depth, depths]
    omega
  · simp only [pairT, Tame, TameR]
    exact ⟨by omega, ⟨ta, trivial⟩, tb, trivial⟩
end Go.Proofs.Ytgboiopkihemaaa
