/-
  datum.goodAlone of any tree; datum.Good: if it says true, Norm leaves the datum.
-/
import Derived.Test.YtgboiopkihemaaaGdb
import Derived.Test.YtgboiopkihemaaaGdp
import Derived.TacticsInMore
import Derived.LoopIn
namespace Go.Proofs.Ytgboiopkihemaaa
open Go.RowKit
attribute [local go_sem] Oper.semAt_some

theorem goodA_of {t : LT} (hl : t.ln = t.ys.length) (h1 : t.k ≠ 1 → t.g = false ∧ t.ln = 0) (h2 : t.k ≠ 2 → t.bb = false) (h3 : t.k ≠ 3 → t.k ≠ 4 → t.s = ⟨#[]⟩) (h4 : t.k ≠ 5 → t.items.length = 0 ∧ t.tail.length = 0) (h5 : t.k = 1 → goodI t.g t.ys = true)
    (h6 : t.k = 5 → t.tail = [] ∨ (t.items ≠ [] ∧ ∃ u, t.tail = [u] ∧ u.k ≠ 5)) : GoodA t :=
  ⟨fun h => ⟨(h1 h).1, List.length_eq_zero_iff.1 (by rw [← hl, (h1 h).2])⟩, h2, h3, fun h => ⟨List.length_eq_zero_iff.1 (h4 h).1, List.length_eq_zero_iff.1 (h4 h).2⟩, h5, h6⟩
def headK : List LT → Int | [] => 0 | u :: _ => u.k

theorem alone_any (M : Nat) (t : LT) (w : World) (hM : M ≤ w.heap.size) (hH : Held w M t) (hn : t.ln ≤ 1000) :
    Calls Try.prog 46 #[.agg #[.int .i64 t.k, .bool t.g, .slice t.la t.ln t.lc, .bool t.bb, .string t.s, .slice t.ia t.items.length t.ic, .slice t.ta t.tail.length t.tc]] w fun e w' => ∃ r : Bool, e = .returned (.bool r) ∧ (r = true → GoodA t) ∧ Below w.heap.size w w' := by
  have hl := hH.1.1.len
  by_cases k0 : t.k = 0
  · have h := alone_0 t.g t.bb t.s t.la t.ia t.ta t.ln t.lc t.items.length t.ic t.tail.length t.tc w
    rw [← k0] at h
    refine h.mono ?_
    rintro e w' ⟨r, rfl, hr, hb⟩
    refine ⟨r, rfl, fun h => ?_, hb⟩
    obtain ⟨x1, x2, x3, x4, x5, x6⟩ := hr h
    exact goodA_of hl (fun _ => ⟨x1, x2⟩) (fun _ => x3) (fun _ _ => x4) (fun _ => ⟨x5, x6⟩) (fun h => absurd h (by omega)) (fun h => absurd h (by omega))
  by_cases k1 : t.k = 1
  · have hg := fun W (hb : Below w.heap.size w W) => wgood_any t.g t.la t.ln t.lc t.ys W (hH.1.1.below hb) (by omega)
    have h : Calls Try.prog 46 #[.agg #[.int .i64 1, .bool t.g, .slice t.la t.ln t.lc, .bool t.bb, .string t.s, .slice t.ia t.items.length t.ic, .slice t.ta t.tail.length t.tc]] w fun e w' => ∃ r : Bool, e = .returned (.bool r) ∧ (r = true → goodI t.g t.ys = true ∧ (t.bb = false ∧ t.s = ⟨#[]⟩ ∧ t.items.length = 0 ∧ t.tail.length = 0)) ∧ Below w.heap.size w w' := by
      cases hgi : goodI t.g t.ys with
      | false =>
        rw [hgi] at hg
        refine (alone_1n t.g t.bb t.s t.la t.ia t.ta t.ln t.lc t.items.length t.ic t.tail.length t.tc w hg).mono ?_
        rintro e w' ⟨rfl, hb⟩
        exact ⟨false, rfl, fun h => (by cases h), hb⟩
      | true =>
        rw [hgi] at hg
        by_cases h64 : t.ln ≤ 64
        · refine (alone_1y t.g t.bb t.s t.la t.ia t.ta t.ln t.lc t.items.length t.ic t.tail.length t.tc w hg (decide_eq_true (by omega))).mono ?_
          rintro e w' ⟨r, rfl, hr, hb⟩
          exact ⟨r, rfl, fun h => ⟨rfl, hr h⟩, hb⟩
        · refine (alone_1m t.g t.bb t.s t.la t.ia t.ta t.ln t.lc t.items.length t.ic t.tail.length t.tc w hg (decide_eq_false (by omega))).mono ?_
          rintro e w' ⟨r, rfl, hr, hb⟩
          exact ⟨r, rfl, fun h => ⟨rfl, hr h⟩, hb⟩
    rw [← k1] at h
    refine h.mono ?_
    rintro e w' ⟨r, rfl, hr, hb⟩
    refine ⟨r, rfl, fun h => ?_, hb⟩
    obtain ⟨x0, x1, x2, x3, x4⟩ := hr h
    exact goodA_of hl (fun h => absurd k1 h) (fun _ => x1) (fun _ _ => x2) (fun _ => ⟨x3, x4⟩) (fun _ => x0) (fun h => absurd h (by omega))
  by_cases k2 : t.k = 2
  · have h := alone_2 t.g t.bb t.s t.la t.ia t.ta t.ln t.lc t.items.length t.ic t.tail.length t.tc w
    rw [← k2] at h
    refine h.mono ?_
    rintro e w' ⟨r, rfl, hr, hb⟩
    refine ⟨r, rfl, fun h => ?_, hb⟩
    obtain ⟨x1, x2, x4, x5, x6⟩ := hr h
    exact goodA_of hl (fun _ => ⟨x1, x2⟩) (fun h => absurd k2 h) (fun _ _ => x4) (fun _ => ⟨x5, x6⟩) (fun h => absurd h (by omega)) (fun h => absurd h (by omega))
  by_cases k3 : t.k = 3
  · have h : Calls Try.prog 46 #[.agg #[.int .i64 3, .bool t.g, .slice t.la t.ln t.lc, .bool t.bb, .string t.s, .slice t.ia t.items.length t.ic, .slice t.ta t.tail.length t.tc]] w fun e w' => ∃ r : Bool, e = .returned (.bool r) ∧ (r = true → t.g = false ∧ t.ln = 0 ∧ t.bb = false ∧ t.items.length = 0 ∧ t.tail.length = 0) ∧ Below w.heap.size w w' := by
      by_cases hs : t.s.toList = []
      · have hs' : t.s = ⟨#[]⟩ := by
          rw [ByteArray.toList_eq] at hs
          exact empty_of (by show t.s.data.size = 0; rw [← Array.length_toList, hs]; rfl)
        rw [hs']
        exact alone_3e t.g t.bb t.la t.ia t.ta t.ln t.lc t.items.length t.ic t.tail.length t.tc w
      · by_cases h64 : t.s.size ≤ 64
        · exact alone_3y t.g t.bb t.s t.la t.ia t.ta t.ln t.lc t.items.length t.ic t.tail.length t.tc w hs (decide_eq_true (by omega))
        · exact alone_3n t.g t.bb t.s t.la t.ia t.ta t.ln t.lc t.items.length t.ic t.tail.length t.tc w hs (decide_eq_false (by omega))
    rw [← k3] at h
    refine h.mono ?_
    rintro e w' ⟨r, rfl, hr, hb⟩
    refine ⟨r, rfl, fun h => ?_, hb⟩
    obtain ⟨x1, x2, x3, x4, x5⟩ := hr h
    exact goodA_of hl (fun _ => ⟨x1, x2⟩) (fun _ => x3) (fun h _ => absurd k3 h) (fun _ => ⟨x4, x5⟩) (fun h => absurd h (by omega)) (fun h => absurd h (by omega))
  by_cases k4 : t.k = 4
  · have h : Calls Try.prog 46 #[.agg #[.int .i64 4, .bool t.g, .slice t.la t.ln t.lc, .bool t.bb, .string t.s, .slice t.ia t.items.length t.ic, .slice t.ta t.tail.length t.tc]] w fun e w' => ∃ r : Bool, e = .returned (.bool r) ∧ (r = true → t.g = false ∧ t.ln = 0 ∧ t.bb = false ∧ t.items.length = 0 ∧ t.tail.length = 0) ∧ Below w.heap.size w w' := by
      by_cases h64 : t.s.size ≤ 1024
      · exact alone_4y t.g t.bb t.s t.la t.ia t.ta t.ln t.lc t.items.length t.ic t.tail.length t.tc w (decide_eq_true (by omega))
      · exact alone_4n t.g t.bb t.s t.la t.ia t.ta t.ln t.lc t.items.length t.ic t.tail.length t.tc w (decide_eq_false (by omega))
    rw [← k4] at h
    refine h.mono ?_
    rintro e w' ⟨r, rfl, hr, hb⟩
    refine ⟨r, rfl, fun h => ?_, hb⟩
    obtain ⟨x1, x2, x3, x4, x5⟩ := hr h
    exact goodA_of hl (fun _ => ⟨x1, x2⟩) (fun _ => x3) (fun _ h => absurd k4 h) (fun _ => ⟨x4, x5⟩) (fun h => absurd h (by omega)) (fun h => absurd h (by omega))
  by_cases k5 : t.k = 5
  · have hC : ∀ W, Below w.heap.size w W → Calls Try.prog 73 #[.agg #[.int .i64 5, .bool t.g, .slice t.la t.ln t.lc, .bool t.bb, .string t.s, .slice t.ia t.items.length t.ic, .slice t.ta t.tail.length t.tc]] W fun e W' => ∃ r : Bool, e = .returned (.bool r) ∧ (r = true → t.tail.length = 0 ∨ (0 < t.items.length ∧ t.tail.length = 1 ∧ headK t.tail ≠ 5)) ∧ Below W.heap.size W W' := fun W hb => by
      refine goodTail_any 5 t.g t.bb t.s t.la t.ia t.ta t.ln t.lc t.items.length t.ic t.tail.length t.tc (headK t.tail) W fun h1 => ?_
      have hW := hH.below hM hb
      obtain ⟨e1, e2⟩ := hW.2.2.1.2.2.1 (by omega)
      refine ⟨_, _, e1, Nat.lt_of_lt_of_le e2 (Nat.le_trans hM hb.size), ?_⟩
      have hL := hW.2.2.2.2
      cases htl : t.tail with
      | nil => rw [htl] at h1; simp at h1
      | cons u l =>
        rw [htl, liesR_cons] at hL
        exact (lies_held.1 hL.1).2.1 0 _ rfl
    have h := alone_5 t.g t.bb t.s t.la t.ia t.ta t.ln t.lc t.items.length t.ic t.tail.length t.tc w _ hC
    rw [← k5] at h
    refine h.mono ?_
    rintro e w' ⟨r, rfl, hr, hb⟩
    refine ⟨r, rfl, fun h => ?_, hb⟩
    obtain ⟨x0, x1, x2, x3, x4⟩ := hr h
    refine goodA_of hl (fun _ => ⟨x1, x2⟩) (fun _ => x3) (fun _ _ => x4) (fun h => absurd k5 h) (fun h => absurd h (by omega)) (fun _ => ?_)
    rcases x0 with x0 | ⟨y1, y2, y3⟩
    · exact .inl (List.length_eq_zero_iff.1 x0)
    · refine .inr ⟨fun e => by rw [e] at y1; exact absurd y1 (Nat.lt_irrefl _), ?_⟩
      cases htl : t.tail with
      | nil => rw [htl] at y2; simp at y2
      | cons u l =>
        rw [htl] at y2 y3
        have : l = [] := List.length_eq_zero_iff.1 (by simpa using y2)
        subst this
        exact ⟨u, rfl, fun e => y3 (by rw [k5]; exact e)⟩
  · have h := alone_x t.k t.g t.bb t.s t.la t.ia t.ta t.ln t.lc t.items.length t.ic t.tail.length t.tc w (beq_eq_false_iff_ne.2 k0) (beq_eq_false_iff_ne.2 k1) (beq_eq_false_iff_ne.2 k2) (beq_eq_false_iff_ne.2 k3) (beq_eq_false_iff_ne.2 k4) (beq_eq_false_iff_ne.2 k5)
    refine h.mono ?_
    rintro e w' ⟨r, rfl, hr, hb⟩
    refine ⟨r, rfl, fun h => ?_, hb⟩
    obtain ⟨x1, x2, x3, x4, x5, x6⟩ := hr h
    exact goodA_of hl (fun _ => ⟨x1, x2⟩) (fun _ => x3) (fun _ _ => x4) (fun _ => ⟨x5, x6⟩) (fun h => absurd h k1) (fun h => absurd h k5)

mutual
theorem seqT_tame : ∀ (t : LT) (v b o : Nat), Tame t → ∀ x ∈ seqT t v b o, x.t.ln ≤ 1000
  | .mk k g la ln lc ys bb s ia ic items ta tc tail, v, b, o, hT, x, hx => by
    simp only [Tame] at hT
    simp only [seqT, List.mem_cons, List.mem_append] at hx
    rcases hx with rfl | hx | hx
    · exact hT.1
    · exact seqR_tame items (v + 1) (blk ia) (ofs ia) hT.2.1 x hx
    · exact seqR_tame tail (v + 1) (blk ta) (ofs ta) hT.2.2 x hx
theorem seqR_tame : ∀ (l : List LT) (v b o : Nat), TameR l → ∀ x ∈ seqR l v b o, x.t.ln ≤ 1000
  | [], _, _, _, _, x, hx => by simp [seqR] at hx
  | t :: l, v, b, o, hT, x, hx => by
    simp only [TameR] at hT
    simp only [seqR, List.mem_append] at hx
    rcases hx with hx | hx
    · exact seqT_tame t v b o hT.1 x hx
    · exact seqR_tame l v b (o + 7) hT.2 x hx
end
theorem maxL_at {full : List Node} {k : Nat} {x : Node} (h : full[k]? = some x) : x.lev ≤ maxL full := by
  induction full generalizing k with
  | nil => simp at h
  | cons y l ih =>
    cases k with
    | zero => simp at h; rw [h]; simp only [maxL]; omega
    | succ k => have := ih (by simpa using h); simp only [maxL]; omega
def GdI (M b B : Nat) (root : LT) (full : List Node) (w : World) (k : Nat) (W : World) : Prop :=
  W.heap[B + 1]? = some (.cells #[.bool false] 4 (0, 0)) ∧ W.heap[B + 2]? = some (.cells #[.int .i64 (k : Nat)] 3 (0, 0)) ∧ Lies W M root b 0 ∧ Below B w W ∧ ∀ j x, j < k → full[j]? = some x → GoodA x.t
def GdX (B : Nat) (w : World) (c : Code) (_k : Nat) (W : World) : Prop := c = .ret ∧ W.heap[B + 1]? = some (.cells #[.bool false] 4 (0, 0)) ∧ Below B w W
theorem GdI.below {M b B C k : Nat} {root : LT} {full : List Node} {w A W : World} (hM : M ≤ C) (hC : B + 3 ≤ C) (h : GdI M b B root full w k A) (hb : Below C A W) : GdI M b B root full w k W :=
  ⟨(hb.block _ (by omega)).trans h.1, (hb.block _ (by omega)).trans h.2.1, h.2.2.1.keep hb.size (fun i hi => hb.block i (by omega)) _ _ _, h.2.2.2.1.trans (hb.mono (by omega)), h.2.2.2.2⟩
theorem GdX.below {B C k : Nat} {c : Code} {w A W : World} (hC : B + 2 ≤ C) (h : GdX B w c k A) (hb : Below C A W) : GdX B w c k W :=
  ⟨h.1, (hb.block _ (by omega)).trans h.2.1, h.2.2.trans (hb.mono (by omega))⟩
theorem four4 (w : World) (A B C D : Obj) : ∃ w4, w4 = (((w.alloc A).alloc B).alloc C).alloc D ∧ w4.heap[w.heap.size]? = some A ∧ w4.heap[w.heap.size + 1]? = some B ∧ w4.heap[w.heap.size + 2]? = some C ∧ w4.heap[w.heap.size + 3]? = some D ∧ w4.heap.size = w.heap.size + 4 ∧ Below w.heap.size w w4 := by
  obtain ⟨_, rfl, a0, a1, a2, a3, _, _, hb⟩ := five5 w A B C D D
  have s1 : (w.alloc A).heap.size = w.heap.size + 1 := World.size_alloc ..
  have s2 : ((w.alloc A).alloc B).heap.size = w.heap.size + 2 := by rw [World.size_alloc, s1]
  have s3 : (((w.alloc A).alloc B).alloc C).heap.size = w.heap.size + 3 := by rw [World.size_alloc, s2]
  have s4 : ((((w.alloc A).alloc B).alloc C).alloc D).heap.size = w.heap.size + 4 := by rw [World.size_alloc, s3]
  have hk : ∀ k, k < w.heap.size + 4 → ((((((w.alloc A).alloc B).alloc C).alloc D).alloc D).heap[k]? = ((((w.alloc A).alloc B).alloc C).alloc D).heap[k]?) := fun k hk => Below.heap_alloc _ _ _ (by omega)
  exact ⟨_, rfl, (hk _ (by omega)).symm.trans a0, (hk _ (by omega)).symm.trans a1, (hk _ (by omega)).symm.trans a2, (hk _ (by omega)).symm.trans a3, s4, ((((Below.refl w.heap.size w).alloc (Nat.le_refl _) _).alloc (by omega) _).alloc (by omega) _).alloc (by omega) _⟩

set_option maxRecDepth 100000 in
set_option maxHeartbeats 6400000 in
theorem good_in (M : Nat) (t : LT) (h1 : t.size ≤ 5000) (h2 : t.depth ≤ 200) (hT : Tame t) (w : World) (hM : M ≤ w.heap.size) (hH : Held w M t) :
    CallsIn Fence.wide 5 Try.prog 16 #[.agg #[.int .i64 t.k, .bool t.g, .slice t.la t.ln t.lc, .bool t.bb, .string t.s, .slice t.ia t.items.length t.ic, .slice t.ta t.tail.length t.tc]] w fun e w' => ∃ r : Bool, e = .returned (.bool r) ∧ (r = true → normT t = shape t) ∧ Below w.heap.size w w' := by
  obtain ⟨W0, hW0, a0, a1, a2, a3, hz0, hb0⟩ := four4 w (Obj.cells #[.int .i64 t.k, .bool t.g, .slice t.la t.ln t.lc, .bool t.bb, .string t.s, .slice t.ia t.items.length t.ic, .slice t.ta t.tail.length t.tc] 27) (.cells #[.bool false] 4) (.cells #[.int .i64 0] 3) (.cells #[.pointer (some ⟨w.heap.size, 0, none⟩)] 77)
  obtain ⟨full, hfull⟩ : ∃ full, full = seqT t 1 w.heap.size 0 := ⟨_, rfl⟩
  have hlen : full.length = t.size := by rw [hfull, seqT_length]
  have hmx : maxL full ≤ 200 := by have := seqT_max t 1 w.heap.size 0; rw [← hfull] at this; omega
  have hgn := fun (h : ∀ n ∈ full, GoodA n.t) => good_norm t 1 w.heap.size 0 (ok_held hH) (by rw [← hfull]; exact h)
  have hL0 : Lies W0 (w.heap.size + 1) t w.heap.size 0 := lies_held.2 ⟨by omega, fun j v hj => by rw [Lib.cell_of_heap a0, Nat.zero_add, List.getElem?_toArray]; exact hj, (hH.keep hb0.size fun q hq => hb0.block q (by omega)).upP (by omega)⟩
  have hl0 : ∀ W, Lies W (w.heap.size + 1) t w.heap.size 0 → ∀ x ∈ full, Lies W (w.heap.size + 1) x.t x.b x.o ∧ 1 ≤ x.lev ∧ x.lev + x.t.size ≤ 1 + t.size := fun W h => hfull ▸ seqT_lies t 1 w.heap.size 0 h
  have hbd0 : W0.cell? ⟨w.heap.size + 3, 0, none⟩ = some (.pointer (some ⟨w.heap.size, 0, none⟩)) := by rw [Lib.cell_of_heap a3]; rfl
  have hruns := told_runs 4 (w.heap.size + 3) (w.heap.size + 1) w.heap.size 0 t (fun r => (r = w.heap.size + 1 + 1 ∨ r = w.heap.size + 1) ∨ r = W0.heap.size + 1) W0 (fun r hr => by rcases hr with (rfl | rfl) | rfl <;> omega) hbd0 (by omega) hL0 (by omega)
  rw [← hfull] at hruns
  have hI0 : GdI (w.heap.size + 1) w.heap.size w.heap.size t full w 0 W0 := ⟨a1, a2, hL0, hb0, fun j x hj => absurd hj (Nat.not_lt_zero _)⟩
  have htame : ∀ x ∈ full, x.t.ln ≤ 1000 := by rw [hfull]; exact seqT_tame t 1 w.heap.size 0 hT
  have HF := Lib.hid (And.intro hl0 (And.intro htame (And.intro hgn hmx)))
  have HW := Lib.hid (And.intro hW0 (And.intro hruns hI0))
  clear hT hM hH hW0 a0 a1 a2 a3 hb0 hfull hmx hgn hL0 hl0 hbd0 hruns hI0 htame
  refine callsIn_of_wp_marks Try.func16 rfl trivial ?_ rfl
  simp only [Try.ntmps16, List.size_toArray, List.length_cons, List.length_nil, Nat.reduceAdd, Nat.reduceSub, Array.replicate_succ, Array.replicate_zero, List.push_toArray, List.append_toArray, List.nil_append, List.cons_append]
  gi_wp2_with (refine ⟨trivial, ?_⟩; gi_at_call 45; refine (callsIn_wide.2 (told_any _ _)).mono ?_; rintro e w' ⟨rfl, rfl⟩)
  rw [← HW.out.1]
  refine wpIn_runs (X := fun r => r = w.heap.size + 1 + 1 ∨ r = w.heap.size + 1) (w0 := W0) rfl (by decide) (gf := 70) (lb := #[.pointer (some ⟨w.heap.size + 3, 0, none⟩)]) rfl trivial (enters_of Try.func70 (by kernel_rfl) rfl)
    HW.out.2.1 (fun r hr => by omega) (Below.refl _ _) (fun k => rfl) (fun k W => GdI (w.heap.size + 1) w.heap.size w.heap.size t full w k W) (fun c k W => GdX w.heap.size w c k W)
    (fun k A B hAB h => h.below (by omega) (by omega) hAB) (fun c k A B hAB h => h.below (by omega) hAB) HW.out.2.2
    (fun k => { tmps := #[.agg #[.int .i64 t.k, .bool t.g, .slice t.la t.ln t.lc, .bool t.bb, .string t.s, .slice t.ia t.items.length t.ic, .slice t.ta t.tail.length t.tc], .pointer (some ⟨w.heap.size, 0, none⟩), .pointer (some ⟨w.heap.size + 1, 0, none⟩), .pointer (some ⟨w.heap.size + 1 + 1, 0, none⟩),
      .int .i64 ((nd full k).lev : Nat), .pointer (some ⟨(nd full k).b, (nd full k).o, none⟩), .func (.func 70) #[] #[.pointer (some ⟨w.heap.size + 1 + 1 + 1, 0, none⟩)],
      .int .i64 ((nd full k).lev : Nat), .pointer (some ⟨(nd full k).b, (nd full k).o, none⟩), undef, undef, undef, undef, undef, undef, undef, undef, undef, undef, undef, undef, undef, undef, undef], defers := [] })
    ?assign ?body ?done ?stop
  case assign =>
    intro l k W K _ hK
    simp only [toldAt]
    gi_wp2
    exact hK
  case body =>
    rintro l k W hkN hI
    obtain ⟨⟨lv, xb, xo, x⟩, hat⟩ : ∃ x, full[k]? = some x := ⟨full[k], List.getElem?_eq_getElem hkN⟩
    have hmem := List.mem_of_getElem? hat
    have hnode := HF.out.1 W hI.2.2.1 _ hmem
    have hlv : lv ≤ 200 := Nat.le_trans (maxL_at hat) HF.out.2.2.2
    have hln : x.ln ≤ 1000 := HF.out.2.1 _ hmem
    obtain ⟨hxb, hcell, hheld⟩ := lies_held.1 hnode.1
    have c0 : W.cell? ⟨xb, xo, none⟩ = some (.int .i64 x.k) := hcell 0 _ rfl
    have c1 : W.cell? ⟨xb, xo + 1, none⟩ = some (.bool x.g) := hcell 1 _ rfl
    have c2 : W.cell? ⟨xb, xo + 2, none⟩ = some (.slice x.la x.ln x.lc) := hcell 2 _ rfl
    have c3 : W.cell? ⟨xb, xo + 3, none⟩ = some (.bool x.bb) := hcell 3 _ rfl
    have c4 : W.cell? ⟨xb, xo + 4, none⟩ = some (.string x.s) := hcell 4 _ rfl
    have c5 : W.cell? ⟨xb, xo + 5, none⟩ = some (.slice x.ia x.items.length x.ic) := hcell 5 _ rfl
    have c6 : W.cell? ⟨xb, xo + 6, none⟩ = some (.slice x.ta x.tail.length x.tc) := hcell 6 _ rfl
    have hz := hI.2.2.2.1.size
    have p0 := Lib.cell_of_heap hI.2.1 0
    have pf := Lib.frozen_of_heap hI.2.1 0
    have s0 := Lib.cell_of_heap hI.1 0
    have sf := Lib.frozen_of_heap hI.1 0
    simp only [List.getElem?_toArray, List.getElem?_cons_zero] at p0 s0
    simp only [nd_eq hat]
    have hk5 : k + 1 ≤ 5000 := by omega
    have HI := Lib.hid (And.intro hI (And.intro hheld (And.intro hln hat)))
    clear hI hmem hnode hcell hheld hln hat
    have q1 : decide (5000 < (k : Int) + 1) = false := decide_eq_false (by omega)
    have q2 : decide (200 < (lv : Int)) = false := decide_eq_false (by omega)
    gi_wp2
    refine ⟨trivial, ?_⟩
    obtain ⟨hI, hheld, hln, hat⟩ := HI.out
    have hbW : W.heap.size = W.heap.size := rfl
    have hX1 : But (fun r => r = w.heap.size + 1 + 1 ∨ r = w.heap.size + 1) W (W.setCell ⟨w.heap.size + 1 + 1, 0, none⟩ (.int .i64 ((k : Int) + 1))) := But.setCell _ _ _ _ (.inl rfl)
    have hh1 : ∀ q, q ≠ w.heap.size + 1 + 1 → (W.setCell ⟨w.heap.size + 1 + 1, 0, none⟩ (.int .i64 ((k : Int) + 1))).heap[q]? = W.heap[q]? := fun q hq => Below.heap_setCell _ _ _ _ hq
    have hc1 : (W.setCell ⟨w.heap.size + 1 + 1, 0, none⟩ (.int .i64 ((k : Int) + 1))).heap[w.heap.size + 2]? = some (.cells #[.int .i64 ((k : Int) + 1)] 3 (0, 0)) := by
      simp [World.setCell, Array.getElem?_modify, hI.2.1]
    have hs1 : (W.setCell ⟨w.heap.size + 1 + 1, 0, none⟩ (.int .i64 ((k : Int) + 1))).heap.size = W.heap.size := setCell_size _ _ _
    have hb1 : Below w.heap.size w (W.setCell ⟨w.heap.size + 1 + 1, 0, none⟩ (.int .i64 ((k : Int) + 1))) := hI.2.2.2.1.setCell (p := ⟨w.heap.size + 1 + 1, 0, none⟩) (by show w.heap.size ≤ w.heap.size + 1 + 1; omega) _
    have hz2 : w.heap.size + 2 < W.heap.size := (Array.getElem?_eq_some_iff.1 hI.2.1).1
    generalize W.setCell ⟨w.heap.size + 1 + 1, 0, none⟩ (.int .i64 ((k : Int) + 1)) = W1 at hX1 hh1 hc1 hs1 hb1 ⊢
    have hd1 : Held W1 (w.heap.size + 1) x := hheld.keep (by omega) fun q hq => hh1 q (by omega)
    have hr1 : W1.heap[w.heap.size + 1]? = some (.cells #[.bool false] 4 (0, 0)) := (hh1 _ (by omega)).trans hI.1
    have hl1 : Lies W1 (w.heap.size + 1) t w.heap.size 0 := hI.2.2.1.keep (by omega) (fun q hq => hh1 q (by omega)) _ _ _
    refine ((callsIn_wide.2 (alone_any (w.heap.size + 1) x W1 (by omega) hd1 hln)).inRound l).mono ?_
    rintro e W2 ⟨r, rfl, hr, b2⟩
    have hX2 := hX1.below b2 (by omega)
    have hr2 := (b2.block _ (by omega)).trans hr1
    have hc2 := (b2.block _ (by omega)).trans hc1
    have hb2 := hb1.trans (b2.mono (by omega))
    have hl2 : Lies W2 (w.heap.size + 1) t w.heap.size 0 := hl1.keep b2.size (fun q hq => b2.block q (by omega)) _ _ _
    have s0' := Lib.cell_of_heap hr2 0
    have sf' := Lib.frozen_of_heap hr2 0
    simp only [List.getElem?_toArray, List.getElem?_cons_zero] at s0'
    have hall : r = true → ∀ j y, j < k + 1 → full[j]? = some y → GoodA y.t := fun h j y hj hy => by
      by_cases hjk : j < k
      · exact hI.2.2.2.2 j y hjk hy
      · have : j = k := by omega
        subst this
        rw [hat] at hy
        injection hy with hy
        rw [← hy]
        exact hr h
    have H2 := Lib.hid (And.intro hX2 (And.intro hr2 (And.intro hc2 (And.intro hb2 (And.intro hl2 hall)))))
    clear hI hheld hln hat hX1 hh1 hc1 hs1 hb1 hd1 hr1 hl1 hr b2 hX2 hr2 hc2 hb2 hl2 hall HI c0 c1 c2 c3 c4 c5 c6 p0 pf s0 sf q1 q2
    cases r with
    | true =>
      clear s0' sf'
      gi_wp2
      exact ⟨H2.out.1, H2.out.2.1, H2.out.2.2.1, H2.out.2.2.2.2.1, H2.out.2.2.2.1, H2.out.2.2.2.2.2 (by trivial)⟩
    | false =>
      gi_wp2
      refine ⟨H2.out.1.trans (But.setCell _ _ _ _ (.inr rfl)), rfl, ?_, H2.out.2.2.2.1.setCell (p := ⟨w.heap.size + 1, 0, none⟩) (by show w.heap.size ≤ w.heap.size + 1; omega) _⟩
      simp [World.setCell, Array.getElem?_modify, H2.out.2.1]
  case done =>
    rintro D W hD hI hK
    have hgood : normT t = shape t := HF.out.2.2.1 fun n hn => by
      obtain ⟨j, hj, e⟩ := List.getElem_of_mem hn
      exact hI.2.2.2.2 j n hj (by rw [List.getElem?_eq_getElem hj, e])
    have s0 := Lib.cell_of_heap hI.1 0
    have sf := Lib.frozen_of_heap hI.1 0
    simp only [List.getElem?_toArray, List.getElem?_cons_zero] at s0
    have hbw := Lib.hid hI.2.2.2.1
    have HKD := Lib.hid hK
    clear hI hK
    gi_wp2
    have g0 : (W.setCell ⟨w.heap.size + 1, 0, none⟩ (.bool true)).cell? ⟨w.heap.size + 1, 0, none⟩ = some (.bool true) := set_here s0
    generalize hV : W.setCell ⟨w.heap.size + 1, 0, none⟩ (.bool true) = V at g0 ⊢
    have hVD : V.heap[D]? = some (.deferred (some [])) := by
      rw [← hV]
      exact (KeepsOthers.setCell _ _ _).same D _ HKD.out rfl
    have hVb : Below w.heap.size w V := by
      rw [← hV]
      exact hbw.out.setCell (p := ⟨w.heap.size + 1, 0, none⟩) (by show w.heap.size ≤ w.heap.size + 1; omega) _
    have k0 : (V.putObj D (.deferred none)).cell? ⟨w.heap.size + 1, 0, none⟩ = some (.bool true) := (World.cell?_of_block (World.putObj_heap_other (by show w.heap.size + 1 ≠ D; omega))).trans g0
    refine ⟨by simp, .inl ⟨_, _, rfl, run_takeDeferred hVD, ?_⟩⟩
    exact ⟨.bool true, by simp [results, Try.results16, k0, go_sem], true, rfl, fun _ => hgood, hVb.trans ⟨rfl, rfl, rfl, by simp, fun k hk => World.putObj_heap_other (by omega)⟩⟩
  case stop =>
    rintro D c k W hD hk ⟨rfl, hr, hb⟩ hK
    have s0 := Lib.cell_of_heap hr 0
    simp only [List.getElem?_toArray, List.getElem?_cons_zero] at s0
    have k0 : (W.putObj D (.deferred none)).cell? ⟨w.heap.size + 1, 0, none⟩ = some (.bool false) := (World.cell?_of_block (World.putObj_heap_other (by show w.heap.size + 1 ≠ D; omega))).trans s0
    have HKD := Lib.hid hK
    clear hK hr
    gi_wp2
    refine ⟨by simp, .inl ⟨_, _, rfl, run_takeDeferred HKD.out, ?_⟩⟩
    exact ⟨.bool false, by simp [results, Try.results16, k0, go_sem], false, rfl, fun h => (by cases h), hb.trans ⟨rfl, rfl, rfl, by simp, fun k hk => World.putObj_heap_other (by omega)⟩⟩

/-- If Good says true, Norm leaves the datum. -/
theorem good_any (M : Nat) (t : LT) (h1 : t.size ≤ 5000) (h2 : t.depth ≤ 200) (hT : Tame t) (w : World) (hM : M ≤ w.heap.size) (hH : Held w M t) :
    Calls Try.prog 16 #[.agg #[.int .i64 t.k, .bool t.g, .slice t.la t.ln t.lc, .bool t.bb, .string t.s, .slice t.ia t.items.length t.ic, .slice t.ta t.tail.length t.tc]] w fun e w' => ∃ r : Bool, e = .returned (.bool r) ∧ (r = true → normT t = shape t) ∧ Below w.heap.size w w' := callsIn_wide.1 (good_in M t h1 h2 hT w hM hH)
end Go.Proofs.Ytgboiopkihemaaa
