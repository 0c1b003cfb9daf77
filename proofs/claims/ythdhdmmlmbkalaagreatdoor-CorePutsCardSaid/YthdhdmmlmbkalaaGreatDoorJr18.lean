/-
  core.copied: where the parts of a copy lie. core.variable, core.prim; a place that is stored into.
-/
import Derived.Test.YthdhdmmlmbkalaaGreatDoorJr11
import Derived.Test.YthdhdmmlmbkalaaGreatDoorJr17
set_option linter.unusedVariables false
set_option linter.unusedSimpArgs false
set_option linter.unusedSectionVars false
set_option linter.unnecessarySimpa false
namespace Go.Proofs.YthdhdmmlmbkalaaGreatDoor
section
open Go.RowKit

mutual
/-- A copy: its Kids lie in the room g from some place on, one behind the other; its variables don't lie there. -/
def ApartE (g lo : Nat) : ET → Prop
  | .mk _ _ _ va _ vs _ _ ka _ kids => (0 < vs.length → blk va ≠ g) ∧ ∃ q, (0 < kids.length → lo ≤ q ∧ ka = some ⟨g, q * 13, none⟩) ∧ ApartER g q kids
def ApartER (g q : Nat) : List ET → Prop
  | [] => True
  | e :: l => ApartE g (q + 1) e ∧ ApartER g (q + 1) l
end
theorem rowE_ofA {w : World} {P : Nat → Prop} {g : Nat} {S : List ES} : ∀ (l : List ES) (p : Nat), (∀ i (h : i < l.length), ∃ u : ET, shapeE u = l[i] ∧ TameE u ∧ LiesEP w P u g ((p + i) * 13) ∧ ApartE g (p + i + 1) u) → ∃ us : List ET, shapesE us = l ∧ TameER us ∧ LiesEPR w P us g (p * 13) ∧ ApartER g p us
  | [], p, _ => ⟨[], shapesE_nil, by simp [TameER], by rw [liesEPR_nil]; trivial, by simp [ApartER]⟩
  | d :: l, p, h => by
    obtain ⟨u, hu, ht, hl, ha⟩ := h 0 (by simp)
    obtain ⟨us, hus, htr, hr, har⟩ := rowE_ofA (S := S) l (p + 1) fun i hi => by
      obtain ⟨v, hv, ht, hvl, hva⟩ := h (i + 1) (by simpa using hi)
      exact ⟨v, by simpa using hv, ht, by rwa [show p + (i + 1) = p + 1 + i by omega] at hvl, by rwa [show p + (i + 1) + 1 = p + 1 + i + 1 by omega] at hva⟩
    refine ⟨u :: us, by rw [shapesE_cons, hus, hu]; rfl, by simp only [TameER]; exact ⟨ht, htr⟩, ?_, by simp only [ApartER]; exact ⟨by simpa using ha, har⟩⟩
    rw [liesEPR_cons]
    exact ⟨by simpa using hl, by rwa [show p * 13 + 13 = (p + 1) * 13 by omega]⟩
theorem partedE_treeA {w : World} {P P1 : Nat → Prop} {g : Nat} (hg : P g) (hP : ∀ k, P1 k → P k ∧ k ≠ g) {S : List ES} {lo : Nat} {s : ES} {b o : Nat} (h : PartedE w P1 g S lo s b o) (hS : ∀ i (x : ES), lo ≤ i → S[i]? = some x → ∃ u : ET, shapeE u = x ∧ TameE u ∧ LiesEP w P u g (i * 13) ∧ ApartE g (i + 1) u) :
    ∃ u : ET, shapeE u = s ∧ TameE u ∧ (∀ j x, u.cells[j]? = some x → w.cell? ⟨b, o + j, none⟩ = some x) ∧ HeldEP w P u ∧ ApartE g lo u := by
  have h1 := h.mono (fun k hk => (hP k hk).1)
  obtain ⟨d, va, vc, p, hd, hf, hc, hl, hp, m1, m2⟩ := h
  obtain ⟨us, hus, htr, hur, har⟩ := rowE_ofA (w := w) (P := P) (g := g) (S := S) s.kids p fun i hi => by
    have h1 := hp (fun e => by rw [e] at hi; cases hi)
    obtain ⟨u, hu, ht, hul, hua⟩ := hS (p + i) s.kids[i] (by omega) (h1.2 i hi)
    exact ⟨u, hu, ht, hul, hua⟩
  obtain ⟨a1, c1, e1, s1, f1⟩ := childE_spot hg p s.kids.length m1
  have n1 : us.length = s.kids.length := by rw [← shapesE_length, hus]
  rw [e1] at hc
  refine ⟨.mk s.k d s.v va vc s.vs s.rs s.p a1 c1 us, ?_, ?_, ?_, ⟨⟨hl.1.keep (Nat.le_refl _) (fun k hk => ⟨(hP k hk).1, rfl⟩), hl.2.keep (fun k hk => ⟨(hP k hk).1, rfl⟩)⟩, ?_, ?_⟩, ?_⟩
  · simp only [shapeE, hus, hd]; exact es_eta s
  · simp only [TameE]; exact ⟨hf, m2, htr⟩
  · intro j x hj
    refine hc j x ?_
    have hcs : ET.cells (.mk s.k d s.v va vc s.vs s.rs s.p a1 c1 us) = [.int .i64 s.k, .int .i64 d.k, .bool d.g, .slice d.la d.ln d.lc, .bool d.bb, .string d.s, .slice d.ia d.items.length d.ic, .slice d.ta d.tail.length d.tc, .int .i64 s.v, .slice va s.vs.length vc, .bool s.rs, .int .i64 s.p, .slice a1 us.length c1] := rfl
    rw [hcs, n1] at hj
    exact hj
  · show SpotP P a1 us.length c1
    rw [n1]; exact s1
  · show LiesEPR w P us (blk a1) (ofs a1)
    rcases Nat.eq_zero_or_pos us.length with h0 | h0
    · rw [List.length_eq_zero_iff.1 h0, liesEPR_nil]; trivial
    · rw [f1 (by omega)]; exact hur
  · simp only [ApartE]
    exact ⟨fun hv => (hP _ (hl.2.1.2.2.1 hv).2).2, p, fun hk => ⟨(hp (fun e => by rw [n1, e] at hk; cases hk)).1, f1 (by omega)⟩, har⟩
theorem roomE_treesA {w : World} {P P1 : Nat → Prop} {g : Nat} (hg : P g) (hP : ∀ k, P1 k → P k ∧ k ≠ g) (S : List ES) (h : ∀ j (hj : j < S.length), PartedE w P1 g S (j + 1) S[j] g (j * 13)) : ∀ (n j : Nat) (x : ES), S.length - j ≤ n → S[j]? = some x → ∃ u : ET, shapeE u = x ∧ TameE u ∧ LiesEP w P u g (j * 13) ∧ ApartE g (j + 1) u
  | 0, j, x, hn, hx => by
    have := (List.getElem?_eq_some_iff.1 hx).1
    omega
  | n + 1, j, x, hn, hx => by
    obtain ⟨hj, rfl⟩ := List.getElem?_eq_some_iff.1 hx
    obtain ⟨u, hu, ht, hc, hh, ha⟩ := partedE_treeA hg hP (h j hj) fun i x hi hx => roomE_treesA hg hP S h n i x (by have := (List.getElem?_eq_some_iff.1 hx).1; omega) hx
    exact ⟨u, hu, ht, liesEP_held.2 ⟨hg, hc, hh⟩, ha⟩
theorem cop_endA {w0 w : World} {M D g R cap i : Nat} {t : ET} {S : List ES} (h : CopRel w0 M D g R cap t i S w) (hi : S.length ≤ i) :
    ∃ u : ET, shapeE u = shapeE t ∧ TameE u ∧ (∀ j v, u.cells[j]? = some v → w.cell? ⟨D, 0 + j, none⟩ = some v) ∧ HeldEP w (Fresh w (D + 2)) u ∧ ApartE g 0 u := by
  have hm : ∀ k, LmE (D + 2) D g R w k → Fresh w (D + 2) k ∧ k ≠ g := fun k hk => ⟨hk.1, hk.2.2.1⟩
  refine partedE_treeA h.fresh hm h.root fun j x _ hx => ?_
  exact roomE_treesA h.fresh hm S (fun j hj => h.par j hj (by omega)) (S.length - j) j x (Nat.le_refl _) hx
/-- What a copy is, and where. -/
def EPostA (s : ES) (w : World) (e : Ending) (w' : World) : Prop := ∃ (u : ET) (g : Nat), e = .returned (.agg #[.int .i64 u.k, .int .i64 u.d.k, .bool u.d.g, .slice u.d.la u.d.ln u.d.lc, .bool u.d.bb, .string u.d.s, .slice u.d.ia u.d.items.length u.d.ic, .slice u.d.ta u.d.tail.length u.d.tc, .int .i64 u.v, .slice u.va u.vs.length u.vc, .bool u.rs, .int .i64 u.p, .slice u.ka u.kids.length u.kc]) ∧ HeldEP w' (Fresh w' w.heap.size) u ∧ TameE u ∧ shapeE u = s ∧ Below w.heap.size w w' ∧ ApartE g 0 u
set_option maxRecDepth 100000 in
set_option maxHeartbeats 3200000 in
theorem copiedE_apart (M : Nat) (t : ET) (h1 : t.size ≤ 12000000) (h2 : t.depth ≤ 65536) (hT : TameE t) (w : World) (hM : M ≤ w.heap.size) (hH : HeldE w M t) :
    Calls Tryz.prog 21 #[.agg #[.int .i64 t.k, .int .i64 t.d.k, .bool t.d.g, .slice t.d.la t.d.ln t.d.lc, .bool t.d.bb, .string t.d.s, .slice t.d.ia t.d.items.length t.d.ic, .slice t.d.ta t.d.tail.length t.d.tc, .int .i64 t.v, .slice t.va t.vs.length t.vc, .bool t.rs, .int .i64 t.p, .slice t.ka t.kids.length t.kc]] w (EPostA (shapeE t) w) := by
  obtain ⟨w2, hw2, a0, a1, hz, hbel⟩ := two2 w (Obj.cells #[.int .i64 t.k, .int .i64 t.d.k, .bool t.d.g, .slice t.d.la t.d.ln t.d.lc, .bool t.d.bb, .string t.d.s, .slice t.d.ia t.d.items.length t.d.ic, .slice t.d.ta t.d.tail.length t.d.tc, .int .i64 t.v, .slice t.va t.vs.length t.vc, .bool t.rs, .int .i64 t.p, .slice t.ka t.kids.length t.kc] 31) (Obj.cells #[.int .i64 0, .int .i64 0, .bool false, .slice none 0 0, .bool false, .string ⟨#[]⟩, .slice none 0 0, .slice none 0 0, .int .i64 0, .slice none 0 0, .bool false, .int .i64 0, .slice none 0 0] 31)
  have hL2 := hH.boxed hM hM hbel a0
  obtain ⟨cap, hcap⟩ : ∃ cap, t.size = cap + 1 := ⟨t.size - 1, by have := t.size_eq; omega⟩
  obtain ⟨cs, hcs, hmk⟩ := makeExp cap (by omega)
  have HH := Lib.hid (And.intro hw2 (And.intro a0 (And.intro a1 (And.intro hz (And.intro hbel (And.intro hL2 (And.intro hT (And.intro hH (And.intro hcap (And.intro h1 h2))))))))))
  have hc1 : cap ≤ 12000000 := by omega
  clear hT hH hcap hL2 hw2 a0 a1 hz hbel h1 h2
  go_enter Tryz.func21, Tryz.ntmps21
  go_wp2_with fail
  rw [← HH.out.1]
  refine (givenE_any w2).mono ?_
  rintro e w3 ⟨rfl, b3⟩
  have HB3 := Lib.hid b3
  clear b3
  go_wp2_with fail
  refine (measureE_any (w.heap.size + 1) w.heap.size 0 12000000 65536 t w3 (by have := HB3.out.size; have := HH.out.2.2.2.1; omega) (HH.out.2.2.2.2.2.1.keep HB3.out.size (fun q hq => HB3.out.block q (by have := HH.out.2.2.2.1; omega)) _ _ _) HH.out.2.2.2.2.2.2.2.2.2.1 HH.out.2.2.2.2.2.2.2.2.2.2 (by decide)).mono ?_
  rintro e w4 ⟨rfl, b4⟩
  have hz2 := HH.out.2.2.2.1
  have z3 := HB3.out.size
  have z4 := b4.size
  have x0 := (b4.block w.heap.size (by omega)).trans ((HB3.out.block w.heap.size (by omega)).trans HH.out.2.1)
  have x1 := (b4.block (w.heap.size + 1) (by omega)).trans ((HB3.out.block (w.heap.size + 1) (by omega)).trans HH.out.2.2.1)
  have hb4 : Below w.heap.size w w4 := HH.out.2.2.2.2.1.trans ((HB3.out.mono (by omega)).trans (b4.mono (by omega)))
  have hz4 : w.heap.size + 2 ≤ w4.heap.size := by omega
  have HF := Lib.hid (cop_first hcs (by omega) hM HH.out.2.2.2.2.2.2.1 HH.out.2.2.2.2.2.2.2.1 HH.out.2.2.2.2.2.2.2.2.1 hb4 x0 x1 rfl)
  rw [HH.out.2.2.2.2.2.2.2.2.1]
  clear x0 x1 hb4 b4 z3 z4 hz2 hcs
  go_wp2_with fail
  refine HF.out.mono ?_
  rintro e w5 ⟨rfl, hrel5⟩
  have HR := Lib.hid hrel5
  clear hrel5 hmk
  generalize w4.heap.size = g at *
  go_wp2_with fail
  go_loopw [7] (fun i wr => ∃ (k : Nat) (S : List ES), i = .int .i64 k ∧ CopRel w M w.heap.size g (g + 1) cap t k S wr) (fun i _ => cap - (intOf i).toNat)
  case atStart => exact ⟨0, _, rfl, HR.out⟩
  case round =>
    obtain ⟨k, S, rfl, hrel⟩ := hrel
    have q1 : wr.cell? ⟨g + 1, 0, none⟩ = some (.slice (some ⟨g, 0, none⟩) S.length cap) := hrel.room.1
    have hcapS : S.length ≤ cap := by have := hrel.left; have := sizesES_ge (S.drop k); rw [List.length_drop] at this; omega
    by_cases hlt : k < S.length
    · have HS := Lib.hid (cop_round rfl hM hz4 rfl (by omega) hlt hrel)
      clear hrel
      go_wp2_with fail
      refine HS.out.mono ?_
      rintro e w8 ⟨rfl, hR8⟩
      have HR8 := Lib.hid hR8
      clear hR8 q1
      go_wp2_with fail
      go_roundw
      case rel =>
        obtain ⟨S', hS'⟩ := HR8.out
        exact ⟨k + 1, S', by go_num, hS'⟩
      case measure => simp [intOf]; omega
    · obtain ⟨u, hu1, hu2, hu3, hu4, hu5⟩ := cop_endA hrel (by omega)
      simp only [Nat.zero_add] at hu3
      have d0 : wr.cell? ⟨w.heap.size, 0, none⟩ = some (.int .i64 u.k) := hu3 0 _ rfl
      have d1 : wr.cell? ⟨w.heap.size, 1, none⟩ = some (.int .i64 u.d.k) := hu3 1 _ rfl
      have d2 : wr.cell? ⟨w.heap.size, 2, none⟩ = some (.bool u.d.g) := hu3 2 _ rfl
      have d3 : wr.cell? ⟨w.heap.size, 3, none⟩ = some (.slice u.d.la u.d.ln u.d.lc) := hu3 3 _ rfl
      have d4 : wr.cell? ⟨w.heap.size, 4, none⟩ = some (.bool u.d.bb) := hu3 4 _ rfl
      have d5 : wr.cell? ⟨w.heap.size, 5, none⟩ = some (.string u.d.s) := hu3 5 _ rfl
      have d6 : wr.cell? ⟨w.heap.size, 6, none⟩ = some (.slice u.d.ia u.d.items.length u.d.ic) := hu3 6 _ rfl
      have d7 : wr.cell? ⟨w.heap.size, 7, none⟩ = some (.slice u.d.ta u.d.tail.length u.d.tc) := hu3 7 _ rfl
      have d8 : wr.cell? ⟨w.heap.size, 8, none⟩ = some (.int .i64 u.v) := hu3 8 _ rfl
      have d9 : wr.cell? ⟨w.heap.size, 9, none⟩ = some (.slice u.va u.vs.length u.vc) := hu3 9 _ rfl
      have d10 : wr.cell? ⟨w.heap.size, 10, none⟩ = some (.bool u.rs) := hu3 10 _ rfl
      have d11 : wr.cell? ⟨w.heap.size, 11, none⟩ = some (.int .i64 u.p) := hu3 11 _ rfl
      have d12 : wr.cell? ⟨w.heap.size, 12, none⟩ = some (.slice u.ka u.kids.length u.kc) := hu3 12 _ rfl
      have hres := hrel.res
      unfold ZE at hres
      have r100 : wr.cell? ⟨w.heap.size + 1, 0, none⟩ = some (.int .i64 0) := by rw [Lib.cell_of_heap hres]; rfl
      have f100 : wr.frozen? ⟨w.heap.size + 1, 0, none⟩ = false := Lib.frozen_of_heap hres _
      have r101 : wr.cell? ⟨w.heap.size + 1, 1, none⟩ = some (.int .i64 0) := by rw [Lib.cell_of_heap hres]; rfl
      have f101 : wr.frozen? ⟨w.heap.size + 1, 1, none⟩ = false := Lib.frozen_of_heap hres _
      have r102 : wr.cell? ⟨w.heap.size + 1, 2, none⟩ = some (.bool false) := by rw [Lib.cell_of_heap hres]; rfl
      have f102 : wr.frozen? ⟨w.heap.size + 1, 2, none⟩ = false := Lib.frozen_of_heap hres _
      have r103 : wr.cell? ⟨w.heap.size + 1, 3, none⟩ = some (.slice none 0 0) := by rw [Lib.cell_of_heap hres]; rfl
      have f103 : wr.frozen? ⟨w.heap.size + 1, 3, none⟩ = false := Lib.frozen_of_heap hres _
      have r104 : wr.cell? ⟨w.heap.size + 1, 4, none⟩ = some (.bool false) := by rw [Lib.cell_of_heap hres]; rfl
      have f104 : wr.frozen? ⟨w.heap.size + 1, 4, none⟩ = false := Lib.frozen_of_heap hres _
      have r105 : wr.cell? ⟨w.heap.size + 1, 5, none⟩ = some (.string ⟨#[]⟩) := by rw [Lib.cell_of_heap hres]; rfl
      have f105 : wr.frozen? ⟨w.heap.size + 1, 5, none⟩ = false := Lib.frozen_of_heap hres _
      have r106 : wr.cell? ⟨w.heap.size + 1, 6, none⟩ = some (.slice none 0 0) := by rw [Lib.cell_of_heap hres]; rfl
      have f106 : wr.frozen? ⟨w.heap.size + 1, 6, none⟩ = false := Lib.frozen_of_heap hres _
      have r107 : wr.cell? ⟨w.heap.size + 1, 7, none⟩ = some (.slice none 0 0) := by rw [Lib.cell_of_heap hres]; rfl
      have f107 : wr.frozen? ⟨w.heap.size + 1, 7, none⟩ = false := Lib.frozen_of_heap hres _
      have r108 : wr.cell? ⟨w.heap.size + 1, 8, none⟩ = some (.int .i64 0) := by rw [Lib.cell_of_heap hres]; rfl
      have f108 : wr.frozen? ⟨w.heap.size + 1, 8, none⟩ = false := Lib.frozen_of_heap hres _
      have r109 : wr.cell? ⟨w.heap.size + 1, 9, none⟩ = some (.slice none 0 0) := by rw [Lib.cell_of_heap hres]; rfl
      have f109 : wr.frozen? ⟨w.heap.size + 1, 9, none⟩ = false := Lib.frozen_of_heap hres _
      have r110 : wr.cell? ⟨w.heap.size + 1, 10, none⟩ = some (.bool false) := by rw [Lib.cell_of_heap hres]; rfl
      have f110 : wr.frozen? ⟨w.heap.size + 1, 10, none⟩ = false := Lib.frozen_of_heap hres _
      have r111 : wr.cell? ⟨w.heap.size + 1, 11, none⟩ = some (.int .i64 0) := by rw [Lib.cell_of_heap hres]; rfl
      have f111 : wr.frozen? ⟨w.heap.size + 1, 11, none⟩ = false := Lib.frozen_of_heap hres _
      have r112 : wr.cell? ⟨w.heap.size + 1, 12, none⟩ = some (.slice none 0 0) := by rw [Lib.cell_of_heap hres]; rfl
      have f112 : wr.frozen? ⟨w.heap.size + 1, 12, none⟩ = false := Lib.frozen_of_heap hres _
      have HY := Lib.hid (And.intro hu4 (And.intro hu1 (And.intro hu2 (And.intro hrel.below (And.intro hres hu5)))))
      clear hu1 hu2 hu3 hu4 hu5 hrel hres HR
      go_wp2_with fail
      (try simp only [Exit.inBlock, Exit.then])
      obtain ⟨w6, hw6⟩ : ∃ W, (((((((((((((wr.setCell ⟨w.heap.size + 1, 0, none⟩ (.int .i64 u.k)).setCell ⟨w.heap.size + 1, 1, none⟩ (.int .i64 u.d.k)).setCell ⟨w.heap.size + 1, 2, none⟩ (.bool u.d.g)).setCell ⟨w.heap.size + 1, 3, none⟩ (.slice u.d.la u.d.ln u.d.lc)).setCell ⟨w.heap.size + 1, 4, none⟩ (.bool u.d.bb)).setCell ⟨w.heap.size + 1, 5, none⟩ (.string u.d.s)).setCell ⟨w.heap.size + 1, 6, none⟩ (.slice u.d.ia u.d.items.length u.d.ic)).setCell ⟨w.heap.size + 1, 7, none⟩ (.slice u.d.ta u.d.tail.length u.d.tc)).setCell ⟨w.heap.size + 1, 8, none⟩ (.int .i64 u.v)).setCell ⟨w.heap.size + 1, 9, none⟩ (.slice u.va u.vs.length u.vc)).setCell ⟨w.heap.size + 1, 10, none⟩ (.bool u.rs)).setCell ⟨w.heap.size + 1, 11, none⟩ (.int .i64 u.p)).setCell ⟨w.heap.size + 1, 12, none⟩ (.slice u.ka u.kids.length u.kc)) = W := ⟨_, rfl⟩
      have hlow : ∀ k, w.heap.size + 2 ≤ k → w6.heap[k]? = wr.heap[k]? := fun k hk => by rw [← hw6]; simp [World.setCell, Array.getElem?_modify, show ¬ w.heap.size + 1 = k by omega]
      have z6 : w6.heap.size = wr.heap.size := by rw [← hw6]; simp [World.setCell]
      have y6 : w6.heap[w.heap.size + 1]? = some (.cells #[.int .i64 u.k, .int .i64 u.d.k, .bool u.d.g, .slice u.d.la u.d.ln u.d.lc, .bool u.d.bb, .string u.d.s, .slice u.d.ia u.d.items.length u.d.ic, .slice u.d.ta u.d.tail.length u.d.tc, .int .i64 u.v, .slice u.va u.vs.length u.vc, .bool u.rs, .int .i64 u.p, .slice u.ka u.kids.length u.kc] 31 (0, 0)) := by rw [← hw6]; simp [World.setCell, Array.getElem?_modify, HY.out.2.2.2.2.1]
      have hb6 : Below w.heap.size w w6 := by
        rw [← hw6]
        exact (((((((((((((HY.out.2.2.2.1.setCell (p := ⟨w.heap.size + 1, 0, none⟩) (Nat.le_succ _) _).setCell (p := ⟨w.heap.size + 1, 1, none⟩) (Nat.le_succ _) _).setCell (p := ⟨w.heap.size + 1, 2, none⟩) (Nat.le_succ _) _).setCell (p := ⟨w.heap.size + 1, 3, none⟩) (Nat.le_succ _) _).setCell (p := ⟨w.heap.size + 1, 4, none⟩) (Nat.le_succ _) _).setCell (p := ⟨w.heap.size + 1, 5, none⟩) (Nat.le_succ _) _).setCell (p := ⟨w.heap.size + 1, 6, none⟩) (Nat.le_succ _) _).setCell (p := ⟨w.heap.size + 1, 7, none⟩) (Nat.le_succ _) _).setCell (p := ⟨w.heap.size + 1, 8, none⟩) (Nat.le_succ _) _).setCell (p := ⟨w.heap.size + 1, 9, none⟩) (Nat.le_succ _) _).setCell (p := ⟨w.heap.size + 1, 10, none⟩) (Nat.le_succ _) _).setCell (p := ⟨w.heap.size + 1, 11, none⟩) (Nat.le_succ _) _).setCell (p := ⟨w.heap.size + 1, 12, none⟩) (Nat.le_succ _) _)
      refine bodyPost_ret (v := .agg #[.int .i64 u.k, .int .i64 u.d.k, .bool u.d.g, .slice u.d.la u.d.ln u.d.lc, .bool u.d.bb, .string u.d.s, .slice u.d.ia u.d.items.length u.d.ic, .slice u.d.ta u.d.tail.length u.d.tc, .int .i64 u.v, .slice u.va u.vs.length u.vc, .bool u.rs, .int .i64 u.p, .slice u.ka u.kids.length u.kc]) (results_e rfl rfl (by rw [hw6, Lib.cell_of_heap y6]; rfl) (by rw [hw6, Lib.cell_of_heap y6]; rfl) (by rw [hw6, Lib.cell_of_heap y6]; rfl) (by rw [hw6, Lib.cell_of_heap y6]; rfl) (by rw [hw6, Lib.cell_of_heap y6]; rfl) (by rw [hw6, Lib.cell_of_heap y6]; rfl) (by rw [hw6, Lib.cell_of_heap y6]; rfl) (by rw [hw6, Lib.cell_of_heap y6]; rfl) (by rw [hw6, Lib.cell_of_heap y6]; rfl) (by rw [hw6, Lib.cell_of_heap y6]; rfl) (by rw [hw6, Lib.cell_of_heap y6]; rfl) (by rw [hw6, Lib.cell_of_heap y6]; rfl) (by rw [hw6, Lib.cell_of_heap y6]; rfl)) rfl ?_
      (try rw [hw6])
      have hk6 : ∀ k, Fresh wr (w.heap.size + 2) k → Fresh w6 w.heap.size k ∧ w6.heap[k]? = wr.heap[k]? := fun k hk => ⟨(hk.same (hlow k hk.1)).low (by omega), hlow k hk.1⟩
      exact ⟨u, g, rfl, HY.out.1.keep (by omega) hk6, HY.out.2.2.1, HY.out.2.1, hb6, HY.out.2.2.2.2.2⟩
end
end Go.Proofs.YthdhdmmlmbkalaaGreatDoor
namespace Go.Proofs.YthdhdmmlmbkalaaGreatDoor
section
open Go.RowKit Go.Maps

set_option maxRecDepth 100000 in
theorem variableE_any (v : Int) (w : World) : Calls Tryz.prog 64 #[.int .i64 v] w fun e w' => e = .returned (.agg #[.int .i64 2, .int .i64 0, .bool false, .slice none 0 0, .bool false, .string ⟨#[]⟩, .slice none 0 0, .slice none 0 0, .int .i64 v, .slice none 0 0, .bool false, .int .i64 0, .slice none 0 0]) ∧ Below w.heap.size w w' := by
  obtain ⟨W, hW⟩ : ∃ W, w.alloc (.cells #[.int .i64 2, .int .i64 0, .bool false, .slice none 0 0, .bool false, .string ⟨#[]⟩, .slice none 0 0, .slice none 0 0, .int .i64 v, .slice none 0 0, .bool false, .int .i64 0, .slice none 0 0] 31) = W := ⟨_, rfl⟩
  have a0 : W.heap[w.heap.size]? = some (.cells #[.int .i64 2, .int .i64 0, .bool false, .slice none 0 0, .bool false, .string ⟨#[]⟩, .slice none 0 0, .slice none 0 0, .int .i64 v, .slice none 0 0, .bool false, .int .i64 0, .slice none 0 0] 31 (0, 0)) := by rw [← hW]; exact World.alloc_heap_new _ _
  have hb : Below w.heap.size w W := by rw [← hW]; exact (Below.refl _ w).alloc (Nat.le_refl _) _
  have HW := Lib.hid (And.intro hW (And.intro a0 hb))
  clear a0 hb hW
  go_enter Tryz.func64, Tryz.ntmps64
  go_wp2_with fail
  obtain ⟨hW, a0, hb⟩ := HW.out
  refine bodyPost_ret (v := .agg #[.int .i64 2, .int .i64 0, .bool false, .slice none 0 0, .bool false, .string ⟨#[]⟩, .slice none 0 0, .slice none 0 0, .int .i64 v, .slice none 0 0, .bool false, .int .i64 0, .slice none 0 0]) (results_e rfl rfl (by rw [hW, Lib.cell_of_heap a0]; rfl) (by rw [hW, Lib.cell_of_heap a0]; rfl) (by rw [hW, Lib.cell_of_heap a0]; rfl) (by rw [hW, Lib.cell_of_heap a0]; rfl) (by rw [hW, Lib.cell_of_heap a0]; rfl) (by rw [hW, Lib.cell_of_heap a0]; rfl) (by rw [hW, Lib.cell_of_heap a0]; rfl) (by rw [hW, Lib.cell_of_heap a0]; rfl) (by rw [hW, Lib.cell_of_heap a0]; rfl) (by rw [hW, Lib.cell_of_heap a0]; rfl) (by rw [hW, Lib.cell_of_heap a0]; rfl) (by rw [hW, Lib.cell_of_heap a0]; rfl) (by rw [hW, Lib.cell_of_heap a0]; rfl)) rfl ⟨rfl, ?_⟩
  (try rw [hW])
  exact hb
set_option maxRecDepth 100000 in
theorem lawV_any (v : Int) (w : World) : Calls Tryz.prog 18 #[.int .i64 v] w fun e w' => e = .returned (.agg #[.int .i64 2, .int .i64 0, .bool false, .slice none 0 0, .bool false, .string ⟨#[]⟩, .slice none 0 0, .slice none 0 0, .int .i64 v, .slice none 0 0, .bool false, .int .i64 0, .slice none 0 0]) ∧ Below w.heap.size w w' := by
  obtain ⟨W, hW⟩ : ∃ W, w.alloc (.cells #[.int .i64 2, .int .i64 0, .bool false, .slice none 0 0, .bool false, .string ⟨#[]⟩, .slice none 0 0, .slice none 0 0, .int .i64 v, .slice none 0 0, .bool false, .int .i64 0, .slice none 0 0] 31) = W := ⟨_, rfl⟩
  have a0 : W.heap[w.heap.size]? = some (.cells #[.int .i64 2, .int .i64 0, .bool false, .slice none 0 0, .bool false, .string ⟨#[]⟩, .slice none 0 0, .slice none 0 0, .int .i64 v, .slice none 0 0, .bool false, .int .i64 0, .slice none 0 0] 31 (0, 0)) := by rw [← hW]; exact World.alloc_heap_new _ _
  have hb : Below w.heap.size w W := by rw [← hW]; exact (Below.refl _ w).alloc (Nat.le_refl _) _
  have HW := Lib.hid (And.intro hW (And.intro a0 hb))
  clear a0 hb hW
  go_enter Tryz.func18, Tryz.ntmps18
  go_wp2_with fail
  obtain ⟨hW, a0, hb⟩ := HW.out
  refine bodyPost_ret (v := .agg #[.int .i64 2, .int .i64 0, .bool false, .slice none 0 0, .bool false, .string ⟨#[]⟩, .slice none 0 0, .slice none 0 0, .int .i64 v, .slice none 0 0, .bool false, .int .i64 0, .slice none 0 0]) (results_e rfl rfl (by rw [hW, Lib.cell_of_heap a0]; rfl) (by rw [hW, Lib.cell_of_heap a0]; rfl) (by rw [hW, Lib.cell_of_heap a0]; rfl) (by rw [hW, Lib.cell_of_heap a0]; rfl) (by rw [hW, Lib.cell_of_heap a0]; rfl) (by rw [hW, Lib.cell_of_heap a0]; rfl) (by rw [hW, Lib.cell_of_heap a0]; rfl) (by rw [hW, Lib.cell_of_heap a0]; rfl) (by rw [hW, Lib.cell_of_heap a0]; rfl) (by rw [hW, Lib.cell_of_heap a0]; rfl) (by rw [hW, Lib.cell_of_heap a0]; rfl) (by rw [hW, Lib.cell_of_heap a0]; rfl) (by rw [hW, Lib.cell_of_heap a0]; rfl)) rfl ⟨rfl, ?_⟩
  (try rw [hW])
  exact hb
set_option maxRecDepth 100000 in
theorem primE_any (p : Int) (ka : Option Addr) (n kc : Nat) (w : World) : Calls Tryz.prog 63 #[.int .i64 p, .slice ka n kc] w fun e w' => e = .returned (.agg #[.int .i64 7, .int .i64 0, .bool false, .slice none 0 0, .bool false, .string ⟨#[]⟩, .slice none 0 0, .slice none 0 0, .int .i64 0, .slice none 0 0, .bool false, .int .i64 p, .slice ka n kc]) ∧ Below w.heap.size w w' := by
  obtain ⟨W, hW⟩ : ∃ W, w.alloc (.cells #[.int .i64 7, .int .i64 0, .bool false, .slice none 0 0, .bool false, .string ⟨#[]⟩, .slice none 0 0, .slice none 0 0, .int .i64 0, .slice none 0 0, .bool false, .int .i64 p, .slice ka n kc] 31) = W := ⟨_, rfl⟩
  have a0 : W.heap[w.heap.size]? = some (.cells #[.int .i64 7, .int .i64 0, .bool false, .slice none 0 0, .bool false, .string ⟨#[]⟩, .slice none 0 0, .slice none 0 0, .int .i64 0, .slice none 0 0, .bool false, .int .i64 p, .slice ka n kc] 31 (0, 0)) := by rw [← hW]; exact World.alloc_heap_new _ _
  have hb : Below w.heap.size w W := by rw [← hW]; exact (Below.refl _ w).alloc (Nat.le_refl _) _
  have HW := Lib.hid (And.intro hW (And.intro a0 hb))
  clear a0 hb hW
  go_enter Tryz.func63, Tryz.ntmps63
  go_wp2_with fail
  obtain ⟨hW, a0, hb⟩ := HW.out
  refine bodyPost_ret (v := .agg #[.int .i64 7, .int .i64 0, .bool false, .slice none 0 0, .bool false, .string ⟨#[]⟩, .slice none 0 0, .slice none 0 0, .int .i64 0, .slice none 0 0, .bool false, .int .i64 p, .slice ka n kc]) (results_e rfl rfl (by rw [hW, Lib.cell_of_heap a0]; rfl) (by rw [hW, Lib.cell_of_heap a0]; rfl) (by rw [hW, Lib.cell_of_heap a0]; rfl) (by rw [hW, Lib.cell_of_heap a0]; rfl) (by rw [hW, Lib.cell_of_heap a0]; rfl) (by rw [hW, Lib.cell_of_heap a0]; rfl) (by rw [hW, Lib.cell_of_heap a0]; rfl) (by rw [hW, Lib.cell_of_heap a0]; rfl) (by rw [hW, Lib.cell_of_heap a0]; rfl) (by rw [hW, Lib.cell_of_heap a0]; rfl) (by rw [hW, Lib.cell_of_heap a0]; rfl) (by rw [hW, Lib.cell_of_heap a0]; rfl) (by rw [hW, Lib.cell_of_heap a0]; rfl)) rfl ⟨rfl, ?_⟩
  (try rw [hW])
  exact hb
/-- A place of thirteen cells was stored into; all else stands. -/
structure Stored (w w' : World) (b o : Nat) (l : List Value) : Prop where
  size : w.heap.size ≤ w'.heap.size
  here : ∀ j v, l[j]? = some v → w'.cell? ⟨b, o + j, none⟩ = some v
  other : ∀ c off, c < w.heap.size → ¬ (c = b ∧ o ≤ off ∧ off < o + l.length) → w'.cell? ⟨c, off, none⟩ = w.cell? ⟨c, off, none⟩
  frz : ∀ c off, c < w.heap.size → w'.frozen? ⟨c, off, none⟩ = w.frozen? ⟨c, off, none⟩
  block : ∀ k, k < w.heap.size → k ≠ b → w'.heap[k]? = w.heap[k]?
  below : ∀ B, B ≤ b → B ≤ w.heap.size → Below B w w'
theorem Stored.of {w w7 w8 : World} {b o : Nat} {l : List Value} (b7 : Below w.heap.size w w7) (hb : b < w.heap.size) (hc : ∀ j, j < l.length → ∃ x, w.cell? ⟨b, o + j, none⟩ = some x) (h8 : setAll w7 b o l = w8) : Stored w w8 b o l := by
  have hz := b7.size
  refine ⟨by rw [← h8, setAll_size]; exact hz, fun j v hj => ?_, fun c off hlt hn => ?_, fun c off hlt => ?_, fun k hk hne => ?_, fun B h1 h2 => ?_⟩
  · rw [← h8]
    refine setAll_here b l o w7 (fun i hi => ?_) j v hj
    obtain ⟨x, hx⟩ := hc i hi
    exact ⟨x, (b7.cell (p := ⟨b, o + i, none⟩) hb).trans hx⟩
  · rw [← h8, setAll_other b l o w7 c off hn]
    exact b7.cell (p := ⟨c, off, none⟩) hlt
  · rw [← h8, setAll_frz]
    exact b7.frozen (p := ⟨c, off, none⟩) hlt
  · rw [← h8, setAll_block b l o w7 k hne]
    exact b7.block k hk
  · rw [← h8]
    exact (b7.mono h2).trans (setAll_below b l o w7 B h1)
/-- What the map of boxes says of one variable. -/
def BoxMap (w : World) (mb : Nat) (v y : Int) : Prop := ∃ n D, BxAt w mb n D ∧ D.atKey (.int .i64 v) (.lit (.int .i64 0)) = .lit (.int .i64 y) ∧ Maps.has D (.int .i64 v) = true ∧ Maps.has D (.int .i64 0) = false
theorem BoxMap.of_block {w w' : World} {mb : Nat} {v y : Int} (h : BoxMap w mb v y) (e : w'.heap[mb]? = w.heap[mb]?) : BoxMap w' mb v y := let ⟨n, D, h1, h2⟩ := h; ⟨n, D, ownsMap_of_block h1 e, h2⟩
theorem BoxMap.lt {w : World} {mb : Nat} {v y : Int} (h : BoxMap w mb v y) : mb < w.heap.size := let ⟨_, _, h1, _⟩ := h; World.ownsMap.lt h1
set_option maxRecDepth 100000 in
set_option maxHeartbeats 6400000 in
/-- A variable becomes what is in its box. -/
theorem open_var (mb b o : Nat) (y : Int) (X : ET) (w : World) (hB : BoxMap w mb X.v y) (hk : X.k = 2) (hv : InR X.v) (hkids : X.kids = []) (hc : ∀ j v, X.cells[j]? = some v → w.cell? ⟨b, o + j, none⟩ = some v) (hf : ∀ j, w.frozen? ⟨b, o + j, none⟩ = false) (hne : b ≠ mb) :
    Calls Tryz.prog 35 #[.map (some mb), .pointer (some ⟨b, o, none⟩)] w fun e w' => e = .returned (.tuple #[]) ∧ ∃ g, w.heap.size ≤ g ∧ g < w'.heap.size ∧ w'.heap[g]? = some (.cells #[.int .i64 2, .int .i64 0, .bool false, .slice none 0 0, .bool false, .string ⟨#[]⟩, .slice none 0 0, .slice none 0 0, .int .i64 y, .slice none 0 0, .bool false, .int .i64 0, .slice none 0 0] 31 (0, 0)) ∧ Stored w w' b o [.int .i64 7, .int .i64 0, .bool false, .slice none 0 0, .bool false, .string ⟨#[]⟩, .slice none 0 0, .slice none 0 0, .int .i64 0, .slice none 0 0, .bool false, .int .i64 36, .slice (some ⟨g, 0, none⟩) 1 1] := by
  have hbl : b < w.heap.size := World.block_lt_of_cell? w _ (hc 0 _ rfl)
  have c0 : w.cell? ⟨b, o, none⟩ = some (.int .i64 2) := by have h := hc 0 _ rfl; rw [hk] at h; exact h
  have c8 : w.cell? ⟨b, o + 8, none⟩ = some (.int .i64 X.v) := hc 8 _ rfl
  have c12 : w.cell? ⟨b, o + 12, none⟩ = some (.slice X.ka 0 X.kc) := by have h := hc 12 _ rfl; rw [hkids] at h; exact h
  obtain ⟨n, D, hBx, hat, hhas, -⟩ := hB
  have hex : ∀ j, j < 13 → ∃ x, w.cell? ⟨b, o + j, none⟩ = some x := fun j hj => ⟨_, hc j (X.cells[j]'hj) (List.getElem?_eq_getElem hj)⟩
  have HH := Lib.hid (And.intro hc (And.intro hf hex))
  have hkey : keyOf Tryz.prog 3 (.int .i64 X.v) = some (.int .i64 X.v) := keyOf_int_mk Tryz.underlying3 (WalkArith.wf_i64 hv)
  clear hc hf hex hk hkids
  go_enter Tryz.func35, Tryz.ntmps35
  go_wp2_with fail
  refine wp_loop_rounds 1 ?_
  rw [rounds_succ]
  go_wp2_with (at_lookup; refine wpList_lookup_own_ok_int _ rfl _ _ 69 rfl 3 3 .i64 keyI Tryz.underlying69 Tryz.underlying3 (zeroI _) mb _ _ rfl hBx _ _ rfl hkey ?_; intro c hatc hwc)
  obtain rfl : y = c := by rw [hat] at hatc; injection hatc with h; injection h
  clear hBx hat hatc hwc hkey
  go_wp2_with fail
  refine (variableE_any y w).mono ?_
  rintro e w1 ⟨rfl, b1⟩
  obtain ⟨w2, hw2⟩ : ∃ w2, w1.alloc (.cells #[.int .i64 2, .int .i64 0, .bool false, .slice none 0 0, .bool false, .string ⟨#[]⟩, .slice none 0 0, .slice none 0 0, .int .i64 y, .slice none 0 0, .bool false, .int .i64 0, .slice none 0 0] 31) = w2 := ⟨_, rfl⟩
  have a2 : w2.heap[w1.heap.size]? = some (.cells #[.int .i64 2, .int .i64 0, .bool false, .slice none 0 0, .bool false, .string ⟨#[]⟩, .slice none 0 0, .slice none 0 0, .int .i64 y, .slice none 0 0, .bool false, .int .i64 0, .slice none 0 0] 31 (0, 0)) := by rw [← hw2]; exact World.alloc_heap_new _ _
  have b2 : Below w1.heap.size w1 w2 := by rw [← hw2]; exact (Below.refl _ w1).alloc (Nat.le_refl _) _
  have hz2 : w2.heap.size = w1.heap.size + 1 := by rw [← hw2, World.size_alloc]
  have hz1 := b1.size
  have H2 := Lib.hid (And.intro a2 (And.intro (b1.trans (b2.mono hz1)) hw2))
  clear b1 a2 b2 hw2 c0 c8 c12
  go_wp2_with fail
  rw [H2.out.2.2]
  refine (primE_any 36 (some ⟨w1.heap.size, 0, none⟩) 1 1 w2).mono ?_
  rintro e w3 ⟨rfl, b3⟩
  have hz3 := b3.size
  have hb3 : Below w.heap.size w w3 := H2.out.2.1.trans (b3.mono (by omega))
  have a3 := (b3.block w1.heap.size (by omega)).trans H2.out.1
  have r0 : w3.cell? ⟨b, o, none⟩ = some (.int .i64 X.k) := (hb3.cell hbl).trans (HH.out.1 0 _ rfl)
  have rf0 : w3.frozen? ⟨b, o, none⟩ = false := (hb3.frozen hbl).trans (HH.out.2.1 0)
  have r1 : w3.cell? ⟨b, o + 1, none⟩ = some (.int .i64 X.d.k) := (hb3.cell hbl).trans (HH.out.1 1 _ rfl)
  have rf1 : w3.frozen? ⟨b, o + 1, none⟩ = false := (hb3.frozen hbl).trans (HH.out.2.1 1)
  have r2 : w3.cell? ⟨b, o + 2, none⟩ = some (.bool X.d.g) := (hb3.cell hbl).trans (HH.out.1 2 _ rfl)
  have rf2 : w3.frozen? ⟨b, o + 2, none⟩ = false := (hb3.frozen hbl).trans (HH.out.2.1 2)
  have r3 : w3.cell? ⟨b, o + 3, none⟩ = some (.slice X.d.la X.d.ln X.d.lc) := (hb3.cell hbl).trans (HH.out.1 3 _ rfl)
  have rf3 : w3.frozen? ⟨b, o + 3, none⟩ = false := (hb3.frozen hbl).trans (HH.out.2.1 3)
  have r4 : w3.cell? ⟨b, o + 4, none⟩ = some (.bool X.d.bb) := (hb3.cell hbl).trans (HH.out.1 4 _ rfl)
  have rf4 : w3.frozen? ⟨b, o + 4, none⟩ = false := (hb3.frozen hbl).trans (HH.out.2.1 4)
  have r5 : w3.cell? ⟨b, o + 5, none⟩ = some (.string X.d.s) := (hb3.cell hbl).trans (HH.out.1 5 _ rfl)
  have rf5 : w3.frozen? ⟨b, o + 5, none⟩ = false := (hb3.frozen hbl).trans (HH.out.2.1 5)
  have r6 : w3.cell? ⟨b, o + 6, none⟩ = some (.slice X.d.ia X.d.items.length X.d.ic) := (hb3.cell hbl).trans (HH.out.1 6 _ rfl)
  have rf6 : w3.frozen? ⟨b, o + 6, none⟩ = false := (hb3.frozen hbl).trans (HH.out.2.1 6)
  have r7 : w3.cell? ⟨b, o + 7, none⟩ = some (.slice X.d.ta X.d.tail.length X.d.tc) := (hb3.cell hbl).trans (HH.out.1 7 _ rfl)
  have rf7 : w3.frozen? ⟨b, o + 7, none⟩ = false := (hb3.frozen hbl).trans (HH.out.2.1 7)
  have r8 : w3.cell? ⟨b, o + 8, none⟩ = some (.int .i64 X.v) := (hb3.cell hbl).trans (HH.out.1 8 _ rfl)
  have rf8 : w3.frozen? ⟨b, o + 8, none⟩ = false := (hb3.frozen hbl).trans (HH.out.2.1 8)
  have r9 : w3.cell? ⟨b, o + 9, none⟩ = some (.slice X.va X.vs.length X.vc) := (hb3.cell hbl).trans (HH.out.1 9 _ rfl)
  have rf9 : w3.frozen? ⟨b, o + 9, none⟩ = false := (hb3.frozen hbl).trans (HH.out.2.1 9)
  have r10 : w3.cell? ⟨b, o + 10, none⟩ = some (.bool X.rs) := (hb3.cell hbl).trans (HH.out.1 10 _ rfl)
  have rf10 : w3.frozen? ⟨b, o + 10, none⟩ = false := (hb3.frozen hbl).trans (HH.out.2.1 10)
  have r11 : w3.cell? ⟨b, o + 11, none⟩ = some (.int .i64 X.p) := (hb3.cell hbl).trans (HH.out.1 11 _ rfl)
  have rf11 : w3.frozen? ⟨b, o + 11, none⟩ = false := (hb3.frozen hbl).trans (HH.out.2.1 11)
  have r12 : w3.cell? ⟨b, o + 12, none⟩ = some (.slice X.ka X.kids.length X.kc) := (hb3.cell hbl).trans (HH.out.1 12 _ rfl)
  have rf12 : w3.frozen? ⟨b, o + 12, none⟩ = false := (hb3.frozen hbl).trans (HH.out.2.1 12)
  have H3 := Lib.hid (And.intro hb3 a3)
  clear hb3 b3 a3
  go_wp2_with fail
  obtain ⟨w4, hw4⟩ : ∃ w4, (((((((((((((w3.setCell ⟨b, o, none⟩ (.int .i64 7)).setCell ⟨b, o + 1, none⟩ (.int .i64 0)).setCell ⟨b, o + 2, none⟩ (.bool false)).setCell ⟨b, o + 3, none⟩ (.slice none 0 0)).setCell ⟨b, o + 4, none⟩ (.bool false)).setCell ⟨b, o + 5, none⟩ (.string ⟨#[]⟩)).setCell ⟨b, o + 6, none⟩ (.slice none 0 0)).setCell ⟨b, o + 7, none⟩ (.slice none 0 0)).setCell ⟨b, o + 8, none⟩ (.int .i64 0)).setCell ⟨b, o + 9, none⟩ (.slice none 0 0)).setCell ⟨b, o + 10, none⟩ (.bool false)).setCell ⟨b, o + 11, none⟩ (.int .i64 36)).setCell ⟨b, o + 12, none⟩ (.slice (some ⟨w1.heap.size, 0, none⟩) 1 1)) = w4 := ⟨_, rfl⟩
  first | go_end0 | refine bodyPost_ret (results_none rfl _ _ _) rfl ?_
  (try rw [hw4])
  have h8 : setAll w3 b o [.int .i64 7, .int .i64 0, .bool false, .slice none 0 0, .bool false, .string ⟨#[]⟩, .slice none 0 0, .slice none 0 0, .int .i64 0, .slice none 0 0, .bool false, .int .i64 36, .slice (some ⟨w1.heap.size, 0, none⟩) 1 1] = w4 := by rw [← hw4]; rfl
  have hS := Stored.of H3.out.1 hbl (l := [.int .i64 7, .int .i64 0, .bool false, .slice none 0 0, .bool false, .string ⟨#[]⟩, .slice none 0 0, .slice none 0 0, .int .i64 0, .slice none 0 0, .bool false, .int .i64 36, .slice (some ⟨w1.heap.size, 0, none⟩) 1 1]) (fun j hj => HH.out.2.2 j hj) h8
  refine ⟨rfl, w1.heap.size, hz1, by have := hS.size; rw [← h8, setAll_size]; omega, ?_, hS⟩
  rw [← h8, setAll_block b _ _ _ _ (by omega)]
  exact H3.out.2
end
end Go.Proofs.YthdhdmmlmbkalaaGreatDoor
