/-
  What a copy of the lambda is, and what open makes of it. core.Boxes of a lambda of one variable that is set. core.boxesOf of a lambda of one variable that is set. core.Boxes of a lambda of one variable that is set: the whole. strings.Builder, at this program's numbers (the library's contracts): a byte, a text, and what it holds. strconv.Itoa of a number below a hundred, and core.name.
-/
import Derived.Test.YthdhdmmlmbkalaaGreatDoorJr20
import Derived.Test.YthdhdmmlmbkalaaGreatDoorJr17
import Derived.Test.YthdhdmmlmbkalaaGreatDoorJr16
import Derived.Test.YthdhdmmlmbkalaaGreatDoorJr18
import Derived.Test.YthdhdmmlmbkalaaGreatDoorJr11
import Derived.Shelf.Strings.BuilderK
import Derived.Test.YthdhdmmlmbkalaaGreatDoorChecked
import Derived.Shelf.Strconv.Itoa3
set_option linter.unusedVariables false
set_option linter.unusedSimpArgs false
set_option linter.unusedSectionVars false
set_option linter.unnecessarySimpa false
namespace Go.Proofs.YthdhdmmlmbkalaaGreatDoor
section
open Go.RowKit Go.Maps

theorem nil_of_shapes {l : List LT} (h : shapes l = []) : l = [] := by
  cases l with
  | nil => rfl
  | cons x l => simp [shapes] at h
theorem zero_of_shape {d e : LT} (h : shape d = shape e) (hz : ZeroD e) (hd : d.ln = d.ys.length) (he : e.ln = e.ys.length) : ZeroD d := by
  obtain ⟨z0, z1, z2, z3, z4, z5, z6⟩ := hz
  rw [shape_eq, shape_eq] at h
  injection h with h1 h2 h3 h4 h5 h6 h7
  rw [z5] at h6
  rw [z6] at h7
  exact ⟨h1.trans z0, h2.trans z1, by rw [hd, h3, ← he]; exact z2, h4.trans z3, h5.trans z4, nil_of_shapes (h6.trans (by simp [shapes])), nil_of_shapes (h7.trans (by simp [shapes]))⟩
theorem one_of_shapes {l : List ET} {s : ES} (h : shapesE l = [s]) : ∃ x, l = [x] ∧ shapeE x = s := by
  match l, h with
  | [x], h => exact ⟨x, rfl, by simpa [shapesE] using h⟩
  | [], h => simp [shapesE] at h
  | x :: y :: l, h => simp [shapesE] at h
theorem none_of_shapes {l : List ET} (h : shapesE l = []) : l = [] := by
  match l, h with
  | [], _ => rfl
  | x :: l, h => simp [shapesE] at h
theorem fields_of_shape {a b : ET} (h : shapeE a = shapeE b) : a.k = b.k ∧ shape a.d = shape b.d ∧ a.v = b.v ∧ a.vs = b.vs ∧ a.rs = b.rs ∧ a.p = b.p ∧ shapesE a.kids = shapesE b.kids := by
  cases a; cases b
  simp only [shapeE] at h
  injection h with h1 h2 h3 h4 h5 h6 h7
  exact ⟨h1, h2, h3, h4, h5, h6, h7⟩
theorem LamT.copy {v : Int} {T S X u : ET} {w w' : World} {M N : Nat} (h : LamT v T S X) (hs : shapeE u = shapeE T) (hT : HeldE w M T) (hu : HeldE w' N u) : ∃ S' X', LamT v u S' X' := by
  obtain ⟨⟨t0, t1, t2, t3, t4, t5, t6⟩, ⟨s0, s1, s2, s3, s4, s5, s6⟩, x0, x1, x2, x3, x4, x5, x6⟩ := h
  obtain ⟨a1, a2, a3, a4, a5, a6, a7⟩ := fields_of_shape hs
  rw [t5] at a7
  obtain ⟨S', hS', hsS⟩ := one_of_shapes (s := shapeE S) (a7.trans (by simp [shapesE]))
  obtain ⟨b1, b2, b3, b4, b5, b6, b7⟩ := fields_of_shape hsS
  rw [s5] at b7
  obtain ⟨X', hX', hsX⟩ := one_of_shapes (s := shapeE X) (b7.trans (by simp [shapesE]))
  obtain ⟨c1, c2, c3, c4, c5, c6, c7⟩ := fields_of_shape hsX
  rw [x5] at c7
  have hX0 := none_of_shapes (c7.trans (by simp [shapesE]))
  have hT1 := hT.1.1
  have hTS := hT.2.2
  rw [t5, liesER_cons] at hTS
  have hS1 := (liesE_held.1 hTS.1).2.2
  have hSX := hS1.2.2
  rw [s5, liesER_cons] at hSX
  have hX1 := (liesE_held.1 hSX.1).2.2
  have hu1 := hu.1.1
  have huS := hu.2.2
  rw [hS', liesER_cons] at huS
  have hS1' := (liesE_held.1 huS.1).2.2
  have hSX' := hS1'.2.2
  rw [hX', liesER_cons] at hSX'
  have hX1' := (liesE_held.1 hSX'.1).2.2
  exact ⟨S', X', ⟨⟨a1.trans t0, a3.trans t1, a4.trans t2, a5.trans t3, a6.trans t4, hS', zero_of_shape a2 t6 hu1.1.1.len hT1.1.1.len⟩,
    ⟨b1.trans s0, b3.trans s1, b4.trans s2, b5.trans s3, b6.trans s4, hX', zero_of_shape b2 s6 hS1'.1.1.1.1.len hS1.1.1.1.1.len⟩,
    c1.trans x0, c3.trans x1, c4.trans x2, c5.trans x3, c6.trans x4, hX0, zero_of_shape c2 x6 hX1'.1.1.1.1.len hX1.1.1.1.1.len⟩⟩
/-- The zero datum, that lies nowhere. -/
def zD : LT := .mk 0 false none 0 0 [] false ⟨#[]⟩ none 0 [] none 0 []
theorem zD_zero : ZeroD zD := ⟨rfl, rfl, rfl, rfl, rfl, rfl, rfl⟩
theorem zD_held (w : World) (M : Nat) : Held w M zD := ⟨⟨Sl.nil, fun h => absurd h (Nat.lt_irrefl _), by show (⟨#[]⟩ : ByteArray).size ≤ maxLen; decide⟩, ⟨Nat.le_refl _, Nat.zero_le _, fun h => absurd h (Nat.lt_irrefl _), fun _ => rfl⟩, ⟨Nat.le_refl _, Nat.zero_le _, fun h => absurd h (Nat.lt_irrefl _), fun _ => rfl⟩, by simp [LiesR, zD, LT.items], by simp [LiesR, zD, LT.tail]⟩
theorem nilInts (w : World) (M : Nat) : IntsAt w M none 0 [] := ⟨⟨Nat.le_refl _, Nat.zero_le _, fun h => absurd h (Nat.lt_irrefl _), fun _ => rfl⟩, fun i hi => by simp at hi⟩
/-- A variable; a primitive of one and of two; a let. -/
def varE (v : Int) : ET := .mk 2 zD v none 0 [] false 0 none 0 []
def primE (p : Int) (g : Nat) (l : List ET) : ET := .mk 7 zD 0 none 0 [] false p (some ⟨g, 0, none⟩) l.length l
def letE (y : Int) (g : Nat) (l : List ET) : ET := .mk 8 zD y none 0 [] false 0 (some ⟨g, 0, none⟩) l.length l
theorem varE_lies {w : World} {M b o : Nat} {v : Int} (hb : b < M) (hc : ∀ j x, (varE v).cells[j]? = some x → w.cell? ⟨b, o + j, none⟩ = some x) : LiesE w M (varE v) b o :=
  liesE_held.2 ⟨hb, hc, ⟨zD_held w M, nilInts w M⟩, ⟨Nat.le_refl _, Nat.zero_le _, fun h => absurd h (Nat.lt_irrefl _), fun _ => rfl⟩, by show LiesER w M [] _ _; rw [liesER_nil]; trivial⟩
theorem kidsE_held {w : World} {M g : Nat} {e : ET} {l : List ET} (hd : e.d = zD) (hv : e.va = none ∧ e.vc = 0 ∧ e.vs = []) (hk : e.ka = some ⟨g, 0, none⟩ ∧ e.kc = l.length ∧ e.kids = l) (hg : g < M) (hl : l.length ≤ maxLen) (h : LiesER w M l g 0) : HeldE w M e := by
  refine ⟨⟨by rw [hd]; exact zD_held w M, by rw [hv.1, hv.2.1, hv.2.2]; exact nilInts w M⟩, by rw [hk.1, hk.2.1, hk.2.2]; exact ⟨Nat.le_refl _, hl, fun _ => ⟨rfl, hg⟩, fun e => by cases e⟩, by rw [hk.1, hk.2.2]; exact h⟩
/-- What the lambda becomes, with its new parts at these places. -/
def boxT (u : ET) (v y : Int) (g1 g2 g3 g4 : Nat) : ET := .mk u.k u.d u.v u.va u.vc u.vs u.rs u.p u.ka u.kc [letE y g4 [primE 35 g3 [varE v], primE 37 g2 [varE y, primE 36 g1 [varE y]]]]
theorem cells_at8 {w : World} {b : Nat} {l : List Value} {T : TypeId} (h : w.heap[b]? = some (.cells l.toArray T (0, 0))) (o : Nat) (m : List Value) (hm : ∀ j x, m[j]? = some x → l[o + j]? = some x) : ∀ j x, m[j]? = some x → w.cell? ⟨b, o + j, none⟩ = some x := fun j x hj => by
  rw [Lib.cell_of_heap h, List.getElem?_toArray]
  exact hm j x hj
/-- It lies there. -/
theorem boxT_held {w w6 : World} {M N sb so g1 g2 g3 g4 : Nat} {v y : Int} {u S X : ET} (h : LamT v u S X) (hu : HeldE w6 N u) (hN : N ≤ w6.heap.size) (hNM : N ≤ M) (hka : u.ka = some ⟨sb, so, none⟩) (hva : ∃ vb vo, u.va = some ⟨vb, vo, none⟩ ∧ vb ≠ sb ∧ vb < M ∧ w.cell? ⟨vb, vo, none⟩ = some (.int .i64 v)) (hD : Held w M u.d) (hv : VarOk v)
    (hg1 : g1 < M) (hg2 : g2 < M) (hg3 : g3 < M) (hg4 : g4 < M)
    (h1 : w.heap[g1]? = some (.cells (varE y).cells.toArray 31 (0, 0))) (h2 : w.heap[g2]? = some (.cells ((varE y).cells ++ (primE 36 g1 [varE y]).cells).toArray 31 (0, 0))) (h3 : w.heap[g3]? = some (.cells (varE v).cells.toArray 31 (0, 0)))
    (h4 : w.heap[g4]? = some (.cells ((primE 35 g3 [varE v]).cells ++ (primE 37 g2 [varE y, primE 36 g1 [varE y]]).cells).toArray 31 (0, 0))) (hl : ∀ j x, (letE y g4 [primE 35 g3 [varE v], primE 37 g2 [varE y, primE 36 g1 [varE y]]]).cells[j]? = some x → w.cell? ⟨sb, so + j, none⟩ = some x) (hsb : sb < M) :
    HeldE w M (boxT u v y g1 g2 g3 g4) := by
  have hml : 2 ≤ maxLen := by decide
  have v1 : LiesE w M (varE y) g1 0 := varE_lies hg1 (cells_at8 h1 0 _ fun j x hj => by rw [Nat.zero_add]; exact hj)
  have v3 : LiesE w M (varE v) g3 0 := varE_lies hg3 (cells_at8 h3 0 _ fun j x hj => by rw [Nat.zero_add]; exact hj)
  have v2 : LiesE w M (varE y) g2 0 := varE_lies hg2 (cells_at8 h2 0 _ fun j x hj => by rw [Nat.zero_add, List.getElem?_append_left (List.getElem?_eq_some_iff.1 hj).1]; exact hj)
  have hR : ∀ {m n : List Value} (hm : m.length = 13) (j : Nat) (x : Value), n[j]? = some x → (m ++ n)[13 + j]? = some x := fun hm j x hj => by rw [List.getElem?_append_right (by omega), hm, show 13 + j - 13 = j by omega]; exact hj
  have p36 : LiesE w M (primE 36 g1 [varE y]) g2 13 := liesE_held.2 ⟨hg2, cells_at8 h2 13 _ fun j x hj => hR rfl j x hj, kidsE_held rfl ⟨rfl, rfl, rfl⟩ ⟨rfl, rfl, rfl⟩ hg1 (by show 1 ≤ maxLen; omega) (by rw [liesER_cons]; exact ⟨v1, by rw [liesER_nil]; trivial⟩)⟩
  have p35 : LiesE w M (primE 35 g3 [varE v]) g4 0 := liesE_held.2 ⟨hg4, cells_at8 h4 0 _ fun j x hj => by rw [Nat.zero_add, List.getElem?_append_left (List.getElem?_eq_some_iff.1 hj).1]; exact hj, kidsE_held rfl ⟨rfl, rfl, rfl⟩ ⟨rfl, rfl, rfl⟩ hg3 (by show 1 ≤ maxLen; omega) (by rw [liesER_cons]; exact ⟨v3, by rw [liesER_nil]; trivial⟩)⟩
  have p37 : LiesE w M (primE 37 g2 [varE y, primE 36 g1 [varE y]]) g4 13 := liesE_held.2 ⟨hg4, cells_at8 h4 13 _ fun j x hj => hR rfl j x hj, kidsE_held rfl ⟨rfl, rfl, rfl⟩ ⟨rfl, rfl, rfl⟩ hg2 (by show 2 ≤ maxLen; omega) (by rw [liesER_cons, liesER_cons]; exact ⟨v2, p36, by rw [liesER_nil]; trivial⟩)⟩
  have lt : LiesE w M (letE y g4 [primE 35 g3 [varE v], primE 37 g2 [varE y, primE 36 g1 [varE y]]]) sb so := liesE_held.2 ⟨hsb, hl, kidsE_held rfl ⟨rfl, rfl, rfl⟩ ⟨rfl, rfl, rfl⟩ hg4 (by show 2 ≤ maxLen; omega) (by rw [liesER_cons, liesER_cons]; exact ⟨p35, p37, by rw [liesER_nil]; trivial⟩)⟩
  obtain ⟨vb, vo, e1, e2, e3, e4⟩ := hva
  have hvs := h.t.2.2.1
  have hsp := hu.1.2.1
  have hkp := hu.2.1
  rw [h.t.2.2.2.2.2.1] at hkp
  rw [hvs] at hsp
  unfold VarOk at hv
  refine ⟨⟨hD, ?_⟩, ?_, ?_⟩
  · show IntsAt w M u.va u.vc u.vs
    rw [hvs, e1]
    refine ⟨⟨hsp.1, hsp.2.1, fun _ => ⟨rfl, e3⟩, fun e => by cases e⟩, fun i hi => ?_⟩
    obtain rfl : i = 0 := by simpa using hi
    exact ⟨e4, by simp; omega⟩
  · show Spot M u.ka 1 u.kc
    rw [hka]
    exact ⟨hkp.1, hkp.2.1, fun _ => ⟨rfl, hsb⟩, fun e => by cases e⟩
  · show LiesER w M [_] (blk u.ka) (ofs u.ka)
    rw [hka, liesER_cons]
    exact ⟨lt, by rw [liesER_nil]; trivial⟩
end
end Go.Proofs.YthdhdmmlmbkalaaGreatDoor
namespace Go.Proofs.YthdhdmmlmbkalaaGreatDoor
section
open Go.RowKit Go.Maps

theorem varE_kids (v : Int) : (varE v).kids = [] := rfl
theorem primE_kids (p : Int) (g : Nat) (l : List ET) : (primE p g l).kids = l := rfl
theorem letE_kids (y : Int) (g : Nat) (l : List ET) : (letE y g l).kids = l := rfl
theorem boxT_kids (u : ET) (v y : Int) (g1 g2 g3 g4 : Nat) : (boxT u v y g1 g2 g3 g4).kids = [letE y g4 [primE 35 g3 [varE v], primE 37 g2 [varE y, primE 36 g1 [varE y]]]] := rfl
section
variable {v : Int} {u S X : ET} (h : LamT v u S X) (y : Int) (g1 g2 g3 g4 : Nat)
include h
theorem LamT.boxOnes (hv : VarOk v) (hy : VarOk y) (b o : Nat) : ∀ x ∈ seqE (boxT u v y g1 g2 g3 g4) 1 b o, GoodOne x.e := by
  obtain ⟨t0, t1, t2, t3, t4, t5, t6⟩ := h.t
  have hz := zD_zero
  intro x hx
  simp only [seqE_eq, seqER_cons, seqER_nil, varE_kids, primE_kids, letE_kids, boxT_kids, List.append_nil, List.mem_cons, List.mem_append, List.not_mem_nil, or_false] at hx
  rcases hx with rfl | rfl | (rfl | rfl) | rfl | rfl | rfl | rfl
  · exact ⟨t6, t3, .inr (.inr (.inr (.inr ⟨t0, t1, (by show ∀ z ∈ u.vs, VarOk z; rw [t2]; simpa using hv), t4, rfl⟩)))⟩
  · exact ⟨hz, rfl, .inr (.inr (.inl ⟨rfl, hy, rfl, rfl, rfl⟩))⟩
  · exact ⟨hz, rfl, .inr (.inr (.inr (.inl ⟨rfl, rfl, rfl, .inl ⟨rfl, rfl⟩⟩)))⟩
  · exact ⟨hz, rfl, .inl ⟨rfl, hv, rfl, rfl, rfl⟩⟩
  · exact ⟨hz, rfl, .inr (.inr (.inr (.inl ⟨rfl, rfl, rfl, .inr (.inr ⟨rfl, rfl⟩)⟩)))⟩
  · exact ⟨hz, rfl, .inl ⟨rfl, hy, rfl, rfl, rfl⟩⟩
  · exact ⟨hz, rfl, .inr (.inr (.inr (.inl ⟨rfl, rfl, rfl, .inr (.inl ⟨rfl, rfl⟩)⟩)))⟩
  · exact ⟨hz, rfl, .inl ⟨rfl, hy, rfl, rfl, rfl⟩⟩
theorem LamT.boxBinds (b o : Nat) : ((seqE (boxT u v y g1 g2 g3 g4) 1 b o).flatMap fun x => bindE x.e) = [v, y] := by
  obtain ⟨t0, t1, t2, t3, t4, t5, t6⟩ := h.t
  simp only [seqE_eq, seqER_cons, seqER_nil, varE_kids, primE_kids, letE_kids, boxT_kids, List.append_nil, List.flatMap_cons, List.flatMap_nil, List.cons_append, List.nil_append, List.flatMap_append]
  have e0 : bindE (boxT u v y g1 g2 g3 g4) = [v] := by
    show (if u.k = 5 then u.vs else if u.k = 8 then [u.v] else []) = [v]
    rw [if_pos t0, t2]
  rw [e0]
  rfl
theorem LamT.boxCells : (boxT u v y g1 g2 g3 g4).cells = u.cells := by
  have e := h.t.2.2.2.2.2.1
  cases u
  simp only [ET.kids] at e
  subst e
  rfl
theorem LamT.boxSize : (boxT u v y g1 g2 g3 g4).size = 8 := by
  simp [ET.size_eq, boxT_kids, varE_kids, primE_kids, letE_kids, sizesE]
end
theorem zero_moved {w w' : World} {M M' : Nat} {d : LT} (h : Held w M d) (hz : ZeroD d) (hs : w.heap.size ≤ w'.heap.size) : Held w' M' d := by
  obtain ⟨⟨h1, h2, h3⟩, h4, h5, h6, h7⟩ := h
  obtain ⟨z0, z1, z2, z3, z4, z5, z6⟩ := hz
  refine ⟨⟨h1.keepP hs (fun hp => absurd hp (by omega)), fun hp => absurd hp (by omega), h3⟩, ⟨h4.1, h4.2.1, fun hp => absurd hp (by rw [z5]; exact Nat.lt_irrefl _), h4.2.2.2⟩, ⟨h5.1, h5.2.1, fun hp => absurd hp (by rw [z6]; exact Nat.lt_irrefl _), h5.2.2.2⟩, ?_, ?_⟩
  · rw [z5]; simp [LiesR]
  · rw [z6]; simp [LiesR]
theorem apartE_eq {g lo : Nat} {e : ET} : ApartE g lo e ↔ (0 < e.vs.length → blk e.va ≠ g) ∧ ∃ q, (0 < e.kids.length → lo ≤ q ∧ e.ka = some ⟨g, q * 13, none⟩) ∧ ApartER g q e.kids := by
  cases e
  simp only [ApartE]
  exact Iff.rfl
/-- Where the parts of a copy of the lambda lie. -/
theorem LamT.spread {v : Int} {u S X : ET} (h : LamT v u S X) {w : World} {P : Nat → Prop} {g : Nat} (hu : HeldEP w P u) (ha : ApartE g 0 u) : ∃ q q' vb vo, u.ka = some ⟨g, q * 13, none⟩ ∧ S.ka = some ⟨g, q' * 13, none⟩ ∧ q + 1 ≤ q' ∧ u.va = some ⟨vb, vo, none⟩ ∧ vb ≠ g ∧ P g ∧ P vb ∧ (∀ j x, S.cells[j]? = some x → w.cell? ⟨g, q * 13 + j, none⟩ = some x) ∧ (∀ j x, X.cells[j]? = some x → w.cell? ⟨g, q' * 13 + j, none⟩ = some x) ∧ w.cell? ⟨vb, vo, none⟩ = some (.int .i64 v) := by
  obtain ⟨⟨t0, t1, t2, t3, t4, t5, t6⟩, ⟨s0, s1, s2, s3, s4, s5, s6⟩, x0, x1, x2, x3, x4, x5, x6⟩ := h
  obtain ⟨a1, q, a2, a3⟩ := apartE_eq.1 ha
  rw [t5] at a2 a3
  obtain ⟨-, hka⟩ := a2 Nat.one_pos
  simp only [ApartER] at a3
  obtain ⟨b1, q', b2, b3⟩ := apartE_eq.1 a3.1
  rw [s5] at b2
  obtain ⟨hqq, hkb⟩ := b2 Nat.one_pos
  obtain ⟨⟨hD, hV⟩, hsp, hR⟩ := hu
  rw [t5, hka] at hR
  simp only [LiesEPR, blk, ofs] at hR
  obtain ⟨pg, hcS, ⟨-, -⟩, hspS, hRS⟩ := liesEP_held.1 hR.1
  rw [s5, hkb] at hRS
  simp only [LiesEPR, blk, ofs] at hRS
  obtain ⟨-, hcX, -⟩ := liesEP_held.1 hRS.1
  rw [t2] at hV a1
  have hv1 := hV.1.2.2.1 Nat.one_pos
  have hv2 := (hV.2 0 Nat.one_pos).1
  obtain ⟨vb, vo, hva⟩ : ∃ vb vo, u.va = some ⟨vb, vo, none⟩ := ⟨_, _, hv1.1⟩
  rw [hva] at hv1 hv2 a1
  exact ⟨q, q', vb, vo, hka, hkb, hqq, hva, a1 Nat.one_pos, pg, hv1.2, hcS, hcX, hv2⟩
end
end Go.Proofs.YthdhdmmlmbkalaaGreatDoor
namespace Go.Proofs.YthdhdmmlmbkalaaGreatDoor
section
open Go.RowKit Go.Maps

theorem free_lam (v : Int) (hv : VarOk v) (T S X : ET) (h : LamT v T S X) (w : World) (M : Nat) (hM : M ≤ w.heap.size) (hH : HeldE w M T) :
    Calls Tryz.prog 80 #[.agg #[.int .i64 T.k, .int .i64 T.d.k, .bool T.d.g, .slice T.d.la T.d.ln T.d.lc, .bool T.d.bb, .string T.d.s, .slice T.d.ia T.d.items.length T.d.ic, .slice T.d.ta T.d.tail.length T.d.tc, .int .i64 T.v, .slice T.va T.vs.length T.vc, .bool T.rs, .int .i64 T.p, .slice T.ka T.kids.length T.kc]] w fun e w' => e = .returned (.slice none 0 0) ∧ Below w.heap.size w w' := by
  have hp := h.place w.heap.size 0
  have hsz := h.size
  obtain ⟨⟨t0, t1, t2, t3, t4, t5, t6⟩, ⟨s0, s1, s2, s3, s4, s5, s6⟩, x0, x1, x2, x3, x4, x5, x6⟩ := h
  unfold VarOk at hv
  refine callsIn_wide.1 (free_in T (by omega) (by omega) (by omega) w (hH.upM hM) (fun x hx => ?_) (fun x hx => ?_))
  · rw [hp] at hx
    simp only [List.mem_cons, List.not_mem_nil, or_false] at hx
    rcases hx with rfl | rfl | rfl
    · show _ ≤ T.v ∧ T.v ≤ _; omega
    · show _ ≤ S.v ∧ S.v ≤ _; omega
    · show _ ≤ X.v ∧ X.v ≤ _; omega
  · rw [hp] at hx
    simp only [List.mem_cons, List.not_mem_nil, or_false] at hx
    rcases hx with rfl | rfl | rfl
    · intro hk; exact absurd hk (by show ¬ (T.k = 2 ∨ T.k = 3); omega)
    · intro _; show updE (fun _ => 0) v 1 S.v ≠ 0; rw [s1]; simp [updE]
    · intro _; show updE (fun _ => 0) v 1 X.v ≠ 0; rw [x1]; simp [updE]
theorem boxesOf_lam (v : Int) (hv : VarOk v) (T S X : ET) (h : LamT v T S X) (b M : Nat) (w : World) (hM : M ≤ w.heap.size) (hL : LiesE w M T b 0) :
    Calls Tryz.prog 34 #[.pointer (some ⟨b, 0, none⟩)] w fun e w' => ∃ B, w.heap.size ≤ B ∧ B < w'.heap.size ∧ e = .returned (.map (some B)) ∧ BoxMap w' B v (v + 1) ∧ Below w.heap.size w w' := by
  have hsz := h.size
  have hseq := h.seq b 0
  have hkeys := h.keys b 0
  have hsets := h.sets b 0
  have htop := h.top hv b 0
  obtain ⟨D, hD, d1, d2, d3⟩ := h.boxes hv (v + 1) b 0
  have hr : ∀ x ∈ seqE T 1 b 0, InR x.e.v := by
    intro x hx
    rw [hseq] at hx
    obtain ⟨⟨t0, t1, -⟩, ⟨s0, s1, -⟩, x0, x1, -⟩ := h
    unfold VarOk at hv
    unfold InR
    simp only [List.mem_cons, List.not_mem_nil, or_false] at hx
    rcases hx with rfl | rfl | rfl
    · show _ ≤ T.v ∧ T.v ≤ _; omega
    · show _ ≤ S.v ∧ S.v ≤ _; omega
    · show _ ≤ X.v ∧ X.v ≤ _; omega
  have hv' := hv
  unfold VarOk at hv'
  have hB := boxesOf_in M b 0 T.size [v] (v + 1) T (by omega) w hM hL hr (by omega) (by rw [hsz.1, hkeys]; simp)
    (by
      have hs := settable_in M b 0 T (by omega) w hM hL (fun x hx => hr x hx) (fun W hb => free_lam v hv T S X h W M (by have := hb.size; omega) ((liesE_held.1 hL).2.2.keep hb.size fun q hq => hb.block q (by omega)))
      rw [hsz.1, hsets] at hs
      rw [hsz.1]
      exact callsIn_wide.1 hs)
    (fun W hb => by
      have ha := above_in M b 0 T (by omega) W (by have := hb.size; omega) (hL.keep hb.size (fun q hq => hb.block q (by omega)) _ _ _) hr (by rw [hsz.1, htop]; omega)
      rw [hsz.1, htop] at ha
      exact callsIn_wide.1 ha)
  rw [hsz.1, hD] at hB
  exact (callsIn_wide.1 hB).mono fun e w' ⟨B, h1, h2, h3, h4, h5⟩ => ⟨B, h1, h2, h3, ⟨_, D, h4, d1, d2, d3⟩, h5⟩
end
end Go.Proofs.YthdhdmmlmbkalaaGreatDoor
namespace Go.Proofs.YthdhdmmlmbkalaaGreatDoor
section
open Go.RowKit Go.Maps

set_option maxRecDepth 100000 in
set_option maxHeartbeats 6400000 in
theorem boxes_lam (v : Int) (hv : VarOk v) (hv1 : v + 1 ≤ 1000000) (T S X : ET) (h : LamT v T S X) (hT : TameE T) (w : World) (hH : HeldE w w.heap.size T) :
    Calls Tryz.prog 19 #[.agg #[.int .i64 T.k, .int .i64 T.d.k, .bool T.d.g, .slice T.d.la T.d.ln T.d.lc, .bool T.d.bb, .string T.d.s, .slice T.d.ia T.d.items.length T.d.ic, .slice T.d.ta T.d.tail.length T.d.tc, .int .i64 T.v, .slice T.va T.vs.length T.vc, .bool T.rs, .int .i64 T.p, .slice T.ka T.kids.length T.kc]] w fun e w' => ∃ (u S' X' B : ET) (g1 g2 g3 g4 : Nat), e = .returned (.tuple #[.agg #[.int .i64 B.k, .int .i64 B.d.k, .bool B.d.g, .slice B.d.la B.d.ln B.d.lc, .bool B.d.bb, .string B.d.s, .slice B.d.ia B.d.items.length B.d.ic, .slice B.d.ta B.d.tail.length B.d.tc, .int .i64 B.v, .slice B.va B.vs.length B.vc, .bool B.rs, .int .i64 B.p, .slice B.ka B.kids.length B.kc], .int .i64 0]) ∧ B = boxT u v (v + 1) g1 g2 g3 g4 ∧ LamT v u S' X' ∧ HeldE w' w'.heap.size B ∧ Below w.heap.size w w' := by
  obtain ⟨w2, hw2, a0, a1, hz, hbel⟩ := two2 w (Obj.cells #[.int .i64 T.k, .int .i64 T.d.k, .bool T.d.g, .slice T.d.la T.d.ln T.d.lc, .bool T.d.bb, .string T.d.s, .slice T.d.ia T.d.items.length T.d.ic, .slice T.d.ta T.d.tail.length T.d.tc, .int .i64 T.v, .slice T.va T.vs.length T.vc, .bool T.rs, .int .i64 T.p, .slice T.ka T.kids.length T.kc] 31) (Obj.cells #[.int .i64 0, .int .i64 0, .bool false, .slice none 0 0, .bool false, .string ⟨#[]⟩, .slice none 0 0, .slice none 0 0, .int .i64 0, .slice none 0 0, .bool false, .int .i64 0, .slice none 0 0] 31)
  have hH2 : HeldE w2 w2.heap.size T := (hH.keep hbel.size fun q hq => hbel.block q hq).upM (by omega)
  have hGood := goodE_one T (by rw [h.size.1]; omega) w2 hH2 (h.ones hv _ _) (by rw [h.binds]; simp) (by rw [h.binds]; simp)
  have HH := Lib.hid (And.intro hw2 (And.intro a0 (And.intro a1 (And.intro hz (And.intro hbel (And.intro hH (And.intro h (And.intro hT (And.intro hH2 hGood)))))))))
  clear hw2 a0 a1 hz hbel hH h hT hH2 hGood
  go_enter Tryz.func19, Tryz.ntmps19
  go_wp2_with fail
  rw [← HH.out.1]
  refine HH.out.2.2.2.2.2.2.2.2.2.mono ?_
  rintro e w3 ⟨rfl, b3⟩
  have hz2 := HH.out.2.2.2.1
  have z3 := b3.size
  have hH3 : HeldE w3 w2.heap.size T := HH.out.2.2.2.2.2.2.2.2.1.keep b3.size fun q hq => b3.block q hq
  have hcop := copiedE_apart w2.heap.size T (by rw [HH.out.2.2.2.2.2.2.1.size.1]; omega) (by rw [HH.out.2.2.2.2.2.2.1.size.2.1]; omega) HH.out.2.2.2.2.2.2.2.1 w3 z3 hH3
  have HC := Lib.hid (And.intro hcop (And.intro b3 hH3))
  have x0 := (b3.block w.heap.size (by omega)).trans HH.out.2.1
  have d0 : w3.cell? ⟨w.heap.size, 0, none⟩ = some (.int .i64 T.k) := by rw [Lib.cell_of_heap x0]; rfl
  have d1 : w3.cell? ⟨w.heap.size, 1, none⟩ = some (.int .i64 T.d.k) := by rw [Lib.cell_of_heap x0]; rfl
  have d2 : w3.cell? ⟨w.heap.size, 2, none⟩ = some (.bool T.d.g) := by rw [Lib.cell_of_heap x0]; rfl
  have d3 : w3.cell? ⟨w.heap.size, 3, none⟩ = some (.slice T.d.la T.d.ln T.d.lc) := by rw [Lib.cell_of_heap x0]; rfl
  have d4 : w3.cell? ⟨w.heap.size, 4, none⟩ = some (.bool T.d.bb) := by rw [Lib.cell_of_heap x0]; rfl
  have d5 : w3.cell? ⟨w.heap.size, 5, none⟩ = some (.string T.d.s) := by rw [Lib.cell_of_heap x0]; rfl
  have d6 : w3.cell? ⟨w.heap.size, 6, none⟩ = some (.slice T.d.ia T.d.items.length T.d.ic) := by rw [Lib.cell_of_heap x0]; rfl
  have d7 : w3.cell? ⟨w.heap.size, 7, none⟩ = some (.slice T.d.ta T.d.tail.length T.d.tc) := by rw [Lib.cell_of_heap x0]; rfl
  have d8 : w3.cell? ⟨w.heap.size, 8, none⟩ = some (.int .i64 T.v) := by rw [Lib.cell_of_heap x0]; rfl
  have d9 : w3.cell? ⟨w.heap.size, 9, none⟩ = some (.slice T.va T.vs.length T.vc) := by rw [Lib.cell_of_heap x0]; rfl
  have d10 : w3.cell? ⟨w.heap.size, 10, none⟩ = some (.bool T.rs) := by rw [Lib.cell_of_heap x0]; rfl
  have d11 : w3.cell? ⟨w.heap.size, 11, none⟩ = some (.int .i64 T.p) := by rw [Lib.cell_of_heap x0]; rfl
  have d12 : w3.cell? ⟨w.heap.size, 12, none⟩ = some (.slice T.ka T.kids.length T.kc) := by rw [Lib.cell_of_heap x0]; rfl
  clear hcop b3 hH3 x0
  go_wp2_with fail
  refine HC.out.1.mono ?_
  rintro e w4 ⟨u, g, rfl, hu, hut, hus, b4, hap⟩
  have z4 := b4.size
  obtain ⟨O, hO⟩ : ∃ O, w4.heap.size = O := ⟨_, rfl⟩
  obtain ⟨w5, hw5⟩ : ∃ w5, w4.alloc (Obj.cells #[.int .i64 u.k, .int .i64 u.d.k, .bool u.d.g, .slice u.d.la u.d.ln u.d.lc, .bool u.d.bb, .string u.d.s, .slice u.d.ia u.d.items.length u.d.ic, .slice u.d.ta u.d.tail.length u.d.tc, .int .i64 u.v, .slice u.va u.vs.length u.vc, .bool u.rs, .int .i64 u.p, .slice u.ka u.kids.length u.kc] 31) = w5 := ⟨_, rfl⟩
  have HD := Lib.hid (And.intro hu (And.intro hus (And.intro b4 hap)))
  clear hu hus b4 hap hut d0 d1 d2 d3 d4 d5 d6 d7 d8 d9 d10 d11 d12
  go_wp2_with fail
  have hz5 : w5.heap.size = O + 1 := by rw [← hw5, World.size_alloc, hO]
  have b5 : Below w4.heap.size w4 w5 := by rw [← hw5]; exact (Below.refl _ w4).alloc (Nat.le_refl _) _
  have c5 : w5.heap[O]? = some (Obj.cells #[.int .i64 u.k, .int .i64 u.d.k, .bool u.d.g, .slice u.d.la u.d.ln u.d.lc, .bool u.d.bb, .string u.d.s, .slice u.d.ia u.d.items.length u.d.ic, .slice u.d.ta u.d.tail.length u.d.tc, .int .i64 u.v, .slice u.va u.vs.length u.vc, .bool u.rs, .int .i64 u.p, .slice u.ka u.kids.length u.kc] 31) := by rw [← hw5, ← hO]; exact World.alloc_heap_new _ _
  have hL5 : LiesE w5 (w.heap.size + 1) T w.heap.size 0 := HH.out.2.2.2.2.2.1.boxed (Nat.le_refl _) (Nat.le_refl _) (HH.out.2.2.2.2.1.trans ((HC.out.2.1.mono (by omega)).trans ((HD.out.2.2.1.mono (by omega)).trans (b5.mono (by omega))))) ((b5.block _ (by omega)).trans ((HD.out.2.2.1.block _ (by omega)).trans ((HC.out.2.1.block _ (by omega)).trans HH.out.2.1)))
  refine (boxesOf_lam v hv T S X HH.out.2.2.2.2.2.2.1 w.heap.size (w.heap.size + 1) w5 (by omega) hL5).mono ?_
  rintro e w6 ⟨B, hBa, hBb, rfl, hBM, b6⟩
  have z6 := b6.size
  have hu6 : HeldEP w6 (Fresh w6 w3.heap.size) u := HD.out.1.keep (by omega) fun k hk => by
    have hkl := hk.lt
    have e := (b6.block k (by omega)).trans (b5.block k hkl)
    exact ⟨hk.same e, e⟩
  have hu6N : HeldEP w6 (fun k => Fresh w6 w3.heap.size k ∧ k < O) u := HD.out.1.keep (by omega) fun k hk => by
    have hkl := hk.lt
    have e := (b6.block k (by omega)).trans (b5.block k hkl)
    exact ⟨⟨hk.same e, by omega⟩, e⟩
  obtain ⟨S', X', hLam⟩ := HH.out.2.2.2.2.2.2.1.copy HD.out.2.1 HH.out.2.2.2.2.2.1 (hu6.held (M := w6.heap.size) fun k hk => hk.lt)
  obtain ⟨q, q', vb, vo, hka, hkb, hqq, hva, hvg, pg, pvb, hcS, hcX, hcv⟩ := hLam.spread hu6N HD.out.2.2.2
  have hO6 : w6.heap[O]? = some (Obj.cells #[.int .i64 u.k, .int .i64 u.d.k, .bool u.d.g, .slice u.d.la u.d.ln u.d.lc, .bool u.d.bb, .string u.d.s, .slice u.d.ia u.d.items.length u.d.ic, .slice u.d.ta u.d.tail.length u.d.tc, .int .i64 u.v, .slice u.va u.vs.length u.vc, .bool u.rs, .int .i64 u.p, .slice u.ka u.kids.length u.kc] 31) := (b6.block O (by omega)).trans c5
  have hop := open_lam B O 0 g (q * 13) g (q' * 13) vb vo v (v + 1) u S' X' w6 hBM (by unfold VarOk at hv; unfold InR; omega) ⟨hLam.t.1, hLam.t.2.1, hLam.t.2.2.2.2.2.1, hka, hLam.t.2.2.1, hva⟩ ⟨hLam.s.1, hLam.s.2.1, hLam.s.2.2.2.2.2.1, hkb⟩ ⟨hLam.x.1, hLam.x.2.1, hLam.x.2.2.2.2.2.1⟩
    (cells_at8 hO6 0 _ fun j x hj => by rw [Nat.zero_add]; exact hj) hcS (fun j => pg.1.free _) hcX (fun j => pg.1.free _) hcv ⟨by omega, by omega, by omega, by omega, hvg, hvg⟩ (fun _ => by omega)
  have HO := Lib.hid (And.intro hop (And.intro hLam (And.intro hu6N (And.intro hO6 (And.intro hBM (And.intro b6 (And.intro b5 (And.intro hcv (And.intro hka hva)))))))))
  have HP := Lib.hid (And.intro pg pvb)
  have hgl := pg.2
  have hvl := pvb.2
  have hg3 := pg.1.1
  have hv3 := pvb.1.1
  clear hop hLam hu6N hu6 hO6 hBM b6 b5 hcv hka hva pg pvb hcS hcX hkb hL5 c5
  go_wp2_with fail
  refine HO.out.1.mono ?_
  rintro e w7 ⟨rfl, g1, g2, g3, g4, l1, l2, l3, l4, k1, k2, k3, k4, hl, ht2⟩
  have z7 := ht2.size
  have hO7 : w7.heap[O]? = some (Obj.cells #[.int .i64 u.k, .int .i64 u.d.k, .bool u.d.g, .slice u.d.la u.d.ln u.d.lc, .bool u.d.bb, .string u.d.s, .slice u.d.ia u.d.items.length u.d.ic, .slice u.d.ta u.d.tail.length u.d.tc, .int .i64 u.v, .slice u.va u.vs.length u.vc, .bool u.rs, .int .i64 u.p, .slice u.ka u.kids.length u.kc] 31) := (ht2.block O (by omega) (by omega) (by omega)).trans HO.out.2.2.2.1
  obtain ⟨C, hC⟩ : ∃ C, boxT u v (v + 1) g1 g2 g3 g4 = C := ⟨_, rfl⟩
  have hOC : w7.heap[O]? = some (Obj.cells #[.int .i64 C.k, .int .i64 C.d.k, .bool C.d.g, .slice C.d.la C.d.ln C.d.lc, .bool C.d.bb, .string C.d.s, .slice C.d.ia C.d.items.length C.d.ic, .slice C.d.ta C.d.tail.length C.d.tc, .int .i64 C.v, .slice C.va C.vs.length C.vc, .bool C.rs, .int .i64 C.p, .slice C.ka C.kids.length C.kc] 31) := by
    have e : C.cells = u.cells := by rw [← hC]; exact HO.out.2.1.boxCells _ _ _ _ _
    show w7.heap[O]? = some (Obj.cells C.cells.toArray 31 (0, 0))
    rw [e]
    exact hO7
  have hvc7 : w7.cell? ⟨vb, vo, none⟩ = some (.int .i64 v) := (ht2.other vb vo (by omega) (fun h => hvg h.1) (fun h => hvg h.1)).trans HO.out.2.2.2.2.2.2.2.1
  have hKeep : ∀ W : World, w7.heap.size ≤ W.heap.size → (∀ k, k < w7.heap.size → k ≠ w.heap.size + 1 → W.heap[k]? = w7.heap[k]?) → HeldE W W.heap.size C := fun W hs hk => by
    rw [← hC]
    exact boxT_held (w6 := w6) (N := O) HO.out.2.1 (HO.out.2.2.1.held fun k hk => hk.2) (by omega) (by omega) HO.out.2.2.2.2.2.2.2.2.1 ⟨vb, vo, HO.out.2.2.2.2.2.2.2.2.2, hvg, by omega, (World.cell?_of_block (hk vb (by omega) (by omega))).trans hvc7⟩ (zero_moved (HO.out.2.2.1.held (M := O) fun k hk => hk.2).1.1 HO.out.2.1.t.2.2.2.2.2.2 (by omega)) hv
      (by omega) (by omega) (by omega) (by omega) ((hk g1 l1.2 (by omega)).trans k1) ((hk g2 l2.2 (by omega)).trans k2) ((hk g3 l3.2 (by omega)).trans k3) ((hk g4 l4.2 (by omega)).trans k4) (fun j x hj => (World.cell?_of_block (hk g (by omega) (by omega))).trans (hl j x hj)) (by omega)
  have hC7 := hKeep w7 (Nat.le_refl _) fun k _ _ => rfl
  have hvy : VarOk (v + 1) := by unfold VarOk at hv ⊢; omega
  have hGood := goodE_one C (by rw [← hC, HO.out.2.1.boxSize]; omega) w7 hC7 (by rw [← hC]; exact HO.out.2.1.boxOnes _ _ _ _ _ hv hvy _ _) (by rw [← hC, HO.out.2.1.boxBinds]; simp; omega) (by rw [← hC, HO.out.2.1.boxBinds]; simp)
  have x7 : w7.heap[w.heap.size + 1]? = some (Obj.cells #[.int .i64 0, .int .i64 0, .bool false, .slice none 0 0, .bool false, .string ⟨#[]⟩, .slice none 0 0, .slice none 0 0, .int .i64 0, .slice none 0 0, .bool false, .int .i64 0, .slice none 0 0] 31) := (ht2.block _ (by omega) (by omega) (by omega)).trans ((HO.out.2.2.2.2.2.1.block _ (by omega)).trans ((HO.out.2.2.2.2.2.2.1.block _ (by omega)).trans ((HD.out.2.2.1.block _ (by omega)).trans ((HC.out.2.1.block _ (by omega)).trans HH.out.2.2.1))))
  have hb7 : Below w.heap.size w w7 := HH.out.2.2.2.2.1.trans ((HC.out.2.1.mono (by omega)).trans ((HD.out.2.2.1.mono (by omega)).trans ((HO.out.2.2.2.2.2.2.1.mono (by omega)).trans ((HO.out.2.2.2.2.2.1.mono (by omega)).trans (ht2.below w.heap.size (by omega) (by omega) (by omega))))))
  have d0 : w7.cell? ⟨O, 0, none⟩ = some (.int .i64 C.k) := by rw [Lib.cell_of_heap hOC]; rfl
  have d1 : w7.cell? ⟨O, 1, none⟩ = some (.int .i64 C.d.k) := by rw [Lib.cell_of_heap hOC]; rfl
  have d2 : w7.cell? ⟨O, 2, none⟩ = some (.bool C.d.g) := by rw [Lib.cell_of_heap hOC]; rfl
  have d3 : w7.cell? ⟨O, 3, none⟩ = some (.slice C.d.la C.d.ln C.d.lc) := by rw [Lib.cell_of_heap hOC]; rfl
  have d4 : w7.cell? ⟨O, 4, none⟩ = some (.bool C.d.bb) := by rw [Lib.cell_of_heap hOC]; rfl
  have d5 : w7.cell? ⟨O, 5, none⟩ = some (.string C.d.s) := by rw [Lib.cell_of_heap hOC]; rfl
  have d6 : w7.cell? ⟨O, 6, none⟩ = some (.slice C.d.ia C.d.items.length C.d.ic) := by rw [Lib.cell_of_heap hOC]; rfl
  have d7 : w7.cell? ⟨O, 7, none⟩ = some (.slice C.d.ta C.d.tail.length C.d.tc) := by rw [Lib.cell_of_heap hOC]; rfl
  have d8 : w7.cell? ⟨O, 8, none⟩ = some (.int .i64 C.v) := by rw [Lib.cell_of_heap hOC]; rfl
  have d9 : w7.cell? ⟨O, 9, none⟩ = some (.slice C.va C.vs.length C.vc) := by rw [Lib.cell_of_heap hOC]; rfl
  have d10 : w7.cell? ⟨O, 10, none⟩ = some (.bool C.rs) := by rw [Lib.cell_of_heap hOC]; rfl
  have d11 : w7.cell? ⟨O, 11, none⟩ = some (.int .i64 C.p) := by rw [Lib.cell_of_heap hOC]; rfl
  have d12 : w7.cell? ⟨O, 12, none⟩ = some (.slice C.ka C.kids.length C.kc) := by rw [Lib.cell_of_heap hOC]; rfl
  have HE := Lib.hid (And.intro hGood (And.intro hC (And.intro hC7 (And.intro hOC (And.intro x7 (And.intro hb7 hKeep))))))
  have hLu := Lib.hid HO.out.2.1
  clear hGood hKeep hC hC7 hOC x7 hb7 hO7 hvc7 k1 k2 k3 k4 hl ht2 l1 l2 l3 l4 HO HP HD
  have hOw : w.heap.size + 1 < O := by omega
  have hO7 : O < w7.heap.size := by omega
  clear z7 hgl hvl hg3 hv3 hvg hqq z6 hBa hBb hz5 hO z4 z3 HC
  go_wp2_with fail
  refine HE.out.1.mono ?_
  rintro e w8 ⟨rfl, b8⟩
  have z8 := b8.size
  have x8 := (b8.block (w.heap.size + 1) (by omega)).trans HE.out.2.2.2.2.1
  have y8 := (b8.block O hO7).trans HE.out.2.2.2.1
  have hb8 := HE.out.2.2.2.2.2.1.trans (b8.mono (by have := HE.out.2.2.2.2.2.1.size; omega))
  clear d0 d1 d2 d3 d4 d5 d6 d7 d8 d9 d10 d11 d12
  have d0 : w8.cell? ⟨O, 0, none⟩ = some (.int .i64 C.k) := by rw [Lib.cell_of_heap y8]; rfl
  have d1 : w8.cell? ⟨O, 1, none⟩ = some (.int .i64 C.d.k) := by rw [Lib.cell_of_heap y8]; rfl
  have d2 : w8.cell? ⟨O, 2, none⟩ = some (.bool C.d.g) := by rw [Lib.cell_of_heap y8]; rfl
  have d3 : w8.cell? ⟨O, 3, none⟩ = some (.slice C.d.la C.d.ln C.d.lc) := by rw [Lib.cell_of_heap y8]; rfl
  have d4 : w8.cell? ⟨O, 4, none⟩ = some (.bool C.d.bb) := by rw [Lib.cell_of_heap y8]; rfl
  have d5 : w8.cell? ⟨O, 5, none⟩ = some (.string C.d.s) := by rw [Lib.cell_of_heap y8]; rfl
  have d6 : w8.cell? ⟨O, 6, none⟩ = some (.slice C.d.ia C.d.items.length C.d.ic) := by rw [Lib.cell_of_heap y8]; rfl
  have d7 : w8.cell? ⟨O, 7, none⟩ = some (.slice C.d.ta C.d.tail.length C.d.tc) := by rw [Lib.cell_of_heap y8]; rfl
  have d8 : w8.cell? ⟨O, 8, none⟩ = some (.int .i64 C.v) := by rw [Lib.cell_of_heap y8]; rfl
  have d9 : w8.cell? ⟨O, 9, none⟩ = some (.slice C.va C.vs.length C.vc) := by rw [Lib.cell_of_heap y8]; rfl
  have d10 : w8.cell? ⟨O, 10, none⟩ = some (.bool C.rs) := by rw [Lib.cell_of_heap y8]; rfl
  have d11 : w8.cell? ⟨O, 11, none⟩ = some (.int .i64 C.p) := by rw [Lib.cell_of_heap y8]; rfl
  have d12 : w8.cell? ⟨O, 12, none⟩ = some (.slice C.ka C.kids.length C.kc) := by rw [Lib.cell_of_heap y8]; rfl
  have r200 : w8.cell? ⟨w.heap.size + 1, 0, none⟩ = some (.int .i64 0) := by rw [Lib.cell_of_heap x8]; rfl
  have f200 : w8.frozen? ⟨w.heap.size + 1, 0, none⟩ = false := Lib.frozen_of_heap x8 _
  have r201 : w8.cell? ⟨w.heap.size + 1, 1, none⟩ = some (.int .i64 0) := by rw [Lib.cell_of_heap x8]; rfl
  have f201 : w8.frozen? ⟨w.heap.size + 1, 1, none⟩ = false := Lib.frozen_of_heap x8 _
  have r202 : w8.cell? ⟨w.heap.size + 1, 2, none⟩ = some (.bool false) := by rw [Lib.cell_of_heap x8]; rfl
  have f202 : w8.frozen? ⟨w.heap.size + 1, 2, none⟩ = false := Lib.frozen_of_heap x8 _
  have r203 : w8.cell? ⟨w.heap.size + 1, 3, none⟩ = some (.slice none 0 0) := by rw [Lib.cell_of_heap x8]; rfl
  have f203 : w8.frozen? ⟨w.heap.size + 1, 3, none⟩ = false := Lib.frozen_of_heap x8 _
  have r204 : w8.cell? ⟨w.heap.size + 1, 4, none⟩ = some (.bool false) := by rw [Lib.cell_of_heap x8]; rfl
  have f204 : w8.frozen? ⟨w.heap.size + 1, 4, none⟩ = false := Lib.frozen_of_heap x8 _
  have r205 : w8.cell? ⟨w.heap.size + 1, 5, none⟩ = some (.string ⟨#[]⟩) := by rw [Lib.cell_of_heap x8]; rfl
  have f205 : w8.frozen? ⟨w.heap.size + 1, 5, none⟩ = false := Lib.frozen_of_heap x8 _
  have r206 : w8.cell? ⟨w.heap.size + 1, 6, none⟩ = some (.slice none 0 0) := by rw [Lib.cell_of_heap x8]; rfl
  have f206 : w8.frozen? ⟨w.heap.size + 1, 6, none⟩ = false := Lib.frozen_of_heap x8 _
  have r207 : w8.cell? ⟨w.heap.size + 1, 7, none⟩ = some (.slice none 0 0) := by rw [Lib.cell_of_heap x8]; rfl
  have f207 : w8.frozen? ⟨w.heap.size + 1, 7, none⟩ = false := Lib.frozen_of_heap x8 _
  have r208 : w8.cell? ⟨w.heap.size + 1, 8, none⟩ = some (.int .i64 0) := by rw [Lib.cell_of_heap x8]; rfl
  have f208 : w8.frozen? ⟨w.heap.size + 1, 8, none⟩ = false := Lib.frozen_of_heap x8 _
  have r209 : w8.cell? ⟨w.heap.size + 1, 9, none⟩ = some (.slice none 0 0) := by rw [Lib.cell_of_heap x8]; rfl
  have f209 : w8.frozen? ⟨w.heap.size + 1, 9, none⟩ = false := Lib.frozen_of_heap x8 _
  have r210 : w8.cell? ⟨w.heap.size + 1, 10, none⟩ = some (.bool false) := by rw [Lib.cell_of_heap x8]; rfl
  have f210 : w8.frozen? ⟨w.heap.size + 1, 10, none⟩ = false := Lib.frozen_of_heap x8 _
  have r211 : w8.cell? ⟨w.heap.size + 1, 11, none⟩ = some (.int .i64 0) := by rw [Lib.cell_of_heap x8]; rfl
  have f211 : w8.frozen? ⟨w.heap.size + 1, 11, none⟩ = false := Lib.frozen_of_heap x8 _
  have r212 : w8.cell? ⟨w.heap.size + 1, 12, none⟩ = some (.slice none 0 0) := by rw [Lib.cell_of_heap x8]; rfl
  have f212 : w8.frozen? ⟨w.heap.size + 1, 12, none⟩ = false := Lib.frozen_of_heap x8 _
  have HF := Lib.hid (And.intro x8 (And.intro hb8 b8))
  clear x8 y8 hb8 b8
  go_wp2_with fail
  (try simp only [Exit.inBlock, Exit.then])
  have hb8 := HF.out.2.1
  have x8 := HF.out.1
  obtain ⟨w9, hw9⟩ : ∃ W, (((((((((((((w8.setCell ⟨w.heap.size + 1, 0, none⟩ (.int .i64 C.k)).setCell ⟨w.heap.size + 1, 1, none⟩ (.int .i64 C.d.k)).setCell ⟨w.heap.size + 1, 2, none⟩ (.bool C.d.g)).setCell ⟨w.heap.size + 1, 3, none⟩ (.slice C.d.la C.d.ln C.d.lc)).setCell ⟨w.heap.size + 1, 4, none⟩ (.bool C.d.bb)).setCell ⟨w.heap.size + 1, 5, none⟩ (.string C.d.s)).setCell ⟨w.heap.size + 1, 6, none⟩ (.slice C.d.ia C.d.items.length C.d.ic)).setCell ⟨w.heap.size + 1, 7, none⟩ (.slice C.d.ta C.d.tail.length C.d.tc)).setCell ⟨w.heap.size + 1, 8, none⟩ (.int .i64 C.v)).setCell ⟨w.heap.size + 1, 9, none⟩ (.slice C.va C.vs.length C.vc)).setCell ⟨w.heap.size + 1, 10, none⟩ (.bool C.rs)).setCell ⟨w.heap.size + 1, 11, none⟩ (.int .i64 C.p)).setCell ⟨w.heap.size + 1, 12, none⟩ (.slice C.ka C.kids.length C.kc)) = W := ⟨_, rfl⟩
  have y9 : w9.heap[w.heap.size + 1]? = some (Obj.cells #[.int .i64 C.k, .int .i64 C.d.k, .bool C.d.g, .slice C.d.la C.d.ln C.d.lc, .bool C.d.bb, .string C.d.s, .slice C.d.ia C.d.items.length C.d.ic, .slice C.d.ta C.d.tail.length C.d.tc, .int .i64 C.v, .slice C.va C.vs.length C.vc, .bool C.rs, .int .i64 C.p, .slice C.ka C.kids.length C.kc] 31) := by rw [← hw9]; simp [World.setCell, Array.getElem?_modify, x8]
  have hk9 : ∀ k, k ≠ w.heap.size + 1 → w9.heap[k]? = w8.heap[k]? := fun k hk => by rw [← hw9]; simp [World.setCell, Array.getElem?_modify, Ne.symm hk]
  have z9 : w9.heap.size = w8.heap.size := by rw [← hw9]; simp [World.setCell]
  have hb9 : Below w.heap.size w w9 := by
    rw [← hw9]
    exact (((((((((((((hb8.setCell (p := ⟨w.heap.size + 1, 0, none⟩) (Nat.le_succ _) _).setCell (p := ⟨w.heap.size + 1, 1, none⟩) (Nat.le_succ _) _).setCell (p := ⟨w.heap.size + 1, 2, none⟩) (Nat.le_succ _) _).setCell (p := ⟨w.heap.size + 1, 3, none⟩) (Nat.le_succ _) _).setCell (p := ⟨w.heap.size + 1, 4, none⟩) (Nat.le_succ _) _).setCell (p := ⟨w.heap.size + 1, 5, none⟩) (Nat.le_succ _) _).setCell (p := ⟨w.heap.size + 1, 6, none⟩) (Nat.le_succ _) _).setCell (p := ⟨w.heap.size + 1, 7, none⟩) (Nat.le_succ _) _).setCell (p := ⟨w.heap.size + 1, 8, none⟩) (Nat.le_succ _) _).setCell (p := ⟨w.heap.size + 1, 9, none⟩) (Nat.le_succ _) _).setCell (p := ⟨w.heap.size + 1, 10, none⟩) (Nat.le_succ _) _).setCell (p := ⟨w.heap.size + 1, 11, none⟩) (Nat.le_succ _) _).setCell (p := ⟨w.heap.size + 1, 12, none⟩) (Nat.le_succ _) _)
  have hb8' := HF.out.2.2
  refine bodyPost_ret (v := .tuple #[.agg #[.int .i64 C.k, .int .i64 C.d.k, .bool C.d.g, .slice C.d.la C.d.ln C.d.lc, .bool C.d.bb, .string C.d.s, .slice C.d.ia C.d.items.length C.d.ic, .slice C.d.ta C.d.tail.length C.d.tc, .int .i64 C.v, .slice C.va C.vs.length C.vc, .bool C.rs, .int .i64 C.p, .slice C.ka C.kids.length C.kc], .int .i64 0]) (results_eb rfl rfl rfl (by rw [hw9, Lib.cell_of_heap y9]; rfl) (by rw [hw9, Lib.cell_of_heap y9]; rfl) (by rw [hw9, Lib.cell_of_heap y9]; rfl) (by rw [hw9, Lib.cell_of_heap y9]; rfl) (by rw [hw9, Lib.cell_of_heap y9]; rfl) (by rw [hw9, Lib.cell_of_heap y9]; rfl) (by rw [hw9, Lib.cell_of_heap y9]; rfl) (by rw [hw9, Lib.cell_of_heap y9]; rfl) (by rw [hw9, Lib.cell_of_heap y9]; rfl) (by rw [hw9, Lib.cell_of_heap y9]; rfl) (by rw [hw9, Lib.cell_of_heap y9]; rfl) (by rw [hw9, Lib.cell_of_heap y9]; rfl) (by rw [hw9, Lib.cell_of_heap y9]; rfl)) rfl ?_
  (try rw [hw9])
  exact ⟨u, S', X', C, g1, g2, g3, g4, rfl, HE.out.2.1.symm, hLu.out, HE.out.2.2.2.2.2.2 w9 (by omega) (fun k hk hk1 => (hk9 k hk1).trans (hb8'.block k hk)), hb9⟩
end
end Go.Proofs.YthdhdmmlmbkalaaGreatDoor
namespace Go.Proofs.YthdhdmmlmbkalaaGreatDoor
section
open Go.RowKit

def renB : Go.Shelf.Ren := { f := fun n => if n = 166 then 55 else if n = 167 then 95 else if n = 169 then 31 else if n = 240 then 78 else if n = 276 then 100 else 0, t := fun n => if n = 0 then 0 else if n = 3 then 3 else if n = 4 then 4 else if n = 5 then 5 else if n = 9 then 9 else if n = 20 then 20 else if n = 37 then 59 else if n = 70 then 58 else if n = 72 then 61 else if n = 75 then 89 else if n = 80 then 65 else if n = 127 then 94 else if n = 164 then 138 else 0, g := fun _ => 0 }
theorem lays166 : Go.Proofs.Lays.n166 Tryz.prog renB := by constructor <;> intros <;> kernel_rfl
theorem lays169 : Go.Proofs.Lays.n169 Tryz.prog renB := by constructor <;> intros <;> kernel_rfl
theorem layX72 : Go.Proofs.Builder.X72 Tryz.prog renB := by constructor <;> kernel_rfl
theorem layExtra : Go.Proofs.Builder.Extra Tryz.prog renB := { toX72 := layX72, t5 := by kernel_rfl, a5 := fun _ => by kernel_rfl, z5 := fun _ => by kernel_rfl, v5 := fun _ => by kernel_rfl, infoByte := by kernel_rfl, cellsByte := by kernel_rfl, sizeByte := by kernel_rfl, neB5 := by decide }

/-- A builder in block b, from base on, holds these bytes. -/
def Bl (base b : Nat) (l : List UInt8) (w : World) : Prop := Lib.IsBuilderF 61 5 base b (Lib.byteCells l) w
/-- What a writer leaves: the bytes; what lay below base; whatever is neither the builder's block nor a row of bytes. -/
def Wrote (base b : Nat) (l : List UInt8) (w w' : World) : Prop := Bl base b l w' ∧ Below base w w' ∧ Lib.OthersKept 5 (some b) w w'

theorem byteCells_append (l m : List UInt8) : Lib.byteCells (l ++ m) = Lib.byteCells l ++ Lib.byteCells m := by simp [Lib.byteCells]
theorem byteCells_length (l : List UInt8) : (Lib.byteCells l).length = l.length := by simp [Lib.byteCells]

theorem putText (base b : Nat) (l : List UInt8) (s : ByteArray) (w : World) (h : Bl base b l w) (hl : l.length + s.size < 100000000000000) (hb : base ≤ w.heap.size) :
    Calls Tryz.prog 55 #[.pointer (some ⟨b, 0, none⟩), .string s] w fun e w' => e = .returned (.tuple #[.int .i64 s.size, .nilIface]) ∧ Wrote base b (l ++ s.data.toList) w w' := by
  refine (Go.Proofs.Any.Builder_WriteString_k lays166 layExtra base b (Lib.byteCells l) s w h (by rw [byteCells_length]; omega) hb).mono ?_
  rintro e w' ⟨he, h1, h2, h3⟩
  refine ⟨he, ?_, h2, h3⟩
  unfold Bl
  rw [byteCells_append]
  exact .inr h1
theorem built (base b : Nat) (l : List UInt8) (w : World) (h : Bl base b l w) (hb : base ≤ w.heap.size) :
    Calls Tryz.prog 31 #[.pointer (some ⟨b, 0, none⟩)] w fun e w' => e = .returned (.string ⟨l.toArray⟩) ∧ Wrote base b l w w' :=
  (Go.Proofs.Any.Builder_String_any_k lays169 layExtra base b l w h hb).mono fun _ _ ⟨he, h1, h2, h3⟩ => ⟨he, h1, h2, h3⟩
theorem Bl.fresh (w : World) : Bl w.heap.size w.heap.size [] (w.alloc (.cells #[.pointer none, .slice none 0 0] 61)) := Lib.IsBuilderF.of (Lib.fresh_isBuilder _ _ w)
end
end Go.Proofs.YthdhdmmlmbkalaaGreatDoor
namespace Go.Proofs.YthdhdmmlmbkalaaGreatDoor
section
open Go.RowKit

def renI : Go.Shelf.Ren := { f := fun n => if n = 129 then 133 else if n = 171 then 58 else if n = 243 then 79 else if n = 246 then 101 else if n = 283 then 117 else if n = 284 then 118 else if n = 285 then 119 else if n = 286 then 120 else if n = 317 then 132 else if n = 318 then 134 else if n = 319 then 135 else if n = 320 then 136 else if n = 337 then 153 else if n = 338 then 154 else 0, t := fun n => if n = 0 then 0 else if n = 2 then 2 else if n = 3 then 3 else if n = 4 then 4 else if n = 5 then 5 else if n = 9 then 9 else if n = 20 then 20 else if n = 37 then 59 else if n = 46 then 170 else if n = 51 then 149 else if n = 53 then 156 else if n = 171 then 155 else if n = 173 then 159 else if n = 212 then 172 else if n = 213 then 173 else if n = 232 then 205 else if n = 233 then 206 else 0, g := fun n => if n = 17 then 1 else if n = 18 then 2 else if n = 19 then 3 else 0 }
theorem lays171 : Go.Proofs.Lays.n171 Tryz.prog renI := by constructor <;> intros <;> kernel_rfl

theorem dec_small : ∀ i, i < 100 → (Lib.decDigits i).length ≤ 2 := by decide +kernel
theorem itoa_small (i : Nat) (hi : i < 100) (w : World) : Calls Tryz.prog 58 #[.int .i64 i] w fun e w' => e = .returned (.string ⟨(Lib.decDigits i).toArray⟩) ∧ w' = w := Any.strconv_Itoa_small lays171 i hi w
set_option maxRecDepth 100000 in
theorem name_small (i : Nat) (hi : i < 100) (w : World) : Calls Tryz.prog 56 #[.int .i64 i] w fun e w' => e = .returned (.string ⟨(118 :: Lib.decDigits i).toArray⟩) ∧ w' = w := by
  have hd := dec_small i hi
  go_enter Tryz.func56, Tryz.ntmps56
  go_wp2_with fail
  refine (itoa_small i hi _).mono ?_
  rintro e w1 ⟨rfl, rfl⟩
  go_wp2_with fail
  go_ret
  exact ⟨congrArg (fun x => Ending.returned (.string x)) (by apply ByteArray.ext; simp), rfl⟩
end
end Go.Proofs.YthdhdmmlmbkalaaGreatDoor
