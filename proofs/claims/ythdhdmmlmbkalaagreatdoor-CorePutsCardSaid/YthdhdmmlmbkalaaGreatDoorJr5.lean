/-
  What an expression says, wherever it lies; expressions that lie in blocks of a sort. slices.Clone of numbers. whole.Cmp.
-/
import Derived.Test.YthdhdmmlmbkalaaGreatDoorJr1
import Derived.Test.YthdhdmmlmbkalaaGreatDoorJr4
import Derived.Test.YthdhdmmlmbkalaaGreatDoorRNw
import Derived.Test.YthdhdmmlmbkalaaGreatDoorJr0
import Derived.Test.YthdhdmmlmbkalaaGreatDoorChecked
import Derived.Outline
import Derived.Deep.RegionHeld3
set_option linter.unusedVariables false
set_option linter.unusedSimpArgs false
set_option linter.unusedSectionVars false
set_option linter.unnecessarySimpa false
namespace Go.Proofs.YthdhdmmlmbkalaaGreatDoor
section
open Go.RowKit

/-- An expression without where it lies. -/
inductive ES where
  | mk (k : Int) (d : DT) (v : Int) (vs : List Int) (rs : Bool) (p : Int) (kids : List ES) : ES
def ES.k : ES → Int | .mk k _ _ _ _ _ _ => k
def ES.d : ES → DT | .mk _ d _ _ _ _ _ => d
def ES.v : ES → Int | .mk _ _ v _ _ _ _ => v
def ES.vs : ES → List Int | .mk _ _ _ vs _ _ _ => vs
def ES.rs : ES → Bool | .mk _ _ _ _ rs _ _ => rs
def ES.p : ES → Int | .mk _ _ _ _ _ p _ => p
def ES.kids : ES → List ES | .mk _ _ _ _ _ _ kids => kids
theorem es_eta (s : ES) : ES.mk s.k s.d s.v s.vs s.rs s.p s.kids = s := by cases s; rfl
mutual
def shapeE : ET → ES
  | .mk k d v _ _ vs rs p _ _ kids => .mk k (shape d) v vs rs p (shapesE kids)
def shapesE : List ET → List ES
  | [] => []
  | e :: l => shapeE e :: shapesE l
end
theorem shapeE_eq (e : ET) : shapeE e = .mk e.k (shape e.d) e.v e.vs e.rs e.p (shapesE e.kids) := by cases e; simp [shapeE, ET.k, ET.d, ET.v, ET.vs, ET.rs, ET.p, ET.kids]
theorem shapesE_nil : shapesE [] = [] := by simp [shapesE]
theorem shapesE_cons (e : ET) (l : List ET) : shapesE (e :: l) = shapeE e :: shapesE l := by simp [shapesE]
theorem shapesE_length (l : List ET) : (shapesE l).length = l.length := by
  induction l with
  | nil => simp [shapesE_nil]
  | cons e l ih => simp [shapesE_cons, ih]
theorem shapesE_at (l : List ET) (k : Nat) (hk : k < l.length) : (shapesE l)[k]? = some (shapeE l[k]) := by
  induction l generalizing k with
  | nil => cases hk
  | cons t l ih =>
    rw [shapesE_cons]
    cases k with
    | zero => rfl
    | succ k => simpa using ih k (by simpa using hk)
mutual
def sizeES : ES → Nat
  | .mk _ _ _ _ _ _ kids => 1 + sizesES kids
def sizesES : List ES → Nat
  | [] => 0
  | e :: l => sizeES e + sizesES l
end
theorem sizeES_eq (s : ES) : sizeES s = 1 + sizesES s.kids := by cases s; simp [sizeES, ES.kids]
theorem sizesES_append (l m : List ES) : sizesES (l ++ m) = sizesES l + sizesES m := by
  induction l with
  | nil => simp [sizesES]
  | cons t l ih => simp [sizesES, ih]; omega
theorem sizesES_ge (l : List ES) : l.length ≤ sizesES l := by
  induction l with
  | nil => simp
  | cons t l ih => have := sizeES_eq t; simp only [sizesES, List.length_cons]; omega
mutual
theorem sizeES_shape : ∀ t : ET, sizeES (shapeE t) = t.size
  | .mk k d v va vc vs rs p ka kc kids => by
    have h1 := sizesES_shapes kids
    simp only [shapeE, sizeES, ET.size, h1]
theorem sizesES_shapes : ∀ l : List ET, sizesES (shapesE l) = sizesE l
  | [] => by simp [shapesE, sizesES, sizesE]
  | t :: l => by
    have h1 := sizeES_shape t
    have h2 := sizesES_shapes l
    simp only [shapesE, sizesES, sizesE, h1, h2]
end
mutual
def depthES : ES → Nat
  | .mk _ _ _ _ _ _ kids => 1 + depthsES kids
def depthsES : List ES → Nat
  | [] => 0
  | e :: l => max (depthES e) (depthsES l)
end
mutual
theorem depthES_shape : ∀ t : ET, depthES (shapeE t) = t.depth
  | .mk k d v va vc vs rs p ka kc kids => by
    have h1 := depthsES_shapes kids
    simp only [shapeE, depthES, ET.depth, h1]
theorem depthsES_shapes : ∀ l : List ET, depthsES (shapesE l) = depthsE l
  | [] => by simp [shapesE, depthsES, depthsE]
  | t :: l => by
    have h1 := depthES_shape t
    have h2 := depthsES_shapes l
    simp only [shapesE, depthsES, depthsE, h1, h2]
end
/-- Its data are such that they are copied and looked at whole. -/
def FewD (d : LT) : Prop := Tame d ∧ d.size ≤ 100000 ∧ d.depth ≤ 10000
mutual
def TameE : ET → Prop
  | .mk _ d _ _ _ vs _ _ _ _ kids => FewD d ∧ vs.length ≤ 1000000 ∧ TameER kids
def TameER : List ET → Prop
  | [] => True
  | e :: l => TameE e ∧ TameER l
end
theorem tameE_eq (e : ET) : TameE e ↔ (FewD e.d ∧ e.vs.length ≤ 1000000 ∧ TameER e.kids) := by cases e; simp [TameE, ET.d, ET.vs, ET.kids]
theorem tameER_at : ∀ (l : List ET) (i : Nat) (h : i < l.length), TameER l → TameE l[i]
  | e :: l, 0, _, h => by simp only [TameER] at h; exact h.1
  | e :: l, i + 1, hi, h => by simp only [TameER] at h; exact tameER_at l i (by simpa using hi) h.2
/-- Numbers that lie in blocks of that sort. -/
def IntsP (w : World) (P : Nat → Prop) (a : Option Addr) (c : Nat) (zs : List Int) : Prop := SpotP P a zs.length c ∧ ∀ i (h : i < zs.length), w.cell? ⟨blk a, ofs a + i, none⟩ = some (.int .i64 zs[i]) ∧ -9223372036854775808 ≤ zs[i] ∧ zs[i] ≤ 9223372036854775807
mutual
/-- The expression lies there, in blocks of that sort. -/
def LiesEP (w : World) (P : Nat → Prop) : ET → Nat → Nat → Prop
  | .mk k d v va vc vs rs p ka kc kids, b, o =>
    P b ∧ (∀ j x, (ET.cells (.mk k d v va vc vs rs p ka kc kids))[j]? = some x → w.cell? ⟨b, o + j, none⟩ = some x) ∧
      (HeldP w P d ∧ IntsP w P va vc vs) ∧ SpotP P ka kids.length kc ∧ LiesEPR w P kids (blk ka) (ofs ka)
def LiesEPR (w : World) (P : Nat → Prop) : List ET → Nat → Nat → Prop
  | [], _, _ => True
  | e :: l, b, o => LiesEP w P e b o ∧ LiesEPR w P l b (o + 13)
end
/-- What an expression's value holds lies in blocks of that sort. -/
def HeldEP (w : World) (P : Nat → Prop) (e : ET) : Prop := (HeldP w P e.d ∧ IntsP w P e.va e.vc e.vs) ∧ SpotP P e.ka e.kids.length e.kc ∧ LiesEPR w P e.kids (blk e.ka) (ofs e.ka)
theorem liesEP_held {w : World} {P : Nat → Prop} {e : ET} {b o : Nat} : LiesEP w P e b o ↔ P b ∧ (∀ j x, e.cells[j]? = some x → w.cell? ⟨b, o + j, none⟩ = some x) ∧ HeldEP w P e := by
  cases e; simp [LiesEP, HeldEP, ET.d, ET.va, ET.vc, ET.vs, ET.ka, ET.kc, ET.kids]
theorem liesEPR_nil {w : World} {P : Nat → Prop} {b o : Nat} : LiesEPR w P [] b o = True := by simp [LiesEPR]
theorem liesEPR_cons {w : World} {P : Nat → Prop} {b o : Nat} {e : ET} {l : List ET} : LiesEPR w P (e :: l) b o = (LiesEP w P e b o ∧ LiesEPR w P l b (o + 13)) := by simp [LiesEPR]
theorem IntsP.keep {w w' : World} {P Q : Nat → Prop} {a : Option Addr} {c : Nat} {zs : List Int} (h : IntsP w P a c zs) (hk : ∀ k, P k → Q k ∧ w'.heap[k]? = w.heap[k]?) : IntsP w' Q a c zs :=
  ⟨h.1.mono fun k hp => (hk k hp).1, fun i hi => ⟨(World.cell?_of_block (w := w) (a := ⟨blk a, ofs a + i, none⟩) (hk _ (h.1.2.2.1 (by omega)).2).2).trans (h.2 i hi).1, (h.2 i hi).2⟩⟩
theorem IntsP.ints {w : World} {P : Nat → Prop} {M : Nat} {a : Option Addr} {c : Nat} {zs : List Int} (h : IntsP w P a c zs) (hP : ∀ k, P k → k < M) : IntsAt w M a c zs := ⟨h.1.spot hP, h.2⟩
mutual
theorem LiesEP.keep {w w' : World} {P Q : Nat → Prop} (hs : w.heap.size ≤ w'.heap.size) (hk : ∀ k, P k → Q k ∧ w'.heap[k]? = w.heap[k]?) : ∀ (e : ET) (b o : Nat), LiesEP w P e b o → LiesEP w' Q e b o
  | .mk k d v va vc vs rs p ka kc kids, b, o, h => by
    simp only [LiesEP] at h ⊢
    obtain ⟨h1, h2, ⟨h3, h4⟩, h5, h6⟩ := h
    exact ⟨(hk b h1).1, fun j x hj => (World.cell?_of_block (hk b h1).2).trans (h2 j x hj), ⟨h3.keep hs hk, h4.keep hk⟩, h5.mono (fun k h => (hk k h).1), LiesEPR.keep hs hk kids _ _ h6⟩
theorem LiesEPR.keep {w w' : World} {P Q : Nat → Prop} (hs : w.heap.size ≤ w'.heap.size) (hk : ∀ k, P k → Q k ∧ w'.heap[k]? = w.heap[k]?) : ∀ (l : List ET) (b o : Nat), LiesEPR w P l b o → LiesEPR w' Q l b o
  | [], _, _, _ => by simp [LiesEPR]
  | e :: l, b, o, h => by
    simp only [LiesEPR] at h ⊢
    exact ⟨LiesEP.keep hs hk e b o h.1, LiesEPR.keep hs hk l b (o + 13) h.2⟩
end
theorem HeldEP.keep {w w' : World} {P Q : Nat → Prop} {e : ET} (h : HeldEP w P e) (hs : w.heap.size ≤ w'.heap.size) (hk : ∀ k, P k → Q k ∧ w'.heap[k]? = w.heap[k]?) : HeldEP w' Q e :=
  ⟨⟨h.1.1.keep hs hk, h.1.2.keep hk⟩, h.2.1.mono (fun k h => (hk k h).1), LiesEPR.keep hs hk _ _ _ h.2.2⟩
mutual
theorem LiesEP.lies {w : World} {P : Nat → Prop} {M : Nat} (hP : ∀ k, P k → k < M) : ∀ (e : ET) (b o : Nat), LiesEP w P e b o → LiesE w M e b o
  | .mk k d v va vc vs rs p ka kc kids, b, o, h => by
    simp only [LiesEP] at h
    simp only [LiesE]
    obtain ⟨h1, h2, ⟨h3, h4⟩, h5, h6⟩ := h
    exact ⟨hP b h1, h2, ⟨h3.held hP, h4.ints hP⟩, h5.spot hP, LiesEPR.lies hP kids _ _ h6⟩
theorem LiesEPR.lies {w : World} {P : Nat → Prop} {M : Nat} (hP : ∀ k, P k → k < M) : ∀ (l : List ET) (b o : Nat), LiesEPR w P l b o → LiesER w M l b o
  | [], _, _, _ => by simp [LiesER]
  | e :: l, b, o, h => by
    simp only [LiesEPR] at h
    simp only [LiesER]
    exact ⟨LiesEP.lies hP e b o h.1, LiesEPR.lies hP l b (o + 13) h.2⟩
end
theorem HeldEP.held {w : World} {P : Nat → Prop} {M : Nat} {e : ET} (h : HeldEP w P e) (hP : ∀ k, P k → k < M) : HeldE w M e :=
  ⟨⟨h.1.1.held hP, h.1.2.ints hP⟩, h.2.1.spot hP, LiesEPR.lies hP _ _ _ h.2.2⟩
theorem HeldEP.below {w w' : World} {B B' : Nat} {e : ET} (h : HeldEP w (Fresh w B) e) (hb : Below w.heap.size w w') (hB : B' ≤ B) : HeldEP w' (Fresh w' B') e :=
  h.keep hb.size fun k hk => ⟨(hk.same (hb.block k hk.lt)).low hB, hb.block k hk.lt⟩
theorem HeldEP.low {L U B : Nat} {w w' : World} {e : ET} (h : HeldEP w (Fresh w U) e) (hl : Low L U w w') (hB : B ≤ U) : HeldEP w' (Fresh w' B) e :=
  h.keep hl.1 fun k hk => ⟨(hk.same (hl.2 k (.inr hk.1))).low hB, hl.2 k (.inr hk.1)⟩
/-- What a call that makes an expression leaves. -/
def EPost (s : ES) (w : World) (e : Ending) (w' : World) : Prop := ∃ u : ET, e = .returned (.agg #[.int .i64 u.k, .int .i64 u.d.k, .bool u.d.g, .slice u.d.la u.d.ln u.d.lc, .bool u.d.bb, .string u.d.s, .slice u.d.ia u.d.items.length u.d.ic, .slice u.d.ta u.d.tail.length u.d.tc, .int .i64 u.v, .slice u.va u.vs.length u.vc, .bool u.rs, .int .i64 u.p, .slice u.ka u.kids.length u.kc]) ∧ HeldEP w' (Fresh w' w.heap.size) u ∧ TameE u ∧ shapeE u = s ∧ Below w.heap.size w w'

/-! The room of a copy. -/
/-- A list of expressions that lie in the room g from place p on. -/
def childE (g p m : Nat) : Value := if m = 0 then .slice none 0 0 else .slice (some ⟨g, p * 13, none⟩) m m
/-- Place p of the room holds these. -/
def AtE (S : List ES) (lo p : Nat) (l : List ES) : Prop := l ≠ [] → lo ≤ p ∧ ∀ i (h : i < l.length), S[p + i]? = some l[i]
/-- The expression at b, o is a copy: its datum and its variables are its own, its Kids lie in the room g. -/
def PartedE (w : World) (P : Nat → Prop) (g : Nat) (S : List ES) (lo : Nat) (s : ES) (b o : Nat) : Prop :=
  ∃ (u : LT) (va : Option Addr) (vc p : Nat), shape u = s.d ∧ FewD u ∧
    (∀ j x, ([.int .i64 s.k, .int .i64 u.k, .bool u.g, .slice u.la u.ln u.lc, .bool u.bb, .string u.s, .slice u.ia u.items.length u.ic, .slice u.ta u.tail.length u.tc, .int .i64 s.v, .slice va s.vs.length vc, .bool s.rs, .int .i64 s.p, childE g p s.kids.length] : List Value)[j]? = some x → w.cell? ⟨b, o + j, none⟩ = some x) ∧
    (HeldP w P u ∧ IntsP w P va vc s.vs) ∧ AtE S lo p s.kids ∧ s.kids.length ≤ maxLen ∧ s.vs.length ≤ 1000000
theorem childE_spot {P : Nat → Prop} {g : Nat} (hg : P g) (p m : Nat) (hm : m ≤ maxLen) : ∃ a c, childE g p m = .slice a m c ∧ SpotP P a m c ∧ (0 < m → a = some ⟨g, p * 13, none⟩) := by
  unfold childE
  by_cases h : m = 0
  · rw [if_pos h, h]
    exact ⟨none, 0, rfl, spotP_nil P, fun h => absurd h (by decide)⟩
  · rw [if_neg h]
    exact ⟨_, m, rfl, ⟨Nat.le_refl _, hm, fun _ => ⟨rfl, hg⟩, fun e => by cases e⟩, fun _ => rfl⟩
/-- A row of trees out of those at each place. -/
theorem rowE_of {w : World} {P : Nat → Prop} {g : Nat} {S : List ES} : ∀ (l : List ES) (p : Nat), (∀ i (h : i < l.length), ∃ u : ET, shapeE u = l[i] ∧ TameE u ∧ LiesEP w P u g ((p + i) * 13)) → ∃ us : List ET, shapesE us = l ∧ TameER us ∧ LiesEPR w P us g (p * 13)
  | [], p, _ => ⟨[], shapesE_nil, by simp [TameER], by rw [liesEPR_nil]; trivial⟩
  | d :: l, p, h => by
    obtain ⟨u, hu, ht, hl⟩ := h 0 (by simp)
    obtain ⟨us, hus, htr, hr⟩ := rowE_of (S := S) l (p + 1) fun i hi => by
      obtain ⟨v, hv, ht, hvl⟩ := h (i + 1) (by simpa using hi)
      exact ⟨v, by simpa using hv, ht, by rwa [show p + (i + 1) = p + 1 + i by omega] at hvl⟩
    refine ⟨u :: us, by rw [shapesE_cons, hus, hu]; rfl, by simp only [TameER]; exact ⟨ht, htr⟩, ?_⟩
    rw [liesEPR_cons]
    exact ⟨by simpa using hl, by rwa [show p * 13 + 13 = (p + 1) * 13 by omega]⟩
/-- A copy is a tree, if its Kids are. -/
theorem partedE_tree {w : World} {P : Nat → Prop} {g : Nat} (hg : P g) {S : List ES} {lo : Nat} {s : ES} {b o : Nat} (h : PartedE w P g S lo s b o) (hS : ∀ i (x : ES), lo ≤ i → S[i]? = some x → ∃ u : ET, shapeE u = x ∧ TameE u ∧ LiesEP w P u g (i * 13)) :
    ∃ u : ET, shapeE u = s ∧ TameE u ∧ (∀ j x, u.cells[j]? = some x → w.cell? ⟨b, o + j, none⟩ = some x) ∧ HeldEP w P u := by
  obtain ⟨d, va, vc, p, hd, hf, hc, hl, hp, m1, m2⟩ := h
  obtain ⟨us, hus, htr, hur⟩ := rowE_of (w := w) (P := P) (g := g) (S := S) s.kids p fun i hi => by
    have h1 := hp (fun e => by rw [e] at hi; cases hi)
    obtain ⟨u, hu, ht, hul⟩ := hS (p + i) s.kids[i] (by omega) (h1.2 i hi)
    exact ⟨u, hu, ht, hul⟩
  obtain ⟨a1, c1, e1, s1, f1⟩ := childE_spot hg p s.kids.length m1
  have n1 : us.length = s.kids.length := by rw [← shapesE_length, hus]
  rw [e1] at hc
  refine ⟨.mk s.k d s.v va vc s.vs s.rs s.p a1 c1 us, ?_, ?_, ?_, hl, ?_, ?_⟩
  · simp only [shapeE, hus, hd]; exact es_eta s
  · simp only [TameE]; exact ⟨hf, m2, htr⟩
  · intro j x hj
    refine hc j x ?_
    have hcs : ET.cells (.mk s.k d s.v va vc s.vs s.rs s.p a1 c1 us) = [.int .i64 s.k, .int .i64 d.k, .bool d.g, .slice d.la d.ln d.lc, .bool d.bb, .string d.s, .slice d.ia d.items.length d.ic, .slice d.ta d.tail.length d.tc, .int .i64 s.v, .slice va s.vs.length vc, .bool s.rs, .int .i64 s.p, .slice a1 us.length c1] := rfl
    rw [hcs, n1] at hj
    exact hj
  · show SpotP P a1 us.length c1
    rw [n1]; exact s1
  · show LiesEPR w P us (blk a1) (ofs a1)
    rcases Nat.eq_zero_or_pos us.length with h0 | h0
    · rw [List.length_eq_zero_iff.1 h0, liesEPR_nil]; trivial
    · rw [f1 (by omega)]; exact hur
/-- All the room is trees, when all of it was copied. -/
theorem roomE_trees {w : World} {P : Nat → Prop} {g : Nat} (hg : P g) (S : List ES) (h : ∀ j (hj : j < S.length), PartedE w P g S (j + 1) S[j] g (j * 13)) : ∀ (n j : Nat) (x : ES), S.length - j ≤ n → S[j]? = some x → ∃ u : ET, shapeE u = x ∧ TameE u ∧ LiesEP w P u g (j * 13)
  | 0, j, x, hn, hx => by
    have := (List.getElem?_eq_some_iff.1 hx).1
    omega
  | n + 1, j, x, hn, hx => by
    obtain ⟨hj, rfl⟩ := List.getElem?_eq_some_iff.1 hx
    obtain ⟨u, hu, ht, hc, hh⟩ := partedE_tree hg (h j hj) fun i x hi hx => roomE_trees hg S h n i x (by have := (List.getElem?_eq_some_iff.1 hx).1; omega) hx
    exact ⟨u, hu, ht, liesEP_held.2 ⟨hg, hc, hh⟩⟩
end
end Go.Proofs.YthdhdmmlmbkalaaGreatDoor
namespace Go.Proofs.YthdhdmmlmbkalaaGreatDoor
section
open Go.RowKit

theorem infoInt : (Tryz.prog.info? 3).map (fun i => (i.zero, i.size, i.bytes)) = some (some (.int .i64 0), 1, 8) := by kernel_rfl
def cellsI (zs : List Int) : List Value := zs.map fun z => .int .i64 z
theorem cellsI_at (zs : List Int) (i : Nat) (h : i < zs.length) : (cellsI zs)[i]? = some (.int .i64 zs[i]) := by
  rw [cellsI, List.getElem?_map, List.getElem?_eq_getElem h]; rfl
set_option maxRecDepth 100000 in
theorem nilI_yes (w : World) : (binOp .eql 28 (.slice none 0 0) (.slice none 0 0)).run Tryz.prog w = .ok (.bool true) w := by
  first | rfl | kernel_rfl
set_option maxRecDepth 100000 in
theorem nilI_no (ad : Addr) (n c : Nat) (w : World) : (binOp .eql 28 (.slice (some ad) n c) (.slice none 0 0)).run Tryz.prog w = .ok (.bool false) w := by
  first | rfl | kernel_rfl
/-- What Clone leaves. -/
def CIPost (zs : List Int) (w : World) (e : Ending) (w' : World) : Prop := ∃ A c, e = .returned (.slice A zs.length c) ∧ IntsP w' (Fresh w' w.heap.size) A c zs ∧ Below w.heap.size w w'
theorem ownsI_ints {w w' : World} {v : Value} {zs : List Int} (hown : w'.ownsRow w.heap.size 3 1 v zs.length (cellsI zs)) (hz : ∀ i (h : i < zs.length), -9223372036854775808 ≤ zs[i] ∧ zs[i] ≤ 9223372036854775807) : ∃ A c, v = .slice A zs.length c ∧ IntsP w' (Fresh w' w.heap.size) A c zs := by
  rcases hown.2 with ⟨hv, h0⟩ | ⟨g, c, cur, hv, hg, hgc, h1, h2, _⟩
  · obtain rfl : zs = [] := List.length_eq_zero_iff.1 h0
    exact ⟨none, 0, hv, spotP_nil _, fun i hi => by simp at hi⟩
  · refine ⟨some ⟨g, 0, none⟩, c, hv, ⟨h1, h2, fun _ => ⟨rfl, Fresh.of hg hgc (by decide)⟩, fun e => by cases e⟩, fun i hi => ⟨?_, hz i hi⟩⟩
    have h3 := hown.cells (g := g) (by rw [hv]; rfl) i _ (cellsI_at zs i hi)
    rw [cell_add] at h3
    exact h3
set_option maxRecDepth 100000 in
set_option maxHeartbeats 1600000 in
theorem cloneI_any (M : Nat) (A : Option Addr) (cap : Nat) (zs : List Int) (w : World) (hM : M ≤ w.heap.size) (h : IntsAt w M A cap zs) (hn : zs.length ≤ 1000000) :
    Calls Tryz.prog 66 #[.slice A zs.length cap] w (CIPost zs w) := by
  have hm := h.1.2.1
  have hl := h.1.1
  unfold maxLen at hm
  obtain ⟨i0, hi, hz0, hz1, hz2⟩ := info_parts infoInt
  cases A with
  | none =>
    have hc0 := h.1.2.2.2 rfl
    subst hc0
    obtain rfl : zs = [] := List.length_eq_zero_iff.1 (by omega)
    clear h
    have hnil := nilI_yes w
    go_enter Tryz.func66, Tryz.ntmps66
    go_wp2_with fail
    go_ret
    exact ⟨none, 0, rfl, ⟨spotP_nil _, fun i hi => by simp at hi⟩, Below.refl _ _⟩
  | some ad =>
    have hz : ∀ i (h : i < zs.length), -9223372036854775808 ≤ zs[i] ∧ zs[i] ≤ 9223372036854775807 := fun i hi => (h.2 i hi).2
    have hb1 : Below w.heap.size w (w.alloc (.cells #[] 3)) := (Below.refl _ _).alloc (Nat.le_refl _) _
    have hnews : ∀ j u, (cellsI zs)[j]? = some u → (w.alloc (.cells #[] 3)).cell? (ad.add j) = some u := fun j u hj => by
      have hjl : j < zs.length := by have := (List.getElem?_eq_some_iff.1 hj).1; simpa [cellsI] using this
      have h2 := h.1.2.2.1 (by omega)
      have h3 := h.2 j hjl
      rw [cellsI_at zs j hjl] at hj
      obtain ⟨b, o, sp⟩ := ad
      have e1 := h2.1
      injection e1 with e1
      injection e1 with _ _ e1
      subst e1
      rw [cell_add, ← Option.some.inj hj]
      have hlt : b < M := h2.2
      exact (World.cell?_of_block (w := w) (a := ⟨b, o + j, none⟩) (hb1.block b (by omega))).trans h3.1
    have hone : ∀ u ∈ cellsI zs, u.oneCell' = true := fun u hu => by
      obtain ⟨z, _, rfl⟩ := List.mem_map.1 hu
      rfl
    have hown : (w.alloc (.cells #[] 3)).ownsRow w.heap.size 3 1 (.slice (some ⟨w.heap.size, 0, none⟩) 0 0) 0 [] := World.ownsRow_lit (base := w.heap.size) (size := 1) w #[] 0 (Nat.le_refl _) (by unfold maxLen; omega) rfl
    have HH := Lib.hid (And.intro hnews (And.intro hone (And.intro hown (And.intro hz hb1))))
    clear hnews hone hown hz hb1 h
    have hnil := nilI_no ad zs.length cap w
    go_enter Tryz.func66, Tryz.ntmps66
    go_wp2_with (at_builtin; refine wpList_append_own _ rfl (.tmp 5) (.tmp 6) 28 rfl w.heap.size 3 i0 (.int .i64 0) 1 8 Tryz.underlying28 hi hz0 hz1 hz2 rfl (by decide) _ 0 [] rfl HH.out.2.2.1 ad zs.length cap (cellsI zs) rfl (by simp [cellsI]) HH.out.1 HH.out.2.1 (by unfold maxLen; omega) (by omega) (by simp) ?_; intro v' w1 hown1 hg1 _; have HO := Lib.hid (And.intro hown1 hg1); clear hown1 hg1)
    go_ret
    have h0 := HO.out.1
    rw [Nat.zero_add, List.nil_append] at h0
    obtain ⟨A', c', rfl, hs⟩ := ownsI_ints h0 HH.out.2.2.2.1
    exact ⟨A', c', rfl, hs, HH.out.2.2.2.2.grown HO.out.2 (by simp) (fun j hj => by have h9 : some w.heap.size = some j := hj; injection h9 with h9; omega)⟩
end
end Go.Proofs.YthdhdmmlmbkalaaGreatDoor
namespace Go.Proofs.YthdhdmmlmbkalaaGreatDoor
section
open Go.RowKit

set_option maxHeartbeats 400000 in
theorem limbAt_any (A : Option Addr) (n cap : Nat) (xs : List Nat) (i : Int) (w : World) (h : Sl w A n cap xs) (h0 : 0 ≤ i) :
    Calls Tryz.prog 128 #[.slice A n cap, .int .i64 i] w fun e w' => e = .returned (.int .u64 ((lim xs i.toNat : Nat) : Int)) ∧ w = w' := by
  obtain ⟨k, rfl⟩ := Int.eq_ofNat_of_zero_le h0
  rw [Int.toNat_natCast]
  have hm := h.max
  have hl := h.le
  unfold maxLen at hm
  by_cases hk : k < n
  · obtain ⟨b, off, rfl, hb, hc⟩ := h.here (by omega)
    have hck := hc k hk
    have hx := h.ok.getD k
    clear hc
    generalize lim xs k = x at *
    go_enter Tryz.func128, Tryz.ntmps128
    go_wp2
    go_ret
    exact ⟨rfl, rfl⟩
  · have hx : lim xs k = 0 := by
      rw [lim_eq, List.getElem?_eq_none (by have := h.len; omega)]; rfl
    rw [hx]
    go_enter Tryz.func128, Tryz.ntmps128
    go_wp2
    go_ret
    exact ⟨rfl, rfl⟩
set_option maxHeartbeats 800000 in
theorem cmp_any (A1 : Option Addr) (n1 c1 : Nat) (xs : List Nat) (A2 : Option Addr) (n2 c2 : Nat) (ys : List Nat) (w : World) (h1 : Sl w A1 n1 c1 xs) (h2 : Sl w A2 n2 c2 ys) (b1 : n1 ≤ 35184372087808) (b2 : n2 ≤ 35184372087808) :
    Calls Tryz.prog 108 #[.slice A1 n1 c1, .slice A2 n2 c2] w fun e w' => e = .returned (.int .i64 (cmpN (val xs) (val ys))) ∧ w = w' := by
  obtain ⟨m, hm⟩ : ∃ m, n1 < n2 ∧ m = n2 ∨ n2 ≤ n1 ∧ m = n1 := by
    rcases Nat.lt_or_ge n1 n2 with h | h
    · exact ⟨_, .inl ⟨h, rfl⟩⟩
    · exact ⟨_, .inr ⟨h, rfl⟩⟩
  have l1 : xs.length ≤ m := by have := h1.len; omega
  have l2 : ys.length ≤ m := by have := h2.len; omega
  rcases hm with ⟨hlt, rfl⟩ | ⟨hlt, rfl⟩
  all_goals
    go_enter Tryz.func108, Tryz.ntmps108
    go_wp2_with fail
    go_loop [5] (fun i => ∃ k : Nat, k ≤ m ∧ i = .int .i64 ((k : Int) - 1) ∧ Hid (cmpN (val (xs.take k)) (val (ys.take k)) = cmpN (val xs) (val ys))) (fun i => (intOf i + 1).toNat)
    case atStart => exact ⟨m, Nat.le_refl _, by (first | rfl | rw [Int.max_eq_right (by omega)] | rw [Int.max_eq_left (by omega)]), by rw [List.take_of_length_le l1, List.take_of_length_le l2]; exact rfl⟩
    case round =>
      obtain ⟨k, hk, rfl, hr⟩ := hrel
      rcases k with _ | k
      · go_wp2_with fail
        go_ret
        exact ⟨by rw [← hr.out]; rfl, rfl⟩
      · rw [show (((k + 1 : Nat) : Int) - 1) = (k : Int) by omega]
        rcases Nat.lt_trichotomy (lim xs k) (lim ys k) with hx | hx | hx
        · have hd := Lib.hid (cmp_down_lt h1.ok hx)
          go_wp2_with (go_at_call 128; refine (limbAt_any _ _ _ _ _ _ (by assumption) (by omega)).mono ?_; rintro e w' ⟨rfl, rfl⟩)
          go_ret
          exact ⟨by rw [← hr.out, hd.out]; rfl, rfl⟩
        · have hd := Lib.hid (cmp_down_eq hx)
          have hx1 : ¬ lim xs k < lim ys k := by omega
          have hx2 : ¬ lim ys k < lim xs k := by omega
          clear hx
          go_wp2_with (go_at_call 128; refine (limbAt_any _ _ _ _ _ _ (by assumption) (by omega)).mono ?_; rintro e w' ⟨rfl, rfl⟩)
          go_round
          case rel => exact ⟨k, by omega, by go_num, by rw [← hr.out, hd.out]; exact rfl⟩
          case measure => simp [intOf]
        · have hd := Lib.hid (cmp_down_gt h2.ok hx)
          have hx1 : ¬ lim xs k < lim ys k := by omega
          go_wp2_with (go_at_call 128; refine (limbAt_any _ _ _ _ _ _ (by assumption) (by omega)).mono ?_; rintro e w' ⟨rfl, rfl⟩)
          go_ret
          exact ⟨by rw [← hr.out, hd.out]; rfl, rfl⟩
section
variable {w : World} {u v : Value} {a b K L : Nat}
theorem cmp_num (hu : Num w u a K) (hv : Num w v b L) (hK : K ≤ 35184372087808) (hL : L ≤ 35184372087808) : Calls Tryz.prog 108 #[u, v] w fun e w' => e = .returned (.int .i64 (cmpN a b)) ∧ w = w' := by
  obtain ⟨A1, n1, c1, xs, rfl, s1, rfl, k1⟩ := hu
  obtain ⟨A2, n2, c2, ys, rfl, s2, rfl, k2⟩ := hv
  exact cmp_any _ _ _ _ _ _ _ _ _ s1 s2 (by omega) (by omega)
end
section
variable {w w' : World} {g : Nat} {s x : Value}
end
theorem enter2 (w : World) (s x t y : Value) : ∃ W, W = (w.alloc (.cells #[s, x] 24)).alloc (.cells #[t, y] 24) ∧ Var W w.heap.size s x ∧ Var W (w.heap.size + 1) t y ∧ Below w.heap.size w W := by
  refine ⟨_, rfl, (Var.mk_ _ _ _).alloc _, ?_, bnew (bnew (Below.refl _ _) _) _⟩
  have := Var.mk_ (w.alloc (.cells #[s, x] 24)) t y
  simpa using this
section
variable {w : World} {u v : Value} {a b : Int} {K L : Nat}
end
/-- What Cmp tells. -/
def cmpZ (a b : Int) : Int := if a < b then -1 else if b < a then 1 else 0
section
variable {w : World} {u v : Value} {a b : Int} {K L : Nat}
end
section
variable {w : World} {u v : Value} {a b : Int} {K L : Nat}
theorem cmpZ_nn (m n : Nat) : cmpZ (zOf true m) (zOf true n) = cmpN n m := by simp only [cmpZ, cmpN, zOf, if_true]; split <;> split <;> (try split) <;> omega
theorem cmpZ_pp {s t : Bool} {m n : Nat} (hs : ¬ zOf s m < 0) (ht : ¬ zOf t n < 0) : cmpZ (zOf s m) (zOf t n) = cmpN m n := by
  cases s <;> cases t <;> simp only [cmpZ, cmpN, zOf, if_true, if_false, Bool.false_eq_true] at * <;> split <;> split <;> (try split) <;> (try split) <;> omega
theorem cmpZ_np {a b : Int} (hs : a < 0) (ht : ¬ b < 0) : cmpZ a b = -1 := by unfold cmpZ; rw [if_pos (by omega)]
theorem cmpZ_pn {a b : Int} (hs : ¬ a < 0) (ht : b < 0) : cmpZ a b = 1 := by unfold cmpZ; rw [if_neg (by omega), if_pos (by omega)]
theorem neg_true {s : Bool} {m : Nat} (h : zOf s m < 0) : s = true := by cases s; simp [zOf] at h; omega; rfl
set_option maxRecDepth 20000 in
set_option maxHeartbeats 3200000 in
theorem wcmp_num (hu : Wh w u a K) (hv : Wh w v b L) (hK : K ≤ 35184372087808) (hL : L ≤ 35184372087808) : Calls Tryz.prog 86 #[u, v] w fun e w' => e = .returned (.int .i64 (cmpZ a b)) ∧ Below w.heap.size w w' := by
  obtain ⟨s, x, m, rfl, hx, rfl⟩ := hu
  obtain ⟨t, y, n, rfl, hy, rfl⟩ := hv
  obtain ⟨d1, hd1⟩ : ∃ d, d = decide (zOf s m < 0) := ⟨_, rfl⟩
  obtain ⟨d2, hd2⟩ : ∃ d, d = decide (zOf t n < 0) := ⟨_, rfl⟩
  have B1 : ∀ w', Num w' x m K → Calls Tryz.prog 107 #[.agg #[.bool s, x]] w' fun e w'' => e = .returned (.bool d1) ∧ Below w'.heap.size w' w'' := fun w' h => by rw [hd1]; exact below_any h hK
  have B2 : ∀ w', Num w' y n L → Calls Tryz.prog 107 #[.agg #[.bool t, y]] w' fun e w'' => e = .returned (.bool d2) ∧ Below w'.heap.size w' w'' := fun w' h => by rw [hd2]; exact below_any h hL
  have HB := Lib.hid (And.intro B1 B2)
  clear B1 B2
  obtain ⟨W, hW, hp, hq, hb⟩ := enter2 w (.bool s) x (.bool t) y
  replace hx := (hx.below hb).drew
  replace hy := (hy.below hb).drew
  replace hp := hp.drew
  replace hq := hq.drew
  cases d1 <;> cases d2
  · rw [cmpZ_pp (of_decide_eq_false hd1.symm) (of_decide_eq_false hd2.symm)]
    clear hd1 hd2
    go_enter Tryz.func86, Tryz.ntmps86
    go_wp2_with fail
    rw [← hW]
    clear hW
    have hp0 := hp.c0
    have hp1 := hp.c1
    have hq0 := hq.c0
    have hq1 := hq.c1
    go_region_held3 (fun w' => w'.cell? ⟨w.heap.size, 0, none⟩ = some (.bool s) ∧ w'.cell? ⟨w.heap.size, 1, none⟩ = some (x) ∧ w'.cell? ⟨w.heap.size + 1, 0, none⟩ = some (.bool t) ∧ w'.cell? ⟨w.heap.size + 1, 1, none⟩ = some (y))
      (first | exact ⟨hp1.c0, hp1.c1, hq1.c0, hq1.c1⟩ | exact ⟨hp2.c0, hp2.c1, hq2.c0, hq2.c1⟩ | go_keep)
      (first
      | (go_at_call 107; (fail_if_success (have hh := hy1)); refine (HB.out.1 _ hx).mono ?_; rintro e w1 ⟨rfl, hb1⟩; have hp1 := hp.next hb1; have hq1 := hq.next hb1; have hy1 := hy.below hb1)
      | (go_at_call 107; refine (HB.out.2 _ hy1).mono ?_; rintro e w2 ⟨rfl, hb2⟩; have hp2 := hp1.next hb2; have hq2 := hq1.next hb2; have hx2 := (hx.below hb1).below hb2; have hy2 := hy1.below hb2))
    have e1 := hp2.c1
    have e2 := hq2.c1
    clear HB hp0 hp1 hq0 hq1
    go_wp2_with fail
    refine (cmp_num hx2 hy2 (by omega) (by omega)).mono ?_
    rintro e w3 ⟨rfl, rfl⟩
    go_wp2_with fail
    go_ret
    exact ⟨rfl, bnext (bnext hb.drew hb1) hb2⟩
  · rw [cmpZ_pn (of_decide_eq_false hd1.symm) (of_decide_eq_true hd2.symm)]
    clear hd1 hd2
    go_enter Tryz.func86, Tryz.ntmps86
    go_wp2_with fail
    rw [← hW]
    clear hW
    have hp0 := hp.c0
    have hp1 := hp.c1
    have hq0 := hq.c0
    have hq1 := hq.c1
    go_region_held3 (fun w' => w'.cell? ⟨w.heap.size, 0, none⟩ = some (.bool s) ∧ w'.cell? ⟨w.heap.size, 1, none⟩ = some (x) ∧ w'.cell? ⟨w.heap.size + 1, 0, none⟩ = some (.bool t) ∧ w'.cell? ⟨w.heap.size + 1, 1, none⟩ = some (y))
      (first | exact ⟨hp1.c0, hp1.c1, hq1.c0, hq1.c1⟩ | exact ⟨hp2.c0, hp2.c1, hq2.c0, hq2.c1⟩ | go_keep)
      (first
      | (go_at_call 107; (fail_if_success (have hh := hy1)); refine (HB.out.1 _ hx).mono ?_; rintro e w1 ⟨rfl, hb1⟩; have hp1 := hp.next hb1; have hq1 := hq.next hb1; have hy1 := hy.below hb1)
      | (go_at_call 107; refine (HB.out.2 _ hy1).mono ?_; rintro e w2 ⟨rfl, hb2⟩; have hp2 := hp1.next hb2; have hq2 := hq1.next hb2; have hx2 := (hx.below hb1).below hb2; have hy2 := hy1.below hb2))
    have e1 := hp2.c1
    have e2 := hq2.c1
    clear HB hp0 hp1 hq0 hq1
    go_wp2_with fail
    go_ret
    exact ⟨rfl, bnext (bnext hb.drew hb1) hb2⟩
  · rw [cmpZ_np (of_decide_eq_true hd1.symm) (of_decide_eq_false hd2.symm)]
    clear hd1 hd2
    go_enter Tryz.func86, Tryz.ntmps86
    go_wp2_with fail
    rw [← hW]
    clear hW
    have hp0 := hp.c0
    have hp1 := hp.c1
    have hq0 := hq.c0
    have hq1 := hq.c1
    go_region_held3 (fun w' => w'.cell? ⟨w.heap.size, 0, none⟩ = some (.bool s) ∧ w'.cell? ⟨w.heap.size, 1, none⟩ = some (x) ∧ w'.cell? ⟨w.heap.size + 1, 0, none⟩ = some (.bool t) ∧ w'.cell? ⟨w.heap.size + 1, 1, none⟩ = some (y))
      (first | exact ⟨hp1.c0, hp1.c1, hq1.c0, hq1.c1⟩ | exact ⟨hp2.c0, hp2.c1, hq2.c0, hq2.c1⟩ | go_keep)
      (first
      | (go_at_call 107; (fail_if_success (have hh := hy1)); refine (HB.out.1 _ hx).mono ?_; rintro e w1 ⟨rfl, hb1⟩; have hp1 := hp.next hb1; have hq1 := hq.next hb1; have hy1 := hy.below hb1)
      | (go_at_call 107; refine (HB.out.2 _ hy1).mono ?_; rintro e w2 ⟨rfl, hb2⟩; have hp2 := hp1.next hb2; have hq2 := hq1.next hb2; have hx2 := (hx.below hb1).below hb2; have hy2 := hy1.below hb2))
    have e1 := hp2.c1
    have e2 := hq2.c1
    clear HB hp0 hp1 hq0 hq1
    go_wp2_with fail
    go_ret
    exact ⟨rfl, bnext (bnext hb.drew hb1) hb2⟩
  · obtain rfl := neg_true (of_decide_eq_true hd1.symm)
    obtain rfl := neg_true (of_decide_eq_true hd2.symm)
    rw [cmpZ_nn]
    clear hd1 hd2
    go_enter Tryz.func86, Tryz.ntmps86
    go_wp2_with fail
    rw [← hW]
    clear hW
    have hp0 := hp.c0
    have hp1 := hp.c1
    have hq0 := hq.c0
    have hq1 := hq.c1
    go_region_held3 (fun w' => w'.cell? ⟨w.heap.size, 0, none⟩ = some (.bool true) ∧ w'.cell? ⟨w.heap.size, 1, none⟩ = some (x) ∧ w'.cell? ⟨w.heap.size + 1, 0, none⟩ = some (.bool true) ∧ w'.cell? ⟨w.heap.size + 1, 1, none⟩ = some (y))
      (first | exact ⟨hp1.c0, hp1.c1, hq1.c0, hq1.c1⟩ | exact ⟨hp2.c0, hp2.c1, hq2.c0, hq2.c1⟩ | go_keep)
      (first
      | (go_at_call 107; (fail_if_success (have hh := hy1)); refine (HB.out.1 _ hx).mono ?_; rintro e w1 ⟨rfl, hb1⟩; have hp1 := hp.next hb1; have hq1 := hq.next hb1; have hy1 := hy.below hb1)
      | (go_at_call 107; refine (HB.out.2 _ hy1).mono ?_; rintro e w2 ⟨rfl, hb2⟩; have hp2 := hp1.next hb2; have hq2 := hq1.next hb2; have hx2 := (hx.below hb1).below hb2; have hy2 := hy1.below hb2))
    have e1 := hp2.c1
    have e2 := hq2.c1
    clear HB hp0 hp1 hq0 hq1
    go_wp2_with fail
    refine (cmp_num hy2 hx2 (by omega) (by omega)).mono ?_
    rintro e w3 ⟨rfl, rfl⟩
    go_wp2_with fail
    go_ret
    exact ⟨rfl, bnext (bnext hb.drew hb1) hb2⟩
end
section
variable {w : World} {u v : Value} {a b : Int} {K L : Nat}
end
section
variable {w : World} {u v : Value} {a b : Int} {K L : Nat}
end
end
end Go.Proofs.YthdhdmmlmbkalaaGreatDoor
