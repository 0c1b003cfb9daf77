/-
  Data without where they lie; Norm of them; data that lie in blocks of some sort alone. datum.normal of what is no list, of any shape. datum.normalList of any tree: what its loops know. Rows of a call's own as what a list holds. datum.twin's parts: slices.Clone of limbs; take. datum.twin: what its room holds, and that it holds the same in the end. datum.twin: take and part, by what they leave. datum.twin: part. datum.twin: what its loop knows.
-/
import Derived.Test.YthdhdmmlmbkalaaGreatDoorJr3
import Derived.Test.YthdhdmmlmbkalaaGreatDoorRNw
import Derived.Deep.RegionLaw
set_option linter.unusedVariables false
set_option linter.unusedSimpArgs false
set_option linter.unusedSectionVars false
set_option linter.unnecessarySimpa false
namespace Go.Proofs.YthdhdmmlmbkalaaGreatDoor
section
open Go.RowKit

inductive DT where
  | mk (k : Int) (g : Bool) (ys : List Nat) (bb : Bool) (s : ByteArray) (items tail : List DT) : DT
def DT.k : DT → Int | .mk k _ _ _ _ _ _ => k
mutual
def shape : LT → DT
  | .mk k g _ _ _ ys bb s _ _ items _ _ tail => .mk k g ys bb s (shapes items) (shapes tail)
def shapes : List LT → List DT
  | [] => []
  | t :: l => shape t :: shapes l
end
theorem shape_eq (t : LT) : shape t = .mk t.k t.g t.ys t.bb t.s (shapes t.items) (shapes t.tail) := by cases t; simp [shape, LT.k, LT.g, LT.ys, LT.bb, LT.s, LT.items, LT.tail]
theorem shapes_nil : shapes [] = [] := by simp [shapes]
theorem shapes_cons (t : LT) (l : List LT) : shapes (t :: l) = shape t :: shapes l := by simp [shapes]
theorem shapes_length (l : List LT) : (shapes l).length = l.length := by
  induction l with
  | nil => simp [shapes_nil]
  | cons t l ih => simp [shapes_cons, ih]

def SpotP (P : Nat → Prop) (a : Option Addr) (n c : Nat) : Prop := n ≤ c ∧ c ≤ maxLen ∧ (0 < n → a = some ⟨blk a, ofs a, none⟩ ∧ P (blk a)) ∧ (a = none → c = 0)
mutual
/-- The datum lies there, in blocks of that sort. -/
def LiesP (w : World) (P : Nat → Prop) : LT → Nat → Nat → Prop
  | .mk k g la ln lc ys bb s ia ic items ta tc tail, b, o =>
    P b ∧ (∀ j v, (LT.cells (.mk k g la ln lc ys bb s ia ic items ta tc tail))[j]? = some v → w.cell? ⟨b, o + j, none⟩ = some v) ∧
      (Sl w la ln lc ys ∧ (0 < ln → P (blk la)) ∧ s.size ≤ maxLen) ∧ SpotP P ia items.length ic ∧ SpotP P ta tail.length tc ∧ LiesPR w P items (blk ia) (ofs ia) ∧ LiesPR w P tail (blk ta) (ofs ta)
def LiesPR (w : World) (P : Nat → Prop) : List LT → Nat → Nat → Prop
  | [], _, _ => True
  | t :: l, b, o => LiesP w P t b o ∧ LiesPR w P l b (o + 7)
end
theorem liesP_eq {w : World} {P : Nat → Prop} {t : LT} {b o : Nat} : LiesP w P t b o ↔
    (P b ∧ (∀ j v, t.cells[j]? = some v → w.cell? ⟨b, o + j, none⟩ = some v) ∧ (Sl w t.la t.ln t.lc t.ys ∧ (0 < t.ln → P (blk t.la)) ∧ t.s.size ≤ maxLen) ∧ SpotP P t.ia t.items.length t.ic ∧ SpotP P t.ta t.tail.length t.tc ∧
      LiesPR w P t.items (blk t.ia) (ofs t.ia) ∧ LiesPR w P t.tail (blk t.ta) (ofs t.ta)) := by
  cases t; simp [LiesP, LT.la, LT.ln, LT.lc, LT.ys, LT.s, LT.ia, LT.ic, LT.items, LT.ta, LT.tc, LT.tail]
theorem liesPR_nil {w : World} {P : Nat → Prop} {b o : Nat} : LiesPR w P [] b o = True := by simp [LiesPR]
theorem liesPR_cons {w : World} {P : Nat → Prop} {b o : Nat} {t : LT} {l : List LT} : LiesPR w P (t :: l) b o = (LiesP w P t b o ∧ LiesPR w P l b (o + 7)) := by simp [LiesPR]
/-- What a datum's value holds lies in blocks of that sort. -/
def HeldP (w : World) (P : Nat → Prop) (t : LT) : Prop := (Sl w t.la t.ln t.lc t.ys ∧ (0 < t.ln → P (blk t.la)) ∧ t.s.size ≤ maxLen) ∧ SpotP P t.ia t.items.length t.ic ∧ SpotP P t.ta t.tail.length t.tc ∧
  LiesPR w P t.items (blk t.ia) (ofs t.ia) ∧ LiesPR w P t.tail (blk t.ta) (ofs t.ta)
theorem liesP_held {w : World} {P : Nat → Prop} {t : LT} {b o : Nat} : LiesP w P t b o ↔ (P b ∧ (∀ j v, t.cells[j]? = some v → w.cell? ⟨b, o + j, none⟩ = some v) ∧ HeldP w P t) := liesP_eq

theorem SpotP.mono {P Q : Nat → Prop} {a : Option Addr} {n c : Nat} (h : SpotP P a n c) (hPQ : ∀ k, P k → Q k) : SpotP Q a n c := ⟨h.1, h.2.1, fun hn => ⟨(h.2.2.1 hn).1, hPQ _ (h.2.2.1 hn).2⟩, h.2.2.2⟩
theorem Sl.keepP {w w' : World} {A : Option Addr} {n cap : Nat} {xs : List Nat} (h : Sl w A n cap xs) (hs : w.heap.size ≤ w'.heap.size) (hk : 0 < n → w'.heap[blk A]? = w.heap[blk A]?) : Sl w' A n cap xs := by
  refine ⟨h.len, h.le, h.max, h.ok, fun hp => ?_, h.nil_⟩
  obtain ⟨b, off, rfl, hb, hc⟩ := h.here hp
  exact ⟨b, off, rfl, by omega, fun i hi => (World.cell?_of_block (w := w) (a := ⟨b, off + i, none⟩) (hk hp)).trans (hc i hi)⟩
mutual
theorem LiesP.keep {w w' : World} {P Q : Nat → Prop} (hs : w.heap.size ≤ w'.heap.size) (hk : ∀ k, P k → Q k ∧ w'.heap[k]? = w.heap[k]?) : ∀ (t : LT) (b o : Nat), LiesP w P t b o → LiesP w' Q t b o
  | .mk k g la ln lc ys bb s ia ic items ta tc tail, b, o, h => by
    simp only [LiesP] at h ⊢
    obtain ⟨h1, h2, h3, h4, h5, h6, h7⟩ := h
    exact ⟨(hk b h1).1, fun j v hj => (World.cell?_of_block (hk b h1).2).trans (h2 j v hj), ⟨h3.1.keepP hs (fun hp => (hk _ (h3.2.1 hp)).2), fun hp => (hk _ (h3.2.1 hp)).1, h3.2.2⟩, h4.mono (fun k h => (hk k h).1), h5.mono (fun k h => (hk k h).1), LiesPR.keep hs hk items _ _ h6, LiesPR.keep hs hk tail _ _ h7⟩
theorem LiesPR.keep {w w' : World} {P Q : Nat → Prop} (hs : w.heap.size ≤ w'.heap.size) (hk : ∀ k, P k → Q k ∧ w'.heap[k]? = w.heap[k]?) : ∀ (l : List LT) (b o : Nat), LiesPR w P l b o → LiesPR w' Q l b o
  | [], _, _, _ => by simp [LiesPR]
  | t :: l, b, o, h => by
    simp only [LiesPR] at h ⊢
    exact ⟨LiesP.keep hs hk t b o h.1, LiesPR.keep hs hk l b (o + 7) h.2⟩
end
theorem HeldP.keep {w w' : World} {P Q : Nat → Prop} {t : LT} (h : HeldP w P t) (hs : w.heap.size ≤ w'.heap.size) (hk : ∀ k, P k → Q k ∧ w'.heap[k]? = w.heap[k]?) : HeldP w' Q t :=
  ⟨⟨h.1.1.keepP hs (fun hp => (hk _ (h.1.2.1 hp)).2), fun hp => (hk _ (h.1.2.1 hp)).1, h.1.2.2⟩, h.2.1.mono (fun k h => (hk k h).1), h.2.2.1.mono (fun k h => (hk k h).1), LiesPR.keep hs hk _ _ _ h.2.2.2.1, LiesPR.keep hs hk _ _ _ h.2.2.2.2⟩
theorem SpotP.spot {P : Nat → Prop} {M : Nat} {a : Option Addr} {n c : Nat} (h : SpotP P a n c) (hP : ∀ k, P k → k < M) : Spot M a n c := ⟨h.1, h.2.1, fun hn => ⟨(h.2.2.1 hn).1, hP _ (h.2.2.1 hn).2⟩, h.2.2.2⟩
mutual
theorem LiesP.lies {w : World} {P : Nat → Prop} {M : Nat} (hP : ∀ k, P k → k < M) : ∀ (t : LT) (b o : Nat), LiesP w P t b o → Lies w M t b o
  | .mk k g la ln lc ys bb s ia ic items ta tc tail, b, o, h => by
    simp only [LiesP] at h
    simp only [Lies]
    obtain ⟨h1, h2, h3, h4, h5, h6, h7⟩ := h
    exact ⟨hP b h1, h2, ⟨h3.1, fun hp => hP _ (h3.2.1 hp), h3.2.2⟩, h4.spot hP, h5.spot hP, LiesPR.lies hP items _ _ h6, LiesPR.lies hP tail _ _ h7⟩
theorem LiesPR.lies {w : World} {P : Nat → Prop} {M : Nat} (hP : ∀ k, P k → k < M) : ∀ (l : List LT) (b o : Nat), LiesPR w P l b o → LiesR w M l b o
  | [], _, _, _ => by simp [LiesR]
  | t :: l, b, o, h => by
    simp only [LiesPR] at h
    simp only [LiesR]
    exact ⟨LiesP.lies hP t b o h.1, LiesPR.lies hP l b (o + 7) h.2⟩
end
theorem HeldP.held {w : World} {P : Nat → Prop} {M : Nat} {t : LT} (h : HeldP w P t) (hP : ∀ k, P k → k < M) : Held w M t :=
  ⟨⟨h.1.1, fun hp => hP _ (h.1.2.1 hp), h.1.2.2⟩, h.2.1.spot hP, h.2.2.1.spot hP, LiesPR.lies hP _ _ _ h.2.2.2.1, LiesPR.lies hP _ _ _ h.2.2.2.2⟩

/-- All of them are held in blocks of that sort. -/
def AllP (w : World) (P : Nat → Prop) (l : List LT) : Prop := ∀ t ∈ l, HeldP w P t
theorem AllP.keep {w w' : World} {P Q : Nat → Prop} {l : List LT} (h : AllP w P l) (hs : w.heap.size ≤ w'.heap.size) (hk : ∀ k, P k → Q k ∧ w'.heap[k]? = w.heap[k]?) : AllP w' Q l := fun t ht => (h t ht).keep hs hk
end
end Go.Proofs.YthdhdmmlmbkalaaGreatDoor
namespace Go.Proofs.YthdhdmmlmbkalaaGreatDoor
section
open Go.RowKit

/-- A block at B or above, that is no row of bytes, and may be written. -/
def Fresh (w : World) (B k : Nat) : Prop := B ≤ k ∧ ∃ c T, w.heap[k]? = some (.cells c T (0, 0)) ∧ T ≠ 5 ∧ T ≠ 128
theorem Fresh.of {w : World} {B k : Nat} {c : Array Value} {T : TypeId} (hB : B ≤ k) (h : w.heap[k]? = some (.cells c T (0, 0))) (hT : T ≠ 5 ∧ T ≠ 128) : Fresh w B k := ⟨hB, _, _, h, hT⟩
theorem Fresh.free {w : World} {B k : Nat} (h : Fresh w B k) (o : Nat) : w.frozen? ⟨k, o, none⟩ = false := by
  obtain ⟨_, c, T, hx, _⟩ := h
  simp [World.frozen?, hx]
theorem Fresh.lt {w : World} {B k : Nat} (h : Fresh w B k) : k < w.heap.size := by
  obtain ⟨_, c, T, ho, _⟩ := h
  exact (Array.getElem?_eq_some_iff.1 ho).1
theorem Fresh.low {w : World} {B B' k : Nat} (h : Fresh w B k) (hB : B' ≤ B) : Fresh w B' k := ⟨Nat.le_trans hB h.1, h.2⟩
theorem Fresh.same {w w' : World} {B k : Nat} (h : Fresh w B k) (e : w'.heap[k]? = w.heap[k]?) : Fresh w' B k := ⟨h.1, by rw [e]; exact h.2⟩
theorem HeldP.below {w w' : World} {B B' : Nat} {t : LT} (h : HeldP w (Fresh w B) t) (hb : Below w.heap.size w w') (hB : B' ≤ B) : HeldP w' (Fresh w' B') t :=
  h.keep hb.size fun k hk => ⟨(hk.same (hb.block k hk.lt)).low hB, hb.block k hk.lt⟩
/-- Only blocks from L to U are other ones. -/
def Low (L U : Nat) (w w' : World) : Prop := w.heap.size ≤ w'.heap.size ∧ ∀ k, (k < L ∨ U ≤ k) → w'.heap[k]? = w.heap[k]?
theorem Low.refl (L U : Nat) (w : World) : Low L U w w := ⟨Nat.le_refl _, fun _ _ => rfl⟩
theorem Low.setCell {L U : Nat} {w w' : World} {p : Addr} (h : Low L U w w') (h1 : L ≤ p.block) (h2 : p.block < U) (v : Value) : Low L U w (w'.setCell p v) :=
  ⟨Nat.le_trans h.1 (KeepsWalks.setCell w' p v).size, fun k hk => (Below.heap_setCell _ _ _ _ (by omega)).trans (h.2 k hk)⟩
theorem HeldP.low {L U B : Nat} {w w' : World} {t : LT} (h : HeldP w (Fresh w U) t) (hl : Low L U w w') (hB : B ≤ U) : HeldP w' (Fresh w' B) t :=
  h.keep hl.1 fun k hk => ⟨(hk.same (hl.2 k (.inr hk.1))).low hB, hl.2 k (.inr hk.1)⟩
/-- What normal leaves. -/
def NPost (d : DT) (w : World) (e : Ending) (w' : World) : Prop := ∃ u : LT, e = .returned (.agg #[.int .i64 u.k, .bool u.g, .slice u.la u.ln u.lc, .bool u.bb, .string u.s, .slice u.ia u.items.length u.ic, .slice u.ta u.tail.length u.tc]) ∧ HeldP w' (Fresh w' w.heap.size) u ∧ shape u = d ∧ Below w.heap.size w w'
def plainT (k : Int) (g : Bool) (la : Option Addr) (ln lc : Nat) (ys : List Nat) (bb : Bool) (s : ByteArray) : LT := .mk k g la ln lc ys bb s none 0 [] none 0 []
theorem plainT_held {w : World} {P : Nat → Prop} {k : Int} {g bb : Bool} {la : Option Addr} {ln lc : Nat} {ys : List Nat} {s : ByteArray} (h : Sl w la ln lc ys ∧ (0 < ln → P (blk la)) ∧ s.size ≤ maxLen) : HeldP w P (plainT k g la ln lc ys bb s) :=
  ⟨h, ⟨by simp [plainT, LT.items, LT.ic], by simp [plainT, LT.ic], fun h => absurd h (by simp [plainT, LT.items]), fun _ => rfl⟩, ⟨by simp [plainT, LT.tail, LT.tc], by simp [plainT, LT.tc], fun h => absurd h (by simp [plainT, LT.tail]), fun _ => rfl⟩, by simp [plainT, LT.items, LiesPR], by simp [plainT, LT.tail, LiesPR]⟩
theorem plainT_shape (k : Int) (g : Bool) (la : Option Addr) (ln lc : Nat) (ys : List Nat) (bb : Bool) (s : ByteArray) : shape (plainT k g la ln lc ys bb s) = .mk k g ys bb s [] [] := by simp [plainT, shape, shapes]
theorem empty_le : (⟨#[]⟩ : ByteArray).size ≤ maxLen := by decide

end
end Go.Proofs.YthdhdmmlmbkalaaGreatDoor
namespace Go.Proofs.YthdhdmmlmbkalaaGreatDoor
section
open Go.RowKit

mutual
/-- No number in it has more than 35184372087808 limbs. -/
def Tame : LT → Prop
  | .mk _ _ _ ln _ _ _ _ _ _ items _ _ tail => ln ≤ 35184372087808 ∧ TameR items ∧ TameR tail
def TameR : List LT → Prop
  | [] => True
  | t :: l => Tame t ∧ TameR l
end
theorem tame_eq (t : LT) : Tame t ↔ t.ln ≤ 35184372087808 ∧ TameR t.items ∧ TameR t.tail := by cases t; simp [Tame, LT.ln, LT.items, LT.tail]
theorem tameR_at : ∀ (l : List LT) (k : Nat) (h : k < l.length), TameR l → Tame l[k]
  | t :: l, 0, _, h => by simp only [TameR] at h; exact h.1
  | t :: l, k + 1, hk, h => by simp only [TameR] at h; exact tameR_at l k (by simpa using hk) h.2
end
end Go.Proofs.YthdhdmmlmbkalaaGreatDoor
namespace Go.Proofs.YthdhdmmlmbkalaaGreatDoor
section
open Go.RowKit

theorem spotP_nil (P : Nat → Prop) : SpotP P none 0 0 := ⟨Nat.le_refl _, Nat.zero_le _, fun h => absurd h (by simp), fun _ => rfl⟩
theorem set7_below {w a : World} {B L : Nat} {v0 v1 v2 v3 v4 v5 v6 : Value} (h : Below L a w) (hB : L ≤ B) :
    Below L a (((((((w.setCell ⟨B, 0, none⟩ v0).setCell ⟨B, 1, none⟩ v1).setCell ⟨B, 2, none⟩ v2).setCell ⟨B, 3, none⟩ v3).setCell ⟨B, 4, none⟩ v4).setCell ⟨B, 5, none⟩ v5).setCell ⟨B, 6, none⟩ v6) :=
  ((((((h.setCell (p := ⟨B, 0, none⟩) hB v0).setCell (p := ⟨B, 1, none⟩) hB v1).setCell (p := ⟨B, 2, none⟩) hB v2).setCell (p := ⟨B, 3, none⟩) hB v3).setCell (p := ⟨B, 4, none⟩) hB v4).setCell (p := ⟨B, 5, none⟩) hB v5).setCell (p := ⟨B, 6, none⟩) hB v6
theorem set7_low {w a : World} {B L U : Nat} {v0 v1 v2 v3 v4 v5 v6 : Value} (h : Low L U a w) (h1 : L ≤ B) (h2 : B < U) :
    Low L U a (((((((w.setCell ⟨B, 0, none⟩ v0).setCell ⟨B, 1, none⟩ v1).setCell ⟨B, 2, none⟩ v2).setCell ⟨B, 3, none⟩ v3).setCell ⟨B, 4, none⟩ v4).setCell ⟨B, 5, none⟩ v5).setCell ⟨B, 6, none⟩ v6) :=
  ((((((h.setCell (p := ⟨B, 0, none⟩) h1 h2 v0).setCell (p := ⟨B, 1, none⟩) h1 h2 v1).setCell (p := ⟨B, 2, none⟩) h1 h2 v2).setCell (p := ⟨B, 3, none⟩) h1 h2 v3).setCell (p := ⟨B, 4, none⟩) h1 h2 v4).setCell (p := ⟨B, 5, none⟩) h1 h2 v5).setCell (p := ⟨B, 6, none⟩) h1 h2 v6
end
end Go.Proofs.YthdhdmmlmbkalaaGreatDoor
namespace Go.Proofs.YthdhdmmlmbkalaaGreatDoor
section
open Go.RowKit

theorem own_lit0' (w : World) (base : Nat) (hb : base ≤ w.heap.size) : Own (w.alloc (.cells #[] 149)) base (.slice (some ⟨w.heap.size, 0, none⟩) 0 0) [] :=
  ⟨Ok.nil, World.ownsRow_lit (base := base) (size := 1) w #[] 0 hb (by unfold maxLen; omega) rfl⟩
set_option maxRecDepth 100000 in
theorem nil_yes (w : World) : (binOp .eql 22 (.slice none 0 0) (.slice none 0 0)).run Tryz.prog w = .ok (.bool true) w := by
  first | rfl | kernel_rfl
set_option maxRecDepth 100000 in
theorem nil_no (ad : Addr) (n c : Nat) (w : World) : (binOp .eql 22 (.slice (some ad) n c) (.slice none 0 0)).run Tryz.prog w = .ok (.bool false) w := by
  first | rfl | kernel_rfl
/-- What Clone leaves. -/
def CPost (n : Nat) (xs : List Nat) (w : World) (e : Ending) (w' : World) : Prop := ∃ A c, e = .returned (.slice A n c) ∧ Sl w' A n c xs ∧ (0 < n → Fresh w' w.heap.size (blk A)) ∧ Below w.heap.size w w'
set_option maxHeartbeats 800000 in
theorem clone_any (A : Option Addr) (n cap : Nat) (xs : List Nat) (w : World) (h : Sl w A n cap xs) (hn : n ≤ 35184372087808) :
    Calls Tryz.prog 143 #[.slice A n cap] w (CPost n xs w) := by
  have hm := h.max
  have hl := h.le
  unfold maxLen at hm
  obtain ⟨i0, hi, hz0, hz1, hz2⟩ := info_parts info32
  cases A with
  | none =>
    have hc0 := h.nil_ rfl
    subst hc0
    obtain rfl : n = 0 := by omega
    have H := Lib.hid h
    clear h
    have hnil := nil_yes w
    go_enter Tryz.func143, Tryz.ntmps143
    go_wp2_with fail
    go_ret
    exact ⟨none, 0, rfl, H.out, fun h => absurd h (by decide), Below.refl _ _⟩
  | some ad =>
    have H := Lib.hid h
    have H2 := Lib.hid (h.alloc (.cells #[] 149))
    clear h
    have ho := own_lit0' w w.heap.size (Nat.le_refl _)
    have hnil := nil_no ad n cap w
    go_enter Tryz.func143, Tryz.ntmps143
    go_wp2_with (at_builtin; refine wpList_append_limbs rfl (.tmp 5) (.tmp 6) rfl i0 Tryz.underlying22 hi hz0 hz1 hz2 w.heap.size _ [] rfl ho _ _ _ _ rfl H2.out (by simp; omega) (by simp) ?_; intro v' w1 hown1 hg1; have HO := Lib.hid (And.intro hown1 hg1); clear hown1 hg1)
    go_ret
    have hnew := HO.out.1.new
    rw [List.nil_append] at hnew
    obtain ⟨A', n', c', rfl, hs, hf⟩ := hnew
    obtain rfl : n' = n := by rw [hs.len, H.out.len]
    refine ⟨A', c', rfl, hs, fun hp => ?_, ((Below.refl _ _).alloc (Nat.le_refl _) _).grown HO.out.2 (by simp) (fun j hj => by have h9 : some w.heap.size = some j := hj; injection h9 with h9; omega)⟩
    rcases hf with ⟨_, h0⟩ | ⟨g, cur, rfl, hg, hgc, _⟩
    · have := hs.le; omega
    · exact Fresh.of hg hgc (by decide)

theorem wpList_append_room {P : Program} {w : World} {ops : Array Oper} {rest : List Oper} {o : Oper} {a : Act} {Q : Exit → Act → World → Prop} (hgd : o.guard = none) (s x : Operand) (t : TypeId)
    (ho : o.op = .call { callee := .builtin .append, args := #[s, x], argTypes := #[t, t] }) (e : TypeId) (i : TypeInfo) (ht : P.underlying t = some (.slice e)) (hi : P.info? e = some i)
    (g sLen sCap : Nat) (cur : Array Value) (hg : w.heap[g]? = some (.cells cur e (0, 0))) (hs : a.eval s = .slice (some ⟨g, 0, none⟩) sLen sCap)
    (ad : Addr) (m c : Nat) (news : List Value) (hx : a.eval x = .slice (some ad) m c) (hl : news.length = m * i.size) (hnews : ∀ j u, news[j]? = some u → w.cell? (ad.add j) = some u) (h1 : ∀ u ∈ news, u.oneCell' = true)
    (hroom : sLen + m ≤ sCap) (hfit : sLen * i.size + news.length ≤ cur.size)
    (h : ∀ w', w' = w.setRow g (cur.toList.take (sLen * i.size) ++ news ++ cur.toList.drop (sLen * i.size + news.length)).toArray → wpList P ops Q rest (a.put o.dst (.slice (some ⟨g, 0, none⟩) (sLen + m) sCap)) w') : wpList P ops Q (o :: rest) a w := by
  refine wpList_plain hgd fun K hK => ?_
  have hrun := run_append_room (P := P) w t o.type e i ht hi g sLen sCap cur hg ad m c news hl hnews h1 hroom hfit
  unfold Oper.wp
  generalize (w.setRow g (cur.toList.take (sLen * i.size) ++ news ++ cur.toList.drop (sLen * i.size + news.length)).toArray) = w9 at h hrun
  simp [execOp, ho, resolve, invoke, builtin, hs, hx, hrun, Result.andThen]
  exact hK _ _ (h w9 rfl)

theorem setRow_other (w : World) (g k : Nat) (X : Array Value) (h : k ≠ g) : (w.setRow g X).heap[k]? = w.heap[k]? := by
  simp [World.setRow, Array.getElem?_modify, Ne.symm h]
/-- The block g with these cells from the n-th datum on. -/
def fillAt (cur : Array Value) (n : Nat) (news : List Value) : Array Value := (cur.toList.take (n * 7) ++ news ++ cur.toList.drop (n * 7 + news.length)).toArray
set_option maxRecDepth 100000 in
set_option maxHeartbeats 1600000 in
theorem take_some (R g n cap m c : Nat) (ad : Addr) (cur : Array Value) (news : List Value) (w : World) (hm : 0 < m) (hR : w.cell? ⟨R, 0, none⟩ = some (.slice (some ⟨g, 0, none⟩) n cap)) (hf : w.frozen? ⟨R, 0, none⟩ = false) (hRg : R ≠ g)
    (hg : w.heap[g]? = some (.cells cur 27 (0, 0))) (hcur : cur.size = cap * 7) (hroom : n + m ≤ cap) (hcap : cap ≤ 1000000000) (hl : news.length = m * 7) (hnews : ∀ j u, news[j]? = some u → w.cell? (ad.add j) = some u) (h1 : ∀ u ∈ news, u.oneCell' = true) :
    Calls Tryz.prog 141 #[.slice (some ad) m c, .pointer (some ⟨R, 0, none⟩)] w fun e w' => e = .returned (.slice (some ⟨g, n * 7, none⟩) m m) ∧ w' = (w.setRow g (fillAt cur n news)).setCell ⟨R, 0, none⟩ (.slice (some ⟨g, 0, none⟩) (n + m) cap) := by
  obtain ⟨i0, hi0, hz0, hz1, hz2⟩ := info_parts infoD
  have hmz : (((m : Nat) : Int) == 0) = false := beq_eq_false_iff_ne.2 (by omega)
  have hRc : ∀ X, (w.setRow g X).cell? ⟨R, 0, none⟩ = some (.slice (some ⟨g, 0, none⟩) n cap) := fun X => (World.cell?_of_block (w := w) (a := ⟨R, 0, none⟩) (setRow_other w g R X hRg)).trans hR
  have hRf : ∀ X, (w.setRow g X).frozen? ⟨R, 0, none⟩ = false := fun X => (World.frozen?_of_block (w := w) (a := ⟨R, 0, none⟩) (setRow_other w g R X hRg)).trans hf
  have HR := Lib.hid (And.intro hRc hRf)
  unfold fillAt
  clear hRc hRf
  have HH := Lib.hid (And.intro hg (And.intro hcur (And.intro hl (And.intro hnews h1))))
  clear hg hcur hl hnews h1
  go_enter Tryz.func141, Tryz.ntmps141
  go_wp2_with (at_builtin; refine wpList_append_room rfl (.tmp 10) (.tmp 11) 25 rfl 27 i0 Tryz.underlying25 hi0 g n cap cur HH.out.1 rfl ad m c news rfl (by rw [hz1]; exact HH.out.2.2.1) HH.out.2.2.2.1 HH.out.2.2.2.2 hroom (by rw [hz1, HH.out.2.1, HH.out.2.2.1]; omega) ?_; intro w9 hw9; have hRc : w9.cell? ⟨R, 0, none⟩ = some (.slice (some ⟨g, 0, none⟩) n cap) := (by rw [hw9]; exact HR.out.1 _); have hRf : w9.frozen? ⟨R, 0, none⟩ = false := (by rw [hw9]; exact HR.out.2 _); have HW9 := Lib.hid hw9; clear hw9)
  go_ret
  refine ⟨?_, ?_⟩
  · simp
  · rw [HW9.out, hz1]

set_option maxRecDepth 100000 in
theorem take_none (R c : Nat) (a : Option Addr) (w : World) : Calls Tryz.prog 141 #[.slice a 0 c, .pointer (some ⟨R, 0, none⟩)] w fun e w' => e = .returned (.slice none 0 0) ∧ w' = w := by
  go_enter Tryz.func141, Tryz.ntmps141
  go_wp2_with fail
  go_ret
  exact ⟨rfl, rfl⟩
end
end Go.Proofs.YthdhdmmlmbkalaaGreatDoor
namespace Go.Proofs.YthdhdmmlmbkalaaGreatDoor
section
open Go.RowKit

/-- A list of data that lie in the room g from place p on. -/
def childV (g p m : Nat) : Value := if m = 0 then .slice none 0 0 else .slice (some ⟨g, p * 7, none⟩) m m
def DT.items : DT → List DT | .mk _ _ _ _ _ items _ => items
def DT.tail : DT → List DT | .mk _ _ _ _ _ _ tail => tail
def DT.g : DT → Bool | .mk _ g _ _ _ _ _ => g
def DT.ys : DT → List Nat | .mk _ _ ys _ _ _ _ => ys
def DT.bb : DT → Bool | .mk _ _ _ bb _ _ _ => bb
def DT.s : DT → ByteArray | .mk _ _ _ _ s _ _ => s
/-- Place p of the room holds these shapes. -/
def AtS (S : List DT) (lo p : Nat) (l : List DT) : Prop := l ≠ [] → lo ≤ p ∧ ∀ i (h : i < l.length), S[p + i]? = some l[i]
/-- The datum at b, o is a copy: its limbs are its own, its lists lie in the room g. -/
def Parted (w : World) (P : Nat → Prop) (g : Nat) (S : List DT) (lo : Nat) (d : DT) (b o : Nat) : Prop :=
  ∃ la lc p q, (∀ j v, ([.int .i64 d.k, .bool d.g, .slice la d.ys.length lc, .bool d.bb, .string d.s, childV g p d.items.length, childV g q d.tail.length] : List Value)[j]? = some v → w.cell? ⟨b, o + j, none⟩ = some v) ∧
    (Sl w la d.ys.length lc d.ys ∧ (0 < d.ys.length → P (blk la)) ∧ d.s.size ≤ maxLen) ∧ AtS S lo p d.items ∧ AtS S lo q d.tail ∧ d.items.length ≤ maxLen ∧ d.tail.length ≤ maxLen
theorem dt_eta (d : DT) : DT.mk d.k d.g d.ys d.bb d.s d.items d.tail = d := by cases d; rfl
theorem child_spot {P : Nat → Prop} {g : Nat} (hg : P g) (p m : Nat) (hm : m ≤ maxLen) : ∃ a c, childV g p m = .slice a m c ∧ SpotP P a m c ∧ (0 < m → a = some ⟨g, p * 7, none⟩) := by
  unfold childV
  by_cases h : m = 0
  · rw [if_pos h, h]
    exact ⟨none, 0, rfl, spotP_nil P, fun h => absurd h (by decide)⟩
  · rw [if_neg h]
    exact ⟨_, m, rfl, ⟨Nat.le_refl _, hm, fun _ => ⟨rfl, hg⟩, fun e => by cases e⟩, fun _ => rfl⟩
/-- A row of trees out of those at each place. -/
theorem row_of {w : World} {P : Nat → Prop} {g : Nat} {S : List DT} : ∀ (l : List DT) (p : Nat), (∀ i (h : i < l.length), ∃ u : LT, shape u = l[i] ∧ LiesP w P u g ((p + i) * 7)) → ∃ us : List LT, shapes us = l ∧ LiesPR w P us g (p * 7)
  | [], p, _ => ⟨[], shapes_nil, by rw [liesPR_nil]; trivial⟩
  | d :: l, p, h => by
    obtain ⟨u, hu, hl⟩ := h 0 (by simp)
    obtain ⟨us, hus, hr⟩ := row_of (S := S) l (p + 1) fun i hi => by
      obtain ⟨v, hv, hvl⟩ := h (i + 1) (by simpa using hi)
      exact ⟨v, by simpa using hv, by rwa [show p + (i + 1) = p + 1 + i by omega] at hvl⟩
    refine ⟨u :: us, by rw [shapes_cons, hus, hu]; rfl, ?_⟩
    rw [liesPR_cons]
    exact ⟨by simpa using hl, by rwa [show p * 7 + 7 = (p + 1) * 7 by omega]⟩
/-- A copy is a tree, if those in its lists are. -/
theorem parted_tree {w : World} {P : Nat → Prop} {g : Nat} (hg : P g) {S : List DT} {lo : Nat} {d : DT} {b o : Nat} (h : Parted w P g S lo d b o) (hS : ∀ i (x : DT), lo ≤ i → S[i]? = some x → ∃ u : LT, shape u = x ∧ LiesP w P u g (i * 7)) :
    ∃ u : LT, shape u = d ∧ (∀ j v, u.cells[j]? = some v → w.cell? ⟨b, o + j, none⟩ = some v) ∧ HeldP w P u := by
  obtain ⟨la, lc, p, q, hc, hl, hp, hq, m1, m2⟩ := h
  have row : ∀ (l : List DT) (r : Nat), AtS S lo r l → ∃ us : List LT, shapes us = l ∧ LiesPR w P us g (r * 7) := fun l r hr => by
    refine row_of (S := S) l r fun i hi => ?_
    have h1 := hr (fun e => by rw [e] at hi; cases hi)
    obtain ⟨u, hu, hul⟩ := hS (r + i) l[i] (by omega) (h1.2 i hi)
    exact ⟨u, hu, hul⟩
  obtain ⟨us, hus, hur⟩ := row d.items p hp
  obtain ⟨vs, hvs, hvr⟩ := row d.tail q hq
  obtain ⟨a1, c1, e1, s1, f1⟩ := child_spot hg p d.items.length m1
  obtain ⟨a2, c2, e2, s2, f2⟩ := child_spot hg q d.tail.length m2
  have n1 : us.length = d.items.length := by rw [← shapes_length, hus]
  have n2 : vs.length = d.tail.length := by rw [← shapes_length, hvs]
  rw [e1, e2] at hc
  refine ⟨.mk d.k d.g la d.ys.length lc d.ys d.bb d.s a1 c1 us a2 c2 vs, ?_, ?_, hl, ?_, ?_, ?_, ?_⟩
  · simp only [shape, hus, hvs]; exact dt_eta d
  · intro j v hj
    refine hc j v ?_
    have hcs : LT.cells (.mk d.k d.g la d.ys.length lc d.ys d.bb d.s a1 c1 us a2 c2 vs) = [.int .i64 d.k, .bool d.g, .slice la d.ys.length lc, .bool d.bb, .string d.s, .slice a1 us.length c1, .slice a2 vs.length c2] := rfl
    rw [hcs, n1, n2] at hj
    exact hj
  · show SpotP P a1 us.length c1
    rw [n1]; exact s1
  · show SpotP P a2 vs.length c2
    rw [n2]; exact s2
  · show LiesPR w P us (blk a1) (ofs a1)
    rcases Nat.eq_zero_or_pos us.length with h0 | h0
    · rw [List.length_eq_zero_iff.1 h0, liesPR_nil]; trivial
    · rw [f1 (by omega)]; exact hur
  · show LiesPR w P vs (blk a2) (ofs a2)
    rcases Nat.eq_zero_or_pos vs.length with h0 | h0
    · rw [List.length_eq_zero_iff.1 h0, liesPR_nil]; trivial
    · rw [f2 (by omega)]; exact hvr
/-- All the room is trees, when all of it was copied. -/
theorem room_trees {w : World} {P : Nat → Prop} {g : Nat} (hg : P g) (S : List DT) (h : ∀ j (hj : j < S.length), Parted w P g S (j + 1) S[j] g (j * 7)) : ∀ (n j : Nat) (x : DT), S.length - j ≤ n → S[j]? = some x → ∃ u : LT, shape u = x ∧ LiesP w P u g (j * 7)
  | 0, j, x, hn, hx => by
    have := (List.getElem?_eq_some_iff.1 hx).1
    omega
  | n + 1, j, x, hn, hx => by
    obtain ⟨hj, rfl⟩ := List.getElem?_eq_some_iff.1 hx
    obtain ⟨u, hu, hc, hh⟩ := parted_tree hg (h j hj) fun i x hi hx => room_trees hg S h n i x (by have := (List.getElem?_eq_some_iff.1 hx).1; omega) hx
    exact ⟨u, hu, liesP_held.2 ⟨hg, hc, hh⟩⟩
end
end Go.Proofs.YthdhdmmlmbkalaaGreatDoor
namespace Go.Proofs.YthdhdmmlmbkalaaGreatDoor
section
open Go.RowKit

/-- The variable in block R is the room in block g, n of cap places used. -/
def RoomAt (w : World) (R g n cap : Nat) : Prop := w.cell? ⟨R, 0, none⟩ = some (.slice (some ⟨g, 0, none⟩) n cap) ∧ w.frozen? ⟨R, 0, none⟩ = false ∧ ∃ cur, w.heap[g]? = some (.cells cur 27 (0, 0)) ∧ cur.size = cap * 7
theorem RoomAt.below {w w' : World} {R g n cap : Nat} (h : RoomAt w R g n cap) (hb : Below w.heap.size w w') : RoomAt w' R g n cap := by
  obtain ⟨h1, h2, cur, h3, h4⟩ := h
  have hR := World.block_lt_of_cell? w _ h1
  have hg := (Array.getElem?_eq_some_iff.1 h3).1
  exact ⟨(hb.cell hR).trans h1, (hb.frozen hR).trans h2, cur, (hb.block g hg).trans h3, h4⟩
theorem RoomAt.set {w : World} {R g n cap : Nat} (h : RoomAt w R g n cap) {b : Nat} (o : Nat) (hp : b ≠ R) (v : Value) : RoomAt (w.setCell ⟨b, o, none⟩ v) R g n cap := by
  obtain ⟨h1, h2, cur, h3, h4⟩ := h
  refine ⟨(World.cell?_of_block (w := w) (a := ⟨R, 0, none⟩) (Below.heap_setCell _ _ _ _ (by show R ≠ b; exact Ne.symm hp))).trans h1, (World.frozen?_of_block (w := w) (a := ⟨R, 0, none⟩) (Below.heap_setCell _ _ _ _ (by show R ≠ b; exact Ne.symm hp))).trans h2, ?_⟩
  by_cases hg : g = b
  · refine ⟨cur.setIfInBounds o v, ?_, by simpa using h4⟩
    subst hg
    simp [World.setCell, Array.getElem?_modify, h3]
  · exact ⟨cur, (Below.heap_setCell _ _ _ _ (by show g ≠ b; exact hg)).trans h3, h4⟩
/-- What take leaves. -/
structure Eff (w w' : World) (R g n m cap : Nat) (news : List Value) : Prop where
  size : w'.heap.size = w.heap.size
  other : ∀ k, k ≠ R → k ≠ g → w'.heap[k]? = w.heap[k]?
  room : RoomAt w' R g (n + m) cap
  low : ∀ off, off < n * 7 → w'.cell? ⟨g, off, none⟩ = w.cell? ⟨g, off, none⟩
  new : ∀ j v, news[j]? = some v → w'.cell? ⟨g, n * 7 + j, none⟩ = some v
  below : ∀ B, B ≤ R → B ≤ g → Below B w w'
  frozen : ∀ off, w'.frozen? ⟨g, off, none⟩ = false
theorem fillAt_size (cur : Array Value) (n m cap : Nat) (news : List Value) (hc : cur.size = cap * 7) (hl : news.length = m * 7) (hr : n + m ≤ cap) : (fillAt cur n news).size = cap * 7 := by
  unfold fillAt
  rw [List.size_toArray, List.length_append, List.length_append, List.length_take, List.length_drop, Array.length_toList, hc, hl]
  omega
theorem setRow_here {w : World} {g : Nat} {cur X : Array Value} {t : TypeId} {fr : Nat × Nat} (h : w.heap[g]? = some (.cells cur t fr)) : (w.setRow g X).heap[g]? = some (.cells X t fr) := by
  simp [World.setRow, Array.getElem?_modify, h]
theorem setRow_size (w : World) (g : Nat) (X : Array Value) : (w.setRow g X).heap.size = w.heap.size := by simp [World.setRow]
theorem setCell_size (w : World) (p : Addr) (v : Value) : (w.setCell p v).heap.size = w.heap.size := by simp [World.setCell]

theorem take_eff (R g n cap m c : Nat) (a : Option Addr) (news : List Value) (w : World) (hr : RoomAt w R g n cap) (hRg : R ≠ g) (hroom : n + m ≤ cap) (hcap : cap ≤ 1000000000) (hl : news.length = m * 7) (hnews : 0 < m → ∃ ad, a = some ad ∧ ∀ j u, news[j]? = some u → w.cell? (ad.add j) = some u) (h1 : ∀ u ∈ news, u.oneCell' = true) :
    Calls Tryz.prog 141 #[.slice a m c, .pointer (some ⟨R, 0, none⟩)] w fun e w' => ∃ a1 c1, e = .returned (.slice a1 m c1) ∧ childV g n m = .slice a1 m c1 ∧ Eff w w' R g n m cap news := by
  obtain ⟨r1, r2, cur, r3, r4⟩ := hr
  rcases Nat.eq_zero_or_pos m with h0 | h0
  · subst h0
    refine (take_none R c a w).mono ?_
    rintro e w' ⟨rfl, rfl⟩
    have hn : news = [] := List.length_eq_zero_iff.1 (by omega)
    exact ⟨none, 0, rfl, by unfold childV; rw [if_pos rfl], ⟨rfl, fun _ _ _ => rfl, ⟨r1, r2, cur, r3, r4⟩, fun _ _ => rfl, fun j v hj => by rw [hn] at hj; simp at hj, fun _ _ _ => Below.refl _ _, fun off => Lib.frozen_of_heap r3 off⟩⟩
  · obtain ⟨ad, rfl, hn⟩ := hnews h0
    refine (take_some R g n cap m c ad cur news w h0 r1 r2 hRg r3 r4 hroom hcap hl hn h1).mono ?_
    rintro e w' ⟨rfl, rfl⟩
    have hg1 : ((w.setRow g (fillAt cur n news)).setCell ⟨R, 0, none⟩ (.slice (some ⟨g, 0, none⟩) (n + m) cap)).heap[g]? = some (.cells (fillAt cur n news) 27 (0, 0)) := (Below.heap_setCell _ _ _ _ (by show g ≠ R; exact Ne.symm hRg)).trans (setRow_here r3)
    have hsz : (fillAt cur n news).size = cap * 7 := fillAt_size cur n m cap news r4 hl hroom
    have hother : ∀ k, k ≠ R → k ≠ g → ((w.setRow g (fillAt cur n news)).setCell ⟨R, 0, none⟩ (.slice (some ⟨g, 0, none⟩) (n + m) cap)).heap[k]? = w.heap[k]? := fun k hk hk2 => (Below.heap_setCell _ _ _ _ (by show k ≠ R; exact hk)).trans (setRow_other w g k _ hk2)
    obtain ⟨curR, tR, fR, hRb⟩ : ∃ cs t fr, w.heap[R]? = some (.cells cs t fr) := by
      simp only [World.cell?] at r1
      revert r1
      cases hh : w.heap[R]? with
      | none => simp
      | some o => cases o <;> simp
    have hR1 : (w.setRow g (fillAt cur n news)).heap[R]? = some (.cells curR tR fR) := (setRow_other w g R _ hRg).trans hRb
    refine ⟨_, m, rfl, by unfold childV; rw [if_neg (by omega)], ⟨by rw [setCell_size, setRow_size], hother, ⟨?_, ?_, _, hg1, hsz⟩, fun off ho => ?_, fun j v hj => ?_, fun B hB hB2 => ?_, fun off => Lib.frozen_of_heap hg1 off⟩⟩
    · have hlt : 0 < curR.size := by
        simp only [World.cell?, hRb] at r1
        rcases Nat.eq_zero_or_pos curR.size with h | h
        · have : curR[0]? = none := by simp [h]
          simp [this] at r1
        · exact h
      simp [World.setCell, World.cell?, Array.getElem?_modify, hR1, hlt]
    · have h := r2
      simp only [World.frozen?, hRb] at h
      simp [World.setCell, World.frozen?, Array.getElem?_modify, hR1]
      simpa using h
    · rw [Lib.cell_of_heap hg1, Lib.cell_of_heap r3]
      unfold fillAt
      simp only [List.getElem?_toArray]
      rw [List.append_assoc, List.getElem?_append_left (by rw [List.length_take, Array.length_toList, r4]; omega), List.getElem?_take, if_pos ho]
      simp
    · rw [Lib.cell_of_heap hg1]
      have hjl := (List.getElem?_eq_some_iff.1 hj).1
      have htl : (List.take (n * 7) cur.toList).length = n * 7 := by rw [List.length_take, Array.length_toList, r4]; omega
      unfold fillAt
      simp only [List.getElem?_toArray]
      rw [List.append_assoc, List.getElem?_append_right (by rw [htl]; omega), htl, show n * 7 + j - n * 7 = j by omega, List.getElem?_append_left hjl]
      exact hj
    · have hb1 : Below B w (w.setRow g (fillAt cur n news)) := ⟨rfl, rfl, rfl, by rw [setRow_size]; exact Nat.le_refl _, fun k hk => setRow_other w g k _ (by omega)⟩
      exact hb1.setCell (p := ⟨R, 0, none⟩) hB _
end
end Go.Proofs.YthdhdmmlmbkalaaGreatDoor
namespace Go.Proofs.YthdhdmmlmbkalaaGreatDoor
section
open Go.RowKit

theorem Held.below {w w' : World} {M : Nat} {t : LT} (h : Held w M t) (hM : M ≤ w.heap.size) (hb : Below w.heap.size w w') : Held w' M t := h.keep hb.size fun q hq => hb.block q (by omega)
theorem cells_of_liesR {w : World} {M : Nat} : ∀ (l : List LT) (b o : Nat), LiesR w M l b o → ∀ j v, (cellsAll l)[j]? = some v → w.cell? ⟨b, o + j, none⟩ = some v
  | [], _, _, _, j, v, hj => by simp [cellsAll] at hj
  | t :: l, b, o, h, j, v, hj => by
    rw [liesR_cons] at h
    rw [cellsAll] at hj
    by_cases hlt : j < t.cells.length
    · rw [List.getElem?_append_left hlt] at hj
      exact (lies_held.1 h.1).2.1 j v hj
    · rw [List.getElem?_append_right (by omega), show t.cells.length = 7 from rfl] at hj
      have := cells_of_liesR l b (o + 7) h.2 (j - 7) v hj
      rwa [show o + 7 + (j - 7) = o + j by rw [show t.cells.length = 7 from rfl] at hlt; omega] at this
theorem Eff.cell {w w' : World} {R g n m cap : Nat} {news : List Value} (h : Eff w w' R g n m cap news) (b off : Nat) (hR : b ≠ R) (hg : b = g → off < n * 7) : w'.cell? ⟨b, off, none⟩ = w.cell? ⟨b, off, none⟩ := by
  by_cases hb : b = g
  · subst hb; exact h.low off (hg rfl)
  · exact World.cell?_of_block (w := w) (a := ⟨b, off, none⟩) (h.other b hR hb)
theorem Eff.frz {w w' : World} {R g n m cap : Nat} {news : List Value} (h : Eff w w' R g n m cap news) (b off : Nat) (hR : b ≠ R) (hf : w.frozen? ⟨b, off, none⟩ = false) : w'.frozen? ⟨b, off, none⟩ = false := by
  by_cases hb : b = g
  · subst hb; exact h.frozen off
  · exact (World.frozen?_of_block (w := w) (a := ⟨b, off, none⟩) (h.other b hR hb)).trans hf
theorem set_other {w : World} {b o c : Nat} {v : Value} {off : Nat} (h : ¬ (b = c ∧ o = off)) : (w.setCell ⟨c, off, none⟩ v).cell? ⟨b, o, none⟩ = w.cell? ⟨b, o, none⟩ := by
  by_cases hb : b = c
  · subst hb
    have ho : off ≠ o := fun e => h ⟨rfl, e.symm⟩
    simp only [World.setCell, World.cell?, Array.getElem?_modify, if_true]
    cases hh : w.heap[b]? with
    | none => simp
    | some x => cases x <;> simp [Array.getElem?_setIfInBounds, ho]
  · exact World.cell?_of_block (w := w) (a := ⟨b, o, none⟩) (Below.heap_setCell _ _ _ _ (by show b ≠ c; exact hb))
theorem set_frz {w : World} {b o c : Nat} {v : Value} {off : Nat} : (w.setCell ⟨c, off, none⟩ v).frozen? ⟨b, o, none⟩ = w.frozen? ⟨b, o, none⟩ := by
  by_cases hb : b = c
  · subst hb
    simp only [World.setCell, World.frozen?, Array.getElem?_modify, if_true]
    cases hh : w.heap[b]? with
    | none => simp
    | some x => cases x <;> simp
  · exact World.frozen?_of_block (w := w) (a := ⟨b, o, none⟩) (Below.heap_setCell _ _ _ _ (by show b ≠ c; exact hb))
theorem set_here {w : World} {b o : Nat} {v x : Value} (h : w.cell? ⟨b, o, none⟩ = some x) : (w.setCell ⟨b, o, none⟩ v).cell? ⟨b, o, none⟩ = some v := by
  simp only [World.cell?] at h
  revert h
  cases hh : w.heap[b]? with
  | none => simp
  | some y =>
    cases y with
    | cells cs t fr =>
      intro h
      have hlt : o < cs.size := (Array.getElem?_eq_some_iff.1 (by simpa using h)).1
      simp [World.setCell, World.cell?, Array.getElem?_modify, hh, hlt]
    | _ => simp

/-- What part leaves. -/
structure PartEff (w w' : World) (b o R g n cap : Nat) (u : LT) : Prop where
  here : ∃ la lc, (∀ j v, ([.int .i64 u.k, .bool u.g, .slice la u.ln lc, .bool u.bb, .string u.s, childV g n u.items.length, childV g (n + u.items.length) u.tail.length] : List Value)[j]? = some v → w'.cell? ⟨b, o + j, none⟩ = some v) ∧ Sl w' la u.ln lc u.ys ∧ (0 < u.ln → Fresh w' w.heap.size (blk la))
  room : RoomAt w' R g (n + u.items.length + u.tail.length) cap
  new1 : ∀ j v, (cellsAll u.items)[j]? = some v → w'.cell? ⟨g, n * 7 + j, none⟩ = some v
  new2 : ∀ j v, (cellsAll u.tail)[j]? = some v → w'.cell? ⟨g, (n + u.items.length) * 7 + j, none⟩ = some v
  low : ∀ off, off < n * 7 → (b = g → off < o ∨ o + 7 ≤ off) → w'.cell? ⟨g, off, none⟩ = w.cell? ⟨g, off, none⟩
  other : ∀ k, k < w.heap.size → k ≠ R → k ≠ g → k ≠ b → w'.heap[k]? = w.heap[k]?
  size : w.heap.size ≤ w'.heap.size
  below : ∀ B, B ≤ w.heap.size → B ≤ R → B ≤ g → B ≤ b → Below B w w'

theorem part_end {b o R g n cap M : Nat} {u : LT} {w w1 W2 w3 w4 : World} {la a1 a2 : Option Addr} {lc c1 c2 : Nat} (hc : ∀ j v, u.cells[j]? = some v → w.cell? ⟨b, o + j, none⟩ = some v) (b1 : Below w.heap.size w w1) (hsl : Sl w1 la u.ln lc u.ys) (hfr : 0 < u.ln → Fresh w1 w.heap.size (blk la))
    (hW2 : w1.setCell ⟨b, o + 2, none⟩ (.slice la u.ln lc) = W2) (ef1 : Eff W2.drew w3 R g n u.items.length cap (cellsAll u.items)) (ef2 : Eff w3 w4 R g (n + u.items.length) u.tail.length cap (cellsAll u.tail)) (hch1 : childV g n u.items.length = .slice a1 u.items.length c1) (hch2 : childV g (n + u.items.length) u.tail.length = .slice a2 u.tail.length c2)
    (hblt : b < w.heap.size) (hRlt : R < w.heap.size) (hglt : g < w.heap.size) (d1 : R ≠ g) (d2 : b ≠ R) (hbg : b = g → o + 7 ≤ n * 7) (_m1 : M ≤ R) :
    PartEff w ((w4.setCell ⟨b, o + 5, none⟩ (.slice a1 u.items.length c1)).setCell ⟨b, o + 6, none⟩ (.slice a2 u.tail.length c2)) b o R g n cap u := by
  have hz1 := b1.size
  have hzW : W2.heap.size = w1.heap.size := by rw [← hW2, setCell_size]
  have hz3 : w3.heap.size = W2.heap.size := ef1.size
  have hz4 := ef2.size
  have l1 := cellsAll_length u.items
  have l2 := cellsAll_length u.tail
  have hkeep : ∀ j, j < 7 → j ≠ 2 → w4.cell? ⟨b, o + j, none⟩ = w.cell? ⟨b, o + j, none⟩ := fun j hj h2 => by
    rw [ef2.cell b (o + j) d2 (fun e => by have := hbg e; omega), ef1.cell b (o + j) d2 (fun e => by have := hbg e; omega)]
    show W2.cell? _ = _
    rw [← hW2, set_other (by omega)]
    exact b1.cell (p := ⟨b, o + j, none⟩) hblt
  have h2 : w4.cell? ⟨b, o + 2, none⟩ = some (.slice la u.ln lc) := by
    rw [ef2.cell b (o + 2) d2 (fun e => by have := hbg e; omega), ef1.cell b (o + 2) d2 (fun e => by have := hbg e; omega)]
    show W2.cell? _ = _
    rw [← hW2]
    exact set_here ((b1.cell (p := ⟨b, o + 2, none⟩) hblt).trans (hc 2 _ rfl))
  have hoth : ∀ k, k ≠ R → k ≠ g → k ≠ b → w4.heap[k]? = w1.heap[k]? := fun k k1 k2 k3 => by
    rw [ef2.other k k1 k2, ef1.other k k1 k2]
    show W2.heap[k]? = _
    rw [← hW2]
    exact Below.heap_setCell _ _ _ _ (by show k ≠ b; exact k3)
  have hoth' : ∀ k, k ≠ R → k ≠ g → k ≠ b → ((w4.setCell ⟨b, o + 5, none⟩ (.slice a1 u.items.length c1)).setCell ⟨b, o + 6, none⟩ (.slice a2 u.tail.length c2)).heap[k]? = w1.heap[k]? := fun k k1 k2 k3 =>
    (Below.heap_setCell _ _ _ _ (by show k ≠ b; exact k3)).trans ((Below.heap_setCell _ _ _ _ (by show k ≠ b; exact k3)).trans (hoth k k1 k2 k3))
  have hzz : ((w4.setCell ⟨b, o + 5, none⟩ (.slice a1 u.items.length c1)).setCell ⟨b, o + 6, none⟩ (.slice a2 u.tail.length c2)).heap.size = w1.heap.size := by rw [setCell_size, setCell_size, hz4, hz3, hzW]
  refine ⟨⟨la, lc, ?_, ?_, ?_⟩, ?_, ?_, ?_, ?_, ?_, ?_, ?_⟩
  · intro j v hj
    rw [hch1, hch2] at hj
    have hj7 : j < 7 := by
      have := (List.getElem?_eq_some_iff.1 hj).1
      simpa using this
    by_cases h6 : j = 6
    · subst h6
      have hv : Value.slice a2 u.tail.length c2 = v := Option.some.inj hj
      rw [← hv]
      refine set_here (x := .slice u.ta u.tail.length u.tc) ?_
      rw [set_other (by omega), hkeep 6 (by decide) (by decide)]
      exact hc 6 _ rfl
    · rw [set_other (by omega)]
      by_cases h5 : j = 5
      · subst h5
        have hv : Value.slice a1 u.items.length c1 = v := Option.some.inj hj
        rw [← hv]
        refine set_here (x := .slice u.ia u.items.length u.ic) ?_
        rw [hkeep 5 (by decide) (by decide)]
        exact hc 5 _ rfl
      · rw [set_other (by omega)]
        by_cases h2' : j = 2
        · subst h2'
          rw [h2]
          exact hj
        · rw [hkeep j hj7 h2']
          refine hc j v ?_
          rcases (show j = 0 ∨ j = 1 ∨ j = 3 ∨ j = 4 by omega) with rfl | rfl | rfl | rfl <;> exact hj
  · exact hsl.keepP (by omega) fun hp => by
      have hf := (hfr hp).1
      exact hoth' _ (by omega) (by omega) (by omega)
  · intro hp
    have hf := hfr hp
    exact hf.same (hoth' _ (by have := hf.1; omega) (by have := hf.1; omega) (by have := hf.1; omega))
  · exact (ef2.room.set (o + 5) d2 _).set (o + 6) d2 _
  · intro j v hj
    have hjl := (List.getElem?_eq_some_iff.1 hj).1
    rw [set_other (fun e => by have := hbg e.1.symm; omega), set_other (fun e => by have := hbg e.1.symm; omega), ef2.low _ (by omega)]
    exact ef1.new j v hj
  · intro j v hj
    rw [set_other (fun e => by have := hbg e.1.symm; omega), set_other (fun e => by have := hbg e.1.symm; omega)]
    exact ef2.new j v hj
  · intro off ho hb
    rw [set_other (fun e => by have := hb e.1.symm; omega), set_other (fun e => by have := hb e.1.symm; omega), ef2.low _ (by omega), ef1.low _ ho]
    show W2.cell? _ = _
    rw [← hW2, set_other (fun e => by have := hb e.1.symm; omega)]
    exact b1.cell (p := ⟨g, off, none⟩) hglt
  · intro k k0 k1 k2 k3
    rw [hoth' k k1 k2 k3]
    exact b1.block k k0
  · omega
  · intro B B0 B1 B2 B3
    have e1 : Below B w W2 := by rw [← hW2]; exact (b1.mono B0).setCell (p := ⟨b, o + 2, none⟩) B3 _
    exact (((e1.drew.trans (ef1.below B B1 B2)).trans (ef2.below B B1 B2)).setCell (p := ⟨b, o + 5, none⟩) B3 _).setCell (p := ⟨b, o + 6, none⟩) B3 _

/-- What part leaves, of any datum. -/
def PartAny : Prop := ∀ (b o R g TK n cap M : Nat) (u : LT) (w : World) (hc : ∀ j v, u.cells[j]? = some v → w.cell? ⟨b, o + j, none⟩ = some v) (hfz : ∀ j, w.frozen? ⟨b, o + j, none⟩ = false)
    (hu : Held w M u) (hln : u.ln ≤ 35184372087808) (hT : w.cell? ⟨TK, 0, none⟩ = some (.func (.func 141) #[] #[.pointer (some ⟨R, 0, none⟩)])) (hr : RoomAt w R g n cap) (hcap : cap ≤ 1000000000) (hroom : n + u.items.length + u.tail.length ≤ cap)
    (d1 : R ≠ g) (d2 : b ≠ R) (d3 : TK ≠ R) (d4 : TK ≠ g) (d5 : TK ≠ b) (hbg : b = g → o + 7 ≤ n * 7) (m1 : M ≤ R) (m2 : M ≤ g) (m3 : M ≤ b), Calls Tryz.prog 142 #[.pointer (some ⟨b, o, none⟩), .pointer (some ⟨TK, 0, none⟩)] w fun e w' => e = .returned (.tuple #[]) ∧ PartEff w w' b o R g n cap u
end
end Go.Proofs.YthdhdmmlmbkalaaGreatDoor
namespace Go.Proofs.YthdhdmmlmbkalaaGreatDoor
section
open Go.RowKit

theorem cellsAll_at' : ∀ (l : List LT) (k : Nat) (h : k < l.length) (j : Nat), j < 7 → (cellsAll l)[k * 7 + j]? = l[k].cells[j]?
  | t :: l, 0, h, j, hj => by
    simp only [cellsAll, Nat.zero_mul, Nat.zero_add, List.getElem_cons_zero]
    rw [List.getElem?_append_left (by rw [show t.cells.length = 7 from rfl]; exact hj)]
  | t :: l, k + 1, h, j, hj => by
    simp only [cellsAll, List.getElem_cons_succ]
    rw [List.getElem?_append_right (by rw [show t.cells.length = 7 from rfl]; omega), show t.cells.length = 7 from rfl, show (k + 1) * 7 + j - 7 = k * 7 + j by omega]
    exact cellsAll_at' l k (by simpa using h) j hj
mutual
def sizeD : DT → Nat
  | .mk _ _ _ _ _ items tail => 1 + (sizesD items + sizesD tail)
def sizesD : List DT → Nat
  | [] => 0
  | t :: l => sizeD t + sizesD l
end
theorem sizesD_append (l m : List DT) : sizesD (l ++ m) = sizesD l + sizesD m := by
  induction l with
  | nil => simp [sizesD]
  | cons t l ih => simp [sizesD, ih]; omega
theorem sizeD_pos (d : DT) : 1 ≤ sizeD d := by cases d; simp only [sizeD]; omega
theorem sizesD_ge (l : List DT) : l.length ≤ sizesD l := by
  induction l with
  | nil => simp
  | cons t l ih => have := sizeD_pos t; simp only [sizesD, List.length_cons]; omega
mutual
theorem sizeD_shape : ∀ t : LT, sizeD (shape t) = t.size
  | .mk k g la ln lc ys bb s ia ic items ta tc tail => by
    have h1 := sizesD_shapes items
    have h2 := sizesD_shapes tail
    simp only [shape, sizeD, LT.size, h1, h2]
theorem sizesD_shapes : ∀ l : List LT, sizesD (shapes l) = sizes l
  | [] => by simp [shapes, sizesD, sizes]
  | t :: l => by
    have h1 := sizeD_shape t
    have h2 := sizesD_shapes l
    simp only [shapes, sizesD, sizes, h1, h2]
end
theorem shapes_at (l : List LT) (k : Nat) (hk : k < l.length) : (shapes l)[k]? = some (shape l[k]) := by
  induction l generalizing k with
  | nil => cases hk
  | cons t l ih =>
    rw [shapes_cons]
    cases k with
    | zero => rfl
    | succ k => simpa using ih k (by simpa using hk)

/-- The datum lies there as it came in: its lists are the source's. -/
def Src (w0 : World) (M : Nat) (w : World) (d : DT) (b o : Nat) : Prop := ∃ u : LT, shape u = d ∧ Held w0 M u ∧ Tame u ∧ ∀ j v, u.cells[j]? = some v → w.cell? ⟨b, o + j, none⟩ = some v
/-- A block of limbs of the call's own. -/
def Lmb (B D g R : Nat) (w : World) (k : Nat) : Prop := Fresh w B k ∧ k ≠ D ∧ k ≠ g ∧ k ≠ R
def TwRel (w0 : World) (M D g R TK cap : Nat) (t : LT) (i : Nat) (w : World) : Prop :=
  ∃ S : List DT, i ≤ S.length ∧ RoomAt w R g S.length cap ∧ w.cell? ⟨TK, 0, none⟩ = some (.func (.func 141) #[] #[.pointer (some ⟨R, 0, none⟩)]) ∧
    Parted w (Lmb (D + 5) D g R w) g S 0 (shape t) D 0 ∧ (∀ j (h : j < S.length), j < i → Parted w (Lmb (D + 5) D g R w) g S (j + 1) S[j] g (j * 7)) ∧ (∀ j (h : j < S.length), i ≤ j → Src w0 M w S[j] g (j * 7)) ∧
    i + sizesD (S.drop i) = cap ∧ Below D w0 w ∧ w.heap[D + 1]? = some (Obj.cells #[.int .i64 0, .bool false, .slice none 0 0, .bool false, .string ⟨#[]⟩, .slice none 0 0, .slice none 0 0] 27) ∧ (∀ j, w.frozen? ⟨g, j, none⟩ = false) ∧ w0.heap.size + 5 ≤ w.heap.size

theorem AtS.mono {S X : List DT} {lo p : Nat} {l : List DT} (h : AtS S lo p l) : AtS (S ++ X) lo p l := fun hne => by
  obtain ⟨h1, h2⟩ := h hne
  refine ⟨h1, fun i hi => ?_⟩
  have h3 := h2 i hi
  rw [List.getElem?_append_left (List.getElem?_eq_some_iff.1 h3).1]
  exact h3
theorem Parted.next {w w' : World} {P Q : Nat → Prop} {g : Nat} {S X : List DT} {lo : Nat} {d : DT} {b o : Nat} (h : Parted w P g S lo d b o) (hc : ∀ j, j < 7 → w'.cell? ⟨b, o + j, none⟩ = w.cell? ⟨b, o + j, none⟩) (hs : w.heap.size ≤ w'.heap.size) (hk : ∀ k, P k → Q k ∧ w'.heap[k]? = w.heap[k]?) :
    Parted w' Q g (S ++ X) lo d b o := by
  obtain ⟨la, lc, p, q, h1, h2, h3, h4, h5, h6⟩ := h
  refine ⟨la, lc, p, q, fun j v hj => ?_, ⟨h2.1.keepP hs fun hp => (hk _ (h2.2.1 hp)).2, fun hp => (hk _ (h2.2.1 hp)).1, h2.2.2⟩, h3.mono, h4.mono, h5, h6⟩
  rw [hc j (by have := (List.getElem?_eq_some_iff.1 hj).1; simpa using this)]
  exact h1 j v hj
/-- What part leaves makes a copy of it. -/
theorem PartEff.parted {w w' : World} {b o R g n cap M B D lo : Nat} {u : LT} {S : List DT} (h : PartEff w w' b o R g n cap u) (hn : S.length = n) (hlo : lo ≤ n) (hs : u.s.size ≤ maxLen) (hln : u.ln = u.ys.length) (hcap : cap ≤ maxLen) (hroom : n + u.items.length + u.tail.length ≤ cap) (hB : B ≤ w.heap.size) (hD : D < w.heap.size) (hg : g < w.heap.size) (hR : R < w.heap.size) (_hM : M ≤ B) :
    Parted w' (Lmb B D g R w') g (S ++ (shapes u.items ++ shapes u.tail)) lo (shape u) b o := by
  obtain ⟨la, lc, h1, h2, h3⟩ := h.here
  have e1 : (shape u).items = shapes u.items := by rw [shape_eq]; rfl
  have e2 : (shape u).tail = shapes u.tail := by rw [shape_eq]; rfl
  have e3 : (shape u).ys = u.ys := by rw [shape_eq]; rfl
  refine ⟨la, lc, n, n + u.items.length, ?_, ?_, ?_, ?_, ?_, ?_⟩
  · rw [e1, e2, e3, shapes_length, shapes_length, ← hln, show (shape u).k = u.k by rw [shape_eq]; rfl, show (shape u).g = u.g by rw [shape_eq]; rfl, show (shape u).bb = u.bb by rw [shape_eq]; rfl, show (shape u).s = u.s by rw [shape_eq]; rfl]
    exact h1
  · rw [e3, ← hln, show (shape u).s = u.s by rw [shape_eq]; rfl]
    refine ⟨h2, fun hp => ?_, hs⟩
    have hf := h3 hp
    exact ⟨hf.low hB, by have := hf.1; omega, by have := hf.1; omega, by have := hf.1; omega⟩
  · rw [e1]
    refine fun _ => ⟨hlo, fun i hi => ?_⟩
    rw [List.getElem?_append_right (by omega), hn, show n + i - n = i by omega, List.getElem?_append_left hi, List.getElem?_eq_getElem hi]
  · rw [e2]
    refine fun _ => ⟨by omega, fun i hi => ?_⟩
    rw [List.getElem?_append_right (by omega), hn, List.getElem?_append_right (by rw [shapes_length]; omega), shapes_length, show n + u.items.length + i - n - u.items.length = i by omega, List.getElem?_eq_getElem hi]
  · rw [e1, shapes_length]; omega
  · rw [e2, shapes_length]; omega
/-- The new places hold the source's data. -/
theorem src_new {w0 w' : World} {M g n : Nat} {l : List LT} {b o : Nat} (hl : LiesR w0 M l b o) (hT : TameR l) (hn : ∀ j v, (cellsAll l)[j]? = some v → w'.cell? ⟨g, n * 7 + j, none⟩ = some v) (i : Nat) (hi : i < l.length) : Src w0 M w' (shape l[i]) g ((n + i) * 7) := by
  have h1 := (lies_held.1 ((liesR_iff _ _ _).1 hl i hi)).2.2
  refine ⟨l[i], rfl, h1, tameR_at l i hi hT, fun j v hj => ?_⟩
  have hj7 : j < 7 := (List.getElem?_eq_some_iff.1 hj).1
  have h2 := hn (i * 7 + j) v (by rw [cellsAll_at' l i hi j hj7]; exact hj)
  rwa [show n * 7 + (i * 7 + j) = (n + i) * 7 + j by omega] at h2
end
end Go.Proofs.YthdhdmmlmbkalaaGreatDoor
