/-
  Data as trees, with where they lie: how many they are, how deep, in which order they are told, and the stack by which they are told.
-/
import Derived.Test.YtocnlapbkidinaaGreatDoorQMem
set_option linter.unusedVariables false
set_option linter.unusedSimpArgs false
set_option linter.unusedSectionVars false
set_option linter.unnecessarySimpa false
namespace Go.Proofs.YtocnlapbkidinaaGreatDoor
open Go.RowKit

/-- A datum: its kind, its number (sign, limbs and where they lie), its truth, its text, its items and its tail and where these lie. -/
inductive LT where
  | mk (k : Int) (g : Bool) (la : Option Addr) (ln lc : Nat) (ys : List Nat) (bb : Bool) (s : ByteArray) (ia : Option Addr) (ic : Nat) (items : List LT) (ta : Option Addr) (tc : Nat) (tail : List LT) : LT

def LT.k : LT → Int | .mk k _ _ _ _ _ _ _ _ _ _ _ _ _ => k
def LT.g : LT → Bool | .mk _ g _ _ _ _ _ _ _ _ _ _ _ _ => g
def LT.la : LT → Option Addr | .mk _ _ la _ _ _ _ _ _ _ _ _ _ _ => la
def LT.ln : LT → Nat | .mk _ _ _ ln _ _ _ _ _ _ _ _ _ _ => ln
def LT.lc : LT → Nat | .mk _ _ _ _ lc _ _ _ _ _ _ _ _ _ => lc
def LT.ys : LT → List Nat | .mk _ _ _ _ _ ys _ _ _ _ _ _ _ _ => ys
def LT.bb : LT → Bool | .mk _ _ _ _ _ _ bb _ _ _ _ _ _ _ => bb
def LT.s : LT → ByteArray | .mk _ _ _ _ _ _ _ s _ _ _ _ _ _ => s
def LT.ia : LT → Option Addr | .mk _ _ _ _ _ _ _ _ ia _ _ _ _ _ => ia
def LT.ic : LT → Nat | .mk _ _ _ _ _ _ _ _ _ ic _ _ _ _ => ic
def LT.items : LT → List LT | .mk _ _ _ _ _ _ _ _ _ _ items _ _ _ => items
def LT.ta : LT → Option Addr | .mk _ _ _ _ _ _ _ _ _ _ _ ta _ _ => ta
def LT.tc : LT → Nat | .mk _ _ _ _ _ _ _ _ _ _ _ _ tc _ => tc
def LT.tail : LT → List LT | .mk _ _ _ _ _ _ _ _ _ _ _ _ _ tail => tail

def blk : Option Addr → Nat | some a => a.block | none => 0
def ofs : Option Addr → Nat | some a => a.off | none => 0

/-- Its seven cells. -/
def LT.cells (t : LT) : List Value := [.int .i64 t.k, .bool t.g, .slice t.la t.ln t.lc, .bool t.bb, .string t.s, .slice t.ia t.items.length t.ic, .slice t.ta t.tail.length t.tc]

mutual
def LT.size : LT → Nat
  | .mk _ _ _ _ _ _ _ _ _ _ items _ _ tail => 1 + (sizes items + sizes tail)
def sizes : List LT → Nat
  | [] => 0
  | t :: l => t.size + sizes l
end
mutual
def LT.depth : LT → Nat
  | .mk _ _ _ _ _ _ _ _ _ _ items _ _ tail => 1 + max (depths items) (depths tail)
def depths : List LT → Nat
  | [] => 0
  | t :: l => max t.depth (depths l)
end
theorem LT.size_eq (t : LT) : t.size = 1 + (sizes t.items + sizes t.tail) := by cases t; simp [LT.size, LT.items, LT.tail]
theorem LT.depth_eq (t : LT) : t.depth = 1 + max (depths t.items) (depths t.tail) := by cases t; simp [LT.depth, LT.items, LT.tail]

/-- A slice's own: nil has no room; one that holds something lies somewhere below M. -/
def Spot (M : Nat) (a : Option Addr) (n c : Nat) : Prop := n ≤ c ∧ c ≤ maxLen ∧ (0 < n → a = some ⟨blk a, ofs a, none⟩ ∧ blk a < M) ∧ (a = none → c = 0)

mutual
/-- The datum lies there, and all that is in it below M. -/
def Lies (w : World) (M : Nat) : LT → Nat → Nat → Prop
  | .mk k g la ln lc ys bb s ia ic items ta tc tail, b, o =>
    b < M ∧ (∀ j v, (LT.cells (.mk k g la ln lc ys bb s ia ic items ta tc tail))[j]? = some v → w.cell? ⟨b, o + j, none⟩ = some v) ∧
      (Sl w la ln lc ys ∧ (0 < ln → blk la < M) ∧ s.size ≤ maxLen) ∧ Spot M ia items.length ic ∧ Spot M ta tail.length tc ∧ LiesR w M items (blk ia) (ofs ia) ∧ LiesR w M tail (blk ta) (ofs ta)
def LiesR (w : World) (M : Nat) : List LT → Nat → Nat → Prop
  | [], _, _ => True
  | t :: l, b, o => Lies w M t b o ∧ LiesR w M l b (o + 7)
end
theorem lies_eq {w : World} {M : Nat} {t : LT} {b o : Nat} : Lies w M t b o ↔
    (b < M ∧ (∀ j v, t.cells[j]? = some v → w.cell? ⟨b, o + j, none⟩ = some v) ∧ (Sl w t.la t.ln t.lc t.ys ∧ (0 < t.ln → blk t.la < M) ∧ t.s.size ≤ maxLen) ∧ Spot M t.ia t.items.length t.ic ∧ Spot M t.ta t.tail.length t.tc ∧
      LiesR w M t.items (blk t.ia) (ofs t.ia) ∧ LiesR w M t.tail (blk t.ta) (ofs t.ta)) := by
  cases t; simp [Lies, LT.la, LT.ln, LT.lc, LT.ys, LT.s, LT.ia, LT.ic, LT.items, LT.ta, LT.tc, LT.tail]
@[simp] theorem liesR_nil {w : World} {M b o : Nat} : LiesR w M [] b o = True := by simp [LiesR]
@[simp] theorem liesR_cons {w : World} {M b o : Nat} {t : LT} {l : List LT} : LiesR w M (t :: l) b o = (Lies w M t b o ∧ LiesR w M l b (o + 7)) := by simp [LiesR]

theorem Sl.keepM {w w' : World} {M : Nat} {A : Option Addr} {n cap : Nat} {xs : List Nat} (h : Sl w A n cap xs) (hs : w.heap.size ≤ w'.heap.size) (hM : 0 < n → blk A < M) (hk : ∀ k, k < M → w'.heap[k]? = w.heap[k]?) : Sl w' A n cap xs := by
  refine ⟨h.len, h.le, h.max, h.ok, fun hp => ?_, h.nil_⟩
  obtain ⟨b, off, rfl, hb, hc⟩ := h.here hp
  have hbM := hM hp
  exact ⟨b, off, rfl, by omega, fun i hi => (World.cell?_of_block (hk b hbM)).trans (hc i hi)⟩

mutual
theorem Lies.keep {w w' : World} {M : Nat} (hs : w.heap.size ≤ w'.heap.size) (hk : ∀ k, k < M → w'.heap[k]? = w.heap[k]?) : ∀ (t : LT) (b o : Nat), Lies w M t b o → Lies w' M t b o
  | .mk k g la ln lc ys bb s ia ic items ta tc tail, b, o, h => by
    simp only [Lies] at h ⊢
    obtain ⟨h1, h2, h3, h4, h5, h6, h7⟩ := h
    exact ⟨h1, fun j v hj => (World.cell?_of_block (hk b h1)).trans (h2 j v hj), ⟨h3.1.keepM hs h3.2.1 hk, h3.2⟩, h4, h5, LiesR.keep hs hk items _ _ h6, LiesR.keep hs hk tail _ _ h7⟩
theorem LiesR.keep {w w' : World} {M : Nat} (hs : w.heap.size ≤ w'.heap.size) (hk : ∀ k, k < M → w'.heap[k]? = w.heap[k]?) : ∀ (l : List LT) (b o : Nat), LiesR w M l b o → LiesR w' M l b o
  | [], _, _, _ => by simp [LiesR]
  | t :: l, b, o, h => by
    simp only [LiesR] at h ⊢
    exact ⟨Lies.keep hs hk t b o h.1, LiesR.keep hs hk l b (o + 7) h.2⟩
end

/-- A datum that is told: how deep, where, and itself. -/
structure Node where
  lev : Nat
  b : Nat
  o : Nat
  t : LT

mutual
def seqT : LT → Nat → Nat → Nat → List Node
  | .mk k g la ln lc ys bb s ia ic items ta tc tail, v, b, o => ⟨v, b, o, .mk k g la ln lc ys bb s ia ic items ta tc tail⟩ :: (seqR items (v + 1) (blk ia) (ofs ia) ++ seqR tail (v + 1) (blk ta) (ofs ta))
def seqR : List LT → Nat → Nat → Nat → List Node
  | [], _, _, _ => []
  | t :: l, v, b, o => seqT t v b o ++ seqR l v b (o + 7)
end
theorem seqT_eq (t : LT) (v b o : Nat) : seqT t v b o = ⟨v, b, o, t⟩ :: (seqR t.items (v + 1) (blk t.ia) (ofs t.ia) ++ seqR t.tail (v + 1) (blk t.ta) (ofs t.ta)) := by cases t; simp [seqT, LT.items, LT.tail, LT.ia, LT.ta]
@[simp] theorem seqR_nil (v b o : Nat) : seqR [] v b o = [] := by simp [seqR]
@[simp] theorem seqR_cons (t : LT) (l : List LT) (v b o : Nat) : seqR (t :: l) v b o = seqT t v b o ++ seqR l v b (o + 7) := by simp [seqR]

def kids (x : Node) : Nat := x.t.items.length + x.t.tail.length
def sumK : List Node → Nat | [] => 0 | x :: l => kids x + sumK l
def maxL : List Node → Nat | [] => 0 | x :: l => max x.lev (maxL l)
theorem sumK_append (l m : List Node) : sumK (l ++ m) = sumK l + sumK m := by induction l with | nil => simp [sumK] | cons x l ih => simp [sumK, ih]; omega
theorem maxL_append (l m : List Node) : maxL (l ++ m) = max (maxL l) (maxL m) := by induction l with | nil => simp [maxL] | cons x l ih => simp [maxL, ih, Nat.max_assoc]

mutual
theorem seqT_sum : ∀ (t : LT) (v b o : Nat), 1 + sumK (seqT t v b o) = t.size
  | .mk k g la ln lc ys bb s ia ic items ta tc tail, v, b, o => by
    have h1 := seqR_sum items (v + 1) (blk ia) (ofs ia)
    have h2 := seqR_sum tail (v + 1) (blk ta) (ofs ta)
    simp only [seqT, sumK, sumK_append, LT.size, kids, LT.items, LT.tail]
    omega
theorem seqR_sum : ∀ (l : List LT) (v b o : Nat), sumK (seqR l v b o) + l.length = sizes l
  | [], _, _, _ => by simp [seqR, sumK, sizes]
  | t :: l, v, b, o => by
    have h1 := seqT_sum t v b o
    have h2 := seqR_sum l v b (o + 7)
    simp only [seqR, sumK_append, sizes, List.length_cons]
    omega
end
mutual
theorem seqT_length : ∀ (t : LT) (v b o : Nat), (seqT t v b o).length = t.size
  | .mk k g la ln lc ys bb s ia ic items ta tc tail, v, b, o => by
    have h1 := seqR_length items (v + 1) (blk ia) (ofs ia)
    have h2 := seqR_length tail (v + 1) (blk ta) (ofs ta)
    simp only [seqT, List.length_cons, List.length_append, LT.size]
    omega
theorem seqR_length : ∀ (l : List LT) (v b o : Nat), (seqR l v b o).length = sizes l
  | [], _, _, _ => by simp [seqR, sizes]
  | t :: l, v, b, o => by
    have h1 := seqT_length t v b o
    have h2 := seqR_length l v b (o + 7)
    simp only [seqR, List.length_append, sizes]
    omega
end
theorem depth_pos (t : LT) : 1 ≤ t.depth := by rw [t.depth_eq]; omega
theorem depths_pos : ∀ (l : List LT), l ≠ [] → 1 ≤ depths l
  | [], h => absurd rfl h
  | t :: l, _ => by have := depth_pos t; simp only [depths]; omega
theorem sizes_ge : ∀ (l : List LT), l.length ≤ sizes l
  | [] => by simp
  | t :: l => by have := sizes_ge l; have := t.size_eq; simp only [sizes, List.length_cons]; omega
mutual
theorem seqT_max : ∀ (t : LT) (v b o : Nat), maxL (seqT t v b o) + 1 = v + t.depth
  | .mk k g la ln lc ys bb s ia ic items ta tc tail, v, b, o => by
    have h1 := seqR_max items (v + 1) (blk ia) (ofs ia)
    have h2 := seqR_max tail (v + 1) (blk ta) (ofs ta)
    simp only [seqT, maxL, maxL_append, LT.depth]
    have e1 : items = [] → depths items = 0 := fun h => by rw [h]; rfl
    have e2 : tail = [] → depths tail = 0 := fun h => by rw [h]; rfl
    rcases h1 with ⟨f1, g1⟩ | h1 <;> rcases h2 with ⟨f2, g2⟩ | h2
    · have := e1 f1; have := e2 f2; omega
    · have := e1 f1; omega
    · have := e2 f2; omega
    · omega
theorem seqR_max : ∀ (l : List LT) (v b o : Nat), (l = [] ∧ maxL (seqR l v b o) = 0) ∨ (1 ≤ depths l ∧ maxL (seqR l v b o) + 1 = v + depths l)
  | [], _, _, _ => .inl ⟨rfl, by simp [seqR, maxL]⟩
  | t :: l, v, b, o => by
    have h1 := seqT_max t v b o
    have h2 := seqR_max l v b (o + 7)
    have h3 := depth_pos t
    refine .inr ?_
    simp only [seqR, maxL_append, depths]
    rcases h2 with ⟨rfl, e2⟩ | ⟨h4, h2⟩
    · simp only [depths, e2]; omega
    · omega
end
mutual
theorem seqT_lies {w : World} {M : Nat} : ∀ (t : LT) (v b o : Nat), Lies w M t b o → ∀ x ∈ seqT t v b o, Lies w M x.t x.b x.o ∧ v ≤ x.lev ∧ x.lev + x.t.size ≤ v + t.size
  | .mk k g la ln lc ys bb s ia ic items ta tc tail, v, b, o, h, x, hx => by
    have h0 := h
    simp only [Lies] at h
    obtain ⟨_, _, _, _, _, h6, h7⟩ := h
    simp only [seqT, List.mem_cons, List.mem_append] at hx
    simp only [LT.size]
    rcases hx with rfl | hx | hx
    · refine ⟨h0, Nat.le_refl _, ?_⟩; simp only [LT.size]; omega
    · have := seqR_lies items (v + 1) _ _ h6 x hx; exact ⟨this.1, by omega, by omega⟩
    · have := seqR_lies tail (v + 1) _ _ h7 x hx; exact ⟨this.1, by omega, by omega⟩
theorem seqR_lies {w : World} {M : Nat} : ∀ (l : List LT) (v b o : Nat), LiesR w M l b o → ∀ x ∈ seqR l v b o, Lies w M x.t x.b x.o ∧ v ≤ x.lev ∧ x.lev + x.t.size ≤ v + sizes l
  | [], _, _, _, _, x, hx => by simp [seqR] at hx
  | t :: l, v, b, o, h, x, hx => by
    simp only [LiesR] at h
    simp only [seqR, List.mem_append] at hx
    simp only [sizes]
    rcases hx with hx | hx
    · have := seqT_lies t v b o h.1 x hx; exact ⟨this.1, this.2.1, by omega⟩
    · have := seqR_lies l v b _ h.2 x hx; exact ⟨this.1, this.2.1, by omega⟩
end

/-- A row of the stack: where it lies, how much room it has, the data that are left of it, how deep. -/
structure Ent where
  b : Nat
  o : Nat
  c : Nat
  l : List LT
  lev : Nat
def flat : List Ent → List Node | [] => [] | e :: st => seqR e.l e.lev e.b e.o ++ flat st
def Ent.cells (e : Ent) : List Value := [.slice (some ⟨e.b, e.o, none⟩) e.l.length e.c, .int .i64 (e.lev : Nat)]
/-- The stack's cells: the top lies last. -/
def stCells : List Ent → List Value | [] => [] | e :: st => stCells st ++ e.cells
theorem stCells_length (st : List Ent) : (stCells st).length = st.length * 2 := by induction st with | nil => rfl | cons e st ih => simp [stCells, ih, Ent.cells]; omega
/-- What a row of the stack is: something is left of it, and that lies there. -/
def Ent.good (w : World) (M N : Nat) (e : Ent) : Prop := 0 < e.l.length ∧ e.l.length ≤ e.c ∧ e.c ≤ maxLen ∧ LiesR w M e.l e.b e.o ∧ e.b < M ∧ e.lev + sizes e.l ≤ N
def pushE (a : Option Addr) (c : Nat) (l : List LT) (lev : Nat) (st : List Ent) : List Ent := if l.length = 0 then st else ⟨blk a, ofs a, c, l, lev⟩ :: st
def pushed (t : LT) (lev : Nat) (st : List Ent) : List Ent := pushE t.ia t.ic t.items lev (pushE t.ta t.tc t.tail lev st)
theorem pushE_nil {a : Option Addr} {c : Nat} {l : List LT} {lev : Nat} {st : List Ent} (h : l.length = 0) : pushE a c l lev st = st := by simp only [pushE, h, if_true]
theorem pushE_cons {a : Option Addr} {c : Nat} {l : List LT} {lev : Nat} {st : List Ent} (h : 0 < l.length) : pushE a c l lev st = ⟨blk a, ofs a, c, l, lev⟩ :: st := by rw [pushE, if_neg (by omega)]
theorem flat_pushE (a : Option Addr) (c : Nat) (l : List LT) (lev : Nat) (st : List Ent) : flat (pushE a c l lev st) = seqR l lev (blk a) (ofs a) ++ flat st := by
  by_cases h : l.length = 0
  · rw [pushE_nil h, List.length_eq_zero_iff.1 h]; simp
  · rw [pushE_cons (by omega)]; rfl
theorem flat_pushed (t : LT) (v b o : Nat) (st : List Ent) : seqT t v b o ++ flat st = ⟨v, b, o, t⟩ :: flat (pushed t (v + 1) st) := by
  rw [pushed, flat_pushE, flat_pushE, seqT_eq]; simp
theorem good_pushE {w : World} {M N : Nat} {a : Option Addr} {c : Nat} {l : List LT} {lev : Nat} {st : List Ent} (hs : Spot M a l.length c) (hl : LiesR w M l (blk a) (ofs a)) (hN : lev + sizes l ≤ N) (hst : ∀ e ∈ st, e.good w M N) : ∀ e ∈ pushE a c l lev st, e.good w M N := by
  by_cases h : l.length = 0
  · rw [pushE_nil h]; exact hst
  · rw [pushE_cons (by omega)]
    intro e he
    rcases List.mem_cons.1 he with rfl | he
    · exact ⟨by show 0 < l.length; omega, hs.1, hs.2.1, hl, (hs.2.2.1 (by omega)).2, hN⟩
    · exact hst e he
theorem good_pushed {w : World} {M N : Nat} {t : LT} {b o v : Nat} {st : List Ent} (ht : Lies w M t b o) (hN : v + t.size ≤ N) (hst : ∀ e ∈ st, e.good w M N) : ∀ e ∈ pushed t (v + 1) st, e.good w M N := by
  have := t.size_eq
  obtain ⟨_, _, _, h4, h5, h6, h7⟩ := lies_eq.1 ht
  exact good_pushE h4 h6 (by omega) (good_pushE h5 h7 (by omega) hst)
theorem flat_length_ge {w : World} {M N : Nat} {st : List Ent} (hst : ∀ e ∈ st, e.good w M N) : st.length ≤ (flat st).length := by
  induction st with
  | nil => simp
  | cons e st ih =>
    have h1 := ih fun x hx => hst x (List.mem_cons_of_mem _ hx)
    have h2 := (hst e (List.mem_cons_self ..)).1
    have h3 := sizes_ge e.l
    simp only [flat, List.length_cons, List.length_append, seqR_length]
    omega
theorem Ent.good.keep {w w' : World} {M N : Nat} {e : Ent} (h : e.good w M N) (hs : w.heap.size ≤ w'.heap.size) (hk : ∀ k, k < M → w'.heap[k]? = w.heap[k]?) : e.good w' M N :=
  ⟨h.1, h.2.1, h.2.2.1, LiesR.keep hs hk _ _ _ h.2.2.2.1, h.2.2.2.2⟩
end Go.Proofs.YtocnlapbkidinaaGreatDoor
