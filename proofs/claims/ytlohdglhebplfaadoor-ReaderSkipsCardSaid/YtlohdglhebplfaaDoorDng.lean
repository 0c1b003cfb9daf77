/-
  Norm and Good of data, what the reader wants of them.
-/
import Derived.Test.YtlohdglhebplfaaDoorRdx2
import Derived.Test.YtlohdglhebplfaaDoorRdl
import Derived.Test.YtlohdglhebplfaaDoorRdm
import Derived.Test.YtlohdglhebplfaaDoorRdk
import Derived.Test.YtlohdglhebplfaaDoorRdj
import Derived.Test.YtlohdglhebplfaaDoorNg
import Derived.Test.YtlohdglhebplfaaDoorNgl
import Derived.Test.YtlohdglhebplfaaDoorRdi
import Derived.Test.YtlohdglhebplfaaDoorRdh
import Derived.Test.YtlohdglhebplfaaDoorRdg
import Derived.Test.YtlohdglhebplfaaDoorRdf
import Derived.Test.YtlohdglhebplfaaDoorRde
import Derived.Test.YtlohdglhebplfaaDoorRdx1
import Derived.Test.YtlohdglhebplfaaDoorShf
import Derived.Test.YtlohdglhebplfaaDoorRds
import Derived.Test.YtlohdglhebplfaaDoorPlain
import Derived.Test.YtlohdglhebplfaaDoorBetw
import Derived.Test.YtlohdglhebplfaaDoorEsc
import Derived.Test.YtlohdglhebplfaaDoorBld
import Derived.Test.YtlohdglhebplfaaDoorPln
import Derived.Test.YtlohdglhebplfaaDoorDt
import Derived.Test.YtlohdglhebplfaaDoorAll
import Derived.Test.YtlohdglhebplfaaDoorNl
import Derived.Test.YtlohdglhebplfaaDoorLeaf
import Derived.Test.YtlohdglhebplfaaDoorNrm
import Derived.Test.YtlohdglhebplfaaDoorMeas
import Derived.Test.YtlohdglhebplfaaDoorRnd
import Derived.Test.YtlohdglhebplfaaDoorTold
import Derived.Test.YtlohdglhebplfaaDoorSmF
import Derived.Test.YtlohdglhebplfaaDoorBud
import Derived.Test.YtlohdglhebplfaaDoorOd
import Derived.Test.YtlohdglhebplfaaDoorHeld
import Derived.Test.YtlohdglhebplfaaDoorTr
import Derived.Test.YtlohdglhebplfaaDoorRpz
import Derived.Test.YtlohdglhebplfaaDoorRda
import Derived.Test.YtlohdglhebplfaaDoorRg
import Derived.Test.YtlohdglhebplfaaDoorNw
import Derived.Test.YtlohdglhebplfaaDoorMem
import Derived.Test.YtlohdglhebplfaaDoorNum
import Derived.Deep.RegionLaw
import Derived.Laws.EntriesVeiled
import Derived.Test.YtlohdglhebplfaaDoorChecked
import Derived.Outline
import Derived.Deep.RegionHeld3
import Derived.TacticsInMore
import Derived.LoopIn
import Derived.Laws.BitsAllLaws
import Derived.Deep.LoopGhost
import Derived.BigRegion
import Derived.Laws.IdiomStrings
import Derived.Lib.BufferRead
import Derived.Shelf.Small.Bits
import Derived.Deep.QuietTactic
import Derived.BigQuiet
import Derived.WalkMore
namespace Go.Proofs.YtlohdglhebplfaaDoor
open Go.RowKit

def rowT (ia : Option Addr) (ic : Nat) (ts : List LT) (ta : Option Addr) (tc : Nat) (tl : List LT) : LT := .mk 5 false none 0 0 [] false ⟨#[]⟩ ia ic ts ta tc tl
theorem rowT_shape (ia : Option Addr) (ic : Nat) (ts : List LT) (ta : Option Addr) (tc : Nat) (tl : List LT) : shape (rowT ia ic ts ta tc tl) = .mk 5 false [] false ⟨#[]⟩ (shapes ts) (shapes tl) := by simp [rowT, shape]
theorem rowT_held {w : World} {P : Nat → Prop} {ia : Option Addr} {ic : Nat} {ts : List LT} {ta : Option Addr} {tc : Nat} {tl : List LT} (h1 : SpotP P ia ts.length ic) (h2 : LiesPR w P ts (blk ia) (ofs ia)) (h3 : SpotP P ta tl.length tc) (h4 : LiesPR w P tl (blk ta) (ofs ta)) : HeldP w P (rowT ia ic ts ta tc tl) :=
  ⟨⟨Sl.nil, fun h => absurd h (by simp [rowT, LT.ln]), empty_le⟩, h1, h3, h2, h4⟩
theorem row_parts {B : Nat} {V : Value} {ts : List LT} {wr : World} (h : RowP B V ts wr) : ∃ ia ic, V = .slice ia ts.length ic ∧ SpotP (Fresh wr (B + 3)) ia ts.length ic ∧ LiesPR wr (Fresh wr (B + 3)) ts (blk ia) (ofs ia) := by
  obtain ⟨hown, hall⟩ := h
  have hc := hown.2
  rcases hc with ⟨hv, h0⟩ | ⟨g, c, cur, hv, hg, hgc, h1, h2, _⟩
  · obtain rfl : ts = [] := List.length_eq_zero_iff.1 h0
    exact ⟨none, 0, hv, ⟨Nat.le_refl _, Nat.zero_le _, fun h => absurd h (by simp), fun _ => rfl⟩, by rw [liesPR_nil]; trivial⟩
  · have hf : Fresh wr (B + 3) g := Fresh.of hg hgc (by decide)
    refine ⟨some ⟨g, 0, none⟩, c, hv, ⟨h1, h2, fun _ => ⟨rfl, hf⟩, fun e => by cases e⟩, liesPR_of hf ts 0 (hall.keep (Nat.le_refl _) fun q hq => ⟨hq.1, rfl⟩) fun j v hj => ?_⟩
    have h3 := hown.cells (g := g) (by rw [hv]; rfl) j v hj
    rw [cell_add] at h3
    exact h3
theorem spotP_nil (P : Nat → Prop) : SpotP P none 0 0 := ⟨Nat.le_refl _, Nat.zero_le _, fun h => absurd h (by simp), fun _ => rfl⟩
theorem set7 {w : World} {B : Nat} {c0 c1 c2 c3 c4 c5 c6 v0 v1 v2 v3 v4 v5 v6 : Value} {T : TypeId} {fr : Nat × Nat} (h : w.heap[B]? = some (.cells #[c0, c1, c2, c3, c4, c5, c6] T fr)) :
    (((((((w.setCell ⟨B, 0, none⟩ v0).setCell ⟨B, 1, none⟩ v1).setCell ⟨B, 2, none⟩ v2).setCell ⟨B, 3, none⟩ v3).setCell ⟨B, 4, none⟩ v4).setCell ⟨B, 5, none⟩ v5).setCell ⟨B, 6, none⟩ v6).heap[B]? = some (.cells #[v0, v1, v2, v3, v4, v5, v6] T fr) := by
  simp [World.setCell, Array.getElem?_modify, h]
theorem set7_other {w : World} {B k : Nat} {v0 v1 v2 v3 v4 v5 v6 : Value} (hk : k ≠ B) :
    (((((((w.setCell ⟨B, 0, none⟩ v0).setCell ⟨B, 1, none⟩ v1).setCell ⟨B, 2, none⟩ v2).setCell ⟨B, 3, none⟩ v3).setCell ⟨B, 4, none⟩ v4).setCell ⟨B, 5, none⟩ v5).setCell ⟨B, 6, none⟩ v6).heap[k]? = w.heap[k]? := by
  rw [Below.heap_setCell _ _ _ _ (by show k ≠ B; exact hk), Below.heap_setCell _ _ _ _ (by show k ≠ B; exact hk), Below.heap_setCell _ _ _ _ (by show k ≠ B; exact hk), Below.heap_setCell _ _ _ _ (by show k ≠ B; exact hk), Below.heap_setCell _ _ _ _ (by show k ≠ B; exact hk), Below.heap_setCell _ _ _ _ (by show k ≠ B; exact hk), Below.heap_setCell _ _ _ _ (by show k ≠ B; exact hk)]
theorem set7_below {w a : World} {B L : Nat} {v0 v1 v2 v3 v4 v5 v6 : Value} (h : Below L a w) (hB : L ≤ B) :
    Below L a (((((((w.setCell ⟨B, 0, none⟩ v0).setCell ⟨B, 1, none⟩ v1).setCell ⟨B, 2, none⟩ v2).setCell ⟨B, 3, none⟩ v3).setCell ⟨B, 4, none⟩ v4).setCell ⟨B, 5, none⟩ v5).setCell ⟨B, 6, none⟩ v6) :=
  ((((((h.setCell (p := ⟨B, 0, none⟩) hB v0).setCell (p := ⟨B, 1, none⟩) hB v1).setCell (p := ⟨B, 2, none⟩) hB v2).setCell (p := ⟨B, 3, none⟩) hB v3).setCell (p := ⟨B, 4, none⟩) hB v4).setCell (p := ⟨B, 5, none⟩) hB v5).setCell (p := ⟨B, 6, none⟩) hB v6
theorem set7_low {w a : World} {B L U : Nat} {v0 v1 v2 v3 v4 v5 v6 : Value} (h : Low L U a w) (h1 : L ≤ B) (h2 : B < U) :
    Low L U a (((((((w.setCell ⟨B, 0, none⟩ v0).setCell ⟨B, 1, none⟩ v1).setCell ⟨B, 2, none⟩ v2).setCell ⟨B, 3, none⟩ v3).setCell ⟨B, 4, none⟩ v4).setCell ⟨B, 5, none⟩ v5).setCell ⟨B, 6, none⟩ v6) :=
  ((((((h.setCell (p := ⟨B, 0, none⟩) h1 h2 v0).setCell (p := ⟨B, 1, none⟩) h1 h2 v1).setCell (p := ⟨B, 2, none⟩) h1 h2 v2).setCell (p := ⟨B, 3, none⟩) h1 h2 v3).setCell (p := ⟨B, 4, none⟩) h1 h2 v4).setCell (p := ⟨B, 5, none⟩) h1 h2 v5).setCell (p := ⟨B, 6, none⟩) h1 h2 v6
theorem ownsRow_kept_low {B U size n : Nat} {w w' : World} {e : TypeId} {v : Value} {xs : List Value} {L : Nat} (h : w.ownsRow B e size v n xs) (hU : U ≤ B) (hl : Low L U w w') : w'.ownsRow B e size v n xs := by
  refine ⟨h.1, ?_⟩
  rcases h.2 with h1 | ⟨g, c, cur, hv, hg, hgc, rest⟩
  · exact .inl h1
  · exact .inr ⟨g, c, cur, hv, hg, (hl.2 g (.inr (by omega))).trans hgc, rest⟩
theorem close_none (l : List DT) : closeD (l, none) = .mk 5 false [] false ⟨#[]⟩ l [] := by cases l <;> rfl
theorem close_some (l : List DT) (e : DT) (h : l ≠ []) : closeD (l, some e) = .mk 5 false [] false ⟨#[]⟩ l [e] := by
  cases l with
  | nil => exact absurd rfl h
  | cons x l => rfl
/-- A list of data that lie in the room g from place p on. -/
def childV (g p m : Nat) : Value := if m = 0 then .slice none 0 0 else .slice (some ⟨g, p * 7, none⟩) m m
def DT.items : DT → List DT | .mk _ _ _ _ _ items _ => items
def DT.tail : DT → List DT | .mk _ _ _ _ _ _ tail => tail
def DT.g : DT → Bool | .mk _ g _ _ _ _ _ => g
def DT.ys : DT → List Nat | .mk _ _ ys _ _ _ _ => ys
def DT.bb : DT → Bool | .mk _ _ _ bb _ _ _ => bb
def DT.s : DT → ByteArray | .mk _ _ _ _ s _ _ => s
/-- Place p of the room holds these shapes. -/
def AtS (S : List DT) (lo p : Nat) (l : List DT) : Prop := l ≠ [] → lo ≤ p ∧ ∀ i (h : i < l.length), S[p + i]? = some l[i]
/-- The datum at b, o is a copy: its limbs are its own, its lists lie in the room g. -/
def Parted (w : World) (P : Nat → Prop) (g : Nat) (S : List DT) (lo : Nat) (d : DT) (b o : Nat) : Prop :=
  ∃ la lc p q, (∀ j v, ([.int .i64 d.k, .bool d.g, .slice la d.ys.length lc, .bool d.bb, .string d.s, childV g p d.items.length, childV g q d.tail.length] : List Value)[j]? = some v → w.cell? ⟨b, o + j, none⟩ = some v) ∧
    (Sl w la d.ys.length lc d.ys ∧ (0 < d.ys.length → P (blk la)) ∧ d.s.size ≤ maxLen) ∧ AtS S lo p d.items ∧ AtS S lo q d.tail ∧ d.items.length ≤ maxLen ∧ d.tail.length ≤ maxLen
/-- The variable in block R is the room in block g, n of cap places used. -/
def RoomAt (w : World) (R g n cap : Nat) : Prop := w.cell? ⟨R, 0, none⟩ = some (.slice (some ⟨g, 0, none⟩) n cap) ∧ w.frozen? ⟨R, 0, none⟩ = false ∧ ∃ cur, w.heap[g]? = some (.cells cur 36 (0, 0)) ∧ cur.size = cap * 7
theorem RoomAt.below {w w' : World} {R g n cap : Nat} (h : RoomAt w R g n cap) (hb : Below w.heap.size w w') : RoomAt w' R g n cap := by
  obtain ⟨h1, h2, cur, h3, h4⟩ := h
  have hR := World.block_lt_of_cell? w _ h1
  have hg := (Array.getElem?_eq_some_iff.1 h3).1
  exact ⟨(hb.cell hR).trans h1, (hb.frozen hR).trans h2, cur, (hb.block g hg).trans h3, h4⟩
/-- What take leaves. -/
structure Eff (w w' : World) (R g n m cap : Nat) (news : List Value) : Prop where
  size : w'.heap.size = w.heap.size
  other : ∀ k, k ≠ R → k ≠ g → w'.heap[k]? = w.heap[k]?
  room : RoomAt w' R g (n + m) cap
  low : ∀ off, off < n * 7 → w'.cell? ⟨g, off, none⟩ = w.cell? ⟨g, off, none⟩
  new : ∀ j v, news[j]? = some v → w'.cell? ⟨g, n * 7 + j, none⟩ = some v
  below : ∀ B, B ≤ R → B ≤ g → Below B w w'
  frozen : ∀ off, w'.frozen? ⟨g, off, none⟩ = false
theorem setCell_size (w : World) (p : Addr) (v : Value) : (w.setCell p v).heap.size = w.heap.size := by simp [World.setCell]
theorem Held.below {w w' : World} {M : Nat} {t : LT} (h : Held w M t) (hM : M ≤ w.heap.size) (hb : Below w.heap.size w w') : Held w' M t := h.keep hb.size fun q hq => hb.block q (by omega)
theorem Eff.cell {w w' : World} {R g n m cap : Nat} {news : List Value} (h : Eff w w' R g n m cap news) (b off : Nat) (hR : b ≠ R) (hg : b = g → off < n * 7) : w'.cell? ⟨b, off, none⟩ = w.cell? ⟨b, off, none⟩ := by
  by_cases hb : b = g
  · subst hb; exact h.low off (hg rfl)
  · exact World.cell?_of_block (w := w) (a := ⟨b, off, none⟩) (h.other b hR hb)
mutual
def sizeD : DT → Nat
  | .mk _ _ _ _ _ items tail => 1 + (sizesD items + sizesD tail)
def sizesD : List DT → Nat
  | [] => 0
  | t :: l => sizeD t + sizesD l
end
theorem sizesD_append (l m : List DT) : sizesD (l ++ m) = sizesD l + sizesD m := by
  induction l with
  | nil => simp [sizesD]
  | cons t l ih => simp [sizesD, ih]; omega
mutual
theorem sizeD_shape : ∀ t : LT, sizeD (shape t) = t.size
  | .mk k g la ln lc ys bb s ia ic items ta tc tail => by
    have h1 := sizesD_shapes items
    have h2 := sizesD_shapes tail
    simp only [shape, sizeD, LT.size, h1, h2]
theorem sizesD_shapes : ∀ l : List LT, sizesD (shapes l) = sizes l
  | [] => by simp [shapes, sizesD, sizes]
  | t :: l => by
    have h1 := sizeD_shape t
    have h2 := sizesD_shapes l
    simp only [shapes, sizesD, sizes, h1, h2]
end
theorem AtS.mono {S X : List DT} {lo p : Nat} {l : List DT} (h : AtS S lo p l) : AtS (S ++ X) lo p l := fun hne => by
  obtain ⟨h1, h2⟩ := h hne
  refine ⟨h1, fun i hi => ?_⟩
  have h3 := h2 i hi
  rw [List.getElem?_append_left (List.getElem?_eq_some_iff.1 h3).1]
  exact h3
theorem Parted.next {w w' : World} {P Q : Nat → Prop} {g : Nat} {S X : List DT} {lo : Nat} {d : DT} {b o : Nat} (h : Parted w P g S lo d b o) (hc : ∀ j, j < 7 → w'.cell? ⟨b, o + j, none⟩ = w.cell? ⟨b, o + j, none⟩) (hs : w.heap.size ≤ w'.heap.size) (hk : ∀ k, P k → Q k ∧ w'.heap[k]? = w.heap[k]?) :
    Parted w' Q g (S ++ X) lo d b o := by
  obtain ⟨la, lc, p, q, h1, h2, h3, h4, h5, h6⟩ := h
  refine ⟨la, lc, p, q, fun j v hj => ?_, ⟨h2.1.keepP hs fun hp => (hk _ (h2.2.1 hp)).2, fun hp => (hk _ (h2.2.1 hp)).1, h2.2.2⟩, h3.mono, h4.mono, h5, h6⟩
  rw [hc j (by have := (List.getElem?_eq_some_iff.1 hj).1; simpa using this)]
  exact h1 j v hj
theorem Parted.mono {w : World} {P Q : Nat → Prop} {g : Nat} {S : List DT} {lo : Nat} {d : DT} {b o : Nat} (h : Parted w P g S lo d b o) (hk : ∀ k, P k → Q k) : Parted w Q g S lo d b o := by
  have := h.next (X := []) (w' := w) (Q := Q) (fun _ _ => rfl) (Nat.le_refl _) fun k hp => ⟨hk k hp, rfl⟩
  rwa [List.append_nil] at this
theorem five5 (w : World) (A B C E F : Obj) : ∃ w5, w5 = ((((w.alloc A).alloc B).alloc C).alloc E).alloc F ∧ w5.heap[w.heap.size]? = some A ∧ w5.heap[w.heap.size + 1]? = some B ∧ w5.heap[w.heap.size + 2]? = some C ∧ w5.heap[w.heap.size + 3]? = some E ∧ w5.heap[w.heap.size + 4]? = some F ∧ w5.heap.size = w.heap.size + 5 ∧ Below w.heap.size w w5 := by
  have s1 : (w.alloc A).heap.size = w.heap.size + 1 := World.size_alloc ..
  have s2 : ((w.alloc A).alloc B).heap.size = w.heap.size + 2 := by rw [World.size_alloc, s1]
  have s3 : (((w.alloc A).alloc B).alloc C).heap.size = w.heap.size + 3 := by rw [World.size_alloc, s2]
  have s4 : ((((w.alloc A).alloc B).alloc C).alloc E).heap.size = w.heap.size + 4 := by rw [World.size_alloc, s3]
  refine ⟨_, rfl, ?_, ?_, ?_, ?_, ?_, by rw [World.size_alloc, s4], ?_⟩
  · exact (Below.heap_alloc _ _ _ (by omega)).trans ((Below.heap_alloc _ _ _ (by omega)).trans ((Below.heap_alloc _ _ _ (by omega)).trans ((Below.heap_alloc _ _ _ (by omega)).trans (World.alloc_heap_new w A))))
  · exact (Below.heap_alloc _ _ _ (by omega)).trans ((Below.heap_alloc _ _ _ (by omega)).trans ((Below.heap_alloc _ _ _ (by omega)).trans (by have := World.alloc_heap_new (w.alloc A) B; rwa [s1] at this)))
  · exact (Below.heap_alloc _ _ _ (by omega)).trans ((Below.heap_alloc _ _ _ (by omega)).trans (by have := World.alloc_heap_new ((w.alloc A).alloc B) C; rwa [s2] at this))
  · exact (Below.heap_alloc _ _ _ (by omega)).trans (by have := World.alloc_heap_new (((w.alloc A).alloc B).alloc C) E; rwa [s3] at this)
  · have := World.alloc_heap_new ((((w.alloc A).alloc B).alloc C).alloc E) F; rwa [s4] at this
  · exact (((((Below.refl w.heap.size w).alloc (Nat.le_refl _) _).alloc (by omega) _).alloc (by omega) _).alloc (by omega) _).alloc (by omega) _
section
variable {w w' : World} {g : Nat} {s x : Value}
end
section
variable {w : World} {u v : Value} {a b : Int} {K L : Nat}
end
section
variable {w : World} {u v : Value} {a b : Int} {K L : Nat}
end
section
variable {w : World} {u v : Value} {a b : Int} {K L : Nat}
end
section
variable {w : World} {u v : Value} {a b : Int} {K L : Nat}
end
section
variable {w : World} {u v : Value} {a b : Int} {K L : Nat}
end
set_option maxRecDepth 100000 in
set_option maxHeartbeats 12800000 in
theorem normalList_tree (M N : Nat) (ih : ∀ u : LT, u.size ≤ N → Tame u → ∀ w : World, M ≤ w.heap.size → Held w M u → Calls Tryd.prog 28 #[.agg #[.int .i64 u.k, .bool u.g, .slice u.la u.ln u.lc, .bool u.bb, .string u.s, .slice u.ia u.items.length u.ic, .slice u.ta u.tail.length u.tc]] w (NPost (normT u) w)) (hN : N + 1 ≤ 100000)
    (t : LT) (ht : t.size ≤ N + 1) (hk : t.k = 5) (hT : Tame t) (w : World) (hM : M ≤ w.heap.size) (hH : Held w M t) :
    Calls Tryd.prog 52 #[.agg #[.int .i64 t.k, .bool t.g, .slice t.la t.ln t.lc, .bool t.bb, .string t.s, .slice t.ia t.items.length t.ic, .slice t.ta t.tail.length t.tc]] w (NPost (normT t) w) := by
  have IH := Lib.hid ih
  have HT := Lib.hid (And.intro hT (And.intro hH (And.intro ht (show closeD (shapes [] ++ (spineT t).1, (spineT t).2) = normT t by rw [shapes_nil, List.nil_append]; rfl))))
  clear ih hT hH ht hk
  generalize normT t = d at *
  go_enter Tryd.func52, Tryd.ntmps52
  go_wp2_with fail
  go_loopg [] t.size (fun q wr => NgRel M w.heap.size (N + 1) d w q wr)
  case atStart =>
    refine ⟨t, .slice none 0 0, [], rfl, ?_, ?_, ?_, ⟨World.ownsRow_nil _ _ _ _, fun _ h => by cases h⟩, Lib.hid HT.out.2.2.2, by have := HT.out.2.2.1; simpa using this, Lib.hid ?_, Lib.hid HT.out.1, (((Below.refl _ w).alloc (Nat.le_refl _) _).alloc (by simp) _).alloc (by simp; omega) _, by simp⟩
    · exact (Below.heap_alloc _ _ _ (by simp; omega)).trans ((Below.heap_alloc _ _ _ (by simp)).trans (World.alloc_heap_new w _))
    · exact (Below.heap_alloc _ _ _ (by simp)).trans (by have := World.alloc_heap_new (w.alloc (Obj.cells #[.int .i64 t.k, .bool t.g, .slice t.la t.ln t.lc, .bool t.bb, .string t.s, .slice t.ia t.items.length t.ic, .slice t.ta t.tail.length t.tc] 36)) (Obj.cells #[.int .i64 0, .bool false, .slice none 0 0, .bool false, .string ⟨#[]⟩, .slice none 0 0, .slice none 0 0] 36); rwa [World.size_alloc] at this)
    · have := World.alloc_heap_new ((w.alloc (Obj.cells #[.int .i64 t.k, .bool t.g, .slice t.la t.ln t.lc, .bool t.bb, .string t.s, .slice t.ia t.items.length t.ic, .slice t.ta t.tail.length t.tc] 36)).alloc (Obj.cells #[.int .i64 0, .bool false, .slice none 0 0, .bool false, .string ⟨#[]⟩, .slice none 0 0, .slice none 0 0] 36)) (Obj.cells #[.int .i64 5, .bool false, .slice none 0 0, .bool false, .string ⟨#[]⟩, .slice none 0 0, .slice none 0 0] 36)
      rwa [World.size_alloc, World.size_alloc] at this
    · have hb : Below w.heap.size w (((w.alloc (Obj.cells #[.int .i64 t.k, .bool t.g, .slice t.la t.ln t.lc, .bool t.bb, .string t.s, .slice t.ia t.items.length t.ic, .slice t.ta t.tail.length t.tc] 36)).alloc (Obj.cells #[.int .i64 0, .bool false, .slice none 0 0, .bool false, .string ⟨#[]⟩, .slice none 0 0, .slice none 0 0] 36)).alloc (Obj.cells #[.int .i64 5, .bool false, .slice none 0 0, .bool false, .string ⟨#[]⟩, .slice none 0 0, .slice none 0 0] 36)) := (((Below.refl _ w).alloc (Nat.le_refl _) _).alloc (by simp) _).alloc (by simp; omega) _
      exact HT.out.2.1.keep hb.size fun q hq => hb.block q (by omega)
  case round =>
    obtain ⟨u, V, ts, hq, hB0, hB1, hB2, hR, HD, hlen, HU, HTU, hbel, hsz⟩ := hrel
    have hbs := fun j => Lib.cell_of_heap hB0 j
    have a0 := hbs 0; have a5 := hbs 5
    simp only [List.getElem?_toArray, List.getElem?_cons_zero, List.getElem?_cons_succ] at a0 a5
    clear hbs
    by_cases h5 : u.k = 5
    · rw [h5] at a0
      by_cases hn : 0 < u.items.length
      · obtain ⟨haa, hgM⟩ := HU.out.2.1.2.2.1 hn
        have hcap := HU.out.2.1.2.1
        have hcl := HU.out.2.1.1
        unfold maxLen at hcap
        rw [haa] at a5
        generalize hgb : blk u.ia = gb at *
        generalize hgo : ofs u.ia = go at *
        generalize hni : u.items.length = n at *
        have HX := Lib.hid (And.intro hB0 (And.intro hB1 (And.intro hB2 (And.intro hR (And.intro hbel (And.intro hgb (And.intro hgo (And.intro haa (And.intro hni hq)))))))))
        clear hB0 hB1 hB2 hR hbel hgb hgo haa hni hq
        go_wp2_with fail
        go_loopw [13] (fun i wr => NiRel M w.heap.size (N + 1) u d w i wr) (fun i _ => n - (intOf i).toNat)
        case atStart =>
          refine ⟨0, V, ts, Nat.zero_le _, rfl, by have h := HX.out.1; rw [← HX.out.2.2.2.2.2.2.2.2.1] at h; exact h, HX.out.2.1, HX.out.2.2.1, HX.out.2.2.2.1, ?_, ?_, HU, HX.out.2.2.2.2.1, hsz⟩
          · have h := HD.out
            rw [spineT_eq, if_pos h5] at h
            exact Lib.hid h
          · have h1 := u.size_eq
            have h2 := sizes_ge u.items
            omega
        case round =>
          obtain ⟨k, V, ts, hk, rfl, kB0, kB1, kB2, kR, kD, klen, kU, kbel, hszX⟩ := hrel
          have hszu : u.size ≤ N + 1 := by omega
          clear a0 a5
          rw [HX.out.2.2.2.2.2.2.2.2.1] at hk klen
          by_cases hlt : k < n
          · have hku : k < u.items.length := by rw [HX.out.2.2.2.2.2.2.2.2.1]; exact hlt
            have hli := (liesR_iff _ _ _).1 kU.out.2.2.2.1 k hku
            rw [HX.out.2.2.2.2.2.1, HX.out.2.2.2.2.2.2.1] at hli
            obtain ⟨hgbM, hcell, hheld⟩ := lies_held.1 hli
            have hsz1 := sizes_mem hku
            have hszs := u.size_eq
            have htx := tameR_at _ k hku ((tame_eq u).1 HTU.out).2.1
            obtain ⟨x, hx⟩ : ∃ x, u.items[k] = x := ⟨_, rfl⟩
            rw [hx] at hcell hheld hsz1 htx
            rw [Nat.mul_comm 7 k] at hcell
            have d0 : wr.cell? ⟨gb, go + k * 7, none⟩ = some (.int .i64 x.k) := hcell 0 _ rfl
            have d1 : wr.cell? ⟨gb, go + k * 7 + 1, none⟩ = some (.bool x.g) := hcell 1 _ rfl
            have d2 : wr.cell? ⟨gb, go + k * 7 + 2, none⟩ = some (.slice x.la x.ln x.lc) := hcell 2 _ rfl
            have d3 : wr.cell? ⟨gb, go + k * 7 + 3, none⟩ = some (.bool x.bb) := hcell 3 _ rfl
            have d4 : wr.cell? ⟨gb, go + k * 7 + 4, none⟩ = some (.string x.s) := hcell 4 _ rfl
            have d5 : wr.cell? ⟨gb, go + k * 7 + 5, none⟩ = some (.slice x.ia x.items.length x.ic) := hcell 5 _ rfl
            have d6 : wr.cell? ⟨gb, go + k * 7 + 6, none⟩ = some (.slice x.ta x.tail.length x.tc) := hcell 6 _ rfl
            have hbw6 : Below wr.heap.size wr (wr.alloc (Obj.cells #[.int .i64 x.k, .bool x.g, .slice x.la x.ln x.lc, .bool x.bb, .string x.s, .slice x.ia x.items.length x.ic, .slice x.ta x.tail.length x.tc] 36)) := (Below.refl _ wr).alloc (Nat.le_refl _) _
            have hbelS := kbel.size
            have HC := Lib.hid (IH.out x (by omega) htx (wr.alloc (Obj.cells #[.int .i64 x.k, .bool x.g, .slice x.la x.ln x.lc, .bool x.bb, .string x.s, .slice x.ia x.items.length x.ic, .slice x.ta x.tail.length x.tc] 36)).drew (by show M ≤ (wr.alloc (Obj.cells #[.int .i64 x.k, .bool x.g, .slice x.la x.ln x.lc, .bool x.bb, .string x.s, .slice x.ia x.items.length x.ic, .slice x.ta x.tail.length x.tc] 36)).heap.size; have := hbw6.size; omega) (Held.keep (w := wr) hheld (by show wr.heap.size ≤ (wr.alloc (Obj.cells #[.int .i64 x.k, .bool x.g, .slice x.la x.ln x.lc, .bool x.bb, .string x.s, .slice x.ia x.items.length x.ic, .slice x.ta x.tail.length x.tc] 36)).heap.size; exact hbw6.size) fun q hq => (by show (wr.alloc (Obj.cells #[.int .i64 x.k, .bool x.g, .slice x.la x.ln x.lc, .bool x.bb, .string x.s, .slice x.ia x.items.length x.ic, .slice x.ta x.tail.length x.tc] 36)).heap[q]? = wr.heap[q]?; exact hbw6.block q (by omega))))
            clear hli hcell hheld hsz1 htx
            go_wp2_with fail
            have own6 : (wr.alloc (Obj.cells #[.int .i64 x.k, .bool x.g, .slice x.la x.ln x.lc, .bool x.bb, .string x.s, .slice x.ia x.items.length x.ic, .slice x.ta x.tail.length x.tc] 36)).ownsRow (w.heap.size + 3) 36 7 V ts.length (cellsAll ts) := kR.1.alloc _
            have e5 : (wr.alloc (Obj.cells #[.int .i64 x.k, .bool x.g, .slice x.la x.ln x.lc, .bool x.bb, .string x.s, .slice x.ia x.items.length x.ic, .slice x.ta x.tail.length x.tc] 36)).cell? ⟨w.heap.size + 1 + 1, 5, none⟩ = some V := (hbw6.cell (p := ⟨w.heap.size + 1 + 1, 5, none⟩) (by show w.heap.size + 1 + 1 < wr.heap.size; omega)).trans (by rw [Lib.cell_of_heap kB2]; rfl)
            have f5 : (wr.alloc (Obj.cells #[.int .i64 x.k, .bool x.g, .slice x.la x.ln x.lc, .bool x.bb, .string x.s, .slice x.ia x.items.length x.ic, .slice x.ta x.tail.length x.tc] 36)).frozen? ⟨w.heap.size + 1 + 1, 5, none⟩ = false := (hbw6.frozen (p := ⟨w.heap.size + 1 + 1, 5, none⟩) (by show w.heap.size + 1 + 1 < wr.heap.size; omega)).trans (Lib.frozen_of_heap kB2 5)
            have hc := fun j => Lib.cell_of_heap (World.alloc_heap_new wr (Obj.cells #[.int .i64 x.k, .bool x.g, .slice x.la x.ln x.lc, .bool x.bb, .string x.s, .slice x.ia x.items.length x.ic, .slice x.ta x.tail.length x.tc] 36)) j
            have g0 := hc 0; have g1 := hc 1; have g2 := hc 2; have g3 := hc 3; have g4 := hc 4; have g5 := hc 5; have g6 := hc 6
            have hz6 : (wr.alloc (Obj.cells #[.int .i64 x.k, .bool x.g, .slice x.la x.ln x.lc, .bool x.bb, .string x.s, .slice x.ia x.items.length x.ic, .slice x.ta x.tail.length x.tc] 36)).heap.size = wr.heap.size + 1 := World.size_alloc ..
            simp only [List.getElem?_toArray, List.getElem?_cons_zero, List.getElem?_cons_succ] at g0 g1 g2 g3 g4 g5 g6
            obtain ⟨W6, hW6⟩ : ∃ W6, wr.alloc (Obj.cells #[.int .i64 x.k, .bool x.g, .slice x.la x.ln x.lc, .bool x.bb, .string x.s, .slice x.ia x.items.length x.ic, .slice x.ta x.tail.length x.tc] 36) = W6 := ⟨_, rfl⟩
            rw [hW6] at own6 hbw6 e5 f5 g0 g1 g2 g3 g4 g5 g6 hz6 HC ⊢
            have HI := Lib.hid (And.intro kB0 (And.intro kB1 (And.intro kB2 (And.intro kbel hbw6))))
            have HO := Lib.hid own6
            have HR := Lib.hid kR
            have hVg : ∀ g, V.ownBlock = some g → w.heap.size + 3 ≤ g := fun g h => (kR.1.lt g h).1
            have neB : some (w.heap.size + 1 + 1) ≠ V.ownBlock := fun h => by have := kR.1.lt _ h.symm; omega
            have neI : some wr.heap.size ≠ V.ownBlock := fun h => by have := kR.1.lt _ h.symm; omega
            have hts9 : ts.length ≤ 100000 := by omega
            clear hc d0 d1 d2 d3 d4 d5 d6 kB0 kB1 kB2 kbel kR own6 hW6 hbw6 hVg
            generalize hmm : ts.length = m at *
            have HMM := Lib.hid hmm
            clear hmm
            obtain ⟨i0, hi0, hz0, hz1, hz2⟩ := info_parts infoD
            have hmix : Tryd.prog.follows .mixedOrders = true := by kernel_rfl
            have e5d : W6.drew.cell? ⟨w.heap.size + 1 + 1, 5, none⟩ = some V := e5
            have g0d := show W6.drew.cell? ⟨wr.heap.size, 0, none⟩ = _ from g0
            have g1d := show W6.drew.cell? ⟨wr.heap.size, 1, none⟩ = _ from g1
            have g2d := show W6.drew.cell? ⟨wr.heap.size, 2, none⟩ = _ from g2
            have g3d := show W6.drew.cell? ⟨wr.heap.size, 3, none⟩ = _ from g3
            have g4d := show W6.drew.cell? ⟨wr.heap.size, 4, none⟩ = _ from g4
            have g5d := show W6.drew.cell? ⟨wr.heap.size, 5, none⟩ = _ from g5
            have g6d := show W6.drew.cell? ⟨wr.heap.size, 6, none⟩ = _ from g6
            go_region_law
              (first
                | (refine step_call 28 #[.agg #[.int .i64 x.k, .bool x.g, .slice x.la x.ln x.lc, .bool x.bb, .string x.s, .slice x.ia x.items.length x.ic, .slice x.ta x.tail.length x.tc]] (by rfl) (by simp [execOp, Act.eval, go_sem]) (HC.out.mono ?_); rintro e w7 ⟨x', rfl, hP7, hsh7, b7⟩; refine ⟨_, rfl, ?_⟩; have c7 : Below W6.heap.size W6 w7 := (⟨b7.os, b7.tape, b7.output, b7.size, b7.block⟩); clear b7; have g7s := And.intro ((c7.cell (p := ⟨wr.heap.size, 0, none⟩) (by show wr.heap.size < W6.heap.size; omega)).trans g0) (And.intro ((c7.cell (p := ⟨wr.heap.size, 1, none⟩) (by show wr.heap.size < W6.heap.size; omega)).trans g1) (And.intro ((c7.cell (p := ⟨wr.heap.size, 2, none⟩) (by show wr.heap.size < W6.heap.size; omega)).trans g2) (And.intro ((c7.cell (p := ⟨wr.heap.size, 3, none⟩) (by show wr.heap.size < W6.heap.size; omega)).trans g3) (And.intro ((c7.cell (p := ⟨wr.heap.size, 4, none⟩) (by show wr.heap.size < W6.heap.size; omega)).trans g4) (And.intro ((c7.cell (p := ⟨wr.heap.size, 5, none⟩) (by show wr.heap.size < W6.heap.size; omega)).trans g5) ((c7.cell (p := ⟨wr.heap.size, 6, none⟩) (by show wr.heap.size < W6.heap.size; omega)).trans g6)))))); obtain ⟨q0, q1, q2, q3, q4, q5, q6⟩ := g7s; have e7 := (c7.cell (p := ⟨w.heap.size + 1 + 1, 5, none⟩) (by show w.heap.size + 1 + 1 < W6.heap.size; omega)).trans e5; have e7a : ∀ o : Obj, (w7.alloc o).cell? ⟨w.heap.size + 1 + 1, 5, none⟩ = some V := fun o => (World.cell?_of_block (w := w7) (Below.heap_alloc w7 o _ (by have := c7.size; show w.heap.size + 1 + 1 < w7.heap.size; omega))).trans e7; have HP7 := Lib.hid (And.intro hP7 hsh7); clear hP7 hsh7)
                | (refine step_append_lies _ (by rfl) (.tmp 18) (.tmp 21) 23 (by rfl) (w.heap.size + 3) 36 i0 (.agg #[.int .i64 0, .bool false, .slice none 0 0, .bool false, .string ⟨#[]⟩, .slice none 0 0, .slice none 0 0]) 7 112 Tryd.underlying23 hi0 hz0 hz1 hz2 rfl (by omega) V m (cellsAll ts) (by rfl) ((own_below7 HO.out c7).alloc _)
                    ⟨w7.heap.size, 0, none⟩ 1 1 x'.cells (by rfl) (by rfl) (cells_news (heap_alloc_new _ _)) (lt_one _) (by omega) (by unfold maxLen; omega) (by omega) (by have := c7.size; simp; omega) (w7.heap.size + 1) (by simp) ?_; intro gg cap w8 own8 hgrow8 hat hlt8; have e8 := after_app c7 hgrow8 e5 neB; have f8 := frozen_app (a := ⟨w.heap.size + 1 + 1, 5, none⟩) c7 hgrow8 (by show w.heap.size + 1 + 1 < W6.heap.size; omega) f5 neB; have h0 := after_app c7 hgrow8 g0 neI; have h1 := after_app c7 hgrow8 g1 neI; have h2 := after_app c7 hgrow8 g2 neI; have h3 := after_app c7 hgrow8 g3 neI; have h4 := after_app c7 hgrow8 g4 neI; have h5' := after_app c7 hgrow8 g5 neI; have h6 := after_app c7 hgrow8 g6 neI; have far8 : ∀ (x : Value) (j : Nat), (w8.setCell ⟨w.heap.size + 1 + 1, 5, none⟩ x).cell? ⟨wr.heap.size, j, none⟩ = w8.cell? ⟨wr.heap.size, j, none⟩ := fun x j => World.cell?_of_block (Below.heap_setCell _ _ _ _ (by show wr.heap.size ≠ w.heap.size + 1 + 1; omega)))
                | fail)
            all_goals
              go_wp2_with fail
              go_roundw
              case rel =>
                obtain rfl := HMM.out
                exact ni_next hku hM HI.out HR.out HP7.out.1 (by omega) kU.out hszX c7 hgrow8 hat own8 kD.out (by rw [hx]; exact HP7.out.2) (by rw [HX.out.2.2.2.2.2.2.2.2.1]; exact klen) _ (by omega)
              case measure => simp [intOf]; omega
          · obtain rfl : k = n := by omega
            replace kD := Lib.hid (show closeD (shapes ts ++ (spineR u.tail).1, (spineR u.tail).2) = d by have h := kD.out; rw [← HX.out.2.2.2.2.2.2.2.2.1, List.drop_length, normR_nil, List.nil_append] at h; exact h)
            have hgk : u.size = gk := HX.out.2.2.2.2.2.2.2.2.2
            have hszs := u.size_eq
            clear hlt hgM hcap hcl
            have hsz3 := hszX
            have hI5 := Lib.cell_of_heap kB0 6
            simp only [List.getElem?_toArray, List.getElem?_cons_zero, List.getElem?_cons_succ] at hI5
            by_cases ht0 : u.tail.length = 0
            · rw [ht0] at hI5
              obtain ⟨ia, ic, rfl, hsp, hli⟩ := row_parts kR
              have hos := fun j => Lib.cell_of_heap kB2 j
              have o0 := hos 0; have o1 := hos 1; have o2 := hos 2; have o3 := hos 3; have o4 := hos 4; have o5 := hos 5; have o6 := hos 6
              have hrs := fun j => Lib.cell_of_heap kB1 j
              have r0 := hrs 0; have r1 := hrs 1; have r2 := hrs 2; have r3 := hrs 3; have r4 := hrs 4; have r5 := hrs 5; have r6 := hrs 6
              have hrf := fun j => Lib.frozen_of_heap kB1 j
              have f0 := hrf 0; have f1 := hrf 1; have f2 := hrf 2; have f3 := hrf 3; have f4 := hrf 4; have f5 := hrf 5; have f6 := hrf 6
              simp only [List.getElem?_toArray, List.getElem?_cons_zero, List.getElem?_cons_succ] at o0 o1 o2 o3 o4 o5 o6 r0 r1 r2 r3 r4 r5 r6
              have HZ := Lib.hid (And.intro hsp (And.intro hli (And.intro kbel (show d = .mk 5 false [] false ⟨#[]⟩ (shapes ts) [] by
                have h := kD.out
                rw [List.length_eq_zero_iff.1 ht0, spineR_nil] at h
                simp only [List.append_nil] at h
                rw [← h, close_none]))))
              clear hos hrs hrf kB0 kB1 kB2 kR kbel hsp hli
              generalize hnt : ts.length = m at *
              have HM := Lib.hid hnt
              clear hnt
              go_wp2_with fail
              (try simp only [Exit.inBlock, Exit.then])
              refine bodyPost_ret (v := .agg #[.int .i64 5, .bool false, .slice none 0 0, .bool false, .string ⟨#[]⟩, .slice ia m ic, .slice none 0 0]) (results_d rfl rfl (by go_simp) (by go_simp) (by go_simp) (by go_simp) (by go_simp) (by go_simp <;> rfl) (by go_simp)) rfl ⟨rowT ia ic ts none 0 [], by rw [← HM.out]; rfl, ?_, ?_, ?_⟩
              · exact HeldP.low (rowT_held (by rw [HM.out]; exact HZ.out.1) HZ.out.2.1 (spotP_nil _) (by rw [liesPR_nil]; trivial)) (set7_low (Low.refl w.heap.size (w.heap.size + 3) _) (by omega) (by omega)) (by omega)
              · rw [rowT_shape, HZ.out.2.2.2, shapes_nil]
              · exact set7_below HZ.out.2.2.1 (by omega)
            · obtain ⟨y, ys, hy⟩ : ∃ y ys, u.tail = y :: ys := by
                cases hc : u.tail with
                | nil => exact absurd (by rw [hc]; rfl) ht0
                | cons y ys => exact ⟨y, ys, rfl⟩
              obtain ⟨hta, htM⟩ := kU.out.2.2.1.2.2.1 (by omega)
              have htc := kU.out.2.2.1.2.1
              have htl := kU.out.2.2.1.1
              unfold maxLen at htc
              have htR := kU.out.2.2.2.2
              rw [hy, liesR_cons] at htR
              obtain ⟨_, hyc, hyh⟩ := lies_held.1 htR.1
              rw [hta] at hI5
              have y0 : wr.cell? ⟨blk u.ta, ofs u.ta, none⟩ = some (.int .i64 y.k) := hyc 0 _ rfl
              have y1 : wr.cell? ⟨blk u.ta, ofs u.ta + 1, none⟩ = some (.bool y.g) := hyc 1 _ rfl
              have y2 : wr.cell? ⟨blk u.ta, ofs u.ta + 2, none⟩ = some (.slice y.la y.ln y.lc) := hyc 2 _ rfl
              have y3 : wr.cell? ⟨blk u.ta, ofs u.ta + 3, none⟩ = some (.bool y.bb) := hyc 3 _ rfl
              have y4 : wr.cell? ⟨blk u.ta, ofs u.ta + 4, none⟩ = some (.string y.s) := hyc 4 _ rfl
              have y5 : wr.cell? ⟨blk u.ta, ofs u.ta + 5, none⟩ = some (.slice y.ia y.items.length y.ic) := hyc 5 _ rfl
              have y6 : wr.cell? ⟨blk u.ta, ofs u.ta + 6, none⟩ = some (.slice y.ta y.tail.length y.tc) := hyc 6 _ rfl
              generalize blk u.ta = tb at *
              generalize ofs u.ta = to at *
              have htz : (((u.tail.length : Nat) : Int) == 0) = false := beq_eq_false_iff_ne.2 (by omega)
              have htp : 0 < u.tail.length := by omega
              have hlb : sizes u.tail = y.size + sizes ys := by rw [hy]; rfl
              generalize hnt : u.tail.length = m at *
              have hdf := fun j => Lib.frozen_of_heap kB0 j
              have f0 := hdf 0; have f1 := hdf 1; have f2 := hdf 2; have f3 := hdf 3; have f4 := hdf 4; have f5 := hdf 5; have f6 := hdf 6
              have hds := fun j => Lib.cell_of_heap kB0 j
              have d0 := hds 0; have d1 := hds 1; have d2 := hds 2; have d3 := hds 3; have d4 := hds 4; have d5 := hds 5
              simp only [List.getElem?_toArray, List.getElem?_cons_zero, List.getElem?_cons_succ] at d0 d1 d2 d3 d4 d5
              have HZ := Lib.hid (And.intro kB0 (And.intro kB1 (And.intro kB2 (And.intro kR (And.intro kbel (And.intro hy (And.intro hyh hnt)))))))
              clear kB0 kB1 kB2 kR kbel hdf hds hyc htR hyh hy ht0 hnt hta
              go_wp2_with fail
              go_roundg y.size
              case rel =>
                have hsame : ∀ k, k ≠ w.heap.size → (((((((wr.setCell ⟨w.heap.size, 0, none⟩ (.int .i64 y.k)).setCell ⟨w.heap.size, 1, none⟩ (.bool y.g)).setCell ⟨w.heap.size, 2, none⟩ (.slice y.la y.ln y.lc)).setCell ⟨w.heap.size, 3, none⟩ (.bool y.bb)).setCell ⟨w.heap.size, 4, none⟩ (.string y.s)).setCell ⟨w.heap.size, 5, none⟩ (.slice y.ia y.items.length y.ic)).setCell ⟨w.heap.size, 6, none⟩ (.slice y.ta y.tail.length y.tc)).heap[k]? = wr.heap[k]? := fun k hk => set7_other hk
                have hbw := set7_below (v0 := .int .i64 y.k) (v1 := .bool y.g) (v2 := .slice y.la y.ln y.lc) (v3 := .bool y.bb) (v4 := .string y.s) (v5 := .slice y.ia y.items.length y.ic) (v6 := .slice y.ta y.tail.length y.tc) HZ.out.2.2.2.2.1 (Nat.le_refl _)
                have hlw := set7_low (v0 := .int .i64 y.k) (v1 := .bool y.g) (v2 := .slice y.la y.ln y.lc) (v3 := .bool y.bb) (v4 := .string y.s) (v5 := .slice y.ia y.items.length y.ic) (v6 := .slice y.ta y.tail.length y.tc) (Low.refl w.heap.size (w.heap.size + 1) wr) (Nat.le_refl _) (by omega)
                have hz9 := hlw.1
                refine ⟨y, V, ts, rfl, set7 HZ.out.1, (hsame _ (by omega)).trans HZ.out.2.1, (hsame _ (by omega)).trans HZ.out.2.2.1, ⟨?_, ?_⟩, ?_, by omega, Lib.hid (HZ.out.2.2.2.2.2.2.1.keep hz9 fun q hq => hsame q (by omega)), ?_, hbw, by omega⟩
                · exact ownsRow_kept_low HZ.out.2.2.2.1.1 (by omega) hlw
                · exact HZ.out.2.2.2.1.2.keep hz9 fun q hq => ⟨⟨hq.1.same (hsame q (by have := hq.1.1; omega)), hq.2⟩, hsame q (by have := hq.1.1; omega)⟩
                · have h := kD.out
                  rw [HZ.out.2.2.2.2.2.1, spineR_cons] at h
                  exact Lib.hid h
                · have h := ((tame_eq u).1 HTU.out).2.2
                  rw [HZ.out.2.2.2.2.2.1] at h
                  exact Lib.hid h.1
              case measure => omega
      · have hn0 : u.items.length = 0 := by omega
        rw [hn0] at a5
        replace HD := Lib.hid (show closeD (shapes ts ++ (spineR u.tail).1, (spineR u.tail).2) = d by
          have h := HD.out
          rw [spineT_eq, if_pos h5, List.length_eq_zero_iff.1 hn0, normR_nil, List.nil_append] at h
          exact h)
        have HS := Lib.hid (And.intro hB0 (And.intro hB1 (And.intro hB2 (And.intro hR hbel))))
        clear hB0 hB1 hB2 hR hbel
        obtain ⟨wo, hwo⟩ : ∃ wo, wo = wr := ⟨_, rfl⟩
        rw [← hwo] at a0 a5 HS hsz HU ⊢
        clear hwo
        go_wp2_with fail
        go_loopw [13] (fun i ws => i = .int .i64 0 ∧ ws = wo) (fun _ _ => 0)
        case atStart => exact ⟨rfl, rfl⟩
        case round =>
          clear a0 a5
          obtain ⟨rfl, rfl⟩ := hrel
          obtain ⟨kB0, kB1, kB2, kR, kbel⟩ := HS.out
          have kD := HD
          have kU := HU
          have hszX := hsz
          have hgk := hq
          have hszs := u.size_eq
          have klen := hlen
          clear HS
          have hsz3 := hszX
          have hI5 := Lib.cell_of_heap kB0 6
          simp only [List.getElem?_toArray, List.getElem?_cons_zero, List.getElem?_cons_succ] at hI5
          by_cases ht0 : u.tail.length = 0
          · rw [ht0] at hI5
            obtain ⟨ia, ic, rfl, hsp, hli⟩ := row_parts kR
            have hos := fun j => Lib.cell_of_heap kB2 j
            have o0 := hos 0; have o1 := hos 1; have o2 := hos 2; have o3 := hos 3; have o4 := hos 4; have o5 := hos 5; have o6 := hos 6
            have hrs := fun j => Lib.cell_of_heap kB1 j
            have r0 := hrs 0; have r1 := hrs 1; have r2 := hrs 2; have r3 := hrs 3; have r4 := hrs 4; have r5 := hrs 5; have r6 := hrs 6
            have hrf := fun j => Lib.frozen_of_heap kB1 j
            have f0 := hrf 0; have f1 := hrf 1; have f2 := hrf 2; have f3 := hrf 3; have f4 := hrf 4; have f5 := hrf 5; have f6 := hrf 6
            simp only [List.getElem?_toArray, List.getElem?_cons_zero, List.getElem?_cons_succ] at o0 o1 o2 o3 o4 o5 o6 r0 r1 r2 r3 r4 r5 r6
            have HZ := Lib.hid (And.intro hsp (And.intro hli (And.intro kbel (show d = .mk 5 false [] false ⟨#[]⟩ (shapes ts) [] by
              have h := kD.out
              rw [List.length_eq_zero_iff.1 ht0, spineR_nil] at h
              simp only [List.append_nil] at h
              rw [← h, close_none]))))
            clear hos hrs hrf kB0 kB1 kB2 kR kbel hsp hli
            generalize hnt : ts.length = m at *
            have HM := Lib.hid hnt
            clear hnt
            go_wp2_with fail
            (try simp only [Exit.inBlock, Exit.then])
            refine bodyPost_ret (v := .agg #[.int .i64 5, .bool false, .slice none 0 0, .bool false, .string ⟨#[]⟩, .slice ia m ic, .slice none 0 0]) (results_d rfl rfl (by go_simp) (by go_simp) (by go_simp) (by go_simp) (by go_simp) (by go_simp <;> rfl) (by go_simp)) rfl ⟨rowT ia ic ts none 0 [], by rw [← HM.out]; rfl, ?_, ?_, ?_⟩
            · exact HeldP.low (rowT_held (by rw [HM.out]; exact HZ.out.1) HZ.out.2.1 (spotP_nil _) (by rw [liesPR_nil]; trivial)) (set7_low (Low.refl w.heap.size (w.heap.size + 3) _) (by omega) (by omega)) (by omega)
            · rw [rowT_shape, HZ.out.2.2.2, shapes_nil]
            · exact set7_below HZ.out.2.2.1 (by omega)
          · obtain ⟨y, ys, hy⟩ : ∃ y ys, u.tail = y :: ys := by
              cases hc : u.tail with
              | nil => exact absurd (by rw [hc]; rfl) ht0
              | cons y ys => exact ⟨y, ys, rfl⟩
            obtain ⟨hta, htM⟩ := kU.out.2.2.1.2.2.1 (by omega)
            have htc := kU.out.2.2.1.2.1
            have htl := kU.out.2.2.1.1
            unfold maxLen at htc
            have htR := kU.out.2.2.2.2
            rw [hy, liesR_cons] at htR
            obtain ⟨_, hyc, hyh⟩ := lies_held.1 htR.1
            rw [hta] at hI5
            have y0 : wr.cell? ⟨blk u.ta, ofs u.ta, none⟩ = some (.int .i64 y.k) := hyc 0 _ rfl
            have y1 : wr.cell? ⟨blk u.ta, ofs u.ta + 1, none⟩ = some (.bool y.g) := hyc 1 _ rfl
            have y2 : wr.cell? ⟨blk u.ta, ofs u.ta + 2, none⟩ = some (.slice y.la y.ln y.lc) := hyc 2 _ rfl
            have y3 : wr.cell? ⟨blk u.ta, ofs u.ta + 3, none⟩ = some (.bool y.bb) := hyc 3 _ rfl
            have y4 : wr.cell? ⟨blk u.ta, ofs u.ta + 4, none⟩ = some (.string y.s) := hyc 4 _ rfl
            have y5 : wr.cell? ⟨blk u.ta, ofs u.ta + 5, none⟩ = some (.slice y.ia y.items.length y.ic) := hyc 5 _ rfl
            have y6 : wr.cell? ⟨blk u.ta, ofs u.ta + 6, none⟩ = some (.slice y.ta y.tail.length y.tc) := hyc 6 _ rfl
            generalize blk u.ta = tb at *
            generalize ofs u.ta = to at *
            have htz : (((u.tail.length : Nat) : Int) == 0) = false := beq_eq_false_iff_ne.2 (by omega)
            have htp : 0 < u.tail.length := by omega
            have hlb : sizes u.tail = y.size + sizes ys := by rw [hy]; rfl
            generalize hnt : u.tail.length = m at *
            have hdf := fun j => Lib.frozen_of_heap kB0 j
            have f0 := hdf 0; have f1 := hdf 1; have f2 := hdf 2; have f3 := hdf 3; have f4 := hdf 4; have f5 := hdf 5; have f6 := hdf 6
            have hds := fun j => Lib.cell_of_heap kB0 j
            have d0 := hds 0; have d1 := hds 1; have d2 := hds 2; have d3 := hds 3; have d4 := hds 4; have d5 := hds 5
            simp only [List.getElem?_toArray, List.getElem?_cons_zero, List.getElem?_cons_succ] at d0 d1 d2 d3 d4 d5
            have HZ := Lib.hid (And.intro kB0 (And.intro kB1 (And.intro kB2 (And.intro kR (And.intro kbel (And.intro hy (And.intro hyh hnt)))))))
            clear kB0 kB1 kB2 kR kbel hdf hds hyc htR hyh hy ht0 hnt hta
            go_wp2_with fail
            go_roundg y.size
            case rel =>
              have hsame : ∀ k, k ≠ w.heap.size → (((((((wr.setCell ⟨w.heap.size, 0, none⟩ (.int .i64 y.k)).setCell ⟨w.heap.size, 1, none⟩ (.bool y.g)).setCell ⟨w.heap.size, 2, none⟩ (.slice y.la y.ln y.lc)).setCell ⟨w.heap.size, 3, none⟩ (.bool y.bb)).setCell ⟨w.heap.size, 4, none⟩ (.string y.s)).setCell ⟨w.heap.size, 5, none⟩ (.slice y.ia y.items.length y.ic)).setCell ⟨w.heap.size, 6, none⟩ (.slice y.ta y.tail.length y.tc)).heap[k]? = wr.heap[k]? := fun k hk => set7_other hk
              have hbw := set7_below (v0 := .int .i64 y.k) (v1 := .bool y.g) (v2 := .slice y.la y.ln y.lc) (v3 := .bool y.bb) (v4 := .string y.s) (v5 := .slice y.ia y.items.length y.ic) (v6 := .slice y.ta y.tail.length y.tc) HZ.out.2.2.2.2.1 (Nat.le_refl _)
              have hlw := set7_low (v0 := .int .i64 y.k) (v1 := .bool y.g) (v2 := .slice y.la y.ln y.lc) (v3 := .bool y.bb) (v4 := .string y.s) (v5 := .slice y.ia y.items.length y.ic) (v6 := .slice y.ta y.tail.length y.tc) (Low.refl w.heap.size (w.heap.size + 1) wr) (Nat.le_refl _) (by omega)
              have hz9 := hlw.1
              refine ⟨y, V, ts, rfl, set7 HZ.out.1, (hsame _ (by omega)).trans HZ.out.2.1, (hsame _ (by omega)).trans HZ.out.2.2.1, ⟨?_, ?_⟩, ?_, by omega, Lib.hid (HZ.out.2.2.2.2.2.2.1.keep hz9 fun q hq => hsame q (by omega)), ?_, hbw, by omega⟩
              · exact ownsRow_kept_low HZ.out.2.2.2.1.1 (by omega) hlw
              · exact HZ.out.2.2.2.1.2.keep hz9 fun q hq => ⟨⟨hq.1.same (hsame q (by have := hq.1.1; omega)), hq.2⟩, hsame q (by have := hq.1.1; omega)⟩
              · have h := kD.out
                rw [HZ.out.2.2.2.2.2.1, spineR_cons] at h
                exact Lib.hid h
              · have h := ((tame_eq u).1 HTU.out).2.2
                rw [HZ.out.2.2.2.2.2.1] at h
                exact Lib.hid h.1
            case measure => omega
    · have hD2 : closeD (shapes ts, some (normT u)) = d := by
        have h := HD.out
        rw [spineT_eq, if_neg h5, List.append_nil, ← normT_leaf u h5] at h
        exact h
      have e5 : (u.k == 5) = false := beq_eq_false_iff_ne.2 h5
      obtain ⟨ia, ic, rfl, hsp, hli⟩ := row_parts hR
      have hds := fun j => Lib.cell_of_heap hB0 j
      have d1 := hds 1; have d2 := hds 2; have d3 := hds 3; have d4 := hds 4; have d6 := hds 6
      have hO5 := Lib.cell_of_heap hB2 5
      simp only [List.getElem?_toArray, List.getElem?_cons_zero, List.getElem?_cons_succ] at d1 d2 d3 d4 d6 hO5
      have HC := Lib.hid (normal_nl u h5 ((tame_eq u).1 HTU.out).1 HU.out.1.2.2 wr HU.out.1.1)
      have HZ := Lib.hid (And.intro hB1 (And.intro hB2 (And.intro hsp (And.intro hli (And.intro hbel hD2)))))
      clear hds hB0 hB1 hB2 hR hbel hsp hli hD2
      by_cases h0 : ts.length = 0
      · rw [h0] at hO5
        go_wp2_with fail
        refine HC.out.mono ?_
        rintro e w1 ⟨x', rfl, hP, hsh, b1⟩
        have hz1 := b1.size
        have kB1 := (b1.block (w.heap.size + 1) (by omega)).trans HZ.out.1
        have hrs := fun j => Lib.cell_of_heap kB1 j
        have r0 := hrs 0; have r1 := hrs 1; have r2 := hrs 2; have r3 := hrs 3; have r4 := hrs 4; have r5 := hrs 5; have r6 := hrs 6
        have hrf := fun j => Lib.frozen_of_heap kB1 j
        have f0 := hrf 0; have f1 := hrf 1; have f2 := hrf 2; have f3 := hrf 3; have f4 := hrf 4; have f5 := hrf 5; have f6 := hrf 6
        simp only [List.getElem?_toArray, List.getElem?_cons_zero, List.getElem?_cons_succ] at r0 r1 r2 r3 r4 r5 r6
        have HY := Lib.hid (And.intro hP (And.intro hsh (HZ.out.2.2.2.2.1.trans (b1.mono (by omega)))))
        clear hrs hrf kB1 hP hsh b1 a0 a5 d1 d2 d3 d4 d6 hO5
        go_wp2_with fail
        (try simp only [Exit.inBlock, Exit.then])
        refine bodyPost_ret (v := .agg #[.int .i64 x'.k, .bool x'.g, .slice x'.la x'.ln x'.lc, .bool x'.bb, .string x'.s, .slice x'.ia x'.items.length x'.ic, .slice x'.ta x'.tail.length x'.tc]) (results_d rfl rfl (by go_simp) (by go_simp) (by go_simp) (by go_simp) (by go_simp) (by go_simp <;> rfl) (by go_simp)) rfl ⟨x', rfl, ?_, ?_, ?_⟩
        · exact HeldP.low (U := w.heap.size + 3) (HY.out.1.keep (Nat.le_refl _) fun q hq => ⟨hq.low (by omega), rfl⟩) (set7_low (Low.refl w.heap.size (w.heap.size + 3) _) (by omega) (by omega)) (by omega)
        · have h := HZ.out.2.2.2.2.2
          rw [List.length_eq_zero_iff.1 h0, shapes_nil] at h
          exact HY.out.2.1.trans h
        · exact set7_below HY.out.2.2 (by omega)
      · have e6 : (((ts.length : Nat) : Int) == 0) = false := beq_eq_false_iff_ne.2 (by omega)
        have hts : shapes ts ≠ [] := fun h => h0 (by rw [← shapes_length, h]; rfl)
        generalize hnt : ts.length = m at *
        have HM := Lib.hid hnt
        clear hnt
        go_wp2_with fail
        refine HC.out.mono ?_
        rintro e w1 ⟨x', rfl, hP, hsh, b1⟩
        have hz1 := b1.size
        have hba : Below w1.heap.size w1 (w1.alloc (Obj.cells #[.int .i64 x'.k, .bool x'.g, .slice x'.la x'.ln x'.lc, .bool x'.bb, .string x'.s, .slice x'.ia x'.items.length x'.ic, .slice x'.ta x'.tail.length x'.tc] 36)) := (Below.refl _ _).alloc (Nat.le_refl _) _
        have kB1 := (hba.block (w.heap.size + 1) (by omega)).trans ((b1.block (w.heap.size + 1) (by omega)).trans HZ.out.1)
        have kB2 := (hba.block (w.heap.size + 1 + 1) (by omega)).trans ((b1.block (w.heap.size + 1 + 1) (by omega)).trans HZ.out.2.1)
        have kN := World.alloc_heap_new w1 (Obj.cells #[.int .i64 x'.k, .bool x'.g, .slice x'.la x'.ln x'.lc, .bool x'.bb, .string x'.s, .slice x'.ia x'.items.length x'.ic, .slice x'.ta x'.tail.length x'.tc] 36)
        have hrs := fun j => Lib.cell_of_heap kB1 j
        have r0 := hrs 0; have r1 := hrs 1; have r2 := hrs 2; have r3 := hrs 3; have r4 := hrs 4; have r5 := hrs 5; have r6 := hrs 6
        have hrf := fun j => Lib.frozen_of_heap kB1 j
        have f0 := hrf 0; have f1 := hrf 1; have f2 := hrf 2; have f3 := hrf 3; have f4 := hrf 4; have f5 := hrf 5; have f6 := hrf 6
        have hos := fun j => Lib.cell_of_heap kB2 j
        have o0 := hos 0; have o1 := hos 1; have o2 := hos 2; have o3 := hos 3; have o4 := hos 4; have o5 := hos 5; have o6 := hos 6
        have p6 := Lib.frozen_of_heap kB2 6
        simp only [List.getElem?_toArray, List.getElem?_cons_zero, List.getElem?_cons_succ] at r0 r1 r2 r3 r4 r5 r6 o0 o1 o2 o3 o4 o5 o6
        have hzA : (w1.alloc (Obj.cells #[.int .i64 x'.k, .bool x'.g, .slice x'.la x'.ln x'.lc, .bool x'.bb, .string x'.s, .slice x'.ia x'.items.length x'.ic, .slice x'.ta x'.tail.length x'.tc] 36)).heap.size = w1.heap.size + 1 := World.size_alloc ..
        have HY := Lib.hid (And.intro hP (And.intro hsh (And.intro ((HZ.out.2.2.2.2.1.trans (b1.mono (by omega))).trans (hba.mono (by omega))) (And.intro hba (And.intro b1 (And.intro kN hzA))))))
        clear hrs hrf hos kB1 kB2 kN hba hP hsh b1 a0 a5 d1 d2 d3 d4 d6 hO5 hzA
        go_wp2_with fail
        (try simp only [Exit.inBlock, Exit.then])
        refine bodyPost_ret (v := .agg #[.int .i64 5, .bool false, .slice none 0 0, .bool false, .string ⟨#[]⟩, .slice ia m ic, .slice (some ⟨w1.heap.size, 0, none⟩) 1 1]) (results_d rfl rfl (by go_simp) (by go_simp) (by go_simp) (by go_simp) (by go_simp) (by go_simp <;> rfl) (by go_simp)) rfl ⟨rowT ia ic ts (some ⟨w1.heap.size, 0, none⟩) 1 [x'], by rw [← HM.out]; rfl, ?_, ?_, ?_⟩
        · have hA : Fresh (w1.alloc (Obj.cells #[.int .i64 x'.k, .bool x'.g, .slice x'.la x'.ln x'.lc, .bool x'.bb, .string x'.s, .slice x'.ia x'.items.length x'.ic, .slice x'.ta x'.tail.length x'.tc] 36)) (w.heap.size + 3) w1.heap.size := Fresh.of (by omega) HY.out.2.2.2.2.2.1 (by decide)
          refine HeldP.low (L := w.heap.size) (U := w.heap.size + 3) (w := w1.alloc (Obj.cells #[.int .i64 x'.k, .bool x'.g, .slice x'.la x'.ln x'.lc, .bool x'.bb, .string x'.s, .slice x'.ia x'.items.length x'.ic, .slice x'.ta x'.tail.length x'.tc] 36)) (rowT_held ?_ ?_ ⟨by simp, by simp [maxLen], fun _ => ⟨rfl, hA⟩, fun e => by cases e⟩ ?_) (set7_low ((Low.refl w.heap.size (w.heap.size + 3) _).setCell (p := ⟨w.heap.size + 1 + 1, 6, none⟩) (by show w.heap.size ≤ w.heap.size + 1 + 1; omega) (by show w.heap.size + 1 + 1 < w.heap.size + 3; omega) _) (by omega) (by omega)) (by omega)
          · rw [HM.out]
            exact HZ.out.2.2.1.mono fun q hq => hq.same ((HY.out.2.2.2.1.block q (by have := hq.lt; omega)).trans (HY.out.2.2.2.2.1.block q hq.lt))
          · exact HZ.out.2.2.2.1.keep (by rw [HY.out.2.2.2.2.2.2]; omega) fun q hq => ⟨hq.same ((HY.out.2.2.2.1.block q (by have := hq.lt; omega)).trans (HY.out.2.2.2.2.1.block q hq.lt)), (HY.out.2.2.2.1.block q (by have := hq.lt; omega)).trans (HY.out.2.2.2.2.1.block q hq.lt)⟩
          · refine liesPR_of hA [x'] 0 (fun y hy => ?_) fun j v hj => ?_
            · rw [List.mem_singleton.1 hy]
              exact HY.out.1.below HY.out.2.2.2.1 (by omega)
            · have h := cells_news HY.out.2.2.2.2.2.1 j v (by rw [show cellsAll [x'] = x'.cells from List.append_nil _] at hj; exact hj)
              rwa [cell_add] at h
        · rw [rowT_shape, shapes_cons, shapes_nil, HY.out.2.1, ← close_some _ _ hts]
          exact HZ.out.2.2.2.2.2
        · exact set7_below (HY.out.2.2.1.setCell (p := ⟨w.heap.size + 1 + 1, 6, none⟩) (by show w.heap.size ≤ w.heap.size + 1 + 1; omega) _) (by omega)
set_option maxRecDepth 100000 in
set_option maxHeartbeats 3200000 in
theorem normal_list_tree (t : LT) (hk : t.k = 5) (w : World) (h : ∀ W, Below w.heap.size w W → Calls Tryd.prog 52 #[.agg #[.int .i64 t.k, .bool t.g, .slice t.la t.ln t.lc, .bool t.bb, .string t.s, .slice t.ia t.items.length t.ic, .slice t.ta t.tail.length t.tc]] W (NPost (normT t) W)) :
    Calls Tryd.prog 28 #[.agg #[.int .i64 t.k, .bool t.g, .slice t.la t.ln t.lc, .bool t.bb, .string t.s, .slice t.ia t.items.length t.ic, .slice t.ta t.tail.length t.tc]] w (NPost (normT t) w) := by
  rw [hk] at h ⊢
  generalize normT t = d at *
  have HN := Lib.hid h
  clear h hk
  go_enter Tryd.func28, Tryd.ntmps28
  go_wp2_with fail
  have hb3 : Below w.heap.size w (((w.alloc (Obj.cells #[.int .i64 5, .bool t.g, .slice t.la t.ln t.lc, .bool t.bb, .string t.s, .slice t.ia t.items.length t.ic, .slice t.ta t.tail.length t.tc] 36)).alloc (Obj.cells #[.int .i64 0, .bool false, .slice none 0 0, .bool false, .string ⟨#[]⟩, .slice none 0 0, .slice none 0 0] 36)).alloc (Obj.cells #[.int .i64 5, .bool false, .slice none 0 0, .bool false, .string ⟨#[]⟩, .slice none 0 0, .slice none 0 0] 36)) := (((Below.refl w.heap.size w).alloc (Nat.le_refl _) _).alloc (by simp) _).alloc (by simp; omega) _
  have hz3 : (((w.alloc (Obj.cells #[.int .i64 5, .bool t.g, .slice t.la t.ln t.lc, .bool t.bb, .string t.s, .slice t.ia t.items.length t.ic, .slice t.ta t.tail.length t.tc] 36)).alloc (Obj.cells #[.int .i64 0, .bool false, .slice none 0 0, .bool false, .string ⟨#[]⟩, .slice none 0 0, .slice none 0 0] 36)).alloc (Obj.cells #[.int .i64 5, .bool false, .slice none 0 0, .bool false, .string ⟨#[]⟩, .slice none 0 0, .slice none 0 0] 36)).heap.size = w.heap.size + 1 + 1 + 1 := by rw [World.size_alloc, World.size_alloc, World.size_alloc]
  have hr : (((w.alloc (Obj.cells #[.int .i64 5, .bool t.g, .slice t.la t.ln t.lc, .bool t.bb, .string t.s, .slice t.ia t.items.length t.ic, .slice t.ta t.tail.length t.tc] 36)).alloc (Obj.cells #[.int .i64 0, .bool false, .slice none 0 0, .bool false, .string ⟨#[]⟩, .slice none 0 0, .slice none 0 0] 36)).alloc (Obj.cells #[.int .i64 5, .bool false, .slice none 0 0, .bool false, .string ⟨#[]⟩, .slice none 0 0, .slice none 0 0] 36)).heap[w.heap.size + 1]? = some (Obj.cells #[.int .i64 0, .bool false, .slice none 0 0, .bool false, .string ⟨#[]⟩, .slice none 0 0, .slice none 0 0] 36) := (Below.heap_alloc _ _ _ (by simp)).trans (by have := World.alloc_heap_new (w.alloc (Obj.cells #[.int .i64 5, .bool t.g, .slice t.la t.ln t.lc, .bool t.bb, .string t.s, .slice t.ia t.items.length t.ic, .slice t.ta t.tail.length t.tc] 36)) (Obj.cells #[.int .i64 0, .bool false, .slice none 0 0, .bool false, .string ⟨#[]⟩, .slice none 0 0, .slice none 0 0] 36); rwa [World.size_alloc] at this)
  have H3 := Lib.hid (And.intro hb3 (And.intro hz3 hr))
  clear hb3 hz3 hr
  refine (HN.out _ H3.out.1).mono ?_
  rintro e w1 ⟨x', rfl, hP, hsh, b1⟩
  have hz1 : w.heap.size + 3 ≤ w1.heap.size := by have := b1.size; rw [H3.out.2.1] at this; omega
  have hr1 := (b1.block (w.heap.size + 1) (by rw [H3.out.2.1]; omega)).trans H3.out.2.2
  have hrs := fun j => Lib.cell_of_heap hr1 j
  have r0 := hrs 0; have r1 := hrs 1; have r2 := hrs 2; have r3 := hrs 3; have r4 := hrs 4; have r5 := hrs 5; have r6 := hrs 6
  have hrf := fun j => Lib.frozen_of_heap hr1 j
  have f0 := hrf 0; have f1 := hrf 1; have f2 := hrf 2; have f3 := hrf 3; have f4 := hrf 4; have f5 := hrf 5; have f6 := hrf 6
  simp only [List.getElem?_toArray, List.getElem?_cons_zero, List.getElem?_cons_succ] at r0 r1 r2 r3 r4 r5 r6
  rw [H3.out.2.1] at hP
  have HY := Lib.hid (And.intro hP (And.intro hsh (H3.out.1.trans (b1.mono (by rw [H3.out.2.1]; omega)))))
  clear hrs hrf hr1 hP hsh b1
  go_wp2_with fail
  (try simp only [Exit.inBlock, Exit.then])
  refine bodyPost_ret (v := .agg #[.int .i64 x'.k, .bool x'.g, .slice x'.la x'.ln x'.lc, .bool x'.bb, .string x'.s, .slice x'.ia x'.items.length x'.ic, .slice x'.ta x'.tail.length x'.tc]) (results_d rfl rfl (by go_simp) (by go_simp) (by go_simp) (by go_simp) (by go_simp) (by go_simp <;> rfl) (by go_simp)) rfl ⟨x', rfl, ?_, HY.out.2.1, ?_⟩
  · exact HeldP.low (U := w.heap.size + 3) HY.out.1 (set7_low (Low.refl w.heap.size (w.heap.size + 3) _) (by omega) (by omega)) (by omega)
  · exact set7_below HY.out.2.2 (by omega)
theorem normal_tree (M : Nat) : ∀ N : Nat, N ≤ 100000 → ∀ t : LT, t.size ≤ N → Tame t → ∀ w : World, M ≤ w.heap.size → Held w M t → Calls Tryd.prog 28 #[.agg #[.int .i64 t.k, .bool t.g, .slice t.la t.ln t.lc, .bool t.bb, .string t.s, .slice t.ia t.items.length t.ic, .slice t.ta t.tail.length t.tc]] w (NPost (normT t) w)
  | 0, _, t, ht, _, _, _, _ => by rw [t.size_eq] at ht; omega
  | N + 1, hN, t, ht, hT, w, hM, hH => by
    by_cases hk : t.k = 5
    · exact normal_list_tree t hk w fun W hb => normalList_tree M N (fun u hu hTu w hM hH => normal_tree M N (by omega) u hu hTu w hM hH) hN t ht hk hT W (Nat.le_trans hM hb.size) (hH.below hM hb)
    · exact normal_nl t hk ((tame_eq t).1 hT).1 hH.1.2.2 w hH.1.1
set_option maxRecDepth 100000 in
set_option maxHeartbeats 3200000 in
theorem norm_tree (M : Nat) (t : LT) (h1 : t.size ≤ 100000) (h2 : t.depth ≤ 10000) (hT : Tame t) (w : World) (hM : M ≤ w.heap.size) (hH : Held w M t) :
    Calls Tryd.prog 13 #[.agg #[.int .i64 t.k, .bool t.g, .slice t.la t.ln t.lc, .bool t.bb, .string t.s, .slice t.ia t.items.length t.ic, .slice t.ta t.tail.length t.tc]] w (NPost (normT t) w) := by
  have hl := fun W (hb : Below w.heap.size w W) => isLooked_any t M W (hH.below hM hb) (Nat.le_trans hM hb.size) h1 h2
  have hn := fun W (hb : Below w.heap.size w W) => normal_tree M 100000 (Nat.le_refl _) t h1 hT W (Nat.le_trans hM hb.size) (hH.below hM hb)
  unfold LT.cells at hl
  have HL := Lib.hid (And.intro hl hn)
  clear hl hn hH hT
  generalize normT t = d at *
  go_enter Tryd.func13, Tryd.ntmps13
  go_wp2_with fail
  have hz2 : ((w.alloc (Obj.cells #[.int .i64 t.k, .bool t.g, .slice t.la t.ln t.lc, .bool t.bb, .string t.s, .slice t.ia t.items.length t.ic, .slice t.ta t.tail.length t.tc] 36)).alloc (Obj.cells #[.int .i64 0, .bool false, .slice none 0 0, .bool false, .string ⟨#[]⟩, .slice none 0 0, .slice none 0 0] 36)).heap.size = w.heap.size + 1 + 1 := by rw [World.size_alloc, World.size_alloc]
  refine (HL.out.1 _ (((Below.refl w.heap.size w).alloc (Nat.le_refl _) _).alloc (by simp) _)).mono ?_
  rintro e w1 ⟨rfl, b1⟩
  have hr1 : w1.heap[w.heap.size + 1]? = some (Obj.cells #[.int .i64 0, .bool false, .slice none 0 0, .bool false, .string ⟨#[]⟩, .slice none 0 0, .slice none 0 0] 36) := by
    refine (b1.block _ (by rw [hz2]; omega)).trans ?_
    have := World.alloc_heap_new (w.alloc (Obj.cells #[.int .i64 t.k, .bool t.g, .slice t.la t.ln t.lc, .bool t.bb, .string t.s, .slice t.ia t.items.length t.ic, .slice t.ta t.tail.length t.tc] 36)) (Obj.cells #[.int .i64 0, .bool false, .slice none 0 0, .bool false, .string ⟨#[]⟩, .slice none 0 0, .slice none 0 0] 36)
    rwa [World.size_alloc] at this
  have hr0 : w1.heap[w.heap.size]? = some (Obj.cells #[.int .i64 t.k, .bool t.g, .slice t.la t.ln t.lc, .bool t.bb, .string t.s, .slice t.ia t.items.length t.ic, .slice t.ta t.tail.length t.tc] 36) := (b1.block _ (by rw [hz2]; omega)).trans ((Below.heap_alloc _ _ _ (by simp)).trans (World.alloc_heap_new w _))
  have hb1 : Below w.heap.size w w1 := (((Below.refl w.heap.size w).alloc (Nat.le_refl _) _).alloc (by simp) _).trans (b1.mono (by rw [hz2]; omega))
  have s1 : w.heap.size + 1 + 1 ≤ w1.heap.size := by have := b1.size; rw [hz2] at this; exact this
  clear b1 hz2
  have hds := fun j => Lib.cell_of_heap hr0 j
  have d0 := hds 0; have d1 := hds 1; have d2 := hds 2; have d3 := hds 3; have d4 := hds 4; have d5 := hds 5; have d6 := hds 6
  simp only [List.getElem?_toArray, List.getElem?_cons_zero, List.getElem?_cons_succ] at d0 d1 d2 d3 d4 d5 d6
  have HR1 := Lib.hid (And.intro hr1 hb1)
  clear hr1 hr0 hb1 hds
  go_wp2_with fail
  refine (HL.out.2 w1 HR1.out.2).mono ?_
  rintro e w2 ⟨x', rfl, hP, hsh, b2⟩
  have s2 := b2.size
  have hr := (b2.block (w.heap.size + 1) (by omega)).trans HR1.out.1
  have HY := Lib.hid (And.intro hP (And.intro hsh (HR1.out.2.trans (b2.mono (by omega)))))
  clear b2 d0 d1 d2 d3 d4 d5 d6 hP hsh
  have hrs := fun j => Lib.cell_of_heap hr j
  have r0 := hrs 0; have r1 := hrs 1; have r2 := hrs 2; have r3 := hrs 3; have r4 := hrs 4; have r5 := hrs 5; have r6 := hrs 6
  have hrf := fun j => Lib.frozen_of_heap hr j
  have f0 := hrf 0; have f1 := hrf 1; have f2 := hrf 2; have f3 := hrf 3; have f4 := hrf 4; have f5 := hrf 5; have f6 := hrf 6
  simp only [List.getElem?_toArray, List.getElem?_cons_zero, List.getElem?_cons_succ] at r0 r1 r2 r3 r4 r5 r6
  clear hrs hrf hr
  go_wp2_with fail
  (try simp only [Exit.inBlock, Exit.then])
  refine bodyPost_ret (v := .agg #[.int .i64 x'.k, .bool x'.g, .slice x'.la x'.ln x'.lc, .bool x'.bb, .string x'.s, .slice x'.ia x'.items.length x'.ic, .slice x'.ta x'.tail.length x'.tc]) (results_d rfl rfl (by go_simp) (by go_simp) (by go_simp) (by go_simp) (by go_simp) (by go_simp <;> rfl) (by go_simp)) rfl ⟨x', rfl, ?_, HY.out.2.1, ?_⟩
  · exact HeldP.low (U := w.heap.size + 2) (HY.out.1.keep (Nat.le_refl _) fun q hq => ⟨hq.low (by omega), rfl⟩) (set7_low (Low.refl w.heap.size (w.heap.size + 2) _) (by omega) (by omega)) (by omega)
  · exact set7_below HY.out.2.2 (by omega)
theorem Spot.upM {M N : Nat} {a : Option Addr} {n c : Nat} (h : Spot M a n c) (hMN : M ≤ N) : Spot N a n c := ⟨h.1, h.2.1, fun hp => ⟨(h.2.2.1 hp).1, Nat.lt_of_lt_of_le (h.2.2.1 hp).2 hMN⟩, h.2.2.2⟩
mutual
theorem Lies.upM {w : World} {M N : Nat} (hMN : M ≤ N) : ∀ (t : LT) (b o : Nat), Lies w M t b o → Lies w N t b o
  | .mk k g la ln lc ys bb s ia ic items ta tc tail, b, o, h => by
    simp only [Lies] at h ⊢
    obtain ⟨h1, h2, h3, h4, h5, h6, h7⟩ := h
    exact ⟨by omega, h2, ⟨h3.1, fun hp => Nat.lt_of_lt_of_le (h3.2.1 hp) hMN, h3.2.2⟩, h4.upM hMN, h5.upM hMN, LiesR.upM hMN _ _ _ h6, LiesR.upM hMN _ _ _ h7⟩
theorem LiesR.upM {w : World} {M N : Nat} (hMN : M ≤ N) : ∀ (l : List LT) (b o : Nat), LiesR w M l b o → LiesR w N l b o
  | [], _, _, _ => by simp [LiesR]
  | t :: l, b, o, h => by
    simp only [LiesR] at h ⊢
    exact ⟨Lies.upM hMN t b o h.1, LiesR.upM hMN l b (o + 7) h.2⟩
end
theorem Held.upP {w : World} {M N : Nat} {t : LT} (h : Held w M t) (hMN : M ≤ N) : Held w N t := ⟨⟨h.1.1, fun hp => Nat.lt_of_lt_of_le (h.1.2.1 hp) hMN, h.1.2.2⟩, h.2.1.upM hMN, h.2.2.1.upM hMN, LiesR.upM hMN _ _ _ h.2.2.2.1, LiesR.upM hMN _ _ _ h.2.2.2.2⟩
mutual
def depthD : DT → Nat
  | .mk _ _ _ _ _ items tail => 1 + max (depthsD items) (depthsD tail)
def depthsD : List DT → Nat
  | [] => 0
  | t :: l => max (depthD t) (depthsD l)
end
mutual
theorem depthD_shape : ∀ t : LT, depthD (shape t) = t.depth
  | .mk k g la ln lc ys bb s ia ic items ta tc tail => by
    have h1 := depthsD_shapes items
    have h2 := depthsD_shapes tail
    simp only [shape, depthD, LT.depth, h1, h2]
theorem depthsD_shapes : ∀ l : List LT, depthsD (shapes l) = depths l
  | [] => by simp [shapes, depthsD, depths]
  | t :: l => by
    have h1 := depthD_shape t
    have h2 := depthsD_shapes l
    simp only [shapes, depthsD, depths, h1, h2]
end
mutual
def tameD : DT → Prop
  | .mk _ _ ys _ _ items tail => ys.length ≤ 1000 ∧ tamesD items ∧ tamesD tail
def tamesD : List DT → Prop
  | [] => True
  | t :: l => tameD t ∧ tamesD l
end
mutual
theorem tame_lies {w : World} {M : Nat} : ∀ (t : LT) (b o : Nat), Lies w M t b o → (Tame t ↔ tameD (shape t))
  | .mk k g la ln lc ys bb s ia ic items ta tc tail, b, o, h => by
    simp only [Lies] at h
    obtain ⟨h1, h2, h3, h4, h5, h6, h7⟩ := h
    have e1 := tames_lies items _ _ h6
    have e2 := tames_lies tail _ _ h7
    have e3 := h3.1.len
    simp only [Tame, shape, tameD, e1, e2, e3]
theorem tames_lies {w : World} {M : Nat} : ∀ (l : List LT) (b o : Nat), LiesR w M l b o → (TameR l ↔ tamesD (shapes l))
  | [], _, _, _ => by simp [TameR, shapes, tamesD]
  | t :: l, b, o, h => by
    simp only [LiesR] at h
    have e1 := tame_lies t b o h.1
    have e2 := tames_lies l b (o + 7) h.2
    simp only [TameR, shapes, tamesD, e1, e2]
end
theorem tame_held {w : World} {M : Nat} {t : LT} (h : Held w M t) : Tame t ↔ tameD (shape t) := by
  have e1 := tames_lies t.items _ _ h.2.2.2.1
  have e2 := tames_lies t.tail _ _ h.2.2.2.2
  have e3 := h.1.1.len
  rw [tame_eq, shape_eq]
  simp only [tameD, e1, e2, e3]
/-- What has the shape of one that is not too long is not too long either. -/
theorem tame_same {w w' : World} {M N : Nat} {t u : LT} (h : Held w M t) (h' : Held w' N u) (hs : shape u = shape t) (hT : Tame t) : Tame u := by
  rw [tame_held h', hs, ← tame_held h]
  exact hT
theorem size_same {t u : LT} (hs : shape u = shape t) : u.size = t.size := by rw [← sizeD_shape, hs, sizeD_shape]
theorem depth_same {t u : LT} (hs : shape u = shape t) : u.depth = t.depth := by rw [← depthD_shape, hs, depthD_shape]
mutual
def spineD : DT → List DT × Option DT
  | .mk k g ys bb s items tail => if k = 5 then (normsD items ++ (spinesD tail).1, (spinesD tail).2) else ([], some (leafD k g ys bb s))
def spinesD : List DT → List DT × Option DT
  | [] => ([], none)
  | t :: _ => spineD t
def normsD : List DT → List DT
  | [] => []
  | t :: l => closeD (spineD t) :: normsD l
end
def normD (d : DT) : DT := closeD (spineD d)
theorem spineD_eq (k : Int) (g : Bool) (ys : List Nat) (bb : Bool) (s : ByteArray) (items tail : List DT) : spineD (.mk k g ys bb s items tail) = if k = 5 then (normsD items ++ (spinesD tail).1, (spinesD tail).2) else ([], some (leafD k g ys bb s)) := by simp only [spineD]
theorem normsD_cons (t : DT) (l : List DT) : normsD (t :: l) = normD t :: normsD l := by simp [normsD, normD]
theorem normsD_nil : normsD [] = [] := by simp [normsD]
theorem spinesD_nil : spinesD [] = ([], none) := by simp [spinesD]
theorem spinesD_cons (t : DT) (l : List DT) : spinesD (t :: l) = spineD t := by simp [spinesD]
mutual
theorem spineD_shape : ∀ t : LT, spineD (shape t) = spineT t
  | .mk k g la ln lc ys bb s ia ic items ta tc tail => by
    have h1 := normsD_shapes items
    have h2 := spinesD_shapes tail
    simp only [shape, spineD, spineT, h1, h2]
theorem spinesD_shapes : ∀ l : List LT, spinesD (shapes l) = spineR l
  | [] => by simp [shapes, spinesD, spineR]
  | t :: l => by
    have h1 := spineD_shape t
    simp only [shapes, spinesD, spineR, h1]
theorem normsD_shapes : ∀ l : List LT, normsD (shapes l) = normR l
  | [] => by simp [shapes, normsD, normR]
  | t :: l => by
    have h1 := spineD_shape t
    have h2 := normsD_shapes l
    simp only [shapes, normsD, normR, h1, h2]
end
theorem normD_shape (t : LT) : normD (shape t) = normT t := by rw [normD, spineD_shape]; rfl
/-- No list, and as Norm leaves it. -/
def Leafy (e : DT) : Prop := spineD e = ([], some e)
theorem leafD_leafy (k : Int) (g : Bool) (ys : List Nat) (bb : Bool) (s : ByteArray) (hk : k ≠ 5) : Leafy (leafD k g ys bb s) := by
  unfold Leafy
  by_cases h1 : k = 1
  · have e : leafD k g ys bb s = .mk 1 (decide (zOf g (val ys) < 0)) (limbs (zOf g (val ys)).natAbs) false ⟨#[]⟩ [] [] := by unfold leafD; rw [if_pos h1]
    rw [e, spineD_eq, if_neg (by decide)]
    unfold leafD
    rw [if_pos rfl, limbs_val, ← zOf_self]
  · by_cases h2 : k = 2
    · subst h2
      have e : leafD 2 g ys bb s = .mk 2 false [] bb ⟨#[]⟩ [] [] := by simp [leafD]
      rw [e, spineD_eq, if_neg (by decide)]
      simp [leafD]
    · by_cases h3 : k = 3 ∨ k = 4
      · have e : leafD k g ys bb s = .mk k false [] false s [] [] := by unfold leafD; rw [if_neg h1, if_neg h2, if_pos h3]
        rw [e, spineD_eq, if_neg hk]
        unfold leafD
        rw [if_neg h1, if_neg h2, if_pos h3]
      · have e : leafD k g ys bb s = .mk k false [] false ⟨#[]⟩ [] [] := by unfold leafD; rw [if_neg h1, if_neg h2, if_neg h3]
        rw [e, spineD_eq, if_neg hk]
        unfold leafD
        rw [if_neg h1, if_neg h2, if_neg h3]
theorem Leafy.norm {e : DT} (h : Leafy e) : normD e = e := by rw [normD, h]; rfl
def SpineOk (p : List DT × Option DT) : Prop := (∀ x ∈ p.1, normD x = x) ∧ ∀ e, p.2 = some e → Leafy e
theorem normsD_same : ∀ l : List DT, (∀ x ∈ l, normD x = x) → normsD l = l
  | [], _ => normsD_nil
  | t :: l, h => by rw [normsD_cons, h t (by simp), normsD_same l fun x hx => h x (by simp [hx])]
theorem close_ok {p : List DT × Option DT} (h : SpineOk p) : normD (closeD p) = closeD p := by
  obtain ⟨l, o⟩ := p
  cases o with
  | none =>
    show normD (.mk 5 false [] false ⟨#[]⟩ l []) = .mk 5 false [] false ⟨#[]⟩ l []
    rw [normD, spineD_eq, if_pos rfl, spinesD_nil, normsD_same l h.1, List.append_nil]
    rfl
  | some e =>
    cases l with
    | nil => exact (h.2 e rfl).norm
    | cons x l =>
      show normD (.mk 5 false [] false ⟨#[]⟩ (x :: l) [e]) = .mk 5 false [] false ⟨#[]⟩ (x :: l) [e]
      rw [normD, spineD_eq, if_pos rfl, spinesD_cons, h.2 e rfl, normsD_same _ h.1, List.append_nil]
      rfl
mutual
theorem spineD_ok : ∀ d : DT, SpineOk (spineD d)
  | .mk k g ys bb s items tail => by
    have h1 := normsD_ok items
    have h2 := spinesD_ok tail
    rw [spineD_eq]
    by_cases hk : k = 5
    · rw [if_pos hk]
      refine ⟨fun x hx => ?_, h2.2⟩
      rcases List.mem_append.1 hx with hx | hx
      · exact h1 x hx
      · exact h2.1 x hx
    · rw [if_neg hk]
      exact ⟨fun x hx => by simp at hx, fun e he => by injection he with he; rw [← he]; exact leafD_leafy k g ys bb s hk⟩
theorem spinesD_ok : ∀ l : List DT, SpineOk (spinesD l)
  | [] => ⟨fun x hx => by simp [spinesD] at hx, fun e he => by simp [spinesD] at he⟩
  | t :: l => by rw [spinesD_cons]; exact spineD_ok t
theorem normsD_ok : ∀ l : List DT, ∀ x ∈ normsD l, normD x = x
  | [], x, hx => by simp [normsD] at hx
  | t :: l, x, hx => by
    rw [normsD_cons] at hx
    rcases List.mem_cons.1 hx with rfl | hx
    · exact close_ok (spineD_ok t)
    · exact normsD_ok l x hx
end
theorem normD_idem (d : DT) : normD (normD d) = normD d := close_ok (spineD_ok d)
/-- What has the shape that Norm tells, Norm leaves. -/
theorem normT_again {t u : LT} (h : shape u = normT t) : normT u = normT t := by rw [← normD_shape u, h, ← normD_shape t, normD_idem]
/-- All that a spine has. -/
def allS (p : List DT × Option DT) : List DT := p.1 ++ p.2.toList
theorem depthsD_append (l m : List DT) : depthsD (l ++ m) = max (depthsD l) (depthsD m) := by
  induction l with
  | nil => simp [depthsD]
  | cons t l ih => simp [depthsD, ih, Nat.max_assoc]
theorem tamesD_append (l m : List DT) : tamesD (l ++ m) ↔ tamesD l ∧ tamesD m := by
  induction l with
  | nil => simp [tamesD]
  | cons t l ih => simp [tamesD, ih, and_assoc]
theorem close_size (p : List DT × Option DT) : sizeD (closeD p) ≤ 1 + sizesD (allS p) ∧ depthD (closeD p) ≤ 1 + depthsD (allS p) ∧ (tamesD (allS p) → tameD (closeD p)) := by
  obtain ⟨l, o⟩ := p
  cases o with
  | none => simp [closeD, allS, sizeD, depthD, tameD, sizesD, depthsD, tamesD]
  | some e =>
    cases l with
    | nil => (simp [closeD, allS, sizesD, depthsD, tamesD]; try omega)
    | cons x l =>
      refine ⟨?_, ?_, ?_⟩
      · simp only [closeD, allS, Option.toList, sizesD_append, sizeD, sizesD]; omega
      · simp only [closeD, allS, Option.toList, depthsD_append, depthD, depthsD]; omega
      · simp only [closeD, allS, Option.toList, tamesD_append, tameD, tamesD]
        intro h
        exact ⟨by simp, h⟩
theorem leafD_small (k : Int) (g : Bool) (ys : List Nat) (bb : Bool) (s : ByteArray) : sizeD (leafD k g ys bb s) = 1 ∧ depthD (leafD k g ys bb s) = 1 ∧ (Ok ys → ys.length ≤ 1000 → tameD (leafD k g ys bb s)) := by
  unfold leafD
  split
  · refine ⟨by simp [sizeD, sizesD], by simp [depthD, depthsD], fun h1 h2 => ?_⟩
    simp only [tameD, tamesD, zOf_abs]
    exact ⟨Nat.le_trans (limbs_len_val h1) h2, trivial, trivial⟩
  · split
    · exact ⟨by simp [sizeD, sizesD], by simp [depthD, depthsD], fun _ _ => by simp [tameD, tamesD]⟩
    · split
      · exact ⟨by simp [sizeD, sizesD], by simp [depthD, depthsD], fun _ _ => by simp [tameD, tamesD]⟩
      · exact ⟨by simp [sizeD, sizesD], by simp [depthD, depthsD], fun _ _ => by simp [tameD, tamesD]⟩
mutual
/-- All words are words. -/
def okD : DT → Prop
  | .mk _ _ ys _ _ items tail => Ok ys ∧ oksD items ∧ oksD tail
def oksD : List DT → Prop
  | [] => True
  | t :: l => okD t ∧ oksD l
end
mutual
theorem norm_small : ∀ d : DT, (sizeD (normD d) ≤ sizeD d ∧ sizesD (allS (spineD d)) ≤ sizeD d) ∧ (depthD (normD d) ≤ depthD d ∧ depthsD (allS (spineD d)) ≤ depthD d) ∧ (okD d → tameD d → tameD (normD d) ∧ tamesD (allS (spineD d)))
  | .mk k g ys bb s items tail => by
    have h1 := norms_small items
    have h2 := spines_small tail
    unfold normD
    rw [spineD_eq]
    by_cases hk : k = 5
    · rw [if_pos hk]
      have e : allS (normsD items ++ (spinesD tail).1, (spinesD tail).2) = normsD items ++ allS (spinesD tail) := by simp [allS]
      obtain ⟨c1, c2, c3⟩ := close_size (normsD items ++ (spinesD tail).1, (spinesD tail).2)
      rw [e] at c1 c2 c3 ⊢
      rw [sizesD_append] at c1
      rw [depthsD_append] at c2
      rw [sizesD_append, depthsD_append, tamesD_append]
      rw [tamesD_append] at c3
      simp only [sizeD, depthD, okD, tameD]
      refine ⟨by omega, by omega, fun hO hT => ?_⟩
      have t1 := h1.2.2 hO.2.1 hT.2.1
      have t2 := h2.2.2 hO.2.2 hT.2.2
      exact ⟨c3 ⟨t1, t2⟩, t1, t2⟩
    · rw [if_neg hk]
      obtain ⟨l1, l2, l3⟩ := leafD_small k g ys bb s
      simp only [closeD, allS, Option.toList, List.nil_append, sizesD, depthsD, tamesD, l1, l2, sizeD, depthD, okD, tameD, and_true]
      refine ⟨by omega, by omega, fun hO hT => ?_⟩
      exact ⟨l3 hO.1 hT.1, l3 hO.1 hT.1⟩
theorem spines_small : ∀ l : List DT, sizesD (allS (spinesD l)) ≤ sizesD l ∧ depthsD (allS (spinesD l)) ≤ depthsD l ∧ (oksD l → tamesD l → tamesD (allS (spinesD l)))
  | [] => by simp [spinesD, allS, sizesD, depthsD, tamesD]
  | t :: l => by
    have h := norm_small t
    rw [spinesD_cons]
    simp only [sizesD, depthsD, oksD, tamesD]
    exact ⟨by omega, by omega, fun hO hT => (h.2.2 hO.1 hT.1).2⟩
theorem norms_small : ∀ l : List DT, sizesD (normsD l) ≤ sizesD l ∧ depthsD (normsD l) ≤ depthsD l ∧ (oksD l → tamesD l → tamesD (normsD l))
  | [] => by simp [normsD, sizesD, depthsD, tamesD]
  | t :: l => by
    have h := norm_small t
    have h' := norms_small l
    rw [normsD_cons]
    simp only [sizesD, depthsD, oksD, tamesD]
    exact ⟨by omega, by omega, fun hO hT => ⟨(h.2.2 hO.1 hT.1).1, h'.2.2 hO.2 hT.2⟩⟩
end
mutual
theorem ok_lies {w : World} {M : Nat} : ∀ (t : LT) (b o : Nat), Lies w M t b o → okD (shape t)
  | .mk k g la ln lc ys bb s ia ic items ta tc tail, b, o, h => by
    simp only [Lies] at h
    obtain ⟨h1, h2, h3, h4, h5, h6, h7⟩ := h
    simp only [shape, okD]
    exact ⟨h3.1.ok, oks_lies items _ _ h6, oks_lies tail _ _ h7⟩
theorem oks_lies {w : World} {M : Nat} : ∀ (l : List LT) (b o : Nat), LiesR w M l b o → oksD (shapes l)
  | [], _, _, _ => by simp [shapes, oksD]
  | t :: l, b, o, h => by
    simp only [LiesR] at h
    simp only [shapes, oksD]
    exact ⟨ok_lies t b o h.1, oks_lies l b (o + 7) h.2⟩
end
theorem ok_held {w : World} {M : Nat} {t : LT} (h : Held w M t) : okD (shape t) := by
  rw [shape_eq]
  simp only [okD]
  exact ⟨h.1.1.ok, oks_lies _ _ _ h.2.2.2.1, oks_lies _ _ _ h.2.2.2.2⟩
/-- Of what has the shape that Norm tells. -/
theorem norm_bounds {w w' : World} {M N : Nat} {t u : LT} (h : Held w M t) (hT : Tame t) (h' : Held w' N u) (hs : shape u = normT t) : u.size ≤ t.size ∧ u.depth ≤ t.depth ∧ Tame u := by
  have hb := norm_small (shape t)
  rw [normD_shape, ← hs, sizeD_shape, sizeD_shape, depthD_shape, depthD_shape] at hb
  exact ⟨hb.1.1, hb.2.1.1, (tame_held h').2 (hb.2.2 (ok_held h) ((tame_held h).1 hT)).1⟩
def goodI (g : Bool) (ys : List Nat) : Bool := if ys.length = 0 then !g else decide (lim ys (ys.length - 1) ≠ 0)
/-- What Good asks of a datum by itself. -/
structure GoodA (t : LT) : Prop where
  num : t.k ≠ 1 → t.g = false ∧ t.ys = []
  bool : t.k ≠ 2 → t.bb = false
  str : t.k ≠ 3 → t.k ≠ 4 → t.s = ⟨#[]⟩
  list : t.k ≠ 5 → t.items = [] ∧ t.tail = []
  norm : t.k = 1 → goodI t.g t.ys = true
  tail : t.k = 5 → t.tail = [] ∨ (t.items ≠ [] ∧ ∃ u, t.tail = [u] ∧ u.k ≠ 5)
set_option maxRecDepth 100000 in
set_option maxHeartbeats 1600000 in
theorem wgood_any (g : Bool) (la : Option Addr) (ln lc : Nat) (ys : List Nat) (w : World) (h : Sl w la ln lc ys) (hn : ln ≤ 1000000000) :
    Calls Tryd.prog 55 #[.agg #[.bool g, .slice la ln lc]] w fun e w' => e = .returned (.bool (goodI g ys)) ∧ Below w.heap.size w w' := by
  have hlen := h.len
  rcases Nat.eq_zero_or_pos ln with h0 | h0
  · subst h0
    have e : goodI g ys = !g := by unfold goodI; rw [if_pos hlen.symm]
    rw [e]
    clear h e hlen
    go_enter Tryd.func55, Tryd.ntmps55
    go_wp2_with fail
    go_ret
    exact ⟨rfl, (Below.refl _ w).alloc (Nat.le_refl _) _⟩
  · obtain ⟨b, off, rfl, hb, hc⟩ := h.here h0
    obtain ⟨j, rfl⟩ : ∃ j, ln = j + 1 := ⟨ln - 1, by omega⟩
    have hcj := hc j (by omega)
    have q0 : (((j : Int) + 1) == 0) = false := beq_eq_false_iff_ne.2 (by omega)
    have e : goodI g ys = decide (lim ys j ≠ 0) := by unfold goodI; rw [if_neg (by omega), ← hlen]; rfl
    have hw : IntKind.i64.wrap ((j : Int) + 1 - 1) = (j : Int) := by rw [IntWalk.i64_in _ (by omega)]; omega
    have hcW : (w.alloc (.cells #[.bool g, .slice (some ⟨b, off, none⟩) (j + 1) lc] 34)).cell? ⟨b, off + j, none⟩ = some (.int .u32 (lim ys j : Nat)) := by
      rw [World.cell?_of_block (w := w) (Below.heap_alloc _ _ _ (by show b < _; exact hb))]
      exact hcj
    rw [e]
    clear h e hlen hc hcj
    by_cases hz : lim ys j = 0
    · have qz : ((lim ys j : Nat) : Int) = 0 := by omega
      rw [qz] at hcW
      have e : decide (lim ys j ≠ 0) = false := by simp [hz]
      rw [e]
      clear e hz qz
      go_enter Tryd.func55, Tryd.ntmps55
      go_wp2_with fail
      go_ret
      exact ⟨rfl, (Below.refl _ w).alloc (Nat.le_refl _) _⟩
    · have qz : (((lim ys j : Nat) : Int) != 0) = true := by rw [bne, beq_eq_false_iff_ne.2 (by omega)]; rfl
      have e : decide (lim ys j ≠ 0) = true := by simp [hz]
      rw [e]
      clear e hz
      go_enter Tryd.func55, Tryd.ntmps55
      go_wp2_with fail
      go_ret
      exact ⟨by first | rfl | (rw [← qz]; rfl), (Below.refl _ w).alloc (Nat.le_refl _) _⟩
theorem text_ne' {a b : ByteArray} (h : a ≠ b) : (a.toList == b.toList) = false := by
  rw [ByteArray.toList_eq, ByteArray.toList_eq]
  refine beq_eq_false_iff_ne.2 fun e => h ?_
  cases a with
  | mk x => cases b with
    | mk y => rw [show x = y from Array.toList_inj.1 e]
theorem empty_of {s : ByteArray} (h : s.size = 0) : s = ⟨#[]⟩ := by
  cases s with
  | mk d => rw [Array.eq_empty_of_size_eq_zero (xs := d) h]
section
variable {w : World} {u v : Value} {a b K L : Nat}
end
section
variable {w w' : World} {g : Nat} {s x : Value}
end
section
variable {w : World} {u v : Value} {a b : Int} {K L : Nat}
end
section
variable {w : World} {u v : Value} {a b : Int} {K L : Nat}
end
section
variable {w : World} {u v : Value} {a b : Int} {K L : Nat}
end
section
variable {w : World} {u v : Value} {a b : Int} {K L : Nat}
end
section
variable {w : World} {u v : Value} {a b : Int} {K L : Nat}
end
theorem two2 (w : World) (A B : Obj) : ∃ w2, w2 = (w.alloc A).alloc B ∧ w2.heap[w.heap.size]? = some A ∧ w2.heap[w.heap.size + 1]? = some B ∧ w2.heap.size = w.heap.size + 2 ∧ Below w.heap.size w w2 := by
  have s1 : (w.alloc A).heap.size = w.heap.size + 1 := World.size_alloc ..
  refine ⟨_, rfl, (Below.heap_alloc _ _ _ (by omega)).trans (World.alloc_heap_new w A), ?_, by rw [World.size_alloc, s1], ((Below.refl w.heap.size w).alloc (Nat.le_refl _) _).alloc (by omega) _⟩
  have := World.alloc_heap_new (w.alloc A) B
  rwa [s1] at this
theorem two2d (w : World) (A B : Obj) : ∃ w2, w2 = ((w.alloc A).alloc B).drew ∧ w2.heap[w.heap.size]? = some A ∧ w2.heap[w.heap.size + 1]? = some B ∧ w2.heap.size = w.heap.size + 2 ∧ Below w.heap.size w w2 := by
  obtain ⟨w2, rfl, h1, h2, h3, h4⟩ := two2 w A B
  exact ⟨_, rfl, h1, h2, h3, h4.drew⟩
attribute [local go_sem] Oper.semAt_some
theorem maxL_at {full : List Node} {k : Nat} {x : Node} (h : full[k]? = some x) : x.lev ≤ maxL full := by
  induction full generalizing k with
  | nil => simp at h
  | cons y l ih =>
    cases k with
    | zero => simp at h; rw [h]; simp only [maxL]; omega
    | succ k => have := ih (by simpa using h); simp only [maxL]; omega
def GdI (M b B : Nat) (root : LT) (full : List Node) (w : World) (k : Nat) (W : World) : Prop :=
  W.heap[B + 1]? = some (.cells #[.bool false] 4 (0, 0)) ∧ W.heap[B + 2]? = some (.cells #[.int .i64 (k : Nat)] 3 (0, 0)) ∧ Lies W M root b 0 ∧ Below B w W ∧ ∀ j x, j < k → full[j]? = some x → GoodA x.t
def GdX (B : Nat) (w : World) (c : Code) (_k : Nat) (W : World) : Prop := c = .ret ∧ W.heap[B + 1]? = some (.cells #[.bool false] 4 (0, 0)) ∧ Below B w W
theorem GdI.below {M b B C k : Nat} {root : LT} {full : List Node} {w A W : World} (hM : M ≤ C) (hC : B + 3 ≤ C) (h : GdI M b B root full w k A) (hb : Below C A W) : GdI M b B root full w k W :=
  ⟨(hb.block _ (by omega)).trans h.1, (hb.block _ (by omega)).trans h.2.1, h.2.2.1.keep hb.size (fun i hi => hb.block i (by omega)) _ _ _, h.2.2.2.1.trans (hb.mono (by omega)), h.2.2.2.2⟩
theorem GdX.below {B C k : Nat} {c : Code} {w A W : World} (hC : B + 2 ≤ C) (h : GdX B w c k A) (hb : Below C A W) : GdX B w c k W :=
  ⟨h.1, (hb.block _ (by omega)).trans h.2.1, h.2.2.trans (hb.mono (by omega))⟩
theorem four4 (w : World) (A B C D : Obj) : ∃ w4, w4 = (((w.alloc A).alloc B).alloc C).alloc D ∧ w4.heap[w.heap.size]? = some A ∧ w4.heap[w.heap.size + 1]? = some B ∧ w4.heap[w.heap.size + 2]? = some C ∧ w4.heap[w.heap.size + 3]? = some D ∧ w4.heap.size = w.heap.size + 4 ∧ Below w.heap.size w w4 := by
  obtain ⟨_, rfl, a0, a1, a2, a3, _, _, hb⟩ := five5 w A B C D D
  have s1 : (w.alloc A).heap.size = w.heap.size + 1 := World.size_alloc ..
  have s2 : ((w.alloc A).alloc B).heap.size = w.heap.size + 2 := by rw [World.size_alloc, s1]
  have s3 : (((w.alloc A).alloc B).alloc C).heap.size = w.heap.size + 3 := by rw [World.size_alloc, s2]
  have s4 : ((((w.alloc A).alloc B).alloc C).alloc D).heap.size = w.heap.size + 4 := by rw [World.size_alloc, s3]
  have hk : ∀ k, k < w.heap.size + 4 → ((((((w.alloc A).alloc B).alloc C).alloc D).alloc D).heap[k]? = ((((w.alloc A).alloc B).alloc C).alloc D).heap[k]?) := fun k hk => Below.heap_alloc _ _ _ (by omega)
  exact ⟨_, rfl, (hk _ (by omega)).symm.trans a0, (hk _ (by omega)).symm.trans a1, (hk _ (by omega)).symm.trans a2, (hk _ (by omega)).symm.trans a3, s4, ((((Below.refl w.heap.size w).alloc (Nat.le_refl _) _).alloc (by omega) _).alloc (by omega) _).alloc (by omega) _⟩
section
variable {b : Nat}
end
section
variable {w : World} {u v : Value} {a b K L : Nat}
end
theorem New.only {w w' : World} {g base : Nat} {v : Value} {xs : List Nat} (h : New w base v xs) (ho : Only g w w') (hg : g < base) : New w' base v xs := by
  obtain ⟨A, n, cap, rfl, hs, hc⟩ := h
  rcases hc with ⟨rfl, rfl⟩ | ⟨b, cur, rfl, hb, hh, hz⟩
  · exact ⟨none, n, 0, rfl, ⟨hs.len, hs.le, hs.max, hs.ok, fun hn => absurd hs.le (by omega), hs.nil_⟩, .inl ⟨rfl, rfl⟩⟩
  · refine ⟨_, n, cap, rfl, ⟨hs.len, hs.le, hs.max, hs.ok, fun hn => ?_, hs.nil_⟩, .inr ⟨b, cur, rfl, hb, (ho.block b (by omega)).trans hh, hz⟩⟩
    obtain ⟨b', off, e, hb', hcell⟩ := hs.here hn
    have e1 : b = b' := congrArg Addr.block (Option.some.inj e)
    exact ⟨b', off, e, by rw [ho.size]; exact hb', fun i hi => (World.cell?_of_block (w := w) (a := ⟨b', off + i, none⟩) (ho.block b' (by omega))).trans (hcell i hi)⟩
theorem limbs_top (n m : Nat) (h : (limbs n).length = m + 1) : lim (limbs n) m ≠ 0 := by
  have ht := limbs_trim n
  have e : limbs n = (limbs n).take m ++ [lim (limbs n) m] := by
    rw [← take_snoc _ _ (by omega), ← h, List.take_length]
  intro h0
  rw [h0] at e
  rw [e, trimL_snoc_zero] at ht
  have := trimL_len ((limbs n).take m)
  rw [ht] at this
  simp [h] at this
  omega
/-- An answer's block lies from lo on, below hi. -/
def Tier (lo hi : Nat) (v : Value) : Prop := ∀ g, v.ownBlock = some g → lo ≤ g ∧ g < hi
/-- A block of which the first n cells hold limbs. -/
def NRow (w : World) (g n : Nat) : Prop := ∃ cur : Array Value, w.heap[g]? = some (.cells cur 88 (0, 0)) ∧ ∀ i, i < n → ∃ x : Nat, x < 4294967296 ∧ cur[i]? = some (.int .u32 (x : Int))
theorem NRow.frozen {w : World} {g n : Nat} (h : NRow w g n) (i : Nat) : w.frozen? ⟨g, i, none⟩ = false := by
  obtain ⟨cur, hh, _⟩ := h
  simp [World.frozen?, hh]
theorem NRow.cell {w : World} {g n : Nat} (h : NRow w g n) (i : Nat) (hi : i < n) : ∃ x : Nat, x < 4294967296 ∧ w.cell? ⟨g, i, none⟩ = some (.int .u32 (x : Int)) := by
  obtain ⟨cur, hh, hc⟩ := h
  obtain ⟨x, hx, e⟩ := hc i hi
  exact ⟨x, hx, by rw [cell_of_row w g i _ _ (0, 0) hh, e]⟩
theorem Tier.mono {lo hi lo' hi' : Nat} {v : Value} (h : Tier lo hi v) (h1 : lo' ≤ lo) (h2 : hi ≤ hi') : Tier lo' hi' v := fun g hg => by have := h g hg; omega
end Go.Proofs.YtlohdglhebplfaaDoor
