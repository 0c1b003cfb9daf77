/-
  What a slice of limbs is in memory: 'Sl': it leads to the limbs xs; 'New': it is the call's own. No program is imported.
-/
import Derived.WalkKit
import Derived.WalkSpells
import Derived.WalkLawsBesides
import Derived.Laws.CopyOwn
import Derived.Laws.AppendOwnNone
import Derived.Lib.Hide
import Derived.Test.YtocnlapbkidinaaGreatDoorQNum
set_option linter.unusedVariables false
set_option linter.unusedSimpArgs false
set_option linter.unusedSectionVars false
set_option linter.unnecessarySimpa false
namespace Go.Proofs.YtocnlapbkidinaaGreatDoor
open Go.RowKit

/-- The cells of limbs. -/
def cellsOf (xs : List Nat) : List Value := xs.map fun x : Nat => Value.int .u32 (x : Int)
theorem cellsOf_length (xs : List Nat) : (cellsOf xs).length = xs.length := by simp [cellsOf]
theorem cellsOf_append (xs ys : List Nat) : cellsOf (xs ++ ys) = cellsOf xs ++ cellsOf ys := by simp [cellsOf]
theorem cellsOf_getElem? (xs : List Nat) (i : Nat) (h : i < xs.length) : (cellsOf xs)[i]? = some (.int .u32 ((lim xs i : Nat) : Int)) := by
  simp [cellsOf, List.getElem?_eq_getElem h, lim_eq]
theorem cellsOf_one (xs : List Nat) : ∀ u ∈ cellsOf xs, u.oneCell' = true := by
  intro u hu
  obtain ⟨_, _, rfl⟩ := List.mem_map.1 hu
  rfl

/-- A slice's value leads to the limbs xs in w. -/
structure Sl (w : World) (A : Option Addr) (n cap : Nat) (xs : List Nat) : Prop where
  len : n = xs.length
  le : n ≤ cap
  max : cap ≤ maxLen
  ok : Ok xs
  here : 0 < n → ∃ b off, A = some ⟨b, off, none⟩ ∧ b < w.heap.size ∧ ∀ i, i < n → w.cell? ⟨b, off + i, none⟩ = some (.int .u32 ((lim xs i : Nat) : Int))
  nil_ : A = none → cap = 0

theorem Sl.nil {w : World} : Sl w none 0 0 [] := ⟨rfl, Nat.zero_le _, by unfold maxLen; omega, Ok.nil, fun h => absurd h (by omega), fun _ => rfl⟩
/-- What is kept below the heap's old end keeps it. -/
theorem Sl.keep {w w' : World} {A : Option Addr} {n cap : Nat} {xs : List Nat} (h : Sl w A n cap xs) (hs : w.heap.size ≤ w'.heap.size) (hk : ∀ k, k < w.heap.size → w'.heap[k]? = w.heap[k]?) : Sl w' A n cap xs :=
  ⟨h.len, h.le, h.max, h.ok, fun hn => by
    obtain ⟨b, off, e, hb, hc⟩ := h.here hn
    exact ⟨b, off, e, by omega, fun i hi => (World.cell?_of_block (w := w) (a := ⟨b, off + i, none⟩) (hk b hb)).trans (hc i hi)⟩, h.nil_⟩
theorem Sl.below {w w' : World} {A : Option Addr} {n cap : Nat} {xs : List Nat} (h : Sl w A n cap xs) (hb : Below w.heap.size w w') : Sl w' A n cap xs := h.keep hb.size hb.block
theorem Sl.drew {w : World} {A : Option Addr} {n cap : Nat} {xs : List Nat} (h : Sl w A n cap xs) : Sl w.drew A n cap xs := h.keep (Nat.le_refl _) fun _ _ => rfl
theorem Sl.alloc {w : World} {A : Option Addr} {n cap : Nat} {xs : List Nat} (h : Sl w A n cap xs) (o : Obj) : Sl (w.alloc o) A n cap xs :=
  h.below ((Below.refl _ _).alloc (Nat.le_refl _) o)

theorem cell_add (w : World) (b off j : Nat) : w.cell? ((⟨b, off, none⟩ : Addr).add j) = w.cell? ⟨b, off + j, none⟩ := by
  unfold Addr.add
  by_cases h : j = 0
  · simp [h]
  · simp [h]
/-- The cells as copy and append ask for them. -/
theorem Sl.src {w : World} {A : Option Addr} {n cap : Nat} {xs : List Nat} (h : Sl w A n cap xs) (hn : 0 < n) : ∃ ad, A = some ad ∧ ∀ j v, (cellsOf xs)[j]? = some v → w.cell? (ad.add j) = some v := by
  obtain ⟨b, off, e, _, hc⟩ := h.here hn
  refine ⟨_, e, fun j v hv => ?_⟩
  have hj : j < xs.length := by
    have := (List.getElem?_eq_some_iff.1 hv).1
    rwa [cellsOf_length] at this
  rw [cellsOf_getElem? xs j hj] at hv
  rw [cell_add, hc j (by have := h.len; omega)]
  exact hv
/-- The slice's head, of k limbs. -/
theorem Sl.take {w : World} {A : Option Addr} {n cap : Nat} {xs : List Nat} (h : Sl w A n cap xs) (k : Nat) (hk : k ≤ n) : Sl w A k cap (xs.take k) :=
  ⟨by rw [List.length_take]; have := h.len; omega, by have := h.le; omega, h.max, h.ok.take k, fun hp => by
    obtain ⟨b, off, e, hb, hc⟩ := h.here (by omega)
    exact ⟨b, off, e, hb, fun i hi => by rw [hc i (by omega), lim_eq, lim_eq, List.getElem?_take_of_lt hi]⟩, h.nil_⟩
/-- What trim tells of it. -/
theorem Sl.trim {w : World} {A : Option Addr} {n cap : Nat} {xs : List Nat} (h : Sl w A n cap xs) : Sl w A (limbs (val xs)).length cap (limbs (val xs)) := by
  have e : limbs (val xs) = xs.take (limbs (val xs)).length := by rw [← trimL_limbs h.ok]; exact trimL_take xs
  have := h.take (limbs (val xs)).length (by have := limbs_len_val h.ok; have := h.len; omega)
  rwa [← e] at this

/-- A slice's value is the call's own (its block from 'base' on, or none), and holds the limbs xs. -/
def New (w : World) (base : Nat) (v : Value) (xs : List Nat) : Prop :=
  ∃ A n cap, v = .slice A n cap ∧ Sl w A n cap xs ∧ (A = none ∧ cap = 0 ∨ ∃ g cur, A = some ⟨g, 0, none⟩ ∧ base ≤ g ∧ w.heap[g]? = some (.cells cur 78 (0, 0)) ∧ cur.size = cap)

theorem New.nil (w : World) (base : Nat) : New w base (.slice none 0 0) (limbs 0) := ⟨none, 0, 0, rfl, Sl.nil, .inl ⟨rfl, rfl⟩⟩
theorem New.below {w w' : World} {base B : Nat} {v : Value} {xs : List Nat} (h : New w base v xs) (hb : Below B w w') (hB : w.heap.size ≤ B) : New w' base v xs := by
  obtain ⟨A, n, cap, rfl, hs, hc⟩ := h
  refine ⟨A, n, cap, rfl, hs.below (hb.mono hB), ?_⟩
  rcases hc with h0 | ⟨g, cur, e, hg, hh, hz⟩
  · exact .inl h0
  · refine .inr ⟨g, cur, e, hg, ?_, hz⟩
    have hlt : g < w.heap.size := by
      rcases Nat.lt_or_ge g w.heap.size with hlt | hge
      · exact hlt
      · rw [Array.getElem?_eq_none hge] at hh; cases hh
    exact (hb.block g (by omega)).trans hh
theorem New.from_ {w : World} {base base' : Nat} {v : Value} {xs : List Nat} (h : New w base v xs) (hb : base' ≤ base) : New w base' v xs := by
  obtain ⟨A, n, cap, rfl, hs, hc⟩ := h
  refine ⟨A, n, cap, rfl, hs, ?_⟩
  rcases hc with h0 | ⟨g, cur, e, hg, r⟩
  · exact .inl h0
  · exact .inr ⟨g, cur, e, by omega, r⟩
/-- One call behind the other. -/
theorem bnext {w w1 w2 : World} (h : Below w.heap.size w w1) (k : Below w1.heap.size w1 w2) : Below w.heap.size w w2 := h.trans (k.mono h.size)
theorem bnew {w w1 : World} (h : Below w.heap.size w w1) (o : Obj) : Below w.heap.size w (w1.alloc o) := h.alloc h.size o
/-- WHAT A CALL GIVES THAT TELLS A NUMBER: a new slice with the number's limbs; nothing that was there has changed. -/
def Gives (w : World) (n : Nat) (e : Ending) (w' : World) : Prop := ∃ v, e = .returned v ∧ New w' w.heap.size v (limbs n) ∧ Below w.heap.size w w'
/-- Two numbers. -/
def Gives2 (w : World) (m n : Nat) (e : Ending) (w' : World) : Prop := ∃ u v, e = .returned (.tuple #[u, v]) ∧ New w' w.heap.size u (limbs m) ∧ New w' w.heap.size v (limbs n) ∧ Below w.heap.size w w'

/-- Block g holds just the limbs xs; none of its cells is frozen. -/
def Blk (w : World) (g : Nat) (xs : List Nat) : Prop := w.heap[g]? = some (.cells (cellsOf xs).toArray 78 (0, 0))

section
variable {w w' : World} {g : Nat} {xs : List Nat}
theorem Blk.lt (h : Blk w g xs) : g < w.heap.size := by
  rcases Nat.lt_or_ge g w.heap.size with hlt | hge
  · exact hlt
  · unfold Blk at h; rw [Array.getElem?_eq_none hge] at h; cases h
theorem Blk.cell (h : Blk w g xs) (i : Nat) (hi : i < xs.length) : w.cell? ⟨g, i, none⟩ = some (.int .u32 ((lim xs i : Nat) : Int)) := by
  rw [cell_of_row w g i _ _ (0, 0) h, List.getElem?_toArray, cellsOf_getElem? xs i hi]
theorem Blk.frozen (h : Blk w g xs) (i : Nat) : w.frozen? ⟨g, i, none⟩ = false := by
  unfold Blk at h
  simp [World.frozen?, h]
theorem Blk.drew (h : Blk w g xs) : Blk w.drew g xs := h
theorem Blk.alloc (h : Blk w g xs) (o : Obj) : Blk (w.alloc o) g xs := (Below.heap_alloc w o g h.lt).trans h
theorem Blk.set_ (h : Blk w g xs) (i x : Nat) : Blk (w.setCell ⟨g, i, none⟩ (.int .u32 (x : Int))) g (xs.set i x) := by
  unfold Blk at h ⊢
  simp [World.setCell, Array.getElem?_modify, h, cellsOf, List.map_set]
theorem Blk.far (h : Blk w g xs) {p : Addr} (hp : g ≠ p.block) (u : Value) : Blk (w.setCell p u) g xs := (Below.heap_setCell w p u g hp).trans h
theorem Blk.below {B : Nat} (h : Blk w g xs) (hb : Below B w w') (hg : g < B) : Blk w' g xs := (hb.block g hg).trans h
theorem cellsOf_replicate (n : Nat) : (madeCells #[Value.int .u32 0] n) = (cellsOf (List.replicate n 0)).toArray := by
  apply Array.toList_inj.1
  rw [toList_madeCells_one]
  simp [cellsOf]
theorem Blk.made (w : World) (n : Nat) : Blk (w.alloc (.cells (madeCells #[Value.int .u32 0] n) 78)) w.heap.size (List.replicate n 0) := by
  rw [cellsOf_replicate]; exact heap_alloc_new w _
theorem Blk.lit1 (w : World) (x : Nat) : Blk (w.alloc (.cells #[Value.int .u32 (x : Int)] 78)) w.heap.size [x] := heap_alloc_new w _
/-- The block's head, as a slice. -/
theorem Blk.sl (h : Blk w g xs) (ok : Ok xs) (hm : xs.length ≤ maxLen) (n : Nat) (hn : n ≤ xs.length) : Sl w (some ⟨g, 0, none⟩) n xs.length (xs.take n) :=
  ⟨by rw [List.length_take]; omega, hn, hm, ok.take n, fun _ => ⟨g, 0, rfl, h.lt, fun i hi => by
    rw [Nat.zero_add, h.cell i (by omega), lim_eq, lim_eq, List.getElem?_take_of_lt hi]⟩, fun e => by cases e⟩
/-- ... and all of it. -/
theorem Blk.slAll (h : Blk w g xs) (ok : Ok xs) (hm : xs.length ≤ maxLen) : Sl w (some ⟨g, 0, none⟩) xs.length xs.length xs := by
  have := h.sl ok hm xs.length (Nat.le_refl _)
  rwa [List.take_length] at this
/-- What trim tells of a block of the call's own is new. -/
theorem Blk.new {base : Nat} (h : Blk w g xs) (ok : Ok xs) (hm : xs.length ≤ maxLen) (hg : base ≤ g) :
    New w base (.slice (some ⟨g, 0, none⟩) (limbs (val xs)).length xs.length) (limbs (val xs)) := by
  have e : limbs (val xs) = xs.take (limbs (val xs)).length := by rw [← trimL_limbs ok]; exact trimL_take xs
  have hs := h.sl ok hm (limbs (val xs)).length (limbs_len_val ok)
  rw [← e] at hs
  exact ⟨_, _, _, rfl, hs, .inr ⟨g, _, rfl, hg, h, by simp [cellsOf]⟩⟩
end
/-- Block g, of n limbs, is filled with S from its head; noughts stand behind. -/
structure Part (w : World) (g n : Nat) (S : List Nat) : Prop where
  le : S.length ≤ n
  ok : Ok S
  blk : Blk w g (S ++ List.replicate (n - S.length) 0)

theorem lim_append_right (S T : List Nat) (k : Nat) (h : S.length = k) : lim (S ++ T) k = lim T 0 := by
  subst h; rw [lim_eq, lim_eq, List.getElem?_append_right (Nat.le_refl _), Nat.sub_self]
section
variable {w w' : World} {g n : Nat} {S : List Nat}
theorem Part.made (w : World) (n : Nat) : Part (w.alloc (.cells (madeCells #[Value.int .u32 0] n) 78)) w.heap.size n [] :=
  ⟨by simp, Ok.nil, by simpa using Blk.made w n⟩
theorem Part.frozen (h : Part w g n S) (k : Nat) : w.frozen? ⟨g, k, none⟩ = false := h.blk.frozen k
theorem Part.cell (h : Part w g n S) {k : Nat} (hk : S.length = k) (hn : k < n) : w.cell? ⟨g, k, none⟩ = some (.int .u32 ((0 : Nat) : Int)) := by
  rw [h.blk.cell k (by simp; omega), lim_append_right S _ k hk]
  obtain ⟨j, hj⟩ : ∃ j, n - S.length = j + 1 := ⟨n - S.length - 1, by omega⟩
  rw [hj]; rfl
theorem Part.push (h : Part w g n S) {k : Nat} (hk : S.length = k) (hn : k < n) {x : Nat} (hx : x < 4294967296) {z : Int} (hz : z = (x : Int)) : Part (w.setCell ⟨g, k, none⟩ (.int .u32 z)) g n (S ++ [x]) := by
  subst hz
  refine ⟨by simp; omega, h.ok.snoc hx, ?_⟩
  have := h.blk.set_ k x
  have e : (S ++ List.replicate (n - S.length) 0).set k x = S ++ [x] ++ List.replicate (n - (S ++ [x]).length) 0 := by
    rw [List.set_append_right _ _ (by omega), ← hk, Nat.sub_self]
    obtain ⟨j, hj⟩ : ∃ j, n - S.length = j + 1 := ⟨n - S.length - 1, by omega⟩
    have hj' : n - (S ++ [x]).length = j := by simp; omega
    rw [hj, hj', List.replicate_succ, List.set_cons_zero, List.append_assoc]; rfl
  rwa [e] at this
theorem Part.all (h : Part w g n S) (hn : S.length = n) : Blk w g S := by
  have := h.blk
  rw [hn, Nat.sub_self] at this
  simpa using this
theorem Part.drew (h : Part w g n S) : Part w.drew g n S := ⟨h.le, h.ok, h.blk.drew⟩
theorem Part.below {B : Nat} (h : Part w g n S) (hb : Below B w w') (hg : g < B) : Part w' g n S := ⟨h.le, h.ok, h.blk.below hb hg⟩
end
theorem splice_all {α : Type} (L cs : List α) (h : cs.length = L.length) : splice L 0 cs = cs := by
  simp [splice, h]
theorem Blk.newAll {w : World} {g base : Nat} {xs : List Nat} (h : Blk w g xs) (ok : Ok xs) (t : trimL xs = xs) (hm : xs.length ≤ maxLen) (hg : base ≤ g) : New w base (.slice (some ⟨g, 0, none⟩) xs.length xs.length) (limbs (val xs)) := by
  have := h.new (base := base) ok hm hg
  rwa [limbs_of ok t] at this ⊢
/-- Block g alone may have changed. -/
structure Only (g : Nat) (w w' : World) : Prop where
  os : w'.os = w.os
  tape : w'.tape = w.tape
  output : w'.output = w.output
  size : w'.heap.size = w.heap.size
  block : ∀ k, k ≠ g → w'.heap[k]? = w.heap[k]?
theorem Only.refl (g : Nat) (w : World) : Only g w w := ⟨rfl, rfl, rfl, rfl, fun _ _ => rfl⟩
theorem Only.trans {g : Nat} {a b c : World} (h : Only g a b) (k : Only g b c) : Only g a c :=
  ⟨k.os.trans h.os, k.tape.trans h.tape, k.output.trans h.output, k.size.trans h.size, fun i hi => (k.block i hi).trans (h.block i hi)⟩
theorem Only.setCell (g i : Nat) (w : World) (u : Value) : Only g w (w.setCell ⟨g, i, none⟩ u) :=
  ⟨rfl, rfl, rfl, by simp [World.setCell], fun k hk => Below.heap_setCell w ⟨g, i, none⟩ u k hk⟩
theorem Only.setRow (g : Nat) (w : World) (cs : Array Value) : Only g w (w.setRow g cs) :=
  ⟨rfl, rfl, rfl, by simp [World.setRow], fun k hk => setRow_other w g k cs hk⟩
theorem Only.below {g B : Nat} {w w' : World} (h : Only g w w') (hB : B ≤ g) : Below B w w' :=
  ⟨h.os, h.tape, h.output, by rw [h.size]; exact Nat.le_refl _, fun k hk => h.block k (by omega)⟩
theorem Blk.only {g b : Nat} {w w' : World} {xs : List Nat} (h : Blk w b xs) (ho : Only g w w') (hb : b ≠ g) : Blk w' b xs := (ho.block b hb).trans h
theorem Part.only {g b n : Nat} {w w' : World} {xs : List Nat} (h : Part w b n xs) (ho : Only g w w') (hb : b ≠ g) : Part w' b n xs := ⟨h.le, h.ok, h.blk.only ho hb⟩

/-- copy(dst, src): dst of dLen limbs from place 'off' of block g on; src of at most as many. -/
theorem wpList_copy_limbs {P : Program} {w : World} {ops : Array Oper} {rest : List Oper} {o : Oper} {a : Act} {Q : Exit → Act → World → Prop} (hgd : o.guard = none) (d s : Operand)
    (ho : o.op = .call { callee := .builtin .copy, args := #[d, s], argTypes := #[25, 25] }) (hu : P.underlying 25 = some (.slice 78)) (hsz : (P.info? 78).map (·.size) = some 1)
    (dp sp : Option Addr) (dLen dCap sLen sCap : Nat) (hd : a.eval d = .slice dp dLen dCap) (hs : a.eval s = .slice sp sLen sCap)
    (g off : Nat) (L xs : List Nat) (hB : Blk w g L) (hx : Sl w sp sLen sCap xs) (hdp : 0 < dLen → dp = some ⟨g, off, none⟩) (hle : sLen ≤ dLen) (hfit : off + dLen ≤ L.length)
    (h : ∀ w', Blk w' g (splice L off xs) → Only g w w' → wpList P ops Q rest (a.put o.dst (goInt (sLen : Int))) w') :
    wpList P ops Q (o :: rest) a w := by
  have hl := hx.len
  by_cases h0 : sLen = 0
  · subst h0
    obtain rfl : xs = [] := List.eq_nil_of_length_eq_zero hl.symm
    refine wpList_copy_nothing hgd d s _ _ ho _ hu hsz dp sp dLen dCap 0 sCap hd hs (by simp) ?_
    exact h w (by simpa [splice] using hB) (Only.refl g w)
  · obtain rfl := hdp (by omega)
    obtain ⟨ad, rfl, hsrc⟩ := hx.src (by omega)
    have hc : (cellsOf xs).length = sLen := by rw [cellsOf_length, hl]
    refine wpList_copy_own hgd d s _ _ ho _ hu hsz g off dLen dCap ad sLen sCap hd hs (cellsOf L).toArray _ hB (cellsOf xs) (by rw [hc]; exact (Nat.min_eq_left hle).symm) hsrc (by rw [hc]; simp [cellsOf_length]; omega) (cellsOf_one _) ?_
    rw [hc]
    refine h _ ?_ (Only.setRow _ _ _)
    have := setRow_heap w g (cellsOf L).toArray (List.take off (cellsOf L) ++ (cellsOf xs ++ List.drop (off + sLen) (cellsOf L))).toArray _ _ hB
    unfold Blk
    have e : cellsOf (splice L off xs) = List.take off (cellsOf L) ++ (cellsOf xs ++ List.drop (off + sLen) (cellsOf L)) := by
      simp [splice, cellsOf, List.map_drop, List.map_take, hl]
    rw [e]
    exact this

/-- make([]uint32, n): the run's equation. -/
theorem run_make_limbs {P : Program} {i : TypeInfo} (ht : P.underlying 25 = some (.slice 78)) (hi : P.info? 78 = some i) (hz : i.zero = some (.int .u32 0)) (hs : i.size = 1) (hb : i.bytes = 4)
    (n : Nat) (hn : n ≤ 35184372087808) (w : World) :
    (Instr.makeSlice 25 (.int .i64 (n : Int)) (.int .i64 (n : Int))).run P w = .ok (.slice (some ⟨w.heap.size, 0, none⟩) n n) (w.alloc (.cells (madeCells #[Value.int .u32 0] n) 78)) := by
  have hr := run_make (P := P) w 25 78 i _ ht hi hz .i64 .i64 n n (by omega) (by omega) (by rw [hb]; omega) (by omega)
  simp only [Int.toNat_natCast, hs, Nat.mul_one] at hr
  exact hr

/-- A row of limbs that the call itself made, appended to at will. -/
def Own (w : World) (base : Nat) (v : Value) (xs : List Nat) : Prop := Ok xs ∧ w.ownsRow base 78 1 v xs.length (cellsOf xs)
theorem Own.new {w : World} {base : Nat} {v : Value} {xs : List Nat} (h : Own w base v xs) : New w base v xs := by
  obtain ⟨ok, hl, h⟩ := h
  rcases h with ⟨rfl, h0⟩ | ⟨g, cap, cur, rfl, hg, hh, hn, hc, hs, ht⟩
  · obtain rfl : xs = [] := List.eq_nil_of_length_eq_zero h0
    exact New.nil w base
  · refine ⟨_, _, _, rfl, ⟨rfl, hn, hc, ok, fun _ => ⟨g, 0, rfl, ?_, fun i hi => ?_⟩, fun e => by cases e⟩, .inr ⟨g, cur, rfl, hg, hh, by omega⟩⟩
    · rcases Nat.lt_or_ge g w.heap.size with hlt | hge
      · exact hlt
      · rw [Array.getElem?_eq_none hge] at hh; cases hh
    · rw [Nat.zero_add, cell_of_row w g i cur _ (0, 0) hh, ← cellsOf_getElem? xs i hi, ← ht, List.getElem?_take_of_lt (by omega), Array.getElem?_toList]
theorem Own.nil (w : World) (base : Nat) : Own w base (.slice none 0 0) [] := ⟨Ok.nil, World.ownsRow_nil _ _ _ _⟩
theorem Own.ext {w w' : World} {base : Nat} {v : Value} {xs : List Nat} {row : Option Nat} (h : Own w base v xs) (hg : w.grownBy w' row) (hne : v.ownBlock = none ∨ v.ownBlock ≠ row) : Own w' base v xs := ⟨h.1, h.2.kept hg hne⟩

/-- append(v, src...): v a row of the call's own, src any slice of limbs. -/
theorem wpList_append_limbs {P : Program} {w : World} {ops : Array Oper} {rest : List Oper} {o : Oper} {a : Act} {Q : Exit → Act → World → Prop} (hgd : o.guard = none) (s x : Operand)
    (ho : o.op = .call { callee := .builtin .append, args := #[s, x], argTypes := #[25, 25] }) (i : TypeInfo) (ht : P.underlying 25 = some (.slice 78)) (hi : P.info? 78 = some i)
    (hz : i.zero = some (.int .u32 0)) (hsize : i.size = 1) (hby : i.bytes = 4)
    (base : Nat) (v : Value) (xs : List Nat) (hs : a.eval s = v) (hown : Own w base v xs) (A : Option Addr) (n c : Nat) (ys : List Nat) (hx : a.eval x = .slice A n c) (hsl : Sl w A n c ys)
    (hlen : xs.length + n ≤ 35184372087808) (hbase : base ≤ w.heap.size)
    (h : ∀ v' w', Own w' base v' (xs ++ ys) → w.grownBy w' v.ownBlock → wpList P ops Q rest (a.put o.dst v') w') : wpList P ops Q (o :: rest) a w := by
  have hl := hsl.len
  have key : ∀ (v' : Value) (w' : World), w'.ownsRow base 78 1 v' (xs.length + n) (cellsOf xs ++ cellsOf ys) → w.grownBy w' v.ownBlock → wpList P ops Q rest (a.put o.dst v') w' := by
    intro v' w' ho' hg'
    refine h v' w' ⟨hown.1.append hsl.ok, ?_⟩ hg'
    rw [cellsOf_append, List.length_append, ← hl]
    exact ho'
  cases A with
  | none =>
    have hc0 := hsl.nil_ rfl
    subst hc0
    have hn0 : n = 0 := by have := hsl.le; omega
    subst hn0
    have hy : ys = [] := List.eq_nil_of_length_eq_zero hl.symm
    subst hy
    refine wpList_append_own_none hgd s x _ ho base _ i 1 ht hi v xs.length (cellsOf xs) hs hown.2 hx ?_
    exact key v w (by simpa [cellsOf] using hown.2) (World.grownBy.refl _ _)
  | some ad =>
    refine wpList_append_own w hgd s x _ ho base _ i _ 1 4 ht hi hz hsize hby rfl (by decide) v xs.length (cellsOf xs) hs hown.2 ad n c (cellsOf ys) hx (by rw [cellsOf_length]; omega) ?_ (cellsOf_one _) (by unfold maxLen; omega) (by omega) hbase (fun v' w' h1 h2 _ => key v' w' h1 h2)
    intro j u hj
    have hjl : j < ys.length := by
      have := (List.getElem?_eq_some_iff.1 hj).1
      rwa [cellsOf_length] at this
    obtain ⟨ad', e, hsrc⟩ := hsl.src (by omega)
    injection e with e
    subst e
    exact hsrc j u hj
end Go.Proofs.YtocnlapbkidinaaGreatDoor
