/-
  Numbers, as far as writing wants them: Norm and Text of whole numbers.
-/
import Derived.Test.YthdhdmmlmbkalaaGreatDoorJp0
import Derived.Test.YthdhdmmlmbkalaaGreatDoorChecked
import Derived.Outline
import Derived.Laws.BitsAllLaws
import Derived.Deep.LoopGhost
import Derived.BigRegion
import Derived.Laws.IdiomStrings
import Derived.Lib.BufferRead
import Derived.Deep.QuietTactic
import Derived.BigQuiet
import Derived.Shelf.Small.Bits
import Derived.WalkMore
import Derived.Deep.RegionHeld3
set_option linter.unusedVariables false
set_option linter.unusedSimpArgs false
set_option linter.unusedSectionVars false
set_option linter.unnecessarySimpa false
namespace Go.Proofs.YthdhdmmlmbkalaaGreatDoor
open Go.RowKit

theorem trimL_take_zero (xs : List Nat) (n : Nat) (h : n + 1 ≤ xs.length) (h0 : lim xs n = 0) : trimL (xs.take (n + 1)) = trimL (xs.take n) := by
  rw [take_snoc xs n (by omega), h0, trimL_snoc_zero]
theorem trimL_take_stop (xs : List Nat) (n : Nat) (h : n + 1 ≤ xs.length) (h0 : lim xs n ≠ 0) : trimL (xs.take (n + 1)) = xs.take (n + 1) := by
  rw [take_snoc xs n (by omega), trimL_snoc _ _ h0]
theorem info32 : (Tryz.prog.info? 149).map (fun i => (i.zero, i.size, i.bytes)) = some (some (.int .u32 0), 1, 4) := by kernel_rfl
/-- The number of a list of digits, the lowest first. -/
def valb (b : Nat) : List Nat → Nat
  | [] => 0
  | x :: xs => x + b * valb b xs
def Okb (b : Nat) (xs : List Nat) : Prop := ∀ x ∈ xs, x < b
section
variable {b : Nat}
theorem Okb.nil : Okb b [] := fun _ h => by cases h
theorem Okb.cons {x : Nat} {xs : List Nat} (h : x < b) (hx : Okb b xs) : Okb b (x :: xs) := by
  intro y hy
  rcases List.mem_cons.1 hy with rfl | hy
  · exact h
  · exact hx y hy
theorem Okb.head {x : Nat} {xs : List Nat} (h : Okb b (x :: xs)) : x < b := h x (List.mem_cons_self ..)
theorem Okb.tail {x : Nat} {xs : List Nat} (h : Okb b (x :: xs)) : Okb b xs := fun y hy => h y (List.mem_cons_of_mem _ hy)
theorem Okb.append {xs ys : List Nat} (h : Okb b xs) (k : Okb b ys) : Okb b (xs ++ ys) := by
  intro y hy
  rcases List.mem_append.1 hy with hy | hy
  · exact h y hy
  · exact k y hy
theorem Okb.take {xs : List Nat} (h : Okb b xs) (k : Nat) : Okb b (xs.take k) := fun y hy => h y (List.mem_of_mem_take hy)
theorem Okb.trim {xs : List Nat} (h : Okb b xs) : Okb b (trimL xs) := by rw [trimL_take]; exact h.take _
end
/-- A digit's letter. -/
def chr (d : Nat) : UInt8 := if d < 10 then UInt8.ofNat (48 + d) else UInt8.ofNat (87 + d)
/-- The cells of bytes. -/
def bcells (l : List UInt8) : List Value := l.map fun c : UInt8 => Value.int .u8 ((c.toNat : Nat) : Int)
/-- A row of bytes of the call's own. -/
def BOwn (w : World) (base : Nat) (v : Value) (l : List UInt8) : Prop := w.ownsRow base 5 1 v l.length (bcells l)
theorem Only.grown {g : Nat} {w w' : World} (h : Only g w w') : w.grownBy w' (some g) := ⟨h.os, h.tape, h.output, by rw [h.size]; exact Nat.le_refl _, fun k _ hne => h.block k (fun e => hne (by rw [e]))⟩
/-- A row of bytes is no block of limbs. -/
theorem BOwn.ne {w : World} {base g : Nat} {v : Value} {l : List UInt8} {L : List Nat} (h : BOwn w base v l) (hb : Blk w g L) : v.ownBlock ≠ some g := by
  rcases h.2 with ⟨rfl, _⟩ | ⟨g', cap, cur, rfl, _, hh, _⟩
  · simp [Value.ownBlock]
  · intro he
    have : g' = g := by simpa [Value.ownBlock] using he
    subst this
    unfold Blk at hb
    rw [hb] at hh
    simp at hh
theorem BOwn.only {w w' : World} {base g : Nat} {v : Value} {l : List UInt8} {L : List Nat} (h : BOwn w base v l) (hb : Blk w g L) (ho : Only g w w') : BOwn w' base v l :=
  World.ownsRow.kept h ho.grown (.inr (h.ne hb))
/-- What Text has made so far of the number n: digits, and what is left to be told. -/
structure TextInv (w : World) (b n n0 r m : Nat) (v : Value) (wr : World) (O : List Nat) (L : List Nat) : Prop where
  len : m = (limbs r).length
  lenL : L.length = n0
  take : L.take m = limbs r
  okL : Ok L
  blk : Blk wr w.heap.size L
  own : BOwn wr w.heap.size v (O.map chr)
  okO : Okb b O
  num : n = valb b O + b ^ O.length * r
  bel : Below w.heap.size w wr
  lenO : O.length ≤ 50000000000
/-- ... and inside a round: the digits of what divInto left. -/
structure TextIn (w : World) (b low j lo : Nat) (v : Value) (wr : World) (O D L : List Nat) : Prop where
  lenD : D.length = j
  okD : Okb b D
  num : low = valb b D + b ^ j * lo
  blk : Blk wr w.heap.size L
  own : BOwn wr w.heap.size v ((O ++ D).map chr)
  bel : Below w.heap.size w wr
theorem New.sl {w : World} {base : Nat} {v : Value} {xs : List Nat} (h : New w base v xs) : ∃ A c, v = .slice A xs.length c ∧ Sl w A xs.length c xs := by
  obtain ⟨A, n, cap, rfl, hs, _⟩ := h
  have := hs.len
  subst this
  exact ⟨A, cap, rfl, hs⟩
/-- The value v is a slice of at most K limbs that has the number m. -/
def Num (w : World) (v : Value) (m K : Nat) : Prop := ∃ A n c xs, v = .slice A n c ∧ Sl w A n c xs ∧ val xs = m ∧ n ≤ K
theorem Num.below {w w' : World} {v : Value} {m K : Nat} (h : Num w v m K) (hb : Below w.heap.size w w') : Num w' v m K := by
  obtain ⟨A, n, c, xs, e, hs, hv, hn⟩ := h
  exact ⟨A, n, c, xs, e, hs.below hb, hv, hn⟩
theorem Num.alloc {w : World} {v : Value} {m K : Nat} (h : Num w v m K) (o : Obj) : Num (w.alloc o) v m K := h.below ((Below.refl _ _).alloc (Nat.le_refl _) o)
theorem Num.lt {w : World} {v : Value} {m K : Nat} (h : Num w v m K) : m < 4294967296 ^ K := by
  obtain ⟨A, n, c, xs, e, hs, hv, hn⟩ := h
  have h1 := val_lt hs.ok
  have h2 : 4294967296 ^ xs.length ≤ 4294967296 ^ K := Nat.pow_le_pow_right (by decide) (by have := hs.len; omega)
  omega
/-- What a call told. -/
theorem New.num {w : World} {base : Nat} {v : Value} {m : Nat} (h : New w base v (limbs m)) (K : Nat) (hm : m < 4294967296 ^ K) : Num w v m K := by
  obtain ⟨A, n, c, rfl, hs, _⟩ := h
  exact ⟨A, n, c, _, rfl, hs, limbs_val m, by have := limbs_len_le hm; have := hs.len; omega⟩
theorem New.next {w w' : World} {base : Nat} {v : Value} {xs : List Nat} (h : New w base v xs) (hb : Below w.heap.size w w') : New w' base v xs := h.below hb (Nat.le_refl _)
theorem New.lim {w : World} {base : Nat} {v : Value} {m K : Nat} (_h : New w base v (limbs m)) (hm : m < 4294967296 ^ K) : (limbs m).length ≤ K := limbs_len_le hm
section
variable {w : World} {u v : Value} {a b K L : Nat}
end
theorem two_pow_split (s : Nat) : 2 ^ s = 4294967296 ^ (s / 32) * 2 ^ (s % 32) := by
  have h : 4294967296 ^ (s / 32) = 2 ^ (32 * (s / 32)) := (Nat.pow_mul 2 32 (s / 32)).symm
  rw [h, ← Nat.pow_add, Nat.div_add_mod]
theorem drop_two (Y : List Nat) (i : Nat) : val (Y.drop i) = lim Y i + 4294967296 * (lim Y (i + 1) + 4294967296 * val (Y.drop (i + 2))) := by
  rcases Nat.lt_or_ge i Y.length with h | h
  · rw [val_drop Y i h]
    rcases Nat.lt_or_ge (i + 1) Y.length with h1 | h1
    · rw [val_drop Y (i + 1) h1]
    · rw [List.drop_eq_nil_of_le h1, List.drop_eq_nil_of_le (by omega), lim_ge Y (i + 1) h1, val_nil]
  · rw [List.drop_eq_nil_of_le h, List.drop_eq_nil_of_le (by omega), lim_ge Y i h, lim_ge Y (i + 1) (by omega), val_nil]
theorem val_div_pow {Y : List Nat} (h : Ok Y) (i : Nat) : val Y / 4294967296 ^ i = val (Y.drop i) := by
  rcases Nat.lt_or_ge Y.length i with hi | hi
  · rw [List.drop_eq_nil_of_le (by omega), val_nil, Nat.div_eq_of_lt]
    exact Nat.lt_of_lt_of_le (val_lt h) (Nat.pow_le_pow_right (by decide) (by omega))
  · rw [val_take_drop Y i hi, Nat.add_mul_div_left _ _ (pow_pos' i), Nat.div_eq_of_lt (val_take_lt h i), Nat.zero_add]
theorem Sl.only {w w' : World} {A : Option Addr} {n c g : Nat} {xs : List Nat} (h : Sl w A n c xs) (ho : Only g w w') (hne : ∀ b off, A = some ⟨b, off, none⟩ → b ≠ g) : Sl w' A n c xs :=
  ⟨h.len, h.le, h.max, h.ok, fun hn => by
    obtain ⟨b, off, e, hb, hc⟩ := h.here hn
    exact ⟨b, off, e, by rw [ho.size]; exact hb, fun i hi => (World.cell?_of_block (w := w) (a := ⟨b, off + i, none⟩) (ho.block b (hne b off e))).trans (hc i hi)⟩, h.nil_⟩
/-- A bit of a number. -/
def bitN (v i : Nat) : Nat := v / 2 ^ i % 2
theorem bitN_mod (R i : Nat) : R % 2 ^ (i + 1) = R % 2 ^ i + 2 ^ i * bitN R i := by
  unfold bitN
  rw [Nat.pow_succ, Nat.mod_mul]
/-- What holds while bits are set one by one, from below. -/
def BitInv (w : World) (R N i : Nat) (M : List Nat) (wr : World) : Prop := M.length = N ∧ Ok M ∧ val M = R % 2 ^ i ∧ Blk wr w.heap.size M ∧ Below w.heap.size w wr
theorem BitInv.lim_lt {w : World} {R N i : Nat} {M : List Nat} {wr : World} (h : BitInv w R N i M wr) : lim M (i / 32) < 2 ^ (i % 32) := by
  have h1 : val M < 2 ^ i := by rw [h.2.2.1]; exact Nat.mod_lt _ (Nat.pow_pos (by decide))
  rw [two_pow_split i] at h1
  have h2 : val M / 4294967296 ^ (i / 32) < 2 ^ (i % 32) := Nat.div_lt_of_lt_mul h1
  rw [val_div_pow h.2.1, drop_two] at h2
  omega
theorem BitInv.zero {w : World} {R N i : Nat} {M : List Nat} {wr : World} (h : BitInv w R N i M wr) (hb : bitN R i = 0) : BitInv w R N (i + 1) M wr :=
  ⟨h.1, h.2.1, by rw [h.2.2.1, bitN_mod, hb, Nat.mul_zero, Nat.add_zero], h.2.2.2⟩
theorem BitInv.one {w : World} {R N i : Nat} {M : List Nat} {wr : World} (h : BitInv w R N i M wr) (hb : bitN R i = 1) (hN : i / 32 < N) {z : Int} (hz : z = ((lim M (i / 32) + 2 ^ (i % 32) : Nat) : Int)) :
    BitInv w R N (i + 1) (M.set (i / 32) (lim M (i / 32) + 2 ^ (i % 32))) (wr.setCell ⟨w.heap.size, i / 32, none⟩ (.int .u32 z)) := by
  subst hz
  have hl := h.lim_lt
  have h1 : 2 ^ (i % 32) ≤ 2 ^ 31 := Nat.pow_le_pow_right (by decide) (by omega)
  refine ⟨by rw [List.length_set]; exact h.1, h.2.1.set _ _ (by omega), ?_, h.2.2.2.1.set_ _ _, h.2.2.2.2.setCell (Nat.le_refl _) _⟩
  have hs := val_set M (i / 32) (lim M (i / 32) + 2 ^ (i % 32)) (by rw [h.1]; exact hN)
  rw [Nat.mul_add, ← two_pow_split] at hs
  rw [bitN_mod, hb, Nat.mul_one, ← h.2.2.1]
  omega
/-- The whole number of a sign and a number. -/
def zOf (s : Bool) (m : Nat) : Int := if s then -(m : Int) else (m : Int)
theorem zOf_abs (s : Bool) (m : Nat) : (zOf s m).natAbs = m := by cases s <;> simp [zOf]
theorem zOf_neg (s : Bool) (m : Nat) : decide (zOf s m < 0) = (s && decide (0 < m)) := by
  cases s
  · simp [zOf]
  · simp only [zOf, if_true, Bool.true_and]
    exact decide_eq_decide.2 (by omega)
/-- The value v is a whole number's: a sign s, and a slice of at most K limbs that has the number m. -/
def Wh (w : World) (v : Value) (z : Int) (K : Nat) : Prop := ∃ s x m, v = .agg #[.bool s, x] ∧ Num w x m K ∧ z = zOf s m
/-- A call's own: without limbs of 0 at its end, nought without a sign. -/
def WNew (w : World) (base : Nat) (v : Value) (z : Int) : Prop := ∃ x, v = .agg #[.bool (decide (z < 0)), x] ∧ New w base x (limbs z.natAbs)
def WGives (w : World) (z : Int) (e : Ending) (w' : World) : Prop := ∃ v, e = .returned v ∧ WNew w' w.heap.size v z ∧ Below w.heap.size w w'
theorem Wh.below {w w' : World} {v : Value} {z : Int} {K : Nat} (h : Wh w v z K) (hb : Below w.heap.size w w') : Wh w' v z K := by
  obtain ⟨s, x, m, e, hn, hz⟩ := h
  exact ⟨s, x, m, e, hn.below hb, hz⟩
theorem Wh.lt {w : World} {v : Value} {z : Int} {K : Nat} (h : Wh w v z K) : z.natAbs < 4294967296 ^ K := by
  obtain ⟨s, x, m, e, hn, rfl⟩ := h
  rw [zOf_abs]; exact hn.lt
theorem WNew.next {w w' : World} {base : Nat} {v : Value} {z : Int} (h : WNew w base v z) (hb : Below w.heap.size w w') : WNew w' base v z := by
  obtain ⟨x, e, hn⟩ := h
  exact ⟨x, e, hn.next hb⟩
theorem WNew.from_ {w : World} {base base' : Nat} {v : Value} {z : Int} (h : WNew w base v z) (hb : base' ≤ base) : WNew w base' v z := by
  obtain ⟨x, e, hn⟩ := h
  exact ⟨x, e, hn.from_ hb⟩
theorem WNew.of {w : World} {base : Nat} {x : Value} (s : Bool) (m : Nat) (h : New w base x (limbs m)) {b : Bool} (hb : b = (s && decide (0 < m))) : WNew w base (.agg #[.bool b, x]) (zOf s m) :=
  ⟨x, by rw [zOf_neg, hb], by rw [zOf_abs]; exact h⟩
theorem results_w {fn : Func} {tmps : Array Value} {t : Tmp} {w : World} {b : Nat} {s x : Value} (h : fn.results = #[.cell t 24]) (ht : tmps.getD t undef = .pointer (some ⟨b, 0, none⟩)) (c0 : w.cell? ⟨b, 0, none⟩ = some s) (c1 : w.cell? ⟨b, 1, none⟩ = some x) :
    (results fn tmps).run Tryz.prog w = .ok (.agg #[s, x]) w := by
  rw [Array.getD_eq_getD_getElem?] at ht
  simp [results, h, ht, go_sem, c0, c1]
theorem New.nought {w : World} {base : Nat} {x : Value} {m : Nat} (h : New w base x (limbs m)) : ∃ A n c, x = .slice A n c ∧ n ≤ 2 ^ 63 - 1 ∧ (n = 0 ↔ m = 0) := by
  obtain ⟨A, n, c, rfl, hs, _⟩ := h
  have hlen := hs.len
  have hmax := Nat.le_trans hs.le hs.max
  unfold maxLen at hmax
  refine ⟨A, n, c, rfl, hmax, ?_⟩
  rw [hlen]
  constructor
  · intro h0; exact (limbs_nil_iff m).1 (List.length_eq_zero_iff.1 h0)
  · intro h0; rw [h0]; rfl
/-- The block g is a variable that holds a whole number's sign and slice. -/
def Var (w : World) (g : Nat) (s x : Value) : Prop := w.heap[g]? = some (.cells #[s, x] 24 (0, 0))
section
variable {w w' : World} {g : Nat} {s x : Value}
theorem Var.lt (h : Var w g s x) : g < w.heap.size := by
  rcases Nat.lt_or_ge g w.heap.size with hg | hg
  · exact hg
  · unfold Var at h; rw [Array.getElem?_eq_none hg] at h; cases h
theorem Var.c0 (h : Var w g s x) : w.cell? ⟨g, 0, none⟩ = some s := by unfold Var at h; simp [World.cell?, h]
theorem Var.c1 (h : Var w g s x) : w.cell? ⟨g, 1, none⟩ = some x := by unfold Var at h; simp [World.cell?, h]
theorem Var.f0 (h : Var w g s x) : w.frozen? ⟨g, 0, none⟩ = false := by unfold Var at h; simp [World.frozen?, h]
theorem Var.f1 (h : Var w g s x) : w.frozen? ⟨g, 1, none⟩ = false := by unfold Var at h; simp [World.frozen?, h]
theorem Var.below {B : Nat} (h : Var w g s x) (hb : Below B w w') (hg : g < B) : Var w' g s x := (hb.block g hg).trans h
theorem Var.next (h : Var w g s x) (hb : Below w.heap.size w w') : Var w' g s x := h.below hb h.lt
theorem Var.alloc (h : Var w g s x) (o : Obj) : Var (w.alloc o) g s x := h.next ((Below.refl _ _).alloc (Nat.le_refl _) o)
theorem Var.drew (h : Var w g s x) : Var w.drew g s x := h
theorem Var.set0 (h : Var w g s x) (v : Value) : Var (w.setCell ⟨g, 0, none⟩ v) g v x := by
  unfold Var at *
  simp [World.setCell, Array.getElem?_modify, h]
theorem Var.set1 (h : Var w g s x) (v : Value) : Var (w.setCell ⟨g, 1, none⟩ v) g s v := by
  unfold Var at *
  simp [World.setCell, Array.getElem?_modify, h]
theorem Var.far (h : Var w g s x) {p : Addr} (hp : g ≠ p.block) (u : Value) : Var (w.setCell p u) g s x := (Below.heap_setCell w p u g hp).trans h
theorem Var.mk_ (w : World) (s x : Value) : Var (w.alloc (.cells #[s, x] 24)) w.heap.size s x := heap_alloc_new w _
/-- What a store into the variable asks. -/
theorem Var.room (h : Var w g s x) (b : Value) : w.frozen? ⟨g, 0, none⟩ = false ∧ w.frozen? ⟨g, 1, none⟩ = false ∧ w.cell? ⟨g, 0, none⟩ = some s ∧ w.cell? ⟨g, 1, none⟩ = some x ∧ (w.setCell ⟨g, 0, none⟩ b).frozen? ⟨g, 1, none⟩ = false ∧ (w.setCell ⟨g, 0, none⟩ b).cell? ⟨g, 1, none⟩ = some x :=
  ⟨h.f0, h.f1, h.c0, h.c1, (h.set0 b).f1, (h.set0 b).c1⟩
end
theorem Wh.drew {w : World} {v : Value} {z : Int} {K : Nat} (h : Wh w v z K) : Wh w.drew v z K := h.below ((Below.refl _ _).drew)
theorem Num.drew {w : World} {v : Value} {m K : Nat} (h : Num w v m K) : Num w.drew v m K := h.below ((Below.refl _ _).drew)
theorem enter1r (w : World) (s x : Value) : ∃ W, W = (w.alloc (.cells #[s, x] 24)).alloc (.cells #[.bool false, .slice none 0 0] 24) ∧ Var W w.heap.size s x ∧ Var W (w.heap.size + 1) (.bool false) (.slice none 0 0) ∧ Below w.heap.size w W := by
  refine ⟨_, rfl, (Var.mk_ _ _ _).alloc _, ?_, bnew (bnew (Below.refl _ _) _) _⟩
  have := Var.mk_ (w.alloc (.cells #[s, x] 24)) (.bool false) (.slice none 0 0)
  simpa using this
theorem WNew.opened {w : World} {base : Nat} {v : Value} {z : Int} (h : WNew w base v z) : ∃ b A n c, v = .agg #[.bool b, .slice A n c] ∧ Hid (WNew w base (.agg #[.bool b, .slice A n c]) z) := by
  obtain ⟨x, rfl, A, n, c, rfl, hs⟩ := h
  exact ⟨_, A, n, c, rfl, ⟨_, rfl, A, n, c, rfl, hs⟩⟩
theorem Wh.opened {w : World} {v : Value} {z : Int} {K : Nat} (h : Wh w v z K) : ∃ b A n c, v = .agg #[.bool b, .slice A n c] ∧ Hid (Wh w (.agg #[.bool b, .slice A n c]) z K) := by
  obtain ⟨s, x, m, rfl, ⟨A, n, c, xs, rfl, hs⟩, hz⟩ := h
  exact ⟨_, A, n, c, rfl, ⟨s, _, m, rfl, ⟨A, n, c, xs, rfl, hs⟩, hz⟩⟩
theorem New.farSet {w : World} {g base : Nat} {s x v : Value} {xs : List Nat} (hv : Var w g s x) (h : New w base v xs) (i : Nat) (u : Value) : New (w.setCell ⟨g, i, none⟩ u) base v xs := by
  obtain ⟨A, n, c, rfl, hs, hor⟩ := h
  have hbl : ∀ k, k ≠ g → (w.setCell ⟨g, i, none⟩ u).heap[k]? = w.heap[k]? := fun k hk => Below.heap_setCell w _ u k hk
  rcases hor with ⟨rfl, rfl⟩ | ⟨b, cur, rfl, hb, hc, hsz⟩
  · have h0 : n = 0 := Nat.le_zero.1 hs.le
    have hx0 := hs.len
    subst h0
    obtain rfl : xs = [] := List.length_eq_zero_iff.1 hx0.symm
    exact ⟨none, 0, 0, rfl, Sl.nil, .inl ⟨rfl, rfl⟩⟩
  · have hne : b ≠ g := by
      intro e
      subst e
      unfold Var at hv
      rw [hv] at hc
      simp at hc
    refine ⟨_, n, c, rfl, ⟨hs.len, hs.le, hs.max, hs.ok, fun hn => ?_, hs.nil_⟩, .inr ⟨b, cur, rfl, hb, (hbl b hne).trans hc, hsz⟩⟩
    obtain ⟨b', o', he, hlt, hcell⟩ := hs.here hn
    cases he
    exact ⟨b, 0, rfl, by rw [(Only.setCell g i w u).size]; exact hlt, fun j hj => by rw [World.cell?_of_block (w := w) (hbl b hne)]; exact hcell j hj⟩
/-- A call ends, its answer in the variable g. -/
theorem wret {fn : Func} {a : Act} {t : Tmp} {w w2 : World} {g base : Nat} {s0 x0 : Value} {b : Bool} {A : Option Addr} {n c : Nat} {z : Int} (h : fn.results = #[.cell t 24]) (ht : a.tmps.getD t undef = .pointer (some ⟨g, 0, none⟩)) (hd : a.defers = [])
    (hv : Var w2 g s0 x0) (hn : WNew w2 base (.agg #[.bool b, .slice A n c]) z) (hbase : w.heap.size ≤ base) (hg : w.heap.size ≤ g) (hb : Below w.heap.size w w2) :
    bodyPost Tryz.prog fn (WGives w z) .ret a ((w2.setCell ⟨g, 0, none⟩ (.bool b)).setCell ⟨g, 1, none⟩ (.slice A n c)) := by
  have h1 := (hv.set0 (.bool b)).set1 (.slice A n c)
  refine bodyPost_ret (results_w h ht h1.c0 h1.c1) hd ?_
  obtain ⟨x, e, hnew⟩ := hn
  have e' : Value.bool b = .bool (decide (z < 0)) ∧ Value.slice A n c = x := by simpa using e
  refine ⟨_, rfl, ⟨.slice A n c, by rw [e'.1], ?_⟩, ?_⟩
  · rw [← e'.2] at hnew
    exact (New.farSet (hv.set0 (.bool b)) (New.farSet hv hnew 0 (.bool b)) 1 (.slice A n c)).from_ hbase
  · exact (hb.setCell hg _).setCell hg _
section
variable {w : World} {u v : Value} {a b : Int} {K L : Nat}
end
section
variable {w : World} {u v : Value} {a b : Int} {K L : Nat}
end
section
variable {w : World} {u v : Value} {a b : Int} {K L : Nat}
end
section
variable {w : World} {u v : Value} {a b : Int} {K L : Nat}
end
end Go.Proofs.YthdhdmmlmbkalaaGreatDoor
