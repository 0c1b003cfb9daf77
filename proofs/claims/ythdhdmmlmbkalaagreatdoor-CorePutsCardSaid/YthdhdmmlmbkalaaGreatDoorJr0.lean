/-
  Plain mathematics of limbs to base 2^32, the lowest first: the number of a list of limbs, the list without noughts at its end, the list of a number. No program is imported. What a slice of limbs is in memory: 'Sl': it leads to the limbs xs; 'New': it is the call's own. No program is imported. Data as trees, with where they lie: how many they are, how deep, in which order they are told, and the stack by which they are told.
-/
import Derived.WalkKit
import Derived.WalkSpells
import Derived.WalkLawsBesides
import Derived.Laws.CopyOwn
import Derived.Laws.AppendOwnNone
import Derived.Lib.Hide
set_option linter.unusedVariables false
set_option linter.unusedSimpArgs false
set_option linter.unusedSectionVars false
set_option linter.unnecessarySimpa false
namespace Go.Proofs.YthdhdmmlmbkalaaGreatDoor
section

/-- The number of a list of limbs. -/
def val : List Nat → Nat
  | [] => 0
  | x :: xs => x + 4294967296 * val xs

/-- A limb; 0 behind the end. -/
def lim (xs : List Nat) (k : Nat) : Nat := xs.getD k 0
theorem lim_eq (xs : List Nat) (k : Nat) : lim xs k = xs[k]?.getD 0 := List.getD_eq_getElem?_getD ..

/-- Each limb is below the base. -/
def Ok (xs : List Nat) : Prop := ∀ x ∈ xs, x < 4294967296

theorem Ok.nil : Ok [] := fun _ h => by cases h
theorem Ok.cons {x : Nat} {xs : List Nat} (h : x < 4294967296) (hx : Ok xs) : Ok (x :: xs) := by
  intro y hy
  rcases List.mem_cons.1 hy with rfl | hy
  · exact h
  · exact hx y hy
theorem Ok.head {x : Nat} {xs : List Nat} (h : Ok (x :: xs)) : x < 4294967296 := h x (List.mem_cons_self ..)
theorem Ok.tail {x : Nat} {xs : List Nat} (h : Ok (x :: xs)) : Ok xs := fun y hy => h y (List.mem_cons_of_mem _ hy)
theorem Ok.append {xs ys : List Nat} (h : Ok xs) (k : Ok ys) : Ok (xs ++ ys) := by
  intro y hy
  rcases List.mem_append.1 hy with hy | hy
  · exact h y hy
  · exact k y hy
theorem Ok.left {xs ys : List Nat} (h : Ok (xs ++ ys)) : Ok xs := fun y hy => h y (List.mem_append_left _ hy)
theorem Ok.take {xs : List Nat} (h : Ok xs) (k : Nat) : Ok (xs.take k) := fun y hy => h y (List.mem_of_mem_take hy)
theorem Ok.drop {xs : List Nat} (h : Ok xs) (k : Nat) : Ok (xs.drop k) := fun y hy => h y (List.mem_of_mem_drop hy)
theorem Ok.replicate (n : Nat) : Ok (List.replicate n 0) := by
  intro y hy
  have := List.eq_of_mem_replicate hy
  omega
theorem Ok.getD {xs : List Nat} (h : Ok xs) (k : Nat) : lim xs k < 4294967296 := by
  rw [lim_eq]
  rcases Nat.lt_or_ge k xs.length with hk | hk
  · rw [List.getElem?_eq_getElem hk]; exact h _ (List.getElem_mem hk)
  · rw [List.getElem?_eq_none hk]; decide

theorem val_nil : val [] = 0 := rfl
theorem val_cons (x : Nat) (xs : List Nat) : val (x :: xs) = x + 4294967296 * val xs := rfl
theorem val_append (xs ys : List Nat) : val (xs ++ ys) = val xs + 4294967296 ^ xs.length * val ys := by
  induction xs with
  | nil => simp [val]
  | cons x xs ih =>
    rw [List.cons_append, val_cons, val_cons, ih, List.length_cons, Nat.pow_succ, Nat.mul_add, Nat.mul_comm (4294967296 ^ xs.length) 4294967296, Nat.mul_assoc]
    omega
theorem val_snoc (xs : List Nat) (x : Nat) : val (xs ++ [x]) = val xs + 4294967296 ^ xs.length * x := by
  rw [val_append, val_cons, val_nil, Nat.mul_zero, Nat.add_zero]
theorem pow_pos' (k : Nat) : 0 < 4294967296 ^ k := Nat.pow_pos (by decide)
theorem val_lt {xs : List Nat} (h : Ok xs) : val xs < 4294967296 ^ xs.length := by
  induction xs with
  | nil => simp [val]
  | cons x xs ih =>
    have h1 := ih h.tail
    have h2 := h.head
    rw [val_cons, List.length_cons, Nat.pow_succ]
    omega
theorem take_snoc (xs : List Nat) (k : Nat) (h : k < xs.length) : xs.take (k + 1) = xs.take k ++ [lim xs k] := by
  rw [List.take_succ_eq_append_getElem h, lim_eq, List.getElem?_eq_getElem h]; rfl
theorem val_take_succ (xs : List Nat) (k : Nat) : val (xs.take (k + 1)) = val (xs.take k) + 4294967296 ^ k * lim xs k := by
  rcases Nat.lt_or_ge k xs.length with h | h
  · rw [take_snoc xs k h, val_snoc, List.length_take, Nat.min_eq_left (by omega)]
  · rw [List.take_of_length_le (by omega), List.take_of_length_le (by omega), lim_eq, List.getElem?_eq_none h]
    simp
theorem val_take_drop (xs : List Nat) (k : Nat) (h : k ≤ xs.length) : val xs = val (xs.take k) + 4294967296 ^ k * val (xs.drop k) := by
  have := val_append (xs.take k) (xs.drop k)
  rw [List.take_append_drop, List.length_take, Nat.min_eq_left h] at this
  exact this
theorem val_drop (xs : List Nat) (k : Nat) (h : k < xs.length) : val (xs.drop k) = lim xs k + 4294967296 * val (xs.drop (k + 1)) := by
  rw [List.drop_eq_getElem_cons h, val_cons, lim_eq, List.getElem?_eq_getElem h]; rfl

/-- The list without noughts at its end. -/
def trimL : List Nat → List Nat
  | [] => []
  | x :: xs => if x = 0 ∧ trimL xs = [] then [] else x :: trimL xs

theorem trimL_val (xs : List Nat) : val (trimL xs) = val xs := by
  induction xs with
  | nil => rfl
  | cons x xs ih =>
    unfold trimL
    split
    · rename_i h
      rw [h.2] at ih
      rw [val_cons, ← ih, h.1]
      rfl
    · rw [val_cons, val_cons, ih]
theorem trimL_take (xs : List Nat) : trimL xs = xs.take (trimL xs).length := by
  induction xs with
  | nil => rfl
  | cons x xs ih =>
    unfold trimL
    split
    · simp
    · rw [List.length_cons, List.take_succ_cons, ← ih]
theorem trimL_len (xs : List Nat) : (trimL xs).length ≤ xs.length := by
  have := congrArg List.length (trimL_take xs)
  rw [List.length_take] at this
  omega
theorem trimL_ok {xs : List Nat} (h : Ok xs) : Ok (trimL xs) := by
  rw [trimL_take]; exact h.take _
theorem trimL_snoc_zero (xs : List Nat) : trimL (xs ++ [0]) = trimL xs := by
  induction xs with
  | nil => simp [trimL]
  | cons x xs ih => rw [List.cons_append, trimL, trimL, ih]
theorem trimL_snoc (xs : List Nat) (x : Nat) (h : x ≠ 0) : trimL (xs ++ [x]) = xs ++ [x] := by
  induction xs with
  | nil => simp [trimL, h]
  | cons y ys ih => rw [List.cons_append, trimL, ih]; simp
theorem trimL_idem (xs : List Nat) : trimL (trimL xs) = trimL xs := by
  induction xs with
  | nil => rfl
  | cons x xs ih =>
    by_cases h : x = 0 ∧ trimL xs = []
    · have : trimL (x :: xs) = [] := by rw [trimL, if_pos h]
      rw [this]; rfl
    · have e : trimL (x :: xs) = x :: trimL xs := by rw [trimL, if_neg h]
      rw [e, trimL, ih, if_neg h]

/-- Two lists without noughts at their ends, of limbs below the base, with one number are one. -/
theorem val_inj {xs ys : List Nat} (hx : Ok xs) (hy : Ok ys) (tx : trimL xs = xs) (ty : trimL ys = ys) (h : val xs = val ys) : xs = ys := by
  induction xs generalizing ys with
  | nil =>
    cases ys with
    | nil => rfl
    | cons y ys =>
      exfalso
      rw [val_cons, val_nil] at h
      have h1 : y = 0 := by omega
      have h2 : val ys = 0 := by omega
      have : ∀ zs : List Nat, val zs = 0 → trimL zs = [] := by
        intro zs
        induction zs with
        | nil => intro _; rfl
        | cons z zs ih =>
          intro hz
          rw [val_cons] at hz
          rw [trimL, if_pos ⟨by omega, ih (by omega)⟩]
      rw [trimL, if_pos ⟨h1, this ys h2⟩] at ty
      cases ty
  | cons x xs ih =>
    cases ys with
    | nil =>
      exfalso
      rw [val_cons, val_nil] at h
      have h1 : x = 0 := by omega
      have h2 : val xs = 0 := by omega
      have : ∀ zs : List Nat, val zs = 0 → trimL zs = [] := by
        intro zs
        induction zs with
        | nil => intro _; rfl
        | cons z zs ih =>
          intro hz
          rw [val_cons] at hz
          rw [trimL, if_pos ⟨by omega, ih (by omega)⟩]
      rw [trimL, if_pos ⟨h1, this xs h2⟩] at tx
      cases tx
    | cons y ys =>
      have hx0 := hx.head
      have hy0 := hy.head
      rw [val_cons, val_cons] at h
      have e0 : x = y := by omega
      have e1 : val xs = val ys := by omega
      have txs : trimL xs = xs := by
        rw [trimL] at tx
        split at tx
        · cases tx
        · injection tx
      have tys : trimL ys = ys := by
        rw [trimL] at ty
        split at ty
        · cases ty
        · injection ty
      rw [e0, ih hx.tail hy.tail txs tys e1]

/-- The limbs of a number, with so many at most. -/
def limbsF : Nat → Nat → List Nat
  | 0, _ => []
  | f + 1, n => n % 4294967296 :: limbsF f (n / 4294967296)

/-- The limbs of a number, without noughts at their end. -/
def limbs (n : Nat) : List Nat := trimL (limbsF n n)

theorem limbsF_ok (f n : Nat) : Ok (limbsF f n) := by
  induction f generalizing n with
  | zero => exact Ok.nil
  | succ f ih => exact Ok.cons (Nat.mod_lt _ (by decide)) (ih _)
theorem limbsF_val (f n : Nat) (h : n ≤ f) : val (limbsF f n) = n := by
  induction f generalizing n with
  | zero => rw [limbsF, val_nil]; omega
  | succ f ih =>
    rw [limbsF, val_cons, ih _ (by omega)]
    omega
theorem limbs_ok (n : Nat) : Ok (limbs n) := trimL_ok (limbsF_ok n n)
theorem limbs_val (n : Nat) : val (limbs n) = n := by rw [limbs, trimL_val, limbsF_val n n (Nat.le_refl _)]
theorem limbs_trim (n : Nat) : trimL (limbs n) = limbs n := trimL_idem _
/-- The limbs of the number of a list are the list without noughts at its end. -/
theorem trimL_limbs {xs : List Nat} (h : Ok xs) : trimL xs = limbs (val xs) :=
  val_inj (trimL_ok h) (limbs_ok _) (trimL_idem _) (limbs_trim _) (by rw [trimL_val, limbs_val])
theorem limbs_nil_iff (n : Nat) : limbs n = [] ↔ n = 0 := by
  constructor
  · intro h; rw [← limbs_val n, h]; rfl
  · rintro rfl; rfl
theorem limbs_len_le {n k : Nat} (h : n < 4294967296 ^ k) : (limbs n).length ≤ k := by
  rcases Nat.lt_or_ge k (limbs n).length with hk | hk
  · exfalso
    have hl := limbs_val n
    have ht := limbs_trim n
    obtain ⟨m, hm⟩ : ∃ m, (limbs n).length = m + 1 := ⟨(limbs n).length - 1, by omega⟩
    have e : limbs n = (limbs n).take m ++ [lim (limbs n) m] := by
      rw [← take_snoc _ _ (by omega), ← hm, List.take_length]
    have hne : lim (limbs n) m ≠ 0 := by
      intro h0
      rw [h0] at e
      rw [e, trimL_snoc_zero] at ht
      have := trimL_len ((limbs n).take m)
      rw [ht] at this
      simp [hm] at this
      omega
    have hv : n = val ((limbs n).take m) + 4294967296 ^ m * lim (limbs n) m := by
      have := val_snoc ((limbs n).take m) (lim (limbs n) m)
      rw [← e, List.length_take, Nat.min_eq_left (by omega), hl] at this
      exact this
    have h1 : 4294967296 ^ m ≤ 4294967296 ^ m * lim (limbs n) m := Nat.le_mul_of_pos_right _ (by omega)
    have h2 : 4294967296 ^ k ≤ 4294967296 ^ m := Nat.pow_le_pow_right (by decide) (by omega)
    omega
  · exact hk
theorem limbs_len_val {xs : List Nat} (h : Ok xs) : (limbs (val xs)).length ≤ xs.length := limbs_len_le (val_lt h)

/-- How two numbers stand: -1, 0 or 1. -/
def cmpN (a b : Nat) : Int := if a < b then -1 else if b < a then 1 else 0
theorem cmpN_lt {a b : Nat} (h : a < b) : cmpN a b = -1 := by unfold cmpN; rw [if_pos h]
theorem cmpN_gt {a b : Nat} (h : b < a) : cmpN a b = 1 := by unfold cmpN; rw [if_neg (by omega), if_pos h]
theorem cmpN_eq (a : Nat) : cmpN a a = 0 := by unfold cmpN; rw [if_neg (by omega), if_neg (by omega)]
theorem cmpN_add (a b c : Nat) : cmpN (a + c) (b + c) = cmpN a b := by
  rcases Nat.lt_trichotomy a b with h | h | h
  · rw [cmpN_lt h, cmpN_lt (by omega)]
  · rw [h, cmpN_eq, cmpN_eq]
  · rw [cmpN_gt h, cmpN_gt (by omega)]
theorem val_take_lt {xs : List Nat} (h : Ok xs) (k : Nat) : val (xs.take k) < 4294967296 ^ k := by
  have h1 := val_lt (h.take k)
  have h2 : 4294967296 ^ (xs.take k).length ≤ 4294967296 ^ k := Nat.pow_le_pow_right (by decide) (by rw [List.length_take]; omega)
  omega
theorem top_lt {a p x y : Nat} (ha : a < p) (h : x < y) (b : Nat) : a + p * x < b + p * y := by
  have : p * (x + 1) ≤ p * y := Nat.mul_le_mul_left _ h
  rw [Nat.mul_add, Nat.mul_one] at this
  omega
theorem cmp_down_eq {xs ys : List Nat} {k : Nat} (h : lim xs k = lim ys k) : cmpN (val (xs.take (k + 1))) (val (ys.take (k + 1))) = cmpN (val (xs.take k)) (val (ys.take k)) := by
  rw [val_take_succ, val_take_succ, h, cmpN_add]
theorem cmp_down_lt {xs ys : List Nat} (ox : Ok xs) {k : Nat} (h : lim xs k < lim ys k) : cmpN (val (xs.take (k + 1))) (val (ys.take (k + 1))) = -1 := by
  rw [val_take_succ, val_take_succ]; exact cmpN_lt (top_lt (val_take_lt ox k) h _)
theorem cmp_down_gt {xs ys : List Nat} (oy : Ok ys) {k : Nat} (h : lim ys k < lim xs k) : cmpN (val (xs.take (k + 1))) (val (ys.take (k + 1))) = 1 := by
  rw [val_take_succ, val_take_succ]; exact cmpN_gt (top_lt (val_take_lt oy k) h _)

theorem lim_ge (xs : List Nat) (t : Nat) (h : xs.length ≤ t) : lim xs t = 0 := by
  rw [lim_eq, List.getElem?_eq_none h]; rfl
theorem lim_cons_succ (x : Nat) (xs : List Nat) (t : Nat) : lim (x :: xs) (t + 1) = lim xs t := by rw [lim_eq, lim_eq, List.getElem?_cons_succ]
theorem lim_cons_zero (x : Nat) (xs : List Nat) : lim (x :: xs) 0 = x := rfl
/-- A limb put in another's place. -/
theorem val_set (xs : List Nat) (t y : Nat) (h : t < xs.length) : val (xs.set t y) + 4294967296 ^ t * lim xs t = val xs + 4294967296 ^ t * y := by
  induction xs generalizing t with
  | nil => simp at h
  | cons x xs ih =>
    cases t with
    | zero => rw [List.set_cons_zero, val_cons, val_cons, lim_cons_zero, Nat.pow_zero]; omega
    | succ t =>
      rw [List.set_cons_succ, val_cons, val_cons, lim_cons_succ, Nat.pow_succ, Nat.mul_comm (4294967296 ^ t) 4294967296, Nat.mul_assoc, Nat.mul_assoc]
      have := ih t (by simpa using h)
      omega
theorem Ok.set {xs : List Nat} (h : Ok xs) (t y : Nat) (hy : y < 4294967296) : Ok (xs.set t y) := by
  intro z hz
  rcases List.mem_or_eq_of_mem_set hz with hz | rfl
  · exact h z hz
  · exact hy
end
end Go.Proofs.YthdhdmmlmbkalaaGreatDoor
namespace Go.Proofs.YthdhdmmlmbkalaaGreatDoor
section
open Go.RowKit

/-- The cells of limbs. -/
def cellsOf (xs : List Nat) : List Value := xs.map fun x : Nat => Value.int .u32 (x : Int)
theorem cellsOf_length (xs : List Nat) : (cellsOf xs).length = xs.length := by simp [cellsOf]
theorem cellsOf_append (xs ys : List Nat) : cellsOf (xs ++ ys) = cellsOf xs ++ cellsOf ys := by simp [cellsOf]
theorem cellsOf_getElem? (xs : List Nat) (i : Nat) (h : i < xs.length) : (cellsOf xs)[i]? = some (.int .u32 ((lim xs i : Nat) : Int)) := by
  simp [cellsOf, List.getElem?_eq_getElem h, lim_eq]
theorem cellsOf_one (xs : List Nat) : ∀ u ∈ cellsOf xs, u.oneCell' = true := by
  intro u hu
  obtain ⟨_, _, rfl⟩ := List.mem_map.1 hu
  rfl

/-- A slice's value leads to the limbs xs in w. -/
structure Sl (w : World) (A : Option Addr) (n cap : Nat) (xs : List Nat) : Prop where
  len : n = xs.length
  le : n ≤ cap
  max : cap ≤ maxLen
  ok : Ok xs
  here : 0 < n → ∃ b off, A = some ⟨b, off, none⟩ ∧ b < w.heap.size ∧ ∀ i, i < n → w.cell? ⟨b, off + i, none⟩ = some (.int .u32 ((lim xs i : Nat) : Int))
  nil_ : A = none → cap = 0

theorem Sl.nil {w : World} : Sl w none 0 0 [] := ⟨rfl, Nat.zero_le _, by unfold maxLen; omega, Ok.nil, fun h => absurd h (by omega), fun _ => rfl⟩
/-- What is kept below the heap's old end keeps it. -/
theorem Sl.keep {w w' : World} {A : Option Addr} {n cap : Nat} {xs : List Nat} (h : Sl w A n cap xs) (hs : w.heap.size ≤ w'.heap.size) (hk : ∀ k, k < w.heap.size → w'.heap[k]? = w.heap[k]?) : Sl w' A n cap xs :=
  ⟨h.len, h.le, h.max, h.ok, fun hn => by
    obtain ⟨b, off, e, hb, hc⟩ := h.here hn
    exact ⟨b, off, e, by omega, fun i hi => (World.cell?_of_block (w := w) (a := ⟨b, off + i, none⟩) (hk b hb)).trans (hc i hi)⟩, h.nil_⟩
theorem Sl.below {w w' : World} {A : Option Addr} {n cap : Nat} {xs : List Nat} (h : Sl w A n cap xs) (hb : Below w.heap.size w w') : Sl w' A n cap xs := h.keep hb.size hb.block
theorem Sl.drew {w : World} {A : Option Addr} {n cap : Nat} {xs : List Nat} (h : Sl w A n cap xs) : Sl w.drew A n cap xs := h.keep (Nat.le_refl _) fun _ _ => rfl
theorem Sl.alloc {w : World} {A : Option Addr} {n cap : Nat} {xs : List Nat} (h : Sl w A n cap xs) (o : Obj) : Sl (w.alloc o) A n cap xs :=
  h.below ((Below.refl _ _).alloc (Nat.le_refl _) o)

theorem cell_add (w : World) (b off j : Nat) : w.cell? ((⟨b, off, none⟩ : Addr).add j) = w.cell? ⟨b, off + j, none⟩ := by
  unfold Addr.add
  by_cases h : j = 0
  · simp [h]
  · simp [h]
/-- The cells as copy and append ask for them. -/
theorem Sl.src {w : World} {A : Option Addr} {n cap : Nat} {xs : List Nat} (h : Sl w A n cap xs) (hn : 0 < n) : ∃ ad, A = some ad ∧ ∀ j v, (cellsOf xs)[j]? = some v → w.cell? (ad.add j) = some v := by
  obtain ⟨b, off, e, _, hc⟩ := h.here hn
  refine ⟨_, e, fun j v hv => ?_⟩
  have hj : j < xs.length := by
    have := (List.getElem?_eq_some_iff.1 hv).1
    rwa [cellsOf_length] at this
  rw [cellsOf_getElem? xs j hj] at hv
  rw [cell_add, hc j (by have := h.len; omega)]
  exact hv
/-- The slice's head, of k limbs. -/
theorem Sl.take {w : World} {A : Option Addr} {n cap : Nat} {xs : List Nat} (h : Sl w A n cap xs) (k : Nat) (hk : k ≤ n) : Sl w A k cap (xs.take k) :=
  ⟨by rw [List.length_take]; have := h.len; omega, by have := h.le; omega, h.max, h.ok.take k, fun hp => by
    obtain ⟨b, off, e, hb, hc⟩ := h.here (by omega)
    exact ⟨b, off, e, hb, fun i hi => by rw [hc i (by omega), lim_eq, lim_eq, List.getElem?_take_of_lt hi]⟩, h.nil_⟩
/-- What trim tells of it. -/
theorem Sl.trim {w : World} {A : Option Addr} {n cap : Nat} {xs : List Nat} (h : Sl w A n cap xs) : Sl w A (limbs (val xs)).length cap (limbs (val xs)) := by
  have e : limbs (val xs) = xs.take (limbs (val xs)).length := by rw [← trimL_limbs h.ok]; exact trimL_take xs
  have := h.take (limbs (val xs)).length (by have := limbs_len_val h.ok; have := h.len; omega)
  rwa [← e] at this

/-- A slice's value is the call's own (its block from 'base' on, or none), and holds the limbs xs. -/
def New (w : World) (base : Nat) (v : Value) (xs : List Nat) : Prop :=
  ∃ A n cap, v = .slice A n cap ∧ Sl w A n cap xs ∧ (A = none ∧ cap = 0 ∨ ∃ g cur, A = some ⟨g, 0, none⟩ ∧ base ≤ g ∧ w.heap[g]? = some (.cells cur 149 (0, 0)) ∧ cur.size = cap)

theorem New.nil (w : World) (base : Nat) : New w base (.slice none 0 0) (limbs 0) := ⟨none, 0, 0, rfl, Sl.nil, .inl ⟨rfl, rfl⟩⟩
theorem New.below {w w' : World} {base B : Nat} {v : Value} {xs : List Nat} (h : New w base v xs) (hb : Below B w w') (hB : w.heap.size ≤ B) : New w' base v xs := by
  obtain ⟨A, n, cap, rfl, hs, hc⟩ := h
  refine ⟨A, n, cap, rfl, hs.below (hb.mono hB), ?_⟩
  rcases hc with h0 | ⟨g, cur, e, hg, hh, hz⟩
  · exact .inl h0
  · refine .inr ⟨g, cur, e, hg, ?_, hz⟩
    have hlt : g < w.heap.size := by
      rcases Nat.lt_or_ge g w.heap.size with hlt | hge
      · exact hlt
      · rw [Array.getElem?_eq_none hge] at hh; cases hh
    exact (hb.block g (by omega)).trans hh
theorem New.from_ {w : World} {base base' : Nat} {v : Value} {xs : List Nat} (h : New w base v xs) (hb : base' ≤ base) : New w base' v xs := by
  obtain ⟨A, n, cap, rfl, hs, hc⟩ := h
  refine ⟨A, n, cap, rfl, hs, ?_⟩
  rcases hc with h0 | ⟨g, cur, e, hg, r⟩
  · exact .inl h0
  · exact .inr ⟨g, cur, e, by omega, r⟩
/-- One call behind the other. -/
theorem bnext {w w1 w2 : World} (h : Below w.heap.size w w1) (k : Below w1.heap.size w1 w2) : Below w.heap.size w w2 := h.trans (k.mono h.size)
theorem bnew {w w1 : World} (h : Below w.heap.size w w1) (o : Obj) : Below w.heap.size w (w1.alloc o) := h.alloc h.size o
/-- Block g holds just the limbs xs; none of its cells is frozen. -/
def Blk (w : World) (g : Nat) (xs : List Nat) : Prop := w.heap[g]? = some (.cells (cellsOf xs).toArray 149 (0, 0))

section
variable {w w' : World} {g : Nat} {xs : List Nat}
theorem Blk.lt (h : Blk w g xs) : g < w.heap.size := by
  rcases Nat.lt_or_ge g w.heap.size with hlt | hge
  · exact hlt
  · unfold Blk at h; rw [Array.getElem?_eq_none hge] at h; cases h
theorem Blk.cell (h : Blk w g xs) (i : Nat) (hi : i < xs.length) : w.cell? ⟨g, i, none⟩ = some (.int .u32 ((lim xs i : Nat) : Int)) := by
  rw [cell_of_row w g i _ _ (0, 0) h, List.getElem?_toArray, cellsOf_getElem? xs i hi]
theorem Blk.frozen (h : Blk w g xs) (i : Nat) : w.frozen? ⟨g, i, none⟩ = false := by
  unfold Blk at h
  simp [World.frozen?, h]
theorem Blk.drew (h : Blk w g xs) : Blk w.drew g xs := h
theorem Blk.alloc (h : Blk w g xs) (o : Obj) : Blk (w.alloc o) g xs := (Below.heap_alloc w o g h.lt).trans h
theorem Blk.set_ (h : Blk w g xs) (i x : Nat) : Blk (w.setCell ⟨g, i, none⟩ (.int .u32 (x : Int))) g (xs.set i x) := by
  unfold Blk at h ⊢
  simp [World.setCell, Array.getElem?_modify, h, cellsOf, List.map_set]
theorem Blk.far (h : Blk w g xs) {p : Addr} (hp : g ≠ p.block) (u : Value) : Blk (w.setCell p u) g xs := (Below.heap_setCell w p u g hp).trans h
theorem Blk.below {B : Nat} (h : Blk w g xs) (hb : Below B w w') (hg : g < B) : Blk w' g xs := (hb.block g hg).trans h
theorem cellsOf_replicate (n : Nat) : (madeCells #[Value.int .u32 0] n) = (cellsOf (List.replicate n 0)).toArray := by
  apply Array.toList_inj.1
  rw [toList_madeCells_one]
  simp [cellsOf]
theorem Blk.made (w : World) (n : Nat) : Blk (w.alloc (.cells (madeCells #[Value.int .u32 0] n) 149)) w.heap.size (List.replicate n 0) := by
  rw [cellsOf_replicate]; exact heap_alloc_new w _
/-- The block's head, as a slice. -/
theorem Blk.sl (h : Blk w g xs) (ok : Ok xs) (hm : xs.length ≤ maxLen) (n : Nat) (hn : n ≤ xs.length) : Sl w (some ⟨g, 0, none⟩) n xs.length (xs.take n) :=
  ⟨by rw [List.length_take]; omega, hn, hm, ok.take n, fun _ => ⟨g, 0, rfl, h.lt, fun i hi => by
    rw [Nat.zero_add, h.cell i (by omega), lim_eq, lim_eq, List.getElem?_take_of_lt hi]⟩, fun e => by cases e⟩
/-- What trim tells of a block of the call's own is new. -/
theorem Blk.new {base : Nat} (h : Blk w g xs) (ok : Ok xs) (hm : xs.length ≤ maxLen) (hg : base ≤ g) :
    New w base (.slice (some ⟨g, 0, none⟩) (limbs (val xs)).length xs.length) (limbs (val xs)) := by
  have e : limbs (val xs) = xs.take (limbs (val xs)).length := by rw [← trimL_limbs ok]; exact trimL_take xs
  have hs := h.sl ok hm (limbs (val xs)).length (limbs_len_val ok)
  rw [← e] at hs
  exact ⟨_, _, _, rfl, hs, .inr ⟨g, _, rfl, hg, h, by simp [cellsOf]⟩⟩
end
/-- Block g, of n limbs, is filled with S from its head; noughts stand behind. -/
structure Part (w : World) (g n : Nat) (S : List Nat) : Prop where
  le : S.length ≤ n
  ok : Ok S
  blk : Blk w g (S ++ List.replicate (n - S.length) 0)

theorem lim_append_right (S T : List Nat) (k : Nat) (h : S.length = k) : lim (S ++ T) k = lim T 0 := by
  subst h; rw [lim_eq, lim_eq, List.getElem?_append_right (Nat.le_refl _), Nat.sub_self]
section
variable {w w' : World} {g n : Nat} {S : List Nat}
theorem Part.made (w : World) (n : Nat) : Part (w.alloc (.cells (madeCells #[Value.int .u32 0] n) 149)) w.heap.size n [] :=
  ⟨by simp, Ok.nil, by simpa using Blk.made w n⟩
theorem Part.frozen (h : Part w g n S) (k : Nat) : w.frozen? ⟨g, k, none⟩ = false := h.blk.frozen k
theorem Part.cell (h : Part w g n S) {k : Nat} (hk : S.length = k) (hn : k < n) : w.cell? ⟨g, k, none⟩ = some (.int .u32 ((0 : Nat) : Int)) := by
  rw [h.blk.cell k (by simp; omega), lim_append_right S _ k hk]
  obtain ⟨j, hj⟩ : ∃ j, n - S.length = j + 1 := ⟨n - S.length - 1, by omega⟩
  rw [hj]; rfl
theorem Part.all (h : Part w g n S) (hn : S.length = n) : Blk w g S := by
  have := h.blk
  rw [hn, Nat.sub_self] at this
  simpa using this
theorem Part.drew (h : Part w g n S) : Part w.drew g n S := ⟨h.le, h.ok, h.blk.drew⟩
theorem Part.below {B : Nat} (h : Part w g n S) (hb : Below B w w') (hg : g < B) : Part w' g n S := ⟨h.le, h.ok, h.blk.below hb hg⟩
end
/-- Block g alone may have changed. -/
structure Only (g : Nat) (w w' : World) : Prop where
  os : w'.os = w.os
  tape : w'.tape = w.tape
  output : w'.output = w.output
  size : w'.heap.size = w.heap.size
  block : ∀ k, k ≠ g → w'.heap[k]? = w.heap[k]?
theorem Only.refl (g : Nat) (w : World) : Only g w w := ⟨rfl, rfl, rfl, rfl, fun _ _ => rfl⟩
theorem Only.trans {g : Nat} {a b c : World} (h : Only g a b) (k : Only g b c) : Only g a c :=
  ⟨k.os.trans h.os, k.tape.trans h.tape, k.output.trans h.output, k.size.trans h.size, fun i hi => (k.block i hi).trans (h.block i hi)⟩
theorem Only.setCell (g i : Nat) (w : World) (u : Value) : Only g w (w.setCell ⟨g, i, none⟩ u) :=
  ⟨rfl, rfl, rfl, by simp [World.setCell], fun k hk => Below.heap_setCell w ⟨g, i, none⟩ u k hk⟩
theorem Only.setRow (g : Nat) (w : World) (cs : Array Value) : Only g w (w.setRow g cs) :=
  ⟨rfl, rfl, rfl, by simp [World.setRow], fun k hk => setRow_other w g k cs hk⟩
theorem Only.below {g B : Nat} {w w' : World} (h : Only g w w') (hB : B ≤ g) : Below B w w' :=
  ⟨h.os, h.tape, h.output, by rw [h.size]; exact Nat.le_refl _, fun k hk => h.block k (by omega)⟩
theorem Blk.only {g b : Nat} {w w' : World} {xs : List Nat} (h : Blk w b xs) (ho : Only g w w') (hb : b ≠ g) : Blk w' b xs := (ho.block b hb).trans h
theorem Part.only {g b n : Nat} {w w' : World} {xs : List Nat} (h : Part w b n xs) (ho : Only g w w') (hb : b ≠ g) : Part w' b n xs := ⟨h.le, h.ok, h.blk.only ho hb⟩

/-- A row of limbs that the call itself made, appended to at will. -/
def Own (w : World) (base : Nat) (v : Value) (xs : List Nat) : Prop := Ok xs ∧ w.ownsRow base 149 1 v xs.length (cellsOf xs)
theorem Own.new {w : World} {base : Nat} {v : Value} {xs : List Nat} (h : Own w base v xs) : New w base v xs := by
  obtain ⟨ok, hl, h⟩ := h
  rcases h with ⟨rfl, h0⟩ | ⟨g, cap, cur, rfl, hg, hh, hn, hc, hs, ht⟩
  · obtain rfl : xs = [] := List.eq_nil_of_length_eq_zero h0
    exact New.nil w base
  · refine ⟨_, _, _, rfl, ⟨rfl, hn, hc, ok, fun _ => ⟨g, 0, rfl, ?_, fun i hi => ?_⟩, fun e => by cases e⟩, .inr ⟨g, cur, rfl, hg, hh, by omega⟩⟩
    · rcases Nat.lt_or_ge g w.heap.size with hlt | hge
      · exact hlt
      · rw [Array.getElem?_eq_none hge] at hh; cases hh
    · rw [Nat.zero_add, cell_of_row w g i cur _ (0, 0) hh, ← cellsOf_getElem? xs i hi, ← ht, List.getElem?_take_of_lt (by omega), Array.getElem?_toList]
theorem Own.nil (w : World) (base : Nat) : Own w base (.slice none 0 0) [] := ⟨Ok.nil, World.ownsRow_nil _ _ _ _⟩
theorem Own.ext {w w' : World} {base : Nat} {v : Value} {xs : List Nat} {row : Option Nat} (h : Own w base v xs) (hg : w.grownBy w' row) (hne : v.ownBlock = none ∨ v.ownBlock ≠ row) : Own w' base v xs := ⟨h.1, h.2.kept hg hne⟩

/-- append(v, src...): v a row of the call's own, src any slice of limbs. -/
theorem wpList_append_limbs {P : Program} {w : World} {ops : Array Oper} {rest : List Oper} {o : Oper} {a : Act} {Q : Exit → Act → World → Prop} (hgd : o.guard = none) (s x : Operand)
    (ho : o.op = .call { callee := .builtin .append, args := #[s, x], argTypes := #[22, 22] }) (i : TypeInfo) (ht : P.underlying 22 = some (.slice 149)) (hi : P.info? 149 = some i)
    (hz : i.zero = some (.int .u32 0)) (hsize : i.size = 1) (hby : i.bytes = 4)
    (base : Nat) (v : Value) (xs : List Nat) (hs : a.eval s = v) (hown : Own w base v xs) (A : Option Addr) (n c : Nat) (ys : List Nat) (hx : a.eval x = .slice A n c) (hsl : Sl w A n c ys)
    (hlen : xs.length + n ≤ 35184372087808) (hbase : base ≤ w.heap.size)
    (h : ∀ v' w', Own w' base v' (xs ++ ys) → w.grownBy w' v.ownBlock → wpList P ops Q rest (a.put o.dst v') w') : wpList P ops Q (o :: rest) a w := by
  have hl := hsl.len
  have key : ∀ (v' : Value) (w' : World), w'.ownsRow base 149 1 v' (xs.length + n) (cellsOf xs ++ cellsOf ys) → w.grownBy w' v.ownBlock → wpList P ops Q rest (a.put o.dst v') w' := by
    intro v' w' ho' hg'
    refine h v' w' ⟨hown.1.append hsl.ok, ?_⟩ hg'
    rw [cellsOf_append, List.length_append, ← hl]
    exact ho'
  cases A with
  | none =>
    have hc0 := hsl.nil_ rfl
    subst hc0
    have hn0 : n = 0 := by have := hsl.le; omega
    subst hn0
    have hy : ys = [] := List.eq_nil_of_length_eq_zero hl.symm
    subst hy
    refine wpList_append_own_none hgd s x _ ho base _ i 1 ht hi v xs.length (cellsOf xs) hs hown.2 hx ?_
    exact key v w (by simpa [cellsOf] using hown.2) (World.grownBy.refl _ _)
  | some ad =>
    refine wpList_append_own w hgd s x _ ho base _ i _ 1 4 ht hi hz hsize hby rfl (by decide) v xs.length (cellsOf xs) hs hown.2 ad n c (cellsOf ys) hx (by rw [cellsOf_length]; omega) ?_ (cellsOf_one _) (by unfold maxLen; omega) (by omega) hbase (fun v' w' h1 h2 _ => key v' w' h1 h2)
    intro j u hj
    have hjl : j < ys.length := by
      have := (List.getElem?_eq_some_iff.1 hj).1
      rwa [cellsOf_length] at this
    obtain ⟨ad', e, hsrc⟩ := hsl.src (by omega)
    injection e with e
    subst e
    exact hsrc j u hj
end
end Go.Proofs.YthdhdmmlmbkalaaGreatDoor
namespace Go.Proofs.YthdhdmmlmbkalaaGreatDoor
section
open Go.RowKit

/-- A datum: its kind, its number (sign, limbs and where they lie), its truth, its text, its items and its tail and where these lie. -/
inductive LT where
  | mk (k : Int) (g : Bool) (la : Option Addr) (ln lc : Nat) (ys : List Nat) (bb : Bool) (s : ByteArray) (ia : Option Addr) (ic : Nat) (items : List LT) (ta : Option Addr) (tc : Nat) (tail : List LT) : LT

def LT.k : LT → Int | .mk k _ _ _ _ _ _ _ _ _ _ _ _ _ => k
def LT.g : LT → Bool | .mk _ g _ _ _ _ _ _ _ _ _ _ _ _ => g
def LT.la : LT → Option Addr | .mk _ _ la _ _ _ _ _ _ _ _ _ _ _ => la
def LT.ln : LT → Nat | .mk _ _ _ ln _ _ _ _ _ _ _ _ _ _ => ln
def LT.lc : LT → Nat | .mk _ _ _ _ lc _ _ _ _ _ _ _ _ _ => lc
def LT.ys : LT → List Nat | .mk _ _ _ _ _ ys _ _ _ _ _ _ _ _ => ys
def LT.bb : LT → Bool | .mk _ _ _ _ _ _ bb _ _ _ _ _ _ _ => bb
def LT.s : LT → ByteArray | .mk _ _ _ _ _ _ _ s _ _ _ _ _ _ => s
def LT.ia : LT → Option Addr | .mk _ _ _ _ _ _ _ _ ia _ _ _ _ _ => ia
def LT.ic : LT → Nat | .mk _ _ _ _ _ _ _ _ _ ic _ _ _ _ => ic
def LT.items : LT → List LT | .mk _ _ _ _ _ _ _ _ _ _ items _ _ _ => items
def LT.ta : LT → Option Addr | .mk _ _ _ _ _ _ _ _ _ _ _ ta _ _ => ta
def LT.tc : LT → Nat | .mk _ _ _ _ _ _ _ _ _ _ _ _ tc _ => tc
def LT.tail : LT → List LT | .mk _ _ _ _ _ _ _ _ _ _ _ _ _ tail => tail

def blk : Option Addr → Nat | some a => a.block | none => 0
def ofs : Option Addr → Nat | some a => a.off | none => 0

/-- Its seven cells. -/
def LT.cells (t : LT) : List Value := [.int .i64 t.k, .bool t.g, .slice t.la t.ln t.lc, .bool t.bb, .string t.s, .slice t.ia t.items.length t.ic, .slice t.ta t.tail.length t.tc]

mutual
def LT.size : LT → Nat
  | .mk _ _ _ _ _ _ _ _ _ _ items _ _ tail => 1 + (sizes items + sizes tail)
def sizes : List LT → Nat
  | [] => 0
  | t :: l => t.size + sizes l
end
mutual
def LT.depth : LT → Nat
  | .mk _ _ _ _ _ _ _ _ _ _ items _ _ tail => 1 + max (depths items) (depths tail)
def depths : List LT → Nat
  | [] => 0
  | t :: l => max t.depth (depths l)
end
theorem LT.size_eq (t : LT) : t.size = 1 + (sizes t.items + sizes t.tail) := by cases t; simp [LT.size, LT.items, LT.tail]
theorem LT.depth_eq (t : LT) : t.depth = 1 + max (depths t.items) (depths t.tail) := by cases t; simp [LT.depth, LT.items, LT.tail]

/-- A slice's own: nil has no room; one that holds something lies somewhere below M. -/
def Spot (M : Nat) (a : Option Addr) (n c : Nat) : Prop := n ≤ c ∧ c ≤ maxLen ∧ (0 < n → a = some ⟨blk a, ofs a, none⟩ ∧ blk a < M) ∧ (a = none → c = 0)

mutual
/-- The datum lies there, and all that is in it below M. -/
def Lies (w : World) (M : Nat) : LT → Nat → Nat → Prop
  | .mk k g la ln lc ys bb s ia ic items ta tc tail, b, o =>
    b < M ∧ (∀ j v, (LT.cells (.mk k g la ln lc ys bb s ia ic items ta tc tail))[j]? = some v → w.cell? ⟨b, o + j, none⟩ = some v) ∧
      (Sl w la ln lc ys ∧ (0 < ln → blk la < M) ∧ s.size ≤ maxLen) ∧ Spot M ia items.length ic ∧ Spot M ta tail.length tc ∧ LiesR w M items (blk ia) (ofs ia) ∧ LiesR w M tail (blk ta) (ofs ta)
def LiesR (w : World) (M : Nat) : List LT → Nat → Nat → Prop
  | [], _, _ => True
  | t :: l, b, o => Lies w M t b o ∧ LiesR w M l b (o + 7)
end
theorem lies_eq {w : World} {M : Nat} {t : LT} {b o : Nat} : Lies w M t b o ↔
    (b < M ∧ (∀ j v, t.cells[j]? = some v → w.cell? ⟨b, o + j, none⟩ = some v) ∧ (Sl w t.la t.ln t.lc t.ys ∧ (0 < t.ln → blk t.la < M) ∧ t.s.size ≤ maxLen) ∧ Spot M t.ia t.items.length t.ic ∧ Spot M t.ta t.tail.length t.tc ∧
      LiesR w M t.items (blk t.ia) (ofs t.ia) ∧ LiesR w M t.tail (blk t.ta) (ofs t.ta)) := by
  cases t; simp [Lies, LT.la, LT.ln, LT.lc, LT.ys, LT.s, LT.ia, LT.ic, LT.items, LT.ta, LT.tc, LT.tail]
@[simp] theorem liesR_nil {w : World} {M b o : Nat} : LiesR w M [] b o = True := by simp [LiesR]
@[simp] theorem liesR_cons {w : World} {M b o : Nat} {t : LT} {l : List LT} : LiesR w M (t :: l) b o = (Lies w M t b o ∧ LiesR w M l b (o + 7)) := by simp [LiesR]

theorem Sl.keepM {w w' : World} {M : Nat} {A : Option Addr} {n cap : Nat} {xs : List Nat} (h : Sl w A n cap xs) (hs : w.heap.size ≤ w'.heap.size) (hM : 0 < n → blk A < M) (hk : ∀ k, k < M → w'.heap[k]? = w.heap[k]?) : Sl w' A n cap xs := by
  refine ⟨h.len, h.le, h.max, h.ok, fun hp => ?_, h.nil_⟩
  obtain ⟨b, off, rfl, hb, hc⟩ := h.here hp
  have hbM := hM hp
  exact ⟨b, off, rfl, by omega, fun i hi => (World.cell?_of_block (hk b hbM)).trans (hc i hi)⟩

mutual
theorem Lies.keep {w w' : World} {M : Nat} (hs : w.heap.size ≤ w'.heap.size) (hk : ∀ k, k < M → w'.heap[k]? = w.heap[k]?) : ∀ (t : LT) (b o : Nat), Lies w M t b o → Lies w' M t b o
  | .mk k g la ln lc ys bb s ia ic items ta tc tail, b, o, h => by
    simp only [Lies] at h ⊢
    obtain ⟨h1, h2, h3, h4, h5, h6, h7⟩ := h
    exact ⟨h1, fun j v hj => (World.cell?_of_block (hk b h1)).trans (h2 j v hj), ⟨h3.1.keepM hs h3.2.1 hk, h3.2⟩, h4, h5, LiesR.keep hs hk items _ _ h6, LiesR.keep hs hk tail _ _ h7⟩
theorem LiesR.keep {w w' : World} {M : Nat} (hs : w.heap.size ≤ w'.heap.size) (hk : ∀ k, k < M → w'.heap[k]? = w.heap[k]?) : ∀ (l : List LT) (b o : Nat), LiesR w M l b o → LiesR w' M l b o
  | [], _, _, _ => by simp [LiesR]
  | t :: l, b, o, h => by
    simp only [LiesR] at h ⊢
    exact ⟨Lies.keep hs hk t b o h.1, LiesR.keep hs hk l b (o + 7) h.2⟩
end

/-- A datum that is told: how deep, where, and itself. -/
structure Node where
  lev : Nat
  b : Nat
  o : Nat
  t : LT

mutual
def seqT : LT → Nat → Nat → Nat → List Node
  | .mk k g la ln lc ys bb s ia ic items ta tc tail, v, b, o => ⟨v, b, o, .mk k g la ln lc ys bb s ia ic items ta tc tail⟩ :: (seqR items (v + 1) (blk ia) (ofs ia) ++ seqR tail (v + 1) (blk ta) (ofs ta))
def seqR : List LT → Nat → Nat → Nat → List Node
  | [], _, _, _ => []
  | t :: l, v, b, o => seqT t v b o ++ seqR l v b (o + 7)
end
theorem seqT_eq (t : LT) (v b o : Nat) : seqT t v b o = ⟨v, b, o, t⟩ :: (seqR t.items (v + 1) (blk t.ia) (ofs t.ia) ++ seqR t.tail (v + 1) (blk t.ta) (ofs t.ta)) := by cases t; simp [seqT, LT.items, LT.tail, LT.ia, LT.ta]
@[simp] theorem seqR_nil (v b o : Nat) : seqR [] v b o = [] := by simp [seqR]
@[simp] theorem seqR_cons (t : LT) (l : List LT) (v b o : Nat) : seqR (t :: l) v b o = seqT t v b o ++ seqR l v b (o + 7) := by simp [seqR]

def kids (x : Node) : Nat := x.t.items.length + x.t.tail.length
def sumK : List Node → Nat | [] => 0 | x :: l => kids x + sumK l
def maxL : List Node → Nat | [] => 0 | x :: l => max x.lev (maxL l)
theorem sumK_append (l m : List Node) : sumK (l ++ m) = sumK l + sumK m := by induction l with | nil => simp [sumK] | cons x l ih => simp [sumK, ih]; omega
theorem maxL_append (l m : List Node) : maxL (l ++ m) = max (maxL l) (maxL m) := by induction l with | nil => simp [maxL] | cons x l ih => simp [maxL, ih, Nat.max_assoc]

mutual
theorem seqT_sum : ∀ (t : LT) (v b o : Nat), 1 + sumK (seqT t v b o) = t.size
  | .mk k g la ln lc ys bb s ia ic items ta tc tail, v, b, o => by
    have h1 := seqR_sum items (v + 1) (blk ia) (ofs ia)
    have h2 := seqR_sum tail (v + 1) (blk ta) (ofs ta)
    simp only [seqT, sumK, sumK_append, LT.size, kids, LT.items, LT.tail]
    omega
theorem seqR_sum : ∀ (l : List LT) (v b o : Nat), sumK (seqR l v b o) + l.length = sizes l
  | [], _, _, _ => by simp [seqR, sumK, sizes]
  | t :: l, v, b, o => by
    have h1 := seqT_sum t v b o
    have h2 := seqR_sum l v b (o + 7)
    simp only [seqR, sumK_append, sizes, List.length_cons]
    omega
end
mutual
theorem seqT_length : ∀ (t : LT) (v b o : Nat), (seqT t v b o).length = t.size
  | .mk k g la ln lc ys bb s ia ic items ta tc tail, v, b, o => by
    have h1 := seqR_length items (v + 1) (blk ia) (ofs ia)
    have h2 := seqR_length tail (v + 1) (blk ta) (ofs ta)
    simp only [seqT, List.length_cons, List.length_append, LT.size]
    omega
theorem seqR_length : ∀ (l : List LT) (v b o : Nat), (seqR l v b o).length = sizes l
  | [], _, _, _ => by simp [seqR, sizes]
  | t :: l, v, b, o => by
    have h1 := seqT_length t v b o
    have h2 := seqR_length l v b (o + 7)
    simp only [seqR, List.length_append, sizes]
    omega
end
theorem depth_pos (t : LT) : 1 ≤ t.depth := by rw [t.depth_eq]; omega
theorem sizes_ge : ∀ (l : List LT), l.length ≤ sizes l
  | [] => by simp
  | t :: l => by have := sizes_ge l; have := t.size_eq; simp only [sizes, List.length_cons]; omega
mutual
theorem seqT_max : ∀ (t : LT) (v b o : Nat), maxL (seqT t v b o) + 1 = v + t.depth
  | .mk k g la ln lc ys bb s ia ic items ta tc tail, v, b, o => by
    have h1 := seqR_max items (v + 1) (blk ia) (ofs ia)
    have h2 := seqR_max tail (v + 1) (blk ta) (ofs ta)
    simp only [seqT, maxL, maxL_append, LT.depth]
    have e1 : items = [] → depths items = 0 := fun h => by rw [h]; rfl
    have e2 : tail = [] → depths tail = 0 := fun h => by rw [h]; rfl
    rcases h1 with ⟨f1, g1⟩ | h1 <;> rcases h2 with ⟨f2, g2⟩ | h2
    · have := e1 f1; have := e2 f2; omega
    · have := e1 f1; omega
    · have := e2 f2; omega
    · omega
theorem seqR_max : ∀ (l : List LT) (v b o : Nat), (l = [] ∧ maxL (seqR l v b o) = 0) ∨ (1 ≤ depths l ∧ maxL (seqR l v b o) + 1 = v + depths l)
  | [], _, _, _ => .inl ⟨rfl, by simp [seqR, maxL]⟩
  | t :: l, v, b, o => by
    have h1 := seqT_max t v b o
    have h2 := seqR_max l v b (o + 7)
    have h3 := depth_pos t
    refine .inr ?_
    simp only [seqR, maxL_append, depths]
    rcases h2 with ⟨rfl, e2⟩ | ⟨h4, h2⟩
    · simp only [depths, e2]; omega
    · omega
end
mutual
theorem seqT_lies {w : World} {M : Nat} : ∀ (t : LT) (v b o : Nat), Lies w M t b o → ∀ x ∈ seqT t v b o, Lies w M x.t x.b x.o ∧ v ≤ x.lev ∧ x.lev + x.t.size ≤ v + t.size
  | .mk k g la ln lc ys bb s ia ic items ta tc tail, v, b, o, h, x, hx => by
    have h0 := h
    simp only [Lies] at h
    obtain ⟨_, _, _, _, _, h6, h7⟩ := h
    simp only [seqT, List.mem_cons, List.mem_append] at hx
    simp only [LT.size]
    rcases hx with rfl | hx | hx
    · refine ⟨h0, Nat.le_refl _, ?_⟩; simp only [LT.size]; omega
    · have := seqR_lies items (v + 1) _ _ h6 x hx; exact ⟨this.1, by omega, by omega⟩
    · have := seqR_lies tail (v + 1) _ _ h7 x hx; exact ⟨this.1, by omega, by omega⟩
theorem seqR_lies {w : World} {M : Nat} : ∀ (l : List LT) (v b o : Nat), LiesR w M l b o → ∀ x ∈ seqR l v b o, Lies w M x.t x.b x.o ∧ v ≤ x.lev ∧ x.lev + x.t.size ≤ v + sizes l
  | [], _, _, _, _, x, hx => by simp [seqR] at hx
  | t :: l, v, b, o, h, x, hx => by
    simp only [LiesR] at h
    simp only [seqR, List.mem_append] at hx
    simp only [sizes]
    rcases hx with hx | hx
    · have := seqT_lies t v b o h.1 x hx; exact ⟨this.1, this.2.1, by omega⟩
    · have := seqR_lies l v b _ h.2 x hx; exact ⟨this.1, this.2.1, by omega⟩
end

/-- A row of the stack: where it lies, how much room it has, the data that are left of it, how deep. -/
structure Ent where
  b : Nat
  o : Nat
  c : Nat
  l : List LT
  lev : Nat
def flat : List Ent → List Node | [] => [] | e :: st => seqR e.l e.lev e.b e.o ++ flat st
def Ent.cells (e : Ent) : List Value := [.slice (some ⟨e.b, e.o, none⟩) e.l.length e.c, .int .i64 (e.lev : Nat)]
/-- The stack's cells: the top lies last. -/
def stCells : List Ent → List Value | [] => [] | e :: st => stCells st ++ e.cells
theorem stCells_length (st : List Ent) : (stCells st).length = st.length * 2 := by induction st with | nil => rfl | cons e st ih => simp [stCells, ih, Ent.cells]; omega
/-- What a row of the stack is: something is left of it, and that lies there. -/
def Ent.good (w : World) (M N : Nat) (e : Ent) : Prop := 0 < e.l.length ∧ e.l.length ≤ e.c ∧ e.c ≤ maxLen ∧ LiesR w M e.l e.b e.o ∧ e.b < M ∧ e.lev + sizes e.l ≤ N
def pushE (a : Option Addr) (c : Nat) (l : List LT) (lev : Nat) (st : List Ent) : List Ent := if l.length = 0 then st else ⟨blk a, ofs a, c, l, lev⟩ :: st
def pushed (t : LT) (lev : Nat) (st : List Ent) : List Ent := pushE t.ia t.ic t.items lev (pushE t.ta t.tc t.tail lev st)
theorem pushE_nil {a : Option Addr} {c : Nat} {l : List LT} {lev : Nat} {st : List Ent} (h : l.length = 0) : pushE a c l lev st = st := by simp only [pushE, h, if_true]
theorem pushE_cons {a : Option Addr} {c : Nat} {l : List LT} {lev : Nat} {st : List Ent} (h : 0 < l.length) : pushE a c l lev st = ⟨blk a, ofs a, c, l, lev⟩ :: st := by rw [pushE, if_neg (by omega)]
theorem flat_pushE (a : Option Addr) (c : Nat) (l : List LT) (lev : Nat) (st : List Ent) : flat (pushE a c l lev st) = seqR l lev (blk a) (ofs a) ++ flat st := by
  by_cases h : l.length = 0
  · rw [pushE_nil h, List.length_eq_zero_iff.1 h]; simp
  · rw [pushE_cons (by omega)]; rfl
theorem flat_pushed (t : LT) (v b o : Nat) (st : List Ent) : seqT t v b o ++ flat st = ⟨v, b, o, t⟩ :: flat (pushed t (v + 1) st) := by
  rw [pushed, flat_pushE, flat_pushE, seqT_eq]; simp
theorem good_pushE {w : World} {M N : Nat} {a : Option Addr} {c : Nat} {l : List LT} {lev : Nat} {st : List Ent} (hs : Spot M a l.length c) (hl : LiesR w M l (blk a) (ofs a)) (hN : lev + sizes l ≤ N) (hst : ∀ e ∈ st, e.good w M N) : ∀ e ∈ pushE a c l lev st, e.good w M N := by
  by_cases h : l.length = 0
  · rw [pushE_nil h]; exact hst
  · rw [pushE_cons (by omega)]
    intro e he
    rcases List.mem_cons.1 he with rfl | he
    · exact ⟨by show 0 < l.length; omega, hs.1, hs.2.1, hl, (hs.2.2.1 (by omega)).2, hN⟩
    · exact hst e he
theorem good_pushed {w : World} {M N : Nat} {t : LT} {b o v : Nat} {st : List Ent} (ht : Lies w M t b o) (hN : v + t.size ≤ N) (hst : ∀ e ∈ st, e.good w M N) : ∀ e ∈ pushed t (v + 1) st, e.good w M N := by
  have := t.size_eq
  obtain ⟨_, _, _, h4, h5, h6, h7⟩ := lies_eq.1 ht
  exact good_pushE h4 h6 (by omega) (good_pushE h5 h7 (by omega) hst)
theorem flat_length_ge {w : World} {M N : Nat} {st : List Ent} (hst : ∀ e ∈ st, e.good w M N) : st.length ≤ (flat st).length := by
  induction st with
  | nil => simp
  | cons e st ih =>
    have h1 := ih fun x hx => hst x (List.mem_cons_of_mem _ hx)
    have h2 := (hst e (List.mem_cons_self ..)).1
    have h3 := sizes_ge e.l
    simp only [flat, List.length_cons, List.length_append, seqR_length]
    omega
theorem Ent.good.keep {w w' : World} {M N : Nat} {e : Ent} (h : e.good w M N) (hs : w.heap.size ≤ w'.heap.size) (hk : ∀ k, k < M → w'.heap[k]? = w.heap[k]?) : e.good w' M N :=
  ⟨h.1, h.2.1, h.2.2.1, LiesR.keep hs hk _ _ _ h.2.2.2.1, h.2.2.2.2⟩
end
end Go.Proofs.YthdhdmmlmbkalaaGreatDoor
