/-
  Plain mathematics of limbs to base 2^32, the lowest first: the number of a list of limbs, the list without noughts at its end, the list of a number. No program is imported.
-/
set_option linter.unusedVariables false
set_option linter.unusedSimpArgs false
set_option linter.unusedSectionVars false
set_option linter.unnecessarySimpa false
namespace Go.Proofs.YtocnlapbkidinaaGreatDoor

/-- The number of a list of limbs. -/
def val : List Nat → Nat
  | [] => 0
  | x :: xs => x + 4294967296 * val xs

/-- A limb; 0 behind the end. -/
def lim (xs : List Nat) (k : Nat) : Nat := xs.getD k 0
theorem lim_eq (xs : List Nat) (k : Nat) : lim xs k = xs[k]?.getD 0 := List.getD_eq_getElem?_getD ..

/-- Each limb is below the base. -/
def Ok (xs : List Nat) : Prop := ∀ x ∈ xs, x < 4294967296

theorem Ok.nil : Ok [] := fun _ h => by cases h
theorem Ok.cons {x : Nat} {xs : List Nat} (h : x < 4294967296) (hx : Ok xs) : Ok (x :: xs) := by
  intro y hy
  rcases List.mem_cons.1 hy with rfl | hy
  · exact h
  · exact hx y hy
theorem Ok.head {x : Nat} {xs : List Nat} (h : Ok (x :: xs)) : x < 4294967296 := h x (List.mem_cons_self ..)
theorem Ok.tail {x : Nat} {xs : List Nat} (h : Ok (x :: xs)) : Ok xs := fun y hy => h y (List.mem_cons_of_mem _ hy)
theorem Ok.append {xs ys : List Nat} (h : Ok xs) (k : Ok ys) : Ok (xs ++ ys) := by
  intro y hy
  rcases List.mem_append.1 hy with hy | hy
  · exact h y hy
  · exact k y hy
theorem Ok.snoc {xs : List Nat} {x : Nat} (h : Ok xs) (k : x < 4294967296) : Ok (xs ++ [x]) := h.append (Ok.cons k Ok.nil)
theorem Ok.left {xs ys : List Nat} (h : Ok (xs ++ ys)) : Ok xs := fun y hy => h y (List.mem_append_left _ hy)
theorem Ok.right {xs ys : List Nat} (h : Ok (xs ++ ys)) : Ok ys := fun y hy => h y (List.mem_append_right _ hy)
theorem Ok.take {xs : List Nat} (h : Ok xs) (k : Nat) : Ok (xs.take k) := fun y hy => h y (List.mem_of_mem_take hy)
theorem Ok.drop {xs : List Nat} (h : Ok xs) (k : Nat) : Ok (xs.drop k) := fun y hy => h y (List.mem_of_mem_drop hy)
theorem Ok.replicate (n : Nat) : Ok (List.replicate n 0) := by
  intro y hy
  have := List.eq_of_mem_replicate hy
  omega
theorem Ok.getD {xs : List Nat} (h : Ok xs) (k : Nat) : lim xs k < 4294967296 := by
  rw [lim_eq]
  rcases Nat.lt_or_ge k xs.length with hk | hk
  · rw [List.getElem?_eq_getElem hk]; exact h _ (List.getElem_mem hk)
  · rw [List.getElem?_eq_none hk]; decide

theorem val_nil : val [] = 0 := rfl
theorem val_cons (x : Nat) (xs : List Nat) : val (x :: xs) = x + 4294967296 * val xs := rfl
theorem val_append (xs ys : List Nat) : val (xs ++ ys) = val xs + 4294967296 ^ xs.length * val ys := by
  induction xs with
  | nil => simp [val]
  | cons x xs ih =>
    rw [List.cons_append, val_cons, val_cons, ih, List.length_cons, Nat.pow_succ, Nat.mul_add, Nat.mul_comm (4294967296 ^ xs.length) 4294967296, Nat.mul_assoc]
    omega
theorem val_snoc (xs : List Nat) (x : Nat) : val (xs ++ [x]) = val xs + 4294967296 ^ xs.length * x := by
  rw [val_append, val_cons, val_nil, Nat.mul_zero, Nat.add_zero]
theorem val_replicate (n : Nat) : val (List.replicate n 0) = 0 := by
  induction n with
  | zero => rfl
  | succ n ih => rw [List.replicate_succ, val_cons, ih]
theorem pow_pos' (k : Nat) : 0 < 4294967296 ^ k := Nat.pow_pos (by decide)
theorem val_lt {xs : List Nat} (h : Ok xs) : val xs < 4294967296 ^ xs.length := by
  induction xs with
  | nil => simp [val]
  | cons x xs ih =>
    have h1 := ih h.tail
    have h2 := h.head
    rw [val_cons, List.length_cons, Nat.pow_succ]
    omega
theorem take_snoc (xs : List Nat) (k : Nat) (h : k < xs.length) : xs.take (k + 1) = xs.take k ++ [lim xs k] := by
  rw [List.take_succ_eq_append_getElem h, lim_eq, List.getElem?_eq_getElem h]; rfl
theorem val_take_succ (xs : List Nat) (k : Nat) : val (xs.take (k + 1)) = val (xs.take k) + 4294967296 ^ k * lim xs k := by
  rcases Nat.lt_or_ge k xs.length with h | h
  · rw [take_snoc xs k h, val_snoc, List.length_take, Nat.min_eq_left (by omega)]
  · rw [List.take_of_length_le (by omega), List.take_of_length_le (by omega), lim_eq, List.getElem?_eq_none h]
    simp
theorem val_take_drop (xs : List Nat) (k : Nat) (h : k ≤ xs.length) : val xs = val (xs.take k) + 4294967296 ^ k * val (xs.drop k) := by
  have := val_append (xs.take k) (xs.drop k)
  rw [List.take_append_drop, List.length_take, Nat.min_eq_left h] at this
  exact this
theorem val_drop (xs : List Nat) (k : Nat) (h : k < xs.length) : val (xs.drop k) = lim xs k + 4294967296 * val (xs.drop (k + 1)) := by
  rw [List.drop_eq_getElem_cons h, val_cons, lim_eq, List.getElem?_eq_getElem h]; rfl

/-- The list without noughts at its end. -/
def trimL : List Nat → List Nat
  | [] => []
  | x :: xs => if x = 0 ∧ trimL xs = [] then [] else x :: trimL xs

theorem trimL_val (xs : List Nat) : val (trimL xs) = val xs := by
  induction xs with
  | nil => rfl
  | cons x xs ih =>
    unfold trimL
    split
    · rename_i h
      rw [h.2] at ih
      rw [val_cons, ← ih, h.1]
      rfl
    · rw [val_cons, val_cons, ih]
theorem trimL_take (xs : List Nat) : trimL xs = xs.take (trimL xs).length := by
  induction xs with
  | nil => rfl
  | cons x xs ih =>
    unfold trimL
    split
    · simp
    · rw [List.length_cons, List.take_succ_cons, ← ih]
theorem trimL_len (xs : List Nat) : (trimL xs).length ≤ xs.length := by
  have := congrArg List.length (trimL_take xs)
  rw [List.length_take] at this
  omega
theorem trimL_ok {xs : List Nat} (h : Ok xs) : Ok (trimL xs) := by
  rw [trimL_take]; exact h.take _
theorem trimL_snoc_zero (xs : List Nat) : trimL (xs ++ [0]) = trimL xs := by
  induction xs with
  | nil => simp [trimL]
  | cons x xs ih => rw [List.cons_append, trimL, trimL, ih]
theorem trimL_snoc (xs : List Nat) (x : Nat) (h : x ≠ 0) : trimL (xs ++ [x]) = xs ++ [x] := by
  induction xs with
  | nil => simp [trimL, h]
  | cons y ys ih => rw [List.cons_append, trimL, ih]; simp
theorem trimL_idem (xs : List Nat) : trimL (trimL xs) = trimL xs := by
  induction xs with
  | nil => rfl
  | cons x xs ih =>
    by_cases h : x = 0 ∧ trimL xs = []
    · have : trimL (x :: xs) = [] := by rw [trimL, if_pos h]
      rw [this]; rfl
    · have e : trimL (x :: xs) = x :: trimL xs := by rw [trimL, if_neg h]
      rw [e, trimL, ih, if_neg h]

/-- Two lists without noughts at their ends, of limbs below the base, with one number are one. -/
theorem val_inj {xs ys : List Nat} (hx : Ok xs) (hy : Ok ys) (tx : trimL xs = xs) (ty : trimL ys = ys) (h : val xs = val ys) : xs = ys := by
  induction xs generalizing ys with
  | nil =>
    cases ys with
    | nil => rfl
    | cons y ys =>
      exfalso
      rw [val_cons, val_nil] at h
      have h1 : y = 0 := by omega
      have h2 : val ys = 0 := by omega
      have : ∀ zs : List Nat, val zs = 0 → trimL zs = [] := by
        intro zs
        induction zs with
        | nil => intro _; rfl
        | cons z zs ih =>
          intro hz
          rw [val_cons] at hz
          rw [trimL, if_pos ⟨by omega, ih (by omega)⟩]
      rw [trimL, if_pos ⟨h1, this ys h2⟩] at ty
      cases ty
  | cons x xs ih =>
    cases ys with
    | nil =>
      exfalso
      rw [val_cons, val_nil] at h
      have h1 : x = 0 := by omega
      have h2 : val xs = 0 := by omega
      have : ∀ zs : List Nat, val zs = 0 → trimL zs = [] := by
        intro zs
        induction zs with
        | nil => intro _; rfl
        | cons z zs ih =>
          intro hz
          rw [val_cons] at hz
          rw [trimL, if_pos ⟨by omega, ih (by omega)⟩]
      rw [trimL, if_pos ⟨h1, this xs h2⟩] at tx
      cases tx
    | cons y ys =>
      have hx0 := hx.head
      have hy0 := hy.head
      rw [val_cons, val_cons] at h
      have e0 : x = y := by omega
      have e1 : val xs = val ys := by omega
      have txs : trimL xs = xs := by
        rw [trimL] at tx
        split at tx
        · cases tx
        · injection tx
      have tys : trimL ys = ys := by
        rw [trimL] at ty
        split at ty
        · cases ty
        · injection ty
      rw [e0, ih hx.tail hy.tail txs tys e1]

/-- The limbs of a number, with so many at most. -/
def limbsF : Nat → Nat → List Nat
  | 0, _ => []
  | f + 1, n => n % 4294967296 :: limbsF f (n / 4294967296)

/-- The limbs of a number, without noughts at their end. -/
def limbs (n : Nat) : List Nat := trimL (limbsF n n)

theorem limbsF_ok (f n : Nat) : Ok (limbsF f n) := by
  induction f generalizing n with
  | zero => exact Ok.nil
  | succ f ih => exact Ok.cons (Nat.mod_lt _ (by decide)) (ih _)
theorem limbsF_val (f n : Nat) (h : n ≤ f) : val (limbsF f n) = n := by
  induction f generalizing n with
  | zero => rw [limbsF, val_nil]; omega
  | succ f ih =>
    rw [limbsF, val_cons, ih _ (by omega)]
    omega
theorem limbs_ok (n : Nat) : Ok (limbs n) := trimL_ok (limbsF_ok n n)
theorem limbs_val (n : Nat) : val (limbs n) = n := by rw [limbs, trimL_val, limbsF_val n n (Nat.le_refl _)]
theorem limbs_trim (n : Nat) : trimL (limbs n) = limbs n := trimL_idem _
/-- The limbs of the number of a list are the list without noughts at its end. -/
theorem trimL_limbs {xs : List Nat} (h : Ok xs) : trimL xs = limbs (val xs) :=
  val_inj (trimL_ok h) (limbs_ok _) (trimL_idem _) (limbs_trim _) (by rw [trimL_val, limbs_val])
theorem limbs_of {xs : List Nat} (h : Ok xs) (t : trimL xs = xs) : limbs (val xs) = xs := by rw [← trimL_limbs h, t]
theorem limbs_inj {m n : Nat} (h : limbs m = limbs n) : m = n := by rw [← limbs_val m, ← limbs_val n, h]
theorem limbs_zero : limbs 0 = [] := rfl
theorem limbs_nil_iff (n : Nat) : limbs n = [] ↔ n = 0 := by
  constructor
  · intro h; rw [← limbs_val n, h]; rfl
  · rintro rfl; rfl
theorem limbs_len_le {n k : Nat} (h : n < 4294967296 ^ k) : (limbs n).length ≤ k := by
  rcases Nat.lt_or_ge k (limbs n).length with hk | hk
  · exfalso
    have hl := limbs_val n
    have ht := limbs_trim n
    obtain ⟨m, hm⟩ : ∃ m, (limbs n).length = m + 1 := ⟨(limbs n).length - 1, by omega⟩
    have e : limbs n = (limbs n).take m ++ [lim (limbs n) m] := by
      rw [← take_snoc _ _ (by omega), ← hm, List.take_length]
    have hne : lim (limbs n) m ≠ 0 := by
      intro h0
      rw [h0] at e
      rw [e, trimL_snoc_zero] at ht
      have := trimL_len ((limbs n).take m)
      rw [ht] at this
      simp [hm] at this
      omega
    have hv : n = val ((limbs n).take m) + 4294967296 ^ m * lim (limbs n) m := by
      have := val_snoc ((limbs n).take m) (lim (limbs n) m)
      rw [← e, List.length_take, Nat.min_eq_left (by omega), hl] at this
      exact this
    have h1 : 4294967296 ^ m ≤ 4294967296 ^ m * lim (limbs n) m := Nat.le_mul_of_pos_right _ (by omega)
    have h2 : 4294967296 ^ k ≤ 4294967296 ^ m := Nat.pow_le_pow_right (by decide) (by omega)
    omega
  · exact hk
theorem limbs_len_val {xs : List Nat} (h : Ok xs) : (limbs (val xs)).length ≤ xs.length := limbs_len_le (val_lt h)

/-- How two numbers stand: -1, 0 or 1. -/
def cmpN (a b : Nat) : Int := if a < b then -1 else if b < a then 1 else 0
theorem cmpN_lt {a b : Nat} (h : a < b) : cmpN a b = -1 := by unfold cmpN; rw [if_pos h]
theorem cmpN_gt {a b : Nat} (h : b < a) : cmpN a b = 1 := by unfold cmpN; rw [if_neg (by omega), if_pos h]
theorem cmpN_eq (a : Nat) : cmpN a a = 0 := by unfold cmpN; rw [if_neg (by omega), if_neg (by omega)]
theorem cmpN_le_zero (a b : Nat) : cmpN a b ≤ 0 ↔ a ≤ b := by unfold cmpN; split <;> (try split) <;> omega
theorem cmpN_zero_iff (a b : Nat) : cmpN a b = 0 ↔ a = b := by unfold cmpN; split <;> (try split) <;> omega
theorem cmpN_neg_iff (a b : Nat) : cmpN a b < 0 ↔ a < b := by unfold cmpN; split <;> (try split) <;> omega
theorem cmpN_bd (a b : Nat) : -1 ≤ cmpN a b ∧ cmpN a b ≤ 1 := by unfold cmpN; split <;> (try split) <;> omega
theorem cmpN_add (a b c : Nat) : cmpN (a + c) (b + c) = cmpN a b := by
  rcases Nat.lt_trichotomy a b with h | h | h
  · rw [cmpN_lt h, cmpN_lt (by omega)]
  · rw [h, cmpN_eq, cmpN_eq]
  · rw [cmpN_gt h, cmpN_gt (by omega)]
theorem val_take_lt {xs : List Nat} (h : Ok xs) (k : Nat) : val (xs.take k) < 4294967296 ^ k := by
  have h1 := val_lt (h.take k)
  have h2 : 4294967296 ^ (xs.take k).length ≤ 4294967296 ^ k := Nat.pow_le_pow_right (by decide) (by rw [List.length_take]; omega)
  omega
theorem top_lt {a p x y : Nat} (ha : a < p) (h : x < y) (b : Nat) : a + p * x < b + p * y := by
  have : p * (x + 1) ≤ p * y := Nat.mul_le_mul_left _ h
  rw [Nat.mul_add, Nat.mul_one] at this
  omega
theorem cmp_down_eq {xs ys : List Nat} {k : Nat} (h : lim xs k = lim ys k) : cmpN (val (xs.take (k + 1))) (val (ys.take (k + 1))) = cmpN (val (xs.take k)) (val (ys.take k)) := by
  rw [val_take_succ, val_take_succ, h, cmpN_add]
theorem cmp_down_lt {xs ys : List Nat} (ox : Ok xs) {k : Nat} (h : lim xs k < lim ys k) : cmpN (val (xs.take (k + 1))) (val (ys.take (k + 1))) = -1 := by
  rw [val_take_succ, val_take_succ]; exact cmpN_lt (top_lt (val_take_lt ox k) h _)
theorem cmp_down_gt {xs ys : List Nat} (oy : Ok ys) {k : Nat} (h : lim ys k < lim xs k) : cmpN (val (xs.take (k + 1))) (val (ys.take (k + 1))) = 1 := by
  rw [val_take_succ, val_take_succ]; exact cmpN_gt (top_lt (val_take_lt oy k) h _)

theorem lim_set_self (xs : List Nat) (t y : Nat) (h : t < xs.length) : lim (xs.set t y) t = y := by
  rw [lim_eq, List.getElem?_set_self h]; rfl
theorem lim_set_other (xs : List Nat) (t u y : Nat) (h : t ≠ u) : lim (xs.set t y) u = lim xs u := by
  rw [lim_eq, lim_eq, List.getElem?_set_ne h]
theorem lim_ge (xs : List Nat) (t : Nat) (h : xs.length ≤ t) : lim xs t = 0 := by
  rw [lim_eq, List.getElem?_eq_none h]; rfl
theorem lim_cons_succ (x : Nat) (xs : List Nat) (t : Nat) : lim (x :: xs) (t + 1) = lim xs t := by rw [lim_eq, lim_eq, List.getElem?_cons_succ]
theorem lim_cons_zero (x : Nat) (xs : List Nat) : lim (x :: xs) 0 = x := rfl
/-- A limb put in another's place. -/
theorem val_set (xs : List Nat) (t y : Nat) (h : t < xs.length) : val (xs.set t y) + 4294967296 ^ t * lim xs t = val xs + 4294967296 ^ t * y := by
  induction xs generalizing t with
  | nil => simp at h
  | cons x xs ih =>
    cases t with
    | zero => rw [List.set_cons_zero, val_cons, val_cons, lim_cons_zero, Nat.pow_zero]; omega
    | succ t =>
      rw [List.set_cons_succ, val_cons, val_cons, lim_cons_succ, Nat.pow_succ, Nat.mul_comm (4294967296 ^ t) 4294967296, Nat.mul_assoc, Nat.mul_assoc]
      have := ih t (by simpa using h)
      omega
theorem Ok.set {xs : List Nat} (h : Ok xs) (t y : Nat) (hy : y < 4294967296) : Ok (xs.set t y) := by
  intro z hz
  rcases List.mem_or_eq_of_mem_set hz with hz | rfl
  · exact h z hz
  · exact hy
theorem val_eq_zero {xs : List Nat} (h : ∀ t, lim xs t = 0) : val xs = 0 := by
  induction xs with
  | nil => rfl
  | cons x xs ih =>
    have h0 := h 0
    rw [lim_cons_zero] at h0
    rw [val_cons, h0, ih (fun t => by rw [← lim_cons_succ x]; exact h (t + 1))]
end Go.Proofs.YtocnlapbkidinaaGreatDoor
