/-
  Plain mathematics of digits to a base, the lowest first, and of a number's text. No program is imported.
-/
import Derived.Test.YtjildimhflondaaDoorNum
namespace Go.Proofs.YtjildimhflondaaDoor

/-- The number of a list of digits, the lowest first. -/
def valb (b : Nat) : List Nat → Nat
  | [] => 0
  | x :: xs => x + b * valb b xs
def Okb (b : Nat) (xs : List Nat) : Prop := ∀ x ∈ xs, x < b
section
variable {b : Nat}
theorem Okb.nil : Okb b [] := fun _ h => by cases h
theorem Okb.cons {x : Nat} {xs : List Nat} (h : x < b) (hx : Okb b xs) : Okb b (x :: xs) := by
  intro y hy
  rcases List.mem_cons.1 hy with rfl | hy
  · exact h
  · exact hx y hy
theorem Okb.head {x : Nat} {xs : List Nat} (h : Okb b (x :: xs)) : x < b := h x (List.mem_cons_self ..)
theorem Okb.tail {x : Nat} {xs : List Nat} (h : Okb b (x :: xs)) : Okb b xs := fun y hy => h y (List.mem_cons_of_mem _ hy)
theorem Okb.append {xs ys : List Nat} (h : Okb b xs) (k : Okb b ys) : Okb b (xs ++ ys) := by
  intro y hy
  rcases List.mem_append.1 hy with hy | hy
  · exact h y hy
  · exact k y hy
theorem Okb.take {xs : List Nat} (h : Okb b xs) (k : Nat) : Okb b (xs.take k) := fun y hy => h y (List.mem_of_mem_take hy)
theorem Okb.trim {xs : List Nat} (h : Okb b xs) : Okb b (trimL xs) := by rw [trimL_take]; exact h.take _
theorem valb_cons (x : Nat) (xs : List Nat) : valb b (x :: xs) = x + b * valb b xs := rfl
theorem valb_append (xs ys : List Nat) : valb b (xs ++ ys) = valb b xs + b ^ xs.length * valb b ys := by
  induction xs with
  | nil => simp [valb]
  | cons x xs ih =>
    rw [List.cons_append, valb_cons, valb_cons, ih, List.length_cons, Nat.pow_succ, Nat.mul_add, Nat.mul_comm (b ^ xs.length) b, Nat.mul_assoc]
    omega
theorem valb_snoc (xs : List Nat) (x : Nat) : valb b (xs ++ [x]) = valb b xs + b ^ xs.length * x := by
  rw [valb_append, valb_cons, valb, Nat.mul_zero, Nat.add_zero]
theorem valb_trimL (xs : List Nat) : valb b (trimL xs) = valb b xs := by
  induction xs with
  | nil => rfl
  | cons x xs ih =>
    unfold trimL
    split
    · rename_i h
      rw [h.2] at ih
      rw [valb_cons, ← ih, h.1]
      simp [valb]
    · rw [valb_cons, valb_cons, ih]
theorem split_unique {x y u v : Nat} (hx : x < b) (hy : y < b) (h : x + b * u = y + b * v) : x = y ∧ u = v := by
  have h1 : (x + b * u) % b = (y + b * v) % b := by rw [h]
  rw [Nat.add_mul_mod_self_left, Nat.add_mul_mod_self_left, Nat.mod_eq_of_lt hx, Nat.mod_eq_of_lt hy] at h1
  have h2 : (x + b * u) / b = (y + b * v) / b := by rw [h]
  rw [Nat.add_mul_div_left _ _ (by omega), Nat.add_mul_div_left _ _ (by omega), Nat.div_eq_of_lt hx, Nat.div_eq_of_lt hy] at h2
  omega
theorem valb_zero_trim (hb : 0 < b) (zs : List Nat) : valb b zs = 0 → trimL zs = [] := by
  induction zs with
  | nil => intro _; rfl
  | cons z zs ih =>
    intro hz
    rw [valb_cons] at hz
    have h2 : b * valb b zs = 0 := by omega
    have h3 : valb b zs = 0 := by
      rcases Nat.mul_eq_zero.1 h2 with h | h
      · omega
      · exact h
    rw [trimL, if_pos ⟨by omega, ih h3⟩]
theorem valb_inj (hb : 0 < b) {xs ys : List Nat} (hx : Okb b xs) (hy : Okb b ys) (tx : trimL xs = xs) (ty : trimL ys = ys) (h : valb b xs = valb b ys) : xs = ys := by
  induction xs generalizing ys with
  | nil =>
    have := valb_zero_trim hb ys (by rw [← h]; rfl)
    rw [← ty, this]
  | cons x xs ih =>
    cases ys with
    | nil =>
      have := valb_zero_trim hb (x :: xs) (by rw [h]; rfl)
      rw [← tx, this]
    | cons y ys =>
      rw [valb_cons, valb_cons] at h
      obtain ⟨e0, e1⟩ := split_unique hx.head hy.head h
      have txs : trimL xs = xs := by
        rw [trimL] at tx
        split at tx
        · cases tx
        · injection tx
      have tys : trimL ys = ys := by
        rw [trimL] at ty
        split at ty
        · cases ty
        · injection ty
      rw [e0, ih hx.tail hy.tail txs tys e1]
end
def digsF : Nat → Nat → Nat → List Nat
  | 0, _, _ => []
  | f + 1, b, n => n % b :: digsF f b (n / b)
/-- A number's digits, the lowest first, without noughts at their end. -/
def digs (b n : Nat) : List Nat := trimL (digsF n b n)
theorem digsF_ok (b f n : Nat) (hb : 0 < b) : Okb b (digsF f b n) := by
  induction f generalizing n with
  | zero => exact Okb.nil
  | succ f ih => exact Okb.cons (Nat.mod_lt _ hb) (ih _)
theorem digsF_val (b f n : Nat) (hb : 2 ≤ b) (h : n ≤ f) : valb b (digsF f b n) = n := by
  induction f generalizing n with
  | zero => rw [digsF, valb]; omega
  | succ f ih =>
    have h1 : n / b ≤ f := by
      rcases Nat.eq_zero_or_pos n with h0 | h0
      · subst h0; simp
      · have := Nat.div_lt_self h0 hb; omega
    rw [digsF, valb_cons, ih _ h1]
    exact Nat.mod_add_div n b
theorem digs_ok (b n : Nat) (hb : 0 < b) : Okb b (digs b n) := (digsF_ok b n n hb).trim
theorem digs_val (b n : Nat) (hb : 2 ≤ b) : valb b (digs b n) = n := by rw [digs, valb_trimL, digsF_val b n n hb (Nat.le_refl _)]
theorem trimL_digs {b : Nat} (hb : 2 ≤ b) {xs : List Nat} (h : Okb b xs) : trimL xs = digs b (valb b xs) :=
  valb_inj (by omega) h.trim (digs_ok b _ (by omega)) (trimL_idem _) (trimL_idem _) (by rw [valb_trimL, digs_val b _ hb])
theorem digs_zero (b : Nat) : digs b 0 = [] := rfl
theorem digs_nil_iff (b n : Nat) (hb : 2 ≤ b) : digs b n = [] ↔ n = 0 := by
  constructor
  · intro h; rw [← digs_val b n hb, h]; rfl
  · rintro rfl; rfl

/-- A digit's letter. -/
def chr (d : Nat) : UInt8 := if d < 10 then UInt8.ofNat (48 + d) else UInt8.ofNat (87 + d)
/-- A number's text. -/
def txt (b n : Nat) : List UInt8 := if n = 0 then [48] else (digs b n).reverse.map chr
theorem chr_zero_iff (d : Nat) (h : d < 36) : chr d = 48 ↔ d = 0 := by
  have : ∀ d : Fin 36, chr d.1 = 48 ↔ d.1 = 0 := by decide
  exact this ⟨d, h⟩

/-- The trimmed reverse: what TrimLeft leaves of digits' letters, the highest first. -/
theorem dropWhile_chr (b : Nat) (hb2 : b ≤ 36) (ds : List Nat) (h : Okb b ds) : (ds.reverse.map chr).dropWhile (· == 48) = (trimL ds).reverse.map chr := by
  generalize hn : ds.length = n
  induction n generalizing ds with
  | zero => obtain rfl := List.eq_nil_of_length_eq_zero hn; rfl
  | succ n ih =>
    obtain ⟨ys, y, rfl⟩ : ∃ ys y, ds = ys ++ [y] := ⟨ds.dropLast, ds.getLast (by intro h0; rw [h0] at hn; cases hn), (List.dropLast_concat_getLast _).symm⟩
    have hy : y < b := h y (by simp)
    have hys : Okb b ys := fun z hz => h z (by simp [hz])
    rw [List.reverse_append, List.reverse_singleton, List.singleton_append, List.map_cons]
    by_cases h0 : y = 0
    · subst h0
      rw [List.dropWhile_cons_of_pos (by simp [chr]), ih ys hys (by simpa using hn), trimL_snoc_zero]
    · rw [List.dropWhile_cons_of_neg (by simp [chr_zero_iff y (by omega), h0]), trimL_snoc _ _ h0, List.reverse_append]
      rfl
/-- ... and with "0" for nothing: the number's text. -/
theorem txt_of (b : Nat) (hb : 2 ≤ b) (hb2 : b ≤ 36) (ds : List Nat) (h : Okb b ds) :
    txt b (valb b ds) = if ((ds.reverse.map chr).dropWhile (· == 48)) = [] then [48] else (ds.reverse.map chr).dropWhile (· == 48) := by
  rw [dropWhile_chr b hb2 ds h, trimL_digs hb h]
  unfold txt
  by_cases h0 : valb b ds = 0
  · rw [if_pos h0, h0, digs_zero]; rfl
  · rw [if_neg h0, if_neg]
    intro he
    rw [List.map_eq_nil_iff, List.reverse_eq_nil_iff] at he
    exact h0 ((digs_nil_iff b _ hb).1 he)
end Go.Proofs.YtjildimhflondaaDoor
