/-
  Numbers, as far as writing wants them: Norm and Text of whole numbers.
-/
import Derived.Test.YthdhdmmlmbkalaaGreatDoorJr0
import Derived.Test.YthdhdmmlmbkalaaGreatDoorChecked
import Derived.Outline
import Derived.Laws.BitsAllLaws
import Derived.Deep.LoopGhost
import Derived.BigRegion
import Derived.Laws.IdiomStrings
import Derived.Lib.BufferRead
import Derived.Deep.QuietTactic
import Derived.BigQuiet
import Derived.Shelf.Small.Bits
import Derived.WalkMore
import Derived.Deep.RegionHeld3
set_option linter.unusedVariables false
set_option linter.unusedSimpArgs false
set_option linter.unusedSectionVars false
set_option linter.unnecessarySimpa false
namespace Go.Proofs.YthdhdmmlmbkalaaGreatDoor
open Go.RowKit

theorem trimL_take_zero (xs : List Nat) (n : Nat) (h : n + 1 ≤ xs.length) (h0 : lim xs n = 0) : trimL (xs.take (n + 1)) = trimL (xs.take n) := by
  rw [take_snoc xs n (by omega), h0, trimL_snoc_zero]
theorem trimL_take_stop (xs : List Nat) (n : Nat) (h : n + 1 ≤ xs.length) (h0 : lim xs n ≠ 0) : trimL (xs.take (n + 1)) = xs.take (n + 1) := by
  rw [take_snoc xs n (by omega), trimL_snoc _ _ h0]
set_option maxHeartbeats 400000 in
theorem trim_any (A : Option Addr) (n cap : Nat) (xs : List Nat) (w : World) (h : Sl w A n cap xs) :
    Calls Tryz.prog 148 #[.slice A n cap] w fun e w' => e = .returned (.slice A (limbs (val xs)).length cap) ∧ w = w' := by
  have hm := h.max
  have hl := h.le
  unfold maxLen at hm
  have H := Lib.hid h
  clear h
  go_enter Tryz.func148, Tryz.ntmps148
  go_wp2
  go_loop [3] (fun t => ∃ k : Nat, k ≤ n ∧ t = .int .i64 k ∧ Hid (trimL (xs.take k) = trimL xs)) (fun t => (intOf t).toNat)
  case atStart => exact ⟨n, Nat.le_refl _, rfl, by rw [H.out.len, List.take_length]; exact rfl⟩
  case round =>
    obtain ⟨k, hk, rfl, hr⟩ := hrel
    rcases k with _ | k
    · go_wp2
      go_ret
      refine ⟨?_, rfl⟩
      have : limbs (val xs) = [] := by rw [← trimL_limbs H.out.ok, ← hr.out]; rfl
      rw [this]; rfl
    · obtain ⟨b, off, rfl, hb, hc⟩ := H.out.here (by omega)
      have hck := hc k (by omega)
      have hx := H.out.ok.getD k
      by_cases h0 : lim xs k = 0
      · rw [h0] at hck
        clear hc
        go_wp2
        go_round
        case rel => exact ⟨k, by omega, by go_num, by rw [← hr.out, trimL_take_zero xs k (by have := H.out.len; omega) h0]; exact rfl⟩
        case measure => simp [intOf]
      · have hs := Lib.hid (trimL_take_stop xs k (by have := H.out.len; omega) h0)
        generalize lim xs k = x at *
        clear hc
        go_wp2
        go_ret
        refine ⟨?_, rfl⟩
        have : limbs (val xs) = xs.take (k + 1) := by rw [← trimL_limbs H.out.ok, ← hr.out, hs.out]
        rw [this, List.length_take, Nat.min_eq_left (by have := H.out.len; omega)]
        simp
/-- The same, the length under a name of one's own. -/
theorem trim_at (A : Option Addr) (n cap : Nat) (xs : List Nat) (w : World) (h : Sl w A n cap xs) (m : Nat) (hm : Hid (m = (limbs (val xs)).length)) :
    Calls Tryz.prog 148 #[.slice A n cap] w fun e w' => e = .returned (.slice A m cap) ∧ w = w' := by
  rw [hm.out]; exact trim_any A n cap xs w h
theorem info32 : (Tryz.prog.info? 149).map (fun i => (i.zero, i.size, i.bytes)) = some (some (.int .u32 0), 1, 4) := by kernel_rfl
/-- The number of a list of digits, the lowest first. -/
def valb (b : Nat) : List Nat → Nat
  | [] => 0
  | x :: xs => x + b * valb b xs
def Okb (b : Nat) (xs : List Nat) : Prop := ∀ x ∈ xs, x < b
section
variable {b : Nat}
theorem Okb.nil : Okb b [] := fun _ h => by cases h
theorem Okb.cons {x : Nat} {xs : List Nat} (h : x < b) (hx : Okb b xs) : Okb b (x :: xs) := by
  intro y hy
  rcases List.mem_cons.1 hy with rfl | hy
  · exact h
  · exact hx y hy
theorem Okb.head {x : Nat} {xs : List Nat} (h : Okb b (x :: xs)) : x < b := h x (List.mem_cons_self ..)
theorem Okb.tail {x : Nat} {xs : List Nat} (h : Okb b (x :: xs)) : Okb b xs := fun y hy => h y (List.mem_cons_of_mem _ hy)
theorem Okb.append {xs ys : List Nat} (h : Okb b xs) (k : Okb b ys) : Okb b (xs ++ ys) := by
  intro y hy
  rcases List.mem_append.1 hy with hy | hy
  · exact h y hy
  · exact k y hy
theorem Okb.take {xs : List Nat} (h : Okb b xs) (k : Nat) : Okb b (xs.take k) := fun y hy => h y (List.mem_of_mem_take hy)
theorem Okb.trim {xs : List Nat} (h : Okb b xs) : Okb b (trimL xs) := by rw [trimL_take]; exact h.take _
end
/-- A digit's letter. -/
def chr (d : Nat) : UInt8 := if d < 10 then UInt8.ofNat (48 + d) else UInt8.ofNat (87 + d)
/-- The cells of bytes. -/
def bcells (l : List UInt8) : List Value := l.map fun c : UInt8 => Value.int .u8 ((c.toNat : Nat) : Int)
/-- A row of bytes of the call's own. -/
def BOwn (w : World) (base : Nat) (v : Value) (l : List UInt8) : Prop := w.ownsRow base 5 1 v l.length (bcells l)
theorem Only.grown {g : Nat} {w w' : World} (h : Only g w w') : w.grownBy w' (some g) := ⟨h.os, h.tape, h.output, by rw [h.size]; exact Nat.le_refl _, fun k _ hne => h.block k (fun e => hne (by rw [e]))⟩
/-- A row of bytes is no block of limbs. -/
theorem BOwn.ne {w : World} {base g : Nat} {v : Value} {l : List UInt8} {L : List Nat} (h : BOwn w base v l) (hb : Blk w g L) : v.ownBlock ≠ some g := by
  rcases h.2 with ⟨rfl, _⟩ | ⟨g', cap, cur, rfl, _, hh, _⟩
  · simp [Value.ownBlock]
  · intro he
    have : g' = g := by simpa [Value.ownBlock] using he
    subst this
    unfold Blk at hb
    rw [hb] at hh
    simp at hh
theorem BOwn.only {w w' : World} {base g : Nat} {v : Value} {l : List UInt8} {L : List Nat} (h : BOwn w base v l) (hb : Blk w g L) (ho : Only g w w') : BOwn w' base v l :=
  World.ownsRow.kept h ho.grown (.inr (h.ne hb))
/-- What Text has made so far of the number n: digits, and what is left to be told. -/
structure TextInv (w : World) (b n n0 r m : Nat) (v : Value) (wr : World) (O : List Nat) (L : List Nat) : Prop where
  len : m = (limbs r).length
  lenL : L.length = n0
  take : L.take m = limbs r
  okL : Ok L
  blk : Blk wr w.heap.size L
  own : BOwn wr w.heap.size v (O.map chr)
  okO : Okb b O
  num : n = valb b O + b ^ O.length * r
  bel : Below w.heap.size w wr
  lenO : O.length ≤ 50000000000
/-- ... and inside a round: the digits of what divInto left. -/
structure TextIn (w : World) (b low j lo : Nat) (v : Value) (wr : World) (O D L : List Nat) : Prop where
  lenD : D.length = j
  okD : Okb b D
  num : low = valb b D + b ^ j * lo
  blk : Blk wr w.heap.size L
  own : BOwn wr w.heap.size v ((O ++ D).map chr)
  bel : Below w.heap.size w wr
theorem New.sl {w : World} {base : Nat} {v : Value} {xs : List Nat} (h : New w base v xs) : ∃ A c, v = .slice A xs.length c ∧ Sl w A xs.length c xs := by
  obtain ⟨A, n, cap, rfl, hs, _⟩ := h
  have := hs.len
  subst this
  exact ⟨A, cap, rfl, hs⟩
/-- The value v is a slice of at most K limbs that has the number m. -/
def Num (w : World) (v : Value) (m K : Nat) : Prop := ∃ A n c xs, v = .slice A n c ∧ Sl w A n c xs ∧ val xs = m ∧ n ≤ K
theorem Num.below {w w' : World} {v : Value} {m K : Nat} (h : Num w v m K) (hb : Below w.heap.size w w') : Num w' v m K := by
  obtain ⟨A, n, c, xs, e, hs, hv, hn⟩ := h
  exact ⟨A, n, c, xs, e, hs.below hb, hv, hn⟩
theorem Num.alloc {w : World} {v : Value} {m K : Nat} (h : Num w v m K) (o : Obj) : Num (w.alloc o) v m K := h.below ((Below.refl _ _).alloc (Nat.le_refl _) o)
theorem Num.lt {w : World} {v : Value} {m K : Nat} (h : Num w v m K) : m < 4294967296 ^ K := by
  obtain ⟨A, n, c, xs, e, hs, hv, hn⟩ := h
  have h1 := val_lt hs.ok
  have h2 : 4294967296 ^ xs.length ≤ 4294967296 ^ K := Nat.pow_le_pow_right (by decide) (by have := hs.len; omega)
  omega
/-- What a call told. -/
theorem New.num {w : World} {base : Nat} {v : Value} {m : Nat} (h : New w base v (limbs m)) (K : Nat) (hm : m < 4294967296 ^ K) : Num w v m K := by
  obtain ⟨A, n, c, rfl, hs, _⟩ := h
  exact ⟨A, n, c, _, rfl, hs, limbs_val m, by have := limbs_len_le hm; have := hs.len; omega⟩
theorem New.next {w w' : World} {base : Nat} {v : Value} {xs : List Nat} (h : New w base v xs) (hb : Below w.heap.size w w') : New w' base v xs := h.below hb (Nat.le_refl _)
theorem New.lim {w : World} {base : Nat} {v : Value} {m K : Nat} (_h : New w base v (limbs m)) (hm : m < 4294967296 ^ K) : (limbs m).length ≤ K := limbs_len_le hm
section
variable {w : World} {u v : Value} {a b K L : Nat}
end
/-- How many bits a number has. -/
def bl (n : Nat) : Nat := if n = 0 then 0 else n.log2 + 1
theorem bl_zero : bl 0 = 0 := rfl
theorem bl_lt (n : Nat) : n < 2 ^ bl n := by
  unfold bl
  split
  · rename_i h; subst h; decide
  · exact Nat.lt_log2_self
theorem bl_le (n : Nat) (h : n ≠ 0) : 2 ^ (bl n - 1) ≤ n := by
  unfold bl
  rw [if_neg h]
  exact Nat.log2_self_le h
theorem bl_pos (n : Nat) (h : n ≠ 0) : 0 < bl n := by
  unfold bl
  rw [if_neg h]
  omega
theorem bl_unique {n k : Nat} (h0 : n ≠ 0) (h1 : n < 2 ^ k) (h2 : 2 ^ (k - 1) ≤ n) (hk : 0 < k) : k = bl n := by
  have a := bl_lt n
  have b := bl_le n h0
  have c := bl_pos n h0
  have d : k - 1 < bl n := (Nat.pow_lt_pow_iff_right (by decide : 1 < 2)).1 (Nat.lt_of_le_of_lt h2 a)
  have e : bl n - 1 < k := (Nat.pow_lt_pow_iff_right (by decide : 1 < 2)).1 (Nat.lt_of_le_of_lt b h1)
  omega
theorem bl_half (n : Nat) (h : n ≠ 0) : bl n = 1 + bl (n / 2) := by
  have a := bl_lt (n / 2)
  by_cases h1 : n / 2 = 0
  · have : n = 1 := by omega
    subst this
    decide
  · have b := bl_le (n / 2) h1
    have c := bl_pos (n / 2) h1
    refine (bl_unique h ?_ ?_ (by omega)).symm
    · rw [Nat.add_comm, Nat.pow_succ]; omega
    · obtain ⟨j, hj⟩ : ∃ j, bl (n / 2) = j + 1 := ⟨bl (n / 2) - 1, by omega⟩
      rw [hj] at b ⊢
      rw [show 1 + (j + 1) - 1 = j + 1 by omega, Nat.pow_succ]
      rw [show j + 1 - 1 = j by omega] at b
      omega
theorem bitLenAux_bl (f x : Nat) (h : x < 2 ^ f) : Lib.bitLenAux f x = bl x := by
  induction f generalizing x with
  | zero =>
    have : x = 0 := by omega
    subst this; rfl
  | succ f ih =>
    unfold Lib.bitLenAux
    split
    · rename_i h0; subst h0; rfl
    · rename_i h0
      rw [ih (x / 2) (by rw [Nat.pow_succ] at h; omega), bl_half x h0]
theorem bitLen_bl (x : Nat) (h : x < 4294967296) : Lib.bitLen x = bl x := bitLenAux_bl 64 x (Nat.lt_trans h (by decide))
/-- The number of bits of a number, by its limbs. -/
theorem bl_limbs (n m : Nat) (h : (limbs n).length = m + 1) : bl n = m * 32 + bl (lim (limbs n) m) := by
  have hl := limbs_val n
  have ht := limbs_trim n
  have e : limbs n = (limbs n).take m ++ [lim (limbs n) m] := by
    rw [← take_snoc _ _ (by omega), ← h, List.take_length]
  have hne : lim (limbs n) m ≠ 0 := by
    intro h0
    rw [h0] at e
    rw [e, trimL_snoc_zero] at ht
    have := trimL_len ((limbs n).take m)
    rw [ht] at this
    simp [h] at this
    omega
  have hv : n = val ((limbs n).take m) + 4294967296 ^ m * lim (limbs n) m := by
    have := val_snoc ((limbs n).take m) (lim (limbs n) m)
    rw [← e, List.length_take, Nat.min_eq_left (by omega), hl] at this
    exact this
  have hlt := val_take_lt (limbs_ok n) m
  generalize val ((limbs n).take m) = v at hv hlt
  generalize lim (limbs n) m = t at hv hne ⊢
  have a := bl_lt t
  have b := bl_le t hne
  have c := bl_pos t hne
  have hp : 4294967296 ^ m = 2 ^ (m * 32) := by rw [Nat.mul_comm, Nat.pow_mul]
  rw [hp] at hv hlt
  have hn0 : n ≠ 0 := by
    have : 2 ^ (m * 32) ≤ 2 ^ (m * 32) * t := Nat.le_mul_of_pos_right _ (by omega)
    have := Nat.pow_pos (n := m * 32) (show 0 < 2 by decide)
    omega
  refine (bl_unique hn0 ?_ ?_ (by omega)).symm
  · rw [Nat.pow_add]
    have : 2 ^ (m * 32) * (t + 1) ≤ 2 ^ (m * 32) * 2 ^ bl t := Nat.mul_le_mul_left _ a
    rw [Nat.mul_add, Nat.mul_one] at this
    omega
  · rw [show m * 32 + bl t - 1 = m * 32 + (bl t - 1) by omega, Nat.pow_add]
    have : 2 ^ (m * 32) * 2 ^ (bl t - 1) ≤ 2 ^ (m * 32) * t := Nat.mul_le_mul_left _ b
    omega
def ren32 : Go.Shelf.Ren := { f := fun n => if n = 128 then 165 else 0, t := fun n => if n = 3 then 3 else if n = 4 then 4 else if n = 5 then 5 else if n = 9 then 9 else if n = 46 then 170 else if n = 51 then 149 else 0, g := fun _ => 0 }
theorem lays32 : Go.Proofs.Lays.n128 Tryz.prog ren32 where
  mixed := by kernel_rfl
  f128 := by kernel_rfl
  t3 := by kernel_rfl
  a3 := fun _ => by kernel_rfl
  z3 := fun _ => by kernel_rfl
  v3 := fun _ => by kernel_rfl
  t4 := by kernel_rfl
  a4 := fun _ => by kernel_rfl
  z4 := fun _ => by kernel_rfl
  v4 := fun _ => by kernel_rfl
  t5 := by kernel_rfl
  a5 := fun _ => by kernel_rfl
  z5 := fun _ => by kernel_rfl
  v5 := fun _ => by kernel_rfl
  t9 := by kernel_rfl
  a9 := fun _ => by kernel_rfl
  z9 := fun _ => by kernel_rfl
  v9 := fun _ => by kernel_rfl
  t46 := by kernel_rfl
  a46 := fun _ => by kernel_rfl
  z46 := fun _ => by kernel_rfl
  v46 := fun _ => by kernel_rfl
  t51 := by kernel_rfl
  a51 := fun _ => by kernel_rfl
  z51 := fun _ => by kernel_rfl
  v51 := fun _ => by kernel_rfl
theorem len32_any (x : Nat) (hx : x < 4294967296) (w : World) : Calls Tryz.prog 165 #[.int .u32 (x : Int)] w fun e w' => e = .returned (.int .i64 (bl x : Int)) ∧ w = w' := by
  have := Go.Proofs.Any.bits_Len32 lays32 (x : Int) w (by omega) (by omega)
  rw [Int.toNat_natCast, bitLen_bl x hx] at this
  exact this.mono fun e w' ⟨he, hw⟩ => ⟨he, hw.symm⟩
set_option maxHeartbeats 800000 in
theorem bits_any (A : Option Addr) (n c : Nat) (xs : List Nat) (w : World) (h : Sl w A n c xs) (hn : n ≤ 35184372087808) :
    Calls Tryz.prog 144 #[.slice A n c] w fun e w' => e = .returned (.int .i64 (bl (val xs) : Int)) ∧ w = w' := by
  have ht := h.trim
  have hl := limbs_len_val h.ok
  have hlen := h.len
  rcases hm : (limbs (val xs)).length with _ | m
  · have e0 : val xs = 0 := (limbs_nil_iff _).1 (List.eq_nil_of_length_eq_zero hm)
    have H0 := Lib.hid e0
    have HM : Hid (0 = (limbs (val xs)).length) := hm.symm
    clear e0 ht hl hlen hm
    go_enter Tryz.func144, Tryz.ntmps144
    go_wp2_with (go_at_call 148; refine (trim_at _ _ _ _ _ h 0 HM).mono ?_; rintro e w' ⟨rfl, rfl⟩)
    go_ret
    exact ⟨by rw [H0.out]; rfl, rfl⟩
  · rw [hm] at ht hl
    have HM : Hid (m + 1 = (limbs (val xs)).length) := hm.symm
    have HB := Lib.hid (bl_limbs _ m hm)
    obtain ⟨b, off, rfl, hb, hc⟩ := ht.here (by omega)
    have hck := hc m (by omega)
    have hx := (limbs_ok (val xs)).getD m
    have hbm : m + 1 ≤ 35184372087808 := by omega
    have hne : (((m : Int) + 1) == 0) = false := beq_eq_false_iff_ne.2 (by omega)
    generalize lim (limbs (val xs)) m = t at hck hx HB
    have hbt : bl t ≤ 32 := by
      rcases Nat.lt_or_ge 32 (bl t) with h1 | h1
      · exfalso
        have h0 : t ≠ 0 := by intro h0; subst h0; rw [bl_zero] at h1; omega
        have h2 := bl_le t h0
        have h3 : 2 ^ 32 ≤ 2 ^ (bl t - 1) := Nat.pow_le_pow_right (by decide) (by omega)
        omega
      · exact h1
    clear hc ht hl hlen hm
    go_enter Tryz.func144, Tryz.ntmps144
    go_wp2_with (first | (go_at_call 148; refine (trim_at _ _ _ _ _ h (m + 1) HM).mono ?_; rintro e w' ⟨rfl, rfl⟩) | (go_at_call 165; refine (len32_any t hx _).mono ?_; rintro e w' ⟨rfl, rfl⟩))
    go_ret
    refine ⟨?_, rfl⟩
    rw [HB.out]
    exact congrArg (fun x => Ending.returned (.int .i64 x)) (by omega)
theorem bits_num {w : World} {u : Value} {a K : Nat} (hu : Num w u a K) (hK : K ≤ 35184372087808) : Calls Tryz.prog 144 #[u] w fun e w' => e = .returned (.int .i64 (bl a : Int)) ∧ w = w' := by
  obtain ⟨A1, n1, c1, xs, rfl, s1, rfl, k1⟩ := hu
  exact bits_any _ _ _ _ _ s1 (by omega)
theorem two_pow_split (s : Nat) : 2 ^ s = 4294967296 ^ (s / 32) * 2 ^ (s % 32) := by
  have h : 4294967296 ^ (s / 32) = 2 ^ (32 * (s / 32)) := (Nat.pow_mul 2 32 (s / 32)).symm
  rw [h, ← Nat.pow_add, Nat.div_add_mod]
theorem drop_two (Y : List Nat) (i : Nat) : val (Y.drop i) = lim Y i + 4294967296 * (lim Y (i + 1) + 4294967296 * val (Y.drop (i + 2))) := by
  rcases Nat.lt_or_ge i Y.length with h | h
  · rw [val_drop Y i h]
    rcases Nat.lt_or_ge (i + 1) Y.length with h1 | h1
    · rw [val_drop Y (i + 1) h1]
    · rw [List.drop_eq_nil_of_le h1, List.drop_eq_nil_of_le (by omega), lim_ge Y (i + 1) h1, val_nil]
  · rw [List.drop_eq_nil_of_le h, List.drop_eq_nil_of_le (by omega), lim_ge Y i h, lim_ge Y (i + 1) (by omega), val_nil]
theorem val_div_pow {Y : List Nat} (h : Ok Y) (i : Nat) : val Y / 4294967296 ^ i = val (Y.drop i) := by
  rcases Nat.lt_or_ge Y.length i with hi | hi
  · rw [List.drop_eq_nil_of_le (by omega), val_nil, Nat.div_eq_of_lt]
    exact Nat.lt_of_lt_of_le (val_lt h) (Nat.pow_le_pow_right (by decide) (by omega))
  · rw [val_take_drop Y i hi, Nat.add_mul_div_left _ _ (pow_pos' i), Nat.div_eq_of_lt (val_take_lt h i), Nat.zero_add]
theorem bl_bd {a K : Nat} (h : a < 4294967296 ^ K) : bl a ≤ 32 * K := by
  rcases Nat.eq_zero_or_pos a with h0 | h0
  · subst h0; rw [bl_zero]; omega
  · have h2 := bl_le a (by omega)
    have h3 : 2 ^ (bl a - 1) < 2 ^ (32 * K) := by
      rw [Nat.pow_mul]; exact Nat.lt_of_le_of_lt h2 h
    have := (Nat.pow_lt_pow_iff_right (by decide : 1 < 2)).1 h3
    omega
theorem Sl.only {w w' : World} {A : Option Addr} {n c g : Nat} {xs : List Nat} (h : Sl w A n c xs) (ho : Only g w w') (hne : ∀ b off, A = some ⟨b, off, none⟩ → b ≠ g) : Sl w' A n c xs :=
  ⟨h.len, h.le, h.max, h.ok, fun hn => by
    obtain ⟨b, off, e, hb, hc⟩ := h.here hn
    exact ⟨b, off, e, by rw [ho.size]; exact hb, fun i hi => (World.cell?_of_block (w := w) (a := ⟨b, off + i, none⟩) (ho.block b (hne b off e))).trans (hc i hi)⟩, h.nil_⟩
/-- A bit of a number. -/
def bitN (v i : Nat) : Nat := v / 2 ^ i % 2
theorem bitN_mod (R i : Nat) : R % 2 ^ (i + 1) = R % 2 ^ i + 2 ^ i * bitN R i := by
  unfold bitN
  rw [Nat.pow_succ, Nat.mod_mul]
/-- What holds while bits are set one by one, from below. -/
def BitInv (w : World) (R N i : Nat) (M : List Nat) (wr : World) : Prop := M.length = N ∧ Ok M ∧ val M = R % 2 ^ i ∧ Blk wr w.heap.size M ∧ Below w.heap.size w wr
theorem BitInv.lim_lt {w : World} {R N i : Nat} {M : List Nat} {wr : World} (h : BitInv w R N i M wr) : lim M (i / 32) < 2 ^ (i % 32) := by
  have h1 : val M < 2 ^ i := by rw [h.2.2.1]; exact Nat.mod_lt _ (Nat.pow_pos (by decide))
  rw [two_pow_split i] at h1
  have h2 : val M / 4294967296 ^ (i / 32) < 2 ^ (i % 32) := Nat.div_lt_of_lt_mul h1
  rw [val_div_pow h.2.1, drop_two] at h2
  omega
theorem BitInv.zero {w : World} {R N i : Nat} {M : List Nat} {wr : World} (h : BitInv w R N i M wr) (hb : bitN R i = 0) : BitInv w R N (i + 1) M wr :=
  ⟨h.1, h.2.1, by rw [h.2.2.1, bitN_mod, hb, Nat.mul_zero, Nat.add_zero], h.2.2.2⟩
theorem BitInv.one {w : World} {R N i : Nat} {M : List Nat} {wr : World} (h : BitInv w R N i M wr) (hb : bitN R i = 1) (hN : i / 32 < N) {z : Int} (hz : z = ((lim M (i / 32) + 2 ^ (i % 32) : Nat) : Int)) :
    BitInv w R N (i + 1) (M.set (i / 32) (lim M (i / 32) + 2 ^ (i % 32))) (wr.setCell ⟨w.heap.size, i / 32, none⟩ (.int .u32 z)) := by
  subst hz
  have hl := h.lim_lt
  have h1 : 2 ^ (i % 32) ≤ 2 ^ 31 := Nat.pow_le_pow_right (by decide) (by omega)
  refine ⟨by rw [List.length_set]; exact h.1, h.2.1.set _ _ (by omega), ?_, h.2.2.2.1.set_ _ _, h.2.2.2.2.setCell (Nat.le_refl _) _⟩
  have hs := val_set M (i / 32) (lim M (i / 32) + 2 ^ (i % 32)) (by rw [h.1]; exact hN)
  rw [Nat.mul_add, ← two_pow_split] at hs
  rw [bitN_mod, hb, Nat.mul_one, ← h.2.2.1]
  omega
/-- The whole number of a sign and a number. -/
def zOf (s : Bool) (m : Nat) : Int := if s then -(m : Int) else (m : Int)
theorem zOf_abs (s : Bool) (m : Nat) : (zOf s m).natAbs = m := by cases s <;> simp [zOf]
theorem zOf_neg (s : Bool) (m : Nat) : decide (zOf s m < 0) = (s && decide (0 < m)) := by
  cases s
  · simp [zOf]
  · simp only [zOf, if_true, Bool.true_and]
    exact decide_eq_decide.2 (by omega)
/-- The value v is a whole number's: a sign s, and a slice of at most K limbs that has the number m. -/
def Wh (w : World) (v : Value) (z : Int) (K : Nat) : Prop := ∃ s x m, v = .agg #[.bool s, x] ∧ Num w x m K ∧ z = zOf s m
/-- A call's own: without limbs of 0 at its end, nought without a sign. -/
def WNew (w : World) (base : Nat) (v : Value) (z : Int) : Prop := ∃ x, v = .agg #[.bool (decide (z < 0)), x] ∧ New w base x (limbs z.natAbs)
theorem Wh.below {w w' : World} {v : Value} {z : Int} {K : Nat} (h : Wh w v z K) (hb : Below w.heap.size w w') : Wh w' v z K := by
  obtain ⟨s, x, m, e, hn, hz⟩ := h
  exact ⟨s, x, m, e, hn.below hb, hz⟩
theorem Wh.lt {w : World} {v : Value} {z : Int} {K : Nat} (h : Wh w v z K) : z.natAbs < 4294967296 ^ K := by
  obtain ⟨s, x, m, e, hn, rfl⟩ := h
  rw [zOf_abs]; exact hn.lt
theorem WNew.next {w w' : World} {base : Nat} {v : Value} {z : Int} (h : WNew w base v z) (hb : Below w.heap.size w w') : WNew w' base v z := by
  obtain ⟨x, e, hn⟩ := h
  exact ⟨x, e, hn.next hb⟩
theorem WNew.from_ {w : World} {base base' : Nat} {v : Value} {z : Int} (h : WNew w base v z) (hb : base' ≤ base) : WNew w base' v z := by
  obtain ⟨x, e, hn⟩ := h
  exact ⟨x, e, hn.from_ hb⟩
theorem WNew.of {w : World} {base : Nat} {x : Value} (s : Bool) (m : Nat) (h : New w base x (limbs m)) {b : Bool} (hb : b = (s && decide (0 < m))) : WNew w base (.agg #[.bool b, x]) (zOf s m) :=
  ⟨x, by rw [zOf_neg, hb], by rw [zOf_abs]; exact h⟩
theorem New.nought {w : World} {base : Nat} {x : Value} {m : Nat} (h : New w base x (limbs m)) : ∃ A n c, x = .slice A n c ∧ n ≤ 2 ^ 63 - 1 ∧ (n = 0 ↔ m = 0) := by
  obtain ⟨A, n, c, rfl, hs, _⟩ := h
  have hlen := hs.len
  have hmax := Nat.le_trans hs.le hs.max
  unfold maxLen at hmax
  refine ⟨A, n, c, rfl, hmax, ?_⟩
  rw [hlen]
  constructor
  · intro h0; exact (limbs_nil_iff m).1 (List.length_eq_zero_iff.1 h0)
  · intro h0; rw [h0]; rfl
set_option maxHeartbeats 400000 in
theorem isNought_any {w : World} {x : Value} {s : Bool} {m K : Nat} (hx : Num w x m K) (hK : K ≤ 35184372087808) :
    Calls Tryz.prog 127 #[.agg #[.bool s, x]] w fun e w' => e = .returned (.bool (decide (m = 0))) ∧ Below w.heap.size w w' := by
  have hbl := bl_bd hx.lt
  have hz : m = 0 ↔ bl m = 0 := ⟨fun h => by rw [h]; rfl, fun h => by rcases Nat.eq_zero_or_pos m with h1 | h1; exact h1; exact absurd h (by have := bl_pos m (by omega); omega)⟩
  have HB := bits_num (hx.alloc (.cells #[.bool s, x] 24)) (by omega)
  obtain ⟨k, hk⟩ : ∃ k, k = bl m := ⟨_, rfl⟩
  rw [← hk] at hz hbl HB
  replace HB := Lib.hid HB
  have hd : decide (m = 0) = decide ((k : Int) = 0) := decide_eq_decide.2 (by omega)
  rw [hd]
  clear hk hd
  clear hz hx
  go_enter Tryz.func127, Tryz.ntmps127
  go_wp2_with fail
  refine HB.out.mono ?_
  rintro e w1 ⟨rfl, rfl⟩
  go_wp2_with fail
  go_ret
  exact ⟨rfl, (Below.refl _ _).alloc (Nat.le_refl _) _⟩
set_option maxHeartbeats 400000 in
theorem below_any {w : World} {x : Value} {s : Bool} {m K : Nat} (hx : Num w x m K) (hK : K ≤ 35184372087808) :
    Calls Tryz.prog 107 #[.agg #[.bool s, x]] w fun e w' => e = .returned (.bool (decide (zOf s m < 0))) ∧ Below w.heap.size w w' := by
  have hb0 : Below w.heap.size w (w.alloc (.cells #[.bool s, x] 24)) := (Below.refl _ _).alloc (Nat.le_refl _) _
  rw [zOf_neg]
  cases s
  · go_enter Tryz.func107, Tryz.ntmps107
    go_wp2_with fail
    go_ret
    exact ⟨rfl, hb0⟩
  · have h2 := Lib.hid (isNought_any (s := true) (hx.below hb0) hK)
    have hd : (true && decide (0 < m)) = !(decide (m = 0)) := by by_cases h : m = 0 <;> simp [h] <;> omega
    rw [hd]
    go_enter Tryz.func107, Tryz.ntmps107
    go_wp2_with fail
    refine h2.out.mono ?_
    rintro e w1 ⟨rfl, hb1⟩
    go_wp2_with fail
    go_ret
    exact ⟨rfl, bnext hb0 hb1⟩
/-- The block g is a variable that holds a whole number's sign and slice. -/
def Var (w : World) (g : Nat) (s x : Value) : Prop := w.heap[g]? = some (.cells #[s, x] 24 (0, 0))
section
variable {w w' : World} {g : Nat} {s x : Value}
theorem Var.lt (h : Var w g s x) : g < w.heap.size := by
  rcases Nat.lt_or_ge g w.heap.size with hg | hg
  · exact hg
  · unfold Var at h; rw [Array.getElem?_eq_none hg] at h; cases h
theorem Var.c0 (h : Var w g s x) : w.cell? ⟨g, 0, none⟩ = some s := by unfold Var at h; simp [World.cell?, h]
theorem Var.c1 (h : Var w g s x) : w.cell? ⟨g, 1, none⟩ = some x := by unfold Var at h; simp [World.cell?, h]
theorem Var.f0 (h : Var w g s x) : w.frozen? ⟨g, 0, none⟩ = false := by unfold Var at h; simp [World.frozen?, h]
theorem Var.f1 (h : Var w g s x) : w.frozen? ⟨g, 1, none⟩ = false := by unfold Var at h; simp [World.frozen?, h]
theorem Var.below {B : Nat} (h : Var w g s x) (hb : Below B w w') (hg : g < B) : Var w' g s x := (hb.block g hg).trans h
theorem Var.next (h : Var w g s x) (hb : Below w.heap.size w w') : Var w' g s x := h.below hb h.lt
theorem Var.alloc (h : Var w g s x) (o : Obj) : Var (w.alloc o) g s x := h.next ((Below.refl _ _).alloc (Nat.le_refl _) o)
theorem Var.drew (h : Var w g s x) : Var w.drew g s x := h
theorem Var.set0 (h : Var w g s x) (v : Value) : Var (w.setCell ⟨g, 0, none⟩ v) g v x := by
  unfold Var at *
  simp [World.setCell, Array.getElem?_modify, h]
theorem Var.far (h : Var w g s x) {p : Addr} (hp : g ≠ p.block) (u : Value) : Var (w.setCell p u) g s x := (Below.heap_setCell w p u g hp).trans h
theorem Var.mk_ (w : World) (s x : Value) : Var (w.alloc (.cells #[s, x] 24)) w.heap.size s x := heap_alloc_new w _
/-- What a store into the variable asks. -/
theorem Var.room (h : Var w g s x) (b : Value) : w.frozen? ⟨g, 0, none⟩ = false ∧ w.frozen? ⟨g, 1, none⟩ = false ∧ w.cell? ⟨g, 0, none⟩ = some s ∧ w.cell? ⟨g, 1, none⟩ = some x ∧ (w.setCell ⟨g, 0, none⟩ b).frozen? ⟨g, 1, none⟩ = false ∧ (w.setCell ⟨g, 0, none⟩ b).cell? ⟨g, 1, none⟩ = some x :=
  ⟨h.f0, h.f1, h.c0, h.c1, (h.set0 b).f1, (h.set0 b).c1⟩
end
theorem Wh.drew {w : World} {v : Value} {z : Int} {K : Nat} (h : Wh w v z K) : Wh w.drew v z K := h.below ((Below.refl _ _).drew)
theorem Num.drew {w : World} {v : Value} {m K : Nat} (h : Num w v m K) : Num w.drew v m K := h.below ((Below.refl _ _).drew)
theorem WNew.opened {w : World} {base : Nat} {v : Value} {z : Int} (h : WNew w base v z) : ∃ b A n c, v = .agg #[.bool b, .slice A n c] ∧ Hid (WNew w base (.agg #[.bool b, .slice A n c]) z) := by
  obtain ⟨x, rfl, A, n, c, rfl, hs⟩ := h
  exact ⟨_, A, n, c, rfl, ⟨_, rfl, A, n, c, rfl, hs⟩⟩
theorem Wh.opened {w : World} {v : Value} {z : Int} {K : Nat} (h : Wh w v z K) : ∃ b A n c, v = .agg #[.bool b, .slice A n c] ∧ Hid (Wh w (.agg #[.bool b, .slice A n c]) z K) := by
  obtain ⟨s, x, m, rfl, ⟨A, n, c, xs, rfl, hs⟩, hz⟩ := h
  exact ⟨_, A, n, c, rfl, ⟨s, _, m, rfl, ⟨A, n, c, xs, rfl, hs⟩, hz⟩⟩
section
variable {w : World} {u v : Value} {a b : Int} {K L : Nat}
end
section
variable {w : World} {u v : Value} {a b : Int} {K L : Nat}
end
section
variable {w : World} {u v : Value} {a b : Int} {K L : Nat}
end
section
variable {w : World} {u v : Value} {a b : Int} {K L : Nat}
end
end Go.Proofs.YthdhdmmlmbkalaaGreatDoor
