/-
  A number's text, read again: plain.
-/
import Derived.Test.YtjildimhflondaaDoorText2
namespace Go.Proofs.YtjildimhflondaaDoor
open Go.RowKit

/-- A byte's digit. -/
def dig (c : UInt8) : Nat := digN c.toNat
theorem dig_chr (d : Nat) (h : d < 36) : dig (chr d) = d := by
  have : ∀ d : Fin 36, dig (chr d.1) = d.1 := by decide
  exact this ⟨d, h⟩
theorem numB_map (b : Nat) (l : List UInt8) : numB b l = (l.map dig).foldl (fun a d => a * b + d) 0 := by
  rw [numB, List.foldl_map]; rfl
theorem numB_congr (b : Nat) {l l' : List UInt8} (h : l.map dig = l'.map dig) : numB b l = numB b l' := by rw [numB_map, numB_map, h]
theorem foldl_zeros (b : Nat) (z : Nat) (l : List Nat) : (List.replicate z 0 ++ l).foldl (fun a d => a * b + d) 0 = l.foldl (fun a d => a * b + d) 0 := by
  induction z with
  | zero => rfl
  | succ z ih => rw [List.replicate_succ, List.cons_append, List.foldl_cons, Nat.zero_mul, Nat.add_zero]; exact ih
theorem numB_zeros (b z : Nat) {l l' : List UInt8} (h : l.map dig = List.replicate z 0 ++ l'.map dig) : numB b l = numB b l' := by
  rw [numB_map, h, foldl_zeros, ← numB_map]
theorem numB_digits (b : Nat) (hb : b ≤ 36) (ds : List Nat) (h : Okb b ds) : numB b (ds.reverse.map chr) = valb b ds := by
  induction ds with
  | nil => rfl
  | cons x xs ih =>
    rw [List.reverse_cons, List.map_append, List.map_singleton, numB_snoc, ih h.tail, valb_cons]
    have : digN (chr x).toNat = x := dig_chr x (by have := h.head; omega)
    rw [this, Nat.mul_comm, Nat.add_comm]
theorem numB_txt (b n : Nat) (hb : 2 ≤ b) (hb2 : b ≤ 36) : numB b (txt b n) = n := by
  unfold txt
  split
  · rename_i h; subst h; simp [numB, digN]
  · rw [numB_digits b hb2 _ (digs_ok b n (by omega)), digs_val b n hb]
theorem good_txt (b n : Nat) (hb : 2 ≤ b) (hb2 : b ≤ 36) : ∀ c ∈ txt b n, dig c < b := by
  unfold txt
  split
  · intro c hc
    simp at hc
    subst hc
    simp [dig, digN]; omega
  · intro c hc
    obtain ⟨d, hd, rfl⟩ := List.mem_map.1 hc
    have := digs_ok b n (by omega) d (List.mem_reverse.1 hd)
    rw [dig_chr d (by omega)]
    exact this
theorem txt_pos (b n : Nat) (hb : 2 ≤ b) : 1 ≤ (txt b n).length := by
  unfold txt
  split
  · simp
  · rename_i h
    rw [List.length_map, List.length_reverse]
    rcases Nat.eq_zero_or_pos (digs b n).length with h0 | h0
    · exact absurd ((digs_nil_iff b n hb).1 (List.eq_nil_of_length_eq_zero h0)) h
    · exact h0
theorem digs_len (b n : Nat) (hb : 2 ≤ b) (m : Nat) (h : (digs b n).length = m + 1) : b ^ m ≤ n := by
  have ht : trimL (digs b n) = digs b n := trimL_idem _
  have e : digs b n = (digs b n).take m ++ [lim (digs b n) m] := by
    rw [← take_snoc _ _ (by omega), ← h, List.take_length]
  have hne : lim (digs b n) m ≠ 0 := by
    intro h0
    rw [h0] at e
    rw [e, trimL_snoc_zero] at ht
    have := trimL_len ((digs b n).take m)
    rw [ht] at this
    simp [h] at this
    omega
  have hv := digs_val b n hb
  rw [e, valb_snoc, List.length_take, Nat.min_eq_left (by omega)] at hv
  have : b ^ m ≤ b ^ m * lim (digs b n) m := Nat.le_mul_of_pos_right _ (by omega)
  omega
theorem txt_len (b n K : Nat) (hb : 2 ≤ b) (h : n < 4294967296 ^ K) : (txt b n).length ≤ 32 * K + 1 := by
  unfold txt
  split
  · simp
  · rw [List.length_map, List.length_reverse]
    rcases hm : (digs b n).length with _ | m
    · omega
    · have h1 := digs_len b n hb m hm
      have h2 : 2 ^ m ≤ b ^ m := Nat.pow_le_pow_left hb m
      have h3 : 2 ^ m < 2 ^ (32 * K) := by
        rw [Nat.pow_mul]; exact Nat.lt_of_le_of_lt (Nat.le_trans h2 h1) h
      have := (Nat.pow_lt_pow_iff_right (by decide : 1 < 2)).1 h3
      omega
theorem good_of_list {s : ByteArray} {b : Nat} (h : ∀ c ∈ s.data.toList, dig c < b) : ∀ k (hk : k < s.size), digN s[k].toNat < b := by
  intro k hk
  exact h s[k] (by
    have : s[k] = s.data.toList[k]'(by simpa using hk) := rfl
    rw [this]; exact List.getElem_mem _)
theorem good_of_dig {l l' : List UInt8} {b z : Nat} (hb : 0 < b) (h : l.map dig = List.replicate z 0 ++ l'.map dig) (hg : ∀ c ∈ l', dig c < b) : ∀ c ∈ l, dig c < b := by
  intro c hc
  have : dig c ∈ l.map dig := List.mem_map.2 ⟨c, hc, rfl⟩
  rw [h, List.mem_append] at this
  rcases this with h1 | h1
  · rw [List.eq_of_mem_replicate h1]; exact hb
  · obtain ⟨d, hd, e⟩ := List.mem_map.1 h1
    rw [← e]; exact hg d hd
/-- A letter's capital has its digit. -/
theorem dig_capital (c : Nat) (h1 : 97 ≤ c) (h2 : c ≤ 122) : digN (c - 32) = digN c := by
  unfold digN
  rw [if_neg (by omega), if_neg (by omega), if_pos (by omega), if_neg (by omega), if_pos (by omega)]
  omega
theorem digN_36 (c : Nat) (h : 122 < c) : digN c = 36 := by
  unfold digN
  rw [if_neg (by omega), if_neg (by omega), if_neg (by omega)]
end Go.Proofs.YtjildimhflondaaDoor
