/-
  The law WriteNests: a list's text, and what the law asks of its arguments.
-/
import Derived.Test.YtgfamihldecmbaaDoorRo
import Derived.Test.YtgfamihldecmbaaDoorOx
import Derived.Test.YtgfamihldecmbaaDoorWriteApart
namespace Go.Proofs.YtgfamihldecmbaaDoor
open Go.RowKit

/-- What the law asks of an item. -/
def nestB (x : LT) : Bool := lightB x && decide (0 ≤ budT x 50 20)
theorem nest_says {w : World} {M : Nat} (x : LT) (hH : Held w M x) (h : nestB x = true) : x.size ≤ 50 ∧ x.depth ≤ 20 ∧ Tame x ∧ AllL pB x := by
  unfold nestB at h
  simp only [Bool.and_eq_true, decide_eq_true_eq] at h
  have h1 := light_says x hH h.1
  have h2 := budT_few x 50 20 (by decide) h.2
  have h3 := h.2
  exact ⟨by omega, by omega, h1.2.2.1, h1.2.2.2.1⟩
theorem normR_at : ∀ (l : List LT) (k : Nat) (hk : k < l.length), (normR l)[k]? = some (normT l[k])
  | t :: l, 0, _ => by rw [normR_cons]; rfl
  | t :: l, k + 1, hk => by rw [normR_cons]; simpa using normR_at l k (by simpa using hk)
theorem normR_length (l : List LT) : (normR l).length = l.length := by
  induction l with
  | nil => rw [normR_nil]; rfl
  | cons t l ih => rw [normR_cons, List.length_cons, ih, List.length_cons]
theorem normR_take (l : List LT) (k : Nat) (hk : k < l.length) : (normR l).take (k + 1) = (normR l).take k ++ [normT l[k]] := by rw [List.take_add_one, normR_at l k hk]; rfl
theorem nTake_ne {l : List LT} {k : Nat} (hk : 0 < k) (hn : k < l.length) : (normR l).take k ≠ [] := by
  intro h
  have := congrArg List.length h
  rw [List.length_take, normR_length, Nat.min_eq_left (by omega)] at this
  simp at this
  omega
/-- The list of these items, with this tail. -/
def nestT (a : Option Addr) (c : Nat) (l : List LT) (ta : Option Addr) (tc : Nat) (tl : List LT) : LT := .mk 5 false none 0 0 [] false ⟨#[]⟩ a c l ta tc tl
theorem nest_norm (a : Option Addr) (c : Nat) (l : List LT) : normT (nestT a c l none 0 []) = .mk 5 false [] false ⟨#[]⟩ (normR l) [] := by
  rw [normT_list _ rfl]
  show closeD (normR l ++ (spineR []).1, (spineR []).2) = _
  rw [spineR_nil, List.append_nil, close_none]
theorem nest_text (tf tg : ByteArray → ByteArray) (a : Option Addr) (c : Nat) (l : List LT) : wD tf tg (normT (nestT a c l none 0 [])) = 40 :: (wR tf tg (normR l) ++ [41]) := by
  rw [nest_norm]
  simp only [wD, wTl, if_neg (show ¬((5 : Int) = 1) by decide), if_neg (show ¬((5 : Int) = 2) by decide), if_neg (show ¬((5 : Int) = 3) by decide), if_neg (show ¬((5 : Int) = 4) by decide), if_pos, List.nil_append]
theorem spine_k5 (t : LT) (h : (normT t).k ≠ 5) : spineT t = ([], some (normT t)) := by
  unfold normT at h ⊢
  rcases hs : spineT t with ⟨l, e⟩
  rw [hs] at h
  cases e with
  | none => rw [close_none] at h; exact absurd rfl h
  | some e =>
    cases l with
    | nil => rfl
    | cons x l => rw [close_some _ _ (by simp)] at h; exact absurd rfl h
theorem nest_text1 (tf tg : ByteArray → ByteArray) (a : Option Addr) (c : Nat) (l : List LT) (hl : l ≠ []) (ta : Option Addr) (tc : Nat) (t : LT) (h : (normT t).k ≠ 5) :
    wD tf tg (normT (nestT a c l ta tc [t])) = 40 :: (wR tf tg (normR l) ++ (32 :: 46 :: 32 :: wD tf tg (normT t) ++ [41])) := by
  have hn : normR l ≠ [] := fun e => hl (List.length_eq_zero_iff.1 (by rw [← normR_length, e]; rfl))
  have e : normT (nestT a c l ta tc [t]) = .mk 5 false [] false ⟨#[]⟩ (normR l) [normT t] := by
    rw [normT_list _ rfl]
    show closeD (normR l ++ (spineR [t]).1, (spineR [t]).2) = _
    rw [spineR_cons, spine_k5 t h, List.append_nil, close_some _ _ hn]
  rw [e]
  simp only [wD, wTl, if_neg (show ¬((5 : Int) = 1) by decide), if_neg (show ¬((5 : Int) = 2) by decide), if_neg (show ¬((5 : Int) = 3) by decide), if_neg (show ¬((5 : Int) = 4) by decide), if_pos]
theorem allLR_of {p : Int → List Nat → ByteArray → Prop} : ∀ (l : List LT), (∀ x ∈ l, AllL p x) → AllLR p l
  | [], _ => by simp [AllLR]
  | t :: l, h => by simp only [AllLR]; exact ⟨h t (List.mem_cons_self ..), allLR_of l fun x hx => h x (List.mem_cons_of_mem _ hx)⟩
theorem tameR_of : ∀ (l : List LT), (∀ x ∈ l, Tame x) → TameR l
  | [], _ => by simp [TameR]
  | t :: l, h => by simp only [TameR]; exact ⟨h t (List.mem_cons_self ..), tameR_of l fun x hx => h x (List.mem_cons_of_mem _ hx)⟩
theorem sizes_of (n : Nat) : ∀ (l : List LT), (∀ x ∈ l, x.size ≤ n) → sizes l ≤ n * l.length
  | [], _ => by simp [sizes]
  | t :: l, h => by
    have h1 := h t (List.mem_cons_self ..)
    have h2 := sizes_of n l fun x hx => h x (List.mem_cons_of_mem _ hx)
    simp only [sizes, List.length_cons, Nat.mul_add, Nat.mul_one]; omega
theorem depths_of (n : Nat) : ∀ (l : List LT), (∀ x ∈ l, x.depth ≤ n) → depths l ≤ n
  | [], _ => by simp [depths]
  | t :: l, h => by
    have h1 := h t (List.mem_cons_self ..)
    have h2 := depths_of n l fun x hx => h x (List.mem_cons_of_mem _ hx)
    simp only [depths]; omega
/-- What holds of such a list. -/
theorem nest_good (a : Option Addr) (c : Nat) (l : List LT) (hn : l.length ≤ 10) (h : ∀ x ∈ l, x.size ≤ 50 ∧ x.depth ≤ 20 ∧ Tame x ∧ AllL pB x) (ta : Option Addr) (tc : Nat) (tl : List LT) (ht : tl = [] ∨ ∃ t : LT, tl = [t] ∧ t.size ≤ 400 ∧ t.depth ≤ 60 ∧ Tame t ∧ AllL pB t) :
    (nestT a c l ta tc tl).size ≤ 1000 ∧ (nestT a c l ta tc tl).depth ≤ 10000 ∧ Tame (nestT a c l ta tc tl) ∧ AllL pB (nestT a c l ta tc tl) := by
  have h1 := sizes_of 50 l fun x hx => (h x hx).1
  have h2 := depths_of 20 l fun x hx => (h x hx).2.1
  have h3 := tameR_of l fun x hx => (h x hx).2.2.1
  have h4 := allLR_of l fun x hx => (h x hx).2.2.2
  have ht2 : sizes tl ≤ 400 ∧ depths tl ≤ 60 ∧ TameR tl ∧ AllLR pB tl := by
    rcases ht with rfl | ⟨t, rfl, q1, q2, q3, q4⟩
    · exact ⟨by simp [sizes], by simp [depths], by simp [TameR], by simp [AllLR]⟩
    · exact ⟨by simp [sizes]; omega, by simp [depths]; omega, by simp [TameR, q3], by simp [AllLR, q4]⟩
  refine ⟨?_, ?_, ?_, ?_⟩
  · rw [LT.size_eq]
    show 1 + (sizes l + sizes tl) ≤ 1000
    omega
  · rw [LT.depth_eq]
    show 1 + max (depths l) (depths tl) ≤ 10000
    omega
  · rw [tame_eq]
    exact ⟨Nat.zero_le _, h3, ht2.2.2.1⟩
  · unfold nestT
    simp only [AllL]
    exact ⟨⟨okNil, okNil, Nat.zero_le _, by decide⟩, h4, ht2.2.2.2⟩
theorem nest_held {w : World} {M : Nat} {a : Option Addr} {c : Nat} {l : List LT} {ta : Option Addr} {tc : Nat} {tl : List LT} (h1 : Spot M a l.length c) (h2 : LiesR w M l (blk a) (ofs a)) (h3 : Spot M ta tl.length tc) (h4 : LiesR w M tl (blk ta) (ofs ta)) : Held w M (nestT a c l ta tc tl) :=
  ⟨⟨Sl.nil, fun h => absurd h (by simp [nestT, LT.ln]), empty_le⟩, h1, h3, h2, h4⟩
theorem spot_none (M : Nat) : Spot M none 0 0 := ⟨Nat.le_refl _, Nat.zero_le _, fun h => absurd h (by simp), fun _ => rfl⟩
theorem cat4 (a b : ByteArray) : (a ++ b).data.toList = a.data.toList ++ b.data.toList := by rw [ByteArray.data_append, Array.toList_append]
theorem bsz {s : ByteArray} {l : List UInt8} (h : s.data.toList = l) : s.size = l.length := by rw [← h]; exact (Array.length_toList (xs := s.data)).symm
theorem item_len (tf tg : ByteArray → ByteArray) (htf : ∀ s : ByteArray, s.size ≤ 1100 → (tf s).data.toList.length ≤ 30000) (htg : ∀ s : ByteArray, s.size ≤ 1100 → (tg s).data.toList.length ≤ 30000) (x : LT) (hA : AllL pB x) (hs : x.size ≤ 50) : (wD tf tg (normT x)).length ≤ 4100000 := by
  have h1 := wD_len tf tg htf htg _ (allD_norm keepsB x hA)
  have h2 := size_norm x
  omega
theorem len_name : ∀ s : ByteArray, s.size ≤ 1100 → (nameS s).data.toList.length ≤ 30000 := fun s hs => by have := nm_size s; rw [Array.length_toList]; show (nameS s).size ≤ _; omega
theorem len_quo : ∀ s : ByteArray, s.size ≤ 1100 → (quoS s).data.toList.length ≤ 30000 := fun s hs => by have := qu_size s; rw [Array.length_toList]; show (quoS s).size ≤ _; omega
theorem len_id : ∀ s : ByteArray, s.size ≤ 1100 → (id s).data.toList.length ≤ 30000 := fun s hs => by show s.data.toList.length ≤ _; rw [Array.length_toList]; show s.size ≤ _; omega
end Go.Proofs.YtgfamihldecmbaaDoor
