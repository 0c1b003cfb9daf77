/-
  What is written of any datum; how long that is; what Norm keeps.
-/
import Derived.Test.YtgfamihldecmbaaDoorNg
import Derived.Test.YtgfamihldecmbaaDoorNw
import Derived.Test.YtgfamihldecmbaaDoorLst
namespace Go.Proofs.YtgfamihldecmbaaDoor
open Go.RowKit

mutual
/-- A datum as it is written, by tf a symbol, by tg a string. -/
def wD (tf tg : ByteArray → ByteArray) : DT → List UInt8
  | .mk k g ys bb s items tail =>
    if k = 1 then wtxt (zOf g (val ys)) else if k = 2 then (if bb then [35, 116] else [35, 102]) else if k = 3 then (tf s).data.toList else if k = 4 then (tg s).data.toList
    else if k = 5 then 40 :: (wR tf tg items ++ (wTl tf tg tail ++ [41])) else [35, 118]
/-- Items with blanks between. -/
def wR (tf tg : ByteArray → ByteArray) : List DT → List UInt8
  | [] => []
  | t :: l => wD tf tg t ++ wQ tf tg l
def wQ (tf tg : ByteArray → ByteArray) : List DT → List UInt8
  | [] => []
  | t :: l => 32 :: (wD tf tg t ++ wQ tf tg l)
def wTl (tf tg : ByteArray → ByteArray) : List DT → List UInt8
  | [] => []
  | t :: _ => 32 :: 46 :: 32 :: wD tf tg t
end
section
variable (tf tg : ByteArray → ByteArray)
theorem wR_nil : wR tf tg [] = [] := by simp [wR]
theorem wR_cons (t : DT) (l : List DT) : wR tf tg (t :: l) = wD tf tg t ++ wQ tf tg l := by simp [wR]
theorem wQ_nil : wQ tf tg [] = [] := by simp [wQ]
theorem wQ_cons (t : DT) (l : List DT) : wQ tf tg (t :: l) = 32 :: (wD tf tg t ++ wQ tf tg l) := by simp [wQ]
theorem wTl_nil : wTl tf tg [] = [] := by simp [wTl]
theorem wTl_cons (t : DT) (l : List DT) : wTl tf tg (t :: l) = 32 :: 46 :: 32 :: wD tf tg t := by simp [wTl]
theorem wQ_append (l m : List DT) : wQ tf tg (l ++ m) = wQ tf tg l ++ wQ tf tg m := by
  induction l with
  | nil => simp [wQ_nil]
  | cons t l ih => simp [wQ_cons, ih]
theorem wR_snoc (l : List DT) (t : DT) (h : l ≠ []) : wR tf tg (l ++ [t]) = wR tf tg l ++ 32 :: wD tf tg t := by
  cases l with
  | nil => exact absurd rfl h
  | cons x l => simp [wR_cons, wQ_append, wQ_cons, wQ_nil]
theorem wR_one (t : DT) : wR tf tg [t] = wD tf tg t := by simp [wR_cons, wQ_nil]
theorem wR_take (l : List DT) (k : Nat) : (wR tf tg (l.take k)).length ≤ (wR tf tg l).length := by
  cases l with
  | nil => simp [wR_nil]
  | cons x l =>
    cases k with
    | zero => simp [wR_nil]
    | succ k =>
      have h := congrArg List.length (wQ_append tf tg (l.take k) (l.drop k))
      rw [List.take_append_drop, List.length_append] at h
      simp only [List.take_succ_cons, wR_cons, List.length_append]
      omega
theorem wD_num (t : LT) (h : t.k = 1) : wD tf tg (shape t) = wtxt (zOf t.g (val t.ys)) := by rw [shape_eq, wD, if_pos h]
theorem wD_bool (t : LT) (h : t.k = 2) : wD tf tg (shape t) = if t.bb then [35, 116] else [35, 102] := by rw [shape_eq, wD, h, if_neg (by decide), if_pos rfl]
theorem wD_sym (t : LT) (h : t.k = 3) : wD tf tg (shape t) = (tf t.s).data.toList := by rw [shape_eq, wD, h, if_neg (by decide), if_neg (by decide), if_pos rfl]
theorem wD_str (t : LT) (h : t.k = 4) : wD tf tg (shape t) = (tg t.s).data.toList := by rw [shape_eq, wD, h, if_neg (by decide), if_neg (by decide), if_neg (by decide), if_pos rfl]
theorem wD_list (t : LT) (h : t.k = 5) : wD tf tg (shape t) = 40 :: (wR tf tg (shapes t.items) ++ (wTl tf tg (shapes t.tail) ++ [41])) := by rw [shape_eq, wD, h, if_neg (by decide), if_neg (by decide), if_neg (by decide), if_neg (by decide), if_pos rfl]
theorem wD_other (t : LT) (h1 : t.k ≠ 1) (h2 : t.k ≠ 2) (h3 : t.k ≠ 3) (h4 : t.k ≠ 4) (h5 : t.k ≠ 5) : wD tf tg (shape t) = [35, 118] := by rw [shape_eq, wD, if_neg h1, if_neg h2, if_neg h3, if_neg h4, if_neg h5]
end

mutual
/-- A property of all that is in it. -/
def AllD (p : Int → List Nat → ByteArray → Prop) : DT → Prop
  | .mk k _ ys _ s items tail => p k ys s ∧ AllDR p items ∧ AllDR p tail
def AllDR (p : Int → List Nat → ByteArray → Prop) : List DT → Prop
  | [] => True
  | t :: l => AllD p t ∧ AllDR p l
end
mutual
def sizeD : DT → Nat
  | .mk _ _ _ _ _ items tail => 1 + (sizesD items + sizesD tail)
def sizesD : List DT → Nat
  | [] => 0
  | t :: l => sizeD t + sizesD l
end
theorem allDR_append {p : Int → List Nat → ByteArray → Prop} (l m : List DT) : AllDR p (l ++ m) ↔ AllDR p l ∧ AllDR p m := by
  induction l with
  | nil => simp [AllDR]
  | cons t l ih => simp [AllDR, ih, and_assoc]
theorem sizesD_append (l m : List DT) : sizesD (l ++ m) = sizesD l + sizesD m := by
  induction l with
  | nil => simp [sizesD]
  | cons t l ih => simp [sizesD, ih]; omega
/-- A property that Norm keeps. -/
structure Keeps (p : Int → List Nat → ByteArray → Prop) : Prop where
  num : ∀ ys s, Ok ys → p 1 ys s → p 1 (limbs (val ys)) ⟨#[]⟩
  bool : p 2 [] ⟨#[]⟩
  text : ∀ k ys s, k = 3 ∨ k = 4 → p k ys s → p k [] s
  list : p 5 [] ⟨#[]⟩
  other : ∀ k ys s, p k ys s → k ≠ 1 → k ≠ 2 → k ≠ 3 → k ≠ 4 → k ≠ 5 → p k [] ⟨#[]⟩
mutual
/-- A property of all that is in a tree. -/
def AllL (p : Int → List Nat → ByteArray → Prop) : LT → Prop
  | .mk k _ _ _ _ ys _ s _ _ items _ _ tail => (Ok ys ∧ p k ys s) ∧ AllLR p items ∧ AllLR p tail
def AllLR (p : Int → List Nat → ByteArray → Prop) : List LT → Prop
  | [] => True
  | t :: l => AllL p t ∧ AllLR p l
end
theorem allD_leaf {p : Int → List Nat → ByteArray → Prop} (hp : Keeps p) (k : Int) (g : Bool) (ys : List Nat) (bb : Bool) (s : ByteArray) (h5 : k ≠ 5) (h : Ok ys ∧ p k ys s) : AllD p (leafD k g ys bb s) := by
  unfold leafD
  split
  · rename_i hk; subst hk
    simp only [AllD, AllDR, and_true]
    rw [zOf_abs]
    exact hp.num ys s h.1 h.2
  · split
    · simp only [AllD, AllDR, and_true]; exact hp.bool
    · split
      · rename_i hk
        simp only [AllD, AllDR, and_true]; exact hp.text k ys s hk h.2
      · simp only [AllD, AllDR, and_true]; exact hp.other k ys s h.2 (by omega) (by omega) (by omega) (by omega) h5
theorem allD_close {p : Int → List Nat → ByteArray → Prop} (hp : Keeps p) : ∀ (x : List DT × Option DT), AllDR p x.1 → (∀ e, x.2 = some e → AllD p e) → AllD p (closeD x)
  | (l, none), h, _ => by simp only [closeD, AllD]; exact ⟨hp.list, h, by simp [AllDR]⟩
  | ([], some e), _, h => h e rfl
  | (x :: l, some e), h, he => by simp only [closeD, AllD, AllDR, and_true]; exact ⟨hp.list, by simpa [AllDR] using h, he e rfl⟩
mutual
theorem allD_spine {p : Int → List Nat → ByteArray → Prop} (hp : Keeps p) : ∀ t : LT, AllL p t → AllDR p (spineT t).1 ∧ ∀ e, (spineT t).2 = some e → AllD p e
  | .mk k g la ln lc ys bb s ia ic items ta tc tail, h => by
    simp only [AllL] at h
    simp only [spineT]
    split
    · have h1 := allD_normR hp items h.2.1
      have h2 := allD_spineR hp tail h.2.2
      exact ⟨(allDR_append _ _).2 ⟨h1, h2.1⟩, h2.2⟩
    · rename_i h5
      refine ⟨by simp [AllDR], fun e he => ?_⟩
      obtain rfl := Option.some.inj he
      exact allD_leaf hp k g ys bb s h5 h.1
theorem allD_spineR {p : Int → List Nat → ByteArray → Prop} (hp : Keeps p) : ∀ l : List LT, AllLR p l → AllDR p (spineR l).1 ∧ ∀ e, (spineR l).2 = some e → AllD p e
  | [], _ => by simp [spineR, AllDR]
  | t :: l, h => by
    simp only [AllLR] at h
    simp only [spineR]
    exact allD_spine hp t h.1
theorem allD_normR {p : Int → List Nat → ByteArray → Prop} (hp : Keeps p) : ∀ l : List LT, AllLR p l → AllDR p (normR l)
  | [], _ => by simp [normR, AllDR]
  | t :: l, h => by
    simp only [AllLR] at h
    simp only [normR, AllDR]
    have h1 := allD_spine hp t h.1
    exact ⟨allD_close hp _ h1.1 h1.2, allD_normR hp l h.2⟩
end
theorem allD_norm {p : Int → List Nat → ByteArray → Prop} (hp : Keeps p) (t : LT) (h : AllL p t) : AllD p (normT t) := allD_close hp _ (allD_spine hp t h).1 (allD_spine hp t h).2

def optS : Option DT → Nat | none => 0 | some e => sizeD e
theorem sizeD_leaf (k : Int) (g : Bool) (ys : List Nat) (bb : Bool) (s : ByteArray) : sizeD (leafD k g ys bb s) = 1 := by unfold leafD; repeat (first | (split) | simp [sizeD, sizesD])
theorem sizeD_close : ∀ (x : List DT × Option DT), sizeD (closeD x) ≤ 1 + sizesD x.1 + optS x.2
  | (l, none) => by simp [closeD, sizeD, sizesD, optS]
  | ([], some e) => by simp [closeD, sizesD, optS]
  | (x :: l, some e) => by simp [closeD, sizeD, sizesD, optS]; omega
mutual
theorem size_spine : ∀ t : LT, sizesD (spineT t).1 + optS (spineT t).2 + 1 ≤ 2 * t.size
  | .mk k g la ln lc ys bb s ia ic items ta tc tail => by
    simp only [spineT, LT.size]
    split
    · have h1 := size_normR items
      have h2 := size_spineR tail
      show sizesD (normR items ++ (spineR tail).1) + optS (spineR tail).2 + 1 ≤ _
      rw [sizesD_append]; omega
    · simp [sizesD, optS, sizeD_leaf]; omega
theorem size_spineR : ∀ l : List LT, sizesD (spineR l).1 + optS (spineR l).2 ≤ 2 * sizes l
  | [] => by simp [spineR, sizesD, optS]
  | t :: l => by
    have h1 := size_spine t
    simp only [spineR, sizes]; omega
theorem size_normR : ∀ l : List LT, sizesD (normR l) ≤ 2 * sizes l
  | [] => by simp [normR, sizesD]
  | t :: l => by
    have h1 := size_spine t
    have h2 := size_normR l
    have h3 := sizeD_close (spineT t)
    simp only [normR, sizesD, sizes]
    omega
end
theorem size_norm (t : LT) : sizeD (normT t) ≤ 2 * t.size := by
  have h1 := size_spine t
  have h2 := sizeD_close (spineT t)
  unfold normT
  omega
def pB (_ : Int) (ys : List Nat) (s : ByteArray) : Prop := Ok ys ∧ ys.length ≤ 1000 ∧ s.size ≤ 1100
theorem okNil : Ok [] := fun _ h => by cases h
theorem keepsB : Keeps pB where
  num := fun ys s h hp => ⟨limbs_ok _, Nat.le_trans (limbs_len_val h) hp.2.1, by decide⟩
  bool := ⟨okNil, by decide, by decide⟩
  text := fun _ _ s _ hp => ⟨okNil, Nat.zero_le _, hp.2.2⟩
  list := ⟨okNil, by decide, by decide⟩
  other := fun _ _ _ _ _ _ _ _ _ => ⟨okNil, by decide, by decide⟩
theorem wtxt_len (g : Bool) (ys : List Nat) (h : Ok ys) (hl : ys.length ≤ 1000) : (wtxt (zOf g (val ys))).length ≤ 40000 := by
  have h2 := txt_len 10 (val ys) ys.length (by decide) (val_lt h)
  unfold wtxt
  rw [zOf_abs]
  split
  · rw [List.length_cons]; omega
  · omega
section
variable (tf tg : ByteArray → ByteArray)
mutual
theorem wD_len (htf : ∀ s : ByteArray, s.size ≤ 1100 → (tf s).data.toList.length ≤ 30000) (htg : ∀ s : ByteArray, s.size ≤ 1100 → (tg s).data.toList.length ≤ 30000) : ∀ d : DT, AllD pB d → (wD tf tg d).length + 4 ≤ 40010 * sizeD d
  | .mk k g ys bb s items tail, h => by
    simp only [AllD] at h
    have h1 := wR_len htf htg items h.2.1
    have h2 := wTl_len htf htg tail h.2.2
    have h3 := wtxt_len g ys h.1.1 h.1.2.1
    have h4 := htf s h.1.2.2
    have h5 := htg s h.1.2.2
    simp only [wD, sizeD]
    split
    · omega
    · split
      · split <;> simp only [List.length_cons, List.length_nil] <;> omega
      · split
        · omega
        · split
          · omega
          · split
            · simp only [List.length_cons, List.length_append, List.length_nil]; omega
            · simp only [List.length_cons, List.length_nil]; omega
theorem wR_len (htf : ∀ s : ByteArray, s.size ≤ 1100 → (tf s).data.toList.length ≤ 30000) (htg : ∀ s : ByteArray, s.size ≤ 1100 → (tg s).data.toList.length ≤ 30000) : ∀ l : List DT, AllDR pB l → (wR tf tg l).length ≤ 40010 * sizesD l
  | [], _ => by simp [wR]
  | t :: l, h => by
    simp only [AllDR] at h
    have h1 := wD_len htf htg t h.1
    have h2 := wQ_len htf htg l h.2
    simp only [wR, sizesD, List.length_append]; omega
theorem wQ_len (htf : ∀ s : ByteArray, s.size ≤ 1100 → (tf s).data.toList.length ≤ 30000) (htg : ∀ s : ByteArray, s.size ≤ 1100 → (tg s).data.toList.length ≤ 30000) : ∀ l : List DT, AllDR pB l → (wQ tf tg l).length ≤ 40010 * sizesD l
  | [], _ => by simp [wQ]
  | t :: l, h => by
    simp only [AllDR] at h
    have h1 := wD_len htf htg t h.1
    have h2 := wQ_len htf htg l h.2
    simp only [wQ, sizesD, List.length_cons, List.length_append]; omega
theorem wTl_len (htf : ∀ s : ByteArray, s.size ≤ 1100 → (tf s).data.toList.length ≤ 30000) (htg : ∀ s : ByteArray, s.size ≤ 1100 → (tg s).data.toList.length ≤ 30000) : ∀ l : List DT, AllDR pB l → (wTl tf tg l).length ≤ 40010 * sizesD l
  | [], _ => by simp [wTl]
  | t :: l, h => by
    simp only [AllDR] at h
    have h1 := wD_len htf htg t h.1
    simp only [wTl, sizesD, List.length_cons]; omega
end
end
end Go.Proofs.YtgfamihldecmbaaDoor
