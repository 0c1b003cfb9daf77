/-
  Norm as a function of the shape alone: what it made stays, no more data, nor deeper ones; good data stay.
-/
import Derived.Test.YtgboiopkihemaaaTmd
namespace Go.Proofs.Ytgboiopkihemaaa
open Go.RowKit

mutual
def spineD : DT → List DT × Option DT
  | .mk k g ys bb s items tail => if k = 5 then (normsD items ++ (spinesD tail).1, (spinesD tail).2) else ([], some (leafD k g ys bb s))
def spinesD : List DT → List DT × Option DT
  | [] => ([], none)
  | t :: _ => spineD t
def normsD : List DT → List DT
  | [] => []
  | t :: l => closeD (spineD t) :: normsD l
end
def normD (d : DT) : DT := closeD (spineD d)
theorem spineD_eq (k : Int) (g : Bool) (ys : List Nat) (bb : Bool) (s : ByteArray) (items tail : List DT) : spineD (.mk k g ys bb s items tail) = if k = 5 then (normsD items ++ (spinesD tail).1, (spinesD tail).2) else ([], some (leafD k g ys bb s)) := by simp only [spineD]
theorem normsD_cons (t : DT) (l : List DT) : normsD (t :: l) = normD t :: normsD l := by simp [normsD, normD]
theorem normsD_nil : normsD [] = [] := by simp [normsD]
theorem spinesD_nil : spinesD [] = ([], none) := by simp [spinesD]
theorem spinesD_cons (t : DT) (l : List DT) : spinesD (t :: l) = spineD t := by simp [spinesD]
mutual
theorem spineD_shape : ∀ t : LT, spineD (shape t) = spineT t
  | .mk k g la ln lc ys bb s ia ic items ta tc tail => by
    have h1 := normsD_shapes items
    have h2 := spinesD_shapes tail
    simp only [shape, spineD, spineT, h1, h2]
theorem spinesD_shapes : ∀ l : List LT, spinesD (shapes l) = spineR l
  | [] => by simp [shapes, spinesD, spineR]
  | t :: l => by
    have h1 := spineD_shape t
    simp only [shapes, spinesD, spineR, h1]
theorem normsD_shapes : ∀ l : List LT, normsD (shapes l) = normR l
  | [] => by simp [shapes, normsD, normR]
  | t :: l => by
    have h1 := spineD_shape t
    have h2 := normsD_shapes l
    simp only [shapes, normsD, normR, h1, h2]
end
theorem normD_shape (t : LT) : normD (shape t) = normT t := by rw [normD, spineD_shape]; rfl

/-- No list, and as Norm leaves it. -/
def Leafy (e : DT) : Prop := spineD e = ([], some e)
theorem leafD_leafy (k : Int) (g : Bool) (ys : List Nat) (bb : Bool) (s : ByteArray) (hk : k ≠ 5) : Leafy (leafD k g ys bb s) := by
  unfold Leafy
  by_cases h1 : k = 1
  · have e : leafD k g ys bb s = .mk 1 (decide (zOf g (val ys) < 0)) (limbs (zOf g (val ys)).natAbs) false ⟨#[]⟩ [] [] := by unfold leafD; rw [if_pos h1]
    rw [e, spineD_eq, if_neg (by decide)]
    unfold leafD
    rw [if_pos rfl, limbs_val, ← zOf_self]
  · by_cases h2 : k = 2
    · subst h2
      have e : leafD 2 g ys bb s = .mk 2 false [] bb ⟨#[]⟩ [] [] := by simp [leafD]
      rw [e, spineD_eq, if_neg (by decide)]
      simp [leafD]
    · by_cases h3 : k = 3 ∨ k = 4
      · have e : leafD k g ys bb s = .mk k false [] false s [] [] := by unfold leafD; rw [if_neg h1, if_neg h2, if_pos h3]
        rw [e, spineD_eq, if_neg hk]
        unfold leafD
        rw [if_neg h1, if_neg h2, if_pos h3]
      · have e : leafD k g ys bb s = .mk k false [] false ⟨#[]⟩ [] [] := by unfold leafD; rw [if_neg h1, if_neg h2, if_neg h3]
        rw [e, spineD_eq, if_neg hk]
        unfold leafD
        rw [if_neg h1, if_neg h2, if_neg h3]
theorem Leafy.norm {e : DT} (h : Leafy e) : normD e = e := by rw [normD, h]; rfl
def SpineOk (p : List DT × Option DT) : Prop := (∀ x ∈ p.1, normD x = x) ∧ ∀ e, p.2 = some e → Leafy e
theorem normsD_same : ∀ l : List DT, (∀ x ∈ l, normD x = x) → normsD l = l
  | [], _ => normsD_nil
  | t :: l, h => by rw [normsD_cons, h t (by simp), normsD_same l fun x hx => h x (by simp [hx])]
theorem close_ok {p : List DT × Option DT} (h : SpineOk p) : normD (closeD p) = closeD p := by
  obtain ⟨l, o⟩ := p
  cases o with
  | none =>
    show normD (.mk 5 false [] false ⟨#[]⟩ l []) = .mk 5 false [] false ⟨#[]⟩ l []
    rw [normD, spineD_eq, if_pos rfl, spinesD_nil, normsD_same l h.1, List.append_nil]
    rfl
  | some e =>
    cases l with
    | nil => exact (h.2 e rfl).norm
    | cons x l =>
      show normD (.mk 5 false [] false ⟨#[]⟩ (x :: l) [e]) = .mk 5 false [] false ⟨#[]⟩ (x :: l) [e]
      rw [normD, spineD_eq, if_pos rfl, spinesD_cons, h.2 e rfl, normsD_same _ h.1, List.append_nil]
      rfl
mutual
theorem spineD_ok : ∀ d : DT, SpineOk (spineD d)
  | .mk k g ys bb s items tail => by
    have h1 := normsD_ok items
    have h2 := spinesD_ok tail
    rw [spineD_eq]
    by_cases hk : k = 5
    · rw [if_pos hk]
      refine ⟨fun x hx => ?_, h2.2⟩
      rcases List.mem_append.1 hx with hx | hx
      · exact h1 x hx
      · exact h2.1 x hx
    · rw [if_neg hk]
      exact ⟨fun x hx => by simp at hx, fun e he => by injection he with he; rw [← he]; exact leafD_leafy k g ys bb s hk⟩
theorem spinesD_ok : ∀ l : List DT, SpineOk (spinesD l)
  | [] => ⟨fun x hx => by simp [spinesD] at hx, fun e he => by simp [spinesD] at he⟩
  | t :: l => by rw [spinesD_cons]; exact spineD_ok t
theorem normsD_ok : ∀ l : List DT, ∀ x ∈ normsD l, normD x = x
  | [], x, hx => by simp [normsD] at hx
  | t :: l, x, hx => by
    rw [normsD_cons] at hx
    rcases List.mem_cons.1 hx with rfl | hx
    · exact close_ok (spineD_ok t)
    · exact normsD_ok l x hx
end
theorem normD_idem (d : DT) : normD (normD d) = normD d := close_ok (spineD_ok d)
/-- What has the shape that Norm tells, Norm leaves. -/
theorem normT_again {t u : LT} (h : shape u = normT t) : normT u = normT t := by rw [← normD_shape u, h, ← normD_shape t, normD_idem]

/-- All that a spine has. -/
def allS (p : List DT × Option DT) : List DT := p.1 ++ p.2.toList
theorem depthsD_append (l m : List DT) : depthsD (l ++ m) = max (depthsD l) (depthsD m) := by
  induction l with
  | nil => simp [depthsD]
  | cons t l ih => simp [depthsD, ih, Nat.max_assoc]
theorem tamesD_append (l m : List DT) : tamesD (l ++ m) ↔ tamesD l ∧ tamesD m := by
  induction l with
  | nil => simp [tamesD]
  | cons t l ih => simp [tamesD, ih, and_assoc]
theorem close_size (p : List DT × Option DT) : sizeD (closeD p) ≤ 1 + sizesD (allS p) ∧ depthD (closeD p) ≤ 1 + depthsD (allS p) ∧ (tamesD (allS p) → tameD (closeD p)) := by
  obtain ⟨l, o⟩ := p
  cases o with
  | none => simp [closeD, allS, sizeD, depthD, tameD, sizesD, depthsD, tamesD]
  | some e =>
    cases l with
    | nil => (simp [closeD, allS, sizesD, depthsD, tamesD]; try omega)
    | cons x l =>
      refine ⟨?_, ?_, ?_⟩
      · simp only [closeD, allS, Option.toList, sizesD_append, sizeD, sizesD]; omega
      · simp only [closeD, allS, Option.toList, depthsD_append, depthD, depthsD]; omega
      · simp only [closeD, allS, Option.toList, tamesD_append, tameD, tamesD]
        intro h
        exact ⟨by simp, h⟩
theorem leafD_small (k : Int) (g : Bool) (ys : List Nat) (bb : Bool) (s : ByteArray) : sizeD (leafD k g ys bb s) = 1 ∧ depthD (leafD k g ys bb s) = 1 ∧ (Ok ys → ys.length ≤ 1000 → tameD (leafD k g ys bb s)) := by
  unfold leafD
  split
  · refine ⟨by simp [sizeD, sizesD], by simp [depthD, depthsD], fun h1 h2 => ?_⟩
    simp only [tameD, tamesD, zOf_abs]
    exact ⟨Nat.le_trans (limbs_len_val h1) h2, trivial, trivial⟩
  · split
    · exact ⟨by simp [sizeD, sizesD], by simp [depthD, depthsD], fun _ _ => by simp [tameD, tamesD]⟩
    · split
      · exact ⟨by simp [sizeD, sizesD], by simp [depthD, depthsD], fun _ _ => by simp [tameD, tamesD]⟩
      · exact ⟨by simp [sizeD, sizesD], by simp [depthD, depthsD], fun _ _ => by simp [tameD, tamesD]⟩
mutual
/-- All words are words. -/
def okD : DT → Prop
  | .mk _ _ ys _ _ items tail => Ok ys ∧ oksD items ∧ oksD tail
def oksD : List DT → Prop
  | [] => True
  | t :: l => okD t ∧ oksD l
end
mutual
theorem norm_small : ∀ d : DT, (sizeD (normD d) ≤ sizeD d ∧ sizesD (allS (spineD d)) ≤ sizeD d) ∧ (depthD (normD d) ≤ depthD d ∧ depthsD (allS (spineD d)) ≤ depthD d) ∧ (okD d → tameD d → tameD (normD d) ∧ tamesD (allS (spineD d)))
  | .mk k g ys bb s items tail => by
    have h1 := norms_small items
    have h2 := spines_small tail
    unfold normD
    rw [spineD_eq]
    by_cases hk : k = 5
    · rw [if_pos hk]
      have e : allS (normsD items ++ (spinesD tail).1, (spinesD tail).2) = normsD items ++ allS (spinesD tail) := by simp [allS]
      obtain ⟨c1, c2, c3⟩ := close_size (normsD items ++ (spinesD tail).1, (spinesD tail).2)
      rw [e] at c1 c2 c3 ⊢
      rw [sizesD_append] at c1
      rw [depthsD_append] at c2
      rw [sizesD_append, depthsD_append, tamesD_append]
      rw [tamesD_append] at c3
      simp only [sizeD, depthD, okD, tameD]
      refine ⟨by omega, by omega, fun hO hT => ?_⟩
      have t1 := h1.2.2 hO.2.1 hT.2.1
      have t2 := h2.2.2 hO.2.2 hT.2.2
      exact ⟨c3 ⟨t1, t2⟩, t1, t2⟩
    · rw [if_neg hk]
      obtain ⟨l1, l2, l3⟩ := leafD_small k g ys bb s
      simp only [closeD, allS, Option.toList, List.nil_append, sizesD, depthsD, tamesD, l1, l2, sizeD, depthD, okD, tameD, and_true]
      refine ⟨by omega, by omega, fun hO hT => ?_⟩
      exact ⟨l3 hO.1 hT.1, l3 hO.1 hT.1⟩
theorem spines_small : ∀ l : List DT, sizesD (allS (spinesD l)) ≤ sizesD l ∧ depthsD (allS (spinesD l)) ≤ depthsD l ∧ (oksD l → tamesD l → tamesD (allS (spinesD l)))
  | [] => by simp [spinesD, allS, sizesD, depthsD, tamesD]
  | t :: l => by
    have h := norm_small t
    rw [spinesD_cons]
    simp only [sizesD, depthsD, oksD, tamesD]
    exact ⟨by omega, by omega, fun hO hT => (h.2.2 hO.1 hT.1).2⟩
theorem norms_small : ∀ l : List DT, sizesD (normsD l) ≤ sizesD l ∧ depthsD (normsD l) ≤ depthsD l ∧ (oksD l → tamesD l → tamesD (normsD l))
  | [] => by simp [normsD, sizesD, depthsD, tamesD]
  | t :: l => by
    have h := norm_small t
    have h' := norms_small l
    rw [normsD_cons]
    simp only [sizesD, depthsD, oksD, tamesD]
    exact ⟨by omega, by omega, fun hO hT => ⟨(h.2.2 hO.1 hT.1).1, h'.2.2 hO.2 hT.2⟩⟩
end
mutual
theorem ok_lies {w : World} {M : Nat} : ∀ (t : LT) (b o : Nat), Lies w M t b o → okD (shape t)
  | .mk k g la ln lc ys bb s ia ic items ta tc tail, b, o, h => by
    simp only [Lies] at h
    obtain ⟨h1, h2, h3, h4, h5, h6, h7⟩ := h
    simp only [shape, okD]
    exact ⟨h3.1.ok, oks_lies items _ _ h6, oks_lies tail _ _ h7⟩
theorem oks_lies {w : World} {M : Nat} : ∀ (l : List LT) (b o : Nat), LiesR w M l b o → oksD (shapes l)
  | [], _, _, _ => by simp [shapes, oksD]
  | t :: l, b, o, h => by
    simp only [LiesR] at h
    simp only [shapes, oksD]
    exact ⟨ok_lies t b o h.1, oks_lies l b (o + 7) h.2⟩
end
theorem ok_held {w : World} {M : Nat} {t : LT} (h : Held w M t) : okD (shape t) := by
  rw [shape_eq]
  simp only [okD]
  exact ⟨h.1.1.ok, oks_lies _ _ _ h.2.2.2.1, oks_lies _ _ _ h.2.2.2.2⟩
/-- Of what has the shape that Norm tells. -/
theorem norm_bounds {w w' : World} {M N : Nat} {t u : LT} (h : Held w M t) (hT : Tame t) (h' : Held w' N u) (hs : shape u = normT t) : u.size ≤ t.size ∧ u.depth ≤ t.depth ∧ Tame u := by
  have hb := norm_small (shape t)
  rw [normD_shape, ← hs, sizeD_shape, sizeD_shape, depthD_shape, depthD_shape] at hb
  exact ⟨hb.1.1, hb.2.1.1, (tame_held h').2 (hb.2.2 (ok_held h) ((tame_held h).1 hT)).1⟩
end Go.Proofs.Ytgboiopkihemaaa
