/-
  The reader: All of a text, and rows of data.
-/
import Derived.Test.YtlohdglhebplfaaGreatDoorRdx4
import Derived.Test.YtlohdglhebplfaaGreatDoorRdx3
import Derived.Test.YtlohdglhebplfaaGreatDoorSkz
import Derived.Test.YtlohdglhebplfaaGreatDoorRsg
namespace Go.Proofs.YtlohdglhebplfaaGreatDoor
open Go.RowKit

section

theorem ahead_ext (l m : By) : aheadL (l ++ 10 :: m) = aheadL l := by
  induction l with
  | nil => rfl
  | cons c l ih =>
    show List.takeWhile _ (c :: (l ++ 10 :: m)) = List.takeWhile _ (c :: l)
    rw [List.takeWhile_cons, List.takeWhile_cons]
    split
    · exact congrArg _ ih
    · rfl
theorem ahead_le (l : By) : (aheadL l).length ≤ l.length := by
  induction l with
  | nil => simp [aheadL]
  | cons c l ih =>
    show (List.takeWhile _ (c :: l)).length ≤ _
    rw [List.takeWhile_cons]
    split
    · simp only [List.length_cons]
      have : (List.takeWhile (fun c => !(isBl c || isMk c)) l).length ≤ l.length := ih
      omega
    · simp
theorem drop_ext {l m : By} {n : Nat} (h : n ≤ l.length) : (l ++ m).drop n = l.drop n ++ m := by
  rw [List.drop_append, show n - l.length = 0 by omega, List.drop_zero]
theorem atom_ext {l r m : By} {d : DT} (h : atomL l = .ok d r) : atomL (l ++ 10 :: m) = .ok d (r ++ 10 :: m) := by
  unfold atomL at h ⊢
  dsimp only at h ⊢
  rw [ahead_ext, drop_ext (ahead_le l)]
  split at h
  · rename_i h1; cases h; rw [if_pos h1]
  · rename_i h1
    rw [if_neg h1]
    split at h
    · rename_i h2; cases h; rw [if_pos h2]
    · rename_i h2
      rw [if_neg h2]
      split at h
      · rename_i h3; cases h; rw [if_pos h3]
      · rename_i h3
        rw [if_neg h3]
        split at h
        · rename_i h4; cases h; rw [if_pos h4]
        · cases h
theorem blanks_ext (l m : By) : blanksL (l ++ 10 :: m) = blanksL l := by
  induction l with
  | nil => rfl
  | cons c l ih =>
    show (List.takeWhile _ (c :: (l ++ 10 :: m))).length = (List.takeWhile _ (c :: l)).length
    rw [List.takeWhile_cons, List.takeWhile_cons]
    split
    · rw [List.length_cons, List.length_cons]; exact congrArg (· + 1) ih
    · rfl
theorem get_ext {l m : By} {i : Nat} {x : UInt8} (h : l[i]? = some x) : (l ++ m)[i]? = some x := by
  have hi : i < l.length := (List.getElem?_eq_some_iff.1 h).1
  rw [List.getElem?_append_left hi]; exact h
theorem broken_ext {l m : By} (h : brokenL l ≠ 0) : brokenL (l ++ 10 :: m) = brokenL l := by
  unfold brokenL at h ⊢
  split at h
  · rename_i h1
    have hi : 1 + blanksL (l.drop 1) < l.length := (List.getElem?_eq_some_iff.1 h1).1
    rw [drop_ext (by omega), blanks_ext, if_pos (get_ext h1), if_pos h1, drop_ext (by omega), blanks_ext]
  · exact absurd rfl h
theorem hexL_two (a b : UInt8) (l : By) : hexL (a :: b :: l) = if hexN a.toNat = 16 then none else if b = 59 then some ([UInt8.ofNat (hexN a.toNat)], 4) else if hexN b.toNat = 16 then none else match l with
      | [] => none
      | c :: _ => if c = 59 then some ([UInt8.ofNat (hexN a.toNat * 16 + hexN b.toNat)], 5) else none := rfl
theorem hex_ext {l m : By} {p : By × Nat} (h : hexL l = some p) : hexL (l ++ m) = some p := by
  cases l with
  | nil => cases h
  | cons a l =>
    cases l with
    | nil => simp [hexL] at h
    | cons b l =>
      rw [List.cons_append, List.cons_append, hexL_two]
      rw [hexL_two] at h
      by_cases h1 : hexN a.toNat = 16
      · rw [if_pos h1] at h; cases h
      · rw [if_neg h1] at h ⊢
        by_cases h2 : b = 59
        · rw [if_pos h2] at h ⊢; exact h
        · rw [if_neg h2] at h ⊢
          by_cases h3 : hexN b.toNat = 16
          · rw [if_pos h3] at h; cases h
          · rw [if_neg h3] at h ⊢
            cases l with
            | nil => cases h
            | cons c l => exact h
theorem esc_ext {l m : By} {k : UInt8} {p : By × Nat} (h : escL k l = some p) : escL k (l ++ 10 :: m) = some p := by
  unfold escL at h ⊢
  cases h1 : l[1]? with
  | none => rw [h1] at h; cases h
  | some c =>
    rw [h1] at h
    rw [get_ext h1]
    dsimp only at h ⊢
    have hi : 1 < l.length := (List.getElem?_eq_some_iff.1 h1).1
    split at h
    · rename_i a1; rw [if_pos a1]; exact h
    · rename_i a1
      rw [if_neg a1]
      split at h
      · rename_i a2; rw [if_pos a2]; exact h
      · rename_i a2
        rw [if_neg a2]
        split at h
        · rename_i a3; rw [if_pos a3]; exact h
        · rename_i a3
          rw [if_neg a3]
          split at h
          · rename_i a4; rw [if_pos a4]; exact h
          · rename_i a4
            rw [if_neg a4]
            split at h
            · rename_i a5; rw [if_pos a5, drop_ext (by omega)]; exact hex_ext h
            · rename_i a5
              rw [if_neg a5]
              split at h
              · cases h
              · rename_i a6
                rw [broken_ext a6, if_neg a6]; exact h
theorem mk_ext : ∀ (n n' : Nat) (k : UInt8) (acc l m a r : By), n ≤ n' → mkL n k acc l = (some a, r) → mkL n' k acc (l ++ 10 :: m) = (some a, r ++ 10 :: m)
  | 0, _, _, _, _, _, _, _, _, h => by simp [mkL] at h
  | n + 1, 0, _, _, _, _, _, _, hn, _ => absurd hn (by omega)
  | n + 1, n' + 1, k, acc, [], m, a, r, _, h => by simp [mkL] at h
  | n + 1, n' + 1, k, acc, c :: l, m, a, r, hn, h => by
    show mkL (n' + 1) k acc (c :: (l ++ 10 :: m)) = _
    by_cases h1 : c = k
    · subst h1
      rw [mkL_end] at h ⊢
      cases h
      rfl
    · by_cases h2 : c = 92
      · rw [mkL_esc _ _ _ _ _ h1 h2] at h ⊢
        cases hx : escL k (c :: l) with
        | none => rw [hx] at h; cases h
        | some p =>
          obtain ⟨b, j⟩ := p
          rw [hx] at h
          have hx2 := esc_ext (m := m) hx
          rw [List.cons_append] at hx2
          rw [hx2]
          have hj := escL_bounds hx
          have := mk_ext n n' k (acc ++ b) ((c :: l).drop j) m a r (by omega) h
          rw [← drop_ext (by simp only [List.length_cons] at hj ⊢; omega)] at this
          exact this
      · rw [mkL_byte _ _ _ _ _ h1 h2] at h ⊢
        exact mk_ext n n' k _ l m a r (by omega) h
theorem str_ext {l r m : By} {d : DT} {c : UInt8} (h : strL (c :: l) = .ok d r) : strL (c :: (l ++ 10 :: m)) = .ok d (r ++ 10 :: m) := by
  unfold strL at h ⊢
  rw [List.drop_one, List.tail_cons] at h ⊢
  split at h
  · cases h
  · rename_i s q hq
    have hq2 := mk_ext _ ((c :: (l ++ 10 :: m)).length + 1) _ _ _ m _ _ (by simp) hq
    rw [hq2]
    dsimp only
    split at h
    · rename_i h1; cases h; rw [if_pos h1]
    · cases h
theorem bar_ext {l r m : By} {d : DT} {c : UInt8} (h : barL (c :: l) = .ok d r) : barL (c :: (l ++ 10 :: m)) = .ok d (r ++ 10 :: m) := by
  unfold barL at h ⊢
  rw [List.drop_one, List.tail_cons] at h ⊢
  split at h
  · cases h
  · rename_i s q hq
    have hq2 := mk_ext _ ((c :: (l ++ 10 :: m)).length + 1) _ _ _ m _ _ (by simp) hq
    rw [hq2]
    dsimp only
    split at h
    · rename_i h1; cases h; rw [if_pos h1]
    · cases h
theorem quote_ext (c : UInt8) (l m : By) : quoteL c (l ++ 10 :: m) = ((quoteL c l).1, (quoteL c l).2 ++ 10 :: m) := by
  unfold quoteL
  split
  · rfl
  · split
    · rfl
    · cases l with
      | nil => rfl
      | cons a l =>
        simp only [List.cons_append, List.head?_cons]
        by_cases h : a = 64
        · subst h; rfl
        · simp [h]
theorem line_ext (l m : By) : lineL (l ++ 10 :: m) = lineL l ++ 10 :: m := by
  induction l with
  | nil => rfl
  | cons c l ih =>
    show List.dropWhile _ (c :: (l ++ 10 :: m)) = List.dropWhile _ (c :: l) ++ 10 :: m
    rw [List.dropWhile_cons, List.dropWhile_cons]
    split
    · exact ih
    · rfl
theorem blk_ext : ∀ (o : Nat) (l m r : By), blkL o l = some r → blkL o (l ++ m) = some (r ++ m)
  | o, [], m, r, h => by unfold blkL at h; cases h
  | o, [_], m, r, h => by unfold blkL at h; cases h
  | o, c :: d :: l, m, r, h => by
    show blkL o (c :: d :: (l ++ m)) = _
    unfold blkL at h ⊢
    split at h
    · rename_i h1; rw [if_pos h1]; exact blk_ext _ l m r h
    · rename_i h1
      rw [if_neg h1]
      split at h
      · rename_i h2
        rw [if_pos h2]
        split at h
        · rename_i h3; rw [if_pos h3]; cases h; rfl
        · rename_i h3; rw [if_neg h3]; exact blk_ext _ l m r h
      · rename_i h2
        rw [if_neg h2]
        exact blk_ext _ (d :: l) m r h
theorem stop_ext {l m : By} (h : stopL l = true) (hl : l ≠ []) : stopL (l ++ 10 :: m) = true := by
  match l, hl with
  | [c], _ =>
    simp only [stopL, List.head?_nil, Bool.and_eq_true, Bool.not_eq_true', beq_eq_false_iff_ne, ne_eq] at h
    simp only [List.cons_append, List.nil_append, stopL, List.head?_cons, Bool.and_eq_true, Bool.not_eq_true', beq_eq_false_iff_ne, ne_eq]
    exact ⟨h.1, by simp⟩
  | c :: d :: l, _ => exact h
theorem rd_ext (m : By) : ∀ n : Nat, (∀ (l : By) (k : Nat) (z : DT) (r : By), rd n .skip l k = .ok z r → ∀ R, Rdd .skip (r ++ 10 :: m) k R → Rdd .skip (l ++ 10 :: m) k R) ∧
    (∀ (l : By) (k : Nat) (d : DT) (r : By), rd n .datum l k = .ok d r → Rdd .datum (l ++ 10 :: m) k (.ok d (r ++ 10 :: m))) ∧
    ∀ (l : By) (k : Nat) (e : UInt8) (acc : List DT) (d : DT) (r : By), rd n (.list e acc) l k = .ok d r → Rdd (.list e acc) (l ++ 10 :: m) k (.ok d (r ++ 10 :: m))
  | 0 => ⟨fun _ _ _ _ h => (by rw [rd.eq_def] at h; cases h), fun _ _ _ _ h => (by rw [rd.eq_def] at h; cases h), fun _ _ _ _ _ _ h => (by rw [rd.eq_def] at h; cases h)⟩
  | n + 1 => by
    obtain ⟨ihs, ihd, ihl⟩ := rd_ext m n
    refine ⟨fun l k z r h R H => ?_, fun l k d r h => ?_, fun l k e acc d r h => ?_⟩
    · cases l with
      | nil => rw [rd_skip_nil] at h; cases h; exact H
      | cons c t =>
        rw [rd_skip_cons] at h
        rw [List.cons_append]
        split at h
        · rename_i h1; exact .bl h1 (ihs _ _ _ _ h R H)
        · rename_i h1
          split at h
          · rename_i h2
            subst h2
            have h3 := ihs _ _ _ _ h R H
            have e : lineL (59 :: t) = lineL t := by simp [lineL]
            rw [e] at h3
            exact .line (by rw [line_ext]; exact h3)
          · rename_i h2
            split at h
            · rename_i h3
              obtain ⟨rfl, h4⟩ := h3
              cases t with
              | nil => cases h4
              | cons a t =>
                injection h4 with h4
                subst h4
                split at h
                · rename_i q hq
                  rw [List.drop_one, List.tail_cons] at hq
                  exact .block (blk_ext _ _ _ _ hq) (ihs _ _ _ _ h R H)
                · cases h
            · rename_i h3
              split at h
              · rename_i h5
                obtain ⟨rfl, h4⟩ := h5
                cases t with
                | nil => cases h4
                | cons a t =>
                  injection h4 with h4
                  subst h4
                  split at h
                  · rename_i q hq
                    rw [List.drop_one, List.tail_cons] at hq
                    exact .unread (ihd _ _ _ _ hq) (ihs _ _ _ _ h R H)
                  · cases h
              · cases h
                exact H
    · rw [rd_datum] at h
      split at h
      · cases h
      · cases h
      · rename_i z c t hs
        have hst := rd_stop n _ _ _ _ hs
        have hS : Rdd .skip (l ++ 10 :: m) k (.ok zeroD (c :: (t ++ 10 :: m))) := ihs _ _ _ _ hs _ (.stop (stop_ext hst.1 (by simp)))
        split at h
        · rename_i h1
          split at h
          · cases h
          · exact .dlist hS h1 (by omega) (ihl _ _ _ _ _ _ h)
        · rename_i h1
          split at h
          · cases h
          · rename_i h2
            split at h
            · rename_i h3
              split at h
              · cases h
              · rename_i hk
                split at h
                · cases h
                · rename_i hd
                  cases h
                  have e := quote_ext c t m
                  have hq := ihd _ _ _ _ hd
                  have := Rdd.dquote hS h3 (by omega) (d := _) (r := _) (by rw [e]; exact hq)
                  rw [e] at this
                  exact this
            · rename_i h3
              split at h
              · rename_i h4
                subst h4
                have := Rdd.dstr hS
                rw [str_ext h] at this
                exact this
              · rename_i h4
                split at h
                · rename_i h5
                  subst h5
                  have := Rdd.dbar hS
                  rw [bar_ext h] at this
                  exact this
                · rename_i h5
                  have := Rdd.datom hS (by
                    simp only [opensL, Bool.or_eq_false_iff, beq_eq_false_iff_ne, ne_eq]
                    exact ⟨⟨⟨⟨⟨⟨⟨⟨fun a => h1 (.inl a), fun a => h1 (.inr a)⟩, fun a => h2 (.inl a)⟩, fun a => h2 (.inr a)⟩, fun a => h3 (.inl a)⟩, fun a => h3 (.inr (.inl a))⟩, fun a => h3 (.inr (.inr a))⟩, h4⟩, h5⟩)
                  rw [← List.cons_append, atom_ext h] at this
                  exact this
    · rw [rd_list] at h
      split at h
      · cases h
      · rename_i z t hs
        have hst := rd_stop n _ _ _ _ hs
        cases t with
        | nil =>
          exfalso
          rw [if_neg (by simp), if_neg (by simp [aheadL])] at h
          split at h
          · cases h
          · rename_i hd
            cases n with
            | zero => rw [rd.eq_def] at hd; cases hd
            | succ n =>
              rw [rd_datum] at hd
              cases n with
              | zero => rw [rd.eq_def] at hd; cases hd
              | succ n => rw [rd_skip_nil] at hd; cases hd
        | cons c t =>
          have hS : Rdd .skip (l ++ 10 :: m) k (.ok zeroD (c :: (t ++ 10 :: m))) := ihs _ _ _ _ hs _ (.stop (stop_ext hst.1 (by simp)))
          split at h
          · rename_i h1
            cases h
            exact .lclose hS h1
          · rename_i h1
            split at h
            · rename_i h2
              have h2' : acc ≠ [] ∧ aheadL (c :: (t ++ 10 :: m)) = [46] := ⟨h2.1, by rw [← List.cons_append, ahead_ext]; exact h2.2⟩
              rw [List.drop_one, List.tail_cons] at h
              split at h
              · cases h
              · rename_i hd
                split at h
                · cases h
                · rename_i hq
                  split at h
                  · rename_i h3
                    cases h
                    rename_i d1 r1 z2 q1
                    have hst2 := rd_stop n _ _ _ _ hq
                    cases q1 with
                    | nil => cases h3
                    | cons a q1 => exact .ldot hS h1 h2' (ihd _ _ _ _ hd) (ihs _ _ _ _ hq _ (.stop (stop_ext hst2.1 (by simp)))) h3
                  · cases h
            · rename_i h2
              have h2' : ¬ (acc ≠ [] ∧ aheadL (c :: (t ++ 10 :: m)) = [46]) := fun a => h2 ⟨a.1, by rw [← List.cons_append, ahead_ext] at a; exact a.2⟩
              split at h
              · cases h
              · rename_i hd
                exact .litem hS h1 h2' (ihd _ _ _ _ hd) (ihl _ _ _ _ _ _ h)
theorem Rdd.dext {l r : By} {k : Nat} {d : DT} (h : Rdd .datum l k (.ok d r)) (m : By) : Rdd .datum (l ++ 10 :: m) k (.ok d (r ++ 10 :: m)) := by
  obtain ⟨n, h⟩ := h
  exact (rd_ext m n).2.1 _ _ _ _ (h n (Nat.le_refl _))
theorem Rdd.sext {l r : By} {k : Nat} {z : DT} (h : Rdd .skip l k (.ok z r)) {m : By} {R : Res} (H : Rdd .skip (r ++ 10 :: m) k R) : Rdd .skip (l ++ 10 :: m) k R := by
  obtain ⟨n, h⟩ := h
  exact (rd_ext m n).1 _ _ _ _ (h n (Nat.le_refl _)) R H

/-- All that stands in a text, as Read tells it. -/
inductive RdA : By → List DT → Prop
  | nil {l : By} : Rdd .skip l 0 (.ok zeroD []) → RdA l []
  | cons {l r q : By} {d : DT} {ds : List DT} : Rdd .skip l 0 (.ok zeroD r) → r ≠ [] → Rdd .datum r 0 (.ok d q) → sizeD (normD d) ≤ 5000 → depthD (normD d) ≤ 200 → RdA q ds → RdA l (normD d :: ds)
theorem RdA.join {a b : By} {l m : List DT} (h : RdA a l) (g : RdA b m) : RdA (a ++ 10 :: b) (l ++ m) := by
  induction h with
  | nil hs =>
    cases g with
    | nil h1 => exact .nil (hs.sext (.bl rfl h1))
    | cons h1 h2 h3 h4 h5 h6 => exact .cons (hs.sext (.bl rfl h1)) h2 h3 h4 h5 h6
  | cons h1 h2 h3 h4 h5 _ ih =>
    rename_i l1 r1 q1 d1 ds1 _
    refine .cons (r := r1 ++ 10 :: b) (h1.sext (.stop (stop_ext (by obtain ⟨n, hn⟩ := h1; exact (rd_stop n _ _ _ _ (hn n (Nat.le_refl _))).1) h2))) (by simp) (h3.dext b) h4 h5 ih
theorem RdA.one {a : By} {l m : List DT} (h : RdA a l) (g : RdA a m) : l = m := by
  induction h generalizing m with
  | nil h1 =>
    cases g with
    | nil _ => rfl
    | cons g1 g2 _ _ _ _ => have := h1.one g1; injection this with _ e; exact absurd e.symm g2
  | cons h1 h2 h3 _ _ _ ih =>
    cases g with
    | nil g1 => have := h1.one g1; injection this with _ e; exact absurd e h2
    | cons g1 g2 g3 _ _ g6 =>
      have e1 := h1.one g1
      injection e1 with _ e1
      subst e1
      have e2 := h3.one g3
      injection e2 with e2 e3
      subst e2 e3
      rw [ih g6]
end

section

theorem datum_nz {l r : By} {e : Int} (h : Rdd .datum l 0 (.bad e r)) : e ≠ 0 := by
  obtain ⟨Q, hq, hz⟩ := (rd_total (l.length + 1)).2.1 l 0 (Nat.lt_succ_self _)
  rw [hq.one h] at hz
  exact hz
/-- So much of All's answer stands when what is left begins at q. -/
def Pre (s : ByteArray) (q : Nat) (ts : List LT) : Prop := (∀ L, RdA (rsB s q) L → RdA s.data.toList (shapes ts ++ L)) ∧ ∀ L, RdA s.data.toList L → ∃ M, L = shapes ts ++ M ∧ RdA (rsB s q) M
theorem shapes_snoc : ∀ (l : List LT) (u : LT), shapes (l ++ [u]) = shapes l ++ [shape u]
  | [], u => by simp [shapes_cons, shapes_nil]
  | t :: l, u => by rw [List.cons_append, shapes_cons, shapes_cons, shapes_snoc l u, List.cons_append]
/-- What All tells lies as Norm makes it, and is not too deep. -/
def Fins (ts : List LT) : Prop := ∀ x, x ∈ shapes ts → FineD x ∧ depthD x ≤ 200 ∧ sizeD x ≤ 5000
theorem Fins.snoc {ts : List LT} {u : LT} {d : DT} (h : Fins ts) (hu : shape u = normD d) (hr : RawD d) (hd : depthD (normD d) ≤ 200) (hz : sizeD (normD d) ≤ 5000) : Fins (ts ++ [u]) := fun x hx => by
  rw [show shapes (ts ++ [u]) = shapes ts ++ [shape u] from shapes_snoc ts u] at hx
  rcases List.mem_append.1 hx with hx | hx
  · exact h x hx
  · rw [List.mem_singleton.1 hx, hu]
    exact ⟨hr.fine, hd, hz⟩
def AlI (P : By → Prop) (s : ByteArray) (base q : Nat) (w : World) (V : Value) (ts : List LT) (wr : World) : Prop := RowL base V ts wr ∧ Below base w wr ∧ TameR ts ∧ sizes ts ≤ 2 * q ∧ Pre s q ts ∧ Fins ts ∧ P (rsB s q)
def AllPost (s : ByteArray) (w : World) (E : Ending) (w' : World) : Prop := ∃ (V : Value) (q : Nat) (e : Int) (ts : List LT), E = .returned (.tuple #[V, .int .i64 q, .int .i64 e]) ∧ Below w.heap.size w w' ∧ RowL w.heap.size V ts w' ∧ TameR ts ∧ sizes ts ≤ 2 * s.size ∧ Fins ts ∧ q ≤ s.size ∧ ((e = 0 ∧ RdA s.data.toList (shapes ts) ∧ q = s.size) ∨ e ≠ 0 ∧ ∀ L, ¬ RdA s.data.toList L)
theorem Pre.stop {s : ByteArray} {q : Nat} {ts : List LT} {e : Int} {l : By} (h : Pre s q ts) (hb : Rdd .skip (rsB s q) 0 (.bad e l)) (L : List DT) : ¬ RdA s.data.toList L := fun hL => by
  obtain ⟨M, _, hM⟩ := h.2 L hL
  cases hM with
  | nil h1 => have := h1.one hb; cases this
  | cons h1 => have := h1.one hb; cases this
theorem Pre.stop2 {s : ByteArray} {q : Nat} {ts : List LT} {e : Int} {l m : By} (h : Pre s q ts) (hs : Rdd .skip (rsB s q) 0 (.ok zeroD m)) (hm : m ≠ []) (hb : Rdd .datum m 0 (.bad e l)) (L : List DT) : ¬ RdA s.data.toList L := fun hL => by
  obtain ⟨M, _, hM⟩ := h.2 L hL
  cases hM with
  | nil h1 => have := h1.one hs; injection this with _ e; exact hm e.symm
  | cons h1 _ h3 =>
    have := h1.one hs
    injection this with _ e
    subst e
    have := h3.one hb
    cases this
theorem Pre.deep {s : ByteArray} {q : Nat} {ts : List LT} {d : DT} {l m : By} (h : Pre s q ts) (hs : Rdd .skip (rsB s q) 0 (.ok zeroD m)) (hm : m ≠ []) (hd : Rdd .datum m 0 (.ok d l)) (hx : ¬ depthD (normD d) ≤ 200) (L : List DT) : ¬ RdA s.data.toList L := fun hL => by
  obtain ⟨M, _, hM⟩ := h.2 L hL
  cases hM with
  | nil h1 => have := h1.one hs; injection this with _ e; exact hm e.symm
  | cons h1 _ h3 _ h5 =>
    have := h1.one hs
    injection this with _ e
    subst e
    have := h3.one hd
    injection this with e _
    subst e
    exact hx h5
theorem Pre.last {s : ByteArray} {q : Nat} {ts : List LT} (h : Pre s q ts) (hs : Rdd .skip (rsB s q) 0 (.ok zeroD [])) : RdA s.data.toList (shapes ts) := by
  have := h.1 [] (.nil hs)
  rwa [List.append_nil] at this
theorem Pre.next {s : ByteArray} {q q5 : Nat} {ts : List LT} {u : LT} {d : DT} {m : By} (h : Pre s q ts) (hs : Rdd .skip (rsB s q) 0 (.ok zeroD m)) (hm : m ≠ []) (hd : Rdd .datum m 0 (.ok d (rsB s q5))) (h5 : sizeD (normD d) ≤ 5000) (h2 : depthD (normD d) ≤ 200) (hu : shape u = normD d) : Pre s q5 (ts ++ [u]) := by
  refine ⟨fun L hL => ?_, fun L hL => ?_⟩
  · rw [shapes_snoc, hu, List.append_assoc]
    exact h.1 _ (.cons hs hm hd h5 h2 hL)
  · obtain ⟨M, rfl, hM⟩ := h.2 L hL
    cases hM with
    | nil h1 => have := h1.one hs; injection this with _ e; exact absurd e.symm hm
    | cons h1 _ h3 _ _ h6 =>
      have := h1.one hs
      injection this with _ e
      subst e
      have := h3.one hd
      injection this with e e2
      subst e e2
      exact ⟨_, by rw [shapes_snoc, hu, List.append_assoc]; rfl, h6⟩
/-- One more, where the row itself is a variable of the call. -/
theorem RowL.more {base gg cap : Nat} {V : Value} {ts : List LT} {u : LT} {w W W7 w8 : World} (h : RowL base V ts w) (hs : w.heap.size ≤ W.heap.size) (hu : HeldP W (Fresh W w.heap.size) u) (hW : Below W.heap.size W W7) (hw : ∀ q, base ≤ q → q < w.heap.size → W.heap[q]? = w.heap[q]?) (hg : W7.grownBy w8 V.ownBlock) (hat : V.ownBlock = some gg ∨ W7.heap.size ≤ gg)
    (own8 : w8.ownsRow base 31 7 (.slice (some ⟨gg, 0, none⟩) (ts.length + 1) cap) (ts.length + 1) (cellsAll ts ++ u.cells)) (hbw : base ≤ w.heap.size) :
    RowL base (.slice (some ⟨gg, 0, none⟩) (ts.length + 1) cap) (ts ++ [u]) w8 := by
  have hV : ∀ g, V.ownBlock = some g → base ≤ g ∧ g < w.heap.size := fun g h' => h.1.lt g h'
  have s7 := hW.size
  have s8 := hg.size
  have h8 : ∀ i, i < W.heap.size → V.ownBlock ≠ some i → w8.heap[i]? = W.heap[i]? := fun i hi hne => (hg.block i (by omega) (fun e => hne e.symm)).trans (hW.block i hi)
  refine ⟨?_, ?_⟩
  · rw [List.length_append, cellsAll_append, show cellsAll [u] = u.cells from List.append_nil _]
    exact own8
  · refine AllP.snoc (AllP.keep h.2 (by omega) fun q hq => ?_) (hu.keep (by omega) fun q hq => ?_)
    · have hqlt := hq.1.lt
      have hq3 := hq.1.1
      have e : w8.heap[q]? = w.heap[q]? := (h8 q (by omega) hq.2).trans (hw q hq3 hqlt)
      refine ⟨⟨hq.1.same e, fun h' => ?_⟩, e⟩
      obtain rfl : gg = q := Option.some.inj h'
      rcases hat with h' | h'
      · exact hq.2 h'
      · omega
    · have hqlt := hq.lt
      have hq6 := hq.1
      have hne : V.ownBlock ≠ some q := fun h' => by have := (hV q h').2; omega
      have e : w8.heap[q]? = W.heap[q]? := h8 q hqlt hne
      refine ⟨⟨(hq.same e).low (by omega), fun h' => ?_⟩, e⟩
      obtain rfl : gg = q := Option.some.inj h'
      rcases hat with h' | h'
      · exact hne h'
      · omega
theorem RowL.below {base : Nat} {V : Value} {ts : List LT} {w w' : World} (h : RowL base V ts w) (h0 : 0 < base) (hb : Below w.heap.size w w') : RowL base V ts w' := h.kept (R := 0) h0 (Kept.low hb)
theorem grown_below {base : Nat} {a b : World} {r : Option Nat} (h : a.grownBy b r) (hr : ∀ g, r = some g → base ≤ g) (hb : base ≤ a.heap.size) : Below base a b :=
  ⟨h.os, h.tape, h.output, h.size, fun i hi => h.block i (by omega) fun e => by have := hr i e.symm; omega⟩
theorem AlI.next {P : By → Prop} {s : ByteArray} {base q q3 gg cap m : Nat} {V : Value} {ts : List LT} {u : LT} {d : DT} {w wr w1 w2 W7 w8 : World} {l : By} (h : AlI P s base q w V ts wr) (hP : P (rsB s q3)) (h0 : 0 < base) (b1 : Below wr.heap.size wr w1) (b2 : Below w1.heap.size w1 w2) (b7 : Below w2.heap.size w2 W7) (hbw : base ≤ wr.heap.size)
    (hs : Rdd .skip (rsB s q) 0 (.ok zeroD l)) (hl : l ≠ []) (hd : Rdd .datum l 0 (.ok d (rsB s q3))) (hq3 : q3 ≤ s.size) (hq : q ≤ s.size) (h5 : sizeD d ≤ 5000) (h2 : depthD (normD d) ≤ 200) (hsh : shape u = normD d) (hu : HeldP w2 (Fresh w2 w1.heap.size) u) (htu : Tame u)
    (hm : m = ts.length) (hg : W7.grownBy w8 V.ownBlock) (hat : V.ownBlock = some gg ∨ gg = W7.heap.size) (own8 : w8.ownsRow base 31 7 (.slice (some ⟨gg, 0, none⟩) (m + 1) cap) (m + 1) (cellsAll ts ++ u.cells)) : AlI P s base q3 w (.slice (some ⟨gg, 0, none⟩) (m + 1) cap) (ts ++ [u]) w8 := by
  subst hm
  obtain ⟨hrow, hbel, htm, hsz, hpre, hfin, -⟩ := h
  have hrow1 := hrow.below h0 b1
  have z1 := b1.size
  have z2 := b2.size
  have z7 := b7.size
  have hz := hd.dsize
  have hz0 := hs.ssize
  rw [rsB_len] at hz hz0
  have hn5 := (norm_small d).1.1
  refine ⟨hrow1.more b2.size hu b7 (fun i _ hi => b2.block i hi) hg (hat.imp id fun h => by omega) own8 (by omega), ?_, tameR_snoc htm htu, ?_, hpre.next hs hl hd (by omega) h2 hsh, hfin.snoc hsh hd.raw h2 (by omega), hP⟩
  · exact ((hbel.trans (b1.mono hbw)).trans ((b2.mono (by omega)).trans (b7.mono (by omega)))).trans (grown_below hg (fun g e => (hrow.1.lt g e).1) (by omega))
  · rw [sizes_append]
    simp only [sizes]
    have e := sizeD_shape u
    rw [hsh] at e
    omega
end

section
section
variable {w : World}
set_option maxRecDepth 100000 in
set_option maxHeartbeats 12800000 in
theorem readAll_from (s : ByteArray) (hs : s.size ≤ 16384) (P : By → Prop) (hP : P s.data.toList) (hPn : ∀ l m d r, P l → Rdd .skip l 0 (.ok zeroD m) → m ≠ [] → Rdd .datum m 0 (.ok d r) → P r) (hz5 : ∀ l m d r, P l → Rdd .skip l 0 (.ok zeroD m) → m ≠ [] → Rdd .datum m 0 (.ok d r) → sizeD d ≤ 5000) (ht : Tabs w) : Calls Tryz.prog 12 #[.string s] w (AllPost s w) := by
  have H := Lib.hid ht
  have HZ5 := Lib.hid (And.intro hz5 hPn)
  have HI0 := Lib.hid (show AlI P s w.heap.size 0 w (.slice none 0 0) [] w from ⟨⟨World.ownsRow_nil _ _ _ _, fun _ h => by cases h⟩, Below.refl _ _, by simp [TameR], by simp [sizes], ⟨fun L h => by rw [shapes_nil]; exact h, fun L h => ⟨L, by rw [shapes_nil]; rfl, h⟩⟩, fun _ h => (by rw [shapes_nil] at h; cases h), hP⟩)
  have hz0 : 0 < w.heap.size := by
    obtain ⟨⟨_, h⟩, _⟩ := ht
    have := (Array.getElem?_eq_some_iff.1 h).1
    omega
  clear ht hz5 hPn hP
  go_enter Tryz.func12, Tryz.ntmps12
  go_wp2_with fail
  go_loopg [5, 6] (s.size + 1) (fun g v t wr => ∃ (q : Nat) (ts : List LT), q ≤ s.size ∧ g = s.size + 1 - q ∧ t = .int .i64 q ∧ Hid (AlI P s w.heap.size q w v ts wr))
  case atStart => exact ⟨0, [], Nat.zero_le _, rfl, rfl, HI0⟩
  case round =>
    clear HI0
    obtain ⟨q, ts, hq, rfl, rfl, HI⟩ := hrel
    have HSk := Lib.hid (skip_any (s := s) (p := q) hs hq (H.out.below HI.out.2.1))
    obtain ⟨ia, ic, hV, -, -⟩ := rowL_parts HI.out.1
    obtain ⟨m, hmm⟩ : ∃ m, m = ts.length := ⟨_, rfl⟩
    have hmle : m ≤ 40000 := by have := sizes_ge ts; have := HI.out.2.2.2.1; rw [hmm]; omega
    rw [← hmm] at hV
    have HMM := Lib.hid hmm
    clear hmm
    subst hV
    have hwr := HI.out.2.1.size
    go_wp2_with fail
    refine HSk.out.mono ?_
    rintro E w1 ⟨r, hr, b1, hpost⟩
    have hb1 := HI.out.2.1.trans (b1.mono HI.out.2.1.size)
    have hw1 := b1.size
    have HB1 := Lib.hid (And.intro b1 (And.intro hb1 hr))
    clear b1 hb1 hr HSk
    cases r with
    | bad e l =>
      obtain ⟨q2, hq2, rfl, rfl⟩ := hpost
      have he := skip_nz (l := rsB s q) HB1.out.2.2
      have e1 : decide (e = 0) = false := decide_eq_false he
      go_wp2_with fail
      go_ret3
      exact ⟨_, q2, e, ts, rfl, HB1.out.2.1, HI.out.1.below hz0 HB1.out.1, HI.out.2.2.1, by have := HI.out.2.2.2.1; omega, HI.out.2.2.2.2.2.1, hq2, .inr ⟨he, HI.out.2.2.2.2.1.stop HB1.out.2.2⟩⟩
    | ok z l =>
      obtain ⟨q2, hq2, rfl, rfl⟩ := hpost
      have hzz := (HB1.out.2.2.again (j := 0)).1
      have HRZ := Lib.hid (show Rdd .skip (rsB s q) 0 (.ok zeroD (rsB s q2)) by rw [← hzz]; exact HB1.out.2.2)
      clear hzz
      have hqq : q ≤ q2 := by have := HRZ.out.ssize; rw [rsB_len, rsB_len] at this; omega
      by_cases hend : q2 = s.size
      · subst hend
        have hnil : rsB s s.size = [] := rsB_end (Nat.le_refl _)
        go_wp2_with fail
        go_ret3
        exact ⟨_, _, 0, ts, rfl, HB1.out.2.1, HI.out.1.below hz0 HB1.out.1, HI.out.2.2.1, by have := HI.out.2.2.2.1; omega, HI.out.2.2.2.2.2.1, Nat.le_refl _, .inl ⟨rfl, HI.out.2.2.2.2.1.last (by have := HRZ.out; rwa [hnil] at this), rfl⟩⟩
      · have hlt : q2 < s.size := by omega
        have e2 : decide ((q2 : Int) = (s.size : Int)) = false := decide_eq_false (by omega)
        have HM := Lib.hid (show rsB s q2 ≠ [] by rw [rsB_cons hlt]; simp)
        have HR := Lib.hid (read_any (s := s) (p := q2) hs hq2 (H.out.below HB1.out.2.1) fun d l h => HZ5.out.1 _ _ d l HI.out.2.2.2.2.2.2 HRZ.out HM.out h)
        clear hend
        go_wp2_with fail
        refine HR.out.mono ?_
        rintro E w2 ⟨r, hr, b2, hpost⟩
        have hb2 := HB1.out.2.1.trans (b2.mono HB1.out.2.1.size)
        have hw2 := b2.size
        have HB2 := Lib.hid (And.intro b2 (And.intro hb2 hr))
        clear b2 hb2 hr HR e2
        cases r with
        | bad e l =>
          obtain ⟨q3, hq3, rfl, rfl⟩ := hpost
          have he := datum_nz (l := rsB s q2) HB2.out.2.2
          have e1 : decide (e = 0) = false := decide_eq_false he
          go_wp2_with fail
          go_ret3
          exact ⟨_, q3, e, ts, rfl, HB2.out.2.1.alloc HB2.out.2.1.size _, (HI.out.1.below hz0 HB1.out.1).below hz0 (HB2.out.1.alloc HB2.out.1.size _), HI.out.2.2.1, by have := HI.out.2.2.2.1; omega, HI.out.2.2.2.2.2.1, hq3, .inr ⟨he, HI.out.2.2.2.2.1.stop2 HRZ.out HM.out HB2.out.2.2⟩⟩
        | ok d l =>
          obtain ⟨q3, hq23, hq3, rfl, hp⟩ := hpost
          rcases hp with ⟨hd, u, rfl, hu, hsh, htu⟩ | ⟨hd, rfl⟩
          · obtain ⟨W6, hW6⟩ : ∃ W, w2.alloc (Obj.cells #[.int .i64 u.k, .bool u.g, .slice u.la u.ln u.lc, .bool u.bb, .string u.s, .slice u.ia u.items.length u.ic, .slice u.ta u.tail.length u.tc] 31) = W := ⟨_, rfl⟩
            have h6s : W6.heap.size = w2.heap.size + 1 := by rw [← hW6]; exact World.size_alloc ..
            have h6n : W6.heap[w2.heap.size]? = some (Obj.cells #[.int .i64 u.k, .bool u.g, .slice u.la u.ln u.lc, .bool u.bb, .string u.s, .slice u.ia u.items.length u.ic, .slice u.ta u.tail.length u.tc] 31) := hW6 ▸ World.alloc_heap_new w2 (Obj.cells #[.int .i64 u.k, .bool u.g, .slice u.la u.ln u.lc, .bool u.bb, .string u.s, .slice u.ia u.items.length u.ic, .slice u.ta u.tail.length u.tc] 31)
            obtain ⟨W7', hW7⟩ : ∃ W, W6.alloc (Obj.cells #[.int .i64 u.k, .bool u.g, .slice u.la u.ln u.lc, .bool u.bb, .string u.s, .slice u.ia u.items.length u.ic, .slice u.ta u.tail.length u.tc] 31) = W := ⟨_, rfl⟩
            have h7s : W7'.heap.size = W6.heap.size + 1 := by rw [← hW7]; exact World.size_alloc ..
            have h7n : W7'.heap[W6.heap.size]? = some (Obj.cells #[.int .i64 u.k, .bool u.g, .slice u.la u.ln u.lc, .bool u.bb, .string u.s, .slice u.ia u.items.length u.ic, .slice u.ta u.tail.length u.tc] 31) := hW7 ▸ World.alloc_heap_new W6 (Obj.cells #[.int .i64 u.k, .bool u.g, .slice u.la u.ln u.lc, .bool u.bb, .string u.s, .slice u.ia u.items.length u.ic, .slice u.ta u.tail.length u.tc] 31)
            have h27 : Below w2.heap.size w2 W7' := by rw [← hW7, ← hW6]; exact ((Below.refl _ _).alloc (Nat.le_refl _) _).alloc (by simp) _
            obtain ⟨⟨x0, x1, x2, x3, x4, x5, x6⟩, y0, y1, y2, y3, y4, y5, y6⟩ := seven h6n
            have hown : W7'.ownsRow w.heap.size 31 7 (.slice ia m ic) m (cellsAll ts) := by
              have h0 := (((HI.out.1.below hz0 HB1.out.1).below hz0 HB2.out.1).below hz0 h27).1
              rw [← HMM.out] at h0
              exact h0
            rw [h6s] at h7n
            have HO := Lib.hid (And.intro hown h7n)
            have HU := Lib.hid (And.intro hu (And.intro hsh (And.intro htu (And.intro hd h27))))
            obtain ⟨ii, hi0, hz0', hz1, hz2⟩ := info_parts infoD
            clear h7n hown hu hsh htu hd h27 h6n
            go_wp2_with (at_builtin; (refine wpList_append_lies _ rfl (.tmp 40) (.tmp 42) 23 rfl (w.heap.size) 31 ii (.agg #[.int .i64 0, .bool false, .slice none 0 0, .bool false, .string ⟨#[]⟩, .slice none 0 0, .slice none 0 0]) 7 112 Tryz.underlying23 hi0 hz0' hz1 hz2 rfl (by decide) (.slice ia m ic) m (cellsAll ts) rfl ?h1 ⟨w2.heap.size + 1, 0, none⟩ 1 1 u.cells rfl ?h2 ?h3 ?h4 (by decide) ?h5 ?h6 ?h7 W7'.heap.size rfl ?h8))
            case h1 => exact HO.out.1
            case h2 => rfl
            case h3 => exact cells_news HO.out.2
            case h4 => exact lt_one u
            case h5 => unfold maxLen; omega
            case h6 => omega
            case h7 => omega
            case h8 =>
              intro gg cap w8 own8 grow8 hat _
              have HG := Lib.hid (And.intro own8 (And.intro grow8 hat))
              clear own8 grow8 hat x0 x1 x2 x3 x4 x5 x6 y0 y1 y2 y3 y4 y5 y6
              go_wp2_with fail
              go_roundg (s.size + 1 - q3)
              case measure => omega
              case rel => exact ⟨q3, ts ++ [u], hq3, rfl, rfl, Lib.hid (HI.out.next (HZ5.out.2 _ _ d _ HI.out.2.2.2.2.2.2 HRZ.out HM.out HB2.out.2.2) hz0 HB1.out.1 HB2.out.1 HU.out.2.2.2.2 hwr HRZ.out HM.out HB2.out.2.2 hq3 hq (HZ5.out.1 _ _ d _ HI.out.2.2.2.2.2.2 HRZ.out HM.out HB2.out.2.2) HU.out.2.2.2.1 HU.out.2.1 HU.out.1 HU.out.2.2.1 HMM.out HG.out.2.1 (HG.out.2.2.imp id fun h => by omega) HG.out.1)⟩
          · have HD := Lib.hid hd
            clear hd
            go_wp2_with fail
            go_ret3
            exact ⟨_, 0, 12, ts, rfl, HB2.out.2.1.alloc HB2.out.2.1.size _, (HI.out.1.below hz0 HB1.out.1).below hz0 (HB2.out.1.alloc HB2.out.1.size _), HI.out.2.2.1, by have := HI.out.2.2.2.1; omega, HI.out.2.2.2.2.2.1, Nat.zero_le _, .inr ⟨by decide, HI.out.2.2.2.2.1.deep HRZ.out HM.out HB2.out.2.2 HD.out⟩⟩
theorem readAll_any (s : ByteArray) (hs : s.size ≤ 2000) (ht : Tabs w) : Calls Tryz.prog 12 #[.string s] w (AllPost s w) :=
  readAll_from s (by omega) (fun l => l.length ≤ 2000) (by simpa using hs) (fun l m d r h h1 _ h2 => by have a := h1.ssize; have b := h2.dsize; have := sizeD_one d; omega) (fun l m d r h h1 _ h2 => by have a := h1.ssize; have b := h2.dsize; omega) ht
/-- Of too long a text nothing is read. -/
theorem readAll_long (s : ByteArray) (hs : 16384 < s.size) : Calls Tryz.prog 12 #[.string s] w fun E w' => ∃ (V : Value) (q : Int), E = .returned (.tuple #[V, .int .i64 q, .int .i64 12]) ∧ Below w.heap.size w w' := by
  have hm : ∀ W, Calls Tryz.prog 78 #[.string s, .int .i64 0] W fun E w' => E = .returned (.int .i64 12) ∧ W = w' := fun W => by
    have h1 : decide (16384 < (s.size : Int)) = true := decide_eq_true (by omega)
    go_enter Tryz.func78, Tryz.ntmps78
    go_wp2_with fail
    go_ret
    exact ⟨rfl, rfl⟩
  have hk : Calls Tryz.prog 41 #[.string s, .int .i64 0] w fun E w' => E = .returned (.tuple #[.int .i64 0, .int .i64 12]) ∧ w = w' := by
    have HM := Lib.hid (hm w)
    clear hm
    go_enter Tryz.func41, Tryz.ntmps41
    go_wp2_with (go_at_call 78; refine HM.out.mono ?_; rintro E w' ⟨rfl, rfl⟩)
    go_ret2
    exact ⟨rfl, rfl⟩
  have HK := Lib.hid hk
  clear hm hk
  go_enter Tryz.func12, Tryz.ntmps12
  go_wp2_with fail
  go_loopg [5, 6] 0 (fun g v t wr => t = .int .i64 0 ∧ v = .slice none 0 0 ∧ wr = w)
  case atStart => exact ⟨rfl, rfl, rfl⟩
  case round =>
    obtain ⟨rfl, rfl, rfl⟩ := hrel
    go_wp2_with fail
    refine HK.out.mono ?_
    rintro E w' ⟨rfl, rfl⟩
    go_wp2_with fail
    go_ret3
    exact ⟨_, _, rfl, Below.refl _ _⟩
end
end

section

/-- A row of data that lies somewhere below M. -/
def Rows5 (w : World) (M : Nat) (V : Value) (ts : List LT) : Prop := ∃ ia ic, V = .slice ia ts.length ic ∧ Spot M ia ts.length ic ∧ LiesR w M ts (blk ia) (ofs ia)
theorem RowL.rows {base : Nat} {V : Value} {ts : List LT} {w : World} (h : RowL base V ts w) : Rows5 w w.heap.size V ts := by
  obtain ⟨ia, ic, hV, hsp, hli⟩ := rowL_parts h
  exact ⟨ia, ic, hV, hsp.spot (fun k hk => hk.lt), LiesPR.lies (fun k hk => hk.lt) _ _ _ hli⟩
theorem RowL.all {base : Nat} {V : Value} {ts : List LT} {w : World} (h : RowL base V ts w) : AllP w (fun q => q < w.heap.size) ts := h.2.keep (Nat.le_refl _) fun _ hq => ⟨hq.1.lt, rfl⟩
theorem own_rows {base M : Nat} {w3 w8 : World} {V : Value} {ts : List LT} (hown : w8.ownsRow base 31 7 V ts.length (cellsAll ts)) (hall : AllP w3 (fun q => q < M) ts) (hk : ∀ q, q < M → w8.heap[q]? = w3.heap[q]?) (hs : w3.heap.size ≤ w8.heap.size) (hM : M ≤ w3.heap.size) : Rows5 w8 w8.heap.size V ts := by
  rcases hown.2 with ⟨hv, h0⟩ | ⟨g, c, cur, hv, hg, hgc, h1, h2, _⟩
  · obtain rfl : ts = [] := List.length_eq_zero_iff.1 h0
    exact ⟨none, 0, hv, ⟨Nat.le_refl _, Nat.zero_le _, fun h => absurd h (by simp), fun _ => rfl⟩, by simp [LiesR]⟩
  · have hlt : g < w8.heap.size := (Array.getElem?_eq_some_iff.1 hgc).1
    refine ⟨some ⟨g, 0, none⟩, c, hv, ⟨h1, h2, fun _ => ⟨rfl, hlt⟩, fun e => by cases e⟩, LiesPR.lies (P := fun q => q < w8.heap.size) (fun _ h => h) _ _ _ (liesPR_of (P := fun q => q < w8.heap.size) (g := g) hlt ts 0 (hall.keep hs fun q hq => ⟨by omega, hk q hq⟩) fun j v hj => ?_)⟩
    have h3 := hown.cells (g := g) (by rw [hv]; rfl) j v hj
    rw [cell_add] at h3
    exact h3
theorem Rows5.below {w w' : World} {M : Nat} {V : Value} {ts : List LT} (h : Rows5 w M V ts) (hM : M ≤ w.heap.size) (hb : Below w.heap.size w w') : Rows5 w' M V ts := by
  obtain ⟨ia, ic, hV, hsp, hli⟩ := h
  exact ⟨ia, ic, hV, hsp, LiesR.keep hb.size (fun k hk => hb.block k (by omega)) _ _ _ hli⟩
/-- append(v, src...) of data: v a row of the call's own, src a row; the operation may be a guarded one that is wanted. -/
theorem wpList_append_rowL {w : World} {ops : Array Oper} {rest : List Oper} {o : Oper} {a : Act} {Q : Exit → Act → World → Prop} (hw : Region.wanted o (yielded ops a.tmps) = true) (s x : Operand)
    (ho : o.op = .call { callee := .builtin .append, args := #[s, x], argTypes := #[23, 23] })
    (base base2 : Nat) (v V : Value) (ts us : List LT) (hs : a.eval s = v) (hown : w.ownsRow base 31 7 v ts.length (cellsAll ts)) (hx : a.eval x = V) (hrow : w.ownsRow base2 31 7 V us.length (cellsAll us)) (hlen : ts.length + us.length ≤ 100000) (hbase : base ≤ w.heap.size)
    (h : ∀ v' w', w'.ownsRow base 31 7 v' (ts ++ us).length (cellsAll (ts ++ us)) → w.grownBy w' v.ownBlock → wpList Tryz.prog ops Q rest (a.put o.dst v') w') : wpList Tryz.prog ops Q (o :: rest) a w := by
  obtain ⟨ii, hi0, hz0, hz1, hz2⟩ := info_parts infoD
  refine wpList_step fun K hK => ?_
  rw [if_pos hw]
  rcases hrow.2 with ⟨hv, h0⟩ | ⟨g, c, cur, hv, hg, hgc, h1, h2, _⟩
  · obtain rfl : us = [] := List.length_eq_zero_iff.1 h0
    have hrun := run_append_owned_none (P := Tryz.prog) (w := w) base 23 o.type 31 ii 7 Tryz.underlying23 hi0 v ts.length (cellsAll ts) hown
    unfold Oper.wp
    simp [execOp, ho, resolve, invoke, builtin, hs, hx.trans hv, hrun, Result.andThen]
    exact hK _ _ (h v w (by simpa using hown) (World.grownBy.refl _ _))
  · exact wp_append_own w s x 23 ho base 31 ii (.agg #[.int .i64 0, .bool false, .slice none 0 0, .bool false, .string ⟨#[]⟩, .slice none 0 0, .slice none 0 0]) 7 112 Tryz.underlying23 hi0 hz0 hz1 hz2 rfl (by decide) v ts.length (cellsAll ts) hs hown ⟨g, 0, none⟩ us.length c (cellsAll us) (hx.trans hv) (cellsAll_length us) (hrow.cells (g := g) (by rw [hv]; rfl)) (cellsAll_one us) (by unfold maxLen; omega) (by omega) hbase fun v' w' h1 h2 _ => hK _ _ (h v' w' (by rw [List.length_append, cellsAll_append]; exact h1) h2)
theorem Fins.trims {ts : List LT} (h : Fins ts) : trimsD (shapes ts) = shapes ts := trims_self fun x hx => (h x hx).1.trim
section
variable {w : World}
set_option maxRecDepth 100000 in
set_option maxHeartbeats 6400000 in
/-- The very same data: as many, each the same but for noughts at its number's end. -/
theorem same5_any (M : Nat) (us ts : List LT) (n ic jc : Nat) (ia ja : Option Addr) (hn : us.length = n) (hn' : ts.length = n) (hS : shapes us = trimsD (shapes ts)) (hT : TameR us ∧ TameR ts) (hz : sizes us ≤ 1000000) (hM : M ≤ w.heap.size)
    (hH : (Spot M ia n ic ∧ LiesR w M us (blk ia) (ofs ia)) ∧ Spot M ja n jc ∧ LiesR w M ts (blk ja) (ofs ja)) :
    Calls Tryz.prog 15 #[.slice ia n ic, .slice ja n jc] w fun e w' => e = .returned (.bool true) ∧ Below w.heap.size w w' := by
  have g1 := sizes_ge us
  have IH := Lib.hid (rs_any M 1000000 (Nat.le_refl _))
  have HH := Lib.hid hH
  have HS := Lib.hid hS
  have HT := Lib.hid hT
  clear hH hS hT
  go_enter Tryz.func15, Tryz.ntmps15
  go_wp2_with fail
  go_loopw [13] (fun i wr => ∃ q : Nat, q ≤ n ∧ i = .int .i64 q ∧ Below w.heap.size w wr) (fun i _ => n - (intOf i).toNat)
  case atStart => exact ⟨0, Nat.zero_le _, rfl, Below.refl _ _⟩
  case round =>
    obtain ⟨q, hq, rfl, hbw2⟩ := hrel
    by_cases hlt : q < n
    · obtain ⟨ab, ao, hae, hR1⟩ : ∃ ab ao, ia = some ⟨ab, ao, none⟩ ∧ LiesR w M us ab ao := ⟨_, _, (HH.out.1.1.2.2.1 (by omega)).1, HH.out.1.2⟩
      subst hae
      obtain ⟨cb, co, hce, hR2⟩ : ∃ ab ao, ja = some ⟨ab, ao, none⟩ ∧ LiesR w M ts ab ao := ⟨_, _, (HH.out.2.1.2.2.1 (by omega)).1, HH.out.2.2⟩
      subst hce
      have hq2 : q < ts.length := by omega
      have hq1 : q < us.length := by omega
      obtain ⟨_, hcx, hhx⟩ := lies_held.1 ((liesR_iff _ _ _).1 hR1 q hq1)
      obtain ⟨_, hcy, hhy⟩ := lies_held.1 ((liesR_iff _ _ _).1 hR2 q hq2)
      have hsz := size_in us q hq1
      have hsh := trims_nth HS.out q hq1 hq2
      have htx := tameR_at us q hq1 HT.out.1
      have hty := tameR_at ts q hq2 HT.out.2
      obtain ⟨x, hx⟩ : ∃ x, us[q] = x := ⟨_, rfl⟩
      obtain ⟨y, hy⟩ : ∃ y, ts[q] = y := ⟨_, rfl⟩
      rw [hx] at hcx hhx hsz hsh htx
      rw [hy] at hcy hhy hsh hty
      rw [Nat.mul_comm 7 q] at hcx hcy
      have HX := Lib.hid (And.intro (seven_below (w' := wr) hcx (by have := (lies_held.1 ((liesR_iff _ _ _).1 hR1 q hq1)).1; omega) hbw2) (And.intro (seven_below (w' := wr) hcy (by have := (lies_held.1 ((liesR_iff _ _ _).1 hR2 q hq2)).1; omega) hbw2) (fun W (hb : Below wr.heap.size wr W) => IH.out x y (by omega) hsh htx hty W (by have := hbw2.size; have := hb.size; omega) ((hhx.below hM hbw2).below (by have := hbw2.size; omega) hb) ((hhy.below hM hbw2).below (by have := hbw2.size; omega) hb))))
      clear hcx hhx hcy hhy hsz hsh htx hty hx hy hR1 hR2 hq1 hq2
      go_wp2_with fail
      refine wp_region_phases (nA := 10) (by kernel_rfl) (by kernel_rfl) (fun i => 16 + i)
        (fun i W v => match i with
          | 0 => v = .slice (some ⟨ab, ao, none⟩) n ic
          | 1 => v = .int .i64 (q : Nat)
          | 2 => v = .pointer (some ⟨ab, ao + q * 7, none⟩)
          | 3 => v = .agg #[.int .i64 x.k, .bool x.g, .slice x.la x.ln x.lc, .bool x.bb, .string x.s, .slice x.ia x.items.length x.ic, .slice x.ta x.tail.length x.tc]
          | 4 => v = .slice (some ⟨cb, co, none⟩) n jc
          | 5 => v = .int .i64 (q : Nat)
          | 6 => v = .pointer (some ⟨cb, co + q * 7, none⟩)
          | 7 => v = .agg #[.int .i64 y.k, .bool y.g, .slice y.la y.ln y.lc, .bool y.bb, .string y.s, .slice y.ia y.items.length y.ic, .slice y.ta y.tail.length y.tc]
          | 8 => v = .bool true
          | _ => v = .bool false) (by decide) (by kernel_rfl)
        (fun i j hi hj h => by omega) (fun i hi => by simp only [List.size_toArray, List.length_cons, List.length_nil]; omega) ?_ ?_ ?_
      · intro i hi W W' v h hb
        rcases (show i = 0 ∨ i = 1 ∨ i = 2 ∨ i = 3 ∨ i = 4 ∨ i = 5 ∨ i = 6 ∨ i = 7 ∨ i = 8 ∨ i = 9 by omega) with rfl | rfl | rfl | rfl | rfl | rfl | rfl | rfl | rfl | rfl
        · exact h
        · exact h
        · exact h
        · exact h
        · exact h
        · exact h
        · exact h
        · exact h
        · exact h
        · exact h
      · intro i hi l A W I hdep
        rcases (show i = 0 ∨ i = 1 ∨ i = 2 ∨ i = 3 ∨ i = 4 ∨ i = 5 ∨ i = 6 ∨ i = 7 ∨ i = 8 ∨ i = 9 by omega) with rfl | rfl | rfl | rfl | rfl | rfl | rfl | rfl | rfl | rfl
        · exact wpOp_valW rfl (rfl) (exec_moveV rfl ((I.other 0 (by intro j hj; omega)).trans rfl)) ⟨_, rfl, rfl, Below.refl _ _⟩
        · exact wpOp_valW rfl (rfl) (exec_moveV rfl ((I.other 5 (by intro j hj; omega)).trans rfl)) ⟨_, rfl, rfl, Below.refl _ _⟩
        · have v0 : A.tmps.getD 16 undef = _ := I.val 0 (by decide) (hdep 0 (by kernel_rfl))
          have v1 : A.tmps.getD 17 undef = _ := I.val 1 (by decide) (hdep 1 (by kernel_rfl))
          exact wpOp_valW rfl (rfl) (exec_ixq rfl v0 v1 hlt) ⟨_, rfl, rfl, Below.refl _ _⟩
        · have v2 : A.tmps.getD 18 undef = _ := I.val 2 (by decide) (hdep 2 (by kernel_rfl))
          exact wpOp_valW rfl (rfl) (exec_loadD rfl v2 (seven_keep HX.out.1 I.below)) ⟨_, rfl, rfl, Below.refl _ _⟩
        · exact wpOp_valW rfl (rfl) (exec_moveV rfl ((I.other 1 (by intro j hj; omega)).trans rfl)) ⟨_, rfl, rfl, Below.refl _ _⟩
        · exact wpOp_valW rfl (rfl) (exec_moveV rfl ((I.other 5 (by intro j hj; omega)).trans rfl)) ⟨_, rfl, rfl, Below.refl _ _⟩
        · have v4 : A.tmps.getD 20 undef = _ := I.val 4 (by decide) (hdep 4 (by kernel_rfl))
          have v5 : A.tmps.getD 21 undef = _ := I.val 5 (by decide) (hdep 5 (by kernel_rfl))
          exact wpOp_valW rfl (rfl) (exec_ixq rfl v4 v5 hlt) ⟨_, rfl, rfl, Below.refl _ _⟩
        · have v6 : A.tmps.getD 22 undef = _ := I.val 6 (by decide) (hdep 6 (by kernel_rfl))
          exact wpOp_valW rfl (rfl) (exec_loadD rfl v6 (seven_keep HX.out.2.1 I.below)) ⟨_, rfl, rfl, Below.refl _ _⟩
        · have v3 : A.tmps.getD 19 undef = _ := I.val 3 (by decide) (hdep 3 (by kernel_rfl))
          have v7 : A.tmps.getD 23 undef = _ := I.val 7 (by decide) (hdep 7 (by kernel_rfl))
          refine wpOp_callW rfl (rfl) ((exec_call2 rfl).trans (by rw [v3, v7])) (by simp [go_sem]) (HX.out.2.2 W I.below) ?_
          rintro e W' ⟨rfl, b⟩
          exact ⟨_, rfl, _, rfl, rfl, b⟩
        · have v8 : A.tmps.getD 24 undef = _ := I.val 8 (by decide) (hdep 8 (by kernel_rfl))
          exact wpOp_valW rfl (rfl) (exec_not rfl v8) ⟨_, rfl, rfl, Below.refl _ _⟩
      intro A w9 hdf hsz hoth hval hb9
      have v0 : A.tmps.getD 16 undef = _ := hval 0 (by decide)
      have v1 : A.tmps.getD 17 undef = _ := hval 1 (by decide)
      have v2 : A.tmps.getD 18 undef = _ := hval 2 (by decide)
      have v3 : A.tmps.getD 19 undef = _ := hval 3 (by decide)
      have v4 : A.tmps.getD 20 undef = _ := hval 4 (by decide)
      have v5 : A.tmps.getD 21 undef = _ := hval 5 (by decide)
      have v6 : A.tmps.getD 22 undef = _ := hval 6 (by decide)
      have v7 : A.tmps.getD 23 undef = _ := hval 7 (by decide)
      have v8 : A.tmps.getD 24 undef = _ := hval 8 (by decide)
      have v9 : A.tmps.getD 25 undef = _ := hval 9 (by decide)
      have hA := tower_pairs (a := A) [(16, .slice (some ⟨ab, ao, none⟩) n ic), (17, .int .i64 (q : Nat)), (18, .pointer (some ⟨ab, ao + q * 7, none⟩)), (19, .agg #[.int .i64 x.k, .bool x.g, .slice x.la x.ln x.lc, .bool x.bb, .string x.s, .slice x.ia x.items.length x.ic, .slice x.ta x.tail.length x.tc]), (20, .slice (some ⟨cb, co, none⟩) n jc), (21, .int .i64 (q : Nat)), (22, .pointer (some ⟨cb, co + q * 7, none⟩)), (23, .agg #[.int .i64 y.k, .bool y.g, .slice y.la y.ln y.lc, .bool y.bb, .string y.s, .slice y.ia y.items.length y.ic, .slice y.ta y.tail.length y.tc]), (24, .bool true), (25, .bool false)] ?_ ?_ hdf hsz (fun m hm => hoth m (fun j hj => by
        simp only [List.forall_mem_cons] at hm
        obtain ⟨k0, k1, k2, k3, k4, k5, k6, k7, k8, k9, -⟩ := hm
        rcases (show j = 0 ∨ j = 1 ∨ j = 2 ∨ j = 3 ∨ j = 4 ∨ j = 5 ∨ j = 6 ∨ j = 7 ∨ j = 8 ∨ j = 9 by omega) with rfl | rfl | rfl | rfl | rfl | rfl | rfl | rfl | rfl | rfl
        · exact k0
        · exact k1
        · exact k2
        · exact k3
        · exact k4
        · exact k5
        · exact k6
        · exact k7
        · exact k8
        · exact k9))
      rotate_left
      · intro p hp
        simp only [List.mem_cons, List.not_mem_nil, or_false] at hp
        rcases hp with rfl | rfl | rfl | rfl | rfl | rfl | rfl | rfl | rfl | rfl <;> simp
      · intro p hp
        simp only [List.mem_cons, List.not_mem_nil, or_false] at hp
        rcases hp with rfl | rfl | rfl | rfl | rfl | rfl | rfl | rfl | rfl | rfl
        · exact v0
        · exact v1
        · exact v2
        · exact v3
        · exact v4
        · exact v5
        · exact v6
        · exact v7
        · exact v8
        · exact v9
      clear v0 v1 v2 v3 v4 v5 v6 v7 v8 v9 hval hoth hsz hdf
      subst hA
      simp only [List.foldl, Act.put, List.setIfInBounds_toArray, List.set_cons_zero, List.set_cons_succ]
      show wpOps _ _ _ [] _ _
      simp only [wpOps]
      have hb9' := hbw2.trans (hb9.mono hbw2.size)
      clear hb9 hbw2
      go_wp2_with fail
      go_roundw
      case rel => exact ⟨q + 1, by omega, by go_num, hb9'⟩
      case measure => simp [intOf]; omega
    · go_wp2_with fail
      go_ret
      exact ⟨rfl, hbw2⟩
end
end
end Go.Proofs.YtlohdglhebplfaaGreatDoor
