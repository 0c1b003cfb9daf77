/-
  The reader: every text comes to something; how many data there are at most; what parts ahead change.
-/
import Derived.Test.YtlohdglhebplfaaGreatDoorRdx7
import Derived.Test.YtlohdglhebplfaaGreatDoorRdx4
import Derived.Test.YtlohdglhebplfaaGreatDoorRsg
namespace Go.Proofs.YtlohdglhebplfaaGreatDoor
open Go.RowKit

theorem line_len (l : By) : (lineL l).length ≤ l.length := (List.dropWhile_sublist _).length_le
theorem blk_len : ∀ (o : Nat) (l r : By), blkL o l = some r → r.length ≤ l.length
  | _, [], r, h => by cases h
  | _, [_], r, h => by cases h
  | o, c :: d :: l, r, h => by
    rw [blkL] at h
    split at h
    · have := blk_len (o + 1) l r h
      simp only [List.length_cons]; omega
    · split at h
      · split at h
        · cases h; simp only [List.length_cons]; omega
        · have := blk_len (o - 1) l r h
          simp only [List.length_cons]; omega
      · have := blk_len o (d :: l) r h
        simp only [List.length_cons] at this ⊢; omega
theorem quote_len (c : UInt8) (l : By) : (quoteL c l).2.length ≤ l.length := by
  unfold quoteL
  split
  · exact Nat.le_refl _
  · split
    · exact Nat.le_refl _
    · split
      · simp
      · exact Nat.le_refl _
theorem atom_one {l r : By} {d : DT} (h : atomL l = .ok d r) : sizeD d = 1 ∧ r = l.drop (aheadL l).length := by
  unfold atomL at h
  dsimp only at h
  split at h
  · cases h; exact ⟨by simp [truthD, sizeD, sizesD], rfl⟩
  · split at h
    · cases h; exact ⟨by simp [truthD, sizeD, sizesD], rfl⟩
    · split at h
      · cases h; exact ⟨by simp [numD, sizeD, sizesD], rfl⟩
      · split at h
        · cases h; exact ⟨by simp [symD, sizeD, sizesD], rfl⟩
        · cases h
theorem str_one {c : UInt8} {l r : By} {d : DT} (h : strL (c :: l) = .ok d r) : sizeD d = 1 ∧ r.length < l.length := by
  unfold strL at h
  rw [List.drop_one, List.tail_cons] at h
  split at h
  · cases h
  · rename_i h1
    split at h
    · cases h; exact ⟨by simp [strD, sizeD, sizesD], (mkL_len _ _ _ _ _ _ h1).1⟩
    · cases h
theorem bar_one {c : UInt8} {l r : By} {d : DT} (h : barL (c :: l) = .ok d r) : sizeD d = 1 ∧ r.length < l.length := by
  unfold barL at h
  rw [List.drop_one, List.tail_cons] at h
  split at h
  · cases h
  · rename_i h1
    split at h
    · cases h; exact ⟨by simp [symD, sizeD, sizesD], (mkL_len _ _ _ _ _ _ h1).1⟩
    · cases h
theorem stop_ahead {c : UInt8} {l : By} (h : stopL (c :: l) = true) (h2 : opensL c = false) : 1 ≤ (aheadL (c :: l)).length := by
  simp only [stopL, Bool.and_eq_true, Bool.not_eq_true', Bool.and_eq_false_iff, Bool.or_eq_false_iff, beq_eq_false_iff_ne, ne_eq] at h
  simp only [opensL, Bool.or_eq_false_iff, beq_eq_false_iff_ne, ne_eq] at h2
  have e : (!(isBl c || isMk c)) = true := by
    simp [isMk, h.1.1, h.1.2, h2]
  unfold aheadL
  rw [List.takeWhile_cons, if_pos e]
  simp
theorem head_len {l : By} {e : UInt8} (h : l.head? = some e) : (l.drop 1).length + 1 = l.length := by
  cases l with
  | nil => cases h
  | cons c t => simp
theorem rd_size : ∀ n : Nat, (∀ (l : By) (k : Nat) (z : DT) (r : By), rd n .skip l k = .ok z r → r.length ≤ l.length) ∧
    (∀ (l : By) (k : Nat) (d : DT) (r : By), rd n .datum l k = .ok d r → sizeD d + 2 * r.length ≤ 2 * l.length) ∧
    ∀ (l : By) (k : Nat) (e : UInt8) (acc : List DT) (d : DT) (r : By), rd n (.list e acc) l k = .ok d r → sizeD d + 2 * r.length + 1 ≤ 2 * l.length + sizesD acc
  | 0 => ⟨fun _ _ _ _ h => (by rw [rd.eq_def] at h; cases h), fun _ _ _ _ h => (by rw [rd.eq_def] at h; cases h), fun _ _ _ _ _ _ h => (by rw [rd.eq_def] at h; cases h)⟩
  | n + 1 => by
    obtain ⟨ihs, ihd, ihl⟩ := rd_size n
    refine ⟨fun l k z r h => ?_, fun l k d r h => ?_, fun l k e acc d r h => ?_⟩
    · cases l with
      | nil => rw [rd_skip_nil] at h; cases h; exact Nat.le_refl _
      | cons c t =>
        rw [rd_skip_cons] at h
        rw [List.length_cons]
        split at h
        · have := ihs _ _ _ _ h; omega
        · split at h
          · have := ihs _ _ _ _ h
            have h2 := line_len (c :: t)
            rw [List.length_cons] at h2
            omega
          · split at h
            · split at h
              · rename_i q hq
                have := ihs _ _ _ _ h
                have h2 := blk_len _ _ _ hq
                rw [List.length_drop] at h2
                omega
              · cases h
            · split at h
              · split at h
                · rename_i q hq
                  have := ihs _ _ _ _ h
                  have h2 := ihd _ _ _ _ hq
                  rw [List.length_drop] at h2
                  omega
                · cases h
              · cases h
                simp
    · rw [rd_datum] at h
      split at h
      · cases h
      · cases h
      · rename_i z c t hs
        have hst := rd_stop n _ _ _ _ hs
        have hl := ihs _ _ _ _ hs
        rw [List.length_cons] at hl
        split at h
        · split at h
          · cases h
          · have := ihl _ _ _ _ _ _ h
            simp only [sizesD] at this
            omega
        · rename_i g1
          split at h
          · cases h
          · rename_i g2
            split at h
            · split at h
              · cases h
              · split at h
                · cases h
                · rename_i hd
                  have h1 := ihd _ _ _ _ hd
                  have h2 := quote_len c t
                  cases h
                  simp only [listD, symD, sizeD, sizesD]
                  omega
            · rename_i g3
              split at h
              · have := str_one h; omega
              · rename_i g4
                split at h
                · have := bar_one h; omega
                · rename_i g5
                  obtain ⟨h1, h2⟩ := atom_one h
                  have hop : opensL c = false := by
                    simp only [opensL, Bool.or_eq_false_iff, beq_eq_false_iff_ne, ne_eq]
                    simp only [not_or] at g1 g2 g3
                    exact ⟨⟨⟨⟨⟨⟨⟨⟨g1.1, g1.2⟩, g2.1⟩, g2.2⟩, g3.1⟩, g3.2.1⟩, g3.2.2⟩, g4⟩, g5⟩
                  have h3 := stop_ahead hst.1 hop
                  have h4 : r.length = (c :: t).length - (aheadL (c :: t)).length := by rw [h2, List.length_drop]
                  rw [List.length_cons] at h4
                  omega
    · rw [rd_list] at h
      split at h
      · cases h
      · rename_i z m hs
        have hl := ihs _ _ _ _ hs
        split at h
        · rename_i hm
          have := head_len hm
          cases h
          simp only [listD, sizeD, sizesD]
          omega
        · split at h
          · split at h
            · cases h
            · rename_i d' r' hd
              have h1 := ihd _ _ _ _ hd
              rw [List.length_drop] at h1
              split at h
              · cases h
              · rename_i z' q hq
                have h2 := ihs _ _ _ _ hq
                split at h
                · rename_i hm
                  have := head_len hm
                  cases h
                  simp only [listD, sizeD, sizesD]
                  omega
                · cases h
          · split at h
            · cases h
            · rename_i d' r' hd
              have h1 := ihd _ _ _ _ hd
              have h2 := ihl _ _ _ _ _ _ h
              rw [sizesD_append] at h2
              simp only [sizesD] at h2
              omega
theorem sizeD_one (d : DT) : 1 ≤ sizeD d := by cases d; simp only [sizeD]; omega
theorem Rdd.ssize {l r : By} {k : Nat} {z : DT} (h : Rdd .skip l k (.ok z r)) : r.length ≤ l.length := by
  obtain ⟨n, h⟩ := h
  exact (rd_size n).1 _ _ _ _ (h n (Nat.le_refl _))
theorem Rdd.dsize {l r : By} {k : Nat} {d : DT} (h : Rdd .datum l k (.ok d r)) : sizeD d + 2 * r.length ≤ 2 * l.length := by
  obtain ⟨n, h⟩ := h
  exact (rd_size n).2.1 _ _ _ _ (h n (Nat.le_refl _))
/-- It didn't end for want of fuel. -/
def Nz : Res → Prop
  | .ok _ _ => True
  | .bad e _ => e ≠ 0
theorem nz4 (l : By) : Nz (.bad errRead l) := by show (4 : Int) ≠ 0; decide
theorem nz13 (l : By) : Nz (.bad errDeep l) := by show (13 : Int) ≠ 0; decide
theorem atom_nz (l : By) : Nz (atomL l) := by
  unfold atomL
  dsimp only
  split
  · trivial
  · split
    · trivial
    · split
      · trivial
      · split
        · trivial
        · show (4 : Int) ≠ 0; decide
theorem str_nz (l : By) : Nz (strL l) := by
  unfold strL
  split
  · show (4 : Int) ≠ 0; decide
  · split
    · trivial
    · show (4 : Int) ≠ 0; decide
theorem bar_nz (l : By) : Nz (barL l) := by
  unfold barL
  split
  · show (4 : Int) ≠ 0; decide
  · split
    · trivial
    · show (4 : Int) ≠ 0; decide
theorem rd_total : ∀ L : Nat, (∀ (l : By) (k : Nat), l.length < L → ∃ R, Rdd .skip l k R ∧ Nz R) ∧ (∀ (l : By) (k : Nat), l.length < L → ∃ R, Rdd .datum l k R ∧ Nz R) ∧ ∀ (l : By) (k : Nat) (e : UInt8) (acc : List DT), l.length < L → ∃ R, Rdd (.list e acc) l k R ∧ Nz R
  | 0 => ⟨fun _ _ h => absurd h (Nat.not_lt_zero _), fun _ _ h => absurd h (Nat.not_lt_zero _), fun _ _ _ _ h => absurd h (Nat.not_lt_zero _)⟩
  | L + 1 => by
    obtain ⟨ihs, ihd, ihl⟩ := rd_total L
    have S : ∀ (l : By) (k : Nat), l.length < L + 1 → ∃ R, Rdd .skip l k R ∧ Nz R := fun l k hl => by
      cases l with
      | nil => exact ⟨_, .nil, trivial⟩
      | cons c t =>
        rw [List.length_cons] at hl
        by_cases h1 : isBl c = true
        · obtain ⟨R, h, hz⟩ := ihs t k (by omega)
          exact ⟨R, .bl h1 h, hz⟩
        · by_cases h2 : c = 59
          · subst h2
            have := line_len t
            obtain ⟨R, h, hz⟩ := ihs (lineL t) k (by omega)
            exact ⟨R, .line h, hz⟩
          · by_cases h3 : c = 35 ∧ t.head? = some 124
            · obtain ⟨rfl, h3⟩ := h3
              cases t with
              | nil => cases h3
              | cons a t =>
                injection h3 with h3
                subst h3
                rw [List.length_cons] at hl
                cases hb : blkL 1 t with
                | none => exact ⟨_, .noblock hb, nz4 _⟩
                | some r =>
                  have := blk_len _ _ _ hb
                  obtain ⟨R, h, hz⟩ := ihs r k (by omega)
                  exact ⟨R, .block hb h, hz⟩
            · by_cases h4 : c = 35 ∧ t.head? = some 59
              · obtain ⟨rfl, h4⟩ := h4
                cases t with
                | nil => cases h4
                | cons a t =>
                  injection h4 with h4
                  subst h4
                  rw [List.length_cons] at hl
                  obtain ⟨R, h, hz⟩ := ihd t (k + 1) (by omega)
                  cases R with
                  | bad x r => exact ⟨_, .nounread h, hz⟩
                  | ok d r =>
                    have := h.dsize
                    obtain ⟨R, g, hz⟩ := ihs r k (by omega)
                    exact ⟨R, .unread h g, hz⟩
              · refine ⟨_, .stop ?_, trivial⟩
                simp only [stopL, Bool.and_eq_true, Bool.not_eq_true', Bool.and_eq_false_iff, Bool.or_eq_false_iff, beq_eq_false_iff_ne, ne_eq]
                refine ⟨⟨by simpa using h1, h2⟩, ?_⟩
                by_cases h5 : c = 35
                · exact .inr ⟨fun e => h3 ⟨h5, e⟩, fun e => h4 ⟨h5, e⟩⟩
                · exact .inl h5
    have D : ∀ (l : By) (k : Nat), l.length < L + 1 → ∃ R, Rdd .datum l k R ∧ Nz R := fun l k hl => by
      obtain ⟨R, hs, hz⟩ := S l k hl
      cases R with
      | bad x r => exact ⟨_, .dskip hs, hz⟩
      | ok z m =>
        have hlen := hs.ssize
        cases m with
        | nil => exact ⟨_, .dend hs, nz4 _⟩
        | cons c t =>
          rw [List.length_cons] at hlen
          by_cases h1 : c = 40 ∨ c = 91
          · by_cases hk : k < 200
            · obtain ⟨R, h, hz⟩ := ihl t (k + 1) (if c = 40 then 41 else 93) [] (by omega)
              exact ⟨R, .dlist hs h1 hk h, hz⟩
            · exact ⟨_, .ddeep hs (.inl h1) (by omega), nz13 _⟩
          · by_cases h2 : c = 41 ∨ c = 93
            · exact ⟨_, .dclose hs h2, nz4 _⟩
            · by_cases h3 : c = 39 ∨ c = 96 ∨ c = 44
              · by_cases hk : k < 200
                · have := quote_len c t
                  obtain ⟨R, h, hz⟩ := ihd (quoteL c t).2 (k + 1) (by omega)
                  cases R with
                  | bad x r => exact ⟨_, .dnoquote hs h3 hk h, hz⟩
                  | ok d r => exact ⟨_, .dquote hs h3 hk h, trivial⟩
                · exact ⟨_, .ddeep hs (.inr h3) (by omega), nz13 _⟩
              · by_cases h4 : c = 34
                · subst h4; exact ⟨_, .dstr hs, str_nz _⟩
                · by_cases h5 : c = 124
                  · subst h5; exact ⟨_, .dbar hs, bar_nz _⟩
                  · refine ⟨_, .datom hs ?_, atom_nz _⟩
                    simp only [opensL, Bool.or_eq_false_iff, beq_eq_false_iff_ne, ne_eq]
                    simp only [not_or] at h1 h2 h3
                    exact ⟨⟨⟨⟨⟨⟨⟨⟨h1.1, h1.2⟩, h2.1⟩, h2.2⟩, h3.1⟩, h3.2.1⟩, h3.2.2⟩, h4⟩, h5⟩
    refine ⟨S, D, fun l k e acc hl => ?_⟩
    obtain ⟨R, hs, hz⟩ := S l k hl
    cases R with
    | bad x r => exact ⟨_, .lskip hs, hz⟩
    | ok z m =>
      have hlen := hs.ssize
      obtain ⟨rfl, _⟩ := hs.again (j := k)
      by_cases hm : m.head? = some e
      · exact ⟨_, .lclose hs hm, trivial⟩
      · by_cases ha : acc ≠ [] ∧ aheadL m = [46]
        · obtain ⟨R, h, hz⟩ := D (m.drop 1) k (by rw [List.length_drop]; omega)
          cases R with
          | bad x r => exact ⟨_, .ldot1 hs hm ha h, hz⟩
          | ok d r =>
            have h2 := h.dsize
            rw [List.length_drop] at h2
            obtain ⟨R, g, hz⟩ := S r k (by omega)
            cases R with
            | bad x q => exact ⟨_, .ldot2 hs hm ha h g, hz⟩
            | ok z q =>
              obtain ⟨rfl, _⟩ := g.again (j := k)
              by_cases hq : q.head? = some e
              · exact ⟨_, .ldot hs hm ha h g hq, trivial⟩
              · exact ⟨_, .ldot3 hs hm ha h g hq, nz4 _⟩
        · obtain ⟨R, h, hz⟩ := D m k (by omega)
          cases R with
          | bad x r => exact ⟨_, .litem0 hs hm ha h, hz⟩
          | ok d r =>
            have h2 := h.dsize
            have h3 := sizeD_one d
            obtain ⟨R, g, hz⟩ := ihl r k e (acc ++ [d]) (by omega)
            exact ⟨R, .litem hs hm ha h g, hz⟩

/-- The parts that ReaderSkips lays ahead, in a row. -/
def partsL : List Nat → By
  | [] => []
  | p :: l => partL (p % 6) ++ partsL l
theorem partsL_snoc : ∀ (l : List Nat) (p : Nat), partsL (l ++ [p]) = partsL l ++ partL (p % 6)
  | [], p => by simp [partsL]
  | a :: l, p => by simp [partsL, partsL_snoc l p]
theorem partL_len : ∀ p : Nat, (partL p).length ≤ 15
  | 0 | 1 | 2 | 3 | 4 => by decide
  | _ + 5 => by simp [partL]
theorem partsL_len : ∀ l : List Nat, (partsL l).length ≤ 15 * l.length
  | [] => by simp [partsL]
  | p :: l => by
    have h1 := partL_len (p % 6)
    have h2 := partsL_len l
    simp only [partsL, List.length_append, List.length_cons]
    omega
theorem parts_skip : ∀ (ps : List Nat) {l : By} {R : Res}, Rdd .skip l 0 R → Rdd .skip (partsL ps ++ l) 0 R
  | [], _, _, H => H
  | p :: ps, l, R, H => by
    rw [partsL, List.append_assoc]
    exact part_skip _ (parts_skip ps H)
theorem parts_datum (ps : List Nat) {l : By} {R : Res} (h : Rdd .datum l 0 R) : Rdd .datum (partsL ps ++ l) 0 R := by
  obtain ⟨Q, hq, _⟩ := (rd_total (l.length + 1)).1 l 0 (Nat.lt_succ_self _)
  exact Rdd.ahead (parts_skip ps hq) hq h
theorem parts_past (ps : List Nat) {l r : By} {z : DT} (h : Rdd .skip (partsL ps ++ l) 0 (.ok z r)) : r.length ≤ l.length := by
  obtain ⟨Q, hq, _⟩ := (rd_total (l.length + 1)).1 l 0 (Nat.lt_succ_self _)
  have e := h.one (parts_skip ps hq)
  rw [← e] at hq
  exact hq.ssize
theorem skip_nz {l r : By} {e : Int} (h : Rdd .skip l 0 (.bad e r)) : e ≠ 0 := by
  obtain ⟨Q, hq, hz⟩ := (rd_total (l.length + 1)).1 l 0 (Nat.lt_succ_self _)
  rw [hq.one h] at hz
  exact hz
theorem trims_self {l : List DT} (h : ∀ x, x ∈ l → trimD x = x) : trimsD l = l := by
  induction l with
  | nil => simp [trimsD]
  | cons t l ih => rw [trimsD, h t (by simp), ih fun x hx => h x (by simp [hx])]
theorem lv_nil : limbs (val []) = [] := limbs_zero
theorem FineD.trim {d : DT} (h : FineD d) : trimD d = d := by
  induction h with
  | truth b => rw [truthD, trimD, lv_nil]; simp [trimsD]
  | num z _ => rw [numD, trimD, limbs_val]; simp [trimsD]
  | sym l _ _ => rw [symD, trimD, lv_nil]; simp [trimsD]
  | str l _ => rw [strD, trimD, lv_nil]; simp [trimsD]
  | list l _ ih => rw [listD, trimD, lv_nil, trims_self ih]; simp [trimsD]
  | dot l e _ _ _ _ ih ihe => rw [listD, trimD, lv_nil, trims_self ih]; simp [trimsD, ihe]
end Go.Proofs.YtlohdglhebplfaaGreatDoor
