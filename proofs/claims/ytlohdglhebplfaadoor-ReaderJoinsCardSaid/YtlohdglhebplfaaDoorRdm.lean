/-
  The reader: what is skipped changes nothing; lists in one another; the document's examples.
-/
import Derived.Test.YtlohdglhebplfaaDoorRds
namespace Go.Proofs.YtlohdglhebplfaaDoor
open Go.RowKit
theorem rd_stop : ∀ (n : Nat) (l : By) (k : Nat) (z : DT) (m : By), rd n .skip l k = .ok z m → stopL m = true ∧ z = zeroD
  | 0, l, k, z, m, h => by rw [rd.eq_def] at h; cases h
  | n + 1, [], k, z, m, h => by rw [rd_skip_nil] at h; cases h; exact ⟨rfl, rfl⟩
  | n + 1, c :: t, k, z, m, h => by
    rw [rd_skip_cons] at h
    split at h
    · exact rd_stop n _ _ _ _ h
    · rename_i h1
      split at h
      · exact rd_stop n _ _ _ _ h
      · rename_i h2
        split at h
        · split at h
          · exact rd_stop n _ _ _ _ h
          · cases h
        · rename_i h3
          split at h
          · split at h
            · exact rd_stop n _ _ _ _ h
            · cases h
          · rename_i h4
            cases h
            refine ⟨?_, rfl⟩
            simp only [stopL, Bool.and_eq_true, Bool.not_eq_true', Bool.and_eq_false_iff, Bool.or_eq_false_iff, beq_eq_false_iff_ne, ne_eq]
            refine ⟨⟨by simpa using h1, h2⟩, ?_⟩
            by_cases h5 : c = 35
            · exact .inr ⟨fun e => h3 ⟨h5, e⟩, fun e => h4 ⟨h5, e⟩⟩
            · exact .inl h5
theorem Rdd.again {l m : By} {k j : Nat} {z : DT} (h : Rdd .skip l k (.ok z m)) : z = zeroD ∧ Rdd .skip m j (.ok zeroD m) := by
  obtain ⟨n, h⟩ := h
  have := rd_stop n l k z m (h n (Nat.le_refl _))
  exact ⟨this.2, .stop this.1⟩
/-- The parts that ReaderSkips lays ahead. -/
def partL (p : Nat) : By := match p with
  | 0 => [32] | 1 => [10] | 2 => [59, 32, 120, 32, 40, 32, 124, 35, 10] | 3 => [35, 124, 32, 40, 32, 35, 124, 32, 59, 32, 124, 35, 32, 124, 35]
  | 4 => [35, 59, 40, 97, 32, 46, 32, 98, 41, 32] | _ => [9, 13]
theorem pair_read (l : By) (k : Nat) (hk : k < 200) : Rdd .datum ([40, 97, 32, 46, 32, 98, 41] ++ l) k (.ok (listD [symD [97]] [symD [98]]) l) := by
  have ha : Rdd .datum ([97, 32, 46, 32, 98, 41] ++ l) (k + 1) (.ok (symD [97]) ([32, 46, 32, 98, 41] ++ l)) := Rdd.datom (.stop rfl) (by rfl)
  have hb : Rdd .datum (([46, 32, 98, 41] ++ l).drop 1) (k + 1) (.ok (symD [98]) ([41] ++ l)) := Rdd.datom (c := 98) (m := [41] ++ l) (z := zeroD) (l := [32, 98, 41] ++ l) (.bl rfl (.stop (by rfl))) (by rfl)
  have hl : Rdd (.list 41 ([] ++ [symD [97]])) ([32, 46, 32, 98, 41] ++ l) (k + 1) (.ok (listD [symD [97]] [symD [98]]) l) :=
    Rdd.ldot (m := [46, 32, 98, 41] ++ l) (q := [41] ++ l) (z := zeroD) (.bl rfl (.stop (by rfl))) (by simp) ⟨by simp, by rfl⟩ hb (.stop (by rfl)) rfl
  exact Rdd.dlist (.stop rfl) (.inl rfl) hk (Rdd.litem (.stop (by rfl)) (by simp) (by simp) ha hl)
theorem part_skip (p : Nat) {l : By} {R : Res} (H : Rdd .skip l 0 R) : Rdd .skip (partL p ++ l) 0 R := by
  match p with
  | 0 => exact .bl rfl H
  | 1 => exact .bl rfl H
  | 2 => exact .line (by show Rdd .skip (10 :: l) 0 R; exact .bl rfl H)
  | 3 => exact .block (r := l) (by rfl) H
  | 4 => exact .unread (pair_read ([32] ++ l) 1 (by omega)) (.bl rfl H)
  | _ + 5 => exact .bl rfl (.bl rfl H)

/-- k lists in one another. -/
def nestD : Nat → DT
  | 0 => listD [] []
  | n + 1 => listD [nestD n] []
theorem nest_read : ∀ (j k : Nat) (l : By), k + j + 1 ≤ 200 → Rdd .datum (List.replicate (j + 1) 40 ++ (List.replicate (j + 1) 41 ++ l)) k (.ok (nestD j) l)
  | 0, k, l, h => Rdd.dlist (.stop (by rfl)) (.inl rfl) (by omega) (Rdd.lclose (.stop (by rfl)) rfl)
  | j + 1, k, l, h => by
    have e : List.replicate (j + 1 + 1) (41 : UInt8) ++ l = List.replicate (j + 1) 41 ++ (41 :: l) := by
      rw [List.replicate_succ', List.append_assoc]; rfl
    rw [e]
    exact Rdd.dlist (.stop (by rfl)) (.inl rfl) (by omega) (Rdd.litem (.stop (by rfl)) (by simp [List.replicate_succ]) (by simp) (nest_read j (k + 1) (41 :: l) (by omega)) (Rdd.lclose (.stop (by rfl)) rfl))
theorem nest_deep : ∀ (n k j : Nat) (l : By), k + n = 200 → n < j → Rdd .datum (List.replicate j 40 ++ l) k (.bad errDeep (List.replicate (j - n) 40 ++ l))
  | 0, k, 0, l, h, hj => absurd hj (Nat.lt_irrefl 0)
  | 0, k, j + 1, l, h, hj => Rdd.ddeep (.stop (by rfl)) (.inl (.inl rfl)) (by omega)
  | n + 1, k, 0, l, h, hj => absurd hj (Nat.not_lt_zero _)
  | n + 1, k, j + 1, l, h, hj => by
    have e : j + 1 - (n + 1) = j - n := by omega
    rw [e]
    obtain ⟨i, rfl⟩ : ∃ i, j = i + 1 := ⟨j - 1, by omega⟩
    exact Rdd.dlist (.stop (by rfl)) (.inl rfl) (by omega) (Rdd.litem0 (.stop (by rfl)) (by simp [List.replicate_succ]) (by simp) (nest_deep n (k + 1) (i + 1) l (by omega) (by omega)))
theorem nest_open : ∀ (j k : Nat), k + j ≤ 200 → Rdd .datum (List.replicate j 40) k (.bad errRead [])
  | 0, k, h => Rdd.dend .nil
  | 1, k, h => Rdd.dlist (.stop (by rfl)) (.inl rfl) (by omega) (Rdd.litem0 .nil (by simp) (by simp) (Rdd.dend .nil))
  | j + 2, k, h => Rdd.dlist (.stop (by rfl)) (.inl rfl) (by omega) (Rdd.litem0 (.stop (by rfl)) (by simp [List.replicate_succ]) (by simp) (nest_open (j + 1) (k + 1) (by omega)))
theorem blanks_skip : ∀ (n : Nat) {l : By} {k : Nat} {R : Res}, Rdd .skip l k R → Rdd .skip (List.replicate n 32 ++ l) k R
  | 0, _, _, _, H => H
  | n + 1, _, _, _, H => .bl rfl (blanks_skip n H)
/-- The document's examples. -/
theorem ex1 : Rdd .datum [40, 97, 32, 46, 32, 98, 41] 0 (.ok (listD [symD [97]] [symD [98]]) []) := pair_read [] 0 (by omega)
theorem ex2 : Rdd .datum [39, 120] 0 (.ok (listD [symD [113, 117, 111, 116, 101], symD [120]] []) []) := Rdd.dquote (.stop rfl) (.inl rfl) (by omega) (Rdd.datom (.stop rfl) rfl)
theorem ex3 : Rdd .datum [40, 97] 0 (.bad errRead []) := by
  have ha : Rdd .datum [97] 1 (.ok (symD [97]) []) := Rdd.datom (.stop rfl) (by rfl)
  exact Rdd.dlist (.stop rfl) (.inl rfl) (by omega) (Rdd.litem (.stop (by rfl)) (by simp) (by simp) ha (Rdd.litem0 .nil (by simp) (by simp [aheadL]) (Rdd.dend .nil)))
theorem ex4 : Rdd .datum [35, 59, 40, 97, 41, 32, 53] 0 (.ok (numD 5) []) := by
  have ha : Rdd .datum [97, 41, 32, 53] 2 (.ok (symD [97]) [41, 32, 53]) := Rdd.datom (.stop rfl) (by rfl)
  have hl : Rdd .datum [40, 97, 41, 32, 53] 1 (.ok (listD [symD [97]] []) [32, 53]) := Rdd.dlist (.stop rfl) (.inl rfl) (by omega) (Rdd.litem (.stop (by rfl)) (by simp) (by simp) ha (Rdd.lclose (.stop rfl) rfl))
  exact Rdd.datom (.unread hl (.bl rfl (.stop rfl))) rfl
end Go.Proofs.YtlohdglhebplfaaDoor
