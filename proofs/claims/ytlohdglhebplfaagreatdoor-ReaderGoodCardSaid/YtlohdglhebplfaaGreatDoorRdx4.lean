/-
  The reader: what it reads is good.
-/
import Derived.Test.YtlohdglhebplfaaGreatDoorRdx2
import Derived.Test.YtlohdglhebplfaaGreatDoorDng
namespace Go.Proofs.YtlohdglhebplfaaGreatDoor
open Go.RowKit

section

/-- What the reader puts together, ahead of Norm. -/
inductive RawD : DT → Prop
  | truth (b : Bool) : RawD (truthD b)
  | num (z : Int) : (limbs z.natAbs).length ≤ 64 → RawD (numD z)
  | sym (l : By) : l ≠ [] → l.length ≤ 64 → RawD (symD l)
  | str (l : By) : l.length ≤ 1024 → RawD (strD l)
  | list (l : List DT) : (∀ d, d ∈ l → RawD d) → RawD (listD l [])
  | dot (l : List DT) (e : DT) : l ≠ [] → (∀ d, d ∈ l → RawD d) → RawD e → RawD (listD l [e])
/-- Good, but for how many data there are, and how deep. -/
inductive FineD : DT → Prop
  | truth (b : Bool) : FineD (truthD b)
  | num (z : Int) : (limbs z.natAbs).length ≤ 64 → FineD (numD z)
  | sym (l : By) : l ≠ [] → l.length ≤ 64 → FineD (symD l)
  | str (l : By) : l.length ≤ 1024 → FineD (strD l)
  | list (l : List DT) : (∀ d, d ∈ l → FineD d) → FineD (listD l [])
  | dot (l : List DT) (e : DT) : l ≠ [] → (∀ d, d ∈ l → FineD d) → FineD e → e.k ≠ 5 → FineD (listD l [e])
theorem plain_bounds {l : By} (h : plainB (bytesOf l) = true) : l ≠ [] ∧ l.length ≤ 64 := by
  simp only [plainB, Bool.and_eq_true, decide_eq_true_eq] at h
  obtain ⟨⟨⟨⟨⟨h1, h2⟩, _⟩, _⟩, _⟩, _⟩ := h
  rw [bytesOf_size] at h1 h2
  exact ⟨fun e => by rw [e] at h1; exact absurd h1 (by simp), h2⟩
theorem atom_raw {l r : By} {d : DT} (h : atomL l = .ok d r) : RawD d := by
  unfold atomL at h
  dsimp only at h
  split at h
  · cases h; exact .truth true
  · split at h
    · cases h; exact .truth false
    · split at h
      · rename_i h3
        cases h; exact .num _ h3.2
      · split at h
        · rename_i h4
          cases h
          exact .sym _ (plain_bounds h4).1 (plain_bounds h4).2
        · cases h
theorem str_raw {l r : By} {d : DT} (h : strL l = .ok d r) : RawD d := by
  unfold strL at h
  split at h
  · cases h
  · split at h
    · rename_i h3
      cases h; exact .str _ h3
    · cases h
theorem bar_raw {l r : By} {d : DT} (h : barL l = .ok d r) : RawD d := by
  unfold barL at h
  split at h
  · cases h
  · split at h
    · rename_i h3
      cases h; exact .sym _ h3.1 h3.2
    · cases h
theorem quote_name (c : UInt8) (m : By) : (quoteL c m).1 ≠ [] ∧ (quoteL c m).1.length ≤ 64 := by
  unfold quoteL
  split
  · exact ⟨by simp, by simp⟩
  · split
    · exact ⟨by simp, by simp⟩
    · split
      · exact ⟨by simp, by simp⟩
      · exact ⟨by simp, by simp⟩
theorem rd_raw : ∀ (n : Nat) (l : By) (k : Nat) (d : DT) (r : By), (rd n .datum l k = .ok d r → RawD d) ∧ ∀ (e : UInt8) (acc : List DT), (∀ x, x ∈ acc → RawD x) → rd n (.list e acc) l k = .ok d r → RawD d
  | 0, l, k, d, r => ⟨fun h => (by rw [rd.eq_def] at h; cases h), fun e acc _ h => (by rw [rd.eq_def] at h; cases h)⟩
  | n + 1, l, k, d, r => by
    refine ⟨fun h => ?_, fun e acc ha h => ?_⟩
    · rw [rd_datum] at h
      split at h
      · cases h
      · cases h
      · split at h
        · split at h
          · cases h
          · exact (rd_raw n _ _ _ _).2 _ [] (by simp) h
        · split at h
          · cases h
          · split at h
            · split at h
              · cases h
              · split at h
                · cases h
                · rename_i h1
                  cases h
                  refine .list _ fun x hx => ?_
                  rcases List.mem_cons.1 hx with rfl | hx
                  · exact .sym _ (quote_name _ _).1 (quote_name _ _).2
                  · rcases List.mem_cons.1 hx with rfl | hx
                    · exact (rd_raw n _ _ _ _).1 h1
                    · simp at hx
            · split at h
              · exact str_raw h
              · split at h
                · exact bar_raw h
                · exact atom_raw h
    · rw [rd_list] at h
      split at h
      · cases h
      · split at h
        · cases h; exact .list _ ha
        · split at h
          · rename_i hd
            split at h
            · cases h
            · rename_i h1
              split at h
              · cases h
              · split at h
                · cases h; exact .dot _ _ hd.1 ha ((rd_raw n _ _ _ _).1 h1)
                · cases h
          · split at h
            · cases h
            · rename_i h1
              refine (rd_raw n _ _ _ _).2 _ _ (fun x hx => ?_) h
              rcases List.mem_append.1 hx with hx | hx
              · exact ha x hx
              · rcases List.mem_cons.1 hx with rfl | hx
                · exact (rd_raw n _ _ _ _).1 h1
                · simp at hx
theorem Rdd.raw {l r : By} {k : Nat} {d : DT} (h : Rdd .datum l k (.ok d r)) : RawD d := by
  obtain ⟨n, h⟩ := h
  exact (rd_raw n _ _ _ _).1 (h n (Nat.le_refl _))

def SpFine (p : List DT × Option DT) : Prop := (∀ x, x ∈ p.1 → FineD x) ∧ ∀ e, p.2 = some e → FineD e ∧ e.k ≠ 5
theorem SpFine.close {p : List DT × Option DT} (h : SpFine p) : FineD (closeD p) := by
  obtain ⟨l, o⟩ := p
  cases o with
  | none => exact .list l h.1
  | some e =>
    cases l with
    | nil => exact (h.2 e rfl).1
    | cons x l => exact .dot (x :: l) e (by simp) h.1 (h.2 e rfl).1 (h.2 e rfl).2
theorem mem_norms {x : DT} : ∀ {l : List DT}, x ∈ normsD l → ∃ y, y ∈ l ∧ x = normD y
  | [], h => by simp [normsD] at h
  | t :: l, h => by
    rw [normsD_cons] at h
    rcases List.mem_cons.1 h with rfl | h
    · exact ⟨t, by simp, rfl⟩
    · obtain ⟨y, h1, h2⟩ := mem_norms h
      exact ⟨y, by simp [h1], h2⟩
theorem leaf_num (z : Int) : leafD 1 (decide (z < 0)) (limbs z.natAbs) false ⟨#[]⟩ = numD z := by
  unfold leafD
  rw [if_pos rfl, limbs_val, ← zOf_self]
  rfl
theorem raw_spine {d : DT} (h : RawD d) : SpFine (spineD d) := by
  induction h with
  | truth b =>
    have e : spineD (truthD b) = ([], some (truthD b)) := by rw [truthD, spineD_eq, if_neg (by decide)]; simp [leafD]
    rw [e]
    exact ⟨fun x hx => by simp at hx, fun e he => by cases he; exact ⟨.truth b, by show (2 : Int) ≠ 5; decide⟩⟩
  | num z hz =>
    have e : spineD (numD z) = ([], some (numD z)) := by rw [numD, spineD_eq, if_neg (by decide), leaf_num]; rfl
    rw [e]
    exact ⟨fun x hx => by simp at hx, fun e he => by cases he; exact ⟨.num z hz, by show (1 : Int) ≠ 5; decide⟩⟩
  | sym l h1 h2 =>
    have e : spineD (symD l) = ([], some (symD l)) := by rw [symD, spineD_eq, if_neg (by decide)]; simp [leafD]
    rw [e]
    exact ⟨fun x hx => by simp at hx, fun e he => by cases he; exact ⟨.sym l h1 h2, by show (3 : Int) ≠ 5; decide⟩⟩
  | str l h2 =>
    have e : spineD (strD l) = ([], some (strD l)) := by rw [strD, spineD_eq, if_neg (by decide)]; simp [leafD]
    rw [e]
    exact ⟨fun x hx => by simp at hx, fun e he => by cases he; exact ⟨.str l h2, by show (4 : Int) ≠ 5; decide⟩⟩
  | list l _ ih =>
    rw [listD, spineD_eq, if_pos rfl, spinesD_nil]
    refine ⟨fun x hx => ?_, fun e he => by cases he⟩
    obtain ⟨y, hy, rfl⟩ := mem_norms (by simpa using hx)
    exact (ih y hy).close
  | dot l e _ _ _ ih ihe =>
    rw [listD, spineD_eq, if_pos rfl, spinesD_cons]
    refine ⟨fun x hx => ?_, ihe.2⟩
    rcases List.mem_append.1 hx with hx | hx
    · obtain ⟨y, hy, rfl⟩ := mem_norms hx
      exact (ih y hy).close
    · exact ihe.1 x hx
theorem RawD.fine {d : DT} (h : RawD d) : FineD (normD d) := (raw_spine h).close
theorem FineD.parts {k : Int} {g bb : Bool} {ys : List Nat} {s : ByteArray} {items tail : List DT} (h : FineD (.mk k g ys bb s items tail)) : (∀ x, x ∈ items → FineD x) ∧ ∀ x, x ∈ tail → FineD x := by
  generalize hd : DT.mk k g ys bb s items tail = d at h
  cases h with
  | truth b => cases hd; exact ⟨fun x hx => by simp at hx, fun x hx => by simp at hx⟩
  | num z _ => cases hd; exact ⟨fun x hx => by simp at hx, fun x hx => by simp at hx⟩
  | sym l _ _ => cases hd; exact ⟨fun x hx => by simp at hx, fun x hx => by simp at hx⟩
  | str l _ => cases hd; exact ⟨fun x hx => by simp at hx, fun x hx => by simp at hx⟩
  | list l h => cases hd; exact ⟨h, fun x hx => by simp at hx⟩
  | dot l e _ h he _ => cases hd; exact ⟨h, fun x hx => by simp at hx; rw [hx]; exact he⟩
mutual
theorem fine_seqT : ∀ (t : LT) (v b o : Nat), FineD (shape t) → ∀ x ∈ seqT t v b o, FineD (shape x.t)
  | .mk k g la ln lc ys bb s ia ic items ta tc tail, v, b, o, hT, x, hx => by
    simp only [seqT, List.mem_cons, List.mem_append] at hx
    have hp := hT
    rw [shape] at hp
    rcases hx with rfl | hx | hx
    · exact hT
    · exact fine_seqR items (v + 1) (blk ia) (ofs ia) hp.parts.1 x hx
    · exact fine_seqR tail (v + 1) (blk ta) (ofs ta) hp.parts.2 x hx
theorem fine_seqR : ∀ (l : List LT) (v b o : Nat), (∀ x, x ∈ shapes l → FineD x) → ∀ x ∈ seqR l v b o, FineD (shape x.t)
  | [], _, _, _, _, x, hx => by simp [seqR] at hx
  | t :: l, v, b, o, hT, x, hx => by
    simp only [seqR, List.mem_append] at hx
    rcases hx with hx | hx
    · exact fine_seqT t v b o (hT _ (by rw [shapes_cons]; simp)) x hx
    · exact fine_seqR l v b (o + 7) (fun y hy => hT y (by rw [shapes_cons]; simp [hy])) x hx
end
end

section

set_option maxRecDepth 100000 in
set_option maxHeartbeats 1600000 in
theorem isZero_yes (k : Int) (la ia ta : Option Addr) (lc ic tc : Nat) (w : World) :
    Calls Tryz.prog 182 #[.agg #[.int .i64 k, .bool false, .slice la 0 lc, .bool false, .string ⟨#[]⟩, .slice ia 0 ic, .slice ta 0 tc]] w fun e w' => e = .returned (.bool true) ∧ Below w.heap.size w w' := by
  have HB := Lib.hid ((Below.refl w.heap.size w).alloc (Nat.le_refl _) (.cells #[.int .i64 k, .bool false, .slice la 0 lc, .bool false, .string ⟨#[]⟩, .slice ia 0 ic, .slice ta 0 tc] 31))
  go_enter Tryz.func182, Tryz.ntmps182
  go_wp2_with fail
  go_ret
  exact ⟨rfl, HB.out⟩
set_option maxRecDepth 100000 in
set_option maxHeartbeats 1600000 in
theorem goodTail_none (k : Int) (g bb : Bool) (s : ByteArray) (la ia ta : Option Addr) (ln lc n ic tc : Nat) (w : World) :
    Calls Tryz.prog 181 #[.agg #[.int .i64 k, .bool g, .slice la ln lc, .bool bb, .string s, .slice ia n ic, .slice ta 0 tc]] w fun e w' => e = .returned (.bool true) ∧ Below w.heap.size w w' := by
  go_enter Tryz.func181, Tryz.ntmps181
  go_wp2_with fail
  go_ret
  exact ⟨rfl, (Below.refl _ w).alloc (Nat.le_refl _) _⟩
set_option maxRecDepth 100000 in
set_option maxHeartbeats 1600000 in
theorem goodTail_one (k : Int) (g bb : Bool) (s : ByteArray) (la ia : Option Addr) (B O ln lc n ic tc : Nat) (k' : Int) (w : World) (hn : 0 < n) (h5 : k' ≠ 5) (hB : B < w.heap.size) (hc : w.cell? ⟨B, O, none⟩ = some (.int .i64 k')) :
    Calls Tryz.prog 181 #[.agg #[.int .i64 k, .bool g, .slice la ln lc, .bool bb, .string s, .slice ia n ic, .slice (some ⟨B, O, none⟩) 1 tc]] w fun e w' => e = .returned (.bool true) ∧ Below w.heap.size w w' := by
  have q1 : decide (0 < (n : Int)) = true := decide_eq_true (by omega)
  have hcW : (w.alloc (.cells #[.int .i64 k, .bool g, .slice la ln lc, .bool bb, .string s, .slice ia n ic, .slice (some ⟨B, O, none⟩) 1 tc] 31)).cell? ⟨B, O, none⟩ = some (.int .i64 k') := by
    rw [World.cell?_of_block (w := w) (Below.heap_alloc _ _ _ (by show B < _; exact hB))]
    exact hc
  have q5 : (k' != 5) = true := by rw [bne, beq_eq_false_iff_ne.2 h5]; rfl
  clear hc
  go_enter Tryz.func181, Tryz.ntmps181
  go_wp2_with fail
  go_ret
  exact ⟨by first | rfl | (rw [← q5]; rfl), (Below.refl _ w).alloc (Nat.le_refl _) _⟩
set_option maxRecDepth 100000 in
set_option maxHeartbeats 3200000 in
theorem alone_bool_yes (bb : Bool) (la ia ta : Option Addr) (lc ic tc : Nat) (w : World) :
    Calls Tryz.prog 136 #[.agg #[.int .i64 2, .bool false, .slice la 0 lc, .bool bb, .string ⟨#[]⟩, .slice ia 0 ic, .slice ta 0 tc]] w fun e w' => e = .returned (.bool true) ∧ Below w.heap.size w w' := by
  obtain ⟨w2, hw2, _, _, _, hbel⟩ := two2d w (.cells #[.int .i64 2, .bool false, .slice la 0 lc, .bool bb, .string ⟨#[]⟩, .slice ia 0 ic, .slice ta 0 tc] 31) (.cells #[.int .i64 2, .bool false, .slice la 0 lc, .bool false, .string ⟨#[]⟩, .slice ia 0 ic, .slice ta 0 tc] 31)
  have HZ := Lib.hid (isZero_yes 2 la ia ta lc ic tc)
  have HW := Lib.hid hw2
  have HB := Lib.hid hbel
  clear hw2 hbel
  go_enter Tryz.func136, Tryz.ntmps136
  go_wp2_with fail
  go_region
  go_wp2_with fail
  rw [← HW.out]
  refine (HZ.out w2).mono ?_
  rintro e w3 ⟨rfl, b3⟩
  have hb3 := HB.out.trans (b3.mono HB.out.size)
  clear b3
  go_wp2_with fail
  go_ret
  exact ⟨rfl, hb3⟩
set_option maxRecDepth 100000 in
set_option maxHeartbeats 3200000 in
theorem alone_sym_yes (s : ByteArray) (la ia ta : Option Addr) (lc ic tc : Nat) (w : World) (q1 : ¬ s.toList = []) (q2 : decide ((s.size : Int) ≤ 64) = true) :
    Calls Tryz.prog 136 #[.agg #[.int .i64 3, .bool false, .slice la 0 lc, .bool false, .string s, .slice ia 0 ic, .slice ta 0 tc]] w fun e w' => e = .returned (.bool true) ∧ Below w.heap.size w w' := by
  obtain ⟨w2, hw2, _, _, _, hbel⟩ := two2d w (.cells #[.int .i64 3, .bool false, .slice la 0 lc, .bool false, .string s, .slice ia 0 ic, .slice ta 0 tc] 31) (.cells #[.int .i64 3, .bool false, .slice la 0 lc, .bool false, .string ⟨#[]⟩, .slice ia 0 ic, .slice ta 0 tc] 31)
  have HZ := Lib.hid (isZero_yes 3 la ia ta lc ic tc)
  have HW := Lib.hid hw2
  have HB := Lib.hid hbel
  clear hw2 hbel
  go_enter Tryz.func136, Tryz.ntmps136
  go_wp2_with fail
  go_region
  go_wp2_with fail
  rw [← HW.out]
  refine (HZ.out w2).mono ?_
  rintro e w3 ⟨rfl, b3⟩
  have hb3 := HB.out.trans (b3.mono HB.out.size)
  clear b3
  go_wp2_with fail
  go_ret
  exact ⟨by first | rfl | (show Ending.returned (Value.bool (!s.toList.isEmpty)) = _; rw [show s.toList.isEmpty = false by simpa using q1]; rfl), hb3⟩
set_option maxRecDepth 100000 in
set_option maxHeartbeats 3200000 in
theorem alone_str_yes (s : ByteArray) (la ia ta : Option Addr) (lc ic tc : Nat) (w : World) (q2 : decide ((s.size : Int) ≤ 1024) = true) :
    Calls Tryz.prog 136 #[.agg #[.int .i64 4, .bool false, .slice la 0 lc, .bool false, .string s, .slice ia 0 ic, .slice ta 0 tc]] w fun e w' => e = .returned (.bool true) ∧ Below w.heap.size w w' := by
  obtain ⟨w2, hw2, _, _, _, hbel⟩ := two2d w (.cells #[.int .i64 4, .bool false, .slice la 0 lc, .bool false, .string s, .slice ia 0 ic, .slice ta 0 tc] 31) (.cells #[.int .i64 4, .bool false, .slice la 0 lc, .bool false, .string ⟨#[]⟩, .slice ia 0 ic, .slice ta 0 tc] 31)
  have HZ := Lib.hid (isZero_yes 4 la ia ta lc ic tc)
  have HW := Lib.hid hw2
  have HB := Lib.hid hbel
  clear hw2 hbel
  go_enter Tryz.func136, Tryz.ntmps136
  go_wp2_with fail
  go_region
  go_wp2_with fail
  rw [← HW.out]
  refine (HZ.out w2).mono ?_
  rintro e w3 ⟨rfl, b3⟩
  have hb3 := HB.out.trans (b3.mono HB.out.size)
  clear b3
  go_wp2_with fail
  go_ret
  exact ⟨rfl, hb3⟩
set_option maxRecDepth 100000 in
set_option maxHeartbeats 6400000 in
theorem alone_num_yes (g : Bool) (la ia ta : Option Addr) (ln lc ic tc : Nat) (w : World) (hC : ∀ W, Below w.heap.size w W → Calls Tryz.prog 180 #[.agg #[.bool g, .slice la ln lc]] W fun e W' => e = .returned (.bool true) ∧ Below W.heap.size W W') (q : decide ((ln : Int) ≤ 64) = true) :
    Calls Tryz.prog 136 #[.agg #[.int .i64 1, .bool g, .slice la ln lc, .bool false, .string ⟨#[]⟩, .slice ia 0 ic, .slice ta 0 tc]] w fun e w' => e = .returned (.bool true) ∧ Below w.heap.size w w' := by
  obtain ⟨w2, hw2, a0, a1, hz, hbel⟩ := two2d w (.cells #[.int .i64 1, .bool g, .slice la ln lc, .bool false, .string ⟨#[]⟩, .slice ia 0 ic, .slice ta 0 tc] 31) (.cells #[.int .i64 1, .bool g, .slice la ln lc, .bool false, .string ⟨#[]⟩, .slice ia 0 ic, .slice ta 0 tc] 31)
  have HW := Lib.hid hw2
  have HC := Lib.hid hC
  have HB := Lib.hid (And.intro a0 (And.intro a1 (And.intro hz hbel)))
  clear hw2 hbel a0 a1 hz hC
  go_enter Tryz.func136, Tryz.ntmps136
  go_wp2_with fail
  go_region
  go_wp2_with fail
  rw [← HW.out]
  refine (HC.out w2 HB.out.2.2.2).mono ?_
  rintro e w3 ⟨rfl, b3⟩
  have x0 := (b3.block w.heap.size (by rw [HB.out.2.2.1]; omega)).trans HB.out.1
  have x1 := (b3.block (w.heap.size + 1) (by rw [HB.out.2.2.1]; omega)).trans HB.out.2.1
  have hb3 := HB.out.2.2.2.trans (b3.mono HB.out.2.2.2.size)
  have hds := fun j => Lib.cell_of_heap x1 j
  have c0 := hds 0; have c1 := hds 1; have c2 := hds 2; have c3 := hds 3; have c4 := hds 4; have c5 := hds 5; have c6 := hds 6
  have hfs := fun j => Lib.frozen_of_heap x1 j
  have f1 := hfs 1; have f2 := hfs 2; have f5 := hfs 5; have f6 := hfs 6
  have e2 := Lib.cell_of_heap x0 2
  simp only [List.getElem?_toArray, List.getElem?_cons_zero, List.getElem?_cons_succ] at c0 c1 c2 c3 c4 c5 c6 e2
  have H3 := Lib.hid (And.intro hb3 (show w.heap.size + 2 ≤ w3.heap.size by have := b3.size; rwa [HB.out.2.2.1] at this))
  clear x0 x1 hb3 b3 hds hfs HW HC
  have HZ := Lib.hid (isZero_yes 1 none ia ta 0 ic tc)
  go_wp2_with fail
  refine (HZ.out _).mono ?_
  rintro e w4 ⟨rfl, b4⟩
  have hb4 : Below w.heap.size w w4 := by
    refine Below.trans ?_ (b4.mono (by simp only [setCell_size]; exact Nat.le_trans (by omega) H3.out.2))
    exact (H3.out.1.setCell (p := ⟨w.heap.size + 1, 1, none⟩) (by show w.heap.size ≤ w.heap.size + 1; omega) _).setCell (p := ⟨w.heap.size + 1, 2, none⟩) (by show w.heap.size ≤ w.heap.size + 1; omega) _
  clear b4
  go_wp2_with fail
  go_ret
  exact ⟨rfl, hb4⟩
set_option maxRecDepth 100000 in
set_option maxHeartbeats 6400000 in
theorem alone_list_yes (la ia ta : Option Addr) (lc n ic n' tc : Nat) (w : World) (hC : ∀ W, Below w.heap.size w W → Calls Tryz.prog 181 #[.agg #[.int .i64 5, .bool false, .slice la 0 lc, .bool false, .string ⟨#[]⟩, .slice ia n ic, .slice ta n' tc]] W fun e W' => e = .returned (.bool true) ∧ Below W.heap.size W W') :
    Calls Tryz.prog 136 #[.agg #[.int .i64 5, .bool false, .slice la 0 lc, .bool false, .string ⟨#[]⟩, .slice ia n ic, .slice ta n' tc]] w fun e w' => e = .returned (.bool true) ∧ Below w.heap.size w w' := by
  obtain ⟨w2, hw2, a0, a1, hz, hbel⟩ := two2d w (.cells #[.int .i64 5, .bool false, .slice la 0 lc, .bool false, .string ⟨#[]⟩, .slice ia n ic, .slice ta n' tc] 31) (.cells #[.int .i64 5, .bool false, .slice la 0 lc, .bool false, .string ⟨#[]⟩, .slice ia n ic, .slice ta n' tc] 31)
  have HW := Lib.hid hw2
  have HC := Lib.hid hC
  have HB := Lib.hid (And.intro a0 (And.intro a1 (And.intro hz hbel)))
  clear hw2 hbel a0 a1 hz hC
  go_enter Tryz.func136, Tryz.ntmps136
  go_wp2_with fail
  go_region
  go_wp2_with fail
  rw [← HW.out]
  refine (HC.out w2 HB.out.2.2.2).mono ?_
  rintro e w3 ⟨rfl, b3⟩
  have x0 := (b3.block w.heap.size (by rw [HB.out.2.2.1]; omega)).trans HB.out.1
  have x1 := (b3.block (w.heap.size + 1) (by rw [HB.out.2.2.1]; omega)).trans HB.out.2.1
  have hb3 := HB.out.2.2.2.trans (b3.mono HB.out.2.2.2.size)
  have hds := fun j => Lib.cell_of_heap x1 j
  have c0 := hds 0; have c1 := hds 1; have c2 := hds 2; have c3 := hds 3; have c4 := hds 4; have c5 := hds 5; have c6 := hds 6
  have hfs := fun j => Lib.frozen_of_heap x1 j
  have f1 := hfs 1; have f2 := hfs 2; have f5 := hfs 5; have f6 := hfs 6
  have e2 := Lib.cell_of_heap x0 2
  simp only [List.getElem?_toArray, List.getElem?_cons_zero, List.getElem?_cons_succ] at c0 c1 c2 c3 c4 c5 c6 e2
  have H3 := Lib.hid (And.intro hb3 (show w.heap.size + 2 ≤ w3.heap.size by have := b3.size; rwa [HB.out.2.2.1] at this))
  clear x0 x1 hb3 b3 hds hfs HW HC
  have HZ := Lib.hid (isZero_yes 5 la none none lc 0 0)
  go_wp2_with fail
  refine (HZ.out _).mono ?_
  rintro e w4 ⟨rfl, b4⟩
  have hb4 : Below w.heap.size w w4 := by
    refine Below.trans ?_ (b4.mono (by simp only [setCell_size]; exact Nat.le_trans (by omega) H3.out.2))
    exact (H3.out.1.setCell (p := ⟨w.heap.size + 1, 5, none⟩) (by show w.heap.size ≤ w.heap.size + 1; omega) _).setCell (p := ⟨w.heap.size + 1, 6, none⟩) (by show w.heap.size ≤ w.heap.size + 1; omega) _
  clear b4
  go_wp2_with fail
  go_ret
  exact ⟨rfl, hb4⟩
end

section
attribute [local go_sem] Oper.semAt_some

theorem goodI_num (z : Int) : goodI (decide (z < 0)) (limbs z.natAbs) = true := by
  unfold goodI
  by_cases h : (limbs z.natAbs).length = 0
  · have h1 : limbs z.natAbs = limbs 0 := by rw [List.length_eq_zero_iff.1 h, limbs_zero]
    have h2 := limbs_inj h1
    rw [if_pos h, decide_eq_false (by omega)]; rfl
  · rw [if_neg h]
    exact decide_eq_true (limbs_top _ _ (by omega))
theorem fine_alone (M : Nat) (t : LT) (w : World) (hM : M ≤ w.heap.size) (hH : Held w M t) (hf : FineD (shape t)) :
    Calls Tryz.prog 136 #[.agg #[.int .i64 t.k, .bool t.g, .slice t.la t.ln t.lc, .bool t.bb, .string t.s, .slice t.ia t.items.length t.ic, .slice t.ta t.tail.length t.tc]] w fun e w' => e = .returned (.bool true) ∧ Below w.heap.size w w' := by
  have hl := hH.1.1.len
  have hsh := shape_eq t
  generalize shape t = d at hf hsh
  cases hf with
  | truth b =>
    rw [truthD] at hsh
    injection hsh with q1 q2 q3 q4 q5 q6 q7
    have l1 : t.items.length = 0 := by rw [← shapes_length, ← q6]; rfl
    have l2 : t.tail.length = 0 := by rw [← shapes_length, ← q7]; rfl
    have l3 : t.ln = 0 := by rw [hl, ← q3]; rfl
    rw [← q1, ← q2, ← q4, ← q5, l1, l2, l3]
    exact alone_bool_yes _ _ _ _ _ _ _ _
  | num z hz =>
    rw [numD] at hsh
    injection hsh with q1 q2 q3 q4 q5 q6 q7
    have l1 : t.items.length = 0 := by rw [← shapes_length, ← q6]; rfl
    have l2 : t.tail.length = 0 := by rw [← shapes_length, ← q7]; rfl
    have l3 : t.ln ≤ 64 := by rw [hl, ← q3]; exact hz
    rw [← q1, ← q4, ← q5, l1, l2]
    refine alone_num_yes _ _ _ _ _ _ _ _ _ (fun W hb => ?_) (decide_eq_true (by omega))
    have h := wgood_any t.g t.la t.ln t.lc t.ys W (hH.1.1.below hb) (by omega)
    rw [← q2, ← q3, goodI_num] at h
    rw [← q2]
    exact h
  | sym l h1 h2 =>
    rw [symD] at hsh
    injection hsh with q1 q2 q3 q4 q5 q6 q7
    have l1 : t.items.length = 0 := by rw [← shapes_length, ← q6]; rfl
    have l2 : t.tail.length = 0 := by rw [← shapes_length, ← q7]; rfl
    have l3 : t.ln = 0 := by rw [hl, ← q3]; rfl
    rw [← q1, ← q2, ← q4, ← q5, l1, l2, l3]
    exact alone_sym_yes _ _ _ _ _ _ _ _ (by rw [Lib.toList_data, bytesOf_list]; exact h1) (decide_eq_true (by rw [bytesOf_size]; omega))
  | str l h2 =>
    rw [strD] at hsh
    injection hsh with q1 q2 q3 q4 q5 q6 q7
    have l1 : t.items.length = 0 := by rw [← shapes_length, ← q6]; rfl
    have l2 : t.tail.length = 0 := by rw [← shapes_length, ← q7]; rfl
    have l3 : t.ln = 0 := by rw [hl, ← q3]; rfl
    rw [← q1, ← q2, ← q4, ← q5, l1, l2, l3]
    exact alone_str_yes _ _ _ _ _ _ _ _ (decide_eq_true (by rw [bytesOf_size]; omega))
  | list l _ =>
    rw [listD] at hsh
    injection hsh with q1 q2 q3 q4 q5 q6 q7
    have l2 : t.tail.length = 0 := by rw [← shapes_length, ← q7]; rfl
    have l3 : t.ln = 0 := by rw [hl, ← q3]; rfl
    rw [← q1, ← q2, ← q4, ← q5, l2, l3]
    exact alone_list_yes _ _ _ _ _ _ _ _ _ fun W _ => goodTail_none _ _ _ _ _ _ _ _ _ _ _ _ _
  | dot l e hne _ _ hk =>
    rw [listD] at hsh
    injection hsh with q1 q2 q3 q4 q5 q6 q7
    have l1 : 0 < t.items.length := by rw [← shapes_length, ← q6]; exact List.length_pos_iff.2 hne
    have l2 : t.tail.length = 1 := by rw [← shapes_length, ← q7]; rfl
    have l3 : t.ln = 0 := by rw [hl, ← q3]; rfl
    obtain ⟨u, hu⟩ : ∃ u, t.tail = [u] := List.length_eq_one_iff.1 l2
    have hue : shape u = e := by rw [hu, shapes_cons] at q7; injection q7 with q7 _; exact q7.symm
    have huk : u.k = e.k := by rw [← hue, shape_eq]; rfl
    obtain ⟨hta, htb⟩ := hH.2.2.1.2.2.1 (by omega)
    have hR := hH.2.2.2.2
    rw [hu, liesR_cons] at hR
    have hc := (lies_held.1 hR.1).2.1 0 _ rfl
    rw [← q1, ← q2, ← q4, ← q5, l2, l3, hta]
    exact alone_list_yes _ _ _ _ _ _ _ _ _ fun W hb => goodTail_one _ _ _ _ _ _ _ _ _ _ _ _ _ u.k W l1 (by rw [huk]; exact hk) (by have := hb.size; omega) ((hb.cell (p := ⟨blk t.ta, ofs t.ta, none⟩) (by show blk t.ta < _; omega)).trans hc)
theorem set_hereF {w : World} {b o : Nat} {v x : Value} (h : w.cell? ⟨b, o, none⟩ = some x) : (w.setCell ⟨b, o, none⟩ v).cell? ⟨b, o, none⟩ = some v := by
  simp only [World.cell?] at h
  revert h
  cases hh : w.heap[b]? with
  | none => simp
  | some y =>
    cases y with
    | cells cs t fr =>
      intro h
      have hlt : o < cs.size := (Array.getElem?_eq_some_iff.1 (by simpa using h)).1
      simp [World.setCell, World.cell?, Array.getElem?_modify, hh, hlt]
    | _ => simp
theorem maxL_all {full : List Node} {m : Nat} (h : ∀ x ∈ full, x.lev ≤ m) : maxL full ≤ m := by
  induction full with
  | nil => simp [maxL]
  | cons y l ih =>
    have h1 := h y (by simp)
    have h2 := ih fun x hx => h x (by simp [hx])
    simp only [maxL]
    omega
theorem maxL_mem {full : List Node} {x : Node} (h : x ∈ full) : x.lev ≤ maxL full := by
  obtain ⟨j, hj, e⟩ := List.getElem_of_mem h
  exact maxL_at (k := j) (by rw [List.getElem?_eq_getElem hj, e])
def FdI (M b B : Nat) (root : LT) (full : List Node) (w : World) (k : Nat) (W : World) : Prop :=
  W.heap[B + 1]? = some (.cells #[.bool false] 4 (0, 0)) ∧ W.heap[B + 2]? = some (.cells #[.int .i64 (k : Nat)] 3 (0, 0)) ∧ Lies W M root b 0 ∧ Below B w W ∧ ∀ j x, j < k → full[j]? = some x → x.lev ≤ 200
def FdX (full : List Node) (B : Nat) (w : World) (c : Code) (_k : Nat) (W : World) : Prop := c = .ret ∧ W.heap[B + 1]? = some (.cells #[.bool false] 4 (0, 0)) ∧ Below B w W ∧ ∃ x ∈ full, 200 < x.lev
theorem FdI.below {M b B C k : Nat} {root : LT} {full : List Node} {w A W : World} (hM : M ≤ C) (hC : B + 3 ≤ C) (h : FdI M b B root full w k A) (hb : Below C A W) : FdI M b B root full w k W :=
  ⟨(hb.block _ (by omega)).trans h.1, (hb.block _ (by omega)).trans h.2.1, h.2.2.1.keep hb.size (fun i hi => hb.block i (by omega)) _ _ _, h.2.2.2.1.trans (hb.mono (by omega)), h.2.2.2.2⟩
theorem FdX.below {full : List Node} {B C k : Nat} {c : Code} {w A W : World} (hC : B + 2 ≤ C) (h : FdX full B w c k A) (hb : Below C A W) : FdX full B w c k W :=
  ⟨h.1, (hb.block _ (by omega)).trans h.2.1, h.2.2.1.trans (hb.mono (by omega)), h.2.2.2⟩

set_option maxRecDepth 100000 in
set_option maxHeartbeats 6400000 in
theorem good_fine_in (M : Nat) (t : LT) (h1 : t.size ≤ 5000) (hT : FineD (shape t)) (w : World) (hM : M ≤ w.heap.size) (hH : Held w M t) :
    CallsIn Fence.wide 5 Tryz.prog 81 #[.agg #[.int .i64 t.k, .bool t.g, .slice t.la t.ln t.lc, .bool t.bb, .string t.s, .slice t.ia t.items.length t.ic, .slice t.ta t.tail.length t.tc]] w fun e w' => e = .returned (.bool (decide (t.depth ≤ 200))) ∧ Below w.heap.size w w' := by
  obtain ⟨W0, hW0, a0, a1, a2, a3, hz0, hb0⟩ := four4 w (Obj.cells #[.int .i64 t.k, .bool t.g, .slice t.la t.ln t.lc, .bool t.bb, .string t.s, .slice t.ia t.items.length t.ic, .slice t.ta t.tail.length t.tc] 31) (.cells #[.bool false] 4) (.cells #[.int .i64 0] 3) (.cells #[.pointer (some ⟨w.heap.size, 0, none⟩)] 159)
  obtain ⟨full, hfull⟩ : ∃ full, full = seqT t 1 w.heap.size 0 := ⟨_, rfl⟩
  have hlen : full.length = t.size := by rw [hfull, seqT_length]
  have hmx : maxL full = t.depth := by have := seqT_max t 1 w.heap.size 0; rw [← hfull] at this; omega
  have hL0 : Lies W0 (w.heap.size + 1) t w.heap.size 0 := lies_held.2 ⟨by omega, fun j v hj => by rw [Lib.cell_of_heap a0, Nat.zero_add, List.getElem?_toArray]; exact hj, (hH.keep hb0.size fun q hq => hb0.block q (by omega)).upP (by omega)⟩
  have hl0 : ∀ W, Lies W (w.heap.size + 1) t w.heap.size 0 → ∀ x ∈ full, Lies W (w.heap.size + 1) x.t x.b x.o ∧ 1 ≤ x.lev ∧ x.lev + x.t.size ≤ 1 + t.size := fun W h => hfull ▸ seqT_lies t 1 w.heap.size 0 h
  have hbd0 : W0.cell? ⟨w.heap.size + 3, 0, none⟩ = some (.pointer (some ⟨w.heap.size, 0, none⟩)) := by rw [Lib.cell_of_heap a3]; rfl
  have hruns := told_runs 4 (w.heap.size + 3) (w.heap.size + 1) w.heap.size 0 t (fun r => (r = w.heap.size + 1 + 1 ∨ r = w.heap.size + 1) ∨ r = W0.heap.size + 1) W0 (fun r hr => by rcases hr with (rfl | rfl) | rfl <;> omega) hbd0 (by omega) hL0 (by omega)
  rw [← hfull] at hruns
  have hI0 : FdI (w.heap.size + 1) w.heap.size w.heap.size t full w 0 W0 := ⟨a1, a2, hL0, hb0, fun j x hj => absurd hj (Nat.not_lt_zero _)⟩
  have htame : ∀ x ∈ full, FineD (shape x.t) := by rw [hfull]; exact fine_seqT t 1 w.heap.size 0 hT
  have HF := Lib.hid (And.intro hl0 (And.intro htame hmx))
  have HW := Lib.hid (And.intro hW0 (And.intro hruns hI0))
  clear hT hM hH hW0 a0 a1 a2 a3 hb0 hfull hmx hL0 hl0 hbd0 hruns hI0 htame
  refine callsIn_of_wp_marks Tryz.func81 rfl trivial ?_ rfl
  simp only [Tryz.ntmps81, List.size_toArray, List.length_cons, List.length_nil, Nat.reduceAdd, Nat.reduceSub, Array.replicate_succ, Array.replicate_zero, List.push_toArray, List.append_toArray, List.nil_append, List.cons_append]
  gi_wp2_with (refine ⟨trivial, ?_⟩; gi_at_call 135; refine (callsIn_wide.2 (told_any _ _)).mono ?_; rintro e w' ⟨rfl, rfl⟩)
  rw [← HW.out.1]
  refine wpIn_runs (X := fun r => r = w.heap.size + 1 + 1 ∨ r = w.heap.size + 1) (w0 := W0) rfl (by decide) (gf := 178) (lb := #[.pointer (some ⟨w.heap.size + 3, 0, none⟩)]) rfl trivial (enters_of Tryz.func178 (by kernel_rfl) rfl)
    HW.out.2.1 (fun r hr => by omega) (Below.refl _ _) (fun k => rfl) (fun k W => FdI (w.heap.size + 1) w.heap.size w.heap.size t full w k W) (fun c k W => FdX full w.heap.size w c k W)
    (fun k A B hAB h => h.below (by omega) (by omega) hAB) (fun c k A B hAB h => h.below (by omega) hAB) HW.out.2.2
    (fun k => { tmps := #[.agg #[.int .i64 t.k, .bool t.g, .slice t.la t.ln t.lc, .bool t.bb, .string t.s, .slice t.ia t.items.length t.ic, .slice t.ta t.tail.length t.tc], .pointer (some ⟨w.heap.size, 0, none⟩), .pointer (some ⟨w.heap.size + 1, 0, none⟩), .pointer (some ⟨w.heap.size + 1 + 1, 0, none⟩),
      .int .i64 ((nd full k).lev : Nat), .pointer (some ⟨(nd full k).b, (nd full k).o, none⟩), .func (.func 178) #[] #[.pointer (some ⟨w.heap.size + 1 + 1 + 1, 0, none⟩)],
      .int .i64 ((nd full k).lev : Nat), .pointer (some ⟨(nd full k).b, (nd full k).o, none⟩), undef, undef, undef, undef, undef, undef, undef, undef, undef, undef, undef, undef, undef, undef, undef], defers := [] })
    ?assign ?body ?done ?stop
  case assign =>
    intro l k W K _ hK
    simp only [toldAt]
    gi_wp2
    exact hK
  case body =>
    rintro l k W hkN hI
    obtain ⟨⟨lv, xb, xo, x⟩, hat⟩ : ∃ x, full[k]? = some x := ⟨full[k], List.getElem?_eq_getElem hkN⟩
    have hmem := List.mem_of_getElem? hat
    have hnode := HF.out.1 W hI.2.2.1 _ hmem
    have hln : FineD (shape x) := HF.out.2.1 _ hmem
    obtain ⟨hxb, hcell, hheld⟩ := lies_held.1 hnode.1
    have c0 : W.cell? ⟨xb, xo, none⟩ = some (.int .i64 x.k) := hcell 0 _ rfl
    have c1 : W.cell? ⟨xb, xo + 1, none⟩ = some (.bool x.g) := hcell 1 _ rfl
    have c2 : W.cell? ⟨xb, xo + 2, none⟩ = some (.slice x.la x.ln x.lc) := hcell 2 _ rfl
    have c3 : W.cell? ⟨xb, xo + 3, none⟩ = some (.bool x.bb) := hcell 3 _ rfl
    have c4 : W.cell? ⟨xb, xo + 4, none⟩ = some (.string x.s) := hcell 4 _ rfl
    have c5 : W.cell? ⟨xb, xo + 5, none⟩ = some (.slice x.ia x.items.length x.ic) := hcell 5 _ rfl
    have c6 : W.cell? ⟨xb, xo + 6, none⟩ = some (.slice x.ta x.tail.length x.tc) := hcell 6 _ rfl
    have hz := hI.2.2.2.1.size
    have p0 := Lib.cell_of_heap hI.2.1 0
    have pf := Lib.frozen_of_heap hI.2.1 0
    have s0 := Lib.cell_of_heap hI.1 0
    have sf := Lib.frozen_of_heap hI.1 0
    simp only [List.getElem?_toArray, List.getElem?_cons_zero] at p0 s0
    simp only [nd_eq hat]
    have hk5 : k + 1 ≤ 5000 := by omega
    have HI := Lib.hid (And.intro hI (And.intro hheld (And.intro hln hat)))
    clear hI hmem hnode hcell hheld hln hat
    have q1 : decide (5000 < (k : Int) + 1) = false := decide_eq_false (by omega)
    by_cases hlv : lv ≤ 200
    case neg =>
      have q2 : decide (200 < (lv : Int)) = true := decide_eq_true (by omega)
      have hlv2 : 200 < lv := by omega
      clear hlv
      gi_wp2
      refine ⟨trivial, ?_⟩
      gi_wp2
      exact ⟨(But.setCell _ _ _ _ (.inl rfl)).trans (But.setCell _ _ _ _ (.inr rfl)), rfl, by simp [World.setCell, Array.getElem?_modify, HI.out.1.1], (HI.out.1.2.2.2.1.setCell (p := ⟨w.heap.size + 1 + 1, 0, none⟩) (by show w.heap.size ≤ w.heap.size + 1 + 1; omega) _).setCell (p := ⟨w.heap.size + 1, 0, none⟩) (by show w.heap.size ≤ w.heap.size + 1; omega) _, _, List.mem_of_getElem? HI.out.2.2.2, by omega⟩
    have q2 : decide (200 < (lv : Int)) = false := decide_eq_false (by omega)
    gi_wp2
    refine ⟨trivial, ?_⟩
    obtain ⟨hI, hheld, hln, hat⟩ := HI.out
    have hbW : W.heap.size = W.heap.size := rfl
    have hX1 : But (fun r => r = w.heap.size + 1 + 1 ∨ r = w.heap.size + 1) W (W.setCell ⟨w.heap.size + 1 + 1, 0, none⟩ (.int .i64 ((k : Int) + 1))) := But.setCell _ _ _ _ (.inl rfl)
    have hh1 : ∀ q, q ≠ w.heap.size + 1 + 1 → (W.setCell ⟨w.heap.size + 1 + 1, 0, none⟩ (.int .i64 ((k : Int) + 1))).heap[q]? = W.heap[q]? := fun q hq => Below.heap_setCell _ _ _ _ hq
    have hc1 : (W.setCell ⟨w.heap.size + 1 + 1, 0, none⟩ (.int .i64 ((k : Int) + 1))).heap[w.heap.size + 2]? = some (.cells #[.int .i64 ((k : Int) + 1)] 3 (0, 0)) := by
      simp [World.setCell, Array.getElem?_modify, hI.2.1]
    have hs1 : (W.setCell ⟨w.heap.size + 1 + 1, 0, none⟩ (.int .i64 ((k : Int) + 1))).heap.size = W.heap.size := setCell_size _ _ _
    have hb1 : Below w.heap.size w (W.setCell ⟨w.heap.size + 1 + 1, 0, none⟩ (.int .i64 ((k : Int) + 1))) := hI.2.2.2.1.setCell (p := ⟨w.heap.size + 1 + 1, 0, none⟩) (by show w.heap.size ≤ w.heap.size + 1 + 1; omega) _
    have hz2 : w.heap.size + 2 < W.heap.size := (Array.getElem?_eq_some_iff.1 hI.2.1).1
    generalize W.setCell ⟨w.heap.size + 1 + 1, 0, none⟩ (.int .i64 ((k : Int) + 1)) = W1 at hX1 hh1 hc1 hs1 hb1 ⊢
    have hd1 : Held W1 (w.heap.size + 1) x := hheld.keep (by omega) fun q hq => hh1 q (by omega)
    have hr1 : W1.heap[w.heap.size + 1]? = some (.cells #[.bool false] 4 (0, 0)) := (hh1 _ (by omega)).trans hI.1
    have hl1 : Lies W1 (w.heap.size + 1) t w.heap.size 0 := hI.2.2.1.keep (by omega) (fun q hq => hh1 q (by omega)) _ _ _
    refine ((callsIn_wide.2 (fine_alone (w.heap.size + 1) x W1 (by omega) hd1 hln)).inRound l).mono ?_
    rintro e W2 ⟨rfl, b2⟩
    have hX2 := hX1.below b2 (by omega)
    have hr2 := (b2.block _ (by omega)).trans hr1
    have hc2 := (b2.block _ (by omega)).trans hc1
    have hb2 := hb1.trans (b2.mono (by omega))
    have hl2 : Lies W2 (w.heap.size + 1) t w.heap.size 0 := hl1.keep b2.size (fun q hq => b2.block q (by omega)) _ _ _
    have s0' := Lib.cell_of_heap hr2 0
    have sf' := Lib.frozen_of_heap hr2 0
    simp only [List.getElem?_toArray, List.getElem?_cons_zero] at s0'
    have hall : ∀ j y, j < k + 1 → full[j]? = some y → y.lev ≤ 200 := fun j y hj hy => by
      by_cases hjk : j < k
      · exact hI.2.2.2.2 j y hjk hy
      · have : j = k := by omega
        subst this
        rw [hat] at hy
        injection hy with hy
        rw [← hy]
        exact hlv
    have H2 := Lib.hid (And.intro hX2 (And.intro hr2 (And.intro hc2 (And.intro hb2 (And.intro hl2 hall)))))
    clear hI hheld hln hat hX1 hh1 hc1 hs1 hb1 hd1 hr1 hl1 b2 hX2 hr2 hc2 hb2 hl2 hall HI c0 c1 c2 c3 c4 c5 c6 p0 pf s0 sf q1 q2
    clear s0' sf'
    gi_wp2
    exact ⟨H2.out.1, H2.out.2.1, H2.out.2.2.1, H2.out.2.2.2.2.1, H2.out.2.2.2.1, H2.out.2.2.2.2.2⟩
  case done =>
    rintro D W hD hI hK
    have hgood : t.depth ≤ 200 := by
      rw [← HF.out.2.2]
      refine maxL_all fun n hn => ?_
      obtain ⟨j, hj, e⟩ := List.getElem_of_mem hn
      exact hI.2.2.2.2 j n hj (by rw [List.getElem?_eq_getElem hj, e])
    have s0 := Lib.cell_of_heap hI.1 0
    have sf := Lib.frozen_of_heap hI.1 0
    simp only [List.getElem?_toArray, List.getElem?_cons_zero] at s0
    have hbw := Lib.hid hI.2.2.2.1
    have HKD := Lib.hid hK
    clear hI hK
    gi_wp2
    have g0 : (W.setCell ⟨w.heap.size + 1, 0, none⟩ (.bool true)).cell? ⟨w.heap.size + 1, 0, none⟩ = some (.bool true) := set_hereF s0
    generalize hV : W.setCell ⟨w.heap.size + 1, 0, none⟩ (.bool true) = V at g0 ⊢
    have hVD : V.heap[D]? = some (.deferred (some [])) := by
      rw [← hV]
      exact (KeepsOthers.setCell _ _ _).same D _ HKD.out rfl
    have hVb : Below w.heap.size w V := by
      rw [← hV]
      exact hbw.out.setCell (p := ⟨w.heap.size + 1, 0, none⟩) (by show w.heap.size ≤ w.heap.size + 1; omega) _
    have k0 : (V.putObj D (.deferred none)).cell? ⟨w.heap.size + 1, 0, none⟩ = some (.bool true) := (World.cell?_of_block (World.putObj_heap_other (by show w.heap.size + 1 ≠ D; omega))).trans g0
    refine ⟨by simp, .inl ⟨_, _, rfl, run_takeDeferred hVD, ?_⟩⟩
    exact ⟨.bool true, by simp [results, Tryz.results81, k0, go_sem], by rw [decide_eq_true hgood], hVb.trans ⟨rfl, rfl, rfl, by simp, fun k hk => World.putObj_heap_other (by omega)⟩⟩
  case stop =>
    rintro D c k W hD hk ⟨rfl, hr, hb, hx⟩ hK
    have s0 := Lib.cell_of_heap hr 0
    simp only [List.getElem?_toArray, List.getElem?_cons_zero] at s0
    have k0 : (W.putObj D (.deferred none)).cell? ⟨w.heap.size + 1, 0, none⟩ = some (.bool false) := (World.cell?_of_block (World.putObj_heap_other (by show w.heap.size + 1 ≠ D; omega))).trans s0
    have HKD := Lib.hid hK
    clear hK hr
    gi_wp2
    refine ⟨by simp, .inl ⟨_, _, rfl, run_takeDeferred HKD.out, ?_⟩⟩
    exact ⟨.bool false, by simp [results, Tryz.results81, k0, go_sem], by rw [decide_eq_false (by rw [← HF.out.2.2]; obtain ⟨y, hy, hy2⟩ := hx; have := maxL_mem hy; omega)], hb.trans ⟨rfl, rfl, rfl, by simp, fun k hk => World.putObj_heap_other (by omega)⟩⟩

/-- Good of what is good but for how much it is. -/
theorem good_fine (M : Nat) (t : LT) (h1 : t.size ≤ 5000) (hT : FineD (shape t)) (w : World) (hM : M ≤ w.heap.size) (hH : Held w M t) :
    Calls Tryz.prog 81 #[.agg #[.int .i64 t.k, .bool t.g, .slice t.la t.ln t.lc, .bool t.bb, .string t.s, .slice t.ia t.items.length t.ic, .slice t.ta t.tail.length t.tc]] w fun e w' => e = .returned (.bool (decide (t.depth ≤ 200))) ∧ Below w.heap.size w w' := callsIn_wide.1 (good_fine_in M t h1 hT w hM hH)
end
end Go.Proofs.YtlohdglhebplfaaGreatDoor
