/-
  The reader: strings, and symbols between bars.
-/
import Derived.Test.YtlohdglhebplfaaDoorRdi
import Derived.Test.YtlohdglhebplfaaDoorNg
namespace Go.Proofs.YtlohdglhebplfaaDoor
open Go.RowKit

/-- What one that reads a datum hands back. -/
def DatPost (s : ByteArray) (R p k : Nat) (w : World) (r : Res) (E : Ending) (w' : World) : Prop := Kept R w w' ∧ match r with
  | .ok d l => ∃ (q : Nat) (u : LT), p < q ∧ q ≤ s.size ∧ l = rsB s q ∧ E = .returned (.tuple #[.agg #[.int .i64 u.k, .bool u.g, .slice u.la u.ln u.lc, .bool u.bb, .string u.s, .slice u.ia u.items.length u.ic, .slice u.ta u.tail.length u.tc], .bool true]) ∧ HeldP w' (Fresh w' w.heap.size) u ∧ shape u = d ∧ Tame u ∧ u.size + 2 * p ≤ 2 * q ∧ Rdr w' R s q 0 k
  | .bad e l => ∃ q : Nat, q ≤ s.size ∧ l = rsB s q ∧ E = .returned (.tuple #[.agg #[.int .i64 0, .bool false, .slice none 0 0, .bool false, .string ⟨#[]⟩, .slice none 0 0, .slice none 0 0], .bool false]) ∧ Rdr w' R s q e k
theorem HeldP.w7 {w : World} {D : Nat} {u : LT} {v0 v1 v2 v3 v4 v5 v6 : Value} (hu : HeldP w (Fresh w (D + 1)) u) : HeldP (W7 w D v0 v1 v2 v3 v4 v5 v6) (Fresh (W7 w D v0 v1 v2 v3 v4 v5 v6) D) u :=
  hu.keep (by rw [w7_size]; exact Nat.le_refl _) fun q hq => by
    have e : (W7 w D v0 v1 v2 v3 v4 v5 v6).heap[q]? = w.heap[q]? := w7_other (by have := hq.1; omega)
    exact ⟨(hq.same e).low (by omega), e⟩
theorem datPost_ok {w0 w : World} {s : ByteArray} {R p q k D : Nat} {u : LT} {d : DT} (hD : D = w0.heap.size) (hR : R < D) (hk : Kept R w0 w) (hr : Rdr w R s q 0 k) (hu : HeldP w (Fresh w (D + 1)) u) (hd : shape u = d) (ht : Tame u) (hpq : p < q) (hq : q ≤ s.size) (hz : u.size + 2 * p ≤ 2 * q) :
    DatPost s R p k w0 (.ok d (rsB s q)) (.returned (.tuple #[.agg #[.int .i64 u.k, .bool u.g, .slice u.la u.ln u.lc, .bool u.bb, .string u.s, .slice u.ia u.items.length u.ic, .slice u.ta u.tail.length u.tc], .bool true])) (W7 w D (.int .i64 u.k) (.bool u.g) (.slice u.la u.ln u.lc) (.bool u.bb) (.string u.s) (.slice u.ia u.items.length u.ic) (.slice u.ta u.tail.length u.tc)) := by
  subst hD
  exact ⟨w7_kept hk (Nat.le_refl _), q, u, hpq, hq, rfl, rfl, hu.w7, hd, ht, hz, hr.same (w7_other (by omega))⟩
theorem datPost_bad {w0 w : World} {s : ByteArray} {R p q k D : Nat} {e : Int} (hD : D = w0.heap.size) (hR : R < D) (hk : Kept R w0 w) (hr : Rdr w R s q e k) (hq : q ≤ s.size) :
    DatPost s R p k w0 (.bad e (rsB s q)) (.returned (.tuple #[.agg #[.int .i64 0, .bool false, .slice none 0 0, .bool false, .string ⟨#[]⟩, .slice none 0 0, .slice none 0 0], .bool false])) (W7 w D (.int .i64 0) (.bool false) (.slice none 0 0) (.bool false) (.string ⟨#[]⟩) (.slice none 0 0) (.slice none 0 0)) := by
  subst hD
  exact ⟨w7_kept hk (Nat.le_refl _), q, hq, rfl, rfl, hr.same (w7_other (by omega))⟩
def leafT (k : Int) (bb : Bool) (s : ByteArray) : LT := plainT k false none 0 0 [] bb s
theorem leafT_held (w : World) (P : Nat → Prop) (k : Int) (bb : Bool) (s : ByteArray) (hs : s.size ≤ maxLen) : HeldP w P (leafT k bb s) := plainT_held ⟨Sl.nil, fun h => absurd h (by decide), hs⟩
theorem leafT_shape (k : Int) (bb : Bool) (s : ByteArray) : shape (leafT k bb s) = .mk k false [] bb s [] [] := plainT_shape ..
theorem leafT_tame (k : Int) (bb : Bool) (s : ByteArray) : Tame (leafT k bb s) := by simp [leafT, plainT, Tame, TameR]
theorem leafT_size (k : Int) (bb : Bool) (s : ByteArray) : (leafT k bb s).size = 1 := by rw [LT.size_eq]; simp [leafT, plainT, LT.items, LT.tail, sizes]

set_option maxRecDepth 100000 in
set_option maxHeartbeats 3200000 in
theorem symbol_any (s : ByteArray) (w : World) : Calls Tryd.prog 42 #[.string s] w fun E w' => E = .returned (.agg #[.int .i64 3, .bool false, .slice none 0 0, .bool false, .string s, .slice none 0 0, .slice none 0 0]) ∧ Below w.heap.size w w' := by
  go_enter Tryd.func42, Tryd.ntmps42
  go_wp2_with fail
  (try simp only [Exit.inBlock, Exit.then])
  refine bodyPost_ret (v := .agg #[.int .i64 3, .bool false, .slice none 0 0, .bool false, .string s, .slice none 0 0, .slice none 0 0]) (results_d rfl rfl (by go_simp) (by go_simp) (by go_simp) (by go_simp) (by go_simp) (by go_simp) (by go_simp)) rfl ⟨rfl, ?_⟩
  repeat (first | exact Below.refl _ _ | refine Below.setCell (hp := by first | (simp; done) | (simp; omega)) ?_ _ | refine Below.alloc ?_ (by first | (simp; done) | (simp; omega)) _)
set_option maxRecDepth 100000 in
set_option maxHeartbeats 3200000 in
theorem text_dat (s : ByteArray) (w : World) : Calls Tryd.prog 44 #[.string s] w fun E w' => E = .returned (.agg #[.int .i64 4, .bool false, .slice none 0 0, .bool false, .string s, .slice none 0 0, .slice none 0 0]) ∧ Below w.heap.size w w' := by
  go_enter Tryd.func44, Tryd.ntmps44
  go_wp2_with fail
  (try simp only [Exit.inBlock, Exit.then])
  refine bodyPost_ret (v := .agg #[.int .i64 4, .bool false, .slice none 0 0, .bool false, .string s, .slice none 0 0, .slice none 0 0]) (results_d rfl rfl (by go_simp) (by go_simp) (by go_simp) (by go_simp) (by go_simp) (by go_simp) (by go_simp)) rfl ⟨rfl, ?_⟩
  repeat (first | exact Below.refl _ _ | refine Below.setCell (hp := by first | (simp; done) | (simp; omega)) ?_ _ | refine Below.alloc ?_ (by first | (simp; done) | (simp; omega)) _)
set_option maxRecDepth 100000 in
set_option maxHeartbeats 3200000 in
theorem truth_any (b : Bool) (w : World) : Calls Tryd.prog 45 #[.bool b] w fun E w' => E = .returned (.agg #[.int .i64 2, .bool false, .slice none 0 0, .bool b, .string ⟨#[]⟩, .slice none 0 0, .slice none 0 0]) ∧ Below w.heap.size w w' := by
  go_enter Tryd.func45, Tryd.ntmps45
  go_wp2_with fail
  (try simp only [Exit.inBlock, Exit.then])
  refine bodyPost_ret (v := .agg #[.int .i64 2, .bool false, .slice none 0 0, .bool b, .string ⟨#[]⟩, .slice none 0 0, .slice none 0 0]) (results_d rfl rfl (by go_simp) (by go_simp) (by go_simp) (by go_simp) (by go_simp) (by go_simp) (by go_simp)) rfl ⟨rfl, ?_⟩
  repeat (first | exact Below.refl _ _ | refine Below.setCell (hp := by first | (simp; done) | (simp; omega)) ?_ _ | refine Below.alloc ?_ (by first | (simp; done) | (simp; omega)) _)
theorem z_alloc (w : World) : (w.alloc (Obj.cells #[.int .i64 0, .bool false, .slice none 0 0, .bool false, .string ⟨#[]⟩, .slice none 0 0, .slice none 0 0] 36)).heap[w.heap.size]? = some (Obj.cells #[.int .i64 0, .bool false, .slice none 0 0, .bool false, .string ⟨#[]⟩, .slice none 0 0, .slice none 0 0] 36) := World.alloc_heap_new w _
/-- The new block behind a call that keeps all but the reader. -/
theorem z_kept {R : Nat} {w w' : World} (hR : R < w.heap.size) (hk : Kept R (w.alloc (Obj.cells #[.int .i64 0, .bool false, .slice none 0 0, .bool false, .string ⟨#[]⟩, .slice none 0 0, .slice none 0 0] 36)) w') : w'.heap[w.heap.size]? = some (Obj.cells #[.int .i64 0, .bool false, .slice none 0 0, .bool false, .string ⟨#[]⟩, .slice none 0 0, .slice none 0 0] 36) := (hk.2 _ (by simp) (by omega)).trans (z_alloc w)
theorem Kept.first {R : Nat} {w w' : World} {o : Obj} (hk : Kept R (w.alloc o) w') : Kept R w w' := (Kept.low ((Below.refl _ w).alloc (Nat.le_refl _) o)).trans hk
theorem z_onto {D B : Nat} {w w' : World} (h : w.heap[D]? = some (Obj.cells #[.int .i64 0, .bool false, .slice none 0 0, .bool false, .string ⟨#[]⟩, .slice none 0 0, .slice none 0 0] 36)) (hb : Below B w w') (hD : D < B) : w'.heap[D]? = some (Obj.cells #[.int .i64 0, .bool false, .slice none 0 0, .bool false, .string ⟨#[]⟩, .slice none 0 0, .slice none 0 0] 36) := (hb.block D hD).trans h
theorem mkL_len : ∀ (n : Nat) (mark : UInt8) (acc l r : By), ∀ a, mkL n mark acc l = (some a, r) → r.length < l.length ∧ a.length + r.length ≤ acc.length + l.length
  | 0, mark, acc, l, r, a, h => by simp [mkL] at h
  | n + 1, mark, acc, [], r, a, h => by simp [mkL] at h
  | n + 1, mark, acc, c :: l, r, a, h => by
    by_cases hm : c = mark
    · subst hm
      rw [mkL_end] at h
      cases h
      simp
    · by_cases hk : c = 92
      · rw [mkL_esc _ _ _ _ _ hm hk] at h
        cases hx : escL mark (c :: l) with
        | none => rw [hx] at h; cases h
        | some bk =>
          obtain ⟨b, k⟩ := bk
          rw [hx] at h
          have h1 := escL_bounds hx
          have h2 := mkL_len n mark (acc ++ b) ((c :: l).drop k) r a h
          rw [List.length_drop, List.length_append] at h2
          omega
      · rw [mkL_byte _ _ _ _ _ hm hk] at h
        have h2 := mkL_len n mark (acc ++ [c]) l r a h
        simp at h2 ⊢
        omega
section
variable {w : World} {R p k : Nat} {s : ByteArray}
set_option maxRecDepth 100000 in
set_option maxHeartbeats 6400000 in
theorem str_any (h : Rdr w R s p 0 k) (hp : p < s.size) (hs : s.size ≤ 16384) : Calls Tryd.prog 24 #[.pointer (some ⟨R, 0, none⟩)] w (DatPost s R p k w (strL (rsB s p))) := by
  have hRl := h.lt
  have hmk := marked_any (h.alloc (Obj.cells #[.int .i64 0, .bool false, .slice none 0 0, .bool false, .string ⟨#[]⟩, .slice none 0 0, .slice none 0 0] 36)) hp hs 34
  have hr1 := h.alloc (Obj.cells #[.int .i64 0, .bool false, .slice none 0 0, .bool false, .string ⟨#[]⟩, .slice none 0 0, .slice none 0 0] 36)
  obtain ⟨c0, c1, c2, c3⟩ := hr1.c
  unfold strL
  rw [rsB_len, rsB_drop]
  obtain ⟨r, hr⟩ : ∃ r, r = mkL (s.size - p + 1) 34 [] (rsB s (p + 1)) := ⟨_, rfl⟩
  rw [← hr] at hmk ⊢
  obtain ⟨r1, r2⟩ := r
  cases r1 with
  | none =>
    have HM := Lib.hid hmk
    clear hmk h hr hr1
    go_enter Tryd.func24, Tryd.ntmps24
    go_wp2_with (go_at_call 43; refine HM.out.mono ?_; rintro E w' ⟨hk, q, hq, rfl, rfl, hr⟩; obtain ⟨⟨d0, d1, d2, d3, d4, d5, d6⟩, g0, g1, g2, g3, g4, g5, g6⟩ := seven (z_kept hRl hk); have HK := Lib.hid (And.intro hk hr); clear hk hr c0 c1 c2 c3)
    exact dt_ret rfl rfl rfl rfl (z_kept hRl HK.out.1) (datPost_bad rfl hRl HK.out.1.first HK.out.2 hq)
  | some l =>
    have hlen := mkL_len _ _ _ _ _ _ hr.symm
    rw [rsB_len] at hlen
    have HM := Lib.hid hmk
    by_cases hl : l.length ≤ 1024
    · have hbo : (bytesOf l).size = l.length := rfl
      have hgt : (bytesOf l).size ≤ 1024 := by omega
      have HT := Lib.hid (fun W => text_dat (bytesOf l) W)
      dsimp only
      rw [if_pos hl]
      clear hmk h hr hr1 hl
      go_enter Tryd.func24, Tryd.ntmps24
      go_wp2_with (first | (go_at_call 43; refine HM.out.mono ?_; rintro E w' ⟨hk, q, hq, rfl, rfl, hr⟩; have HK := Lib.hid (And.intro hk hr); clear hk hr c0 c1 c2 c3) | (go_at_call 44; refine (HT.out _).mono ?_; rintro E w'' ⟨rfl, hb⟩; obtain ⟨⟨d0, d1, d2, d3, d4, d5, d6⟩, g0, g1, g2, g3, g4, g5, g6⟩ := seven (z_kept hRl (HK.out.1.onto hb)); have HK2 := Lib.hid (And.intro (HK.out.1.onto hb) (HK.out.2.next hb HK.out.2.lt)); clear hb))
      rw [rsB_len] at hlen
      exact dt_ret rfl rfl rfl rfl (z_kept hRl HK2.out.1) (datPost_ok (u := leafT 4 false (bytesOf l)) rfl hRl (Kept.first HK2.out.1) HK2.out.2 (leafT_held _ _ _ _ _ (by unfold maxLen; omega)) (leafT_shape ..) (leafT_tame ..) (by omega) hq (by rw [leafT_size]; omega))
    · have hbo : (bytesOf l).size = l.length := rfl
      have hgt : ¬ (bytesOf l).size ≤ 1024 := by omega
      dsimp only
      rw [if_neg hl]
      clear hmk h hr hr1 hl
      go_enter Tryd.func24, Tryd.ntmps24
      go_wp2_with (first | (go_at_call 43; refine HM.out.mono ?_; rintro E w' ⟨hk, q, hq, rfl, rfl, hr⟩; have HK := Lib.hid (And.intro hk hr); have HN := Lib.hid (none_any hr 4 p); clear hk hr c0 c1 c2 c3) | (go_at_call 18; refine HN.out.mono ?_; rintro E w'' ⟨rfl, hr2, hk2⟩; obtain ⟨⟨d0, d1, d2, d3, d4, d5, d6⟩, g0, g1, g2, g3, g4, g5, g6⟩ := seven (z_kept hRl (HK.out.1.trans hk2)); have HK2 := Lib.hid (And.intro (HK.out.1.trans hk2) hr2); clear hk2 hr2))
      exact dt_ret rfl rfl rfl rfl (z_kept hRl HK2.out.1) (datPost_bad rfl hRl (Kept.first HK2.out.1) HK2.out.2 (by omega))
set_option maxRecDepth 100000 in
set_option maxHeartbeats 6400000 in
theorem bar_any (h : Rdr w R s p 0 k) (hp : p < s.size) (hs : s.size ≤ 16384) : Calls Tryd.prog 25 #[.pointer (some ⟨R, 0, none⟩)] w (DatPost s R p k w (barL (rsB s p))) := by
  have hRl := h.lt
  have hmk := marked_any (h.alloc (Obj.cells #[.int .i64 0, .bool false, .slice none 0 0, .bool false, .string ⟨#[]⟩, .slice none 0 0, .slice none 0 0] 36)) hp hs 124
  have hr1 := h.alloc (Obj.cells #[.int .i64 0, .bool false, .slice none 0 0, .bool false, .string ⟨#[]⟩, .slice none 0 0, .slice none 0 0] 36)
  obtain ⟨c0, c1, c2, c3⟩ := hr1.c
  unfold barL
  rw [rsB_len, rsB_drop]
  obtain ⟨r, hr⟩ : ∃ r, r = mkL (s.size - p + 1) 124 [] (rsB s (p + 1)) := ⟨_, rfl⟩
  rw [← hr] at hmk ⊢
  obtain ⟨r1, r2⟩ := r
  cases r1 with
  | none =>
    have HM := Lib.hid hmk
    clear hmk h hr hr1
    go_enter Tryd.func25, Tryd.ntmps25
    go_wp2_with (go_at_call 43; refine HM.out.mono ?_; rintro E w' ⟨hk, q, hq, rfl, rfl, hr⟩; obtain ⟨⟨d0, d1, d2, d3, d4, d5, d6⟩, g0, g1, g2, g3, g4, g5, g6⟩ := seven (z_kept hRl hk); have HK := Lib.hid (And.intro hk hr); clear hk hr c0 c1 c2 c3)
    exact dt_ret rfl rfl rfl rfl (z_kept hRl HK.out.1) (datPost_bad rfl hRl HK.out.1.first HK.out.2 hq)
  | some l =>
    have hlen := mkL_len _ _ _ _ _ _ hr.symm
    rw [rsB_len] at hlen
    have HM := Lib.hid hmk
    by_cases hl : l ≠ [] ∧ l.length ≤ 64
    · have hbo : (bytesOf l).size = l.length := rfl
      have hgt : (bytesOf l).size ≤ 64 := by omega
      have hne : ((bytesOf l).toList == []) = false := by rw [Lib.toList_data, bytesOf_list]; exact beq_false_of_ne hl.1
      have hne2 : ¬ (bytesOf l).toList = [] := by rw [Lib.toList_data, bytesOf_list]; exact hl.1
      have hie : (bytesOf l).toList.isEmpty = false := by rw [Lib.toList_data, bytesOf_list]; cases l with | nil => exact absurd rfl hl.1 | cons => rfl
      have HT := Lib.hid (fun W => symbol_any (bytesOf l) W)
      dsimp only
      rw [if_pos hl]
      clear hmk h hr hr1 hl
      go_enter Tryd.func25, Tryd.ntmps25
      go_wp2_with (first | (go_at_call 43; refine HM.out.mono ?_; rintro E w' ⟨hk, q, hq, rfl, rfl, hr⟩; have HK := Lib.hid (And.intro hk hr); clear hk hr c0 c1 c2 c3) | (go_at_call 42; refine (HT.out _).mono ?_; rintro E w'' ⟨rfl, hb⟩; obtain ⟨⟨d0, d1, d2, d3, d4, d5, d6⟩, g0, g1, g2, g3, g4, g5, g6⟩ := seven (z_kept hRl (HK.out.1.onto hb)); have HK2 := Lib.hid (And.intro (HK.out.1.onto hb) (HK.out.2.next hb HK.out.2.lt)); clear hb))
      rw [rsB_len] at hlen
      exact dt_ret rfl rfl rfl rfl (z_kept hRl HK2.out.1) (datPost_ok (u := leafT 3 false (bytesOf l)) rfl hRl (Kept.first HK2.out.1) HK2.out.2 (leafT_held _ _ _ _ _ (by unfold maxLen; omega)) (leafT_shape ..) (leafT_tame ..) (by omega) hq (by rw [leafT_size]; omega))
    · have hbo : (bytesOf l).size = l.length := rfl
      dsimp only
      rw [if_neg hl]
      clear hmk h hr hr1
      by_cases hnil : l = []
      · have hie : (bytesOf l).toList.isEmpty = true := by rw [Lib.toList_data, bytesOf_list, hnil]; rfl
        have hee : ((bytesOf l).toList == []) = true := by rw [Lib.toList_data, bytesOf_list, hnil]; rfl
        have hee2 : (bytesOf l).toList = [] := by rw [Lib.toList_data, bytesOf_list, hnil]
        clear hl hnil
        go_enter Tryd.func25, Tryd.ntmps25
        go_wp2_with (first | (go_at_call 43; refine HM.out.mono ?_; rintro E w' ⟨hk, q, hq, rfl, rfl, hr⟩; have HK := Lib.hid (And.intro hk hr); have HN := Lib.hid (none_any hr 4 p); clear hk hr c0 c1 c2 c3) | (go_at_call 18; refine HN.out.mono ?_; rintro E w'' ⟨rfl, hr2, hk2⟩; obtain ⟨⟨d0, d1, d2, d3, d4, d5, d6⟩, g0, g1, g2, g3, g4, g5, g6⟩ := seven (z_kept hRl (HK.out.1.trans hk2)); have HK2 := Lib.hid (And.intro (HK.out.1.trans hk2) hr2); clear hk2 hr2))
        exact dt_ret rfl rfl rfl rfl (z_kept hRl HK2.out.1) (datPost_bad rfl hRl (Kept.first HK2.out.1) HK2.out.2 (by omega))
      · have hgt : ¬ (bytesOf l).size ≤ 64 := fun e => hl ⟨hnil, by omega⟩
        have hne : ((bytesOf l).toList == []) = false := by rw [Lib.toList_data, bytesOf_list]; exact beq_false_of_ne hnil
        have hne2 : ¬ (bytesOf l).toList = [] := by rw [Lib.toList_data, bytesOf_list]; exact hnil
        have hie : (bytesOf l).toList.isEmpty = false := by rw [Lib.toList_data, bytesOf_list]; cases l with | nil => exact absurd rfl hnil | cons => rfl
        clear hl hnil
        go_enter Tryd.func25, Tryd.ntmps25
        go_wp2_with (first | (go_at_call 43; refine HM.out.mono ?_; rintro E w' ⟨hk, q, hq, rfl, rfl, hr⟩; have HK := Lib.hid (And.intro hk hr); have HN := Lib.hid (none_any hr 4 p); clear hk hr c0 c1 c2 c3) | (go_at_call 18; refine HN.out.mono ?_; rintro E w'' ⟨rfl, hr2, hk2⟩; obtain ⟨⟨d0, d1, d2, d3, d4, d5, d6⟩, g0, g1, g2, g3, g4, g5, g6⟩ := seven (z_kept hRl (HK.out.1.trans hk2)); have HK2 := Lib.hid (And.intro (HK.out.1.trans hk2) hr2); clear hk2 hr2))
        exact dt_ret rfl rfl rfl rfl (z_kept hRl HK2.out.1) (datPost_bad rfl hRl (Kept.first HK2.out.1) HK2.out.2 (by omega))
end
end Go.Proofs.YtlohdglhebplfaaDoor
