/-
  The reader: atoms, strings, symbols.
-/
import Derived.Test.YtlohdglhebplfaaGreatDoorRdi
import Derived.Test.YtlohdglhebplfaaGreatDoorNg
import Derived.Test.YtlohdglhebplfaaGreatDoorRds
namespace Go.Proofs.YtlohdglhebplfaaGreatDoor
open Go.RowKit

section

/-- What one that reads a datum hands back. -/
def DatPost (s : ByteArray) (R p k : Nat) (w : World) (r : Res) (E : Ending) (w' : World) : Prop := Kept R w w' ∧ match r with
  | .ok d l => ∃ (q : Nat) (u : LT), p < q ∧ q ≤ s.size ∧ l = rsB s q ∧ E = .returned (.tuple #[.agg #[.int .i64 u.k, .bool u.g, .slice u.la u.ln u.lc, .bool u.bb, .string u.s, .slice u.ia u.items.length u.ic, .slice u.ta u.tail.length u.tc], .bool true]) ∧ HeldP w' (Fresh w' w.heap.size) u ∧ shape u = d ∧ Tame u ∧ u.size + 2 * p ≤ 2 * q ∧ Rdr w' R s q 0 k
  | .bad e l => ∃ q : Nat, q ≤ s.size ∧ l = rsB s q ∧ E = .returned (.tuple #[.agg #[.int .i64 0, .bool false, .slice none 0 0, .bool false, .string ⟨#[]⟩, .slice none 0 0, .slice none 0 0], .bool false]) ∧ Rdr w' R s q e k
theorem HeldP.w7 {w : World} {D : Nat} {u : LT} {v0 v1 v2 v3 v4 v5 v6 : Value} (hu : HeldP w (Fresh w (D + 1)) u) : HeldP (W7 w D v0 v1 v2 v3 v4 v5 v6) (Fresh (W7 w D v0 v1 v2 v3 v4 v5 v6) D) u :=
  hu.keep (by rw [w7_size]; exact Nat.le_refl _) fun q hq => by
    have e : (W7 w D v0 v1 v2 v3 v4 v5 v6).heap[q]? = w.heap[q]? := w7_other (by have := hq.1; omega)
    exact ⟨(hq.same e).low (by omega), e⟩
theorem datPost_ok {w0 w : World} {s : ByteArray} {R p q k D : Nat} {u : LT} {d : DT} (hD : D = w0.heap.size) (hR : R < D) (hk : Kept R w0 w) (hr : Rdr w R s q 0 k) (hu : HeldP w (Fresh w (D + 1)) u) (hd : shape u = d) (ht : Tame u) (hpq : p < q) (hq : q ≤ s.size) (hz : u.size + 2 * p ≤ 2 * q) :
    DatPost s R p k w0 (.ok d (rsB s q)) (.returned (.tuple #[.agg #[.int .i64 u.k, .bool u.g, .slice u.la u.ln u.lc, .bool u.bb, .string u.s, .slice u.ia u.items.length u.ic, .slice u.ta u.tail.length u.tc], .bool true])) (W7 w D (.int .i64 u.k) (.bool u.g) (.slice u.la u.ln u.lc) (.bool u.bb) (.string u.s) (.slice u.ia u.items.length u.ic) (.slice u.ta u.tail.length u.tc)) := by
  subst hD
  exact ⟨w7_kept hk (Nat.le_refl _), q, u, hpq, hq, rfl, rfl, hu.w7, hd, ht, hz, hr.same (w7_other (by omega))⟩
theorem datPost_bad {w0 w : World} {s : ByteArray} {R p q k D : Nat} {e : Int} (hD : D = w0.heap.size) (hR : R < D) (hk : Kept R w0 w) (hr : Rdr w R s q e k) (hq : q ≤ s.size) :
    DatPost s R p k w0 (.bad e (rsB s q)) (.returned (.tuple #[.agg #[.int .i64 0, .bool false, .slice none 0 0, .bool false, .string ⟨#[]⟩, .slice none 0 0, .slice none 0 0], .bool false])) (W7 w D (.int .i64 0) (.bool false) (.slice none 0 0) (.bool false) (.string ⟨#[]⟩) (.slice none 0 0) (.slice none 0 0)) := by
  subst hD
  exact ⟨w7_kept hk (Nat.le_refl _), q, hq, rfl, rfl, hr.same (w7_other (by omega))⟩
def leafT (k : Int) (bb : Bool) (s : ByteArray) : LT := plainT k false none 0 0 [] bb s
theorem leafT_held (w : World) (P : Nat → Prop) (k : Int) (bb : Bool) (s : ByteArray) (hs : s.size ≤ maxLen) : HeldP w P (leafT k bb s) := plainT_held ⟨Sl.nil, fun h => absurd h (by decide), hs⟩
theorem leafT_shape (k : Int) (bb : Bool) (s : ByteArray) : shape (leafT k bb s) = .mk k false [] bb s [] [] := plainT_shape ..
theorem leafT_tame (k : Int) (bb : Bool) (s : ByteArray) : Tame (leafT k bb s) := by simp [leafT, plainT, Tame, TameR]
theorem leafT_size (k : Int) (bb : Bool) (s : ByteArray) : (leafT k bb s).size = 1 := by rw [LT.size_eq]; simp [leafT, plainT, LT.items, LT.tail, sizes]

set_option maxRecDepth 100000 in
set_option maxHeartbeats 3200000 in
theorem symbol_any (s : ByteArray) (w : World) : Calls Tryz.prog 167 #[.string s] w fun E w' => E = .returned (.agg #[.int .i64 3, .bool false, .slice none 0 0, .bool false, .string s, .slice none 0 0, .slice none 0 0]) ∧ Below w.heap.size w w' := by
  go_enter Tryz.func167, Tryz.ntmps167
  go_wp2_with fail
  (try simp only [Exit.inBlock, Exit.then])
  refine bodyPost_ret (v := .agg #[.int .i64 3, .bool false, .slice none 0 0, .bool false, .string s, .slice none 0 0, .slice none 0 0]) (results_d rfl rfl (by go_simp) (by go_simp) (by go_simp) (by go_simp) (by go_simp) (by go_simp) (by go_simp)) rfl ⟨rfl, ?_⟩
  repeat (first | exact Below.refl _ _ | refine Below.setCell (hp := by first | (simp; done) | (simp; omega)) ?_ _ | refine Below.alloc ?_ (by first | (simp; done) | (simp; omega)) _)
set_option maxRecDepth 100000 in
set_option maxHeartbeats 3200000 in
theorem text_dat (s : ByteArray) (w : World) : Calls Tryz.prog 169 #[.string s] w fun E w' => E = .returned (.agg #[.int .i64 4, .bool false, .slice none 0 0, .bool false, .string s, .slice none 0 0, .slice none 0 0]) ∧ Below w.heap.size w w' := by
  go_enter Tryz.func169, Tryz.ntmps169
  go_wp2_with fail
  (try simp only [Exit.inBlock, Exit.then])
  refine bodyPost_ret (v := .agg #[.int .i64 4, .bool false, .slice none 0 0, .bool false, .string s, .slice none 0 0, .slice none 0 0]) (results_d rfl rfl (by go_simp) (by go_simp) (by go_simp) (by go_simp) (by go_simp) (by go_simp) (by go_simp)) rfl ⟨rfl, ?_⟩
  repeat (first | exact Below.refl _ _ | refine Below.setCell (hp := by first | (simp; done) | (simp; omega)) ?_ _ | refine Below.alloc ?_ (by first | (simp; done) | (simp; omega)) _)
set_option maxRecDepth 100000 in
set_option maxHeartbeats 3200000 in
theorem truth_any (b : Bool) (w : World) : Calls Tryz.prog 170 #[.bool b] w fun E w' => E = .returned (.agg #[.int .i64 2, .bool false, .slice none 0 0, .bool b, .string ⟨#[]⟩, .slice none 0 0, .slice none 0 0]) ∧ Below w.heap.size w w' := by
  go_enter Tryz.func170, Tryz.ntmps170
  go_wp2_with fail
  (try simp only [Exit.inBlock, Exit.then])
  refine bodyPost_ret (v := .agg #[.int .i64 2, .bool false, .slice none 0 0, .bool b, .string ⟨#[]⟩, .slice none 0 0, .slice none 0 0]) (results_d rfl rfl (by go_simp) (by go_simp) (by go_simp) (by go_simp) (by go_simp) (by go_simp) (by go_simp)) rfl ⟨rfl, ?_⟩
  repeat (first | exact Below.refl _ _ | refine Below.setCell (hp := by first | (simp; done) | (simp; omega)) ?_ _ | refine Below.alloc ?_ (by first | (simp; done) | (simp; omega)) _)
theorem z_alloc (w : World) : (w.alloc (Obj.cells #[.int .i64 0, .bool false, .slice none 0 0, .bool false, .string ⟨#[]⟩, .slice none 0 0, .slice none 0 0] 31)).heap[w.heap.size]? = some (Obj.cells #[.int .i64 0, .bool false, .slice none 0 0, .bool false, .string ⟨#[]⟩, .slice none 0 0, .slice none 0 0] 31) := World.alloc_heap_new w _
/-- The new block behind a call that keeps all but the reader. -/
theorem z_kept {R : Nat} {w w' : World} (hR : R < w.heap.size) (hk : Kept R (w.alloc (Obj.cells #[.int .i64 0, .bool false, .slice none 0 0, .bool false, .string ⟨#[]⟩, .slice none 0 0, .slice none 0 0] 31)) w') : w'.heap[w.heap.size]? = some (Obj.cells #[.int .i64 0, .bool false, .slice none 0 0, .bool false, .string ⟨#[]⟩, .slice none 0 0, .slice none 0 0] 31) := (hk.2 _ (by simp) (by omega)).trans (z_alloc w)
theorem Kept.first {R : Nat} {w w' : World} {o : Obj} (hk : Kept R (w.alloc o) w') : Kept R w w' := (Kept.low ((Below.refl _ w).alloc (Nat.le_refl _) o)).trans hk
theorem z_onto {D B : Nat} {w w' : World} (h : w.heap[D]? = some (Obj.cells #[.int .i64 0, .bool false, .slice none 0 0, .bool false, .string ⟨#[]⟩, .slice none 0 0, .slice none 0 0] 31)) (hb : Below B w w') (hD : D < B) : w'.heap[D]? = some (Obj.cells #[.int .i64 0, .bool false, .slice none 0 0, .bool false, .string ⟨#[]⟩, .slice none 0 0, .slice none 0 0] 31) := (hb.block D hD).trans h
theorem mkL_len : ∀ (n : Nat) (mark : UInt8) (acc l r : By), ∀ a, mkL n mark acc l = (some a, r) → r.length < l.length ∧ a.length + r.length ≤ acc.length + l.length
  | 0, mark, acc, l, r, a, h => by simp [mkL] at h
  | n + 1, mark, acc, [], r, a, h => by simp [mkL] at h
  | n + 1, mark, acc, c :: l, r, a, h => by
    by_cases hm : c = mark
    · subst hm
      rw [mkL_end] at h
      cases h
      simp
    · by_cases hk : c = 92
      · rw [mkL_esc _ _ _ _ _ hm hk] at h
        cases hx : escL mark (c :: l) with
        | none => rw [hx] at h; cases h
        | some bk =>
          obtain ⟨b, k⟩ := bk
          rw [hx] at h
          have h1 := escL_bounds hx
          have h2 := mkL_len n mark (acc ++ b) ((c :: l).drop k) r a h
          rw [List.length_drop, List.length_append] at h2
          omega
      · rw [mkL_byte _ _ _ _ _ hm hk] at h
        have h2 := mkL_len n mark (acc ++ [c]) l r a h
        simp at h2 ⊢
        omega
section
variable {w : World} {R p k : Nat} {s : ByteArray}
set_option maxRecDepth 100000 in
set_option maxHeartbeats 6400000 in
theorem str_any (h : Rdr w R s p 0 k) (hp : p < s.size) (hs : s.size ≤ 16384) : Calls Tryz.prog 130 #[.pointer (some ⟨R, 0, none⟩)] w (DatPost s R p k w (strL (rsB s p))) := by
  have hRl := h.lt
  have hmk := marked_any (h.alloc (Obj.cells #[.int .i64 0, .bool false, .slice none 0 0, .bool false, .string ⟨#[]⟩, .slice none 0 0, .slice none 0 0] 31)) hp hs 34
  have hr1 := h.alloc (Obj.cells #[.int .i64 0, .bool false, .slice none 0 0, .bool false, .string ⟨#[]⟩, .slice none 0 0, .slice none 0 0] 31)
  obtain ⟨c0, c1, c2, c3⟩ := hr1.c
  unfold strL
  rw [rsB_len, rsB_drop]
  obtain ⟨r, hr⟩ : ∃ r, r = mkL (s.size - p + 1) 34 [] (rsB s (p + 1)) := ⟨_, rfl⟩
  rw [← hr] at hmk ⊢
  obtain ⟨r1, r2⟩ := r
  cases r1 with
  | none =>
    have HM := Lib.hid hmk
    clear hmk h hr hr1
    go_enter Tryz.func130, Tryz.ntmps130
    go_wp2_with (go_at_call 168; refine HM.out.mono ?_; rintro E w' ⟨hk, q, hq, rfl, rfl, hr⟩; obtain ⟨⟨d0, d1, d2, d3, d4, d5, d6⟩, g0, g1, g2, g3, g4, g5, g6⟩ := seven (z_kept hRl hk); have HK := Lib.hid (And.intro hk hr); clear hk hr c0 c1 c2 c3)
    exact dt_ret rfl rfl rfl rfl (z_kept hRl HK.out.1) (datPost_bad rfl hRl HK.out.1.first HK.out.2 hq)
  | some l =>
    have hlen := mkL_len _ _ _ _ _ _ hr.symm
    rw [rsB_len] at hlen
    have HM := Lib.hid hmk
    by_cases hl : l.length ≤ 1024
    · have hbo : (bytesOf l).size = l.length := rfl
      have hgt : (bytesOf l).size ≤ 1024 := by omega
      have HT := Lib.hid (fun W => text_dat (bytesOf l) W)
      dsimp only
      rw [if_pos hl]
      clear hmk h hr hr1 hl
      go_enter Tryz.func130, Tryz.ntmps130
      go_wp2_with (first | (go_at_call 168; refine HM.out.mono ?_; rintro E w' ⟨hk, q, hq, rfl, rfl, hr⟩; have HK := Lib.hid (And.intro hk hr); clear hk hr c0 c1 c2 c3) | (go_at_call 169; refine (HT.out _).mono ?_; rintro E w'' ⟨rfl, hb⟩; obtain ⟨⟨d0, d1, d2, d3, d4, d5, d6⟩, g0, g1, g2, g3, g4, g5, g6⟩ := seven (z_kept hRl (HK.out.1.onto hb)); have HK2 := Lib.hid (And.intro (HK.out.1.onto hb) (HK.out.2.next hb HK.out.2.lt)); clear hb))
      rw [rsB_len] at hlen
      exact dt_ret rfl rfl rfl rfl (z_kept hRl HK2.out.1) (datPost_ok (u := leafT 4 false (bytesOf l)) rfl hRl (Kept.first HK2.out.1) HK2.out.2 (leafT_held _ _ _ _ _ (by unfold maxLen; omega)) (leafT_shape ..) (leafT_tame ..) (by omega) hq (by rw [leafT_size]; omega))
    · have hbo : (bytesOf l).size = l.length := rfl
      have hgt : ¬ (bytesOf l).size ≤ 1024 := by omega
      dsimp only
      rw [if_neg hl]
      clear hmk h hr hr1 hl
      go_enter Tryz.func130, Tryz.ntmps130
      go_wp2_with (first | (go_at_call 168; refine HM.out.mono ?_; rintro E w' ⟨hk, q, hq, rfl, rfl, hr⟩; have HK := Lib.hid (And.intro hk hr); have HN := Lib.hid (none_any hr 4 p); clear hk hr c0 c1 c2 c3) | (go_at_call 124; refine HN.out.mono ?_; rintro E w'' ⟨rfl, hr2, hk2⟩; obtain ⟨⟨d0, d1, d2, d3, d4, d5, d6⟩, g0, g1, g2, g3, g4, g5, g6⟩ := seven (z_kept hRl (HK.out.1.trans hk2)); have HK2 := Lib.hid (And.intro (HK.out.1.trans hk2) hr2); clear hk2 hr2))
      exact dt_ret rfl rfl rfl rfl (z_kept hRl HK2.out.1) (datPost_bad rfl hRl (Kept.first HK2.out.1) HK2.out.2 (by omega))
set_option maxRecDepth 100000 in
set_option maxHeartbeats 6400000 in
theorem bar_any (h : Rdr w R s p 0 k) (hp : p < s.size) (hs : s.size ≤ 16384) : Calls Tryz.prog 131 #[.pointer (some ⟨R, 0, none⟩)] w (DatPost s R p k w (barL (rsB s p))) := by
  have hRl := h.lt
  have hmk := marked_any (h.alloc (Obj.cells #[.int .i64 0, .bool false, .slice none 0 0, .bool false, .string ⟨#[]⟩, .slice none 0 0, .slice none 0 0] 31)) hp hs 124
  have hr1 := h.alloc (Obj.cells #[.int .i64 0, .bool false, .slice none 0 0, .bool false, .string ⟨#[]⟩, .slice none 0 0, .slice none 0 0] 31)
  obtain ⟨c0, c1, c2, c3⟩ := hr1.c
  unfold barL
  rw [rsB_len, rsB_drop]
  obtain ⟨r, hr⟩ : ∃ r, r = mkL (s.size - p + 1) 124 [] (rsB s (p + 1)) := ⟨_, rfl⟩
  rw [← hr] at hmk ⊢
  obtain ⟨r1, r2⟩ := r
  cases r1 with
  | none =>
    have HM := Lib.hid hmk
    clear hmk h hr hr1
    go_enter Tryz.func131, Tryz.ntmps131
    go_wp2_with (go_at_call 168; refine HM.out.mono ?_; rintro E w' ⟨hk, q, hq, rfl, rfl, hr⟩; obtain ⟨⟨d0, d1, d2, d3, d4, d5, d6⟩, g0, g1, g2, g3, g4, g5, g6⟩ := seven (z_kept hRl hk); have HK := Lib.hid (And.intro hk hr); clear hk hr c0 c1 c2 c3)
    exact dt_ret rfl rfl rfl rfl (z_kept hRl HK.out.1) (datPost_bad rfl hRl HK.out.1.first HK.out.2 hq)
  | some l =>
    have hlen := mkL_len _ _ _ _ _ _ hr.symm
    rw [rsB_len] at hlen
    have HM := Lib.hid hmk
    by_cases hl : l ≠ [] ∧ l.length ≤ 64
    · have hbo : (bytesOf l).size = l.length := rfl
      have hgt : (bytesOf l).size ≤ 64 := by omega
      have hne : ((bytesOf l).toList == []) = false := by rw [Lib.toList_data, bytesOf_list]; exact beq_false_of_ne hl.1
      have hne2 : ¬ (bytesOf l).toList = [] := by rw [Lib.toList_data, bytesOf_list]; exact hl.1
      have hie : (bytesOf l).toList.isEmpty = false := by rw [Lib.toList_data, bytesOf_list]; cases l with | nil => exact absurd rfl hl.1 | cons => rfl
      have HT := Lib.hid (fun W => symbol_any (bytesOf l) W)
      dsimp only
      rw [if_pos hl]
      clear hmk h hr hr1 hl
      go_enter Tryz.func131, Tryz.ntmps131
      go_wp2_with (first | (go_at_call 168; refine HM.out.mono ?_; rintro E w' ⟨hk, q, hq, rfl, rfl, hr⟩; have HK := Lib.hid (And.intro hk hr); clear hk hr c0 c1 c2 c3) | (go_at_call 167; refine (HT.out _).mono ?_; rintro E w'' ⟨rfl, hb⟩; obtain ⟨⟨d0, d1, d2, d3, d4, d5, d6⟩, g0, g1, g2, g3, g4, g5, g6⟩ := seven (z_kept hRl (HK.out.1.onto hb)); have HK2 := Lib.hid (And.intro (HK.out.1.onto hb) (HK.out.2.next hb HK.out.2.lt)); clear hb))
      rw [rsB_len] at hlen
      exact dt_ret rfl rfl rfl rfl (z_kept hRl HK2.out.1) (datPost_ok (u := leafT 3 false (bytesOf l)) rfl hRl (Kept.first HK2.out.1) HK2.out.2 (leafT_held _ _ _ _ _ (by unfold maxLen; omega)) (leafT_shape ..) (leafT_tame ..) (by omega) hq (by rw [leafT_size]; omega))
    · have hbo : (bytesOf l).size = l.length := rfl
      dsimp only
      rw [if_neg hl]
      clear hmk h hr hr1
      by_cases hnil : l = []
      · have hie : (bytesOf l).toList.isEmpty = true := by rw [Lib.toList_data, bytesOf_list, hnil]; rfl
        have hee : ((bytesOf l).toList == []) = true := by rw [Lib.toList_data, bytesOf_list, hnil]; rfl
        have hee2 : (bytesOf l).toList = [] := by rw [Lib.toList_data, bytesOf_list, hnil]
        clear hl hnil
        go_enter Tryz.func131, Tryz.ntmps131
        go_wp2_with (first | (go_at_call 168; refine HM.out.mono ?_; rintro E w' ⟨hk, q, hq, rfl, rfl, hr⟩; have HK := Lib.hid (And.intro hk hr); have HN := Lib.hid (none_any hr 4 p); clear hk hr c0 c1 c2 c3) | (go_at_call 124; refine HN.out.mono ?_; rintro E w'' ⟨rfl, hr2, hk2⟩; obtain ⟨⟨d0, d1, d2, d3, d4, d5, d6⟩, g0, g1, g2, g3, g4, g5, g6⟩ := seven (z_kept hRl (HK.out.1.trans hk2)); have HK2 := Lib.hid (And.intro (HK.out.1.trans hk2) hr2); clear hk2 hr2))
        exact dt_ret rfl rfl rfl rfl (z_kept hRl HK2.out.1) (datPost_bad rfl hRl (Kept.first HK2.out.1) HK2.out.2 (by omega))
      · have hgt : ¬ (bytesOf l).size ≤ 64 := fun e => hl ⟨hnil, by omega⟩
        have hne : ((bytesOf l).toList == []) = false := by rw [Lib.toList_data, bytesOf_list]; exact beq_false_of_ne hnil
        have hne2 : ¬ (bytesOf l).toList = [] := by rw [Lib.toList_data, bytesOf_list]; exact hnil
        have hie : (bytesOf l).toList.isEmpty = false := by rw [Lib.toList_data, bytesOf_list]; cases l with | nil => exact absurd rfl hnil | cons => rfl
        clear hl hnil
        go_enter Tryz.func131, Tryz.ntmps131
        go_wp2_with (first | (go_at_call 168; refine HM.out.mono ?_; rintro E w' ⟨hk, q, hq, rfl, rfl, hr⟩; have HK := Lib.hid (And.intro hk hr); have HN := Lib.hid (none_any hr 4 p); clear hk hr c0 c1 c2 c3) | (go_at_call 124; refine HN.out.mono ?_; rintro E w'' ⟨rfl, hr2, hk2⟩; obtain ⟨⟨d0, d1, d2, d3, d4, d5, d6⟩, g0, g1, g2, g3, g4, g5, g6⟩ := seven (z_kept hRl (HK.out.1.trans hk2)); have HK2 := Lib.hid (And.intro (HK.out.1.trans hk2) hr2); clear hk2 hr2))
        exact dt_ret rfl rfl rfl rfl (z_kept hRl HK2.out.1) (datPost_bad rfl hRl (Kept.first HK2.out.1) HK2.out.2 (by omega))
end
end

section

/-- The table of quotes lies where it is laid. -/
def QuT (w : World) : Prop := ∃ t, w.heap[0]? = some (.cells #[.string ⟨#[39]⟩, .string ⟨#[113, 117, 111, 116, 101]⟩, .string ⟨#[96]⟩, .string ⟨#[113, 117, 97, 115, 105, 113, 117, 111, 116, 101]⟩, .string ⟨#[44, 64]⟩, .string ⟨#[117, 110, 113, 117, 111, 116, 101, 45, 115, 112, 108, 105, 99, 105, 110, 103]⟩, .string ⟨#[44]⟩, .string ⟨#[117, 110, 113, 117, 111, 116, 101]⟩] t (0, 0))
/-- The three tables that the reader looks at. -/
def Tabs (w : World) : Prop := Tab w ∧ MkT w ∧ QuT w
/-- The reader's block is none of the tables'. -/
def Off (R : Nat) : Prop := 2 ≠ R ∧ 1 ≠ R ∧ 0 ≠ R
theorem Tabs.kept {R : Nat} {w w' : World} (h : Tabs w) (hR : Off R) (hk : Kept R w w') : Tabs w' := by
  obtain ⟨⟨t1, h1⟩, ⟨t2, h2⟩, ⟨t3, h3⟩⟩ := h
  have lt : ∀ {i : Nat} {o : Obj}, w.heap[i]? = some o → i < w.heap.size := fun e => (Array.getElem?_eq_some_iff.1 e).1
  exact ⟨⟨t1, (hk.2 _ (lt h1) hR.1).trans h1⟩, ⟨t2, (hk.2 _ (lt h2) hR.2.1).trans h2⟩, ⟨t3, (hk.2 _ (lt h3) hR.2.2).trans h3⟩⟩
theorem Tabs.below {w w' : World} (h : Tabs w) (hb : Below w.heap.size w w') : Tabs w' := by
  obtain ⟨⟨t1, h1⟩, ⟨t2, h2⟩, ⟨t3, h3⟩⟩ := h
  have lt : ∀ {i : Nat} {o : Obj}, w.heap[i]? = some o → i < w.heap.size := fun e => (Array.getElem?_eq_some_iff.1 e).1
  exact ⟨⟨t1, (hb.block _ (lt h1)).trans h1⟩, ⟨t2, (hb.block _ (lt h2)).trans h2⟩, ⟨t3, (hb.block _ (lt h3)).trans h3⟩⟩
set_option maxHeartbeats 1600000 in
theorem clone_str (s : ByteArray) (w : World) (hlim : s.size ≤ 281474976710656) : Calls Tryz.prog 173 #[.string s] w fun e w' => e = .returned (.string s) ∧ Below w.heap.size w w' := by
  have H := Lib.hid (sclone_any s w hlim)
  go_enter Tryz.func173, Tryz.ntmps173
  go_wp2_with (go_at_call 217; refine H.out.mono ?_; rintro E w' ⟨rfl, hb⟩)
  go_ret
  exact ⟨rfl, hb⟩
theorem aheadL_len (l : By) : (aheadL l).length ≤ l.length := by
  have := drop_take_len (fun c => !(isBl c || isMk c)) l
  unfold aheadL; omega
theorem str_is {a : ByteArray} {l : By} (h : a.data.toList = l) : (a.toList == l) = true := by rw [Lib.toList_data, h]; simp
theorem str_not {a : ByteArray} {l : By} (h : a.data.toList ≠ l) : (a.toList == l) = false := by rw [Lib.toList_data]; exact beq_false_of_ne h
section
variable {w : World} {R p k : Nat} {s : ByteArray}
set_option maxRecDepth 100000 in
set_option maxHeartbeats 6400000 in
theorem atom_any (h : Rdr w R s p 0 k) (ht : Tabs w) (hR : Off R) (hp : p < s.size) (hs : s.size ≤ 16384) (ha : aheadL (rsB s p) ≠ []) : Calls Tryz.prog 132 #[.pointer (some ⟨R, 0, none⟩)] w (DatPost s R p k w (atomL (rsB s p))) := by
  have hRl := h.lt
  have hr1 := h.alloc (Obj.cells #[.int .i64 0, .bool false, .slice none 0 0, .bool false, .string ⟨#[]⟩, .slice none 0 0, .slice none 0 0] 31)
  have ht1 : Tabs (w.alloc (Obj.cells #[.int .i64 0, .bool false, .slice none 0 0, .bool false, .string ⟨#[]⟩, .slice none 0 0, .slice none 0 0] 31)) := ht.below ((Below.refl _ w).alloc (Nat.le_refl _) _)
  obtain ⟨c0, c1, c2, c3⟩ := hr1.c
  have HA := Lib.hid (fun n => ahead_any (hr1.drewN n) (show MkT ((w.alloc (Obj.cells #[.int .i64 0, .bool false, .slice none 0 0, .bool false, .string ⟨#[]⟩, .slice none 0 0, .slice none 0 0] 31)).drewN n) from ht1.2.1) (by omega) hs)
  have hal := aheadL_len (rsB s p)
  rw [rsB_len] at hal
  unfold atomL
  dsimp only
  generalize hl : aheadL (rsB s p) = l at *
  have hlp : 0 < l.length := List.length_pos_iff.2 ha
  have hrest : (rsB s p).drop l.length = rsB s (p + l.length) := rsB_drop ..
  rw [hrest]
  obtain ⟨r, hr⟩ : ∃ r : Res, r = (if l = [35, 116] ∨ l = [35, 116, 114, 117, 101] then .ok (truthD true) (rsB s (p + l.length)) else if l = [35, 102] ∨ l = [35, 102, 97, 108, 115, 101] then .ok (truthD false) (rsB s (p + l.length)) else if (zpar l).1 = true ∧ (limbs (zpar l).2.natAbs).length ≤ 64 then .ok (numD (zpar l).2) (rsB s (p + l.length)) else if plainB (bytesOf l) = true then .ok (symD l) (rsB s (p + l.length)) else .bad errRead (rsB s p)) := ⟨_, rfl⟩
  rw [← hr]
  have HRS := Lib.hid hr
  clear hr
  have H := Lib.hid (And.intro hr1 ht1)
  have HL := Lib.hid hl
  clear h hr1 ht1 ht ha hrest hl
  have hbo : (bytesOf l).size = l.length := rfl
  have hbl : (bytesOf l).data.toList = l := rfl
  go_enter Tryz.func132, Tryz.ntmps132
  go_wp2_with fail
  go_quiet ((go_at_call 165; exact Calls.quiet_of (HA.out _)))
  have hk1 : Kept R w ((w.alloc (Obj.cells #[.int .i64 0, .bool false, .slice none 0 0, .bool false, .string ⟨#[]⟩, .slice none 0 0, .slice none 0 0] 31)).drewN nq) := ((Kept.rfl' R _).drewN nq).first
  have hr1 := H.out.1.drewN nq
  have hz1 : ((w.alloc (Obj.cells #[.int .i64 0, .bool false, .slice none 0 0, .bool false, .string ⟨#[]⟩, .slice none 0 0, .slice none 0 0] 31)).drewN nq).heap[w.heap.size]? = some (Obj.cells #[.int .i64 0, .bool false, .slice none 0 0, .bool false, .string ⟨#[]⟩, .slice none 0 0, .slice none 0 0] 31) := z_alloc w
  have ht1 : Tabs ((w.alloc (Obj.cells #[.int .i64 0, .bool false, .slice none 0 0, .bool false, .string ⟨#[]⟩, .slice none 0 0, .slice none 0 0] 31)).drewN nq) := H.out.2
  generalize (w.alloc (Obj.cells #[.int .i64 0, .bool false, .slice none 0 0, .bool false, .string ⟨#[]⟩, .slice none 0 0, .slice none 0 0] 31)).drewN nq = W at *
  clear c0 c1 c2 c3
  obtain ⟨c0, c1, c2, c3⟩ := hr1.c
  obtain ⟨f1, f2, f3⟩ := hr1.f
  have HI := Lib.hid (And.intro (hr1.set1 (q := p + l.length) ((p : Int) + l.length) (by omega)) (And.intro (hk1.set ⟨R, 1, none⟩ (.int .i64 ((p : Int) + l.length)) rfl) (And.intro ((Below.heap_setCell W ⟨R, 1, none⟩ (.int .i64 ((p : Int) + l.length)) w.heap.size (by show w.heap.size ≠ R; omega)).trans hz1) (ht1.kept hR ((Kept.rfl' R W).set ⟨R, 1, none⟩ (.int .i64 ((p : Int) + l.length)) rfl)))))
  clear hr1 hk1 hz1 ht1 H HA
  by_cases t1 : l = [35, 116] ∨ l = [35, 116, 114, 117, 101]
  · obtain rfl : r = _ := HRS.out.trans (if_pos t1)
    by_cases t2 : l = [35, 116]
    · have e1 := str_is (a := bytesOf l) t2
      clear t1 t2
      have HT := Lib.hid (truth_any true (W.setCell ⟨R, 1, none⟩ (.int .i64 ((p : Int) + l.length))))
      go_wp2_with (go_at_call 170; refine HT.out.mono ?_; rintro E w' ⟨rfl, hb⟩; obtain ⟨⟨d0, d1, d2, d3, d4, d5, d6⟩, g0, g1, g2, g3, g4, g5, g6⟩ := seven (z_onto HI.out.2.2.1 hb (Array.getElem?_eq_some_iff.1 HI.out.2.2.1).1); have HB := Lib.hid hb; clear hb)
      exact dt_ret rfl rfl rfl rfl (z_onto HI.out.2.2.1 HB.out (Array.getElem?_eq_some_iff.1 HI.out.2.2.1).1) (datPost_ok (u := leafT 2 true ⟨#[]⟩) rfl hRl (HI.out.2.1.onto HB.out) (HI.out.1.next HB.out HI.out.1.lt) (leafT_held _ _ _ _ _ (by decide)) (leafT_shape ..) (leafT_tame ..) (by omega) (by omega) (by rw [leafT_size]; omega))
    · have e1 := str_not (a := bytesOf l) t2
      have e2 := str_is (a := bytesOf l) (t1.resolve_left t2)
      clear t1 t2
      have HT := Lib.hid (truth_any true (W.setCell ⟨R, 1, none⟩ (.int .i64 ((p : Int) + l.length))))
      go_wp2_with (go_at_call 170; refine HT.out.mono ?_; rintro E w' ⟨rfl, hb⟩; obtain ⟨⟨d0, d1, d2, d3, d4, d5, d6⟩, g0, g1, g2, g3, g4, g5, g6⟩ := seven (z_onto HI.out.2.2.1 hb (Array.getElem?_eq_some_iff.1 HI.out.2.2.1).1); have HB := Lib.hid hb; clear hb)
      exact dt_ret rfl rfl rfl rfl (z_onto HI.out.2.2.1 HB.out (Array.getElem?_eq_some_iff.1 HI.out.2.2.1).1) (datPost_ok (u := leafT 2 true ⟨#[]⟩) rfl hRl (HI.out.2.1.onto HB.out) (HI.out.1.next HB.out HI.out.1.lt) (leafT_held _ _ _ _ _ (by decide)) (leafT_shape ..) (leafT_tame ..) (by omega) (by omega) (by rw [leafT_size]; omega))
  · have HRS := Lib.hid (HRS.out.trans (if_neg t1))
    have e1 := str_not (a := bytesOf l) (fun h => t1 (.inl h))
    have e2 := str_not (a := bytesOf l) (fun h => t1 (.inr h))
    clear t1
    by_cases t1 : l = [35, 102] ∨ l = [35, 102, 97, 108, 115, 101]
    · obtain rfl : r = _ := HRS.out.trans (if_pos t1)
      by_cases t2 : l = [35, 102]
      · have e3 := str_is (a := bytesOf l) t2
        clear t1 t2
        have HT := Lib.hid (truth_any false (W.setCell ⟨R, 1, none⟩ (.int .i64 ((p : Int) + l.length))))
        go_wp2_with (go_at_call 170; refine HT.out.mono ?_; rintro E w' ⟨rfl, hb⟩; obtain ⟨⟨d0, d1, d2, d3, d4, d5, d6⟩, g0, g1, g2, g3, g4, g5, g6⟩ := seven (z_onto HI.out.2.2.1 hb (Array.getElem?_eq_some_iff.1 HI.out.2.2.1).1); have HB := Lib.hid hb; clear hb)
        exact dt_ret rfl rfl rfl rfl (z_onto HI.out.2.2.1 HB.out (Array.getElem?_eq_some_iff.1 HI.out.2.2.1).1) (datPost_ok (u := leafT 2 false ⟨#[]⟩) rfl hRl (HI.out.2.1.onto HB.out) (HI.out.1.next HB.out HI.out.1.lt) (leafT_held _ _ _ _ _ (by decide)) (leafT_shape ..) (leafT_tame ..) (by omega) (by omega) (by rw [leafT_size]; omega))
      · have e3 := str_not (a := bytesOf l) t2
        have e4 := str_is (a := bytesOf l) (t1.resolve_left t2)
        clear t1 t2
        have HT := Lib.hid (truth_any false (W.setCell ⟨R, 1, none⟩ (.int .i64 ((p : Int) + l.length))))
        go_wp2_with (go_at_call 170; refine HT.out.mono ?_; rintro E w' ⟨rfl, hb⟩; obtain ⟨⟨d0, d1, d2, d3, d4, d5, d6⟩, g0, g1, g2, g3, g4, g5, g6⟩ := seven (z_onto HI.out.2.2.1 hb (Array.getElem?_eq_some_iff.1 HI.out.2.2.1).1); have HB := Lib.hid hb; clear hb)
        exact dt_ret rfl rfl rfl rfl (z_onto HI.out.2.2.1 HB.out (Array.getElem?_eq_some_iff.1 HI.out.2.2.1).1) (datPost_ok (u := leafT 2 false ⟨#[]⟩) rfl hRl (HI.out.2.1.onto HB.out) (HI.out.1.next HB.out HI.out.1.lt) (leafT_held _ _ _ _ _ (by decide)) (leafT_shape ..) (leafT_tame ..) (by omega) (by omega) (by rw [leafT_size]; omega))
    · have HRS := Lib.hid (HRS.out.trans (if_neg t1))
      have e3 := str_not (a := bytesOf l) (fun h => t1 (.inl h))
      have e4 := str_not (a := bytesOf l) (fun h => t1 (.inr h))
      clear t1
      have HP := Lib.hid (wparse_spec (bytesOf l) (by unfold maxLen; omega) (W.setCell ⟨R, 1, none⟩ (.int .i64 ((p : Int) + l.length))))
      have hz : zparB (bytesOf l) = zpar l := rfl
      rw [hz] at HP
      clear hz
      generalize (zpar l).1 = ok at *
      generalize (zpar l).2 = z at *
      by_cases hA : ok = true ∧ (limbs z.natAbs).length ≤ 64
      · obtain rfl : r = _ := HRS.out.trans (if_pos hA)
        obtain ⟨rfl, hlim⟩ := hA
        go_wp2_with (go_at_call 171; refine HP.out.mono ?_; rintro E w1 ⟨v, rfl, ⟨xx, rfl, A, n, c, rfl, hsl, hor⟩, b1⟩; have HV := Lib.hid (And.intro hsl (And.intro hor b1)); have hnn : n ≤ 64 := Nat.le_trans (Nat.le_of_eq hsl.len) hlim; have hz4 := (Below.heap_alloc w1 (.cells #[.bool (decide (z < 0)), .slice A n c] 29) w.heap.size (by have := b1.size; have := (Array.getElem?_eq_some_iff.1 HI.out.2.2.1).1; omega)).trans (z_onto HI.out.2.2.1 b1 (Array.getElem?_eq_some_iff.1 HI.out.2.2.1).1); obtain ⟨⟨d0, d1, d2, d3, d4, d5, d6⟩, g0, g1, g2, g3, g4, g5, g6⟩ := seven hz4; have HZ4 := Lib.hid hz4; clear hsl hor b1 hz4 c0 c1 c2 c3 f1 f2 f3)
        have hb2 := (Below.refl w1.heap.size w1).alloc (Nat.le_refl _) (.cells #[.bool (decide (z < 0)), .slice A n c] 29)
        have hDl := (Array.getElem?_eq_some_iff.1 HI.out.2.2.1).1
        refine dt_ret rfl rfl rfl rfl HZ4.out (datPost_ok (p := p) (q := p + l.length) (u := plainT 1 (decide (z < 0)) A n c (limbs z.natAbs) false ⟨#[]⟩) rfl hRl ((HI.out.2.1.onto HV.out.2.2).onto hb2) ((HI.out.1.next HV.out.2.2 HI.out.1.lt).alloc _) (plainT_held ⟨HV.out.1.below hb2, fun hpos => ?_, by decide⟩) (plainT_shape ..) (by simp only [plainT, Tame, TameR]; exact ⟨by omega, trivial, trivial⟩) (by omega) (by omega) (by rw [LT.size_eq]; simp [plainT, LT.items, LT.tail, sizes]; omega))
        rcases HV.out.2.1 with ⟨h1, h2⟩ | ⟨g, cur, rfl, hg, hgc, _⟩
        · have h3 := HV.out.1.le
          omega
        · exact Fresh.of (by have : w.heap.size < (W.setCell ⟨R, 1, none⟩ (.int .i64 ((p : Int) + l.length))).heap.size := hDl; show w.heap.size + 1 ≤ g; omega) ((hb2.block g (Array.getElem?_eq_some_iff.1 hgc).1).trans hgc) (by decide)
      · have HRS := Lib.hid (HRS.out.trans (if_neg hA))
        by_cases hpl : plainB (bytesOf l) = true
        · obtain rfl : r = _ := HRS.out.trans (if_pos hpl)
          cases hok : ok with
          | false =>
            rw [hok] at HP
            clear hok hA
            go_wp2_with (first | (go_at_call 171; refine HP.out.mono ?_; rintro E w1 ⟨v, rfl, ⟨xx, rfl, A, n, c, rfl, hsl, hor⟩, b1⟩; have HV := Lib.hid (And.intro hsl (And.intro hor b1)); have hnn : n = (limbs z.natAbs).length := hsl.len; clear hsl hor b1 c0 c1 c2 c3 f1 f2 f3) | (go_at_call 172; refine (plain_any (bytesOf l) _ ((HI.out.2.2.2.below HV.out.2.2).below ((Below.refl _ _).alloc (Nat.le_refl _) _)).1 (by omega)).mono ?_; rintro E w' ⟨rfl, rfl⟩) | (go_at_call 173; refine (clone_str (bytesOf l) _ (by omega)).mono ?_; rintro E w3 ⟨rfl, hb3⟩; have HB3 := Lib.hid ((HV.out.2.2.trans ((Below.refl _ _).alloc HV.out.2.2.size _)).trans (hb3.mono (by rw [World.size_alloc]; have := HV.out.2.2.size; omega))); clear hb3) | (go_at_call 167; refine (symbol_any (bytesOf l) _).mono ?_; rintro E w4 ⟨rfl, hb4⟩; have HB4 := Lib.hid (HB3.out.trans (hb4.mono HB3.out.size)); clear hb4; obtain ⟨⟨d0, d1, d2, d3, d4, d5, d6⟩, g0, g1, g2, g3, g4, g5, g6⟩ := seven (z_onto HI.out.2.2.1 HB4.out (Array.getElem?_eq_some_iff.1 HI.out.2.2.1).1)))
            exact dt_ret rfl rfl rfl rfl (z_onto HI.out.2.2.1 HB4.out (Array.getElem?_eq_some_iff.1 HI.out.2.2.1).1) (datPost_ok (u := leafT 3 false (bytesOf l)) rfl hRl (HI.out.2.1.onto HB4.out) (HI.out.1.next HB4.out HI.out.1.lt) (leafT_held _ _ _ _ _ (by unfold maxLen; omega)) (leafT_shape ..) (leafT_tame ..) (by omega) (by omega) (by rw [leafT_size]; omega))
          | true =>
            rw [hok] at HP
            have hgt : ¬ (limbs z.natAbs).length ≤ 64 := fun h => hA ⟨hok, h⟩
            clear hok hA
            go_wp2_with (first | (go_at_call 171; refine HP.out.mono ?_; rintro E w1 ⟨v, rfl, ⟨xx, rfl, A, n, c, rfl, hsl, hor⟩, b1⟩; have HV := Lib.hid (And.intro hsl (And.intro hor b1)); have hnn : n = (limbs z.natAbs).length := hsl.len; clear hsl hor b1 c0 c1 c2 c3 f1 f2 f3) | (go_at_call 172; refine (plain_any (bytesOf l) _ ((HI.out.2.2.2.below HV.out.2.2).below ((Below.refl _ _).alloc (Nat.le_refl _) _)).1 (by omega)).mono ?_; rintro E w' ⟨rfl, rfl⟩) | (go_at_call 173; refine (clone_str (bytesOf l) _ (by omega)).mono ?_; rintro E w3 ⟨rfl, hb3⟩; have HB3 := Lib.hid ((HV.out.2.2.trans ((Below.refl _ _).alloc HV.out.2.2.size _)).trans (hb3.mono (by rw [World.size_alloc]; have := HV.out.2.2.size; omega))); clear hb3) | (go_at_call 167; refine (symbol_any (bytesOf l) _).mono ?_; rintro E w4 ⟨rfl, hb4⟩; have HB4 := Lib.hid (HB3.out.trans (hb4.mono HB3.out.size)); clear hb4; obtain ⟨⟨d0, d1, d2, d3, d4, d5, d6⟩, g0, g1, g2, g3, g4, g5, g6⟩ := seven (z_onto HI.out.2.2.1 HB4.out (Array.getElem?_eq_some_iff.1 HI.out.2.2.1).1)))
            exact dt_ret rfl rfl rfl rfl (z_onto HI.out.2.2.1 HB4.out (Array.getElem?_eq_some_iff.1 HI.out.2.2.1).1) (datPost_ok (u := leafT 3 false (bytesOf l)) rfl hRl (HI.out.2.1.onto HB4.out) (HI.out.1.next HB4.out HI.out.1.lt) (leafT_held _ _ _ _ _ (by unfold maxLen; omega)) (leafT_shape ..) (leafT_tame ..) (by omega) (by omega) (by rw [leafT_size]; omega))
        · obtain rfl : r = _ := HRS.out.trans (if_neg hpl)
          have hpl : plainB (bytesOf l) = false := by simpa using hpl
          cases hok : ok with
          | false =>
            rw [hok] at HP
            clear hok hA
            go_wp2_with (first | (go_at_call 171; refine HP.out.mono ?_; rintro E w1 ⟨v, rfl, ⟨xx, rfl, A, n, c, rfl, hsl, hor⟩, b1⟩; have HV := Lib.hid (And.intro hsl (And.intro hor b1)); have hnn : n = (limbs z.natAbs).length := hsl.len; clear hsl hor b1 c0 c1 c2 c3 f1 f2 f3) | (go_at_call 172; refine (plain_any (bytesOf l) _ ((HI.out.2.2.2.below HV.out.2.2).below ((Below.refl _ _).alloc (Nat.le_refl _) _)).1 (by omega)).mono ?_; rintro E w' ⟨rfl, rfl⟩) | (go_at_call 124; refine (none_any ((HI.out.1.next HV.out.2.2 HI.out.1.lt).alloc _) 4 p).mono ?_; rintro E w4 ⟨rfl, hr4, hk4⟩; have HB4 := Lib.hid (And.intro hr4 (((HI.out.2.1.onto HV.out.2.2).onto ((Below.refl _ _).alloc (Nat.le_refl _) _)).trans hk4)); have hz4 := (hk4.2 w.heap.size (by rw [World.size_alloc]; have := HV.out.2.2.size; have := (Array.getElem?_eq_some_iff.1 HI.out.2.2.1).1; omega) (by omega)).trans ((Below.heap_alloc _ _ _ (by have := HV.out.2.2.size; have := (Array.getElem?_eq_some_iff.1 HI.out.2.2.1).1; omega)).trans (z_onto HI.out.2.2.1 HV.out.2.2 (Array.getElem?_eq_some_iff.1 HI.out.2.2.1).1)); obtain ⟨⟨d0, d1, d2, d3, d4, d5, d6⟩, g0, g1, g2, g3, g4, g5, g6⟩ := seven hz4; have HZ4 := Lib.hid hz4; clear hr4 hk4 hz4))
            exact dt_ret rfl rfl rfl rfl HZ4.out (datPost_bad rfl hRl HB4.out.2 HB4.out.1 (by omega))
          | true =>
            rw [hok] at HP
            have hgt : ¬ (limbs z.natAbs).length ≤ 64 := fun h => hA ⟨hok, h⟩
            clear hok hA
            go_wp2_with (first | (go_at_call 171; refine HP.out.mono ?_; rintro E w1 ⟨v, rfl, ⟨xx, rfl, A, n, c, rfl, hsl, hor⟩, b1⟩; have HV := Lib.hid (And.intro hsl (And.intro hor b1)); have hnn : n = (limbs z.natAbs).length := hsl.len; clear hsl hor b1 c0 c1 c2 c3 f1 f2 f3) | (go_at_call 172; refine (plain_any (bytesOf l) _ ((HI.out.2.2.2.below HV.out.2.2).below ((Below.refl _ _).alloc (Nat.le_refl _) _)).1 (by omega)).mono ?_; rintro E w' ⟨rfl, rfl⟩) | (go_at_call 124; refine (none_any ((HI.out.1.next HV.out.2.2 HI.out.1.lt).alloc _) 4 p).mono ?_; rintro E w4 ⟨rfl, hr4, hk4⟩; have HB4 := Lib.hid (And.intro hr4 (((HI.out.2.1.onto HV.out.2.2).onto ((Below.refl _ _).alloc (Nat.le_refl _) _)).trans hk4)); have hz4 := (hk4.2 w.heap.size (by rw [World.size_alloc]; have := HV.out.2.2.size; have := (Array.getElem?_eq_some_iff.1 HI.out.2.2.1).1; omega) (by omega)).trans ((Below.heap_alloc _ _ _ (by have := HV.out.2.2.size; have := (Array.getElem?_eq_some_iff.1 HI.out.2.2.1).1; omega)).trans (z_onto HI.out.2.2.1 HV.out.2.2 (Array.getElem?_eq_some_iff.1 HI.out.2.2.1).1)); obtain ⟨⟨d0, d1, d2, d3, d4, d5, d6⟩, g0, g1, g2, g3, g4, g5, g6⟩ := seven hz4; have HZ4 := Lib.hid hz4; clear hr4 hk4 hz4))
            exact dt_ret rfl rfl rfl rfl HZ4.out (datPost_bad rfl hRl HB4.out.2 HB4.out.1 (by omega))
end
end

section
theorem rd_stop : ∀ (n : Nat) (l : By) (k : Nat) (z : DT) (m : By), rd n .skip l k = .ok z m → stopL m = true ∧ z = zeroD
  | 0, l, k, z, m, h => by rw [rd.eq_def] at h; cases h
  | n + 1, [], k, z, m, h => by rw [rd_skip_nil] at h; cases h; exact ⟨rfl, rfl⟩
  | n + 1, c :: t, k, z, m, h => by
    rw [rd_skip_cons] at h
    split at h
    · exact rd_stop n _ _ _ _ h
    · rename_i h1
      split at h
      · exact rd_stop n _ _ _ _ h
      · rename_i h2
        split at h
        · split at h
          · exact rd_stop n _ _ _ _ h
          · cases h
        · rename_i h3
          split at h
          · split at h
            · exact rd_stop n _ _ _ _ h
            · cases h
          · rename_i h4
            cases h
            refine ⟨?_, rfl⟩
            simp only [stopL, Bool.and_eq_true, Bool.not_eq_true', Bool.and_eq_false_iff, Bool.or_eq_false_iff, beq_eq_false_iff_ne, ne_eq]
            refine ⟨⟨by simpa using h1, h2⟩, ?_⟩
            by_cases h5 : c = 35
            · exact .inr ⟨fun e => h3 ⟨h5, e⟩, fun e => h4 ⟨h5, e⟩⟩
            · exact .inl h5
theorem Rdd.again {l m : By} {k j : Nat} {z : DT} (h : Rdd .skip l k (.ok z m)) : z = zeroD ∧ Rdd .skip m j (.ok zeroD m) := by
  obtain ⟨n, h⟩ := h
  have := rd_stop n l k z m (h n (Nat.le_refl _))
  exact ⟨this.2, .stop this.1⟩
/-- The parts that ReaderSkips lays ahead. -/
def partL (p : Nat) : By := match p with
  | 0 => [32] | 1 => [10] | 2 => [59, 32, 120, 32, 40, 32, 124, 35, 10] | 3 => [35, 124, 32, 40, 32, 35, 124, 32, 59, 32, 124, 35, 32, 124, 35]
  | 4 => [35, 59, 40, 97, 32, 46, 32, 98, 41, 32] | _ => [9, 13]
theorem pair_read (l : By) (k : Nat) (hk : k < 200) : Rdd .datum ([40, 97, 32, 46, 32, 98, 41] ++ l) k (.ok (listD [symD [97]] [symD [98]]) l) := by
  have ha : Rdd .datum ([97, 32, 46, 32, 98, 41] ++ l) (k + 1) (.ok (symD [97]) ([32, 46, 32, 98, 41] ++ l)) := Rdd.datom (.stop rfl) (by rfl)
  have hb : Rdd .datum (([46, 32, 98, 41] ++ l).drop 1) (k + 1) (.ok (symD [98]) ([41] ++ l)) := Rdd.datom (c := 98) (m := [41] ++ l) (z := zeroD) (l := [32, 98, 41] ++ l) (.bl rfl (.stop (by rfl))) (by rfl)
  have hl : Rdd (.list 41 ([] ++ [symD [97]])) ([32, 46, 32, 98, 41] ++ l) (k + 1) (.ok (listD [symD [97]] [symD [98]]) l) :=
    Rdd.ldot (m := [46, 32, 98, 41] ++ l) (q := [41] ++ l) (z := zeroD) (.bl rfl (.stop (by rfl))) (by simp) ⟨by simp, by rfl⟩ hb (.stop (by rfl)) rfl
  exact Rdd.dlist (.stop rfl) (.inl rfl) hk (Rdd.litem (.stop (by rfl)) (by simp) (by simp) ha hl)
theorem part_skip (p : Nat) {l : By} {R : Res} (H : Rdd .skip l 0 R) : Rdd .skip (partL p ++ l) 0 R := by
  match p with
  | 0 => exact .bl rfl H
  | 1 => exact .bl rfl H
  | 2 => exact .line (by show Rdd .skip (10 :: l) 0 R; exact .bl rfl H)
  | 3 => exact .block (r := l) (by rfl) H
  | 4 => exact .unread (pair_read ([32] ++ l) 1 (by omega)) (.bl rfl H)
  | _ + 5 => exact .bl rfl (.bl rfl H)

/-- k lists in one another. -/
def nestD : Nat → DT
  | 0 => listD [] []
  | n + 1 => listD [nestD n] []
theorem nest_read : ∀ (j k : Nat) (l : By), k + j + 1 ≤ 200 → Rdd .datum (List.replicate (j + 1) 40 ++ (List.replicate (j + 1) 41 ++ l)) k (.ok (nestD j) l)
  | 0, k, l, h => Rdd.dlist (.stop (by rfl)) (.inl rfl) (by omega) (Rdd.lclose (.stop (by rfl)) rfl)
  | j + 1, k, l, h => by
    have e : List.replicate (j + 1 + 1) (41 : UInt8) ++ l = List.replicate (j + 1) 41 ++ (41 :: l) := by
      rw [List.replicate_succ', List.append_assoc]; rfl
    rw [e]
    exact Rdd.dlist (.stop (by rfl)) (.inl rfl) (by omega) (Rdd.litem (.stop (by rfl)) (by simp [List.replicate_succ]) (by simp) (nest_read j (k + 1) (41 :: l) (by omega)) (Rdd.lclose (.stop (by rfl)) rfl))
theorem nest_deep : ∀ (n k j : Nat) (l : By), k + n = 200 → n < j → Rdd .datum (List.replicate j 40 ++ l) k (.bad errDeep (List.replicate (j - n) 40 ++ l))
  | 0, k, 0, l, h, hj => absurd hj (Nat.lt_irrefl 0)
  | 0, k, j + 1, l, h, hj => Rdd.ddeep (.stop (by rfl)) (.inl (.inl rfl)) (by omega)
  | n + 1, k, 0, l, h, hj => absurd hj (Nat.not_lt_zero _)
  | n + 1, k, j + 1, l, h, hj => by
    have e : j + 1 - (n + 1) = j - n := by omega
    rw [e]
    obtain ⟨i, rfl⟩ : ∃ i, j = i + 1 := ⟨j - 1, by omega⟩
    exact Rdd.dlist (.stop (by rfl)) (.inl rfl) (by omega) (Rdd.litem0 (.stop (by rfl)) (by simp [List.replicate_succ]) (by simp) (nest_deep n (k + 1) (i + 1) l (by omega) (by omega)))
theorem nest_open : ∀ (j k : Nat), k + j ≤ 200 → Rdd .datum (List.replicate j 40) k (.bad errRead [])
  | 0, k, h => Rdd.dend .nil
  | 1, k, h => Rdd.dlist (.stop (by rfl)) (.inl rfl) (by omega) (Rdd.litem0 .nil (by simp) (by simp) (Rdd.dend .nil))
  | j + 2, k, h => Rdd.dlist (.stop (by rfl)) (.inl rfl) (by omega) (Rdd.litem0 (.stop (by rfl)) (by simp [List.replicate_succ]) (by simp) (nest_open (j + 1) (k + 1) (by omega)))
theorem blanks_skip : ∀ (n : Nat) {l : By} {k : Nat} {R : Res}, Rdd .skip l k R → Rdd .skip (List.replicate n 32 ++ l) k R
  | 0, _, _, _, H => H
  | n + 1, _, _, _, H => .bl rfl (blanks_skip n H)
/-- The document's examples. -/
theorem ex1 : Rdd .datum [40, 97, 32, 46, 32, 98, 41] 0 (.ok (listD [symD [97]] [symD [98]]) []) := pair_read [] 0 (by omega)
theorem ex2 : Rdd .datum [39, 120] 0 (.ok (listD [symD [113, 117, 111, 116, 101], symD [120]] []) []) := Rdd.dquote (.stop rfl) (.inl rfl) (by omega) (Rdd.datom (.stop rfl) rfl)
theorem ex3 : Rdd .datum [40, 97] 0 (.bad errRead []) := by
  have ha : Rdd .datum [97] 1 (.ok (symD [97]) []) := Rdd.datom (.stop rfl) (by rfl)
  exact Rdd.dlist (.stop rfl) (.inl rfl) (by omega) (Rdd.litem (.stop (by rfl)) (by simp) (by simp) ha (Rdd.litem0 .nil (by simp) (by simp [aheadL]) (Rdd.dend .nil)))
theorem ex4 : Rdd .datum [35, 59, 40, 97, 41, 32, 53] 0 (.ok (numD 5) []) := by
  have ha : Rdd .datum [97, 41, 32, 53] 2 (.ok (symD [97]) [41, 32, 53]) := Rdd.datom (.stop rfl) (by rfl)
  have hl : Rdd .datum [40, 97, 41, 32, 53] 1 (.ok (listD [symD [97]] []) [32, 53]) := Rdd.dlist (.stop rfl) (.inl rfl) (by omega) (Rdd.litem (.stop (by rfl)) (by simp) (by simp) ha (Rdd.lclose (.stop rfl) rfl))
  exact Rdd.datom (.unread hl (.bl rfl (.stop rfl))) rfl
end

section

/-- Whoever reads a datum with so much text left, at most, keeps what it promises. -/
def DatC (s : ByteArray) (R L : Nat) : Prop := ∀ (p k : Nat) (w : World), s.size - p ≤ L → p ≤ s.size → k + (s.size - p) ≤ 40000 → Rdr w R s p 0 k → Tabs w → Calls Tryz.prog 79 #[.pointer (some ⟨R, 0, none⟩)] w fun E w' => ∃ r, Rdd .datum (rsB s p) k r ∧ DatPost s R p k w r E w'
/-- What one that skips hands back. -/
def SkPost (s : ByteArray) (R p k : Nat) (w : World) (r : Res) (E : Ending) (w' : World) : Prop := Kept R w w' ∧ match r with
  | .ok d l => d = zeroD ∧ ∃ q : Nat, p ≤ q ∧ q ≤ s.size ∧ l = rsB s q ∧ E = .returned (.bool true) ∧ Rdr w' R s q 0 k
  | .bad e l => ∃ q : Nat, q ≤ s.size ∧ l = rsB s q ∧ E = .returned (.bool false) ∧ Rdr w' R s q e k
def SkipC (s : ByteArray) (R L : Nat) : Prop := ∀ (p k : Nat) (w : World), s.size - p ≤ L → p ≤ s.size → k + (s.size - p) ≤ 40000 → Rdr w R s p 0 k → Tabs w → Calls Tryz.prog 82 #[.pointer (some ⟨R, 0, none⟩)] w fun E w' => ∃ r, Rdd .skip (rsB s p) k r ∧ SkPost s R p k w r E w'

section
variable {w : World} {R p k L : Nat} {s : ByteArray}
set_option maxRecDepth 100000 in
set_option maxHeartbeats 6400000 in
theorem skipDatum_from (hD : DatC s R L) (hR : Off R) (hs : s.size ≤ 16384) (h : Rdr w R s p 0 k) (ht : Tabs w) (hp : p + 2 ≤ s.size) (hL : s.size - (p + 2) ≤ L) (hk : k + (s.size - p) ≤ 40000) :
    Calls Tryz.prog 141 #[.pointer (some ⟨R, 0, none⟩)] w fun E w' => ∃ r, Rdd .datum (rsB s (p + 2)) (k + 1) r ∧ Kept R w w' ∧ match r with
      | .ok _ l => ∃ q : Nat, p + 2 ≤ q ∧ q ≤ s.size ∧ l = rsB s q ∧ E = .returned (.bool true) ∧ Rdr w' R s q 0 k
      | .bad e l => ∃ q : Nat, q ≤ s.size ∧ l = rsB s q ∧ E = .returned (.bool false) ∧ Rdr w' R s q e k := by
  have h1 := h.set1 (q := p + 2) ((p : Int) + 2) (by omega)
  have h2 := h1.set3 (j := k + 1) ((k : Int) + 1) (by omega)
  obtain ⟨c0, c1, c2, c3⟩ := h.c
  obtain ⟨f1, f2, f3⟩ := h.f
  obtain ⟨c4, c5, c6, c7⟩ := h1.c
  obtain ⟨f4, f5, f6⟩ := h1.f
  have hk2 : Kept R w ((w.setCell ⟨R, 1, none⟩ (.int .i64 ((p : Int) + 2))).setCell ⟨R, 3, none⟩ (.int .i64 ((k : Int) + 1))) := ((Kept.rfl' R w).set _ _ rfl).set _ _ rfl
  have H := Lib.hid (And.intro hk2 (hD (p + 2) (k + 1) _ hL hp (by omega) h2 (ht.kept hR hk2)))
  clear h h1 h2 hk2 ht hD
  go_enter Tryz.func141, Tryz.ntmps141
  go_wp2_with fail
  refine H.out.2.mono ?_
  rintro E w' ⟨r, hr, hkw, hpost⟩
  have HR := Lib.hid (And.intro hr (H.out.1.trans hkw))
  clear hr hkw c0 c1 c2 c3 c4 c5 c6 c7 f1 f2 f3 f4 f5 f6
  cases r with
  | ok d l =>
    obtain ⟨q, u, hpq, hq, rfl, rfl, _, _, _, _, hr⟩ := hpost
    have HQ0 := Lib.hid hr
    have hra := hr.alloc (Obj.cells #[.int .i64 u.k, .bool u.g, .slice u.la u.ln u.lc, .bool u.bb, .string u.s, .slice u.ia u.items.length u.ic, .slice u.ta u.tail.length u.tc] 31)
    obtain ⟨c0, c1, c2, c3⟩ := hra.c
    obtain ⟨f1, f2, f3⟩ := hra.f
    have HQ := Lib.hid hra
    clear hr hra
    go_wp2_with fail
    go_ret
    refine ⟨_, HR.out.1, ?_, q, by omega, hq, rfl, rfl, ?_⟩
    · first | exact (Kept.onto HR.out.2 ((Below.refl _ w').alloc (Nat.le_refl _) _)).set _ _ rfl | exact (Kept.set HR.out.2 _ _ rfl).onto ((Below.refl _ _).alloc (Nat.le_refl _) _)
    · first | exact HQ.out.set3 _ (by omega) | exact (HQ0.out.set3 _ (by omega)).alloc _
  | bad e l =>
    obtain ⟨q, hq, rfl, rfl, hr⟩ := hpost
    have HQ0 := Lib.hid hr
    have hra := hr.alloc (Obj.cells #[.int .i64 0, .bool false, .slice none 0 0, .bool false, .string ⟨#[]⟩, .slice none 0 0, .slice none 0 0] 31)
    obtain ⟨c0, c1, c2, c3⟩ := hra.c
    obtain ⟨f1, f2, f3⟩ := hra.f
    have HQ := Lib.hid hra
    clear hr hra
    go_wp2_with fail
    go_ret
    refine ⟨_, HR.out.1, ?_, q, hq, rfl, rfl, ?_⟩
    · first | exact (Kept.onto HR.out.2 ((Below.refl _ w').alloc (Nat.le_refl _) _)).set _ _ rfl | exact (Kept.set HR.out.2 _ _ rfl).onto ((Below.refl _ _).alloc (Nat.le_refl _) _)
    · first | exact HQ.out.set3 _ (by omega) | exact (HQ0.out.set3 _ (by omega)).alloc _
theorem stop_here {q : Nat} (hq : q < s.size) (h1 : isBl s[q] = false) (h2 : s[q] ≠ 59) (h3 : ¬ At2 s q 35 124) (h4 : ¬ At2 s q 35 59) : stopL (rsB s q) = true := by
  have e : s.data.toList[q]? = some s[q] := List.getElem?_eq_getElem (by simpa using hq)
  rw [rsB_cons hq]
  simp only [stopL, Bool.and_eq_true, Bool.not_eq_true', Bool.and_eq_false_iff, Bool.or_eq_false_iff, beq_eq_false_iff_ne, ne_eq]
  refine ⟨⟨h1, h2⟩, ?_⟩
  by_cases h5 : s[q] = 35
  · exact .inr ⟨fun h => h3 ⟨by rw [e, h5], by rw [← rsB_head]; exact h⟩, fun h => h4 ⟨by rw [e, h5], by rw [← rsB_head]; exact h⟩⟩
  · exact .inl h5
set_option maxRecDepth 100000 in
set_option maxHeartbeats 12800000 in
theorem skip_from (hD : DatC s R L) (hR : Off R) (hs : s.size ≤ 16384) : SkipC s R (L + 1) := by
  intro p k w hL hp hk h ht
  have H := Lib.hid (And.intro h (And.intro ht hD))
  clear h ht hD
  go_enter Tryz.func82, Tryz.ntmps82
  go_wp2_with fail
  go_loopg [] (s.size - p) (fun g wr => ∃ q : Nat, p ≤ q ∧ q ≤ s.size ∧ g = s.size - q ∧ Hid (Rdr wr R s q 0 k ∧ Kept R w wr ∧ ∀ res, Rdd .skip (rsB s q) k res → Rdd .skip (rsB s p) k res))
  case atStart => exact ⟨p, Nat.le_refl _, hp, rfl, Lib.hid ⟨H.out.1, Kept.rfl' R w, fun _ h => h⟩⟩
  case round =>
    obtain ⟨q, hpq, hq, rfl, HR⟩ := hrel
    obtain ⟨c0, c1, c2, c3⟩ := HR.out.1.c
    by_cases hlt : q < s.size
    · go_wp2_with fail
      go_quiet (fail)
      have hr1 := And.intro (HR.out.1.drewN nq) (And.intro (HR.out.2.1.drewN nq) HR.out.2.2)
      generalize wr.drewN nq = W1 at *
      clear HR c0 c1 c2 c3
      obtain ⟨c0, c1, c2, c3⟩ := hr1.1.c
      have HR := Lib.hid hr1
      clear hr1
      go_wp2_with fail
      go_quiet (fail)
      have hr1 := And.intro (HR.out.1.drewN nq) (And.intro (HR.out.2.1.drewN nq) HR.out.2.2)
      generalize W1.drewN nq = W2 at *
      clear HR c0 c1 c2 c3
      obtain ⟨c0, c1, c2, c3⟩ := hr1.1.c
      obtain ⟨f1, f2, f3⟩ := hr1.1.f
      have HR := Lib.hid hr1
      clear hr1
      have hpos : 0 < (s.extract q s.size).size := by rw [ByteArray.size_extract]; omega
      have hb0 : (s.extract q s.size)[0] = s[q] := by
        have e1 : (s.extract q s.size).data.toList[0]? = some (s.extract q s.size)[0] := List.getElem?_eq_getElem (by simpa using hpos)
        rw [rsB_extract, rsB_cons hlt] at e1
        exact (Option.some.inj e1).symm
      have hib : Calls Tryz.prog 137 #[.int .u8 ((s.extract q s.size)[0].toNat : Int)] W2 fun e w' => e = .returned (.bool (isBl s[q])) ∧ W2 = w' := by rw [← hb0]; exact isBlank_any _ W2
      have hp1 := prefix_any (s.extract q s.size) ⟨#[35, 124]⟩ W2
      have hp2 := prefix_any (s.extract q s.size) ⟨#[35, 59]⟩ W2
      have hxe : (⟨#[35, 124]⟩ : ByteArray).data.toList = [35, 124] := rfl
      have hxe2 : (⟨#[35, 59]⟩ : ByteArray).data.toList = [35, 59] := rfl
      rw [hxe] at hp1
      rw [hxe2] at hp2
      have h1y := fun h : At2 s q 35 124 => h.yes
      have h1n := fun h : ¬ At2 s q 35 124 => At2.no h
      have h2y := fun h : At2 s q 35 59 => h.yes
      have h2n := fun h : ¬ At2 s q 35 59 => At2.no h
      have hcons := rsB_cons hlt
      generalize s.extract q s.size = t at *
      cases hbl : isBl s[q] with
      | true =>
        rw [hbl] at hib
        have HB := Lib.hid hib
        have HN := Lib.hid (show ∀ res, Rdd .skip (rsB s (q + 1)) k res → Rdd .skip (rsB s p) k res from fun res h => HR.out.2.2 res (by rw [hcons]; exact .bl hbl h))
        clear hib hp1 hp2 hxe hxe2 h1y h1n h2y h2n hcons hb0 hbl
        go_wp2_with (go_at_call 137; refine HB.out.mono ?_; rintro E w' ⟨rfl, rfl⟩)
        go_roundg (s.size - (q + 1))
        case measure => omega
        case rel => exact ⟨q + 1, by omega, by omega, rfl, Lib.hid ⟨HR.out.1.set1 _ (by omega), HR.out.2.1.set _ _ rfl, HN.out⟩⟩
      | false =>
        rw [hbl] at hib
        have HB := Lib.hid hib
        by_cases h59 : s[q] = 59
        · have hbe : ((t[0].toNat : Int) == 59) = true := by rw [hb0, h59]; rfl
          have HL := Lib.hid (skipLine_any HR.out.1 (by omega) hs)
          have HC := Lib.hid (show rsB s q = 59 :: rsB s (q + 1) by rw [hcons, h59])
          clear hib hp1 hp2 hxe hxe2 h1y h1n h2y h2n hcons hb0 hbl h59
          go_wp2_with (first | (go_at_call 137; refine HB.out.mono ?_; rintro E w' ⟨rfl, rfl⟩) | (go_at_call 138; refine HL.out.mono ?_; rintro E w' ⟨⟨v, rfl⟩, q2, hq2, hq3, hq4, hr2, hk2⟩; have HQ := Lib.hid (And.intro hr2 (And.intro hk2 hq4)); clear hr2 hk2 hq4))
          have hle : q + 1 ≤ q2 := by
            have h1 := congrArg List.length HQ.out.2.2
            rw [HC.out, lineL_cons (by decide), rsB_len] at h1
            have h2 : (lineL (rsB s (q + 1))).length ≤ (rsB s (q + 1)).length := by have := drop_take_len (fun c => c != 10) (rsB s (q + 1)); unfold lineL; omega
            rw [rsB_len] at h2
            omega
          go_roundg (s.size - q2)
          case measure => omega
          case rel => exact ⟨q2, by omega, hq3, rfl, Lib.hid ⟨HQ.out.1, HR.out.2.1.trans HQ.out.2.1, fun res h => HR.out.2.2 res (by rw [HC.out]; refine .line ?_; have e := HQ.out.2.2; rw [HC.out, lineL_cons (by decide)] at e; rw [← e]; exact h)⟩⟩
        · have hbe : ((t[0].toNat : Int) == 59) = false := by rw [hb0]; exact byte_ne (b := 59) h59
          by_cases ha1 : At2 s q 35 124
          · rw [h1y ha1] at hp1
            have H1 := Lib.hid hp1
            have HS := Lib.hid (skipBlock_any HR.out.1 hs ha1)
            have HC := Lib.hid ha1.rest
            clear hib hp1 hp2 hxe hxe2 h1y h1n h2y h2n hcons hb0 hbl h59 ha1
            go_wp2_with (first | (go_at_call 137; refine HB.out.mono ?_; rintro E w' ⟨rfl, rfl⟩) | (go_at_call 139; refine H1.out.mono ?_; rintro E w' ⟨rfl, rfl⟩))
            refine HS.out.mono ?_
            rintro E w' ⟨hk2, ⟨q2, hq2, hq3, hq4, rfl, hr2⟩ | ⟨hq4, rfl, hr2⟩⟩
            · have HQ := Lib.hid (And.intro hr2 (And.intro hk2 hq4))
              clear hr2 hk2 hq4
              go_wp2_with fail
              go_roundg (s.size - q2)
              case measure => omega
              case rel => exact ⟨q2, by omega, hq3, rfl, Lib.hid ⟨HQ.out.1, HR.out.2.1.trans HQ.out.2.1, fun res h => HR.out.2.2 res (by rw [HC.out]; exact .block HQ.out.2.2 h)⟩⟩
            · have HQ := Lib.hid (And.intro hr2 (And.intro hk2 hq4))
              clear hr2 hk2 hq4
              go_wp2_with fail
              go_ret
              exact ⟨.bad errRead (rsB s q), HR.out.2.2 _ (by rw [HC.out]; exact .noblock HQ.out.2.2), HR.out.2.1.trans HQ.out.2.1, q, hq, rfl, rfl, HQ.out.1⟩
          · rw [h1n ha1] at hp1
            have H1 := Lib.hid hp1
            by_cases ha2 : At2 s q 35 59
            · rw [h2y ha2] at hp2
              have H2 := Lib.hid hp2
              have hlt2 := ha2.lt
              have HS := Lib.hid (skipDatum_from H.out.2.2 hR hs HR.out.1 (H.out.2.1.kept hR HR.out.2.1) (by omega) (by omega) (by omega))
              have HC := Lib.hid ha2.rest
              clear hib hp1 hp2 hxe hxe2 h1y h1n h2y h2n hcons hb0 hbl h59 ha1 ha2
              go_wp2_with (first | (go_at_call 137; refine HB.out.mono ?_; rintro E w' ⟨rfl, rfl⟩) | (go_at_call 139; first | (refine H1.out.mono ?_; rintro E w' ⟨rfl, rfl⟩) | (refine H2.out.mono ?_; rintro E w' ⟨rfl, rfl⟩)))
              refine HS.out.mono ?_
              rintro E w' ⟨r, hrd, hk2, hpost⟩
              cases r with
              | ok d l =>
                obtain ⟨q2, hq2, hq3, rfl, rfl, hr2⟩ := hpost
                have HQ := Lib.hid (And.intro hr2 (And.intro hk2 hrd))
                clear hr2 hk2 hrd
                go_wp2_with fail
                go_roundg (s.size - q2)
                case measure => omega
                case rel => exact ⟨q2, by omega, hq3, rfl, Lib.hid ⟨HQ.out.1, HR.out.2.1.trans HQ.out.2.1, fun res h => HR.out.2.2 res (by rw [HC.out]; exact .unread HQ.out.2.2 h)⟩⟩
              | bad e l =>
                obtain ⟨q2, hq3, rfl, rfl, hr2⟩ := hpost
                have HQ := Lib.hid (And.intro hr2 (And.intro hk2 hrd))
                clear hr2 hk2 hrd
                go_wp2_with fail
                go_ret
                exact ⟨.bad e (rsB s q2), HR.out.2.2 _ (by rw [HC.out]; exact .nounread HQ.out.2.2), HR.out.2.1.trans HQ.out.2.1, q2, hq3, rfl, rfl, HQ.out.1⟩
            · rw [h2n ha2] at hp2
              have H2 := Lib.hid hp2
              have HE := Lib.hid (stop_here hlt hbl h59 ha1 ha2)
              clear hib hp1 hp2 hxe hxe2 h1y h1n h2y h2n hcons hb0 hbl h59 ha1 ha2
              go_wp2_with (first | (go_at_call 137; refine HB.out.mono ?_; rintro E w' ⟨rfl, rfl⟩) | (go_at_call 139; first | (refine H1.out.mono ?_; rintro E w' ⟨rfl, rfl⟩) | (refine H2.out.mono ?_; rintro E w' ⟨rfl, rfl⟩)))
              go_ret
              exact ⟨.ok zeroD (rsB s q), HR.out.2.2 _ (.stop HE.out), HR.out.2.1, rfl, q, hpq, hq, rfl, rfl, HR.out.1⟩
    · obtain rfl : q = s.size := by omega
      go_wp2_with fail
      go_quiet (fail)
      go_wp2_with fail
      go_ret
      exact ⟨.ok zeroD [], HR.out.2.2 _ (by rw [rsB_end (Nat.le_refl _)]; exact .nil), HR.out.2.1.drewN nq, rfl, s.size, hpq, hq, (rsB_end (Nat.le_refl _)).symm, rfl, HR.out.1.drewN nq⟩
end
end
end Go.Proofs.YtlohdglhebplfaaGreatDoor
