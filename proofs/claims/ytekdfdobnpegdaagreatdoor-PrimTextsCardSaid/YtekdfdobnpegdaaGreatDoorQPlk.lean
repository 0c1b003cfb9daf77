/-
  prim.Do of rows of texts that were just laid; Eq of a text with itself.
-/
import Derived.Test.YtekdfdobnpegdaaGreatDoorPl1
import Derived.Test.YtekdfdobnpegdaaGreatDoorPn10
set_option linter.unusedVariables false
set_option linter.unusedSimpArgs false
set_option linter.unusedSectionVars false
set_option linter.unnecessarySimpa false
namespace Go.Proofs.YtekdfdobnpegdaaGreatDoor
open Go.RowKit
set_option maxRecDepth 100000

section
variable {w : World} {s t : ByteArray} {A A' : Option Addr} {n c n' c' : Nat} {xs xs' : List Nat} {g : Bool}
theorem strapp_row (hs : s.size + t.size ≤ 1024) : Calls Tryz.prog 11 #[.int .i64 24, .slice (some ⟨w.heap.size, 0, none⟩) 2 2] (w.alloc (.cells #[.int .i64 4, .bool false, .slice none 0 0, .bool false, .string s, .slice none 0 0, .slice none 0 0, .int .i64 4, .bool false, .slice none 0 0, .bool false, .string t, .slice none 0 0, .slice none 0 0] 29)) (TelP w 4 false [] false (s ++ t) 0) := by
  have hb : Below w.heap.size w (w.alloc (.cells #[.int .i64 4, .bool false, .slice none 0 0, .bool false, .string s, .slice none 0 0, .slice none 0 0, .int .i64 4, .bool false, .slice none 0 0, .bool false, .string t, .slice none 0 0, .slice none 0 0] 29)) := (Below.refl _ _).alloc (Nat.le_refl _) _
  have h := do_strapp (c := 2) (by show s.size ≤ _; omega) (by show t.size ≤ _; omega) (row2_new (plainT 4 false none 0 0 [] false s) (plainT 4 false none 0 0 [] false t) w)
  have e : joinA (plainT 4 false none 0 0 [] false s).k (plainT 4 false none 0 0 [] false t).k (plainT 4 false none 0 0 [] false s).s (plainT 4 false none 0 0 [] false t).s = strA (s ++ t) := by
    show (if (4 : Int) = 4 ∧ (4 : Int) = 4 then (if 1024 < s.size + t.size then errA 12 else strA (s ++ t)) else errA 6) = _
    rw [if_pos ⟨rfl, rfl⟩, if_neg (by omega)]
  rw [e] at h
  exact h.mono fun e w' he => TelP.from_ (show TelP _ 4 false [] false (s ++ t) 0 e w' from he) hb
theorem streq_row {r : Bool} (hr : (s.toList == t.toList) = r) : Calls Tryz.prog 11 #[.int .i64 25, .slice (some ⟨w.heap.size, 0, none⟩) 2 2] (w.alloc (.cells #[.int .i64 4, .bool false, .slice none 0 0, .bool false, .string s, .slice none 0 0, .slice none 0 0, .int .i64 4, .bool false, .slice none 0 0, .bool false, .string t, .slice none 0 0, .slice none 0 0] 29)) (TelP w 2 false [] r ⟨#[]⟩ 0) := by
  have hb : Below w.heap.size w (w.alloc (.cells #[.int .i64 4, .bool false, .slice none 0 0, .bool false, .string s, .slice none 0 0, .slice none 0 0, .int .i64 4, .bool false, .slice none 0 0, .bool false, .string t, .slice none 0 0, .slice none 0 0] 29)) := (Below.refl _ _).alloc (Nat.le_refl _) _
  have h := do_streq (c := 2) (r := r) (by exact hr) (row2_new (plainT 4 false none 0 0 [] false s) (plainT 4 false none 0 0 [] false t) w)
  have e : sameA (plainT 4 false none 0 0 [] false s).k (plainT 4 false none 0 0 [] false t).k r = boolA r := by
    show (if (4 : Int) = 4 ∧ (4 : Int) = 4 then boolA r else errA 6) = _
    rw [if_pos ⟨rfl, rfl⟩]
  rw [e] at h
  exact h.mono fun e w' he => TelP.from_ (show TelP _ 2 false [] r ⟨#[]⟩ 0 e w' from he) hb
theorem strlen_row (hs : s.size ≤ maxLen) : Calls Tryz.prog 11 #[.int .i64 23, .slice (some ⟨w.heap.size, 0, none⟩) 1 1] (w.alloc (.cells #[.int .i64 4, .bool false, .slice A n c, .bool false, .string s, .slice none 0 0, .slice none 0 0] 29)) (TelP w 1 false (limbs s.size) false ⟨#[]⟩ 0) := by
  have hb : Below w.heap.size w (w.alloc (.cells #[.int .i64 4, .bool false, .slice A n c, .bool false, .string s, .slice none 0 0, .slice none 0 0] 29)) := (Below.refl _ _).alloc (Nat.le_refl _) _
  have h := do_strlen (c := 1) (by show s.size ≤ _; exact hs) (row1_new (plainT 4 false A n c [] false s) w)
  have e : lenA (plainT 4 false A n c [] false s).k (plainT 4 false A n c [] false s).s = ⟨1, false, limbs s.size, false, ⟨#[]⟩, 0⟩ := by
    show (if (4 : Int) = 4 then numA s.size else errA 6) = _
    rw [if_pos rfl]
    unfold numA
    rw [decide_eq_false (by omega : ¬ (s.size : Int) < 0)]
    rfl
  rw [e] at h
  exact h.mono fun e w' he => TelP.from_ (show TelP _ 1 false (limbs s.size) false ⟨#[]⟩ 0 e w' from he) hb
theorem symstr_row : Calls Tryz.prog 11 #[.int .i64 26, .slice (some ⟨w.heap.size, 0, none⟩) 1 1] (w.alloc (.cells #[.int .i64 3, .bool false, .slice none 0 0, .bool false, .string s, .slice none 0 0, .slice none 0 0] 29)) (TelP w 4 false [] false s 0) := by
  have hb : Below w.heap.size w (w.alloc (.cells #[.int .i64 3, .bool false, .slice none 0 0, .bool false, .string s, .slice none 0 0, .slice none 0 0] 29)) := (Below.refl _ _).alloc (Nat.le_refl _) _
  have h := do_symstr (c := 1) (row1_new (plainT 3 false none 0 0 [] false s) w)
  have e : symA (plainT 3 false none 0 0 [] false s).k (plainT 3 false none 0 0 [] false s).s = strA s := by
    show (if (3 : Int) = 3 then strA s else errA 6) = _
    rw [if_pos rfl]
  rw [e] at h
  exact h.mono fun e w' he => TelP.from_ (show TelP _ 4 false [] false s 0 e w' from he) hb
theorem numstr_row {K : Nat} (ht : ∀ W u, Wh W u (zOf g (val xs)) K → Calls Tryz.prog 72 #[u] W fun e w' => e = .returned (.string t) ∧ Below W.heap.size W w') (h1 : Sl w A n c xs) (hn : n ≤ K) : Calls Tryz.prog 11 #[.int .i64 27, .slice (some ⟨w.heap.size, 0, none⟩) 1 1] (w.alloc (.cells #[.int .i64 1, .bool g, .slice A n c, .bool false, .string ⟨#[]⟩, .slice none 0 0, .slice none 0 0] 29)) (TelP w 4 false [] false t 0) := by
  have hb : Below w.heap.size w (w.alloc (.cells #[.int .i64 1, .bool g, .slice A n c, .bool false, .string ⟨#[]⟩, .slice none 0 0, .slice none 0 0] 29)) := (Below.refl _ _).alloc (Nat.le_refl _) _
  have h := do_numstr (c := 1) ht (wh_plain (k := 1) (b := false) (s := ⟨#[]⟩) (h1.below hb) rfl hn) (row1_new (plainT 1 g A n c xs false ⟨#[]⟩) w)
  have e : textA (plainT 1 g A n c xs false ⟨#[]⟩).k t = strA t := by
    show (if (1 : Int) = 1 then strA t else errA 6) = _
    rw [if_pos rfl]
  rw [e] at h
  exact h.mono fun e w' he => TelP.from_ (show TelP _ 4 false [] false t 0 e w' from he) hb
theorem eq_str (hs : s.size ≤ maxLen) (hs' : t.size ≤ maxLen) : Calls Tryz.prog 22 #[.agg #[.int .i64 4, .bool false, .slice none 0 0, .bool false, .string s, .slice none 0 0, .slice none 0 0], .agg #[.int .i64 4, .bool false, .slice none 0 0, .bool false, .string t, .slice none 0 0, .slice none 0 0]] w fun e w' => e = .returned (.bool false) ∧ Below w.heap.size w w' := by
  have h := eq_any w.heap.size (plainT 4 false none 0 0 [] false s) (plainT 4 false none 0 0 [] false t) (by rw [(plain_size ..).1]; decide) (by rw [(plain_size ..).2]; decide) (by rw [(plain_size ..).1]; decide) (by rw [(plain_size ..).2]; decide) (plain_tame (by omega)) (plain_tame (by omega)) w (Nat.le_refl _) (plain_held Sl.nil hs) (plain_held Sl.nil hs')
  have e : eqB (plainT 4 false none 0 0 [] false s) (plainT 4 false none 0 0 [] false t) = false := by
    unfold eqB
    rw [if_neg (by simp [plainT, LT.k]), if_neg (by simp [plainT, LT.k]), if_neg (by simp [plainT, LT.k]), if_neg (by simp [plainT, LT.k])]
  rw [e] at h
  exact h
end
end Go.Proofs.YtekdfdobnpegdaaGreatDoor
