/-
  The reader: what a backslash stands for.
-/
import Derived.Test.YtlohdglhebplfaaGreatDoorRde
import Derived.Laws.BytesArg
import Derived.Laws.RangeAny
namespace Go.Proofs.YtlohdglhebplfaaGreatDoor
open Go.RowKit

theorem hexN_le (n : Nat) : hexN n ≤ 16 := by unfold hexN; split <;> (try split) <;> (try split) <;> omega
set_option maxHeartbeats 3200000 in
theorem hexDigit_any (n : Nat) (hn : n ≤ 2147483647) (w : World) : Calls Tryz.prog 258 #[.int .i32 (n : Int)] w fun e w' => e = .returned (.int .i64 (hexN n : Int)) ∧ w = w' := by
  rcases (show n < 48 ∨ (48 ≤ n ∧ n ≤ 57) ∨ (58 ≤ n ∧ n < 65) ∨ (65 ≤ n ∧ n ≤ 70) ∨ (71 ≤ n ∧ n < 97) ∨ (97 ≤ n ∧ n ≤ 102) ∨ 103 ≤ n by omega) with h | h | h | h | h | h | h
  · have hd := Lib.hid (show hexN n = 16 by unfold hexN; rw [if_neg (by omega), if_neg (by omega), if_neg (by omega)])
    go_enter Tryz.func258, Tryz.ntmps258
    go_wp2_with fail
    go_ret
    exact ⟨by rw [hd.out]; rfl, rfl⟩
  · have hd := Lib.hid (show hexN n = n - 48 by unfold hexN; rw [if_pos (by omega)])
    obtain ⟨h, h'⟩ := h
    go_enter Tryz.func258, Tryz.ntmps258
    go_wp2_with fail
    go_ret
    exact ⟨by rw [hd.out]; exact congrArg (fun x => Ending.returned (.int .i64 x)) (by omega), rfl⟩
  · have hd := Lib.hid (show hexN n = 16 by unfold hexN; rw [if_neg (by omega), if_neg (by omega), if_neg (by omega)])
    obtain ⟨h, h'⟩ := h
    go_enter Tryz.func258, Tryz.ntmps258
    go_wp2_with fail
    go_ret
    exact ⟨by rw [hd.out]; rfl, rfl⟩
  · have hd := Lib.hid (show hexN n = n - 55 by unfold hexN; rw [if_neg (by omega), if_neg (by omega), if_pos (by omega)])
    obtain ⟨h, h'⟩ := h
    go_enter Tryz.func258, Tryz.ntmps258
    go_wp2_with fail
    go_ret
    exact ⟨by rw [hd.out]; exact congrArg (fun x => Ending.returned (.int .i64 x)) (by omega), rfl⟩
  · have hd := Lib.hid (show hexN n = 16 by unfold hexN; rw [if_neg (by omega), if_neg (by omega), if_neg (by omega)])
    obtain ⟨h, h'⟩ := h
    go_enter Tryz.func258, Tryz.ntmps258
    go_wp2_with fail
    go_ret
    exact ⟨by rw [hd.out]; rfl, rfl⟩
  · have hd := Lib.hid (show hexN n = n - 87 by unfold hexN; rw [if_neg (by omega), if_pos (by omega)])
    obtain ⟨h, h'⟩ := h
    go_enter Tryz.func258, Tryz.ntmps258
    go_wp2_with fail
    go_ret
    exact ⟨by rw [hd.out]; exact congrArg (fun x => Ending.returned (.int .i64 x)) (by omega), rfl⟩
  · have hd := Lib.hid (show hexN n = 16 by unfold hexN; rw [if_neg (by omega), if_neg (by omega), if_neg (by omega)])
    go_enter Tryz.func258, Tryz.ntmps258
    go_wp2_with fail
    go_ret
    exact ⟨by rw [hd.out]; rfl, rfl⟩

theorem conv_one (c : UInt8) (w : World) : (convert 107 9 (.slice (some ⟨w.heap.size, 0, none⟩) 1 1)).run Tryz.prog (w.alloc (.cells #[.int .u8 (c.toNat : Int)] 5)) = .ok (.string (bytesOf [c])) (w.alloc (.cells #[.int .u8 (c.toNat : Int)] 5)) := by
  have := run_convert_bytes_arg (P := Tryz.prog) (w.alloc (.cells #[.int .u8 (c.toNat : Int)] 5)) 107 5 Tryz.underlying107 Tryz.underlying5 w.heap.size 0 1 1 [(c.toNat : Int)] rfl (fun i hi => by
    obtain rfl : i = 0 := by omega
    rw [Lib.cell_of_heap (World.alloc_heap_new w _)]
    rfl) 9 Tryz.underlying9
  rw [this]
  have e : strOfNums [(c.toNat : Int)] = bytesOf [c] := by simp [strOfNums, bytesOf]
  rw [e]
theorem hexN_high {n : Nat} (h : 128 ≤ n) : hexN n = 16 := by unfold hexN; rw [if_neg (by omega), if_neg (by omega), if_neg (by omega)]
theorem rune_at (t : ByteArray) (i : Nat) (h : i < t.size) : hexN (Utf8.decode t i).1 = hexN t[i].toNat ∧ ((Utf8.decode t i).1 = 59 ↔ t[i] = 59) ∧ (hexN t[i].toNat ≠ 16 → (Utf8.decode t i).2 = 1) ∧ (Utf8.decode t i).1 ≤ 2147483647 := by
  by_cases hb : t[i].toNat < 128
  · rw [decode_ascii t i h hb]
    exact ⟨rfl, ⟨fun e => UInt8.toNat_inj.1 e, fun e => by rw [e]; rfl⟩, fun _ => rfl, by show t[i].toNat ≤ _; omega⟩
  · obtain ⟨h1, h2⟩ := decode_high t i h (by omega)
    exact ⟨by rw [hexN_high h1, hexN_high (by omega)], ⟨fun e => by omega, fun e => by rw [e] at hb; exact absurd (by decide) hb⟩, fun e => absurd (hexN_high (by omega)) e, decode_le t i⟩
/-- So many digits were read, and that is their number. -/
def HexAt (l : By) (i v : Nat) : Prop := (i = 0 ∧ v = 0) ∨ (i = 1 ∧ ∃ a m, l = a :: m ∧ hexN a.toNat ≠ 16 ∧ v = hexN a.toNat) ∨ (i = 2 ∧ ∃ a b m, l = a :: b :: m ∧ hexN a.toNat ≠ 16 ∧ hexN b.toNat ≠ 16 ∧ v = hexN a.toNat * 16 + hexN b.toNat)
theorem HexAt.le {l : By} {i v : Nat} (h : HexAt l i v) : i ≤ 2 ∧ v ≤ 255 := by
  rcases h with ⟨rfl, rfl⟩ | ⟨rfl, a, m, _, h1, rfl⟩ | ⟨rfl, a, b, m, _, h1, h2, rfl⟩
  · omega
  · have := hexN_le a.toNat; omega
  · have := hexN_le a.toNat; have := hexN_le b.toNat; omega
theorem hex59 {b : UInt8} (h : hexN b.toNat ≠ 16) : b ≠ 59 := fun e => h (by rw [e]; rfl)
theorem HexAt.short {l : By} {i v : Nat} (h : HexAt l i v) (hl : l.length ≤ i) : hexL l = none := by
  rcases h with ⟨rfl, rfl⟩ | ⟨rfl, a, m, rfl, h1, rfl⟩ | ⟨rfl, a, b, m, rfl, h1, h2, rfl⟩
  · obtain rfl : l = [] := List.eq_nil_of_length_eq_zero (by omega)
    rfl
  · obtain rfl : m = [] := List.eq_nil_of_length_eq_zero (by simp at hl; exact List.length_eq_zero_iff.2 hl)
    simp [hexL]
  · obtain rfl : m = [] := List.eq_nil_of_length_eq_zero (by simp at hl; exact List.length_eq_zero_iff.2 hl)
    simp [hexL, hex59 h2]
theorem HexAt.done {l : By} {i v : Nat} {c : UInt8} (h : HexAt l i v) (hc : l[i]? = some c) (h59 : c = 59) (hi : 0 < i) : hexL l = some ([UInt8.ofNat v], i + 3) := by
  subst h59
  rcases h with ⟨rfl, rfl⟩ | ⟨rfl, a, m, rfl, h1, rfl⟩ | ⟨rfl, a, b, m, rfl, h1, h2, rfl⟩
  · omega
  · cases m with
    | nil => simp at hc
    | cons b m =>
      obtain rfl : b = 59 := by simpa using hc
      simp [hexL, h1]
  · cases m with
    | nil => simp at hc
    | cons d m =>
      obtain rfl : d = 59 := by simpa using hc
      simp [hexL, h1, h2, hex59 h2]
theorem HexAt.bad {l : By} {i v : Nat} {c : UInt8} (h : HexAt l i v) (hc : l[i]? = some c) (h59 : ¬ (c = 59 ∧ 0 < i)) (hb : hexN c.toNat = 16 ∨ i = 2) : hexL l = none := by
  rcases h with ⟨rfl, rfl⟩ | ⟨rfl, a, m, rfl, h1, rfl⟩ | ⟨rfl, a, b, m, rfl, h1, h2, rfl⟩
  · cases l with
    | nil => rfl
    | cons a m =>
      obtain rfl : a = c := by simpa using hc
      have h3 : hexN a.toNat = 16 := hb.resolve_right (by omega)
      simp [hexL, h3]
  · cases m with
    | nil => simp at hc
    | cons b m =>
      obtain rfl : b = c := by simpa using hc
      have h3 : hexN b.toNat = 16 := hb.resolve_right (by omega)
      have h4 : b ≠ 59 := fun e => h59 ⟨e, by omega⟩
      simp [hexL, h1, h3, h4]
  · cases m with
    | nil => simp at hc
    | cons d m =>
      obtain rfl : d = c := by simpa using hc
      have h4 : d ≠ 59 := fun e => h59 ⟨e, by omega⟩
      simp [hexL, h1, h2, h4, hex59 h2]
theorem HexAt.next {l : By} {i v : Nat} {c : UInt8} (h : HexAt l i v) (hc : l[i]? = some c) (hb : hexN c.toNat ≠ 16) (hi : i ≠ 2) : HexAt l (i + 1) (v * 16 + hexN c.toNat) := by
  rcases h with ⟨rfl, rfl⟩ | ⟨rfl, a, m, rfl, h1, rfl⟩ | ⟨rfl, a, b, m, rfl, h1, h2, rfl⟩
  · cases l with
    | nil => simp at hc
    | cons a m =>
      obtain rfl : a = c := by simpa using hc
      exact .inr (.inl ⟨rfl, a, m, rfl, hb, by omega⟩)
  · cases m with
    | nil => simp at hc
    | cons b m =>
      obtain rfl : b = c := by simpa using hc
      exact .inr (.inr ⟨rfl, a, b, m, rfl, h1, hb, rfl⟩)
  · exact absurd rfl hi
/-- What a call tells of a text and how much it takes. -/
def EscPost (r : Option (By × Nat)) (e : Ending) : Prop := match r with
  | none => e = .returned (.tuple #[.string ⟨#[]⟩, .int .i64 0])
  | some (b, k) => e = .returned (.tuple #[.string (bytesOf b), .int .i64 k])
set_option maxRecDepth 100000 in
set_option maxHeartbeats 6400000 in
theorem escapedNumber_any (s : ByteArray) (h2 : 2 ≤ s.size) (hs : s.size ≤ 16384) (w : World) : Calls Tryz.prog 240 #[.string s] w fun e w' => EscPost (hexL (s.data.toList.drop 2)) e ∧ Below w.heap.size w w' := by
  go_enter Tryz.func240, Tryz.ntmps240
  go_wp2_with fail
  have HT := Lib.hid (show (s.extract 2 s.size).data.toList = s.data.toList.drop 2 from rsB_extract s 2)
  have hts : (s.extract 2 s.size).size ≤ 16384 := by rw [ByteArray.size_extract]; omega
  generalize s.extract 2 s.size = t at *
  go_loopg [4] 3 (fun g v wr => ∃ i m : Nat, v = .int .i64 m ∧ wr = w.iter t i ∧ g = 3 - i ∧ Hid (HexAt (s.data.toList.drop 2) i m))
  case atStart => exact ⟨0, 0, rfl, rfl, rfl, Lib.hid (.inl ⟨rfl, rfl⟩)⟩
  case round =>
    obtain ⟨i, m, rfl, rfl, rfl, HX⟩ := hrel
    obtain ⟨hi, hm⟩ := HX.out.le
    by_cases hlt : i < t.size
    · have hnx := fun ty => run_next_any (P := Tryz.prog) w t i ty hlt
      obtain ⟨r1, r2, r3, r4⟩ := rune_at t i hlt
      have hat : (s.data.toList.drop 2)[i]? = some t[i] := by rw [← HT.out]; exact List.getElem?_eq_getElem (by simpa using hlt)
      obtain ⟨r, hr⟩ : ∃ r, r = (Utf8.decode t i).1 := ⟨_, rfl⟩
      obtain ⟨wd, hwd⟩ : ∃ wd, wd = (Utf8.decode t i).2 := ⟨_, rfl⟩
      rw [← hr] at r1 r2 r4 hnx
      rw [← hwd] at r3 hnx
      clear hr hwd
      by_cases hA : t[i] = 59 ∧ 0 < i
      · have hi0 := hA.2
        obtain rfl : r = 59 := r2.2 hA.1
        have HE := Lib.hid (HX.out.done hat hA.1 hA.2)
        have hcv := conv_one (UInt8.ofNat m) (w.iter t (i + wd))
        have hmm : (UInt8.ofNat m).toNat = m := by simp; omega
        rw [hmm] at hcv
        clear hA r1 r2 r3 r4 hat
        go_wp2_with fail
        go_ret2
        refine ⟨?_, ?_⟩
        · rw [HE.out]
          show _ = _
          exact congrArg (fun x => Ending.returned (.tuple #[.string (bytesOf [UInt8.ofNat m]), .int .i64 x])) (by omega)
        · exact ((Below.refl _ w).alloc (Nat.le_refl _) _).alloc (by simp [World.iter]) _
      · have hnA : ¬ (r = 59 ∧ 0 < i) := fun h => hA ⟨r2.1 h.1, h.2⟩
        have hdg := hexDigit_any r r4 (w.iter t (i + wd))
        rw [r1] at hdg
        by_cases hB : hexN t[i].toNat = 16 ∨ i = 2
        · have HE := Lib.hid (HX.out.bad hat hA hB)
          have hbel : Below w.heap.size w (w.iter t (i + wd)) := (Below.refl _ w).alloc (Nat.le_refl _) _
          have HB := Lib.hid hbel
          clear hbel
          by_cases h16 : hexN t[i].toNat = 16
          · rw [h16] at hdg
            have HD := Lib.hid hdg
            clear hdg hB h16 hA r1 r3 hat r2
            by_cases h59 : r = 59
            · have hi0 : i = 0 := by
                by_cases h : i = 0
                · exact h
                · exact absurd ⟨h59, by omega⟩ hnA
              have hbe : ((r : Int) == 59) = true := by rw [h59]; rfl
              have hgi : decide (0 < (i : Int)) = false := by simp; omega
              have hgi2 : ¬ (0 : Int) < (i : Int) := by omega
              clear hnA hi0 h59
              go_wp2_with (go_at_call 258; refine HD.out.mono ?_; rintro E w' ⟨rfl, rfl⟩)
              go_ret2
              exact ⟨by rw [HE.out]; rfl, HB.out⟩
            · have hbe : ((r : Int) == 59) = false := beq_false_of_ne (by omega)
              clear hnA
              go_wp2_with (go_at_call 258; refine HD.out.mono ?_; rintro E w' ⟨rfl, rfl⟩)
              go_ret2
              exact ⟨by rw [HE.out]; rfl, HB.out⟩
          · have h2i : i = 2 := hB.resolve_left h16
            have hbe : ((r : Int) == 59) = false := beq_false_of_ne fun e => hnA ⟨by omega, by omega⟩
            have hbi : ((i : Int) == 2) = true := by rw [h2i]; rfl
            have hbd : ((hexN t[i].toNat : Int) == 16) = false := beq_false_of_ne (by omega)
            have hdl := hexN_le t[i].toNat
            generalize hexN t[i].toNat = dg at *
            clear h2i
            have HD := Lib.hid hdg
            clear hdg hB h16 hA r1 r3 hat r2 hnA
            go_wp2_with (go_at_call 258; refine HD.out.mono ?_; rintro E w' ⟨rfl, rfl⟩)
            go_ret2
            exact ⟨by rw [HE.out]; rfl, HB.out⟩
        · have hB1 : hexN t[i].toNat ≠ 16 := fun e => hB (.inl e)
          have hB2 : i ≠ 2 := fun e => hB (.inr e)
          obtain rfl : wd = 1 := r3 hB1
          have HN := Lib.hid (HX.out.next hat hB1 hB2)
          have hdl := hexN_le t[i].toNat
          have hbe : ((r : Int) == 59) = false := beq_false_of_ne fun e => by
            have : r = 59 := by omega
            subst this
            exact hB1 (by rw [← r1]; rfl)
          have hbd : ((hexN t[i].toNat : Int) == 16) = false := beq_false_of_ne (by omega)
          have hbi : ((i : Int) == 2) = false := beq_false_of_ne (by omega)
          generalize hexN t[i].toNat = dg at *
          have HD := Lib.hid hdg
          clear hdg hB hB1 hA r1 r3 hat r2 hnA
          go_wp2_with (go_at_call 258; refine HD.out.mono ?_; rintro E w' ⟨rfl, rfl⟩)
          go_roundg (3 - (i + 1))
          case measure => omega
          case rel => exact ⟨i + 1, m * 16 + dg, by go_num, rfl, rfl, HN.out⟩
    · have hnx := fun ty => run_next_end (P := Tryz.prog) w t i ty hlt
      have HE := Lib.hid (HX.out.short (by rw [← HT.out]; simp; omega))
      go_wp2_with fail
      go_ret2
      refine ⟨by rw [HE.out]; rfl, ?_⟩
      exact (Below.refl _ w).alloc (Nat.le_refl _) _
end Go.Proofs.YtlohdglhebplfaaGreatDoor
