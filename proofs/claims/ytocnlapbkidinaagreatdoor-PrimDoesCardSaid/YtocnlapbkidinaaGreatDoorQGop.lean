/-
  pavaneref03.Good of what a primitive tells.
-/
import Derived.Test.YtocnlapbkidinaaGreatDoorPl1
import Derived.Test.YtocnlapbkidinaaGreatDoorPt1
set_option linter.unusedVariables false
set_option linter.unusedSimpArgs false
set_option linter.unusedSectionVars false
set_option linter.unnecessarySimpa false
namespace Go.Proofs.YtocnlapbkidinaaGreatDoor
open Go.RowKit

theorem limbs_end (n k : Nat) (h : (limbs n).length = k + 1) : lim (limbs n) k ≠ 0 := by
  have ht : trimL (limbs n) = limbs n := trimL_idem _
  have e : limbs n = (limbs n).take k ++ [lim (limbs n) k] := by
    rw [← take_snoc _ _ (by omega), ← h, List.take_length]
  intro h0
  rw [h0] at e
  rw [e, trimL_snoc_zero] at ht
  have := trimL_len ((limbs n).take k)
  rw [ht] at this
  simp [h] at this
  omega
set_option maxRecDepth 100000 in
set_option maxHeartbeats 3200000 in
theorem r2good_num (z : Int) (A : Option Addr) (n c : Nat) (w : World) (h : Sl w A n c (limbs z.natAbs)) (hn : n ≤ 64) :
    Calls Tryz.prog 79 #[.agg #[.bool (decide (z < 0)), .slice A n c]] w fun e w' => e = .returned (.bool true) ∧ Below w.heap.size w w' := by
  have hb0 : ∀ O, Below w.heap.size w (w.alloc O) := fun O => (Below.refl _ _).alloc (Nat.le_refl _) _
  have hlen := h.len
  rcases n with _ | k
  · have hzz : z = 0 := by
      have h1 := limbs_val z.natAbs
      rw [List.eq_nil_of_length_eq_zero hlen.symm] at h1
      have : val [] = 0 := rfl
      omega
    subst hzz
    clear hlen h
    rw [show decide ((0 : Int) < 0) = false from rfl]
    go_enter Tryz.func79, Tryz.ntmps79
    go_wp2_with fail
    go_ret
    exact ⟨rfl, hb0 _⟩
  · obtain ⟨g, hg⟩ : ∃ g, g = decide (z < 0) := ⟨_, rfl⟩
    rw [← hg]
    obtain ⟨b, off, rfl, hb, hc⟩ := (h.alloc (.cells #[.bool g, .slice A (k + 1) c] 27)).here (by omega)
    have hck := hc k (by omega)
    have htop := limbs_end z.natAbs k (by omega)
    obtain ⟨x, hx⟩ : ∃ x, lim (limbs z.natAbs) k = x := ⟨_, rfl⟩
    rw [hx] at hck htop
    have hz : (((x : Nat) : Int) == 0) = false := beq_eq_false_iff_ne.2 (by omega)
    have hz2 : decide (((x : Nat) : Int) = 0) = false := decide_eq_false (by omega)
    have hz3 : (((x : Nat) : Int) != 0) = true := bne_iff_ne.2 (by omega)
    have ek1 : ((k : Int) + 1 == 0) = false := beq_eq_false_iff_ne.2 (by omega)
    have ek2 : decide ((k : Int) + 1 = 0) = false := decide_eq_false (by omega)
    have ek3 : decide (0 < (k : Int) + 1) = true := decide_eq_true (by omega)
    clear hc h hlen hx hg
    go_enter Tryz.func79, Tryz.ntmps79
    go_wp2_with fail
    all_goals first
      | (exfalso; omega)
      | (go_ret; exact ⟨rfl, hb0 _⟩)
set_option maxRecDepth 100000
theorem isp_none (A : Option Addr) (c : Nat) (w : World) : Calls Tryz.prog 39 #[.agg #[.int .i64 0, .bool false, .slice A 0 c, .bool false, .string ⟨#[]⟩, .slice none 0 0, .slice none 0 0]] w fun e w' => e = .returned (.bool true) ∧ Below w.heap.size w w' := by
  have HB := Lib.hid (show ∀ O, Below w.heap.size w (w.alloc O) from fun O => (Below.refl _ _).alloc (Nat.le_refl _) _)
  go_enter Tryz.func39, Tryz.ntmps39
  go_wp2_with fail
  go_ret
  exact ⟨rfl, HB.out _⟩
theorem isp_bool (b : Bool) (A : Option Addr) (c : Nat) (w : World) : Calls Tryz.prog 39 #[.agg #[.int .i64 2, .bool false, .slice A 0 c, .bool b, .string ⟨#[]⟩, .slice none 0 0, .slice none 0 0]] w fun e w' => e = .returned (.bool true) ∧ Below w.heap.size w w' := by
  have HB := Lib.hid (show ∀ O, Below w.heap.size w (w.alloc O) from fun O => (Below.refl _ _).alloc (Nat.le_refl _) _)
  go_enter Tryz.func39, Tryz.ntmps39
  go_wp2_with fail
  go_ret
  exact ⟨rfl, HB.out _⟩
theorem isp_str (s : ByteArray) (hs : s.size ≤ 1024) (A : Option Addr) (c : Nat) (w : World) : Calls Tryz.prog 39 #[.agg #[.int .i64 4, .bool false, .slice A 0 c, .bool false, .string s, .slice none 0 0, .slice none 0 0]] w fun e w' => e = .returned (.bool true) ∧ Below w.heap.size w w' := by
  have HB := Lib.hid (show ∀ O, Below w.heap.size w (w.alloc O) from fun O => (Below.refl _ _).alloc (Nat.le_refl _) _)
  have e1 : decide ((s.size : Int) ≤ 1024) = true := decide_eq_true (by omega)
  go_enter Tryz.func39, Tryz.ntmps39
  go_wp2_with fail
  go_ret
  exact ⟨rfl, HB.out _⟩
set_option maxHeartbeats 3200000 in
theorem isp_num (z : Int) (A : Option Addr) (n c : Nat) (w : World) (h : Sl w A n c (limbs z.natAbs)) (hn : n ≤ 64) : Calls Tryz.prog 39 #[.agg #[.int .i64 1, .bool (decide (z < 0)), .slice A n c, .bool false, .string ⟨#[]⟩, .slice none 0 0, .slice none 0 0]] w fun e w' => e = .returned (.bool true) ∧ Below w.heap.size w w' := by
  have HG := Lib.hid (fun W (hb : Below w.heap.size w W) => r2good_num z A n c W (h.below hb) hn)
  generalize decide (z < 0) = g at *
  have hb0 : Below w.heap.size w (w.alloc (.cells #[.int .i64 1, .bool g, .slice A n c, .bool false, .string ⟨#[]⟩, .slice none 0 0, .slice none 0 0] 29)) := (Below.refl _ _).alloc (Nat.le_refl _) _
  have h0n : (w.alloc (.cells #[.int .i64 1, .bool g, .slice A n c, .bool false, .string ⟨#[]⟩, .slice none 0 0, .slice none 0 0] 29)).heap[w.heap.size]? = some (.cells #[.int .i64 1, .bool g, .slice A n c, .bool false, .string ⟨#[]⟩, .slice none 0 0, .slice none 0 0] 29) := World.alloc_heap_new _ _
  have h0s : (w.alloc (.cells #[.int .i64 1, .bool g, .slice A n c, .bool false, .string ⟨#[]⟩, .slice none 0 0, .slice none 0 0] 29)).heap.size = w.heap.size + 1 := World.size_alloc ..
  obtain ⟨W0, hW0⟩ : ∃ W, w.alloc (.cells #[.int .i64 1, .bool g, .slice A n c, .bool false, .string ⟨#[]⟩, .slice none 0 0, .slice none 0 0] 29) = W := ⟨_, rfl⟩
  rw [hW0] at hb0 h0n h0s
  have HX := Lib.hid (And.intro hW0 (And.intro hb0 (And.intro h0n h0s)))
  have e64 : decide ((n : Int) ≤ 64) = true := decide_eq_true (by omega)
  clear hW0 hb0 h0n h0s h
  cases g
  all_goals
    go_enter Tryz.func39, Tryz.ntmps39
    go_wp2_with fail
  all_goals
    rw [HX.out.1]
    refine (HG.out _ HX.out.2.1).mono ?_
    rintro e w1 ⟨rfl, b1⟩
    obtain ⟨⟨d0, d1, d2, d3, d4, d5, d6⟩, -⟩ := cells7 ((b1.block w.heap.size (by rw [HX.out.2.2.2]; omega)).trans HX.out.2.2.1)
    have H1 := Lib.hid (HX.out.2.1.trans (b1.mono HX.out.2.1.size))
    clear b1
    go_wp2_with fail
    go_ret
    exact ⟨rfl, H1.out⟩
/-- An answer that is as it must be. -/
def FineA (a : Ans) : Prop := (∃ er, er ≠ 0 ∧ a = errA er) ∨ (∃ z, a = numA z ∧ (limbs z.natAbs).length ≤ 64) ∨ (∃ b, a = boolA b) ∨ (∃ s, a = strA s ∧ s.size ≤ 1024)
theorem isp_any {a : Ans} (hF : FineA a) (A : Option Addr) (n c : Nat) (w : World) (h : Sl w A n c a.xs) : Calls Tryz.prog 39 #[.agg #[.int .i64 a.k, .bool a.sg, .slice A n c, .bool a.b, .string a.s, .slice none 0 0, .slice none 0 0]] w fun e w' => e = .returned (.bool true) ∧ Below w.heap.size w w' := by
  have hl := h.len
  rcases hF with ⟨er, _, rfl⟩ | ⟨z, rfl, hz⟩ | ⟨b, rfl⟩ | ⟨s, rfl, hs⟩
  · obtain rfl : n = 0 := by rw [hl]; rfl
    exact isp_none A c w
  · exact isp_num z A n c w h (by rw [hl]; exact hz)
  · obtain rfl : n = 0 := by rw [hl]; rfl
    exact isp_bool b A c w
  · obtain rfl : n = 0 := by rw [hl]; rfl
    exact isp_str s hs A c w
set_option maxHeartbeats 3200000 in
theorem goodp_any {a : Ans} (hF : FineA a) (A : Option Addr) (n c : Nat) (w : World) (h : Sl w A n c a.xs) : Calls Tryz.prog 21 #[.agg #[.int .i64 a.k, .bool a.sg, .slice A n c, .bool a.b, .string a.s, .slice none 0 0, .slice none 0 0]] w fun e w' => e = .returned (.bool true) ∧ Below w.heap.size w w' := by
  have hs : a.s.size ≤ maxLen := by
    unfold maxLen
    rcases hF with ⟨er, _, rfl⟩ | ⟨z, rfl, hz⟩ | ⟨b, rfl⟩ | ⟨s, rfl, hs⟩
    · show (0 : Nat) ≤ _; omega
    · show (0 : Nat) ≤ _; omega
    · show (0 : Nat) ≤ _; omega
    · show s.size ≤ _; omega
  have HI := Lib.hid (fun W (hb : Below w.heap.size w W) => isp_any hF A n c W (h.below hb))
  have hb0 : Below w.heap.size w (w.alloc (.cells #[.int .i64 (a.k), .bool a.sg, .slice A n c, .bool a.b, .string a.s, .slice none 0 0, .slice none 0 0] 29)) := (Below.refl _ _).alloc (Nat.le_refl _) _
  have h0n : (w.alloc (.cells #[.int .i64 (a.k), .bool a.sg, .slice A n c, .bool a.b, .string a.s, .slice none 0 0, .slice none 0 0] 29)).heap[w.heap.size]? = some (.cells #[.int .i64 (a.k), .bool a.sg, .slice A n c, .bool a.b, .string a.s, .slice none 0 0, .slice none 0 0] 29) := World.alloc_heap_new _ _
  have h0s : (w.alloc (.cells #[.int .i64 (a.k), .bool a.sg, .slice A n c, .bool a.b, .string a.s, .slice none 0 0, .slice none 0 0] 29)).heap.size = w.heap.size + 1 := World.size_alloc ..
  have hS := small_any (w.alloc (.cells #[.int .i64 (a.k), .bool a.sg, .slice A n c, .bool a.b, .string a.s, .slice none 0 0, .slice none 0 0] 29)).heap.size (plainT a.k a.sg A n c a.xs a.b a.s) 5000 200 (w.alloc (.cells #[.int .i64 (a.k), .bool a.sg, .slice A n c, .bool a.b, .string a.s, .slice none 0 0, .slice none 0 0] 29)) (Nat.le_refl _) (plain_held (h.below hb0) hs) (by decide) (by decide) (by decide) (by decide)
  have hq : budT (plainT a.k a.sg A n c a.xs a.b a.s) 5000 200 = 4999 := by
    unfold plainT
    rw [budT_eq]
    simp [LT.items, LT.tail, budR_nil]
  rw [hq] at hS
  have HS := Lib.hid hS
  have HB := Lib.hid (And.intro hb0 (And.intro h0n h0s))
  clear hb0 h0n h0s hS hq h hF hs
  go_enter Tryz.func21, Tryz.ntmps21
  go_wp2_with fail
  refine HS.out.mono ?_
  rintro e w1 ⟨rfl, b1⟩
  have H1 := Lib.hid (HB.out.1.trans (b1.mono HB.out.1.size))
  obtain ⟨⟨d0, d1, d2, d3, d4, d5, d6⟩, -⟩ := cells7 ((b1.block w.heap.size (by rw [HB.out.2.2]; omega)).trans HB.out.2.1)
  clear b1 HS
  go_wp2_with fail
  refine (HI.out w1 H1.out).mono ?_
  rintro e w2 ⟨rfl, b2⟩
  have H2 := Lib.hid (H1.out.trans (b2.mono H1.out.size))
  clear b2 d0 d1 d2 d3 d4 d5 d6
  go_wp2_with fail
  go_ret
  exact ⟨rfl, H2.out⟩
end Go.Proofs.YtocnlapbkidinaaGreatDoor
