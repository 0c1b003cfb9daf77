/-
  The law WriteApart: names and quotes of two texts are apart.
-/
import Derived.Test.YtgfamihldecmbaaDoorWriteClean
namespace Go.Proofs.YtgfamihldecmbaaDoor
open Go.RowKit

/-! ### what is written between marks reads one way -/
def preB (M n m : Nat) : Bool := !(esc M n).isPrefixOf (esc M m) || n == m
theorem pre_bar : ((List.range 256).all fun n => (List.range 256).all fun m => preB 124 n m) = true := by decide +kernel
theorem pre_quo : ((List.range 256).all fun n => (List.range 256).all fun m => preB 34 n m) = true := by decide +kernel
theorem esc_pre (M : Nat) (hM : M = 124 ∨ M = 34) (n m : Nat) (hn : n < 256) (hm : m < 256) (h : esc M n <+: esc M m) : n = m := by
  have key : preB M n m = true := by
    rcases hM with rfl | rfl
    · exact List.all_eq_true.1 (List.all_eq_true.1 pre_bar n (List.mem_range.2 hn)) m (List.mem_range.2 hm)
    · exact List.all_eq_true.1 (List.all_eq_true.1 pre_quo n (List.mem_range.2 hn)) m (List.mem_range.2 hm)
  unfold preB at key
  rw [List.isPrefixOf_iff_prefix.2 h] at key
  simpa using key
theorem escs_inj (M : Nat) (hM : M = 124 ∨ M = 34) : ∀ (l m : List UInt8), escs M l = escs M m → l = m
  | [], [], _ => rfl
  | [], d :: m, h => by
    have := congrArg List.length h
    have := esc_length M d.toNat
    simp only [escs, List.length_append, List.length_nil] at *
    omega
  | c :: l, [], h => by
    have := congrArg List.length h
    have := esc_length M c.toNat
    simp only [escs, List.length_append, List.length_nil] at *
    omega
  | c :: l, d :: m, h => by
    simp only [escs] at h
    have e : c.toNat = d.toNat := by
      have h1 : esc M c.toNat <+: esc M d.toNat ++ escs M m := ⟨_, h⟩
      have h2 : esc M d.toNat <+: esc M d.toNat ++ escs M m := ⟨_, rfl⟩
      rcases List.prefix_or_prefix_of_prefix h1 h2 with h3 | h3
      · exact esc_pre M hM _ _ c.toNat_lt d.toNat_lt h3
      · exact (esc_pre M hM _ _ d.toNat_lt c.toNat_lt h3).symm
    rw [e] at h
    have h2 := List.append_cancel_left h
    rw [escs_inj M hM l m h2, UInt8.toNat_inj.1 e]
theorem betw_inj (M : Nat) (hM : M = 124 ∨ M = 34) (l m : List UInt8) (h : betw M l = betw M m) : l = m := by
  unfold betw at h
  exact escs_inj M hM l m (List.append_cancel_right (List.cons.inj h).2)
theorem bytes_ext {a b : ByteArray} (h : a.data.toList = b.data.toList) : a = b := by
  obtain ⟨⟨a⟩⟩ := a
  obtain ⟨⟨b⟩⟩ := b
  simp only at h
  rw [h]
theorem quo_inj (a b : ByteArray) (h : quoS a = quoS b) : a = b := by
  have h2 : betw 34 a.data.toList = betw 34 b.data.toList := by
    have := congrArg (fun s : ByteArray => s.data.toList) h
    simpa only [quoS] using this
  exact bytes_ext (betw_inj 34 (.inr rfl) _ _ h2)
/-- A plain symbol doesn't begin with a mark. -/
theorem plain_head {s : ByteArray} {c : UInt8} {l : List UInt8} (h : plainB s = true) (hs : s.data.toList = c :: l) : c.toNat ≠ 124 ∧ c.toNat ≠ 34 := by
  have h1 := plain_all h
  rw [hs] at h1
  have h2 : isPl c.toNat = true := by simp only [List.all_cons, Bool.and_eq_true] at h1; exact h1.1
  refine ⟨fun e => ?_, fun e => ?_⟩
  · rw [e] at h2
    revert h2
    decide
  · rw [e] at h2
    revert h2
    decide
theorem name_list (s : ByteArray) : (plainB s = true ∧ nameS s = s) ∨ (plainB s = false ∧ (nameS s).data.toList = betw 124 s.data.toList) := by
  unfold nameS
  by_cases h : plainB s = true
  · rw [if_pos h]
    exact .inl ⟨h, rfl⟩
  · rw [if_neg h]
    exact .inr ⟨by simpa using h, rfl⟩
theorem name_inj (a b : ByteArray) (h : nameS a = nameS b) : a = b := by
  have h0 : (nameS a).data.toList = (nameS b).data.toList := congrArg (fun s : ByteArray => s.data.toList) h
  rcases name_list a with ⟨p, e⟩ | ⟨p, e⟩ <;> rcases name_list b with ⟨p', e'⟩ | ⟨p', e'⟩
  · rw [← e, ← e']
    exact h
  · rw [e, e'] at h0
    exact absurd (by decide) (plain_head p (c := by8 124) h0).1
  · rw [e, e'] at h0
    exact absurd (by decide) (plain_head p' (c := by8 124) h0.symm).1
  · rw [e, e'] at h0
    exact bytes_ext (betw_inj 124 (.inl rfl) _ _ h0)
theorem name_quo (a b : ByteArray) : nameS a ≠ quoS b := by
  intro h
  have h0 : (nameS a).data.toList = betw 34 b.data.toList := congrArg (fun s : ByteArray => s.data.toList) h
  rcases name_list a with ⟨p, e⟩ | ⟨p, e⟩
  · rw [e] at h0
    exact absurd (by decide) (plain_head p (c := by8 34) h0).2
  · rw [e] at h0
    exact absurd (List.cons.inj h0).1 (by decide)

theorem text_ne {a b : ByteArray} (h : a ≠ b) : (a.toList == b.toList) = false := by
  rw [ByteArray.toList_eq, ByteArray.toList_eq]
  exact beq_eq_false_iff_ne.2 fun e => h (bytes_ext e)
theorem text_same (a b c d : ByteArray) (h : a = b ↔ c = d) : (a.toList == b.toList) = (c.toList == d.toList) := by
  by_cases k : c = d
  · rw [h.2 k, k, beq_self_eq_true, beq_self_eq_true]
  · rw [text_ne k, text_ne fun e => k (h.1 e)]

/-! ### the law -/
set_option maxRecDepth 100000 in
set_option maxHeartbeats 1600000 in
theorem writeApart_in (a b : ByteArray) (w : World) (ht : Tab w) (ha : a.size ≤ 1100) (hb : b.size ≤ 1100) :
    Calls Tryd.prog 5 #[.string a, .string b] w fun e w' => e = .returned (.bool true) ∧ Below w.heap.size w w' := by
  have hq : ((nameS a).toList == (quoS b).toList) = false := text_ne (name_quo a b)
  have hnn : ((nameS a).toList == (nameS b).toList) = (a.toList == b.toList) := text_same _ _ _ _ ⟨name_inj a b, fun e => by rw [e]⟩
  have hqq : ((quoS a).toList == (quoS b).toList) = (a.toList == b.toList) := text_same _ _ _ _ ⟨quo_inj a b, fun e => by rw [e]⟩
  generalize hab : (a.toList == b.toList) = r at hnn hqq
  have HT := Lib.hid ht
  have z1 : decide (1100 < (a.size : Int)) = false := by simp; omega
  have z2 : decide (1100 < (b.size : Int)) = false := by simp; omega
  have HF := Lib.hid (And.intro hq (And.intro hnn (And.intro hqq hab)))
  clear ht hq hnn hqq hab
  go_enter Tryd.func5, Tryd.ntmps5
  go_wp2_with fail
  refine (name_any a _ HT.out (by omega)).mono ?_
  rintro e w1 ⟨rfl, b1⟩
  go_wp2_with fail
  refine (name_any b _ (HT.out.below b1) (by omega)).mono ?_
  rintro e w2 ⟨rfl, b2⟩
  have g2 := bnext b1 b2
  clear b1 b2
  obtain ⟨hq, hnn, hqq, hab⟩ := HF.out
  go_wp2_with fail
  refine (quote_q a _ (by omega)).mono ?_
  rintro e w3 ⟨rfl, b3⟩
  have g3 := bnext g2 b3
  clear g2 b3
  go_wp2_with fail
  refine (quote_q b _ (by omega)).mono ?_
  rintro e w4 ⟨rfl, b4⟩
  have g4 := bnext g3 b4
  clear g3 b4
  go_wp2_with fail
  refine (name_any a _ (HT.out.below g4) (by omega)).mono ?_
  rintro e w5 ⟨rfl, b5⟩
  have g5 := bnext g4 b5
  clear g4 b5
  go_wp2_with fail
  refine (quote_q b _ (by omega)).mono ?_
  rintro e w6 ⟨rfl, b6⟩
  have g6 := bnext g5 b6
  clear g5 b6
  have HL := Lib.hid (lives4_yes w6 (HT.out.below g6))
  go_wp2_with fail
  refine HL.out.mono ?_
  rintro e w7 ⟨rfl, b7⟩
  go_wp2_with fail
  go_ret
  exact ⟨rfl, bnext g6 b7⟩

theorem writeApart_walk (a b : ByteArray) (w : World) (ha : a.size ≤ maxLen) (hb : b.size ≤ maxLen) (ht : Tab w) :
    Calls Tryd.prog 5 #[.string a, .string b] w fun e w' => e = .returned (.bool true) ∧ Below w.heap.size w w' := by
  by_cases h : a.size ≤ 1100
  · by_cases h2 : b.size ≤ 1100
    · exact writeApart_in a b w ht h h2
    · unfold maxLen at ha hb
      have HL := Lib.hid (lives4_yes w ht)
      have q : decide (1100 < (a.size : Int)) = false := by simp; omega
      have q2 : decide (1100 < (b.size : Int)) = true := by simp; omega
      clear ht
      go_enter Tryd.func5, Tryd.ntmps5
      go_wp2_with fail
      refine HL.out.mono ?_
      rintro e w3 ⟨rfl, b3⟩
      go_wp2_with fail
      go_ret
      exact ⟨rfl, b3⟩
  · unfold maxLen at ha hb
    have HL := Lib.hid (lives4_yes w ht)
    have q : decide (1100 < (a.size : Int)) = true := by simp; omega
    clear ht
    go_enter Tryd.func5, Tryd.ntmps5
    go_wp2_with fail
    refine HL.out.mono ?_
    rintro e w3 ⟨rfl, b3⟩
    go_wp2_with fail
    go_ret
    exact ⟨rfl, b3⟩
end Go.Proofs.YtgfamihldecmbaaDoor
