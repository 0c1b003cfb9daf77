/-
  The law NatTexts: its walk.
-/
import Derived.Test.YtbcehgmicgddiaaDoorRefText
import Derived.OpenShut
namespace Go.Proofs.YtbcehgmicgddiaaDoor
open Go.RowKit

/-- What Parse tells. -/
def GivesP (w : World) (ok : Bool) (m : Nat) (e : Ending) (w' : World) : Prop := ∃ v, e = .returned (.tuple #[v, .bool ok]) ∧ New w' w.heap.size v (limbs m) ∧ Below w.heap.size w w'
/-- What Text tells. -/
def GivesT (w : World) (t : ByteArray) (e : Ending) (w' : World) : Prop := e = .returned (.string t) ∧ Below w.heap.size w w'
theorem GivesP.none {P : Program} {f : FuncId} {args : Array Value} {w : World} (h : Calls P f args w fun e w' => e = .returned (.tuple #[.slice none 0 0, .bool false]) ∧ Below w.heap.size w w') : Calls P f args w (GivesP w false 0) :=
  h.mono fun _ _ ⟨he, hb⟩ => ⟨_, he, New.nil _ _, hb⟩
theorem parse_both (s : ByteArray) (b : Int) (hs : s.size ≤ maxLen) : ∃ ok m, (limbs m).length ≤ 1000000 ∧ (∀ w, Calls Tryd.prog 35 #[.string s, .int .i64 b] w (GivesP w ok m)) ∧ (∀ w, Calls Tryd.prog 36 #[.string s, .int .i64 b] w (GivesP w ok m)) := by
  by_cases h : b < 2 ∨ 36 < b ∨ s.size = 0 ∨ 1000 < s.size
  · exact ⟨false, 0, by rw [limbs_zero]; simp, fun w => GivesP.none (parse_no s b w h hs), fun w => GivesP.none (rparse_no s b w h hs)⟩
  · obtain ⟨n, rfl⟩ := Int.eq_ofNat_of_zero_le (show 0 ≤ b by omega)
    by_cases hg : ∀ k (h : k < s.size), digN s[k].toNat < n
    · refine ⟨true, numB n s.data.toList, ?_, fun w => parse_yes s n w (by omega) (by omega) (by omega) (by omega) hg, fun w => rparse_yes s n w (by omega) (by omega) (by omega) (by omega) hg⟩
      have := numB_lt n (by omega) s s.size (Nat.le_refl _)
      rw [List.take_of_length_le (by simp)] at this
      have := limbs_len_le this
      omega
    · simp only [Classical.not_forall] at hg
      obtain ⟨j, hj, hbad⟩ := hg
      exact ⟨false, 0, by rw [limbs_zero]; simp, fun w => GivesP.none (parse_bad s n w (by omega) (by omega) (by omega) (by omega) j hj (by omega)), fun w => GivesP.none (rparse_bad s n w (by omega) (by omega) (by omega) (by omega) j hj (by omega))⟩
theorem text_both (u : Value) (a K : Nat) (b : Int) (hK : K ≤ 1000000) : ∃ t, (∀ w, Num w u a K → Calls Tryd.prog 37 #[u, .int .i64 b] w (GivesT w t)) ∧ (∀ w, Num w u a K → Calls Tryd.prog 38 #[u, .int .i64 b] w (GivesT w t)) := by
  by_cases h : b < 2 ∨ 36 < b
  · refine ⟨⟨#[]⟩, fun w hu => ?_, fun w hu => (rtext_no u b w h).mono fun _ _ ⟨he, hw⟩ => ⟨he, hw ▸ Below.refl _ _⟩⟩
    obtain ⟨A1, n1, c1, xs, rfl, s1, rfl, k1⟩ := hu
    exact (text_no A1 n1 c1 b w h).mono fun _ _ ⟨he, hw⟩ => ⟨he, hw ▸ Below.refl _ _⟩
  · obtain ⟨n, rfl⟩ := Int.eq_ofNat_of_zero_le (show 0 ≤ b by omega)
    have key : ∀ t : ByteArray, t.data.toList = txt n a → t = ⟨(txt n a).toArray⟩ := by
      intro t ht
      rw [← ht]
    refine ⟨⟨(txt n a).toArray⟩, fun w hu => ?_, fun w hu => (rtext_any hu hK n (by omega) (by omega)).mono fun _ _ ⟨t, he, ht, hb⟩ => ⟨by rw [he, key t ht], hb⟩⟩
    obtain ⟨A1, n1, c1, xs, rfl, s1, rfl, k1⟩ := hu
    exact (text_any _ _ _ _ n w s1 (by omega) (by omega) (by omega)).mono fun _ _ ⟨t, he, ht, hb⟩ => ⟨by rw [he, key t ht], hb⟩

set_option maxHeartbeats 1600000 in
theorem natTexts_mid_small (a0 : Option Addr) (len0 cap0 : Nat) (A : Nat) (s : ByteArray) (nn : Int) (w : World) (n_a : Num w (.slice a0 len0 cap0) A 40) (k0 : len0 ≤ 40) (h1 : 300 < s.size) (h2 : s.size ≤ 1000) :
    Calls Tryd.prog 6 #[.slice a0 len0 cap0, .string s, .int .i64 nn] w fun e w' => e = .returned (.bool true) ∧ Below w.heap.size w w' := by
  have l_a := n_a.lt
  have hall : ∀ i, i < 1 → ∃ A n c, (w.alloc (.cells #[.slice a0 len0 cap0] 22)).cell? ⟨w.heap.size, i, none⟩ = some (.slice A n c) ∧ n ≤ 40 := by
    intro i hi
    obtain rfl : i = 0 := by omega
    · exact ⟨a0, len0, cap0, by simp, k0⟩
  have HA := Lib.hid hall
  clear hall
  have hb : Below w.heap.size w (w.alloc (.cells #[.slice a0 len0 cap0] 22)) := (Below.refl _ _).alloc (Nat.le_refl _) _
  go_enter Tryd.func6, Tryd.ntmps6
  go_wp2_with fail
  refine (small_yes w.heap.size 1 _ (by decide) HA.out).mono ?_
  rintro e w0 ⟨rfl, rfl⟩
  replace n_a := n_a.below hb
  clear HA
  go_wp2_with fail
  refine (lives_yes _).mono ?_
  rintro e w1 ⟨rfl, b1⟩
  replace hb := bnext hb b1
  go_wp2_with fail
  go_ret
  exact ⟨rfl, hb⟩

set_option maxHeartbeats 1600000 in
theorem natTexts_in_small (a0 : Option Addr) (len0 cap0 : Nat) (A : Nat) (s : ByteArray) (nn : Int) (w : World) (n_a : Num w (.slice a0 len0 cap0) A 40) (k0 : len0 ≤ 40) (h1 : s.size ≤ 300) :
    Calls Tryd.prog 6 #[.slice a0 len0 cap0, .string s, .int .i64 nn] w fun e w' => e = .returned (.bool true) ∧ Below w.heap.size w w' := by
  have l_a := n_a.lt
  have hall : ∀ i, i < 1 → ∃ A n c, (w.alloc (.cells #[.slice a0 len0 cap0] 22)).cell? ⟨w.heap.size, i, none⟩ = some (.slice A n c) ∧ n ≤ 40 := by
    intro i hi
    obtain rfl : i = 0 := by omega
    · exact ⟨a0, len0, cap0, by simp, k0⟩
  obtain ⟨ok, m, hml, hp1, hp2⟩ := parse_both s nn (by unfold maxLen; omega)
  obtain ⟨T, ht1, ht2⟩ := text_both (.slice a0 len0 cap0) A 40 nn (by decide)
  have HP := Lib.hid (And.intro hp1 hp2)
  have HT := Lib.hid (And.intro ht1 ht2)
  clear hp1 hp2 ht1 ht2
  have HA := Lib.hid hall
  clear hall
  have hb : Below w.heap.size w (w.alloc (.cells #[.slice a0 len0 cap0] 22)) := (Below.refl _ _).alloc (Nat.le_refl _) _
  go_enter Tryd.func6, Tryd.ntmps6
  go_wp2_with fail
  refine (small_yes w.heap.size 1 _ (by decide) HA.out).mono ?_
  rintro e w0 ⟨rfl, rfl⟩
  replace n_a := n_a.below hb
  clear HA
  go_wp2_with fail
  refine (HP.out.1 _).mono ?_
  rintro e w1 ⟨vx, rfl, xx, b1⟩
  replace hb := bnext hb b1
  replace n_a := n_a.below b1
  clear b1
  go_wp2_with fail
  refine (HP.out.2 _).mono ?_
  rintro e w2 ⟨vy, rfl, xy, b1⟩
  replace hb := bnext hb b1
  replace n_a := n_a.below b1
  replace xx := xx.next b1
  clear b1
  go_wp2_with fail
  refine (HT.out.1 _ n_a).mono ?_
  rintro e w3 ⟨rfl, b1⟩
  replace hb := bnext hb b1
  replace n_a := n_a.below b1
  replace xx := xx.next b1
  replace xy := xy.next b1
  clear b1
  go_wp2_with fail
  refine (HT.out.2 _ n_a).mono ?_
  rintro e w4 ⟨rfl, b1⟩
  replace hb := bnext hb b1
  replace xx := xx.next b1
  replace xy := xy.next b1
  clear b1 n_a
  go_wp2_with fail
  refine (same_new _ _ _ _ _ _ xx xy (by omega)).mono ?_
  rintro e w5 ⟨rfl, b1⟩
  replace hb := bnext hb b1
  clear b1 xx xy
  go_wp2_with fail
  refine (lives_yes _).mono ?_
  rintro e w6 ⟨rfl, b1⟩
  replace hb := bnext hb b1
  go_wp2_with fail
  go_ret
  exact ⟨rfl, hb⟩

set_option maxHeartbeats 1600000 in
theorem natTexts_far_small (a0 : Option Addr) (len0 cap0 : Nat) (A : Nat) (s : ByteArray) (nn : Int) (w : World) (n_a : Num w (.slice a0 len0 cap0) A 40) (k0 : len0 ≤ 40) (h1 : 1000 < s.size) (hsz : s.size ≤ 9223372036854775807) :
    Calls Tryd.prog 6 #[.slice a0 len0 cap0, .string s, .int .i64 nn] w fun e w' => e = .returned (.bool true) ∧ Below w.heap.size w w' := by
  have l_a := n_a.lt
  have hall : ∀ i, i < 1 → ∃ A n c, (w.alloc (.cells #[.slice a0 len0 cap0] 22)).cell? ⟨w.heap.size, i, none⟩ = some (.slice A n c) ∧ n ≤ 40 := by
    intro i hi
    obtain rfl : i = 0 := by omega
    · exact ⟨a0, len0, cap0, by simp, k0⟩
  obtain ⟨ok, m, hml, hp1, hp2⟩ := parse_both s nn (by unfold maxLen; omega)
  obtain ⟨T, ht1, ht2⟩ := text_both (.slice a0 len0 cap0) A 40 nn (by decide)
  have HP := Lib.hid (And.intro hp1 hp2)
  have HT := Lib.hid (And.intro ht1 ht2)
  clear hp1 hp2 ht1 ht2
  have HA := Lib.hid hall
  clear hall
  have hb : Below w.heap.size w (w.alloc (.cells #[.slice a0 len0 cap0] 22)) := (Below.refl _ _).alloc (Nat.le_refl _) _
  go_enter Tryd.func6, Tryd.ntmps6
  go_wp2_with fail
  refine (small_yes w.heap.size 1 _ (by decide) HA.out).mono ?_
  rintro e w0 ⟨rfl, rfl⟩
  replace n_a := n_a.below hb
  clear HA
  go_wp2_with fail
  refine (HP.out.1 _).mono ?_
  rintro e w1 ⟨vx, rfl, xx, b1⟩
  replace hb := bnext hb b1
  replace n_a := n_a.below b1
  clear b1
  go_wp2_with fail
  refine (HP.out.2 _).mono ?_
  rintro e w2 ⟨vy, rfl, xy, b1⟩
  replace hb := bnext hb b1
  replace n_a := n_a.below b1
  replace xx := xx.next b1
  clear b1
  go_wp2_with fail
  refine (HT.out.1 _ n_a).mono ?_
  rintro e w3 ⟨rfl, b1⟩
  replace hb := bnext hb b1
  replace n_a := n_a.below b1
  replace xx := xx.next b1
  replace xy := xy.next b1
  clear b1
  go_wp2_with fail
  refine (HT.out.2 _ n_a).mono ?_
  rintro e w4 ⟨rfl, b1⟩
  replace hb := bnext hb b1
  replace xx := xx.next b1
  replace xy := xy.next b1
  clear b1 n_a
  go_wp2_with fail
  refine (same_new _ _ _ _ _ _ xx xy (by omega)).mono ?_
  rintro e w5 ⟨rfl, b1⟩
  replace hb := bnext hb b1
  clear b1 xx xy
  go_wp2_with fail
  refine (lives_yes _).mono ?_
  rintro e w6 ⟨rfl, b1⟩
  replace hb := bnext hb b1
  go_wp2_with fail
  go_ret
  exact ⟨rfl, hb⟩

set_option maxHeartbeats 800000 in
theorem natTexts_big (a0 : Option Addr) (len0 cap0 : Nat) (s : ByteArray) (nn : Int) (w : World) (m0 : len0 ≤ maxLen) (h : 40 < len0)  :
    Calls Tryd.prog 6 #[.slice a0 len0 cap0, .string s, .int .i64 nn] w fun e w' => e = .returned (.bool true) ∧ Below w.heap.size w w' := by
  have hall : ∀ i, i < 1 → ∃ A n c, (w.alloc (.cells #[.slice a0 len0 cap0] 22)).cell? ⟨w.heap.size, i, none⟩ = some (.slice A n c) ∧ n ≤ maxLen := by
    intro i hi
    obtain rfl : i = 0 := by omega
    · exact ⟨a0, len0, cap0, by simp, m0⟩
  obtain ⟨m, hm, hbig⟩ : ∃ m, m < 1 ∧ ∃ A n c, (w.alloc (.cells #[.slice a0 len0 cap0] 22)).cell? ⟨w.heap.size, m, none⟩ = some (.slice A n c) ∧ 40 < n := by
    · exact ⟨0, by omega, a0, len0, cap0, by simp, h⟩
  have HA := Lib.hid (And.intro hall hbig)
  clear hall hbig h m0
  have hb : Below w.heap.size w (w.alloc (.cells #[.slice a0 len0 cap0] 22)) := (Below.refl _ _).alloc (Nat.le_refl _) _
  go_enter Tryd.func6, Tryd.ntmps6
  go_wp2_with fail
  refine (small_no w.heap.size 1 _ (by decide) HA.out.1 m hm HA.out.2).mono ?_
  rintro e w0 ⟨rfl, rfl⟩
  go_wp2_with fail
  refine (lives_yes _).mono ?_
  rintro e w1 ⟨rfl, b1⟩
  go_wp2_with fail
  go_ret
  exact ⟨rfl, bnext hb b1⟩

theorem natTexts_walk (a0 : Option Addr) (len0 cap0 : Nat) (ys0 : List Nat) (s : ByteArray) (nn : Int) (w : World) (s0 : Sl w a0 len0 cap0 ys0) (hs : s.size ≤ maxLen) (_hn : (Lit.int .i64 nn).wf = true) :
    Calls Tryd.prog 6 #[.slice a0 len0 cap0, .string s, .int .i64 nn] w fun e w' => e = .returned (.bool true) ∧ Below w.heap.size w w' := by
  by_cases h : 40 < len0
  · exact natTexts_big a0 len0 cap0 s nn w (Nat.le_trans s0.le s0.max) h
  · have n0 := Num.of_sl s0 (show len0 ≤ 40 by omega)
    by_cases h1 : s.size ≤ 300
    · exact natTexts_in_small _ _ _ _ s nn w n0 (by omega) h1
    · by_cases h2 : s.size ≤ 1000
      · exact natTexts_mid_small _ _ _ _ s nn w n0 (by omega) (by omega) h2
      · exact natTexts_far_small _ _ _ _ s nn w n0 (by omega) (by omega) (by unfold maxLen at hs; omega)
end Go.Proofs.YtbcehgmicgddiaaDoor
