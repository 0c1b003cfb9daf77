/-
  The reader: an escape, whichever.
-/
import Derived.Test.YtlohdglhebplfaaGreatDoorRdg
namespace Go.Proofs.YtlohdglhebplfaaGreatDoor
open Go.RowKit

theorem byte_is {a b : UInt8} (h : a = b) : ((a.toNat : Int) == (b.toNat : Int)) = true := by subst h; simp
theorem escL_one {mark : UInt8} {l : By} (h : l[1]? = none) : escL mark l = none := by simp [escL, h]
theorem escL_two {mark c : UInt8} {l : By} (h : l[1]? = some c) : escL mark l = if c = 110 then some ([10], 2) else if c = 116 then some ([9], 2) else if c = 114 then some ([13], 2) else if c = mark ∨ c = 92 then some ([c], 2) else if c = 120 then hexL (l.drop 2) else if brokenL l = 0 then none else some ([], brokenL l) := by
  unfold escL; rw [h]
set_option maxRecDepth 100000 in
set_option maxHeartbeats 3200000 in
theorem escaped_any (s : ByteArray) (h1 : 1 ≤ s.size) (hs : s.size ≤ 16384) (mark : UInt8) (w : World) : Calls Tryz.prog 211 #[.string s, .int .u8 (mark.toNat : Int)] w fun e w' => EscPost (escL mark s.data.toList) e ∧ Below w.heap.size w w' := by
  by_cases h2 : s.size = 1
  · have HE := Lib.hid (escL_one (mark := mark) (l := s.data.toList) (List.getElem?_eq_none (by simp; omega)))
    have hb : ((s.size : Int) == 1) = true := by rw [h2]; rfl
    clear h2
    go_enter Tryz.func211, Tryz.ntmps211
    go_wp2_with fail
    go_ret2
    exact ⟨by rw [HE.out]; rfl, Below.refl _ _⟩
  · have hlt : 1 < s.size := by omega
    have hb : ((s.size : Int) == 1) = false := beq_false_of_ne (by omega)
    have hat : s.data.toList[1]? = some s[1] := List.getElem?_eq_getElem (by simpa using hlt)
    have he := escL_two (mark := mark) hat
    have hc := conv_one s[1] w
    have hn := escapedNumber_any s (by omega) hs w
    have hbr := brokenLine_any s h1 hs w
    clear h2
    by_cases a1 : s[1] = 110
    · have b1 : ((s[1].toNat : Int) == 110) = true := byte_is a1
      have HE := Lib.hid (he.trans (if_pos a1))
      have HN := Lib.hid (And.intro hn hbr)
      clear he hn hbr hc hat a1
      go_enter Tryz.func211, Tryz.ntmps211
      go_wp2_with fail
      go_ret2
      exact ⟨by rw [HE.out]; rfl, Below.refl _ _⟩
    · have b1 : ((s[1].toNat : Int) == 110) = false := byte_ne (b := 110) a1
      have he := he.trans (if_neg a1)
      by_cases a2 : s[1] = 116
      · have b2 : ((s[1].toNat : Int) == 116) = true := byte_is a2
        have HE := Lib.hid (he.trans (if_pos a2))
        have HN := Lib.hid (And.intro hn hbr)
        clear he hn hbr hc hat a2
        go_enter Tryz.func211, Tryz.ntmps211
        go_wp2_with fail
        go_ret2
        exact ⟨by rw [HE.out]; rfl, Below.refl _ _⟩
      · have b2 : ((s[1].toNat : Int) == 116) = false := byte_ne (b := 116) a2
        have he := he.trans (if_neg a2)
        by_cases a3 : s[1] = 114
        · have b3 : ((s[1].toNat : Int) == 114) = true := byte_is a3
          have HE := Lib.hid (he.trans (if_pos a3))
          have HN := Lib.hid (And.intro hn hbr)
          clear he hn hbr hc hat a3
          go_enter Tryz.func211, Tryz.ntmps211
          go_wp2_with fail
          go_ret2
          exact ⟨by rw [HE.out]; rfl, Below.refl _ _⟩
        · have b3 : ((s[1].toNat : Int) == 114) = false := byte_ne (b := 114) a3
          have he := he.trans (if_neg a3)
          by_cases am : s[1] = mark
          · have bm : ((s[1].toNat : Int) == (mark.toNat : Int)) = true := byte_is am
            have HE := Lib.hid (he.trans (if_pos (.inl am)))
            have HN := Lib.hid (And.intro hn hbr)
            clear he hn hbr hat am
            go_enter Tryz.func211, Tryz.ntmps211
            go_wp2_with fail
            go_ret2
            exact ⟨by rw [HE.out]; rfl, (Below.refl _ w).alloc (Nat.le_refl _) _⟩
          · have bm : ((s[1].toNat : Int) == (mark.toNat : Int)) = false := byte_ne am
            by_cases ak : s[1] = 92
            · have bk : ((s[1].toNat : Int) == 92) = true := byte_is ak
              have HE := Lib.hid (he.trans (if_pos (.inr ak)))
              have HN := Lib.hid (And.intro hn hbr)
              clear he hn hbr hat am ak
              go_enter Tryz.func211, Tryz.ntmps211
              go_wp2_with fail
              go_ret2
              exact ⟨by rw [HE.out]; rfl, (Below.refl _ w).alloc (Nat.le_refl _) _⟩
            · have bk : ((s[1].toNat : Int) == 92) = false := byte_ne (b := 92) ak
              by_cases ax : s[1] = 120
              · have bx : ((s[1].toNat : Int) == 120) = true := byte_is ax
                have HE := Lib.hid ((he.trans (if_neg (by rintro (h | h); exact am h; exact ak h))).trans (if_pos ax))
                cases hx : hexL (s.data.toList.drop 2) with
                | none =>
                  rw [hx] at hn HE
                  have HN := Lib.hid hn
                  clear he hn hbr hc hat am ak ax hx
                  go_enter Tryz.func211, Tryz.ntmps211
                  go_wp2_with (go_at_call 240; refine HN.out.mono ?_; rintro E w' ⟨hE, hw⟩; obtain rfl : E = _ := hE)
                  go_ret2
                  exact ⟨by rw [HE.out]; rfl, hw⟩
                | some bk2 =>
                  obtain ⟨bb, kk⟩ := bk2
                  rw [hx] at hn HE
                  have HN := Lib.hid hn
                  clear he hn hbr hc hat am ak ax hx
                  go_enter Tryz.func211, Tryz.ntmps211
                  go_wp2_with (go_at_call 240; refine HN.out.mono ?_; rintro E w' ⟨hE, hw⟩; obtain rfl : E = _ := hE)
                  go_ret2
                  exact ⟨by rw [HE.out]; rfl, hw⟩
              · have bx : ((s[1].toNat : Int) == 120) = false := byte_ne (b := 120) ax
                have HE := Lib.hid ((he.trans (if_neg (by rintro (h | h); exact am h; exact ak h))).trans (if_neg ax))
                generalize brokenL s.data.toList = nb at *
                have HN := Lib.hid hbr
                clear he hn hbr hc hat am ak ax
                go_enter Tryz.func211, Tryz.ntmps211
                go_wp2_with (go_at_call 241; refine HN.out.mono ?_; rintro E w' ⟨rfl, hw⟩)
                go_ret2
                refine ⟨?_, hw⟩
                rw [HE.out]
                by_cases h0 : nb = 0
                · rw [if_pos h0, h0]; rfl
                · rw [if_neg h0]; rfl
end Go.Proofs.YtlohdglhebplfaaGreatDoor
