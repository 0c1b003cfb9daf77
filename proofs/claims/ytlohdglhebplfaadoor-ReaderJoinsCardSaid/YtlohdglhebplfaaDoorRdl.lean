/-
  The reader: remarks, and data that are not read.
-/
import Derived.Test.YtlohdglhebplfaaDoorRdk
import Derived.Test.YtlohdglhebplfaaDoorRdm
namespace Go.Proofs.YtlohdglhebplfaaDoor
open Go.RowKit

/-- Whoever reads a datum with so much text left, at most, keeps what it promises. -/
def DatC (s : ByteArray) (R L : Nat) : Prop := ∀ (p k : Nat) (w : World), s.size - p ≤ L → p ≤ s.size → k + (s.size - p) ≤ 40000 → Rdr w R s p 0 k → Tabs w → Calls Tryd.prog 12 #[.pointer (some ⟨R, 0, none⟩)] w fun E w' => ∃ r, Rdd .datum (rsB s p) k r ∧ DatPost s R p k w r E w'
/-- What one that skips hands back. -/
def SkPost (s : ByteArray) (R p k : Nat) (w : World) (r : Res) (E : Ending) (w' : World) : Prop := Kept R w w' ∧ match r with
  | .ok d l => d = zeroD ∧ ∃ q : Nat, p ≤ q ∧ q ≤ s.size ∧ l = rsB s q ∧ E = .returned (.bool true) ∧ Rdr w' R s q 0 k
  | .bad e l => ∃ q : Nat, q ≤ s.size ∧ l = rsB s q ∧ E = .returned (.bool false) ∧ Rdr w' R s q e k
def SkipC (s : ByteArray) (R L : Nat) : Prop := ∀ (p k : Nat) (w : World), s.size - p ≤ L → p ≤ s.size → k + (s.size - p) ≤ 40000 → Rdr w R s p 0 k → Tabs w → Calls Tryd.prog 17 #[.pointer (some ⟨R, 0, none⟩)] w fun E w' => ∃ r, Rdd .skip (rsB s p) k r ∧ SkPost s R p k w r E w'

section
variable {w : World} {R p k L : Nat} {s : ByteArray}
set_option maxRecDepth 100000 in
set_option maxHeartbeats 6400000 in
theorem skipDatum_from (hD : DatC s R L) (hR : Off R) (hs : s.size ≤ 16384) (h : Rdr w R s p 0 k) (ht : Tabs w) (hp : p + 2 ≤ s.size) (hL : s.size - (p + 2) ≤ L) (hk : k + (s.size - p) ≤ 40000) :
    Calls Tryd.prog 37 #[.pointer (some ⟨R, 0, none⟩)] w fun E w' => ∃ r, Rdd .datum (rsB s (p + 2)) (k + 1) r ∧ Kept R w w' ∧ match r with
      | .ok _ l => ∃ q : Nat, p + 2 ≤ q ∧ q ≤ s.size ∧ l = rsB s q ∧ E = .returned (.bool true) ∧ Rdr w' R s q 0 k
      | .bad e l => ∃ q : Nat, q ≤ s.size ∧ l = rsB s q ∧ E = .returned (.bool false) ∧ Rdr w' R s q e k := by
  have h1 := h.set1 (q := p + 2) ((p : Int) + 2) (by omega)
  have h2 := h1.set3 (j := k + 1) ((k : Int) + 1) (by omega)
  obtain ⟨c0, c1, c2, c3⟩ := h.c
  obtain ⟨f1, f2, f3⟩ := h.f
  obtain ⟨c4, c5, c6, c7⟩ := h1.c
  obtain ⟨f4, f5, f6⟩ := h1.f
  have hk2 : Kept R w ((w.setCell ⟨R, 1, none⟩ (.int .i64 ((p : Int) + 2))).setCell ⟨R, 3, none⟩ (.int .i64 ((k : Int) + 1))) := ((Kept.rfl' R w).set _ _ rfl).set _ _ rfl
  have H := Lib.hid (And.intro hk2 (hD (p + 2) (k + 1) _ hL hp (by omega) h2 (ht.kept hR hk2)))
  clear h h1 h2 hk2 ht hD
  go_enter Tryd.func37, Tryd.ntmps37
  go_wp2_with fail
  refine H.out.2.mono ?_
  rintro E w' ⟨r, hr, hkw, hpost⟩
  have HR := Lib.hid (And.intro hr (H.out.1.trans hkw))
  clear hr hkw c0 c1 c2 c3 c4 c5 c6 c7 f1 f2 f3 f4 f5 f6
  cases r with
  | ok d l =>
    obtain ⟨q, u, hpq, hq, rfl, rfl, _, _, _, _, hr⟩ := hpost
    have HQ0 := Lib.hid hr
    have hra := hr.alloc (Obj.cells #[.int .i64 u.k, .bool u.g, .slice u.la u.ln u.lc, .bool u.bb, .string u.s, .slice u.ia u.items.length u.ic, .slice u.ta u.tail.length u.tc] 36)
    obtain ⟨c0, c1, c2, c3⟩ := hra.c
    obtain ⟨f1, f2, f3⟩ := hra.f
    have HQ := Lib.hid hra
    clear hr hra
    go_wp2_with fail
    go_ret
    refine ⟨_, HR.out.1, ?_, q, by omega, hq, rfl, rfl, ?_⟩
    · first | exact (Kept.onto HR.out.2 ((Below.refl _ w').alloc (Nat.le_refl _) _)).set _ _ rfl | exact (Kept.set HR.out.2 _ _ rfl).onto ((Below.refl _ _).alloc (Nat.le_refl _) _)
    · first | exact HQ.out.set3 _ (by omega) | exact (HQ0.out.set3 _ (by omega)).alloc _
  | bad e l =>
    obtain ⟨q, hq, rfl, rfl, hr⟩ := hpost
    have HQ0 := Lib.hid hr
    have hra := hr.alloc (Obj.cells #[.int .i64 0, .bool false, .slice none 0 0, .bool false, .string ⟨#[]⟩, .slice none 0 0, .slice none 0 0] 36)
    obtain ⟨c0, c1, c2, c3⟩ := hra.c
    obtain ⟨f1, f2, f3⟩ := hra.f
    have HQ := Lib.hid hra
    clear hr hra
    go_wp2_with fail
    go_ret
    refine ⟨_, HR.out.1, ?_, q, hq, rfl, rfl, ?_⟩
    · first | exact (Kept.onto HR.out.2 ((Below.refl _ w').alloc (Nat.le_refl _) _)).set _ _ rfl | exact (Kept.set HR.out.2 _ _ rfl).onto ((Below.refl _ _).alloc (Nat.le_refl _) _)
    · first | exact HQ.out.set3 _ (by omega) | exact (HQ0.out.set3 _ (by omega)).alloc _
theorem stop_here {q : Nat} (hq : q < s.size) (h1 : isBl s[q] = false) (h2 : s[q] ≠ 59) (h3 : ¬ At2 s q 35 124) (h4 : ¬ At2 s q 35 59) : stopL (rsB s q) = true := by
  have e : s.data.toList[q]? = some s[q] := List.getElem?_eq_getElem (by simpa using hq)
  rw [rsB_cons hq]
  simp only [stopL, Bool.and_eq_true, Bool.not_eq_true', Bool.and_eq_false_iff, Bool.or_eq_false_iff, beq_eq_false_iff_ne, ne_eq]
  refine ⟨⟨h1, h2⟩, ?_⟩
  by_cases h5 : s[q] = 35
  · exact .inr ⟨fun h => h3 ⟨by rw [e, h5], by rw [← rsB_head]; exact h⟩, fun h => h4 ⟨by rw [e, h5], by rw [← rsB_head]; exact h⟩⟩
  · exact .inl h5
set_option maxRecDepth 100000 in
set_option maxHeartbeats 12800000 in
theorem skip_from (hD : DatC s R L) (hR : Off R) (hs : s.size ≤ 16384) : SkipC s R (L + 1) := by
  intro p k w hL hp hk h ht
  have H := Lib.hid (And.intro h (And.intro ht hD))
  clear h ht hD
  go_enter Tryd.func17, Tryd.ntmps17
  go_wp2_with fail
  go_loopg [] (s.size - p) (fun g wr => ∃ q : Nat, p ≤ q ∧ q ≤ s.size ∧ g = s.size - q ∧ Hid (Rdr wr R s q 0 k ∧ Kept R w wr ∧ ∀ res, Rdd .skip (rsB s q) k res → Rdd .skip (rsB s p) k res))
  case atStart => exact ⟨p, Nat.le_refl _, hp, rfl, Lib.hid ⟨H.out.1, Kept.rfl' R w, fun _ h => h⟩⟩
  case round =>
    obtain ⟨q, hpq, hq, rfl, HR⟩ := hrel
    obtain ⟨c0, c1, c2, c3⟩ := HR.out.1.c
    by_cases hlt : q < s.size
    · go_wp2_with fail
      go_quiet (fail)
      have hr1 := And.intro (HR.out.1.drewN nq) (And.intro (HR.out.2.1.drewN nq) HR.out.2.2)
      generalize wr.drewN nq = W1 at *
      clear HR c0 c1 c2 c3
      obtain ⟨c0, c1, c2, c3⟩ := hr1.1.c
      have HR := Lib.hid hr1
      clear hr1
      go_wp2_with fail
      go_quiet (fail)
      have hr1 := And.intro (HR.out.1.drewN nq) (And.intro (HR.out.2.1.drewN nq) HR.out.2.2)
      generalize W1.drewN nq = W2 at *
      clear HR c0 c1 c2 c3
      obtain ⟨c0, c1, c2, c3⟩ := hr1.1.c
      obtain ⟨f1, f2, f3⟩ := hr1.1.f
      have HR := Lib.hid hr1
      clear hr1
      have hpos : 0 < (s.extract q s.size).size := by rw [ByteArray.size_extract]; omega
      have hb0 : (s.extract q s.size)[0] = s[q] := by
        have e1 : (s.extract q s.size).data.toList[0]? = some (s.extract q s.size)[0] := List.getElem?_eq_getElem (by simpa using hpos)
        rw [rsB_extract, rsB_cons hlt] at e1
        exact (Option.some.inj e1).symm
      have hib : Calls Tryd.prog 33 #[.int .u8 ((s.extract q s.size)[0].toNat : Int)] W2 fun e w' => e = .returned (.bool (isBl s[q])) ∧ W2 = w' := by rw [← hb0]; exact isBlank_any _ W2
      have hp1 := prefix_any (s.extract q s.size) ⟨#[35, 124]⟩ W2
      have hp2 := prefix_any (s.extract q s.size) ⟨#[35, 59]⟩ W2
      have hxe : (⟨#[35, 124]⟩ : ByteArray).data.toList = [35, 124] := rfl
      have hxe2 : (⟨#[35, 59]⟩ : ByteArray).data.toList = [35, 59] := rfl
      rw [hxe] at hp1
      rw [hxe2] at hp2
      have h1y := fun h : At2 s q 35 124 => h.yes
      have h1n := fun h : ¬ At2 s q 35 124 => At2.no h
      have h2y := fun h : At2 s q 35 59 => h.yes
      have h2n := fun h : ¬ At2 s q 35 59 => At2.no h
      have hcons := rsB_cons hlt
      generalize s.extract q s.size = t at *
      cases hbl : isBl s[q] with
      | true =>
        rw [hbl] at hib
        have HB := Lib.hid hib
        have HN := Lib.hid (show ∀ res, Rdd .skip (rsB s (q + 1)) k res → Rdd .skip (rsB s p) k res from fun res h => HR.out.2.2 res (by rw [hcons]; exact .bl hbl h))
        clear hib hp1 hp2 hxe hxe2 h1y h1n h2y h2n hcons hb0 hbl
        go_wp2_with (go_at_call 33; refine HB.out.mono ?_; rintro E w' ⟨rfl, rfl⟩)
        go_roundg (s.size - (q + 1))
        case measure => omega
        case rel => exact ⟨q + 1, by omega, by omega, rfl, Lib.hid ⟨HR.out.1.set1 _ (by omega), HR.out.2.1.set _ _ rfl, HN.out⟩⟩
      | false =>
        rw [hbl] at hib
        have HB := Lib.hid hib
        by_cases h59 : s[q] = 59
        · have hbe : ((t[0].toNat : Int) == 59) = true := by rw [hb0, h59]; rfl
          have HL := Lib.hid (skipLine_any HR.out.1 (by omega) hs)
          have HC := Lib.hid (show rsB s q = 59 :: rsB s (q + 1) by rw [hcons, h59])
          clear hib hp1 hp2 hxe hxe2 h1y h1n h2y h2n hcons hb0 hbl h59
          go_wp2_with (first | (go_at_call 33; refine HB.out.mono ?_; rintro E w' ⟨rfl, rfl⟩) | (go_at_call 34; refine HL.out.mono ?_; rintro E w' ⟨⟨v, rfl⟩, q2, hq2, hq3, hq4, hr2, hk2⟩; have HQ := Lib.hid (And.intro hr2 (And.intro hk2 hq4)); clear hr2 hk2 hq4))
          have hle : q + 1 ≤ q2 := by
            have h1 := congrArg List.length HQ.out.2.2
            rw [HC.out, lineL_cons (by decide), rsB_len] at h1
            have h2 : (lineL (rsB s (q + 1))).length ≤ (rsB s (q + 1)).length := by have := drop_take_len (fun c => c != 10) (rsB s (q + 1)); unfold lineL; omega
            rw [rsB_len] at h2
            omega
          go_roundg (s.size - q2)
          case measure => omega
          case rel => exact ⟨q2, by omega, hq3, rfl, Lib.hid ⟨HQ.out.1, HR.out.2.1.trans HQ.out.2.1, fun res h => HR.out.2.2 res (by rw [HC.out]; refine .line ?_; have e := HQ.out.2.2; rw [HC.out, lineL_cons (by decide)] at e; rw [← e]; exact h)⟩⟩
        · have hbe : ((t[0].toNat : Int) == 59) = false := by rw [hb0]; exact byte_ne (b := 59) h59
          by_cases ha1 : At2 s q 35 124
          · rw [h1y ha1] at hp1
            have H1 := Lib.hid hp1
            have HS := Lib.hid (skipBlock_any HR.out.1 hs ha1)
            have HC := Lib.hid ha1.rest
            clear hib hp1 hp2 hxe hxe2 h1y h1n h2y h2n hcons hb0 hbl h59 ha1
            go_wp2_with (first | (go_at_call 33; refine HB.out.mono ?_; rintro E w' ⟨rfl, rfl⟩) | (go_at_call 35; refine H1.out.mono ?_; rintro E w' ⟨rfl, rfl⟩))
            refine HS.out.mono ?_
            rintro E w' ⟨hk2, ⟨q2, hq2, hq3, hq4, rfl, hr2⟩ | ⟨hq4, rfl, hr2⟩⟩
            · have HQ := Lib.hid (And.intro hr2 (And.intro hk2 hq4))
              clear hr2 hk2 hq4
              go_wp2_with fail
              go_roundg (s.size - q2)
              case measure => omega
              case rel => exact ⟨q2, by omega, hq3, rfl, Lib.hid ⟨HQ.out.1, HR.out.2.1.trans HQ.out.2.1, fun res h => HR.out.2.2 res (by rw [HC.out]; exact .block HQ.out.2.2 h)⟩⟩
            · have HQ := Lib.hid (And.intro hr2 (And.intro hk2 hq4))
              clear hr2 hk2 hq4
              go_wp2_with fail
              go_ret
              exact ⟨.bad errRead (rsB s q), HR.out.2.2 _ (by rw [HC.out]; exact .noblock HQ.out.2.2), HR.out.2.1.trans HQ.out.2.1, q, hq, rfl, rfl, HQ.out.1⟩
          · rw [h1n ha1] at hp1
            have H1 := Lib.hid hp1
            by_cases ha2 : At2 s q 35 59
            · rw [h2y ha2] at hp2
              have H2 := Lib.hid hp2
              have hlt2 := ha2.lt
              have HS := Lib.hid (skipDatum_from H.out.2.2 hR hs HR.out.1 (H.out.2.1.kept hR HR.out.2.1) (by omega) (by omega) (by omega))
              have HC := Lib.hid ha2.rest
              clear hib hp1 hp2 hxe hxe2 h1y h1n h2y h2n hcons hb0 hbl h59 ha1 ha2
              go_wp2_with (first | (go_at_call 33; refine HB.out.mono ?_; rintro E w' ⟨rfl, rfl⟩) | (go_at_call 35; first | (refine H1.out.mono ?_; rintro E w' ⟨rfl, rfl⟩) | (refine H2.out.mono ?_; rintro E w' ⟨rfl, rfl⟩)))
              refine HS.out.mono ?_
              rintro E w' ⟨r, hrd, hk2, hpost⟩
              cases r with
              | ok d l =>
                obtain ⟨q2, hq2, hq3, rfl, rfl, hr2⟩ := hpost
                have HQ := Lib.hid (And.intro hr2 (And.intro hk2 hrd))
                clear hr2 hk2 hrd
                go_wp2_with fail
                go_roundg (s.size - q2)
                case measure => omega
                case rel => exact ⟨q2, by omega, hq3, rfl, Lib.hid ⟨HQ.out.1, HR.out.2.1.trans HQ.out.2.1, fun res h => HR.out.2.2 res (by rw [HC.out]; exact .unread HQ.out.2.2 h)⟩⟩
              | bad e l =>
                obtain ⟨q2, hq3, rfl, rfl, hr2⟩ := hpost
                have HQ := Lib.hid (And.intro hr2 (And.intro hk2 hrd))
                clear hr2 hk2 hrd
                go_wp2_with fail
                go_ret
                exact ⟨.bad e (rsB s q2), HR.out.2.2 _ (by rw [HC.out]; exact .nounread HQ.out.2.2), HR.out.2.1.trans HQ.out.2.1, q2, hq3, rfl, rfl, HQ.out.1⟩
            · rw [h2n ha2] at hp2
              have H2 := Lib.hid hp2
              have HE := Lib.hid (stop_here hlt hbl h59 ha1 ha2)
              clear hib hp1 hp2 hxe hxe2 h1y h1n h2y h2n hcons hb0 hbl h59 ha1 ha2
              go_wp2_with (first | (go_at_call 33; refine HB.out.mono ?_; rintro E w' ⟨rfl, rfl⟩) | (go_at_call 35; first | (refine H1.out.mono ?_; rintro E w' ⟨rfl, rfl⟩) | (refine H2.out.mono ?_; rintro E w' ⟨rfl, rfl⟩)))
              go_ret
              exact ⟨.ok zeroD (rsB s q), HR.out.2.2 _ (.stop HE.out), HR.out.2.1, rfl, q, hpq, hq, rfl, rfl, HR.out.1⟩
    · obtain rfl : q = s.size := by omega
      go_wp2_with fail
      go_quiet (fail)
      go_wp2_with fail
      go_ret
      exact ⟨.ok zeroD [], HR.out.2.2 _ (by rw [rsB_end (Nat.le_refl _)]; exact .nil), HR.out.2.1.drewN nq, rfl, s.size, hpq, hq, (rsB_end (Nat.le_refl _)).symm, rfl, HR.out.1.drewN nq⟩
end
end Go.Proofs.YtlohdglhebplfaaDoor
