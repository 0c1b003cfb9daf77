/-
  The reader: what stands between two marks.
-/
import Derived.Test.YtlohdglhebplfaaGreatDoorRdh
import Derived.Test.YtlohdglhebplfaaGreatDoorBld
import Derived.StillTailTactics
import Derived.Deep.RegionWith
namespace Go.Proofs.YtlohdglhebplfaaGreatDoor
open Go.RowKit

theorem Bl.keep {B b : Nat} {l : List UInt8} {w w' : World} (h : Bl B b l w) (hk : ∀ i, B ≤ i → i < w.heap.size → w'.heap[i]? = w.heap[i]?) : Bl B b l w' := by
  have lt : ∀ {i : Nat} {o : Obj}, w.heap[i]? = some o → i < w.heap.size := fun e => (Array.getElem?_eq_some_iff.1 e).1
  have one : ∀ {p : Value}, Lib.BuilderAtF 109 5 B b p (Lib.byteCells l) w → Lib.BuilderAtF 109 5 B b p (Lib.byteCells l) w' := by
    rintro p ⟨hB, v, hb, hown, hne⟩
    refine ⟨hB, v, (hk b hB (lt hb)).trans hb, ⟨hown.1, ?_⟩, hne⟩
    rcases hown.2 with hn | ⟨g, cap, cur, fz, hv, hbg, hg, rest⟩
    · exact .inl hn
    · exact .inr ⟨g, cap, cur, fz, hv, hbg, (hk g hbg (lt hg)).trans hg, rest⟩
  exact h.elim (fun x => .inl (one x)) (fun x => .inr (one x))
theorem Bl.set {B b : Nat} {l : List UInt8} {w : World} (h : Bl B b l w) (a : Addr) (ha : a.block < B) (v : Value) : Bl B b l (w.setCell a v) :=
  h.keep fun i hi _ => Below.heap_setCell w a v i (by omega)
theorem Bl.drewN {B b : Nat} {l : List UInt8} {w : World} (h : Bl B b l w) (n : Nat) : Bl B b l (w.drewN n) := h.keep fun _ _ _ => rfl
theorem Bl.onto {B b : Nat} {l : List UInt8} {w w' : World} (h : Bl B b l w) (hb : Below w.heap.size w w') : Bl B b l w' := h.keep fun i _ hi => hb.block i hi
theorem Kept.below {R B : Nat} {a b c : World} (h : Kept R a b) (hb : Below B b c) (hB : a.heap.size ≤ B) : Kept R a c := ⟨Nat.le_trans h.1 hb.size, fun k hk hR => (hb.block k (by omega)).trans (h.2.block k hk hR), hb.os.trans h.2.os, hb.tape.trans h.2.tape, hb.output.trans h.2.output⟩

theorem hexL_bounds {l b : By} {k : Nat} (h : hexL l = some (b, k)) : b.length = 1 ∧ 4 ≤ k ∧ k ≤ l.length + 2 := by
  unfold hexL at h
  split at h
  · cases h
  · split at h
    · cases h
    · split at h
      · cases h
      · split at h
        · cases h; simp
        · split at h
          · cases h
          · split at h
            · cases h
            · split at h
              · cases h; simp
              · cases h
theorem brokenL_le (l : By) (hl : 1 ≤ l.length) : brokenL l = 0 ∨ (2 ≤ brokenL l ∧ brokenL l ≤ l.length) := by
  unfold brokenL
  split
  · rename_i h
    have h1 := (List.getElem?_eq_some_iff.1 h).1
    have h2 := blanksL_le (l.drop (1 + blanksL (l.drop 1) + 1))
    rw [List.length_drop] at h2
    exact .inr ⟨by omega, by omega⟩
  · exact .inl rfl
theorem escL_bounds {mark : UInt8} {l b : By} {k : Nat} (h : escL mark l = some (b, k)) : b.length ≤ 1 ∧ 2 ≤ k ∧ k ≤ l.length := by
  unfold escL at h
  split at h
  · cases h
  · rename_i c hc
    have hl : 1 < l.length := (List.getElem?_eq_some_iff.1 hc).1
    split at h
    · cases h; simp; omega
    · split at h
      · cases h; simp; omega
      · split at h
        · cases h; simp; omega
        · split at h
          · cases h; simp; omega
          · split at h
            · have := hexL_bounds h
              rw [List.length_drop] at this
              omega
            · split at h
              · cases h
              · have h1 := brokenL_le l (by omega)
                cases h
                simp
                omega
theorem mkL_nil (n : Nat) (mark : UInt8) (acc : By) : mkL (n + 1) mark acc [] = (none, []) := by rw [mkL]
theorem mkL_end (n : Nat) (mark : UInt8) (acc l : By) : mkL (n + 1) mark acc (mark :: l) = (some acc, l) := by rw [mkL, if_pos rfl]
theorem mkL_esc (n : Nat) (mark c : UInt8) (acc l : By) (h : c ≠ mark) (hc : c = 92) : mkL (n + 1) mark acc (c :: l) = match escL mark (c :: l) with | none => (none, c :: l) | some (s, k) => mkL n mark (acc ++ s) ((c :: l).drop k) := by rw [mkL, if_neg h, if_pos hc]; rfl
theorem mkL_byte (n : Nat) (mark c : UInt8) (acc l : By) (h : c ≠ mark) (hc : c ≠ 92) : mkL (n + 1) mark acc (c :: l) = mkL n mark (acc ++ [c]) l := by rw [mkL, if_neg h, if_neg hc]

/-- What a call tells of what stands between two marks. -/
def MkPost (s : ByteArray) (R k : Nat) (x : Int) (r : Option By × By) (E : Ending) (w' : World) : Prop := ∃ q, q ≤ s.size ∧ r.2 = rsB s q ∧ match r.1 with
  | none => E = .returned (.tuple #[.string ⟨#[]⟩, .bool false]) ∧ Rdr w' R s q 4 k
  | some l => E = .returned (.tuple #[.string (bytesOf l), .bool true]) ∧ Rdr w' R s q x k
section
variable {w : World} {R p k : Nat} {s : ByteArray} {x : Int}
set_option maxRecDepth 100000 in
set_option maxHeartbeats 12800000 in
theorem marked_any (h : Rdr w R s p x k) (hp : p < s.size) (hs : s.size ≤ 16384) (mark : UInt8) : Calls Tryz.prog 168 #[.pointer (some ⟨R, 0, none⟩), .int .u8 (mark.toNat : Int)] w fun E w' =>
    Kept R w w' ∧ MkPost s R k x (mkL (s.size - p + 1) mark [] (rsB s (p + 1))) E w' := by
  have hRl := h.lt
  have hz1 := h.alloc (.cells #[.pointer none, .slice none 0 0] 109)
  have hbl := Bl.fresh w
  obtain ⟨c0, c1, c2, c3⟩ := hz1.c
  obtain ⟨f1, f2, f3⟩ := hz1.f
  have hs1 := h.set1 (q := p + 1) ((p : Int) + 1) (by omega)
  have hb1 := Bl.fresh (w.setCell ⟨R, 1, none⟩ (.int .i64 ((p : Int) + 1)))
  rw [World.size_setCell] at hb1
  have H := Lib.hid (And.intro (hs1.alloc (.cells #[.pointer none, .slice none 0 0] 109)) (And.intro hb1 ((((Kept.rfl' R w).set ⟨R, 1, none⟩ (.int .i64 ((p : Int) + 1)) rfl).onto ((Below.refl _ _).alloc (Nat.le_refl _) (.cells #[.pointer none, .slice none 0 0] 109)) : Kept R w _))))
  clear h hz1 hbl hs1 hb1
  go_enter Tryz.func168, Tryz.ntmps168
  go_wp2_with fail
  have HI : Hid (Rdr ((w.setCell ⟨R, 1, none⟩ (.int .i64 ((p : Int) + 1))).alloc (.cells #[.pointer none, .slice none 0 0] 109)) R s (p + 1) x k ∧ Bl w.heap.size w.heap.size [] ((w.setCell ⟨R, 1, none⟩ (.int .i64 ((p : Int) + 1))).alloc (.cells #[.pointer none, .slice none 0 0] 109)) ∧ Kept R w ((w.setCell ⟨R, 1, none⟩ (.int .i64 ((p : Int) + 1))).alloc (.cells #[.pointer none, .slice none 0 0] 109))) := Lib.hid H.out
  clear c0 c1 c2 c3 f1 f2 f3 H
  go_loopg [] (s.size - (p + 1)) (fun g wr => ∃ (q f : Nat) (acc : By), q ≤ s.size ∧ s.size - q + 1 ≤ f ∧ g = s.size - q ∧ acc.length ≤ q ∧ Hid (Rdr wr R s q x k ∧ Bl w.heap.size w.heap.size acc wr ∧ Kept R w wr ∧ mkL (s.size - p + 1) mark [] (rsB s (p + 1)) = mkL f mark acc (rsB s q)))
  case atStart => exact ⟨p + 1, s.size - p + 1, [], by omega, by omega, by omega, by simp, Lib.hid ⟨HI.out.1, HI.out.2.1, HI.out.2.2, rfl⟩⟩
  case round =>
    obtain ⟨q, f, acc, hq, hf, rfl, hacc, HR⟩ := hrel
    obtain ⟨f, rfl⟩ : ∃ f', f = f' + 1 := ⟨f - 1, by omega⟩
    obtain ⟨c0, c1, c2, c3⟩ := HR.out.1.c
    by_cases hlt : q < s.size
    · go_wp2_with fail
      go_quiet (fail)
      have hr1 := And.intro (HR.out.1.drewN nq) (And.intro (HR.out.2.1.drewN nq) (And.intro (HR.out.2.2.1.drewN nq) HR.out.2.2.2))
      generalize wr.drewN nq = W1 at *
      clear HR c0 c1 c2 c3
      obtain ⟨c0, c1, c2, c3⟩ := hr1.1.c
      have HR := Lib.hid hr1
      clear hr1
      go_wp2_with fail
      go_quiet (fail)
      have hr1 := And.intro (HR.out.1.drewN nq) (And.intro (HR.out.2.1.drewN nq) (And.intro (HR.out.2.2.1.drewN nq) HR.out.2.2.2))
      generalize W1.drewN nq = W2 at *
      clear HR c0 c1 c2 c3
      obtain ⟨c0, c1, c2, c3⟩ := hr1.1.c
      obtain ⟨f1, f2, f3⟩ := hr1.1.f
      have HR := Lib.hid hr1
      have hw2 := hr1.2.2.1.1
      clear hr1
      by_cases hm : s[q] = mark
      · have bm : ((s[q].toNat : Int) == (mark.toNat : Int)) = true := byte_is hm
        have HE := Lib.hid (show mkL (s.size - p + 1) mark [] (rsB s (p + 1)) = (some acc, rsB s (q + 1)) by rw [HR.out.2.2.2, rsB_cons hlt, hm, mkL_end])
        have HS := Lib.hid (And.intro (HR.out.1.set1 (q := q + 1) ((q : Int) + 1) (by omega)) (And.intro (HR.out.2.1.set ⟨R, 1, none⟩ (by show R < w.heap.size; exact hRl) (.int .i64 ((q : Int) + 1))) (HR.out.2.2.1.set ⟨R, 1, none⟩ (.int .i64 ((q : Int) + 1)) rfl)))
        have HB := Lib.hid (built w.heap.size w.heap.size acc _ HS.out.2.1 (by show w.heap.size ≤ _; rw [World.size_setCell]; exact hw2))
        clear hm
        go_wp2_with (go_at_call 77; refine HB.out.mono ?_; rintro E w' ⟨rfl, h1, h2, h3⟩)
        go_ret2
        exact ⟨HS.out.2.2.below h2 (Nat.le_refl _), q + 1, by omega, by rw [HE.out], by rw [HE.out]; exact ⟨rfl, HS.out.1.next h2 hRl⟩⟩
      · have bm : ((s[q].toNat : Int) == (mark.toNat : Int)) = false := byte_ne hm
        by_cases hk : s[q] = 92
        · have bk : ((s[q].toNat : Int) == 92) = true := byte_is hk
          have HE := Lib.hid (show mkL (s.size - p + 1) mark [] (rsB s (p + 1)) = _ from by rw [HR.out.2.2.2, rsB_cons hlt, mkL_esc _ _ _ _ _ hm hk, ← rsB_cons hlt])
          have hes := fun W => escaped_any (s.extract q s.size) (by rw [ByteArray.size_extract]; omega) (by rw [ByteArray.size_extract]; omega) mark W
          rw [rsB_extract] at hes
          clear hm hk
          cases hx : escL mark (rsB s q) with
          | none =>
            rw [hx] at hes
            have HX := Lib.hid hes
            have HE2 := Lib.hid (show mkL (s.size - p + 1) mark [] (rsB s (p + 1)) = (none, rsB s q) by rw [HE.out, hx])
            clear hx hes HE
            go_wp2_with fail
            go_region_with (go_at_call 211; refine (HX.out _).mono ?_; rintro E w' ⟨hE, hw⟩; obtain rfl : E = _ := hE)
            all_goals
              have hr1 : Rdr w' R s q x k := HR.out.1.next (w := W2.drew) hw (by show R < W2.heap.size; omega)
              have hk1 : Kept R w w' := (Kept.drew HR.out.2.2.1).onto hw
              obtain ⟨c0, c1, c2, c3⟩ := hr1.c
              have HF := Lib.hid (And.intro (fail_any hr1 4 q) hk1)
              clear hr1 hk1 hw
              go_wp2_with (go_at_call 163; refine HF.out.1.mono ?_; rintro E w'' ⟨rfl, hr, hk⟩)
              go_ret2
              exact ⟨HF.out.2.trans hk, q, hq, by rw [HE2.out], by rw [HE2.out]; exact ⟨rfl, hr⟩⟩
          | some bk2 =>
            obtain ⟨bb, kk⟩ := bk2
            rw [hx] at hes
            obtain ⟨hb1, hb2, hb3⟩ := escL_bounds hx
            rw [rsB_len] at hb3
            have HX := Lib.hid hes
            have HE2 := Lib.hid (show mkL (s.size - p + 1) mark [] (rsB s (p + 1)) = mkL f mark (acc ++ bb) (rsB s (q + kk)) by rw [HE.out, hx]; show mkL f mark (acc ++ bb) ((rsB s q).drop kk) = _; rw [rsB_drop])
            have hbb : (bytesOf bb).size = bb.length := rfl
            have hne : ((kk : Int) == 0) = false := beq_false_of_ne (by omega)
            clear hx hes HE
            go_wp2_with fail
            go_region_with (go_at_call 211; refine (HX.out _).mono ?_; rintro E w' ⟨hE, hw⟩; obtain rfl : E = _ := hE)
            all_goals
              have hr1 : Rdr w' R s q x k := HR.out.1.next (w := W2.drew) hw (by show R < W2.heap.size; omega)
              have hk1 : Kept R w w' := (Kept.drew HR.out.2.2.1).onto hw
              have hbl1 : Bl w.heap.size w.heap.size acc w' := (show Bl w.heap.size w.heap.size acc W2.drew from HR.out.2.1.keep fun _ _ _ => rfl).onto hw
              have hz1 : w.heap.size ≤ w'.heap.size := Nat.le_trans hw2 hw.size
              have HB := Lib.hid (putText w.heap.size w.heap.size acc (bytesOf bb) w' hbl1 (by omega) hz1)
              have HQ := Lib.hid (And.intro hr1 hk1)
              clear hr1 hk1 hw hbl1 c0 c1 c2 c3 f1 f2 f3
              go_wp2_with (go_at_call 120; refine HB.out.mono ?_; rintro E w'' ⟨rfl, h1, h2, h3⟩; obtain ⟨c0, c1, c2, c3⟩ := (HQ.out.1.next h2 hRl).c; obtain ⟨f1, f2, f3⟩ := (HQ.out.1.next h2 hRl).f; have HW := Lib.hid (And.intro h1 h2); clear h1 h2 h3)
              go_roundg (s.size - (q + kk))
              case measure => omega
              case rel => exact ⟨q + kk, f, acc ++ bb, by omega, by omega, rfl, by simp; omega, Lib.hid ⟨(HQ.out.1.next HW.out.2 hRl).set1 _ (by omega), HW.out.1.set _ (by show R < w.heap.size; exact hRl) _, (HQ.out.2.below HW.out.2 (Nat.le_refl _)).set _ _ rfl, HE2.out⟩⟩
        · have bk : ((s[q].toNat : Int) == 92) = false := byte_ne (b := 92) hk
          have HE := Lib.hid (show mkL (s.size - p + 1) mark [] (rsB s (p + 1)) = mkL f mark (acc ++ [s[q]]) (rsB s (q + 1)) by rw [HR.out.2.2.2, rsB_cons hlt, mkL_byte _ _ _ _ _ hm hk])
          have HB := Lib.hid (putByte w.heap.size w.heap.size acc s[q] _ HR.out.2.1 (by omega) hw2)
          clear hm hk c0 c1 c2 c3 f1 f2 f3
          go_wp2_with (go_at_call 205; refine HB.out.mono ?_; rintro E w' ⟨rfl, h1, h2, h3⟩; obtain ⟨c0, c1, c2, c3⟩ := (HR.out.1.next h2 hRl).c; obtain ⟨f1, f2, f3⟩ := (HR.out.1.next h2 hRl).f; have HW := Lib.hid (And.intro h1 h2); clear h1 h2 h3)
          go_roundg (s.size - (q + 1))
          case measure => omega
          case rel => exact ⟨q + 1, f, acc ++ [s[q]], by omega, by omega, rfl, by simp; omega, Lib.hid ⟨(HR.out.1.next HW.out.2 hRl).set1 _ (by omega), HW.out.1.set _ (by show R < w.heap.size; exact hRl) _, (HR.out.2.2.1.below HW.out.2 (Nat.le_refl _)).set _ _ rfl, HE.out⟩⟩
    · obtain rfl : q = s.size := by omega
      have HE := Lib.hid (show mkL (s.size - p + 1) mark [] (rsB s (p + 1)) = (none, []) by rw [HR.out.2.2.2, rsB_end (Nat.le_refl _), mkL_nil])
      go_wp2_with fail
      go_quiet (fail)
      obtain ⟨c0, c1, c2, c3⟩ := (HR.out.1.drewN nq).c
      have H1 := Lib.hid (fail_any (HR.out.1.drewN nq) 4 s.size)
      go_wp2_with (go_at_call 163; refine H1.out.mono ?_; rintro E w' ⟨rfl, hr, hk⟩)
      go_ret2
      exact ⟨(HR.out.2.2.1.drewN nq).trans hk, s.size, Nat.le_refl _, by rw [HE.out, rsB_end (Nat.le_refl _)], by rw [HE.out]; exact ⟨rfl, hr⟩⟩
end
end Go.Proofs.YtlohdglhebplfaaGreatDoor
