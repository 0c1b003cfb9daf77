/-
  The document's own Text (pavaneref01): what it answers. Parse and Text on both sides: one answer.
-/
import Derived.Test.YtocnlapbkidinaaGreatDoorPn8
import Derived.Test.YtocnlapbkidinaaGreatDoorPn9
import Derived.WideShapes
set_option linter.unusedVariables false
set_option linter.unusedSimpArgs false
set_option linter.unusedSectionVars false
set_option linter.unnecessarySimpa false
namespace Go.Proofs.YtocnlapbkidinaaGreatDoor
section
open Go.RowKit

set_option maxHeartbeats 1600000 in
theorem rtext_no (u : Value) (b : Int) (w : World) (hb : b < 2 ∨ 36 < b) : Calls Tryz.prog 74 #[u, .int .i64 b] w fun e w' => e = .returned (.string ⟨#[]⟩) ∧ w = w' := by
  by_cases h1 : b < 2
  · clear hb
    go_enter Tryz.func74, Tryz.ntmps74
    go_wp2_with fail
    go_ret
    exact ⟨rfl, rfl⟩
  · have h2 : 36 < b := by omega
    clear hb
    go_enter Tryz.func74, Tryz.ntmps74
    go_wp2_with fail
    go_ret
    exact ⟨rfl, rfl⟩

theorem digit_slice (k : Nat) (hk : k < 36) (w : World) : (Instr.slice 9 (.string ⟨#[48, 49, 50, 51, 52, 53, 54, 55, 56, 57, 97, 98, 99, 100, 101, 102, 103, 104, 105, 106, 107, 108, 109, 110, 111, 112, 113, 114, 115, 116, 117, 118, 119, 120, 121, 122]⟩) (some (.int .u64 (k : Int))) (some (.int .u64 ((k : Int) + 1))) none).run Tryz.prog w = .ok (.string ⟨#[chr k]⟩) w := by
  rw [run_slice_string w 9 _ _ _ _ _ Tryz.underlying9 (by omega) (by omega) (by show ((k : Int) + 1) ≤ 36; omega)]
  rw [show ((k : Int) + 1).toNat = k + 1 by omega, Int.toNat_natCast]
  have : ∀ k : Fin 36, (ByteArray.mk #[48, 49, 50, 51, 52, 53, 54, 55, 56, 57, 97, 98, 99, 100, 101, 102, 103, 104, 105, 106, 107, 108, 109, 110, 111, 112, 113, 114, 115, 116, 117, 118, 119, 120, 121, 122]).extract k.val (k.val + 1) = ⟨#[chr k.val]⟩ := by decide +kernel
  rw [this ⟨k, hk⟩]

/-- What holds at the head of Text's round: the digits so far, the lowest first; what is left. -/
def RTxt (b n r : Nat) (O : List Nat) (t : ByteArray) : Prop := n = valb b O + b ^ O.length * r ∧ Okb b O ∧ (r = 0 → O = []) ∧ t.data.toList = O.reverse.map chr
theorem RTxt.len {b n r K : Nat} {O : List Nat} {t : ByteArray} (h : RTxt b n r O t) (hb : 2 ≤ b) (hn : n < 4294967296 ^ K) : t.size ≤ 32 * K := by
  have hl : t.size = O.length := by
    have := congrArg List.length h.2.2.2
    simpa using this
  rw [hl]
  rcases Nat.eq_zero_or_pos r with h0 | h0
  · rw [h.2.2.1 h0]; simp
  · have h1 : b ^ O.length ≤ b ^ O.length * r := Nat.le_mul_of_pos_right _ h0
    have h2 : 2 ^ O.length ≤ b ^ O.length := Nat.pow_le_pow_left hb _
    have h3 := h.1
    have h4 : 2 ^ O.length < 2 ^ (32 * K) := by
      rw [Nat.pow_mul]
      have : (2 : Nat) ^ 32 = 4294967296 := by decide
      rw [this]
      omega
    have := (Nat.pow_lt_pow_iff_right (by decide : 1 < 2)).1 h4
    omega
theorem RTxt.step {b n r : Nat} {O : List Nat} {t t' : ByteArray} (h : RTxt b n r O t) (hb : 2 ≤ b) (hr : r / b ≠ 0) (ht : t'.data.toList = chr (r % b) :: t.data.toList) : RTxt b n (r / b) (O ++ [r % b]) t' := by
  refine ⟨?_, h.2.1.append (Okb.cons (Nat.mod_lt _ (by omega)) Okb.nil), fun h0 => absurd h0 hr, ?_⟩
  · rw [valb_snoc, List.length_append, List.length_singleton, Nat.pow_succ, h.1, Nat.mul_assoc, Nat.add_assoc, ← Nat.mul_add, Nat.mod_add_div]
  · rw [ht, h.2.2.2]; simp
theorem RTxt.end_ {b n r : Nat} {O : List Nat} {t t' : ByteArray} (h : RTxt b n r O t) (hb : 2 ≤ b) (hr : r / b = 0) (ht : t'.data.toList = chr (r % b) :: t.data.toList) : t'.data.toList = txt b n := by
  have hlt : r < b := by
    rcases (Nat.div_eq_zero_iff).1 hr with h0 | h0
    · omega
    · exact h0
  rw [Nat.mod_eq_of_lt hlt] at ht
  rw [ht, h.2.2.2]
  rcases Nat.eq_zero_or_pos r with h0 | h0
  · have hO := h.2.2.1 h0
    have hn := h.1
    rw [hO, h0] at hn
    have hn0 : n = 0 := by simpa [valb] using hn
    rw [hO, h0, hn0]
    rfl
  · have hv : valb b (O ++ [r]) = n := by rw [valb_snoc]; exact h.1.symm
    have hok : Okb b (O ++ [r]) := h.2.1.append (Okb.cons hlt Okb.nil)
    have hn0 : n ≠ 0 := by
      have h1 : 0 < b ^ O.length * r := Nat.mul_pos (Nat.pow_pos (by omega)) h0
      have := h.1
      omega
    have htr : trimL (O ++ [r]) = O ++ [r] := trimL_snoc O r (by omega)
    have hd := trimL_digs hb hok
    rw [htr, hv] at hd
    unfold txt
    rw [if_neg hn0, ← hd]
    simp

set_option maxHeartbeats 3200000 in
theorem rtext_any {w : World} {u : Value} {a K : Nat} (hu : Num w u a K) (hK : K ≤ 1000000) (b : Nat) (hb : 2 ≤ b) (hb2 : b ≤ 36) :
    Calls Tryz.prog 74 #[u, .int .i64 (b : Int)] w fun e w' => ∃ t : ByteArray, e = .returned (.string t) ∧ t.data.toList = txt b a ∧ Below w.heap.size w w' := by
  have la := hu.lt
  go_enter Tryz.func74, Tryz.ntmps74
  go_wp2_with fail
  refine (rnorm_num hu (by omega)).mono ?_
  rintro e w1 ⟨v1, rfl, x1, b1⟩
  go_wp2_with fail
  go_loopg [5, 6] a (fun r s x wr => ∃ (O : List Nat) (t : ByteArray), s = .string t ∧ t.size ≤ 32 * K ∧ New wr w.heap.size x (limbs r) ∧ r < 4294967296 ^ K ∧ Hid (RTxt b a r O t) ∧ Below w.heap.size w wr)
  case atStart => exact ⟨[], ⟨#[]⟩, rfl, Nat.zero_le _, x1, la, ⟨by simp [valb], Okb.nil, fun _ => rfl, rfl⟩, b1⟩
  case round =>
    obtain ⟨O, t, rfl, htl, hx, lr, HT, hbel⟩ := hrel
    obtain ⟨A1, c1, rfl, s1⟩ := hx.sl
    obtain ⟨wo, rfl⟩ : ∃ wo : World, wo = wr := ⟨_, rfl⟩
    have hvr := limbs_val gk
    have hml := limbs_len_le lr
    obtain ⟨m, HM⟩ : ∃ m, Hid (m = (limbs gk).length) := ⟨_, rfl⟩
    have hm : m ≤ 1000000 := by have := HM.out; omega
    rw [← HM.out] at s1 ⊢
    have hmk := fun W => make32 (m : Int) m rfl (by omega) W
    have s2 := s1.alloc (.cells (madeCells #[Value.int .u32 0] m) 78)
    have HV := Lib.hid hvr
    clear hml hvr hx
    go_wp2_with fail
    clear hmk
    have HL := Lib.hid s1.len
    go_loopw [7, 9] (fun l i ws => ∃ k r : Nat, k ≤ m ∧ i = .int .i64 ((k : Int) - 1) ∧ l = .int .u64 r ∧ r < b ∧ DivIn (wo.alloc (.cells (madeCells #[Value.int .u32 0] m) 78)) wo.heap.size (limbs gk) (List.replicate m 0) b k r ws) (fun _ i _ => (intOf i + 1).toNat)
    case atStart =>
      refine ⟨m, 0, Nat.le_refl _, rfl, rfl, by omega, [], by simp [← HL.out], Ok.nil, ?_, ?_, Only.refl _ _⟩
      · rw [HL.out, List.drop_length]; simp [val]
      · rw [← HL.out]; simpa using Blk.made wo m
    case round =>
      obtain ⟨k, r, hk, rfl, rfl, hr, hinv⟩ := hrel
      rcases k with _ | k
      · obtain ⟨Q, hl, ok, hv, hB, ho⟩ := hinv
        rw [List.drop_zero, HV.out] at hv
        have e1 : gk % b = r := by rw [hv, Nat.add_comm, Nat.mul_comm, Nat.add_mul_mod_self_left, Nat.mod_eq_of_lt hr]
        have e2 : gk / b = val Q := by rw [hv, Nat.add_comm, Nat.mul_comm, Nat.add_mul_div_left _ _ (by omega), Nat.div_eq_of_lt hr, Nat.zero_add]
        have hQl : Q.length = m := by have := HL.out; omega
        rw [List.take_zero, List.nil_append, ← HL.out, show List.drop m (List.replicate m 0) = ([] : List Nat) by simp, List.append_nil] at hB
        have hsl := hB.slAll ok (by rw [hQl]; unfold maxLen; omega)
        rw [hQl] at hsl
        have hn := Num.of_sl hsl (Nat.le_refl _)
        rw [← e2] at hn
        have hds := fun W => digit_slice r (by omega) W
        have hbq : Below w.heap.size w wr := bnext hbel (((Below.refl _ _).alloc (Nat.le_refl _) _).trans (ho.below (Nat.le_refl _)))
        have HE := Lib.hid (And.intro e1 e2)
        clear hv e1 e2 hQl hB hsl hl
        go_wp2_with fail
        refine (rnorm_num hn (by omega)).mono ?_
        rintro e w3 ⟨v3, rfl, x3, b3⟩
        have hb3 := bnext hbq b3
        have x4 := x3.from_ (base' := w.heap.size) hbq.size
        have htt : ((⟨#[chr r]⟩ : ByteArray) ++ t).data.toList = chr (gk % b) :: t.data.toList := by rw [HE.out.1]; simp
        obtain ⟨A3, c3, rfl, s3⟩ := x3.sl
        have HX4 := Lib.hid x4
        have HTT := Lib.hid htt
        clear htt x3 x4 hds hn hbq b3
        by_cases h0 : gk / b = 0
        · have HEND := Lib.hid (HT.out.end_ hb h0 HTT.out)
          rw [h0, limbs_zero] at s3 ⊢
          clear h0
          go_wp2_with fail
          go_ret
          exact ⟨_, rfl, HEND.out, hb3⟩
        · have HN := Lib.hid (HT.out.step hb h0 HTT.out)
          have hlen : (limbs (gk / b)).length ≠ 0 := fun h => h0 ((limbs_nil_iff _).1 (List.eq_nil_of_length_eq_zero h))
          have hlt : gk / b < gk := Nat.div_lt_self (by rcases Nat.eq_zero_or_pos gk with h | h; · rw [h, Nat.zero_div] at h0; exact absurd rfl h0
                                                        · exact h) (by omega)
          have hl2 : gk / b < 4294967296 ^ K := Nat.lt_trans hlt lr
          have hts := HN.out.len hb la
          have hll := limbs_len_le hl2
          generalize (limbs (gk / b)).length = l3 at *
          have hne : ((l3 : Int) == 0) = false := beq_eq_false_iff_ne.2 (by omega)
          go_wp2_with fail
          go_roundg (gk / b)
          case measure => exact hlt
          case rel => exact ⟨_, _, rfl, hts, HX4.out, hl2, HN.out, hb3⟩
      · rw [show (((k + 1 : Nat) : Int) - 1) = (k : Int) by omega]
        obtain ⟨Q, hl, ok, hv, hB, ho⟩ := id hinv
        obtain ⟨b', off, rfl, hbl, hc⟩ := s1.here (by omega)
        have hf := hB.frozen k
        have hcl := hB.cell k (by have := HL.out; simp; omega)
        have hne : b' ≠ wo.heap.size := by omega
        have hck : wr.cell? ⟨b', off + k, none⟩ = some (.int .u32 ((lim (limbs gk) k : Nat) : Int)) := by
          obtain ⟨b2, off2, e2, _, hc2⟩ := s2.here (by omega)
          rw [Option.some.injEq, Addr.mk.injEq] at e2
          obtain ⟨rfl, rfl, _⟩ := e2
          exact (World.cell?_of_block (a := ⟨b', off + k, none⟩) (ho.block b' hne)).trans (hc2 k (by omega))
        have x1 := s1.ok.getD k
        have hin := div_step hinv (by have := HL.out; simp; omega) (by omega) hr x1 (quo_num _ _ _ (by omega) hr x1)
        have HST := Lib.hid hin
        clear hc hl hv hin hinv
        go_wp2_with fail
        go_roundw
        case rel => exact ⟨k, _, by omega, by go_num, rem_num _ _ _, Nat.mod_lt _ (by omega), HST.out⟩
        case measure => simp [intOf]
end
end Go.Proofs.YtocnlapbkidinaaGreatDoor
namespace Go.Proofs.YtocnlapbkidinaaGreatDoor
section
open Go.RowKit
theorem PG.none {P : Program} {f : FuncId} {args : Array Value} {w : World} (h : Calls P f args w fun e w' => e = .returned (.tuple #[.slice none 0 0, .bool false]) ∧ Below w.heap.size w w') : Calls P f args w (PG w false 0) :=
  h.mono fun _ _ ⟨he, hb⟩ => ⟨_, he, New.nil _ _, hb⟩
section
variable {w : World} {u v : Value} {a b : Int} {K L : Nat}
set_option maxHeartbeats 1600000 in
theorem rwtext_num (hu : Wh w u a K) (hK : K ≤ 1000000) : Calls Tryz.prog 29 #[u] w fun e w' => ∃ t : ByteArray, e = .returned (.string t) ∧ t.data.toList = wtxt a ∧ Below w.heap.size w w' := by
  have la := hu.lt
  have hlen := txt_len 10 a.natAbs K (by decide) la
  have HT := Lib.hid (fun (w' : World) (x : Value) (hx : Num w' x a.natAbs K) => rtext_any hx hK 10 (by decide) (by decide))
  obtain ⟨s, xA, xN, xC, rfl, hx0⟩ := hu.opened
  obtain ⟨W, hW, hp, hb⟩ := enter1 w (.bool s) (.slice xA xN xC)
  have HN := Lib.hid (rwnorm_num (hx0.out.below hb) (by omega))
  have HL := Lib.hid (And.intro la hlen)
  have e0 := hp.c0
  have e1 := hp.c1
  rw [hW] at e0 e1
  clear hu hx0 la hlen
  obtain ⟨d, hd⟩ : ∃ d, d = decide (a < 0) := ⟨_, rfl⟩
  cases d
  · have HS := Lib.hid hd
    clear hd
    go_enter Tryz.func29, Tryz.ntmps29
    go_wp2_with fail
    rw [← hW]
    refine HN.out.mono ?_
    rintro e w1 ⟨v, rfl, x1, b1⟩
    obtain ⟨sg, xa, xn, xc, rfl, y1⟩ := x1.opened
    obtain rfl : sg = false := y1.out.neg.trans HS.out.symm
    clear x1 e0 e1 HN
    have vx := Var.mk_ w1 (.bool false) (.slice xa xn xc)
    have b2 : Below w1.heap.size w1 (w1.alloc (.cells #[.bool false, .slice xa xn xc] 27)) := bnew (Below.refl _ _) _
    have hn := (y1.out.next b2).num_ K HL.out.1
    have hB := bnext hb (bnext b1 b2)
    clear y1 b1 b2 hp hW hb
    have e0 := vx.c0
    have e1 := vx.c1
    go_wp2_with fail
    refine (HT.out _ _ hn).mono ?_
    rintro e w3 ⟨t, rfl, ht, b3⟩
    have f0 := (vx.next b3).c0
    have HT2 := Lib.hid ht
    have hB3 := bnext hB b3
    clear e0 e1 HT ht hn
    go_wp2_with fail
    go_ret
    exact ⟨_, rfl, by rw [HT2.out]; unfold wtxt; rw [if_neg (of_decide_eq_false HS.out.symm)], hB3⟩
  · have HS := Lib.hid hd
    clear hd
    go_enter Tryz.func29, Tryz.ntmps29
    go_wp2_with fail
    rw [← hW]
    refine HN.out.mono ?_
    rintro e w1 ⟨v, rfl, x1, b1⟩
    obtain ⟨sg, xa, xn, xc, rfl, y1⟩ := x1.opened
    obtain rfl : sg = true := y1.out.neg.trans HS.out.symm
    clear x1 e0 e1 HN
    have vx := Var.mk_ w1 (.bool true) (.slice xa xn xc)
    have b2 : Below w1.heap.size w1 (w1.alloc (.cells #[.bool true, .slice xa xn xc] 27)) := bnew (Below.refl _ _) _
    have hn := (y1.out.next b2).num_ K HL.out.1
    have hB := bnext hb (bnext b1 b2)
    clear y1 b1 b2 hp hW hb
    have e0 := vx.c0
    have e1 := vx.c1
    go_wp2_with fail
    refine (HT.out _ _ hn).mono ?_
    rintro e w3 ⟨t, rfl, ht, b3⟩
    have f0 := (vx.next b3).c0
    have HT2 := Lib.hid ht
    have hts : t.size ≤ 32 * K + 1 := by
      have : t.size = t.data.toList.length := (Array.length_toList (xs := t.data)).symm
      rw [this, ht]; exact HL.out.2
    have hB3 := bnext hB b3
    clear e0 e1 HT ht hn
    go_wp2_with fail
    go_ret
    refine ⟨_, rfl, ?_, hB3⟩
    unfold wtxt
    rw [if_pos (of_decide_eq_true HS.out.symm)]
    simp [HT2.out]
theorem wtext2 (a : Int) (K : Nat) (hK : K ≤ 1000000) : ∃ t : ByteArray, (∀ w u, Wh w u a K → Calls Tryz.prog 67 #[u] w fun e w' => e = .returned (.string t) ∧ Below w.heap.size w w') ∧ (∀ w u, Wh w u a K → Calls Tryz.prog 29 #[u] w fun e w' => e = .returned (.string t) ∧ Below w.heap.size w w') := by
  refine ⟨⟨(wtxt a).toArray⟩, fun w u hu => (wtext_num hu hK).mono ?_, fun w u hu => (rwtext_num hu hK).mono ?_⟩ <;>
  · rintro e w' ⟨t, rfl, ht, hb⟩
    exact ⟨by rw [Go.WideShapes.bytes_inj (a := t) (b := ⟨(wtxt a).toArray⟩) (by rw [ht])], hb⟩
end
end
end Go.Proofs.YtocnlapbkidinaaGreatDoor
