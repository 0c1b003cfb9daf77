/-
  The document writes (pavaneref04) any tree.
-/
import Derived.Test.YtlohdglhebplfaaGreatDoorRdx5
import Derived.Test.YtlohdglhebplfaaGreatDoorSkz
import Derived.Test.YtlohdglhebplfaaGreatDoorRsg
import Derived.Test.YtlohdglhebplfaaGreatDoorRdx3
import Derived.Test.YtlohdglhebplfaaGreatDoorRdv
import Derived.Test.YtlohdglhebplfaaGreatDoorRdx4
import Derived.Test.YtlohdglhebplfaaGreatDoorRdu
import Derived.Test.YtlohdglhebplfaaGreatDoorRdt
import Derived.Test.YtlohdglhebplfaaGreatDoorRdr
import Derived.Test.YtlohdglhebplfaaGreatDoorRdq
import Derived.Test.YtlohdglhebplfaaGreatDoorDng
import Derived.Test.YtlohdglhebplfaaGreatDoorRdx2
import Derived.Test.YtlohdglhebplfaaGreatDoorRdx7
import Derived.Test.YtlohdglhebplfaaGreatDoorNg
import Derived.Test.YtlohdglhebplfaaGreatDoorNgl
import Derived.Test.YtlohdglhebplfaaGreatDoorRdi
import Derived.Test.YtlohdglhebplfaaGreatDoorRdh
import Derived.Test.YtlohdglhebplfaaGreatDoorRdg
import Derived.Test.YtlohdglhebplfaaGreatDoorRdf
import Derived.Test.YtlohdglhebplfaaGreatDoorRde
import Derived.Test.YtlohdglhebplfaaGreatDoorRdx1
import Derived.Test.YtlohdglhebplfaaGreatDoorShf
import Derived.Test.YtlohdglhebplfaaGreatDoorRds
import Derived.Test.YtlohdglhebplfaaGreatDoorPlain
import Derived.Test.YtlohdglhebplfaaGreatDoorBetw
import Derived.Test.YtlohdglhebplfaaGreatDoorEsc
import Derived.Test.YtlohdglhebplfaaGreatDoorBld
import Derived.Test.YtlohdglhebplfaaGreatDoorPln
import Derived.Test.YtlohdglhebplfaaGreatDoorDt
import Derived.Test.YtlohdglhebplfaaGreatDoorAll
import Derived.Test.YtlohdglhebplfaaGreatDoorNl
import Derived.Test.YtlohdglhebplfaaGreatDoorLeaf
import Derived.Test.YtlohdglhebplfaaGreatDoorNrm
import Derived.Test.YtlohdglhebplfaaGreatDoorMeas
import Derived.Test.YtlohdglhebplfaaGreatDoorRnd
import Derived.Test.YtlohdglhebplfaaGreatDoorTold
import Derived.Test.YtlohdglhebplfaaGreatDoorSmF
import Derived.Test.YtlohdglhebplfaaGreatDoorBud
import Derived.Test.YtlohdglhebplfaaGreatDoorOd
import Derived.Test.YtlohdglhebplfaaGreatDoorHeld
import Derived.Test.YtlohdglhebplfaaGreatDoorTr
import Derived.Test.YtlohdglhebplfaaGreatDoorRpz
import Derived.Test.YtlohdglhebplfaaGreatDoorRda
import Derived.Test.YtlohdglhebplfaaGreatDoorRg
import Derived.Test.YtlohdglhebplfaaGreatDoorNw
import Derived.Test.YtlohdglhebplfaaGreatDoorMem
import Derived.Test.YtlohdglhebplfaaGreatDoorNum
import Derived.Test.YtlohdglhebplfaaGreatDoorChecked
import Derived.Outline
import Derived.Laws.BitsAllLaws
import Derived.Deep.LoopGhost
import Derived.BigRegion
import Derived.Laws.IdiomStrings
import Derived.Lib.BufferRead
import Derived.Deep.QuietTactic
import Derived.BigQuiet
import Derived.Shelf.Small.Bits
import Derived.WalkMore
import Derived.Deep.RegionHeld3
import Derived.Orders
import Derived.WideShapes
import Derived.Laws.EntriesVeiled
import Derived.Lib.SlBytesConst
import Derived.Laws.BytesArg
namespace Go.Proofs.YtlohdglhebplfaaGreatDoor
open Go.RowKit

theorem keptO_below {b : Nat} {w w' : World} (hb : Below w.heap.size w w') : Lib.OthersKept 5 (some b) w w' := fun k _ hk _ _ => (hb.block k (Array.getElem?_eq_some_iff.1 hk).1).trans hk
section
variable {b : Nat}
end
theorem Num.of_sl {w : World} {A : Option Addr} {n c : Nat} {xs : List Nat} {K : Nat} (h : Sl w A n c xs) (hn : n ≤ K) : Num w (.slice A n c) (val xs) K := ⟨_, _, _, _, rfl, h, rfl, hn⟩
section
variable {w : World} {u v : Value} {a b K L : Nat}
end
section
variable {w w' : World} {g : Nat} {s x : Value}
end
section
variable {w : World} {u v : Value} {a b : Int} {K L : Nat}
end
section
variable {w : World} {u v : Value} {a b : Int} {K L : Nat}
end
section
variable {w : World} {u v : Value} {a b : Int} {K L : Nat}
end
section
variable {w : World} {u v : Value} {a b : Int} {K L : Nat}
end
theorem digit_slice (k : Nat) (hk : k < 36) (w : World) : (Instr.slice 9 (.string ⟨#[48, 49, 50, 51, 52, 53, 54, 55, 56, 57, 97, 98, 99, 100, 101, 102, 103, 104, 105, 106, 107, 108, 109, 110, 111, 112, 113, 114, 115, 116, 117, 118, 119, 120, 121, 122]⟩) (some (.int .u64 (k : Int))) (some (.int .u64 ((k : Int) + 1))) none).run Tryz.prog w = .ok (.string ⟨#[chr k]⟩) w := by
  rw [run_slice_string w 9 _ _ _ _ _ Tryz.underlying9 (by omega) (by omega) (by show ((k : Int) + 1) ≤ 36; omega)]
  rw [show ((k : Int) + 1).toNat = k + 1 by omega, Int.toNat_natCast]
  have : ∀ k : Fin 36, (ByteArray.mk #[48, 49, 50, 51, 52, 53, 54, 55, 56, 57, 97, 98, 99, 100, 101, 102, 103, 104, 105, 106, 107, 108, 109, 110, 111, 112, 113, 114, 115, 116, 117, 118, 119, 120, 121, 122]).extract k.val (k.val + 1) = ⟨#[chr k.val]⟩ := by decide +kernel
  rw [this ⟨k, hk⟩]
theorem RTxt.step {b n r : Nat} {O : List Nat} {t t' : ByteArray} (h : RTxt b n r O t) (hb : 2 ≤ b) (hr : r / b ≠ 0) (ht : t'.data.toList = chr (r % b) :: t.data.toList) : RTxt b n (r / b) (O ++ [r % b]) t' := by
  refine ⟨?_, h.2.1.append (Okb.cons (Nat.mod_lt _ (by omega)) Okb.nil), fun h0 => absurd h0 hr, ?_⟩
  · rw [valb_snoc, List.length_append, List.length_singleton, Nat.pow_succ, h.1, Nat.mul_assoc, Nat.add_assoc, ← Nat.mul_add, Nat.mod_add_div]
  · rw [ht, h.2.2.2]; simp
theorem RTxt.end_ {b n r : Nat} {O : List Nat} {t t' : ByteArray} (h : RTxt b n r O t) (hb : 2 ≤ b) (hr : r / b = 0) (ht : t'.data.toList = chr (r % b) :: t.data.toList) : t'.data.toList = txt b n := by
  have hlt : r < b := by
    rcases (Nat.div_eq_zero_iff).1 hr with h0 | h0
    · omega
    · exact h0
  rw [Nat.mod_eq_of_lt hlt] at ht
  rw [ht, h.2.2.2]
  rcases Nat.eq_zero_or_pos r with h0 | h0
  · have hO := h.2.2.1 h0
    have hn := h.1
    rw [hO, h0] at hn
    have hn0 : n = 0 := by simpa [valb] using hn
    rw [hO, h0, hn0]
    rfl
  · have hv : valb b (O ++ [r]) = n := by rw [valb_snoc]; exact h.1.symm
    have hok : Okb b (O ++ [r]) := h.2.1.append (Okb.cons hlt Okb.nil)
    have hn0 : n ≠ 0 := by
      have h1 : 0 < b ^ O.length * r := Nat.mul_pos (Nat.pow_pos (by omega)) h0
      have := h.1
      omega
    have htr : trimL (O ++ [r]) = O ++ [r] := trimL_snoc O r (by omega)
    have hd := trimL_digs hb hok
    rw [htr, hv] at hd
    unfold txt
    rw [if_neg hn0, ← hd]
    simp
set_option maxHeartbeats 3200000 in
theorem rtext_any {w : World} {u : Value} {a K : Nat} (hu : Num w u a K) (hK : K ≤ 1000000) (b : Nat) (hb : 2 ≤ b) (hb2 : b ≤ 36) :
    Calls Tryz.prog 142 #[u, .int .i64 (b : Int)] w fun e w' => ∃ t : ByteArray, e = .returned (.string t) ∧ t.data.toList = txt b a ∧ Below w.heap.size w w' := by
  have la := hu.lt
  go_enter Tryz.func142, Tryz.ntmps142
  go_wp2_with fail
  refine (rnorm_num hu (by omega)).mono ?_
  rintro e w1 ⟨v1, rfl, x1, b1⟩
  go_wp2_with fail
  go_loopg [5, 6] a (fun r s x wr => ∃ (O : List Nat) (t : ByteArray), s = .string t ∧ t.size ≤ 32 * K ∧ New wr w.heap.size x (limbs r) ∧ r < 4294967296 ^ K ∧ Hid (RTxt b a r O t) ∧ Below w.heap.size w wr)
  case atStart => exact ⟨[], ⟨#[]⟩, rfl, Nat.zero_le _, x1, la, ⟨by simp [valb], Okb.nil, fun _ => rfl, rfl⟩, b1⟩
  case round =>
    obtain ⟨O, t, rfl, htl, hx, lr, HT, hbel⟩ := hrel
    obtain ⟨A1, c1, rfl, s1⟩ := hx.sl
    obtain ⟨wo, rfl⟩ : ∃ wo : World, wo = wr := ⟨_, rfl⟩
    have hvr := limbs_val gk
    have hml := limbs_len_le lr
    obtain ⟨m, HM⟩ : ∃ m, Hid (m = (limbs gk).length) := ⟨_, rfl⟩
    have hm : m ≤ 1000000 := by have := HM.out; omega
    rw [← HM.out] at s1 ⊢
    have hmk := fun W => make32 (m : Int) m rfl (by omega) W
    have s2 := s1.alloc (.cells (madeCells #[Value.int .u32 0] m) 162)
    have HV := Lib.hid hvr
    clear hml hvr hx
    go_wp2_with fail
    clear hmk
    have HL := Lib.hid s1.len
    go_loopw [7, 9] (fun l i ws => ∃ k r : Nat, k ≤ m ∧ i = .int .i64 ((k : Int) - 1) ∧ l = .int .u64 r ∧ r < b ∧ DivIn (wo.alloc (.cells (madeCells #[Value.int .u32 0] m) 162)) wo.heap.size (limbs gk) (List.replicate m 0) b k r ws) (fun _ i _ => (intOf i + 1).toNat)
    case atStart =>
      refine ⟨m, 0, Nat.le_refl _, rfl, rfl, by omega, [], by simp [← HL.out], Ok.nil, ?_, ?_, Only.refl _ _⟩
      · rw [HL.out, List.drop_length]; simp [val]
      · rw [← HL.out]; simpa using Blk.made wo m
    case round =>
      obtain ⟨k, r, hk, rfl, rfl, hr, hinv⟩ := hrel
      rcases k with _ | k
      · obtain ⟨Q, hl, ok, hv, hB, ho⟩ := hinv
        rw [List.drop_zero, HV.out] at hv
        have e1 : gk % b = r := by rw [hv, Nat.add_comm, Nat.mul_comm, Nat.add_mul_mod_self_left, Nat.mod_eq_of_lt hr]
        have e2 : gk / b = val Q := by rw [hv, Nat.add_comm, Nat.mul_comm, Nat.add_mul_div_left _ _ (by omega), Nat.div_eq_of_lt hr, Nat.zero_add]
        have hQl : Q.length = m := by have := HL.out; omega
        rw [List.take_zero, List.nil_append, ← HL.out, show List.drop m (List.replicate m 0) = ([] : List Nat) by simp, List.append_nil] at hB
        have hsl := hB.slAll ok (by rw [hQl]; unfold maxLen; omega)
        rw [hQl] at hsl
        have hn := Num.of_sl hsl (Nat.le_refl _)
        rw [← e2] at hn
        have hds := fun W => digit_slice r (by omega) W
        have hbq : Below w.heap.size w wr := bnext hbel (((Below.refl _ _).alloc (Nat.le_refl _) _).trans (ho.below (Nat.le_refl _)))
        have HE := Lib.hid (And.intro e1 e2)
        clear hv e1 e2 hQl hB hsl hl
        go_wp2_with fail
        refine (rnorm_num hn (by omega)).mono ?_
        rintro e w3 ⟨v3, rfl, x3, b3⟩
        have hb3 := bnext hbq b3
        have x4 := x3.from_ (base' := w.heap.size) hbq.size
        have htt : ((⟨#[chr r]⟩ : ByteArray) ++ t).data.toList = chr (gk % b) :: t.data.toList := by rw [HE.out.1]; simp
        obtain ⟨A3, c3, rfl, s3⟩ := x3.sl
        have HX4 := Lib.hid x4
        have HTT := Lib.hid htt
        clear htt x3 x4 hds hn hbq b3
        by_cases h0 : gk / b = 0
        · have HEND := Lib.hid (HT.out.end_ hb h0 HTT.out)
          rw [h0, limbs_zero] at s3 ⊢
          clear h0
          go_wp2_with fail
          go_ret
          exact ⟨_, rfl, HEND.out, hb3⟩
        · have HN := Lib.hid (HT.out.step hb h0 HTT.out)
          have hlen : (limbs (gk / b)).length ≠ 0 := fun h => h0 ((limbs_nil_iff _).1 (List.eq_nil_of_length_eq_zero h))
          have hlt : gk / b < gk := Nat.div_lt_self (by rcases Nat.eq_zero_or_pos gk with h | h; · rw [h, Nat.zero_div] at h0; exact absurd rfl h0
                                                        · exact h) (by omega)
          have hl2 : gk / b < 4294967296 ^ K := Nat.lt_trans hlt lr
          have hts := HN.out.len hb la
          have hll := limbs_len_le hl2
          generalize (limbs (gk / b)).length = l3 at *
          have hne : ((l3 : Int) == 0) = false := beq_eq_false_iff_ne.2 (by omega)
          go_wp2_with fail
          go_roundg (gk / b)
          case measure => exact hlt
          case rel => exact ⟨_, _, rfl, hts, HX4.out, hl2, HN.out, hb3⟩
      · rw [show (((k + 1 : Nat) : Int) - 1) = (k : Int) by omega]
        obtain ⟨Q, hl, ok, hv, hB, ho⟩ := id hinv
        obtain ⟨b', off, rfl, hbl, hc⟩ := s1.here (by omega)
        have hf := hB.frozen k
        have hcl := hB.cell k (by have := HL.out; simp; omega)
        have hne : b' ≠ wo.heap.size := by omega
        have hck : wr.cell? ⟨b', off + k, none⟩ = some (.int .u32 ((lim (limbs gk) k : Nat) : Int)) := by
          obtain ⟨b2, off2, e2, _, hc2⟩ := s2.here (by omega)
          rw [Option.some.injEq, Addr.mk.injEq] at e2
          obtain ⟨rfl, rfl, _⟩ := e2
          exact (World.cell?_of_block (a := ⟨b', off + k, none⟩) (ho.block b' hne)).trans (hc2 k (by omega))
        have x1 := s1.ok.getD k
        have hin := div_step hinv (by have := HL.out; simp; omega) (by omega) hr x1 (quo_num _ _ _ (by omega) hr x1)
        have HST := Lib.hid hin
        clear hc hl hv hin hinv
        go_wp2_with fail
        go_roundw
        case rel => exact ⟨k, _, by omega, by go_num, rem_num _ _ _, Nat.mod_lt _ (by omega), HST.out⟩
        case measure => simp [intOf]
theorem Own.sl {w : World} {base : Nat} {v : Value} {xs : List Nat} (h : Own w base v xs) : ∃ A c, v = .slice A xs.length c ∧ Sl w A xs.length c xs := by
  obtain ⟨A, n, c, e, hs, _⟩ := h.new
  have := hs.len
  subst this
  exact ⟨A, c, e, hs⟩
section
variable {w : World} {u v : Value} {a b : Int} {K L : Nat}
end
section inv
variable {P : Program} {ops : Array Oper} {Q : Exit → Act → World → Prop}
end inv
variable {ops : Array Oper} {Q : Exit → Act → World → Prop}
theorem WNew.num_ {w : World} {base : Nat} {b : Bool} {x : Value} {z : Int} (h : WNew w base (.agg #[.bool b, x]) z) (K : Nat) (hz : z.natAbs < 4294967296 ^ K) : Num w x z.natAbs K := by
  obtain ⟨y, e, hn⟩ := h
  have e' : b = decide (z < 0) ∧ x = y := by simpa using e
  rw [e'.2]; exact hn.num K hz
section
variable {w : World} {u v : Value} {a b : Int} {K L : Nat}
end
theorem WNew.neg {w : World} {base : Nat} {b : Bool} {x : Value} {z : Int} (h : WNew w base (.agg #[.bool b, x]) z) : b = decide (z < 0) := by
  obtain ⟨y, e, hn⟩ := h
  have e' : b = decide (z < 0) ∧ x = y := by simpa using e
  exact e'.1
section
variable {w : World} {u v : Value} {a b : Int} {K L : Nat}
end
section
variable {w : World} {u v : Value} {a b : Int} {K L : Nat}
end
section
variable {w : World} {u v : Value} {a b : Int} {K L : Nat}
set_option maxHeartbeats 1600000 in
theorem rwtext_num (hu : Wh w u a K) (hK : K ≤ 1000000) : Calls Tryz.prog 85 #[u] w fun e w' => ∃ t : ByteArray, e = .returned (.string t) ∧ t.data.toList = wtxt a ∧ Below w.heap.size w w' := by
  have la := hu.lt
  have hlen := txt_len 10 a.natAbs K (by decide) la
  have HT := Lib.hid (fun (w' : World) (x : Value) (hx : Num w' x a.natAbs K) => rtext_any hx hK 10 (by decide) (by decide))
  obtain ⟨s, xA, xN, xC, rfl, hx0⟩ := hu.opened
  obtain ⟨W, hW, hp, hb⟩ := enter1 w (.bool s) (.slice xA xN xC)
  have HN := Lib.hid (rwnorm_num (hx0.out.below hb) hK)
  have HL := Lib.hid (And.intro la hlen)
  have e0 := hp.c0
  have e1 := hp.c1
  rw [hW] at e0 e1
  clear hu hx0 la hlen
  obtain ⟨d, hd⟩ : ∃ d, d = decide (a < 0) := ⟨_, rfl⟩
  cases d
  · have HS := Lib.hid hd
    clear hd
    go_enter Tryz.func85, Tryz.ntmps85
    go_wp2_with fail
    rw [← hW]
    refine HN.out.mono ?_
    rintro e w1 ⟨v, rfl, x1, b1⟩
    obtain ⟨sg, xa, xn, xc, rfl, y1⟩ := x1.opened
    obtain rfl : sg = false := y1.out.neg.trans HS.out.symm
    clear x1 e0 e1 HN
    have vx := Var.mk_ w1 (.bool false) (.slice xa xn xc)
    have b2 : Below w1.heap.size w1 (w1.alloc (.cells #[.bool false, .slice xa xn xc] 29)) := bnew (Below.refl _ _) _
    have hn := (y1.out.next b2).num_ K HL.out.1
    have hB := bnext hb (bnext b1 b2)
    clear y1 b1 b2 hp hW hb
    have e0 := vx.c0
    have e1 := vx.c1
    go_wp2_with fail
    refine (HT.out _ _ hn).mono ?_
    rintro e w3 ⟨t, rfl, ht, b3⟩
    have f0 := (vx.next b3).c0
    have HT2 := Lib.hid ht
    have hB3 := bnext hB b3
    clear e0 e1 HT ht hn
    go_wp2_with fail
    go_ret
    exact ⟨_, rfl, by rw [HT2.out]; unfold wtxt; rw [if_neg (of_decide_eq_false HS.out.symm)], hB3⟩
  · have HS := Lib.hid hd
    clear hd
    go_enter Tryz.func85, Tryz.ntmps85
    go_wp2_with fail
    rw [← hW]
    refine HN.out.mono ?_
    rintro e w1 ⟨v, rfl, x1, b1⟩
    obtain ⟨sg, xa, xn, xc, rfl, y1⟩ := x1.opened
    obtain rfl : sg = true := y1.out.neg.trans HS.out.symm
    clear x1 e0 e1 HN
    have vx := Var.mk_ w1 (.bool true) (.slice xa xn xc)
    have b2 : Below w1.heap.size w1 (w1.alloc (.cells #[.bool true, .slice xa xn xc] 29)) := bnew (Below.refl _ _) _
    have hn := (y1.out.next b2).num_ K HL.out.1
    have hB := bnext hb (bnext b1 b2)
    clear y1 b1 b2 hp hW hb
    have e0 := vx.c0
    have e1 := vx.c1
    go_wp2_with fail
    refine (HT.out _ _ hn).mono ?_
    rintro e w3 ⟨t, rfl, ht, b3⟩
    have f0 := (vx.next b3).c0
    have HT2 := Lib.hid ht
    have hts : t.size ≤ 32 * K + 1 := by
      have : t.size = t.data.toList.length := (Array.length_toList (xs := t.data)).symm
      rw [this, ht]; exact HL.out.2
    have hB3 := bnext hB b3
    clear e0 e1 HT ht hn
    go_wp2_with fail
    go_ret
    refine ⟨_, rfl, ?_, hB3⟩
    unfold wtxt
    rw [if_pos (of_decide_eq_true HS.out.symm)]
    simp [HT2.out]
end
theorem Bl.below {base b : Nat} {l : List UInt8} {w w' : World} (h : Bl base b l w) (hb : Below w.heap.size w w') : Bl base b l w' := by
  have key : ∀ p, Lib.BuilderAtF 109 5 base b p (Lib.byteCells l) w → Lib.BuilderAtF 109 5 base b p (Lib.byteCells l) w' := by
    intro p hp
    have hlt := hp.lt
    obtain ⟨h1, v, h2, h3, h4⟩ := hp
    exact ⟨h1, v, (hb.block b hlt).trans h2, h3.kept (row := none) ⟨hb.os, hb.tape, hb.output, hb.size, fun k hk _ => hb.block k hk⟩ (by cases hv : v.ownBlock <;> simp), h4⟩
  exact h.elim (fun h => .inl (key _ h)) (fun h => .inr (key _ h))
theorem Bl.lt {base b : Nat} {l : List UInt8} {w : World} (h : Bl base b l w) : b < w.heap.size := h.elim (·.lt) (·.lt)
/-- A block of data, or of a pen, stays. -/
theorem Wrote.block {base b k : Nat} {l : List UInt8} {w w' : World} {cs : Array Value} {t : TypeId} {fr : Nat × Nat} (h : Wrote base b l w w') (hk : w.heap[k]? = some (.cells cs t fr)) (hb : k ≠ b) (ht : t ≠ 5) : w'.heap[k]? = some (.cells cs t fr) :=
  h.2.2 k _ hk (fun e => hb (Option.some.inj e)) (fun c fz e => by cases e; exact ht rfl)
theorem Tab.low {base : Nat} {w w' : World} (h : Tab w) (hb : Below base w w') (h0 : 2 < base) : Tab w' := by
  obtain ⟨t, h⟩ := h
  exact ⟨t, (hb.block _ h0).trans h⟩
theorem Tab.lt {w : World} (h : Tab w) : 2 < w.heap.size := by
  obtain ⟨t, h⟩ := h
  exact (Array.getElem?_eq_some_iff.1 h).1
theorem Wrote.alloc {base b : Nat} {l : List UInt8} {w w' : World} (h : Wrote base b l w w') (hb : base ≤ w'.heap.size) (o : Obj) : Wrote base b l w (w'.alloc o) := by
  have hbl : Below w'.heap.size w' (w'.alloc o) := (Below.refl _ _).alloc (Nat.le_refl _) o
  exact ⟨h.1.below hbl, h.2.1.trans (hbl.mono hb), h.2.2.trans (keptO_below hbl)⟩
mutual
/-- A datum as it is written, by tf a symbol, by tg a string. -/
def wD (tf tg : ByteArray → ByteArray) : DT → List UInt8
  | .mk k g ys bb s items tail =>
    if k = 1 then wtxt (zOf g (val ys)) else if k = 2 then (if bb then [35, 116] else [35, 102]) else if k = 3 then (tf s).data.toList else if k = 4 then (tg s).data.toList
    else if k = 5 then 40 :: (wR tf tg items ++ (wTl tf tg tail ++ [41])) else [35, 118]
/-- Items with blanks between. -/
def wR (tf tg : ByteArray → ByteArray) : List DT → List UInt8
  | [] => []
  | t :: l => wD tf tg t ++ wQ tf tg l
def wQ (tf tg : ByteArray → ByteArray) : List DT → List UInt8
  | [] => []
  | t :: l => 32 :: (wD tf tg t ++ wQ tf tg l)
def wTl (tf tg : ByteArray → ByteArray) : List DT → List UInt8
  | [] => []
  | t :: _ => 32 :: 46 :: 32 :: wD tf tg t
end
section
variable (tf tg : ByteArray → ByteArray)
theorem wR_nil : wR tf tg [] = [] := by simp [wR]
theorem wR_cons (t : DT) (l : List DT) : wR tf tg (t :: l) = wD tf tg t ++ wQ tf tg l := by simp [wR]
theorem wQ_nil : wQ tf tg [] = [] := by simp [wQ]
theorem wQ_cons (t : DT) (l : List DT) : wQ tf tg (t :: l) = 32 :: (wD tf tg t ++ wQ tf tg l) := by simp [wQ]
theorem wTl_nil : wTl tf tg [] = [] := by simp [wTl]
theorem wTl_cons (t : DT) (l : List DT) : wTl tf tg (t :: l) = 32 :: 46 :: 32 :: wD tf tg t := by simp [wTl]
theorem wQ_append (l m : List DT) : wQ tf tg (l ++ m) = wQ tf tg l ++ wQ tf tg m := by
  induction l with
  | nil => simp [wQ_nil]
  | cons t l ih => simp [wQ_cons, ih]
theorem wR_snoc (l : List DT) (t : DT) (h : l ≠ []) : wR tf tg (l ++ [t]) = wR tf tg l ++ 32 :: wD tf tg t := by
  cases l with
  | nil => exact absurd rfl h
  | cons x l => simp [wR_cons, wQ_append, wQ_cons, wQ_nil]
theorem wR_one (t : DT) : wR tf tg [t] = wD tf tg t := by simp [wR_cons, wQ_nil]
theorem wR_take (l : List DT) (k : Nat) : (wR tf tg (l.take k)).length ≤ (wR tf tg l).length := by
  cases l with
  | nil => simp [wR_nil]
  | cons x l =>
    cases k with
    | zero => simp [wR_nil]
    | succ k =>
      have h := congrArg List.length (wQ_append tf tg (l.take k) (l.drop k))
      rw [List.take_append_drop, List.length_append] at h
      simp only [List.take_succ_cons, wR_cons, List.length_append]
      omega
theorem wD_num (t : LT) (h : t.k = 1) : wD tf tg (shape t) = wtxt (zOf t.g (val t.ys)) := by rw [shape_eq, wD, if_pos h]
theorem wD_bool (t : LT) (h : t.k = 2) : wD tf tg (shape t) = if t.bb then [35, 116] else [35, 102] := by rw [shape_eq, wD, h, if_neg (by decide), if_pos rfl]
theorem wD_sym (t : LT) (h : t.k = 3) : wD tf tg (shape t) = (tf t.s).data.toList := by rw [shape_eq, wD, h, if_neg (by decide), if_neg (by decide), if_pos rfl]
theorem wD_str (t : LT) (h : t.k = 4) : wD tf tg (shape t) = (tg t.s).data.toList := by rw [shape_eq, wD, h, if_neg (by decide), if_neg (by decide), if_neg (by decide), if_pos rfl]
theorem wD_list (t : LT) (h : t.k = 5) : wD tf tg (shape t) = 40 :: (wR tf tg (shapes t.items) ++ (wTl tf tg (shapes t.tail) ++ [41])) := by rw [shape_eq, wD, h, if_neg (by decide), if_neg (by decide), if_neg (by decide), if_neg (by decide), if_pos rfl]
theorem wD_other (t : LT) (h1 : t.k ≠ 1) (h2 : t.k ≠ 2) (h3 : t.k ≠ 3) (h4 : t.k ≠ 4) (h5 : t.k ≠ 5) : wD tf tg (shape t) = [35, 118] := by rw [shape_eq, wD, if_neg h1, if_neg h2, if_neg h3, if_neg h4, if_neg h5]
end
mutual
/-- A property of all that is in it. -/
def AllD (p : Int → List Nat → ByteArray → Prop) : DT → Prop
  | .mk k _ ys _ s items tail => p k ys s ∧ AllDR p items ∧ AllDR p tail
def AllDR (p : Int → List Nat → ByteArray → Prop) : List DT → Prop
  | [] => True
  | t :: l => AllD p t ∧ AllDR p l
end
theorem allDR_append {p : Int → List Nat → ByteArray → Prop} (l m : List DT) : AllDR p (l ++ m) ↔ AllDR p l ∧ AllDR p m := by
  induction l with
  | nil => simp [AllDR]
  | cons t l ih => simp [AllDR, ih, and_assoc]
/-- A property that Norm keeps. -/
structure Keeps (p : Int → List Nat → ByteArray → Prop) : Prop where
  num : ∀ ys s, Ok ys → p 1 ys s → p 1 (limbs (val ys)) ⟨#[]⟩
  bool : p 2 [] ⟨#[]⟩
  text : ∀ k ys s, k = 3 ∨ k = 4 → p k ys s → p k [] s
  list : p 5 [] ⟨#[]⟩
  other : ∀ k ys s, p k ys s → k ≠ 1 → k ≠ 2 → k ≠ 3 → k ≠ 4 → k ≠ 5 → p k [] ⟨#[]⟩
mutual
/-- A property of all that is in a tree. -/
def AllL (p : Int → List Nat → ByteArray → Prop) : LT → Prop
  | .mk k _ _ _ _ ys _ s _ _ items _ _ tail => (Ok ys ∧ p k ys s) ∧ AllLR p items ∧ AllLR p tail
def AllLR (p : Int → List Nat → ByteArray → Prop) : List LT → Prop
  | [] => True
  | t :: l => AllL p t ∧ AllLR p l
end
theorem allD_leaf {p : Int → List Nat → ByteArray → Prop} (hp : Keeps p) (k : Int) (g : Bool) (ys : List Nat) (bb : Bool) (s : ByteArray) (h5 : k ≠ 5) (h : Ok ys ∧ p k ys s) : AllD p (leafD k g ys bb s) := by
  unfold leafD
  split
  · rename_i hk; subst hk
    simp only [AllD, AllDR, and_true]
    rw [zOf_abs]
    exact hp.num ys s h.1 h.2
  · split
    · simp only [AllD, AllDR, and_true]; exact hp.bool
    · split
      · rename_i hk
        simp only [AllD, AllDR, and_true]; exact hp.text k ys s hk h.2
      · simp only [AllD, AllDR, and_true]; exact hp.other k ys s h.2 (by omega) (by omega) (by omega) (by omega) h5
theorem allD_close {p : Int → List Nat → ByteArray → Prop} (hp : Keeps p) : ∀ (x : List DT × Option DT), AllDR p x.1 → (∀ e, x.2 = some e → AllD p e) → AllD p (closeD x)
  | (l, none), h, _ => by simp only [closeD, AllD]; exact ⟨hp.list, h, by simp [AllDR]⟩
  | ([], some e), _, h => h e rfl
  | (x :: l, some e), h, he => by simp only [closeD, AllD, AllDR, and_true]; exact ⟨hp.list, by simpa [AllDR] using h, he e rfl⟩
mutual
theorem allD_spine {p : Int → List Nat → ByteArray → Prop} (hp : Keeps p) : ∀ t : LT, AllL p t → AllDR p (spineT t).1 ∧ ∀ e, (spineT t).2 = some e → AllD p e
  | .mk k g la ln lc ys bb s ia ic items ta tc tail, h => by
    simp only [AllL] at h
    simp only [spineT]
    split
    · have h1 := allD_normR hp items h.2.1
      have h2 := allD_spineR hp tail h.2.2
      exact ⟨(allDR_append _ _).2 ⟨h1, h2.1⟩, h2.2⟩
    · rename_i h5
      refine ⟨by simp [AllDR], fun e he => ?_⟩
      obtain rfl := Option.some.inj he
      exact allD_leaf hp k g ys bb s h5 h.1
theorem allD_spineR {p : Int → List Nat → ByteArray → Prop} (hp : Keeps p) : ∀ l : List LT, AllLR p l → AllDR p (spineR l).1 ∧ ∀ e, (spineR l).2 = some e → AllD p e
  | [], _ => by simp [spineR, AllDR]
  | t :: l, h => by
    simp only [AllLR] at h
    simp only [spineR]
    exact allD_spine hp t h.1
theorem allD_normR {p : Int → List Nat → ByteArray → Prop} (hp : Keeps p) : ∀ l : List LT, AllLR p l → AllDR p (normR l)
  | [], _ => by simp [normR, AllDR]
  | t :: l, h => by
    simp only [AllLR] at h
    simp only [normR, AllDR]
    have h1 := allD_spine hp t h.1
    exact ⟨allD_close hp _ h1.1 h1.2, allD_normR hp l h.2⟩
end
theorem allD_norm {p : Int → List Nat → ByteArray → Prop} (hp : Keeps p) (t : LT) (h : AllL p t) : AllD p (normT t) := allD_close hp _ (allD_spine hp t h).1 (allD_spine hp t h).2
def optS : Option DT → Nat | none => 0 | some e => sizeD e
theorem sizeD_leaf (k : Int) (g : Bool) (ys : List Nat) (bb : Bool) (s : ByteArray) : sizeD (leafD k g ys bb s) = 1 := by unfold leafD; repeat (first | (split) | simp [sizeD, sizesD])
theorem sizeD_close : ∀ (x : List DT × Option DT), sizeD (closeD x) ≤ 1 + sizesD x.1 + optS x.2
  | (l, none) => by simp [closeD, sizeD, sizesD, optS]
  | ([], some e) => by simp [closeD, sizesD, optS]
  | (x :: l, some e) => by simp [closeD, sizeD, sizesD, optS]; omega
mutual
theorem size_spine : ∀ t : LT, sizesD (spineT t).1 + optS (spineT t).2 + 1 ≤ 2 * t.size
  | .mk k g la ln lc ys bb s ia ic items ta tc tail => by
    simp only [spineT, LT.size]
    split
    · have h1 := size_normR items
      have h2 := size_spineR tail
      show sizesD (normR items ++ (spineR tail).1) + optS (spineR tail).2 + 1 ≤ _
      rw [sizesD_append]; omega
    · simp [sizesD, optS, sizeD_leaf]; omega
theorem size_spineR : ∀ l : List LT, sizesD (spineR l).1 + optS (spineR l).2 ≤ 2 * sizes l
  | [] => by simp [spineR, sizesD, optS]
  | t :: l => by
    have h1 := size_spine t
    simp only [spineR, sizes]; omega
theorem size_normR : ∀ l : List LT, sizesD (normR l) ≤ 2 * sizes l
  | [] => by simp [normR, sizesD]
  | t :: l => by
    have h1 := size_spine t
    have h2 := size_normR l
    have h3 := sizeD_close (spineT t)
    simp only [normR, sizesD, sizes]
    omega
end
theorem size_norm (t : LT) : sizeD (normT t) ≤ 2 * t.size := by
  have h1 := size_spine t
  have h2 := sizeD_close (spineT t)
  unfold normT
  omega
def pB (_ : Int) (ys : List Nat) (s : ByteArray) : Prop := Ok ys ∧ ys.length ≤ 1000 ∧ s.size ≤ 1100
theorem okNil : Ok [] := fun _ h => by cases h
theorem keepsB : Keeps pB where
  num := fun ys s h hp => ⟨limbs_ok _, Nat.le_trans (limbs_len_val h) hp.2.1, by decide⟩
  bool := ⟨okNil, by decide, by decide⟩
  text := fun _ _ s _ hp => ⟨okNil, Nat.zero_le _, hp.2.2⟩
  list := ⟨okNil, by decide, by decide⟩
  other := fun _ _ _ _ _ _ _ _ _ => ⟨okNil, by decide, by decide⟩
theorem wtxt_len (g : Bool) (ys : List Nat) (h : Ok ys) (hl : ys.length ≤ 1000) : (wtxt (zOf g (val ys))).length ≤ 40000 := by
  have h2 := txt_len 10 (val ys) ys.length (by decide) (val_lt h)
  unfold wtxt
  rw [zOf_abs]
  split
  · rw [List.length_cons]; omega
  · omega
section
variable (tf tg : ByteArray → ByteArray)
mutual
theorem wD_len (htf : ∀ s : ByteArray, s.size ≤ 1100 → (tf s).data.toList.length ≤ 30000) (htg : ∀ s : ByteArray, s.size ≤ 1100 → (tg s).data.toList.length ≤ 30000) : ∀ d : DT, AllD pB d → (wD tf tg d).length + 4 ≤ 40010 * sizeD d
  | .mk k g ys bb s items tail, h => by
    simp only [AllD] at h
    have h1 := wR_len htf htg items h.2.1
    have h2 := wTl_len htf htg tail h.2.2
    have h3 := wtxt_len g ys h.1.1 h.1.2.1
    have h4 := htf s h.1.2.2
    have h5 := htg s h.1.2.2
    simp only [wD, sizeD]
    split
    · omega
    · split
      · split <;> simp only [List.length_cons, List.length_nil] <;> omega
      · split
        · omega
        · split
          · omega
          · split
            · simp only [List.length_cons, List.length_append, List.length_nil]; omega
            · simp only [List.length_cons, List.length_nil]; omega
theorem wR_len (htf : ∀ s : ByteArray, s.size ≤ 1100 → (tf s).data.toList.length ≤ 30000) (htg : ∀ s : ByteArray, s.size ≤ 1100 → (tg s).data.toList.length ≤ 30000) : ∀ l : List DT, AllDR pB l → (wR tf tg l).length ≤ 40010 * sizesD l
  | [], _ => by simp [wR]
  | t :: l, h => by
    simp only [AllDR] at h
    have h1 := wD_len htf htg t h.1
    have h2 := wQ_len htf htg l h.2
    simp only [wR, sizesD, List.length_append]; omega
theorem wQ_len (htf : ∀ s : ByteArray, s.size ≤ 1100 → (tf s).data.toList.length ≤ 30000) (htg : ∀ s : ByteArray, s.size ≤ 1100 → (tg s).data.toList.length ≤ 30000) : ∀ l : List DT, AllDR pB l → (wQ tf tg l).length ≤ 40010 * sizesD l
  | [], _ => by simp [wQ]
  | t :: l, h => by
    simp only [AllDR] at h
    have h1 := wD_len htf htg t h.1
    have h2 := wQ_len htf htg l h.2
    simp only [wQ, sizesD, List.length_cons, List.length_append]; omega
theorem wTl_len (htf : ∀ s : ByteArray, s.size ≤ 1100 → (tf s).data.toList.length ≤ 30000) (htg : ∀ s : ByteArray, s.size ≤ 1100 → (tg s).data.toList.length ≤ 30000) : ∀ l : List DT, AllDR pB l → (wTl tf tg l).length ≤ 40010 * sizesD l
  | [], _ => by simp [wTl]
  | t :: l, h => by
    simp only [AllDR] at h
    have h1 := wD_len htf htg t h.1
    simp only [wTl, sizesD, List.length_cons]; omega
end
end
theorem row_parts2 {B : Nat} {V : Value} {ts : List LT} {wr : World} (hown : wr.ownsRow (B + 3) 31 7 V ts.length (cellsAll ts)) (hall : AllP wr (Fresh wr (B + 3)) ts) : ∃ ia ic, V = .slice ia ts.length ic ∧ SpotP (Fresh wr (B + 3)) ia ts.length ic ∧ LiesPR wr (Fresh wr (B + 3)) ts (blk ia) (ofs ia) := by
  have hc := hown.2
  rcases hc with ⟨hv, h0⟩ | ⟨g, c, cur, hv, hg, hgc, h1, h2, _⟩
  · obtain rfl : ts = [] := List.length_eq_zero_iff.1 h0
    exact ⟨none, 0, hv, ⟨Nat.le_refl _, Nat.zero_le _, fun h => absurd h (by simp), fun _ => rfl⟩, by rw [liesPR_nil]; trivial⟩
  · have hf : Fresh wr (B + 3) g := Fresh.of (hg) (hgc) (by decide)
    refine ⟨some ⟨g, 0, none⟩, c, hv, ⟨h1, h2, fun _ => ⟨rfl, hf⟩, fun e => by cases e⟩, liesPR_of hf ts 0 hall fun j v hj => ?_⟩
    have h3 := hown.cells (g := g) (by rw [hv]; rfl) j v hj
    rw [cell_add] at h3
    exact h3
theorem allP_of_lies {w : World} {P : Nat → Prop} : ∀ (l : List LT) (b o : Nat), LiesPR w P l b o → AllP w P l
  | [], _, _, _ => fun _ h => by cases h
  | t :: l, b, o, h => by
    rw [liesPR_cons] at h
    intro x hx
    rcases List.mem_cons.1 hx with rfl | hx
    · exact (liesP_held.1 h.1).2.2
    · exact allP_of_lies l b (o + 7) h.2 x hx
theorem cells_of_lies {w : World} {P : Nat → Prop} : ∀ (l : List LT) (b o : Nat), LiesPR w P l b o → ∀ j v, (cellsAll l)[j]? = some v → w.cell? ⟨b, o + j, none⟩ = some v
  | [], _, _, _, j, v, hj => by simp [cellsAll] at hj
  | t :: l, b, o, h, j, v, hj => by
    rw [liesPR_cons] at h
    rw [cellsAll] at hj
    by_cases hlt : j < t.cells.length
    · rw [List.getElem?_append_left hlt] at hj
      exact (liesP_held.1 h.1).2.1 j v hj
    · rw [List.getElem?_append_right (by omega), show t.cells.length = 7 from rfl] at hj
      have := cells_of_lies l b (o + 7) h.2 (j - 7) v hj
      rwa [show o + 7 + (j - 7) = o + j by rw [show t.cells.length = 7 from rfl] at hlt; omega] at this
theorem AllP.append {w : World} {P : Nat → Prop} {l m : List LT} (h : AllP w P l) (h2 : AllP w P m) : AllP w P (l ++ m) := by
  intro x hx
  rcases List.mem_append.1 hx with hx | hx
  · exact h x hx
  · exact h2 x hx
theorem cells7 {w : World} {g : Nat} {c0 c1 c2 c3 c4 c5 c6 : Value} {T : TypeId} {fr : Nat × Nat} (h : w.heap[g]? = some (.cells #[c0, c1, c2, c3, c4, c5, c6] T fr)) :
    w.cell? ⟨g, 0, none⟩ = some c0 ∧ w.cell? ⟨g, 1, none⟩ = some c1 ∧ w.cell? ⟨g, 2, none⟩ = some c2 ∧ w.cell? ⟨g, 3, none⟩ = some c3 ∧ w.cell? ⟨g, 4, none⟩ = some c4 ∧ w.cell? ⟨g, 5, none⟩ = some c5 ∧ w.cell? ⟨g, 6, none⟩ = some c6 := by
  refine ⟨?_, ?_, ?_, ?_, ?_, ?_, ?_⟩ <;> (rw [Lib.cell_of_heap h]; rfl)
theorem frozen7 {w : World} {g : Nat} {cs : Array Value} {T : TypeId} (h : w.heap[g]? = some (.cells cs T (0, 0))) :
    w.frozen? ⟨g, 0, none⟩ = false ∧ w.frozen? ⟨g, 1, none⟩ = false ∧ w.frozen? ⟨g, 2, none⟩ = false ∧ w.frozen? ⟨g, 3, none⟩ = false ∧ w.frozen? ⟨g, 4, none⟩ = false ∧ w.frozen? ⟨g, 5, none⟩ = false ∧ w.frozen? ⟨g, 6, none⟩ = false :=
  ⟨Lib.frozen_of_heap h 0, Lib.frozen_of_heap h 1, Lib.frozen_of_heap h 2, Lib.frozen_of_heap h 3, Lib.frozen_of_heap h 4, Lib.frozen_of_heap h 5, Lib.frozen_of_heap h 6⟩
theorem sizesD_ge (l : List DT) : l.length ≤ sizesD l := by
  induction l with
  | nil => simp
  | cons t l ih =>
    have : 1 ≤ sizeD t := by cases t; simp only [sizeD]; omega
    simp only [sizesD, List.length_cons]; omega
theorem items_bd (u : LT) (d : DT) (n : Nat) (h : shape u = d) (hd : sizeD d ≤ n) : u.items.length ≤ n := by
  have h1 : sizeD (shape u) = 1 + (sizesD (shapes u.items) + sizesD (shapes u.tail)) := by rw [shape_eq]; simp only [sizeD]
  have h2 := sizesD_ge (shapes u.items)
  rw [shapes_length] at h2
  rw [h] at h1
  omega
theorem leafD_k (k : Int) (g : Bool) (ys : List Nat) (bb : Bool) (s : ByteArray) : (leafD k g ys bb s).k = k := by
  unfold leafD
  split
  · rename_i h; rw [h]; rfl
  · split
    · rename_i h; rw [h]; rfl
    · split <;> rfl
mutual
theorem spine_leaf : ∀ (t : LT) (e : DT), (spineT t).2 = some e → e.k ≠ 5
  | .mk k g la ln lc ys bb s ia ic items ta tc tail, e, h => by
    simp only [spineT] at h
    split at h
    · exact spineR_leaf tail e h
    · rename_i h5
      obtain rfl := Option.some.inj h
      rw [leafD_k]; exact h5
theorem spineR_leaf : ∀ (l : List LT) (e : DT), (spineR l).2 = some e → e.k ≠ 5
  | [], e, h => by simp [spineR] at h
  | t :: l, e, h => by
    simp only [spineR] at h
    exact spine_leaf t e h
end
theorem shape_k (t : LT) : (shape t).k = t.k := by rw [shape_eq]; rfl
/-- What the rest of a list is, joined to its items. -/
theorem close_join (ts : List DT) (l2 : List DT) (e2 : Option DT) (u : LT) (hu : shape u = closeD (l2, e2)) (h5 : u.k = 5) (he : ∀ e, e2 = some e → e.k ≠ 5) : closeD (ts ++ l2, e2) = .mk 5 false [] false ⟨#[]⟩ (ts ++ shapes u.items) (shapes u.tail) := by
  rw [shape_eq] at hu
  cases e2 with
  | none =>
    rw [close_none] at hu
    injection hu with _ _ _ _ _ h1 h2
    rw [close_none, h1, h2]
  | some e =>
    cases l2 with
    | nil =>
      exact absurd (show e.k = 5 by have h : DT.mk u.k u.g u.ys u.bb u.s (shapes u.items) (shapes u.tail) = e := hu; rw [← h]; exact h5) (he e rfl)
    | cons x l2 =>
      rw [close_some _ _ (by simp)] at hu
      injection hu with _ _ _ _ _ h1 h2
      rw [close_some _ _ (by simp), h1, h2]
theorem close_dot (ts : List DT) (hts : ts ≠ []) (l2 : List DT) (e2 : Option DT) (u : LT) (hu : shape u = closeD (l2, e2)) (h5 : u.k ≠ 5) : closeD (ts ++ l2, e2) = .mk 5 false [] false ⟨#[]⟩ ts [shape u] := by
  cases e2 with
  | none => rw [close_none] at hu; exact absurd (by rw [← shape_k, hu]; rfl) h5
  | some e =>
    cases l2 with
    | nil =>
      have h : shape u = e := hu
      rw [List.append_nil, close_some _ _ hts, h]
    | cons x l2 => rw [close_some _ _ (by simp)] at hu; exact absurd (by rw [← shape_k, hu]; rfl) h5
set_option maxRecDepth 100000 in
set_option maxHeartbeats 3200000 in
theorem rnorm_23 (t : LT) (hk : t.k = 2 ∨ t.k = 3 ∨ t.k = 4) (hs : t.s.size ≤ maxLen) (w : World) : Calls Tryz.prog 88 #[.agg #[.int .i64 t.k, .bool t.g, .slice t.la t.ln t.lc, .bool t.bb, .string t.s, .slice t.ia t.items.length t.ic, .slice t.ta t.tail.length t.tc]] w (NPost (normT t) w) := by
  have hd : normT t = if t.k = 2 then .mk 2 false [] t.bb ⟨#[]⟩ [] [] else .mk t.k false [] false t.s [] [] := by
    rw [normT_leaf t (by omega)]
    unfold leafD
    rcases hk with h | h | h <;> simp [h]
  rw [hd]
  clear hd
  generalize t.k = k at *
  rcases hk with rfl | rfl | rfl
  all_goals
    go_enter Tryz.func88, Tryz.ntmps88
    go_wp2_with fail
    (try simp only [Exit.inBlock, Exit.then])
  · refine bodyPost_ret (v := .agg #[.int .i64 2, .bool false, .slice none 0 0, .bool t.bb, .string ⟨#[]⟩, .slice none 0 0, .slice none 0 0]) (results_d rfl rfl (by go_simp) (by go_simp) (by go_simp) (by go_simp) (by go_simp) (by go_simp) (by go_simp)) rfl ⟨plainT 2 false none 0 0 [] t.bb ⟨#[]⟩, rfl, plainT_held ⟨Sl.nil, fun h => absurd h (by decide), empty_le⟩, plainT_shape .., ?_⟩
    repeat (first | exact Below.refl _ _ | refine Below.setCell (hp := by first | (simp; done) | (simp; omega)) ?_ _ | refine Below.alloc ?_ (by first | (simp; done) | (simp; omega)) _)
  · refine bodyPost_ret (v := .agg #[.int .i64 3, .bool false, .slice none 0 0, .bool false, .string t.s, .slice none 0 0, .slice none 0 0]) (results_d rfl rfl (by go_simp) (by go_simp) (by go_simp) (by go_simp) (by go_simp) (by go_simp) (by go_simp)) rfl ⟨plainT 3 false none 0 0 [] false t.s, rfl, plainT_held ⟨Sl.nil, fun h => absurd h (by decide), hs⟩, plainT_shape .., ?_⟩
    repeat (first | exact Below.refl _ _ | refine Below.setCell (hp := by first | (simp; done) | (simp; omega)) ?_ _ | refine Below.alloc ?_ (by first | (simp; done) | (simp; omega)) _)
  · refine bodyPost_ret (v := .agg #[.int .i64 4, .bool false, .slice none 0 0, .bool false, .string t.s, .slice none 0 0, .slice none 0 0]) (results_d rfl rfl (by go_simp) (by go_simp) (by go_simp) (by go_simp) (by go_simp) (by go_simp) (by go_simp)) rfl ⟨plainT 4 false none 0 0 [] false t.s, rfl, plainT_held ⟨Sl.nil, fun h => absurd h (by decide), hs⟩, plainT_shape .., ?_⟩
    repeat (first | exact Below.refl _ _ | refine Below.setCell (hp := by first | (simp; done) | (simp; omega)) ?_ _ | refine Below.alloc ?_ (by first | (simp; done) | (simp; omega)) _)
set_option maxRecDepth 100000 in
set_option maxHeartbeats 3200000 in
theorem rnorm_other (t : LT) (h1 : t.k ≠ 1) (h2 : t.k ≠ 2) (h3 : t.k ≠ 3) (h4 : t.k ≠ 4) (h5 : t.k ≠ 5) (w : World) : Calls Tryz.prog 88 #[.agg #[.int .i64 t.k, .bool t.g, .slice t.la t.ln t.lc, .bool t.bb, .string t.s, .slice t.ia t.items.length t.ic, .slice t.ta t.tail.length t.tc]] w (NPost (normT t) w) := by
  have hd : normT t = .mk t.k false [] false ⟨#[]⟩ [] [] := by
    rw [normT_leaf t h5]
    unfold leafD
    rw [if_neg h1, if_neg h2, if_neg (by omega)]
  rw [hd]
  clear hd
  generalize t.k = k at *
  have e1 : (k == 1) = false := by simp [h1]
  have e2 : (k == 2) = false := by simp [h2]
  have e3 : (k == 3) = false := by simp [h3]
  have e4 : (k == 4) = false := by simp [h4]
  have e5 : (k == 5) = false := by simp [h5]
  go_enter Tryz.func88, Tryz.ntmps88
  go_wp2_with fail
  (try simp only [Exit.inBlock, Exit.then])
  refine bodyPost_ret (v := .agg #[.int .i64 k, .bool false, .slice none 0 0, .bool false, .string ⟨#[]⟩, .slice none 0 0, .slice none 0 0]) (results_d rfl rfl (by go_simp) (by go_simp) (by go_simp) (by go_simp) (by go_simp) (by go_simp) (by go_simp)) rfl ⟨plainT k false none 0 0 [] false ⟨#[]⟩, rfl, plainT_held ⟨Sl.nil, fun h => absurd h (by decide), empty_le⟩, plainT_shape .., ?_⟩
  repeat (first | exact Below.refl _ _ | refine Below.setCell (hp := by first | (simp; done) | (simp; omega)) ?_ _ | refine Below.alloc ?_ (by first | (simp; done) | (simp; omega)) _)
set_option maxRecDepth 100000 in
set_option maxHeartbeats 3200000 in
theorem rnorm_numL (t : LT) (hk : t.k = 1) (hl : t.ln ≤ 1000) (w : World) (hs : Sl w t.la t.ln t.lc t.ys) : Calls Tryz.prog 88 #[.agg #[.int .i64 t.k, .bool t.g, .slice t.la t.ln t.lc, .bool t.bb, .string t.s, .slice t.ia t.items.length t.ic, .slice t.ta t.tail.length t.tc]] w (NPost (normT t) w) := by
  have hd : normT t = .mk 1 (decide (zOf t.g (val t.ys) < 0)) (limbs (zOf t.g (val t.ys)).natAbs) false ⟨#[]⟩ [] [] := by
    rw [normT_leaf t (by omega)]
    unfold leafD
    rw [if_pos hk]
  rw [hd, hk]
  clear hd hk
  have HW := Lib.hid (fun W (hb : Below w.heap.size w W) => (⟨t.g, _, val t.ys, rfl, ⟨t.la, t.ln, t.lc, t.ys, rfl, hs.below hb, rfl, hl⟩, rfl⟩ : Wh W (.agg #[.bool t.g, .slice t.la t.ln t.lc]) (zOf t.g (val t.ys)) 1000))
  clear hs
  go_enter Tryz.func88, Tryz.ntmps88
  go_wp2_with fail
  have hb3 : Below w.heap.size w ((w.alloc (Obj.cells #[.int .i64 1, .bool t.g, .slice t.la t.ln t.lc, .bool t.bb, .string t.s, .slice t.ia t.items.length t.ic, .slice t.ta t.tail.length t.tc] 31)).alloc (Obj.cells #[.int .i64 0, .bool false, .slice none 0 0, .bool false, .string ⟨#[]⟩, .slice none 0 0, .slice none 0 0] 31)) := ((Below.refl w.heap.size w).alloc (Nat.le_refl _) _).alloc (by simp) _
  have hz3 : ((w.alloc (Obj.cells #[.int .i64 1, .bool t.g, .slice t.la t.ln t.lc, .bool t.bb, .string t.s, .slice t.ia t.items.length t.ic, .slice t.ta t.tail.length t.tc] 31)).alloc (Obj.cells #[.int .i64 0, .bool false, .slice none 0 0, .bool false, .string ⟨#[]⟩, .slice none 0 0, .slice none 0 0] 31)).heap.size = w.heap.size + 1 + 1 := by rw [World.size_alloc, World.size_alloc]
  have hr : ((w.alloc (Obj.cells #[.int .i64 1, .bool t.g, .slice t.la t.ln t.lc, .bool t.bb, .string t.s, .slice t.ia t.items.length t.ic, .slice t.ta t.tail.length t.tc] 31)).alloc (Obj.cells #[.int .i64 0, .bool false, .slice none 0 0, .bool false, .string ⟨#[]⟩, .slice none 0 0, .slice none 0 0] 31)).heap[w.heap.size + 1]? = some (Obj.cells #[.int .i64 0, .bool false, .slice none 0 0, .bool false, .string ⟨#[]⟩, .slice none 0 0, .slice none 0 0] 31) := by have := World.alloc_heap_new (w.alloc (Obj.cells #[.int .i64 1, .bool t.g, .slice t.la t.ln t.lc, .bool t.bb, .string t.s, .slice t.ia t.items.length t.ic, .slice t.ta t.tail.length t.tc] 31)) (Obj.cells #[.int .i64 0, .bool false, .slice none 0 0, .bool false, .string ⟨#[]⟩, .slice none 0 0, .slice none 0 0] 31); rwa [World.size_alloc] at this
  have H3 := Lib.hid (And.intro hb3 (And.intro hz3 hr))
  clear hb3 hz3 hr
  refine (rwnorm_num (HW.out _ H3.out.1) (by decide)).mono ?_
  rintro e w1 ⟨v, rfl, ⟨x, rfl, A, n, c, rfl, hsl, hor⟩, b1⟩
  have hz1 : w.heap.size + 2 ≤ w1.heap.size := by have := b1.size; rw [H3.out.2.1] at this; omega
  have hr1 := (b1.block (w.heap.size + 1) (by rw [H3.out.2.1]; omega)).trans H3.out.2.2
  have hb1 := H3.out.1.trans (b1.mono (by rw [H3.out.2.1]; omega))
  have hrs := fun j => Lib.cell_of_heap hr1 j
  have r0 := hrs 0; have r1 := hrs 1; have r2 := hrs 2; have r3 := hrs 3; have r4 := hrs 4; have r5 := hrs 5; have r6 := hrs 6
  have hrf := fun j => Lib.frozen_of_heap hr1 j
  have f0 := hrf 0; have f1 := hrf 1; have f2 := hrf 2; have f3 := hrf 3; have f4 := hrf 4; have f5 := hrf 5; have f6 := hrf 6
  simp only [List.getElem?_toArray, List.getElem?_cons_zero, List.getElem?_cons_succ] at r0 r1 r2 r3 r4 r5 r6
  rw [H3.out.2.1] at hor
  have HQ := Lib.hid (And.intro hsl (And.intro hor (And.intro hb1 hz1)))
  clear hrs hrf hr1 hb1 b1 hsl hor HW
  generalize hd0 : decide (zOf t.g (val t.ys) < 0) = dg at *
  generalize hl0 : limbs (zOf t.g (val t.ys)).natAbs = lz at *
  go_wp2_with fail
  (try simp only [Exit.inBlock, Exit.then])
  refine bodyPost_ret (v := .agg #[.int .i64 1, .bool dg, .slice A n c, .bool false, .string ⟨#[]⟩, .slice none 0 0, .slice none 0 0]) (results_d rfl rfl (by go_simp) (by go_simp) (by go_simp) (by go_simp) (by go_simp) (by go_simp) (by go_simp)) rfl ⟨plainT 1 dg A n c lz false ⟨#[]⟩, rfl, ?_, plainT_shape .., ?_⟩
  · refine HeldP.low (L := w.heap.size) (U := w.heap.size + 2) (w := w1) (plainT_held ⟨HQ.out.1, fun hp => ?_, empty_le⟩) (set7_low (Low.refl w.heap.size (w.heap.size + 2) w1) (by omega) (by omega)) (by omega)
    rcases HQ.out.2.1 with ⟨h1, h2⟩ | ⟨g, cur, rfl, hg, hgc, _⟩
    · have h3 := HQ.out.1.le
      omega
    · exact Fresh.of (hg) (hgc) (by decide)
  · exact set7_below HQ.out.2.2.1 (by omega)
theorem rnorm_nl (t : LT) (h5 : t.k ≠ 5) (hl : t.ln ≤ 1000) (hs : t.s.size ≤ maxLen) (w : World) (hsl : Sl w t.la t.ln t.lc t.ys) : Calls Tryz.prog 88 #[.agg #[.int .i64 t.k, .bool t.g, .slice t.la t.ln t.lc, .bool t.bb, .string t.s, .slice t.ia t.items.length t.ic, .slice t.ta t.tail.length t.tc]] w (NPost (normT t) w) := by
  by_cases h1 : t.k = 1
  · exact rnorm_numL t h1 hl w hsl
  · by_cases h2 : t.k = 2 ∨ t.k = 3 ∨ t.k = 4
    · exact rnorm_23 t h2 hs w
    · exact rnorm_other t h1 (by omega) (by omega) (by omega) h5 w
theorem join_held {B gb2 c2' m : Nat} {ts : List LT} {x' : LT} {V : Value} {wr wA w2 : World} (hAL : AllP wA (fun q => Fresh wA (B + 3) q ∧ q < wr.heap.size ∧ V.ownBlock ≠ some q) ts) (hP : HeldP wA (Fresh wA wr.heap.size) x')
    (hk2 : ∀ q, q < wA.heap.size → V.ownBlock ≠ some q → w2.heap[q]? = wA.heap[q]?) (hVg : ∀ q, V.ownBlock = some q → B + 3 ≤ q ∧ q < wr.heap.size) (hz : wA.heap.size ≤ w2.heap.size) (hsz : B + 3 ≤ wr.heap.size)
    (own2 : w2.ownsRow (B + 3) 31 7 (.slice (some ⟨gb2, 0, none⟩) (m + x'.items.length) c2') (m + x'.items.length) (cellsAll ts ++ cellsAll x'.items)) (hm : ts.length = m) :
    HeldP w2 (Fresh w2 (B + 3)) (rowT (some ⟨gb2, 0, none⟩) c2' (ts ++ x'.items) x'.ta x'.tc x'.tail) := by
  subst hm
  have hxF : ∀ q, Fresh wA wr.heap.size q → Fresh w2 (B + 3) q ∧ w2.heap[q]? = wA.heap[q]? := fun q hq => by
    have e := hk2 q hq.lt (fun e => by have := (hVg _ e).2; have := hq.1; omega)
    exact ⟨(hq.same e).low hsz, e⟩
  have hA2 : AllP w2 (Fresh w2 (B + 3)) (ts ++ x'.items) := AllP.append
    (hAL.keep hz fun q hq => ⟨hq.1.same (hk2 q hq.1.lt hq.2.2), hk2 q hq.1.lt hq.2.2⟩)
    ((allP_of_lies _ _ _ hP.2.2.2.1).keep hz fun q hq => hxF q hq)
  have hO2 : w2.ownsRow (B + 3) 31 7 (.slice (some ⟨gb2, 0, none⟩) (ts.length + x'.items.length) c2') (ts ++ x'.items).length (cellsAll (ts ++ x'.items)) := by
    rw [List.length_append, cellsAll_append]; exact own2
  obtain ⟨ia2, ic2, he2, hs2, hl2⟩ := row_parts2 hO2 hA2
  injection he2 with e1 e2 e3
  subst e1 e3
  exact rowT_held hs2 hl2 (hP.2.2.1.mono fun q hq => (hxF q hq).1) (hP.2.2.2.2.keep hz fun q hq => hxF q hq)
theorem rowT_val (ia : Option Addr) (ic : Nat) (ts : List LT) (ta : Option Addr) (tc : Nat) (tl : List LT) (n : Nat) (h : ts.length = n) : Ending.returned (.agg #[.int .i64 5, .bool false, .slice none 0 0, .bool false, .string ⟨#[]⟩, .slice ia n ic, .slice ta tl.length tc]) = .returned (.agg #[.int .i64 (rowT ia ic ts ta tc tl).k, .bool (rowT ia ic ts ta tc tl).g, .slice (rowT ia ic ts ta tc tl).la (rowT ia ic ts ta tc tl).ln (rowT ia ic ts ta tc tl).lc, .bool (rowT ia ic ts ta tc tl).bb, .string (rowT ia ic ts ta tc tl).s, .slice (rowT ia ic ts ta tc tl).ia (rowT ia ic ts ta tc tl).items.length (rowT ia ic ts ta tc tl).ic, .slice (rowT ia ic ts ta tc tl).ta (rowT ia ic ts ta tc tl).tail.length (rowT ia ic ts ta tc tl).tc]) := by
  subst h; rfl
set_option maxRecDepth 100000 in
set_option maxHeartbeats 12800000 in
theorem rnorm_list_tree (M N : Nat) (ih : ∀ u : LT, u.size ≤ N → Tame u → ∀ w : World, M ≤ w.heap.size → Held w M u → Calls Tryz.prog 88 #[.agg #[.int .i64 u.k, .bool u.g, .slice u.la u.ln u.lc, .bool u.bb, .string u.s, .slice u.ia u.items.length u.ic, .slice u.ta u.tail.length u.tc]] w (NPost (normT u) w)) (hN : N + 1 ≤ 100000)
    (t : LT) (ht : t.size ≤ N + 1) (hk : t.k = 5) (hT : Tame t) (w : World) (hM : M ≤ w.heap.size) (hH : Held w M t) :
    Calls Tryz.prog 88 #[.agg #[.int .i64 t.k, .bool t.g, .slice t.la t.ln t.lc, .bool t.bb, .string t.s, .slice t.ia t.items.length t.ic, .slice t.ta t.tail.length t.tc]] w (NPost (normT t) w) := by
  have IH := Lib.hid ih
  have HH := Lib.hid hH
  have HTT := Lib.hid hT
  have HD := Lib.hid (normT_list t hk)
  have hszu : t.size ≤ N + 1 := ht
  have q1 : (t.k == 1) = false := beq_eq_false_iff_ne.2 (by omega)
  have q2 : (t.k == 2) = false := beq_eq_false_iff_ne.2 (by omega)
  have q3 : (t.k == 3) = false := beq_eq_false_iff_ne.2 (by omega)
  have q4 : (t.k == 4) = false := beq_eq_false_iff_ne.2 (by omega)
  have q5 : (t.k == 5) = true := beq_iff_eq.2 hk
  clear ih hT hH ht hk
  generalize normT t = d at *
  have hbX : Below w.heap.size w (((w.alloc (Obj.cells #[.int .i64 t.k, .bool t.g, .slice t.la t.ln t.lc, .bool t.bb, .string t.s, .slice t.ia t.items.length t.ic, .slice t.ta t.tail.length t.tc] 31)).alloc (Obj.cells #[.int .i64 0, .bool false, .slice none 0 0, .bool false, .string ⟨#[]⟩, .slice none 0 0, .slice none 0 0] 31)).alloc (Obj.cells #[.int .i64 5, .bool false, .slice none 0 0, .bool false, .string ⟨#[]⟩, .slice none 0 0, .slice none 0 0] 31)) := (((Below.refl _ w).alloc (Nat.le_refl _) _).alloc (by simp) _).alloc (by simp; omega) _
  have hb0 : (((w.alloc (Obj.cells #[.int .i64 t.k, .bool t.g, .slice t.la t.ln t.lc, .bool t.bb, .string t.s, .slice t.ia t.items.length t.ic, .slice t.ta t.tail.length t.tc] 31)).alloc (Obj.cells #[.int .i64 0, .bool false, .slice none 0 0, .bool false, .string ⟨#[]⟩, .slice none 0 0, .slice none 0 0] 31)).alloc (Obj.cells #[.int .i64 5, .bool false, .slice none 0 0, .bool false, .string ⟨#[]⟩, .slice none 0 0, .slice none 0 0] 31)).heap[w.heap.size]? = some (Obj.cells #[.int .i64 t.k, .bool t.g, .slice t.la t.ln t.lc, .bool t.bb, .string t.s, .slice t.ia t.items.length t.ic, .slice t.ta t.tail.length t.tc] 31) := (Below.heap_alloc _ _ _ (by simp; omega)).trans ((Below.heap_alloc _ _ _ (by simp)).trans (World.alloc_heap_new w _))
  have hb1 : (((w.alloc (Obj.cells #[.int .i64 t.k, .bool t.g, .slice t.la t.ln t.lc, .bool t.bb, .string t.s, .slice t.ia t.items.length t.ic, .slice t.ta t.tail.length t.tc] 31)).alloc (Obj.cells #[.int .i64 0, .bool false, .slice none 0 0, .bool false, .string ⟨#[]⟩, .slice none 0 0, .slice none 0 0] 31)).alloc (Obj.cells #[.int .i64 5, .bool false, .slice none 0 0, .bool false, .string ⟨#[]⟩, .slice none 0 0, .slice none 0 0] 31)).heap[w.heap.size + 1]? = some (Obj.cells #[.int .i64 0, .bool false, .slice none 0 0, .bool false, .string ⟨#[]⟩, .slice none 0 0, .slice none 0 0] 31) := (Below.heap_alloc _ _ _ (by simp)).trans (by have := World.alloc_heap_new (w.alloc (Obj.cells #[.int .i64 t.k, .bool t.g, .slice t.la t.ln t.lc, .bool t.bb, .string t.s, .slice t.ia t.items.length t.ic, .slice t.ta t.tail.length t.tc] 31)) (Obj.cells #[.int .i64 0, .bool false, .slice none 0 0, .bool false, .string ⟨#[]⟩, .slice none 0 0, .slice none 0 0] 31); rwa [World.size_alloc] at this)
  have hb2 : (((w.alloc (Obj.cells #[.int .i64 t.k, .bool t.g, .slice t.la t.ln t.lc, .bool t.bb, .string t.s, .slice t.ia t.items.length t.ic, .slice t.ta t.tail.length t.tc] 31)).alloc (Obj.cells #[.int .i64 0, .bool false, .slice none 0 0, .bool false, .string ⟨#[]⟩, .slice none 0 0, .slice none 0 0] 31)).alloc (Obj.cells #[.int .i64 5, .bool false, .slice none 0 0, .bool false, .string ⟨#[]⟩, .slice none 0 0, .slice none 0 0] 31)).heap[w.heap.size + 1 + 1]? = some (Obj.cells #[.int .i64 5, .bool false, .slice none 0 0, .bool false, .string ⟨#[]⟩, .slice none 0 0, .slice none 0 0] 31) := by
    have := World.alloc_heap_new ((w.alloc (Obj.cells #[.int .i64 t.k, .bool t.g, .slice t.la t.ln t.lc, .bool t.bb, .string t.s, .slice t.ia t.items.length t.ic, .slice t.ta t.tail.length t.tc] 31)).alloc (Obj.cells #[.int .i64 0, .bool false, .slice none 0 0, .bool false, .string ⟨#[]⟩, .slice none 0 0, .slice none 0 0] 31)) (Obj.cells #[.int .i64 5, .bool false, .slice none 0 0, .bool false, .string ⟨#[]⟩, .slice none 0 0, .slice none 0 0] 31)
    rwa [World.size_alloc, World.size_alloc] at this
  have hbz : (((w.alloc (Obj.cells #[.int .i64 t.k, .bool t.g, .slice t.la t.ln t.lc, .bool t.bb, .string t.s, .slice t.ia t.items.length t.ic, .slice t.ta t.tail.length t.tc] 31)).alloc (Obj.cells #[.int .i64 0, .bool false, .slice none 0 0, .bool false, .string ⟨#[]⟩, .slice none 0 0, .slice none 0 0] 31)).alloc (Obj.cells #[.int .i64 5, .bool false, .slice none 0 0, .bool false, .string ⟨#[]⟩, .slice none 0 0, .slice none 0 0] 31)).heap.size = w.heap.size + 1 + 1 + 1 := by rw [World.size_alloc, World.size_alloc, World.size_alloc]
  have HS := Lib.hid (show NiRel M w.heap.size (N + 1) t d w (.int .i64 0) (((w.alloc (Obj.cells #[.int .i64 t.k, .bool t.g, .slice t.la t.ln t.lc, .bool t.bb, .string t.s, .slice t.ia t.items.length t.ic, .slice t.ta t.tail.length t.tc] 31)).alloc (Obj.cells #[.int .i64 0, .bool false, .slice none 0 0, .bool false, .string ⟨#[]⟩, .slice none 0 0, .slice none 0 0] 31)).alloc (Obj.cells #[.int .i64 5, .bool false, .slice none 0 0, .bool false, .string ⟨#[]⟩, .slice none 0 0, .slice none 0 0] 31)) from by
    refine ⟨0, .slice none 0 0, [], Nat.zero_le _, rfl, hb0, hb1, hb2, ⟨World.ownsRow_nil _ _ _ _, fun _ h => by cases h⟩, Lib.hid (by rw [HD.out, shapes_nil]; rfl), ?_, Lib.hid (HH.out.keep hbX.size fun q hq => hbX.block q (by omega)), hbX, by omega⟩
    have h1 := t.size_eq
    have h2 := sizes_ge t.items
    simp only [List.length_nil]
    omega)
  clear hbX hb0 hb1 hb2 hbz
  by_cases hn : 0 < t.items.length
  · obtain ⟨haa, hgM⟩ := HH.out.2.1.2.2.1 hn
    have hcap := HH.out.2.1.2.1
    have hcl := HH.out.2.1.1
    unfold maxLen at hcap
    generalize hgb : blk t.ia = gb at *
    generalize hgo : ofs t.ia = go at *
    rw [haa] at HS ⊢
    have HA := Lib.hid haa
    clear haa
    generalize hni : t.items.length = n at *
    have HX := Lib.hid (And.intro hni (And.intro hgb hgo))
    clear hni hgb hgo
    go_enter Tryz.func88, Tryz.ntmps88
    go_wp2_with fail
    go_loopw [37] (fun i wr => NiRel M w.heap.size (N + 1) t d w i wr) (fun i _ => n - (intOf i).toNat)
    case atStart => exact HS.out
    case round =>
      obtain ⟨k, V, ts, hk, rfl, kB0, kB1, kB2, kR, kD, klen, kU, kbel, hszX⟩ := hrel
      rw [HX.out.1] at hk klen
      by_cases hlt : k < n
      · have hku : k < t.items.length := by rw [HX.out.1]; exact hlt
        have hli := (liesR_iff _ _ _).1 kU.out.2.2.2.1 k hku
        rw [HX.out.2.1, HX.out.2.2] at hli
        obtain ⟨hgbM, hcell, hheld⟩ := lies_held.1 hli
        have hsz1 := sizes_mem hku
        have hszs := t.size_eq
        have htx := tameR_at _ k hku ((tame_eq t).1 HTT.out).2.1
        obtain ⟨x, hx⟩ : ∃ x, t.items[k] = x := ⟨_, rfl⟩
        rw [hx] at hcell hheld hsz1 htx
        rw [Nat.mul_comm 7 k] at hcell
        have d0 : wr.cell? ⟨gb, go + k * 7, none⟩ = some (.int .i64 x.k) := hcell 0 _ rfl
        have d1 : wr.cell? ⟨gb, go + k * 7 + 1, none⟩ = some (.bool x.g) := hcell 1 _ rfl
        have d2 : wr.cell? ⟨gb, go + k * 7 + 2, none⟩ = some (.slice x.la x.ln x.lc) := hcell 2 _ rfl
        have d3 : wr.cell? ⟨gb, go + k * 7 + 3, none⟩ = some (.bool x.bb) := hcell 3 _ rfl
        have d4 : wr.cell? ⟨gb, go + k * 7 + 4, none⟩ = some (.string x.s) := hcell 4 _ rfl
        have d5 : wr.cell? ⟨gb, go + k * 7 + 5, none⟩ = some (.slice x.ia x.items.length x.ic) := hcell 5 _ rfl
        have d6 : wr.cell? ⟨gb, go + k * 7 + 6, none⟩ = some (.slice x.ta x.tail.length x.tc) := hcell 6 _ rfl
        have hbw6 : Below wr.heap.size wr (wr.alloc (Obj.cells #[.int .i64 x.k, .bool x.g, .slice x.la x.ln x.lc, .bool x.bb, .string x.s, .slice x.ia x.items.length x.ic, .slice x.ta x.tail.length x.tc] 31)) := (Below.refl _ wr).alloc (Nat.le_refl _) _
        have hbelS := kbel.size
        have HC := Lib.hid (IH.out x (by omega) htx (wr.alloc (Obj.cells #[.int .i64 x.k, .bool x.g, .slice x.la x.ln x.lc, .bool x.bb, .string x.s, .slice x.ia x.items.length x.ic, .slice x.ta x.tail.length x.tc] 31)).drew (by show M ≤ (wr.alloc (Obj.cells #[.int .i64 x.k, .bool x.g, .slice x.la x.ln x.lc, .bool x.bb, .string x.s, .slice x.ia x.items.length x.ic, .slice x.ta x.tail.length x.tc] 31)).heap.size; have := hbw6.size; omega) (Held.keep (w := wr) hheld (by show wr.heap.size ≤ (wr.alloc (Obj.cells #[.int .i64 x.k, .bool x.g, .slice x.la x.ln x.lc, .bool x.bb, .string x.s, .slice x.ia x.items.length x.ic, .slice x.ta x.tail.length x.tc] 31)).heap.size; exact hbw6.size) fun q hq => (by show (wr.alloc (Obj.cells #[.int .i64 x.k, .bool x.g, .slice x.la x.ln x.lc, .bool x.bb, .string x.s, .slice x.ia x.items.length x.ic, .slice x.ta x.tail.length x.tc] 31)).heap[q]? = wr.heap[q]?; exact hbw6.block q (by omega))))
        clear hli hcell hheld hsz1 htx
        go_wp2_with fail
        have own6 : (wr.alloc (Obj.cells #[.int .i64 x.k, .bool x.g, .slice x.la x.ln x.lc, .bool x.bb, .string x.s, .slice x.ia x.items.length x.ic, .slice x.ta x.tail.length x.tc] 31)).ownsRow (w.heap.size + 3) 31 7 V ts.length (cellsAll ts) := kR.1.alloc _
        have e5 : (wr.alloc (Obj.cells #[.int .i64 x.k, .bool x.g, .slice x.la x.ln x.lc, .bool x.bb, .string x.s, .slice x.ia x.items.length x.ic, .slice x.ta x.tail.length x.tc] 31)).cell? ⟨w.heap.size + 1 + 1, 5, none⟩ = some V := (hbw6.cell (p := ⟨w.heap.size + 1 + 1, 5, none⟩) (by show w.heap.size + 1 + 1 < wr.heap.size; omega)).trans (by rw [Lib.cell_of_heap kB2]; rfl)
        have f5 : (wr.alloc (Obj.cells #[.int .i64 x.k, .bool x.g, .slice x.la x.ln x.lc, .bool x.bb, .string x.s, .slice x.ia x.items.length x.ic, .slice x.ta x.tail.length x.tc] 31)).frozen? ⟨w.heap.size + 1 + 1, 5, none⟩ = false := (hbw6.frozen (p := ⟨w.heap.size + 1 + 1, 5, none⟩) (by show w.heap.size + 1 + 1 < wr.heap.size; omega)).trans (Lib.frozen_of_heap kB2 5)
        have hc := fun j => Lib.cell_of_heap (World.alloc_heap_new wr (Obj.cells #[.int .i64 x.k, .bool x.g, .slice x.la x.ln x.lc, .bool x.bb, .string x.s, .slice x.ia x.items.length x.ic, .slice x.ta x.tail.length x.tc] 31)) j
        have g0 := hc 0; have g1 := hc 1; have g2 := hc 2; have g3 := hc 3; have g4 := hc 4; have g5 := hc 5; have g6 := hc 6
        have hz6 : (wr.alloc (Obj.cells #[.int .i64 x.k, .bool x.g, .slice x.la x.ln x.lc, .bool x.bb, .string x.s, .slice x.ia x.items.length x.ic, .slice x.ta x.tail.length x.tc] 31)).heap.size = wr.heap.size + 1 := World.size_alloc ..
        simp only [List.getElem?_toArray, List.getElem?_cons_zero, List.getElem?_cons_succ] at g0 g1 g2 g3 g4 g5 g6
        obtain ⟨W6, hW6⟩ : ∃ W6, wr.alloc (Obj.cells #[.int .i64 x.k, .bool x.g, .slice x.la x.ln x.lc, .bool x.bb, .string x.s, .slice x.ia x.items.length x.ic, .slice x.ta x.tail.length x.tc] 31) = W6 := ⟨_, rfl⟩
        rw [hW6] at own6 hbw6 e5 f5 g0 g1 g2 g3 g4 g5 g6 hz6 HC ⊢
        have HI := Lib.hid (And.intro kB0 (And.intro kB1 (And.intro kB2 (And.intro kbel hbw6))))
        have HO := Lib.hid own6
        have HR := Lib.hid kR
        have hVg : ∀ g, V.ownBlock = some g → w.heap.size + 3 ≤ g := fun g h => (kR.1.lt g h).1
        have neB : some (w.heap.size + 1 + 1) ≠ V.ownBlock := fun h => by have := kR.1.lt _ h.symm; omega
        have neI : some wr.heap.size ≠ V.ownBlock := fun h => by have := kR.1.lt _ h.symm; omega
        have hts9 : ts.length ≤ 100000 := by omega
        clear hc d0 d1 d2 d3 d4 d5 d6 kB0 kB1 kB2 kbel kR own6 hW6 hbw6 hVg
        generalize hmm : ts.length = m at *
        have HMM := Lib.hid hmm
        clear hmm
        obtain ⟨i0, hi0, hz0, hz1, hz2⟩ := info_parts infoD
        have hmix : Tryz.prog.follows .mixedOrders = true := by kernel_rfl
        have e5d : W6.drew.cell? ⟨w.heap.size + 1 + 1, 5, none⟩ = some V := e5
        have g0d := show W6.drew.cell? ⟨wr.heap.size, 0, none⟩ = _ from g0
        have g1d := show W6.drew.cell? ⟨wr.heap.size, 1, none⟩ = _ from g1
        have g2d := show W6.drew.cell? ⟨wr.heap.size, 2, none⟩ = _ from g2
        have g3d := show W6.drew.cell? ⟨wr.heap.size, 3, none⟩ = _ from g3
        have g4d := show W6.drew.cell? ⟨wr.heap.size, 4, none⟩ = _ from g4
        have g5d := show W6.drew.cell? ⟨wr.heap.size, 5, none⟩ = _ from g5
        have g6d := show W6.drew.cell? ⟨wr.heap.size, 6, none⟩ = _ from g6
        go_region_law
          (first
            | (refine step_call 88 #[.agg #[.int .i64 x.k, .bool x.g, .slice x.la x.ln x.lc, .bool x.bb, .string x.s, .slice x.ia x.items.length x.ic, .slice x.ta x.tail.length x.tc]] (by rfl) (by simp [execOp, Act.eval, go_sem]) (HC.out.mono ?_); rintro e w7 ⟨x', rfl, hP7, hsh7, b7⟩; refine ⟨_, rfl, ?_⟩; have c7 : Below W6.heap.size W6 w7 := (⟨b7.os, b7.tape, b7.output, b7.size, b7.block⟩); clear b7; have g7s := And.intro ((c7.cell (p := ⟨wr.heap.size, 0, none⟩) (by show wr.heap.size < W6.heap.size; omega)).trans g0) (And.intro ((c7.cell (p := ⟨wr.heap.size, 1, none⟩) (by show wr.heap.size < W6.heap.size; omega)).trans g1) (And.intro ((c7.cell (p := ⟨wr.heap.size, 2, none⟩) (by show wr.heap.size < W6.heap.size; omega)).trans g2) (And.intro ((c7.cell (p := ⟨wr.heap.size, 3, none⟩) (by show wr.heap.size < W6.heap.size; omega)).trans g3) (And.intro ((c7.cell (p := ⟨wr.heap.size, 4, none⟩) (by show wr.heap.size < W6.heap.size; omega)).trans g4) (And.intro ((c7.cell (p := ⟨wr.heap.size, 5, none⟩) (by show wr.heap.size < W6.heap.size; omega)).trans g5) ((c7.cell (p := ⟨wr.heap.size, 6, none⟩) (by show wr.heap.size < W6.heap.size; omega)).trans g6)))))); obtain ⟨q0, q1, q2, q3, q4, q5, q6⟩ := g7s; have e7 := (c7.cell (p := ⟨w.heap.size + 1 + 1, 5, none⟩) (by show w.heap.size + 1 + 1 < W6.heap.size; omega)).trans e5; have e7a : ∀ o : Obj, (w7.alloc o).cell? ⟨w.heap.size + 1 + 1, 5, none⟩ = some V := fun o => (World.cell?_of_block (w := w7) (Below.heap_alloc w7 o _ (by have := c7.size; show w.heap.size + 1 + 1 < w7.heap.size; omega))).trans e7; have HP7 := Lib.hid (And.intro hP7 hsh7); clear hP7 hsh7)
            | (refine step_append_lies _ (by rfl) (.tmp 42) (.tmp 45) 23 (by rfl) (w.heap.size + 3) 31 i0 (.agg #[.int .i64 0, .bool false, .slice none 0 0, .bool false, .string ⟨#[]⟩, .slice none 0 0, .slice none 0 0]) 7 112 Tryz.underlying23 hi0 hz0 hz1 hz2 rfl (by omega) V m (cellsAll ts) (by rfl) ((own_below7 HO.out c7).alloc _)
                ⟨w7.heap.size, 0, none⟩ 1 1 x'.cells (by rfl) (by rfl) (cells_news (heap_alloc_new _ _)) (lt_one _) (by omega) (by unfold maxLen; omega) (by omega) (by have := c7.size; simp; omega) (w7.heap.size + 1) (by simp) ?_; intro gg cap w8 own8 hgrow8 hat hlt8; have e8 := after_app c7 hgrow8 e5 neB; have f8 := frozen_app (a := ⟨w.heap.size + 1 + 1, 5, none⟩) c7 hgrow8 (by show w.heap.size + 1 + 1 < W6.heap.size; omega) f5 neB; have h0 := after_app c7 hgrow8 g0 neI; have h1 := after_app c7 hgrow8 g1 neI; have h2 := after_app c7 hgrow8 g2 neI; have h3 := after_app c7 hgrow8 g3 neI; have h4 := after_app c7 hgrow8 g4 neI; have h5' := after_app c7 hgrow8 g5 neI; have h6 := after_app c7 hgrow8 g6 neI; have far8 : ∀ (x : Value) (j : Nat), (w8.setCell ⟨w.heap.size + 1 + 1, 5, none⟩ x).cell? ⟨wr.heap.size, j, none⟩ = w8.cell? ⟨wr.heap.size, j, none⟩ := fun x j => World.cell?_of_block (Below.heap_setCell _ _ _ _ (by show wr.heap.size ≠ w.heap.size + 1 + 1; omega)))
            | fail)
        all_goals
          go_wp2_with fail
          go_roundw
          case rel =>
            obtain rfl := HMM.out
            exact ni_next hku hM HI.out HR.out HP7.out.1 (by omega) kU.out hszX c7 hgrow8 hat own8 kD.out (by rw [hx]; exact HP7.out.2) (by rw [HX.out.1]; exact klen) _ (by omega)
          case measure => simp [intOf]; omega
      · obtain rfl : k = n := by omega
        replace kD := Lib.hid (show closeD (shapes ts ++ (spineR t.tail).1, (spineR t.tail).2) = d by have h := kD.out; rw [← HX.out.1, List.drop_length, normR_nil, List.nil_append] at h; exact h)
        have hszs := t.size_eq
        clear hlt hgM hcap hcl
        have hsz3 := hszX
        have hI5 := Lib.cell_of_heap kB0 6
        simp only [List.getElem?_toArray, List.getElem?_cons_zero, List.getElem?_cons_succ] at hI5
        by_cases ht0 : t.tail.length = 0
        · rw [ht0] at hI5
          obtain ⟨ia, ic, rfl, hsp, hli⟩ := row_parts kR
          have hos := fun j => Lib.cell_of_heap kB2 j
          have o0 := hos 0; have o1 := hos 1; have o2 := hos 2; have o3 := hos 3; have o4 := hos 4; have o5 := hos 5; have o6 := hos 6
          have hrs := fun j => Lib.cell_of_heap kB1 j
          have r0 := hrs 0; have r1 := hrs 1; have r2 := hrs 2; have r3 := hrs 3; have r4 := hrs 4; have r5 := hrs 5; have r6 := hrs 6
          have hrf := fun j => Lib.frozen_of_heap kB1 j
          have f0 := hrf 0; have f1 := hrf 1; have f2 := hrf 2; have f3 := hrf 3; have f4 := hrf 4; have f5 := hrf 5; have f6 := hrf 6
          simp only [List.getElem?_toArray, List.getElem?_cons_zero, List.getElem?_cons_succ] at o0 o1 o2 o3 o4 o5 o6 r0 r1 r2 r3 r4 r5 r6
          have HZ := Lib.hid (And.intro hsp (And.intro hli (And.intro kbel (show d = .mk 5 false [] false ⟨#[]⟩ (shapes ts) [] by
            have h := kD.out
            rw [List.length_eq_zero_iff.1 ht0, spineR_nil] at h
            simp only [List.append_nil] at h
            rw [← h, close_none]))))
          clear hos hrs hrf kB0 kB1 kB2 kR kbel hsp hli
          generalize hnt : ts.length = m at *
          have HM := Lib.hid hnt
          clear hnt
          go_wp2_with fail
          (try simp only [Exit.inBlock, Exit.then])
          refine bodyPost_ret (v := .agg #[.int .i64 5, .bool false, .slice none 0 0, .bool false, .string ⟨#[]⟩, .slice ia m ic, .slice none 0 0]) (results_d rfl rfl (by go_simp) (by go_simp) (by go_simp) (by go_simp) (by go_simp) (by go_simp <;> rfl) (by go_simp)) rfl ⟨rowT ia ic ts none 0 [], by rw [← HM.out]; rfl, ?_, ?_, ?_⟩
          · exact HeldP.low (rowT_held (by rw [HM.out]; exact HZ.out.1) HZ.out.2.1 (spotP_nil _) (by rw [liesPR_nil]; trivial)) (set7_low (Low.refl w.heap.size (w.heap.size + 3) _) (by omega) (by omega)) (by omega)
          · rw [rowT_shape, HZ.out.2.2.2, shapes_nil]
          · exact set7_below HZ.out.2.2.1 (by omega)
        · obtain ⟨y, ys, hy0⟩ : ∃ y ys, t.tail = y :: ys := by
            cases hc : t.tail with
            | nil => exact absurd (by rw [hc]; rfl) ht0
            | cons y ys => exact ⟨y, ys, rfl⟩
          have HYY := Lib.hid hy0
          obtain ⟨hta, htM⟩ := kU.out.2.2.1.2.2.1 (by omega)
          have htc := kU.out.2.2.1.2.1
          have htl := kU.out.2.2.1.1
          unfold maxLen at htc
          have htR := kU.out.2.2.2.2
          rw [HYY.out, liesR_cons] at htR
          obtain ⟨_, hyc, hyh⟩ := lies_held.1 htR.1
          rw [hta] at hI5
          have y0 : wr.cell? ⟨blk t.ta, ofs t.ta, none⟩ = some (.int .i64 y.k) := hyc 0 _ rfl
          have y1 : wr.cell? ⟨blk t.ta, ofs t.ta + 1, none⟩ = some (.bool y.g) := hyc 1 _ rfl
          have y2 : wr.cell? ⟨blk t.ta, ofs t.ta + 2, none⟩ = some (.slice y.la y.ln y.lc) := hyc 2 _ rfl
          have y3 : wr.cell? ⟨blk t.ta, ofs t.ta + 3, none⟩ = some (.bool y.bb) := hyc 3 _ rfl
          have y4 : wr.cell? ⟨blk t.ta, ofs t.ta + 4, none⟩ = some (.string y.s) := hyc 4 _ rfl
          have y5 : wr.cell? ⟨blk t.ta, ofs t.ta + 5, none⟩ = some (.slice y.ia y.items.length y.ic) := hyc 5 _ rfl
          have y6 : wr.cell? ⟨blk t.ta, ofs t.ta + 6, none⟩ = some (.slice y.ta y.tail.length y.tc) := hyc 6 _ rfl
          generalize blk t.ta = tb at *
          generalize ofs t.ta = to at *
          have htz : (((t.tail.length : Nat) : Int) == 0) = false := beq_eq_false_iff_ne.2 (by omega)
          have htp : 0 < t.tail.length := by omega
          have hlb : sizes t.tail = y.size + sizes ys := by rw [HYY.out]; rfl
          have hTy : Tame y := by
            have h := ((tame_eq t).1 HTT.out).2.2
            rw [HYY.out] at h
            exact h.1
          have hyN : y.size ≤ N := by omega
          have hwM : M ≤ wr.heap.size := by omega
          have HC := Lib.hid (IH.out y hyN hTy wr hwM hyh)
          have HSZ := Lib.hid (show sizeD (normT y) ≤ 200000 by have := size_norm y; omega)
          have hSP : ∀ e, (spineR t.tail).2 = some e → e.k ≠ 5 := spineR_leaf t.tail
          have hNY : normT y = closeD ((spineR t.tail).1, (spineR t.tail).2) := by rw [HYY.out, spineR_cons]; rfl
          have HNY := Lib.hid (And.intro hSP hNY)
          clear hSP hNY
          generalize t.tail.length = tm at *
          clear hta hy0 hyc hyh htR hTy ht0
          have HZ := Lib.hid (And.intro kB1 (And.intro kB2 (And.intro kR kbel)))
          have hVg : ∀ q, V.ownBlock = some q → w.heap.size + 3 ≤ q ∧ q < wr.heap.size := fun q h => kR.1.lt q h
          have HVG := Lib.hid hVg
          clear kB0 kB1 kB2 kR kbel hVg
          go_wp2_with fail
          clear y0 y1 y2 y3 y4 y5 y6 hI5
          refine HC.out.mono ?_
          rintro e w1 ⟨x', rfl, hP, hsh, b1⟩
          have hz1 := b1.size
          have hba : Below w1.heap.size w1 (w1.alloc (Obj.cells #[.int .i64 x'.k, .bool x'.g, .slice x'.la x'.ln x'.lc, .bool x'.bb, .string x'.s, .slice x'.ia x'.items.length x'.ic, .slice x'.ta x'.tail.length x'.tc] 31)) := (Below.refl _ _).alloc (Nat.le_refl _) _
          have hzA : (w1.alloc (Obj.cells #[.int .i64 x'.k, .bool x'.g, .slice x'.la x'.ln x'.lc, .bool x'.bb, .string x'.s, .slice x'.ia x'.items.length x'.ic, .slice x'.ta x'.tail.length x'.tc] 31)).heap.size = w1.heap.size + 1 := World.size_alloc ..
          have kB1 := (hba.block (w.heap.size + 1) (by omega)).trans ((b1.block (w.heap.size + 1) (by omega)).trans HZ.out.1)
          have kB2 := (hba.block (w.heap.size + 1 + 1) (by omega)).trans ((b1.block (w.heap.size + 1 + 1) (by omega)).trans HZ.out.2.1)
          have kN := World.alloc_heap_new w1 (Obj.cells #[.int .i64 x'.k, .bool x'.g, .slice x'.la x'.ln x'.lc, .bool x'.bb, .string x'.s, .slice x'.ia x'.items.length x'.ic, .slice x'.ta x'.tail.length x'.tc] 31)
          have hbA : Below wr.heap.size wr (w1.alloc (Obj.cells #[.int .i64 x'.k, .bool x'.g, .slice x'.la x'.ln x'.lc, .bool x'.bb, .string x'.s, .slice x'.ia x'.items.length x'.ic, .slice x'.ta x'.tail.length x'.tc] 31)) := b1.trans (hba.mono (by omega))
          have hx9 : x'.items.length ≤ 200000 := items_bd x' _ _ hsh HSZ.out
          have hPA : HeldP (w1.alloc (Obj.cells #[.int .i64 x'.k, .bool x'.g, .slice x'.la x'.ln x'.lc, .bool x'.bb, .string x'.s, .slice x'.ia x'.items.length x'.ic, .slice x'.ta x'.tail.length x'.tc] 31)) (Fresh (w1.alloc (Obj.cells #[.int .i64 x'.k, .bool x'.g, .slice x'.la x'.ln x'.lc, .bool x'.bb, .string x'.s, .slice x'.ia x'.items.length x'.ic, .slice x'.ta x'.tail.length x'.tc] 31)) wr.heap.size) x' := hP.below hba (Nat.le_refl _)
          obtain ⟨n0, n1, n2, n3, n4, n5, n6⟩ := cells7 kN
          obtain ⟨r0, r1, r2, r3, r4, r5, r6⟩ := cells7 kB1
          obtain ⟨f0, f1, f2, f3, f4, f5, f6⟩ := frozen7 kB1
          obtain ⟨o0, o1, o2, o3, o4, o5, o6⟩ := cells7 kB2
          obtain ⟨_, _, _, _, _, p5, p6⟩ := frozen7 kB2
          have HY := Lib.hid (And.intro hPA (And.intro hsh (And.intro (HZ.out.2.2.2.trans (hbA.mono (by omega))) (And.intro hbA (And.intro kB1 (And.intro kB2 kN))))))
          clear hP hsh b1 hba hbA hPA kB1 kB2 kN
          by_cases h0 : ts.length = 0
          · obtain ⟨ia, ic, rfl, _, _⟩ := row_parts HZ.out.2.2.1
            rw [h0] at o5
            go_wp2_with fail
            (try simp only [Exit.inBlock, Exit.then])
            refine bodyPost_ret (v := .agg #[.int .i64 x'.k, .bool x'.g, .slice x'.la x'.ln x'.lc, .bool x'.bb, .string x'.s, .slice x'.ia x'.items.length x'.ic, .slice x'.ta x'.tail.length x'.tc]) (results_d rfl rfl (by go_simp) (by go_simp) (by go_simp) (by go_simp) (by go_simp) (by go_simp <;> rfl) (by go_simp)) rfl ⟨x', rfl, ?_, ?_, ?_⟩
            · exact HeldP.low (U := w.heap.size + 3) (HY.out.1.keep (Nat.le_refl _) fun q hq => ⟨hq.low (by omega), rfl⟩) (set7_low (Low.refl w.heap.size (w.heap.size + 3) _) (by omega) (by omega)) (by omega)
            · have h := kD.out
              rw [List.length_eq_zero_iff.1 h0, shapes_nil, List.nil_append, ← HNY.out.2] at h
              exact HY.out.2.1.trans h
            · exact set7_below HY.out.2.2.1 (by omega)
          · have hts : shapes ts ≠ [] := fun h => h0 (by rw [← shapes_length, h]; rfl)
            have e6 : (((ts.length : Nat) : Int) == 0) = false := beq_eq_false_iff_ne.2 (by omega)
            have hts1 : 1 ≤ ts.length := by omega
            have hts9 : ts.length ≤ 100000 := by omega
            have hown := own_below7 HZ.out.2.2.1.1 HY.out.2.2.2.1
            have HAL := Lib.hid (show AllP (w1.alloc (Obj.cells #[.int .i64 x'.k, .bool x'.g, .slice x'.la x'.ln x'.lc, .bool x'.bb, .string x'.s, .slice x'.ia x'.items.length x'.ic, .slice x'.ta x'.tail.length x'.tc] 31)) (fun q => Fresh (w1.alloc (Obj.cells #[.int .i64 x'.k, .bool x'.g, .slice x'.la x'.ln x'.lc, .bool x'.bb, .string x'.s, .slice x'.ia x'.items.length x'.ic, .slice x'.ta x'.tail.length x'.tc] 31)) (w.heap.size + 3) q ∧ q < wr.heap.size ∧ V.ownBlock ≠ some q) ts from
              HZ.out.2.2.1.2.keep HY.out.2.2.2.1.size fun q hq => ⟨⟨hq.1.same (HY.out.2.2.2.1.block q hq.1.lt), hq.1.lt, hq.2⟩, HY.out.2.2.2.1.block q hq.1.lt⟩)
            by_cases hx5 : x'.k = 5
            · have hj := close_join (shapes ts) _ _ x' (HY.out.2.1.trans HNY.out.2) hx5 HNY.out.1
              rw [kD.out] at hj
              have HJ := Lib.hid hj
              have q5' : (x'.k == 5) = true := beq_iff_eq.2 hx5
              clear hj hx5 h0 q5
              obtain ⟨ia, ic, hVe, hsp, hli⟩ := row_parts HZ.out.2.2.1
              generalize hmm : ts.length = m at *
              have HMM := Lib.hid hmm
              have HO := Lib.hid hown
              have HVE := Lib.hid (And.intro hVe (And.intro hsp hli))
              clear hown hmm hsp hli
              obtain ⟨i0, hi0, hz0, hz1', hz2⟩ := info_parts infoD
              obtain hxi | ⟨ad, hxi⟩ : x'.ia = none ∨ ∃ ad, x'.ia = some ad := by cases x'.ia <;> simp
              · have hn0 : x'.items.length = 0 := by
                  rcases Nat.eq_zero_or_pos x'.items.length with h | h
                  · exact h
                  · have := (HY.out.1.2.1.2.2.1 h).1
                    rw [hxi] at this
                    cases this
                have hc0 : x'.ic = 0 := HY.out.1.2.1.2.2.2 hxi
                have n5n : (w1.alloc (Obj.cells #[.int .i64 x'.k, .bool x'.g, .slice x'.la x'.ln x'.lc, .bool x'.bb, .string x'.s, .slice x'.ia x'.items.length x'.ic, .slice x'.ta x'.tail.length x'.tc] 31)).cell? ⟨w1.heap.size, 5, none⟩ = some (.slice none 0 0) := by rw [n5, hxi, hn0, hc0]
                clear n5
                have HN0 := Lib.hid hn0
                clear hxi hn0 hc0
                rw [hVe] at o5
                clear hVe
                go_wp2_with (at_builtin; refine wpList_append_own_none rfl (.tmp 73) (.tmp 75) 23 rfl (w.heap.size + 3) 31 i0 7 Tryz.underlying23 hi0 _ m (cellsAll ts) rfl (HVE.out.1 ▸ HO.out) rfl ?_)
                (try simp only [Exit.inBlock, Exit.then])
                refine bodyPost_ret (v := .agg #[.int .i64 5, .bool false, .slice none 0 0, .bool false, .string ⟨#[]⟩, .slice ia m ic, .slice x'.ta x'.tail.length x'.tc]) (results_d rfl rfl (by go_simp) (by go_simp) (by go_simp) (by go_simp) (by go_simp) (by go_simp <;> rfl) (by go_simp)) rfl ⟨rowT ia ic ts x'.ta x'.tc x'.tail, by rw [← HMM.out]; rfl, ?_, ?_, ?_⟩
                · refine HeldP.low (L := w.heap.size) (U := w.heap.size + 3) (w := w1.alloc (Obj.cells #[.int .i64 x'.k, .bool x'.g, .slice x'.la x'.ln x'.lc, .bool x'.bb, .string x'.s, .slice x'.ia x'.items.length x'.ic, .slice x'.ta x'.tail.length x'.tc] 31)) (rowT_held ?_ ?_ ?_ ?_) (set7_low (((Low.refl w.heap.size (w.heap.size + 3) _).setCell (p := ⟨w.heap.size + 1 + 1, 5, none⟩) (by show w.heap.size ≤ w.heap.size + 1 + 1; omega) (by show w.heap.size + 1 + 1 < w.heap.size + 3; omega) _).setCell (p := ⟨w.heap.size + 1 + 1, 6, none⟩) (by show w.heap.size ≤ w.heap.size + 1 + 1; omega) (by show w.heap.size + 1 + 1 < w.heap.size + 3; omega) _) (by omega) (by omega)) (by omega)
                  · rw [HMM.out]
                    exact HVE.out.2.1.mono fun q hq => hq.same (HY.out.2.2.2.1.block q hq.lt)
                  · exact HVE.out.2.2.keep HY.out.2.2.2.1.size fun q hq => ⟨hq.same (HY.out.2.2.2.1.block q hq.lt), HY.out.2.2.2.1.block q hq.lt⟩
                  · exact HY.out.1.2.2.1.mono fun q hq => hq.low (by omega)
                  · exact HY.out.1.2.2.2.2.keep (Nat.le_refl _) fun q hq => ⟨hq.low (by omega), rfl⟩
                · rw [rowT_shape, HJ.out, List.length_eq_zero_iff.1 HN0.out, shapes_nil, List.append_nil]
                · exact set7_below ((HY.out.2.2.1.setCell (p := ⟨w.heap.size + 1 + 1, 5, none⟩) (by show w.heap.size ≤ w.heap.size + 1 + 1; omega) _).setCell (p := ⟨w.heap.size + 1 + 1, 6, none⟩) (by show w.heap.size ≤ w.heap.size + 1 + 1; omega) _) (by omega)
              · have n5n : (w1.alloc (Obj.cells #[.int .i64 x'.k, .bool x'.g, .slice x'.la x'.ln x'.lc, .bool x'.bb, .string x'.s, .slice x'.ia x'.items.length x'.ic, .slice x'.ta x'.tail.length x'.tc] 31)).cell? ⟨w1.heap.size, 5, none⟩ = some (.slice (some ad) x'.items.length x'.ic) := by rw [n5, hxi]
                clear n5
                have HN2 := Lib.hid (show ∀ j u, (cellsAll x'.items)[j]? = some u → (w1.alloc (Obj.cells #[.int .i64 x'.k, .bool x'.g, .slice x'.la x'.ln x'.lc, .bool x'.bb, .string x'.s, .slice x'.ia x'.items.length x'.ic, .slice x'.ta x'.tail.length x'.tc] 31)).cell? (ad.add j) = some u from by
                  intro j u hj
                  rcases Nat.eq_zero_or_pos x'.items.length with h | h
                  · rw [List.length_eq_zero_iff.1 h] at hj
                    simp [cellsAll] at hj
                  · have h1 := (HY.out.1.2.1.2.2.1 h).1
                    have h3 := Option.some.inj (hxi.symm.trans h1)
                    rw [h3, cell_add]
                    have h2 := cells_of_lies x'.items _ _ HY.out.1.2.2.2.1 j u hj
                    exact h2)
                clear hxi
                rw [hVe] at o5
                have hVo : V.ownBlock = Value.ownBlock (.slice ia m ic) := by rw [hVe]
                have HVO := Lib.hid hVo
                clear hVe hVo
                have hOI := HO.out
                rw [HVE.out.1] at hOI
                have HOI := Lib.hid hOI
                clear hOI
                go_wp2_with (at_builtin; refine wpList_append_own _ rfl (.tmp 73) (.tmp 75) 23 rfl (w.heap.size + 3) 31 i0 (.agg #[.int .i64 0, .bool false, .slice none 0 0, .bool false, .string ⟨#[]⟩, .slice none 0 0, .slice none 0 0]) 7 112 Tryz.underlying23 hi0 hz0 hz1' hz2 rfl (by decide) (.slice ia m ic) m (cellsAll ts) rfl ?h1 ad x'.items.length _ (cellsAll x'.items) rfl ?h2 ?h3 ?h4 ?h5 ?h6 ?h7 ?h8)
                case h1 => exact HOI.out
                case h2 => exact cellsAll_length _
                case h3 => exact HN2.out
                case h4 => exact cellsAll_one _
                case h5 => unfold maxLen; omega
                case h6 => omega
                case h7 => omega
                case h8 =>
                  intro v1 w2 own2 grow2 _
                  obtain ⟨gb2, c2', rfl, hgb2⟩ := own_open7 own2 (by omega)
                  have hz2w := grow2.size
                  have hk2 : ∀ q, q < (w1.alloc (Obj.cells #[.int .i64 x'.k, .bool x'.g, .slice x'.la x'.ln x'.lc, .bool x'.bb, .string x'.s, .slice x'.ia x'.items.length x'.ic, .slice x'.ta x'.tail.length x'.tc] 31)).heap.size → V.ownBlock ≠ some q → w2.heap[q]? = (w1.alloc (Obj.cells #[.int .i64 x'.k, .bool x'.g, .slice x'.la x'.ln x'.lc, .bool x'.bb, .string x'.s, .slice x'.ia x'.items.length x'.ic, .slice x'.ta x'.tail.length x'.tc] 31)).heap[q]? := (fun q h1 h2 => grow2.block q h1 (fun e => h2 (HVO.out.trans e.symm)))
                  have mB1 := (hk2 (w.heap.size + 1) (by omega) (fun e => by have := (HVG.out _ e).1; omega)).trans HY.out.2.2.2.2.1
                  have mB2 := (hk2 (w.heap.size + 1 + 1) (by omega) (fun e => by have := (HVG.out _ e).1; omega)).trans HY.out.2.2.2.2.2.1
                  have mN := (hk2 w1.heap.size (by omega) (fun e => by have := (HVG.out _ e).2; omega)).trans HY.out.2.2.2.2.2.2
                  obtain ⟨n0', n1', n2', n3', n4', n5', n6'⟩ := cells7 mN
                  obtain ⟨r0', r1', r2', r3', r4', r5', r6'⟩ := cells7 mB1
                  obtain ⟨f0', f1', f2', f3', f4', f5', f6'⟩ := frozen7 mB1
                  obtain ⟨o0', o1', o2', o3', o4', o5', o6'⟩ := cells7 mB2
                  obtain ⟨_, _, _, _, _, p5', p6'⟩ := frozen7 mB2
                  have HG := Lib.hid (And.intro own2 (And.intro grow2 hk2))
                  clear own2 grow2 hk2 mB1 mB2 mN n0 n1 n2 n3 n4 n5n n6 r0 r1 r2 r3 r4 r5 r6 f0 f1 f2 f3 f4 f5 f6 o0 o1 o2 o3 o4 o5 o6 p5 p6
                  go_wp2_with fail
                  (try simp only [Exit.inBlock, Exit.then])
                  refine bodyPost_ret (v := .agg #[.int .i64 5, .bool false, .slice none 0 0, .bool false, .string ⟨#[]⟩, .slice (some ⟨gb2, 0, none⟩) (m + x'.items.length) c2', .slice x'.ta x'.tail.length x'.tc]) (results_d rfl rfl (by go_simp) (by go_simp) (by go_simp) (by go_simp) (by go_simp) (by go_simp <;> rfl) (by go_simp)) rfl ⟨rowT (some ⟨gb2, 0, none⟩) c2' (ts ++ x'.items) x'.ta x'.tc x'.tail, rowT_val _ _ _ _ _ _ _ (by rw [List.length_append, HMM.out]), ?_, ?_, ?_⟩
                  · exact HeldP.low (L := w.heap.size) (U := w.heap.size + 3) (w := w2) (join_held HAL.out HY.out.1 HG.out.2.2 HVG.out hz2w hszX HG.out.1 HMM.out) (set7_low (((Low.refl w.heap.size (w.heap.size + 3) _).setCell (p := ⟨w.heap.size + 1 + 1, 5, none⟩) (by show w.heap.size ≤ w.heap.size + 1 + 1; omega) (by show w.heap.size + 1 + 1 < w.heap.size + 3; omega) _).setCell (p := ⟨w.heap.size + 1 + 1, 6, none⟩) (by show w.heap.size ≤ w.heap.size + 1 + 1; omega) (by show w.heap.size + 1 + 1 < w.heap.size + 3; omega) _) (by omega) (by omega)) (by omega)
                  · rw [rowT_shape, HJ.out, shapes_append]
                  · have hb2 : Below w.heap.size w w2 := HY.out.2.2.1.grown HG.out.2.1 (by omega) (fun q hq => by have := (HVG.out q (HVO.out.trans hq)).1; omega)
                    exact set7_below ((hb2.setCell (p := ⟨w.heap.size + 1 + 1, 5, none⟩) (by show w.heap.size ≤ w.heap.size + 1 + 1; omega) _).setCell (p := ⟨w.heap.size + 1 + 1, 6, none⟩) (by show w.heap.size ≤ w.heap.size + 1 + 1; omega) _) (by omega)
            · have hj := close_dot (shapes ts) hts _ _ x' (HY.out.2.1.trans HNY.out.2) hx5
              rw [kD.out] at hj
              have HJ := Lib.hid hj
              have q5' : (x'.k == 5) = false := beq_eq_false_iff_ne.2 hx5
              clear hj hx5 h0 q5
              obtain ⟨ia, ic, rfl, hsp, hli⟩ := row_parts HZ.out.2.2.1
              generalize hmm : ts.length = m at *
              have HMM := Lib.hid hmm
              have HVE := Lib.hid (And.intro hsp hli)
              clear hown hmm hsp hli
              have hbb : Below (w1.alloc (Obj.cells #[.int .i64 x'.k, .bool x'.g, .slice x'.la x'.ln x'.lc, .bool x'.bb, .string x'.s, .slice x'.ia x'.items.length x'.ic, .slice x'.ta x'.tail.length x'.tc] 31)).heap.size (w1.alloc (Obj.cells #[.int .i64 x'.k, .bool x'.g, .slice x'.la x'.ln x'.lc, .bool x'.bb, .string x'.s, .slice x'.ia x'.items.length x'.ic, .slice x'.ta x'.tail.length x'.tc] 31)) ((w1.alloc (Obj.cells #[.int .i64 x'.k, .bool x'.g, .slice x'.la x'.ln x'.lc, .bool x'.bb, .string x'.s, .slice x'.ia x'.items.length x'.ic, .slice x'.ta x'.tail.length x'.tc] 31)).alloc (Obj.cells #[.int .i64 x'.k, .bool x'.g, .slice x'.la x'.ln x'.lc, .bool x'.bb, .string x'.s, .slice x'.ia x'.items.length x'.ic, .slice x'.ta x'.tail.length x'.tc] 31)) := (Below.refl _ _).alloc (Nat.le_refl _) _
              have kT := World.alloc_heap_new (w1.alloc (Obj.cells #[.int .i64 x'.k, .bool x'.g, .slice x'.la x'.ln x'.lc, .bool x'.bb, .string x'.s, .slice x'.ia x'.items.length x'.ic, .slice x'.ta x'.tail.length x'.tc] 31)) (Obj.cells #[.int .i64 x'.k, .bool x'.g, .slice x'.la x'.ln x'.lc, .bool x'.bb, .string x'.s, .slice x'.ia x'.items.length x'.ic, .slice x'.ta x'.tail.length x'.tc] 31)
              rw [hzA] at kT
              have hzB : ((w1.alloc (Obj.cells #[.int .i64 x'.k, .bool x'.g, .slice x'.la x'.ln x'.lc, .bool x'.bb, .string x'.s, .slice x'.ia x'.items.length x'.ic, .slice x'.ta x'.tail.length x'.tc] 31)).alloc (Obj.cells #[.int .i64 x'.k, .bool x'.g, .slice x'.la x'.ln x'.lc, .bool x'.bb, .string x'.s, .slice x'.ia x'.items.length x'.ic, .slice x'.ta x'.tail.length x'.tc] 31)).heap.size = w1.heap.size + 1 + 1 := by rw [World.size_alloc, hzA]
              have mB1 := (hbb.block (w.heap.size + 1) (by omega)).trans HY.out.2.2.2.2.1
              have mB2 := (hbb.block (w.heap.size + 1 + 1) (by omega)).trans HY.out.2.2.2.2.2.1
              obtain ⟨r0', r1', r2', r3', r4', r5', r6'⟩ := cells7 mB1
              obtain ⟨f0', f1', f2', f3', f4', f5', f6'⟩ := frozen7 mB1
              obtain ⟨o0', o1', o2', o3', o4', o5', o6'⟩ := cells7 mB2
              obtain ⟨_, _, _, _, _, p5', p6'⟩ := frozen7 mB2
              have HT2 := Lib.hid (And.intro hbb (And.intro kT hzB))
              clear hbb kT mB1 mB2
              go_wp2_with fail
              (try simp only [Exit.inBlock, Exit.then])
              refine bodyPost_ret (v := .agg #[.int .i64 5, .bool false, .slice none 0 0, .bool false, .string ⟨#[]⟩, .slice ia m ic, .slice (some ⟨w1.heap.size + 1, 0, none⟩) 1 1]) (results_d rfl rfl (by go_simp) (by go_simp) (by go_simp) (by go_simp) (by go_simp) (by go_simp <;> rfl) (by go_simp)) rfl ⟨rowT ia ic ts (some ⟨w1.heap.size + 1, 0, none⟩) 1 [x'], by rw [← HMM.out]; rfl, ?_, ?_, ?_⟩
              · have hA : Fresh ((w1.alloc (Obj.cells #[.int .i64 x'.k, .bool x'.g, .slice x'.la x'.ln x'.lc, .bool x'.bb, .string x'.s, .slice x'.ia x'.items.length x'.ic, .slice x'.ta x'.tail.length x'.tc] 31)).alloc (Obj.cells #[.int .i64 x'.k, .bool x'.g, .slice x'.la x'.ln x'.lc, .bool x'.bb, .string x'.s, .slice x'.ia x'.items.length x'.ic, .slice x'.ta x'.tail.length x'.tc] 31)) (w.heap.size + 3) (w1.heap.size + 1) := Fresh.of (by omega) (HT2.out.2.1) (by decide)
                have hk3 : ∀ q, Fresh wr (w.heap.size + 3) q → Fresh ((w1.alloc (Obj.cells #[.int .i64 x'.k, .bool x'.g, .slice x'.la x'.ln x'.lc, .bool x'.bb, .string x'.s, .slice x'.ia x'.items.length x'.ic, .slice x'.ta x'.tail.length x'.tc] 31)).alloc (Obj.cells #[.int .i64 x'.k, .bool x'.g, .slice x'.la x'.ln x'.lc, .bool x'.bb, .string x'.s, .slice x'.ia x'.items.length x'.ic, .slice x'.ta x'.tail.length x'.tc] 31)) (w.heap.size + 3) q ∧ ((w1.alloc (Obj.cells #[.int .i64 x'.k, .bool x'.g, .slice x'.la x'.ln x'.lc, .bool x'.bb, .string x'.s, .slice x'.ia x'.items.length x'.ic, .slice x'.ta x'.tail.length x'.tc] 31)).alloc (Obj.cells #[.int .i64 x'.k, .bool x'.g, .slice x'.la x'.ln x'.lc, .bool x'.bb, .string x'.s, .slice x'.ia x'.items.length x'.ic, .slice x'.ta x'.tail.length x'.tc] 31)).heap[q]? = wr.heap[q]? := fun q hq => by
                  have e := (HT2.out.1.block q (by have := hq.lt; omega)).trans (HY.out.2.2.2.1.block q hq.lt)
                  exact ⟨hq.same e, e⟩
                refine HeldP.low (L := w.heap.size) (U := w.heap.size + 3) (w := (w1.alloc (Obj.cells #[.int .i64 x'.k, .bool x'.g, .slice x'.la x'.ln x'.lc, .bool x'.bb, .string x'.s, .slice x'.ia x'.items.length x'.ic, .slice x'.ta x'.tail.length x'.tc] 31)).alloc (Obj.cells #[.int .i64 x'.k, .bool x'.g, .slice x'.la x'.ln x'.lc, .bool x'.bb, .string x'.s, .slice x'.ia x'.items.length x'.ic, .slice x'.ta x'.tail.length x'.tc] 31)) (rowT_held ?_ ?_ ⟨by simp, by simp [maxLen], fun _ => ⟨rfl, hA⟩, fun e => by cases e⟩ ?_) (set7_low ((Low.refl w.heap.size (w.heap.size + 3) _).setCell (p := ⟨w.heap.size + 1 + 1, 6, none⟩) (by show w.heap.size ≤ w.heap.size + 1 + 1; omega) (by show w.heap.size + 1 + 1 < w.heap.size + 3; omega) _) (by omega) (by omega)) (by omega)
                · rw [HMM.out]
                  exact HVE.out.1.mono fun q hq => (hk3 q hq).1
                · exact HVE.out.2.keep (by rw [HT2.out.2.2]; omega) fun q hq => hk3 q hq
                · refine liesPR_of hA [x'] 0 (fun z hz => ?_) fun j v hj => ?_
                  · rw [List.mem_singleton.1 hz]
                    exact HY.out.1.below HT2.out.1 (by omega)
                  · have h := cells_news HT2.out.2.1 j v (by rw [show cellsAll [x'] = x'.cells from List.append_nil _] at hj; exact hj)
                    rwa [cell_add] at h
              · rw [rowT_shape, shapes_cons, shapes_nil, HJ.out]
              · exact set7_below (((HY.out.2.2.1).trans (HT2.out.1.mono (by omega))).setCell (p := ⟨w.heap.size + 1 + 1, 6, none⟩) (by show w.heap.size ≤ w.heap.size + 1 + 1; omega) _) (by omega)
  · have hn0 : t.items.length = 0 := by omega
    rw [hn0] at HS ⊢
    have HX := Lib.hid hn0
    clear hn hn0
    go_enter Tryz.func88, Tryz.ntmps88
    go_wp2_with fail
    go_loopw [37] (fun i wr => NiRel M w.heap.size (N + 1) t d w i wr) (fun _ _ => 0)
    case atStart => exact HS.out
    case round =>
      obtain ⟨k, V, ts, hk, rfl, kB0, kB1, kB2, kR, kD, klen, kU, kbel, hszX⟩ := hrel
      rw [HX.out] at hk klen
      obtain rfl : k = 0 := by omega
      replace kD := Lib.hid (show closeD (shapes ts ++ (spineR t.tail).1, (spineR t.tail).2) = d by have h := kD.out; rw [List.length_eq_zero_iff.1 HX.out] at h; simpa [normR_nil] using h)
      have hszs := t.size_eq
      have hsz3 := hszX
      have hI5 := Lib.cell_of_heap kB0 6
      simp only [List.getElem?_toArray, List.getElem?_cons_zero, List.getElem?_cons_succ] at hI5
      by_cases ht0 : t.tail.length = 0
      · rw [ht0] at hI5
        obtain ⟨ia, ic, rfl, hsp, hli⟩ := row_parts kR
        have hos := fun j => Lib.cell_of_heap kB2 j
        have o0 := hos 0; have o1 := hos 1; have o2 := hos 2; have o3 := hos 3; have o4 := hos 4; have o5 := hos 5; have o6 := hos 6
        have hrs := fun j => Lib.cell_of_heap kB1 j
        have r0 := hrs 0; have r1 := hrs 1; have r2 := hrs 2; have r3 := hrs 3; have r4 := hrs 4; have r5 := hrs 5; have r6 := hrs 6
        have hrf := fun j => Lib.frozen_of_heap kB1 j
        have f0 := hrf 0; have f1 := hrf 1; have f2 := hrf 2; have f3 := hrf 3; have f4 := hrf 4; have f5 := hrf 5; have f6 := hrf 6
        simp only [List.getElem?_toArray, List.getElem?_cons_zero, List.getElem?_cons_succ] at o0 o1 o2 o3 o4 o5 o6 r0 r1 r2 r3 r4 r5 r6
        have HZ := Lib.hid (And.intro hsp (And.intro hli (And.intro kbel (show d = .mk 5 false [] false ⟨#[]⟩ (shapes ts) [] by
          have h := kD.out
          rw [List.length_eq_zero_iff.1 ht0, spineR_nil] at h
          simp only [List.append_nil] at h
          rw [← h, close_none]))))
        clear hos hrs hrf kB0 kB1 kB2 kR kbel hsp hli
        generalize hnt : ts.length = m at *
        have HM := Lib.hid hnt
        clear hnt
        go_wp2_with fail
        (try simp only [Exit.inBlock, Exit.then])
        refine bodyPost_ret (v := .agg #[.int .i64 5, .bool false, .slice none 0 0, .bool false, .string ⟨#[]⟩, .slice ia m ic, .slice none 0 0]) (results_d rfl rfl (by go_simp) (by go_simp) (by go_simp) (by go_simp) (by go_simp) (by go_simp <;> rfl) (by go_simp)) rfl ⟨rowT ia ic ts none 0 [], by rw [← HM.out]; rfl, ?_, ?_, ?_⟩
        · exact HeldP.low (rowT_held (by rw [HM.out]; exact HZ.out.1) HZ.out.2.1 (spotP_nil _) (by rw [liesPR_nil]; trivial)) (set7_low (Low.refl w.heap.size (w.heap.size + 3) _) (by omega) (by omega)) (by omega)
        · rw [rowT_shape, HZ.out.2.2.2, shapes_nil]
        · exact set7_below HZ.out.2.2.1 (by omega)
      · obtain ⟨y, ys, hy0⟩ : ∃ y ys, t.tail = y :: ys := by
          cases hc : t.tail with
          | nil => exact absurd (by rw [hc]; rfl) ht0
          | cons y ys => exact ⟨y, ys, rfl⟩
        have HYY := Lib.hid hy0
        obtain ⟨hta, htM⟩ := kU.out.2.2.1.2.2.1 (by omega)
        have htc := kU.out.2.2.1.2.1
        have htl := kU.out.2.2.1.1
        unfold maxLen at htc
        have htR := kU.out.2.2.2.2
        rw [HYY.out, liesR_cons] at htR
        obtain ⟨_, hyc, hyh⟩ := lies_held.1 htR.1
        rw [hta] at hI5
        have y0 : wr.cell? ⟨blk t.ta, ofs t.ta, none⟩ = some (.int .i64 y.k) := hyc 0 _ rfl
        have y1 : wr.cell? ⟨blk t.ta, ofs t.ta + 1, none⟩ = some (.bool y.g) := hyc 1 _ rfl
        have y2 : wr.cell? ⟨blk t.ta, ofs t.ta + 2, none⟩ = some (.slice y.la y.ln y.lc) := hyc 2 _ rfl
        have y3 : wr.cell? ⟨blk t.ta, ofs t.ta + 3, none⟩ = some (.bool y.bb) := hyc 3 _ rfl
        have y4 : wr.cell? ⟨blk t.ta, ofs t.ta + 4, none⟩ = some (.string y.s) := hyc 4 _ rfl
        have y5 : wr.cell? ⟨blk t.ta, ofs t.ta + 5, none⟩ = some (.slice y.ia y.items.length y.ic) := hyc 5 _ rfl
        have y6 : wr.cell? ⟨blk t.ta, ofs t.ta + 6, none⟩ = some (.slice y.ta y.tail.length y.tc) := hyc 6 _ rfl
        generalize blk t.ta = tb at *
        generalize ofs t.ta = to at *
        have htz : (((t.tail.length : Nat) : Int) == 0) = false := beq_eq_false_iff_ne.2 (by omega)
        have htp : 0 < t.tail.length := by omega
        have hlb : sizes t.tail = y.size + sizes ys := by rw [HYY.out]; rfl
        have hTy : Tame y := by
          have h := ((tame_eq t).1 HTT.out).2.2
          rw [HYY.out] at h
          exact h.1
        have hyN : y.size ≤ N := by omega
        have hwM : M ≤ wr.heap.size := by omega
        have HC := Lib.hid (IH.out y hyN hTy wr hwM hyh)
        have HSZ := Lib.hid (show sizeD (normT y) ≤ 200000 by have := size_norm y; omega)
        have hSP : ∀ e, (spineR t.tail).2 = some e → e.k ≠ 5 := spineR_leaf t.tail
        have hNY : normT y = closeD ((spineR t.tail).1, (spineR t.tail).2) := by rw [HYY.out, spineR_cons]; rfl
        have HNY := Lib.hid (And.intro hSP hNY)
        clear hSP hNY
        generalize t.tail.length = tm at *
        clear hta hy0 hyc hyh htR hTy ht0
        have HZ := Lib.hid (And.intro kB1 (And.intro kB2 (And.intro kR kbel)))
        have hVg : ∀ q, V.ownBlock = some q → w.heap.size + 3 ≤ q ∧ q < wr.heap.size := fun q h => kR.1.lt q h
        have HVG := Lib.hid hVg
        clear kB0 kB1 kB2 kR kbel hVg
        go_wp2_with fail
        clear y0 y1 y2 y3 y4 y5 y6 hI5
        refine HC.out.mono ?_
        rintro e w1 ⟨x', rfl, hP, hsh, b1⟩
        have hz1 := b1.size
        have hba : Below w1.heap.size w1 (w1.alloc (Obj.cells #[.int .i64 x'.k, .bool x'.g, .slice x'.la x'.ln x'.lc, .bool x'.bb, .string x'.s, .slice x'.ia x'.items.length x'.ic, .slice x'.ta x'.tail.length x'.tc] 31)) := (Below.refl _ _).alloc (Nat.le_refl _) _
        have hzA : (w1.alloc (Obj.cells #[.int .i64 x'.k, .bool x'.g, .slice x'.la x'.ln x'.lc, .bool x'.bb, .string x'.s, .slice x'.ia x'.items.length x'.ic, .slice x'.ta x'.tail.length x'.tc] 31)).heap.size = w1.heap.size + 1 := World.size_alloc ..
        have kB1 := (hba.block (w.heap.size + 1) (by omega)).trans ((b1.block (w.heap.size + 1) (by omega)).trans HZ.out.1)
        have kB2 := (hba.block (w.heap.size + 1 + 1) (by omega)).trans ((b1.block (w.heap.size + 1 + 1) (by omega)).trans HZ.out.2.1)
        have kN := World.alloc_heap_new w1 (Obj.cells #[.int .i64 x'.k, .bool x'.g, .slice x'.la x'.ln x'.lc, .bool x'.bb, .string x'.s, .slice x'.ia x'.items.length x'.ic, .slice x'.ta x'.tail.length x'.tc] 31)
        have hbA : Below wr.heap.size wr (w1.alloc (Obj.cells #[.int .i64 x'.k, .bool x'.g, .slice x'.la x'.ln x'.lc, .bool x'.bb, .string x'.s, .slice x'.ia x'.items.length x'.ic, .slice x'.ta x'.tail.length x'.tc] 31)) := b1.trans (hba.mono (by omega))
        have hx9 : x'.items.length ≤ 200000 := items_bd x' _ _ hsh HSZ.out
        have hPA : HeldP (w1.alloc (Obj.cells #[.int .i64 x'.k, .bool x'.g, .slice x'.la x'.ln x'.lc, .bool x'.bb, .string x'.s, .slice x'.ia x'.items.length x'.ic, .slice x'.ta x'.tail.length x'.tc] 31)) (Fresh (w1.alloc (Obj.cells #[.int .i64 x'.k, .bool x'.g, .slice x'.la x'.ln x'.lc, .bool x'.bb, .string x'.s, .slice x'.ia x'.items.length x'.ic, .slice x'.ta x'.tail.length x'.tc] 31)) wr.heap.size) x' := hP.below hba (Nat.le_refl _)
        obtain ⟨n0, n1, n2, n3, n4, n5, n6⟩ := cells7 kN
        obtain ⟨r0, r1, r2, r3, r4, r5, r6⟩ := cells7 kB1
        obtain ⟨f0, f1, f2, f3, f4, f5, f6⟩ := frozen7 kB1
        obtain ⟨o0, o1, o2, o3, o4, o5, o6⟩ := cells7 kB2
        obtain ⟨_, _, _, _, _, p5, p6⟩ := frozen7 kB2
        have HY := Lib.hid (And.intro hPA (And.intro hsh (And.intro (HZ.out.2.2.2.trans (hbA.mono (by omega))) (And.intro hbA (And.intro kB1 (And.intro kB2 kN))))))
        clear hP hsh b1 hba hbA hPA kB1 kB2 kN
        by_cases h0 : ts.length = 0
        · obtain ⟨ia, ic, rfl, _, _⟩ := row_parts HZ.out.2.2.1
          rw [h0] at o5
          go_wp2_with fail
          (try simp only [Exit.inBlock, Exit.then])
          refine bodyPost_ret (v := .agg #[.int .i64 x'.k, .bool x'.g, .slice x'.la x'.ln x'.lc, .bool x'.bb, .string x'.s, .slice x'.ia x'.items.length x'.ic, .slice x'.ta x'.tail.length x'.tc]) (results_d rfl rfl (by go_simp) (by go_simp) (by go_simp) (by go_simp) (by go_simp) (by go_simp <;> rfl) (by go_simp)) rfl ⟨x', rfl, ?_, ?_, ?_⟩
          · exact HeldP.low (U := w.heap.size + 3) (HY.out.1.keep (Nat.le_refl _) fun q hq => ⟨hq.low (by omega), rfl⟩) (set7_low (Low.refl w.heap.size (w.heap.size + 3) _) (by omega) (by omega)) (by omega)
          · have h := kD.out
            rw [List.length_eq_zero_iff.1 h0, shapes_nil, List.nil_append, ← HNY.out.2] at h
            exact HY.out.2.1.trans h
          · exact set7_below HY.out.2.2.1 (by omega)
        · have hts : shapes ts ≠ [] := fun h => h0 (by rw [← shapes_length, h]; rfl)
          have e6 : (((ts.length : Nat) : Int) == 0) = false := beq_eq_false_iff_ne.2 (by omega)
          have hts1 : 1 ≤ ts.length := by omega
          have hts9 : ts.length ≤ 100000 := by omega
          have hown := own_below7 HZ.out.2.2.1.1 HY.out.2.2.2.1
          have HAL := Lib.hid (show AllP (w1.alloc (Obj.cells #[.int .i64 x'.k, .bool x'.g, .slice x'.la x'.ln x'.lc, .bool x'.bb, .string x'.s, .slice x'.ia x'.items.length x'.ic, .slice x'.ta x'.tail.length x'.tc] 31)) (fun q => Fresh (w1.alloc (Obj.cells #[.int .i64 x'.k, .bool x'.g, .slice x'.la x'.ln x'.lc, .bool x'.bb, .string x'.s, .slice x'.ia x'.items.length x'.ic, .slice x'.ta x'.tail.length x'.tc] 31)) (w.heap.size + 3) q ∧ q < wr.heap.size ∧ V.ownBlock ≠ some q) ts from
            HZ.out.2.2.1.2.keep HY.out.2.2.2.1.size fun q hq => ⟨⟨hq.1.same (HY.out.2.2.2.1.block q hq.1.lt), hq.1.lt, hq.2⟩, HY.out.2.2.2.1.block q hq.1.lt⟩)
          by_cases hx5 : x'.k = 5
          · have hj := close_join (shapes ts) _ _ x' (HY.out.2.1.trans HNY.out.2) hx5 HNY.out.1
            rw [kD.out] at hj
            have HJ := Lib.hid hj
            have q5' : (x'.k == 5) = true := beq_iff_eq.2 hx5
            clear hj hx5 h0 q5
            obtain ⟨ia, ic, hVe, hsp, hli⟩ := row_parts HZ.out.2.2.1
            generalize hmm : ts.length = m at *
            have HMM := Lib.hid hmm
            have HO := Lib.hid hown
            have HVE := Lib.hid (And.intro hVe (And.intro hsp hli))
            clear hown hmm hsp hli
            obtain ⟨i0, hi0, hz0, hz1', hz2⟩ := info_parts infoD
            obtain hxi | ⟨ad, hxi⟩ : x'.ia = none ∨ ∃ ad, x'.ia = some ad := by cases x'.ia <;> simp
            · have hn0 : x'.items.length = 0 := by
                rcases Nat.eq_zero_or_pos x'.items.length with h | h
                · exact h
                · have := (HY.out.1.2.1.2.2.1 h).1
                  rw [hxi] at this
                  cases this
              have hc0 : x'.ic = 0 := HY.out.1.2.1.2.2.2 hxi
              have n5n : (w1.alloc (Obj.cells #[.int .i64 x'.k, .bool x'.g, .slice x'.la x'.ln x'.lc, .bool x'.bb, .string x'.s, .slice x'.ia x'.items.length x'.ic, .slice x'.ta x'.tail.length x'.tc] 31)).cell? ⟨w1.heap.size, 5, none⟩ = some (.slice none 0 0) := by rw [n5, hxi, hn0, hc0]
              clear n5
              have HN0 := Lib.hid hn0
              clear hxi hn0 hc0
              rw [hVe] at o5
              clear hVe
              go_wp2_with (at_builtin; refine wpList_append_own_none rfl (.tmp 73) (.tmp 75) 23 rfl (w.heap.size + 3) 31 i0 7 Tryz.underlying23 hi0 _ m (cellsAll ts) rfl (HVE.out.1 ▸ HO.out) rfl ?_)
              (try simp only [Exit.inBlock, Exit.then])
              refine bodyPost_ret (v := .agg #[.int .i64 5, .bool false, .slice none 0 0, .bool false, .string ⟨#[]⟩, .slice ia m ic, .slice x'.ta x'.tail.length x'.tc]) (results_d rfl rfl (by go_simp) (by go_simp) (by go_simp) (by go_simp) (by go_simp) (by go_simp <;> rfl) (by go_simp)) rfl ⟨rowT ia ic ts x'.ta x'.tc x'.tail, by rw [← HMM.out]; rfl, ?_, ?_, ?_⟩
              · refine HeldP.low (L := w.heap.size) (U := w.heap.size + 3) (w := w1.alloc (Obj.cells #[.int .i64 x'.k, .bool x'.g, .slice x'.la x'.ln x'.lc, .bool x'.bb, .string x'.s, .slice x'.ia x'.items.length x'.ic, .slice x'.ta x'.tail.length x'.tc] 31)) (rowT_held ?_ ?_ ?_ ?_) (set7_low (((Low.refl w.heap.size (w.heap.size + 3) _).setCell (p := ⟨w.heap.size + 1 + 1, 5, none⟩) (by show w.heap.size ≤ w.heap.size + 1 + 1; omega) (by show w.heap.size + 1 + 1 < w.heap.size + 3; omega) _).setCell (p := ⟨w.heap.size + 1 + 1, 6, none⟩) (by show w.heap.size ≤ w.heap.size + 1 + 1; omega) (by show w.heap.size + 1 + 1 < w.heap.size + 3; omega) _) (by omega) (by omega)) (by omega)
                · rw [HMM.out]
                  exact HVE.out.2.1.mono fun q hq => hq.same (HY.out.2.2.2.1.block q hq.lt)
                · exact HVE.out.2.2.keep HY.out.2.2.2.1.size fun q hq => ⟨hq.same (HY.out.2.2.2.1.block q hq.lt), HY.out.2.2.2.1.block q hq.lt⟩
                · exact HY.out.1.2.2.1.mono fun q hq => hq.low (by omega)
                · exact HY.out.1.2.2.2.2.keep (Nat.le_refl _) fun q hq => ⟨hq.low (by omega), rfl⟩
              · rw [rowT_shape, HJ.out, List.length_eq_zero_iff.1 HN0.out, shapes_nil, List.append_nil]
              · exact set7_below ((HY.out.2.2.1.setCell (p := ⟨w.heap.size + 1 + 1, 5, none⟩) (by show w.heap.size ≤ w.heap.size + 1 + 1; omega) _).setCell (p := ⟨w.heap.size + 1 + 1, 6, none⟩) (by show w.heap.size ≤ w.heap.size + 1 + 1; omega) _) (by omega)
            · have n5n : (w1.alloc (Obj.cells #[.int .i64 x'.k, .bool x'.g, .slice x'.la x'.ln x'.lc, .bool x'.bb, .string x'.s, .slice x'.ia x'.items.length x'.ic, .slice x'.ta x'.tail.length x'.tc] 31)).cell? ⟨w1.heap.size, 5, none⟩ = some (.slice (some ad) x'.items.length x'.ic) := by rw [n5, hxi]
              clear n5
              have HN2 := Lib.hid (show ∀ j u, (cellsAll x'.items)[j]? = some u → (w1.alloc (Obj.cells #[.int .i64 x'.k, .bool x'.g, .slice x'.la x'.ln x'.lc, .bool x'.bb, .string x'.s, .slice x'.ia x'.items.length x'.ic, .slice x'.ta x'.tail.length x'.tc] 31)).cell? (ad.add j) = some u from by
                intro j u hj
                rcases Nat.eq_zero_or_pos x'.items.length with h | h
                · rw [List.length_eq_zero_iff.1 h] at hj
                  simp [cellsAll] at hj
                · have h1 := (HY.out.1.2.1.2.2.1 h).1
                  have h3 := Option.some.inj (hxi.symm.trans h1)
                  rw [h3, cell_add]
                  have h2 := cells_of_lies x'.items _ _ HY.out.1.2.2.2.1 j u hj
                  exact h2)
              clear hxi
              rw [hVe] at o5
              have hVo : V.ownBlock = Value.ownBlock (.slice ia m ic) := by rw [hVe]
              have HVO := Lib.hid hVo
              clear hVe hVo
              have hOI := HO.out
              rw [HVE.out.1] at hOI
              have HOI := Lib.hid hOI
              clear hOI
              go_wp2_with (at_builtin; refine wpList_append_own _ rfl (.tmp 73) (.tmp 75) 23 rfl (w.heap.size + 3) 31 i0 (.agg #[.int .i64 0, .bool false, .slice none 0 0, .bool false, .string ⟨#[]⟩, .slice none 0 0, .slice none 0 0]) 7 112 Tryz.underlying23 hi0 hz0 hz1' hz2 rfl (by decide) (.slice ia m ic) m (cellsAll ts) rfl ?h1 ad x'.items.length _ (cellsAll x'.items) rfl ?h2 ?h3 ?h4 ?h5 ?h6 ?h7 ?h8)
              case h1 => exact HOI.out
              case h2 => exact cellsAll_length _
              case h3 => exact HN2.out
              case h4 => exact cellsAll_one _
              case h5 => unfold maxLen; omega
              case h6 => omega
              case h7 => omega
              case h8 =>
                intro v1 w2 own2 grow2 _
                obtain ⟨gb2, c2', rfl, hgb2⟩ := own_open7 own2 (by omega)
                have hz2w := grow2.size
                have hk2 : ∀ q, q < (w1.alloc (Obj.cells #[.int .i64 x'.k, .bool x'.g, .slice x'.la x'.ln x'.lc, .bool x'.bb, .string x'.s, .slice x'.ia x'.items.length x'.ic, .slice x'.ta x'.tail.length x'.tc] 31)).heap.size → V.ownBlock ≠ some q → w2.heap[q]? = (w1.alloc (Obj.cells #[.int .i64 x'.k, .bool x'.g, .slice x'.la x'.ln x'.lc, .bool x'.bb, .string x'.s, .slice x'.ia x'.items.length x'.ic, .slice x'.ta x'.tail.length x'.tc] 31)).heap[q]? := (fun q h1 h2 => grow2.block q h1 (fun e => h2 (HVO.out.trans e.symm)))
                have mB1 := (hk2 (w.heap.size + 1) (by omega) (fun e => by have := (HVG.out _ e).1; omega)).trans HY.out.2.2.2.2.1
                have mB2 := (hk2 (w.heap.size + 1 + 1) (by omega) (fun e => by have := (HVG.out _ e).1; omega)).trans HY.out.2.2.2.2.2.1
                have mN := (hk2 w1.heap.size (by omega) (fun e => by have := (HVG.out _ e).2; omega)).trans HY.out.2.2.2.2.2.2
                obtain ⟨n0', n1', n2', n3', n4', n5', n6'⟩ := cells7 mN
                obtain ⟨r0', r1', r2', r3', r4', r5', r6'⟩ := cells7 mB1
                obtain ⟨f0', f1', f2', f3', f4', f5', f6'⟩ := frozen7 mB1
                obtain ⟨o0', o1', o2', o3', o4', o5', o6'⟩ := cells7 mB2
                obtain ⟨_, _, _, _, _, p5', p6'⟩ := frozen7 mB2
                have HG := Lib.hid (And.intro own2 (And.intro grow2 hk2))
                clear own2 grow2 hk2 mB1 mB2 mN n0 n1 n2 n3 n4 n5n n6 r0 r1 r2 r3 r4 r5 r6 f0 f1 f2 f3 f4 f5 f6 o0 o1 o2 o3 o4 o5 o6 p5 p6
                go_wp2_with fail
                (try simp only [Exit.inBlock, Exit.then])
                refine bodyPost_ret (v := .agg #[.int .i64 5, .bool false, .slice none 0 0, .bool false, .string ⟨#[]⟩, .slice (some ⟨gb2, 0, none⟩) (m + x'.items.length) c2', .slice x'.ta x'.tail.length x'.tc]) (results_d rfl rfl (by go_simp) (by go_simp) (by go_simp) (by go_simp) (by go_simp) (by go_simp <;> rfl) (by go_simp)) rfl ⟨rowT (some ⟨gb2, 0, none⟩) c2' (ts ++ x'.items) x'.ta x'.tc x'.tail, rowT_val _ _ _ _ _ _ _ (by rw [List.length_append, HMM.out]), ?_, ?_, ?_⟩
                · exact HeldP.low (L := w.heap.size) (U := w.heap.size + 3) (w := w2) (join_held HAL.out HY.out.1 HG.out.2.2 HVG.out hz2w hszX HG.out.1 HMM.out) (set7_low (((Low.refl w.heap.size (w.heap.size + 3) _).setCell (p := ⟨w.heap.size + 1 + 1, 5, none⟩) (by show w.heap.size ≤ w.heap.size + 1 + 1; omega) (by show w.heap.size + 1 + 1 < w.heap.size + 3; omega) _).setCell (p := ⟨w.heap.size + 1 + 1, 6, none⟩) (by show w.heap.size ≤ w.heap.size + 1 + 1; omega) (by show w.heap.size + 1 + 1 < w.heap.size + 3; omega) _) (by omega) (by omega)) (by omega)
                · rw [rowT_shape, HJ.out, shapes_append]
                · have hb2 : Below w.heap.size w w2 := HY.out.2.2.1.grown HG.out.2.1 (by omega) (fun q hq => by have := (HVG.out q (HVO.out.trans hq)).1; omega)
                  exact set7_below ((hb2.setCell (p := ⟨w.heap.size + 1 + 1, 5, none⟩) (by show w.heap.size ≤ w.heap.size + 1 + 1; omega) _).setCell (p := ⟨w.heap.size + 1 + 1, 6, none⟩) (by show w.heap.size ≤ w.heap.size + 1 + 1; omega) _) (by omega)
          · have hj := close_dot (shapes ts) hts _ _ x' (HY.out.2.1.trans HNY.out.2) hx5
            rw [kD.out] at hj
            have HJ := Lib.hid hj
            have q5' : (x'.k == 5) = false := beq_eq_false_iff_ne.2 hx5
            clear hj hx5 h0 q5
            obtain ⟨ia, ic, rfl, hsp, hli⟩ := row_parts HZ.out.2.2.1
            generalize hmm : ts.length = m at *
            have HMM := Lib.hid hmm
            have HVE := Lib.hid (And.intro hsp hli)
            clear hown hmm hsp hli
            have hbb : Below (w1.alloc (Obj.cells #[.int .i64 x'.k, .bool x'.g, .slice x'.la x'.ln x'.lc, .bool x'.bb, .string x'.s, .slice x'.ia x'.items.length x'.ic, .slice x'.ta x'.tail.length x'.tc] 31)).heap.size (w1.alloc (Obj.cells #[.int .i64 x'.k, .bool x'.g, .slice x'.la x'.ln x'.lc, .bool x'.bb, .string x'.s, .slice x'.ia x'.items.length x'.ic, .slice x'.ta x'.tail.length x'.tc] 31)) ((w1.alloc (Obj.cells #[.int .i64 x'.k, .bool x'.g, .slice x'.la x'.ln x'.lc, .bool x'.bb, .string x'.s, .slice x'.ia x'.items.length x'.ic, .slice x'.ta x'.tail.length x'.tc] 31)).alloc (Obj.cells #[.int .i64 x'.k, .bool x'.g, .slice x'.la x'.ln x'.lc, .bool x'.bb, .string x'.s, .slice x'.ia x'.items.length x'.ic, .slice x'.ta x'.tail.length x'.tc] 31)) := (Below.refl _ _).alloc (Nat.le_refl _) _
            have kT := World.alloc_heap_new (w1.alloc (Obj.cells #[.int .i64 x'.k, .bool x'.g, .slice x'.la x'.ln x'.lc, .bool x'.bb, .string x'.s, .slice x'.ia x'.items.length x'.ic, .slice x'.ta x'.tail.length x'.tc] 31)) (Obj.cells #[.int .i64 x'.k, .bool x'.g, .slice x'.la x'.ln x'.lc, .bool x'.bb, .string x'.s, .slice x'.ia x'.items.length x'.ic, .slice x'.ta x'.tail.length x'.tc] 31)
            rw [hzA] at kT
            have hzB : ((w1.alloc (Obj.cells #[.int .i64 x'.k, .bool x'.g, .slice x'.la x'.ln x'.lc, .bool x'.bb, .string x'.s, .slice x'.ia x'.items.length x'.ic, .slice x'.ta x'.tail.length x'.tc] 31)).alloc (Obj.cells #[.int .i64 x'.k, .bool x'.g, .slice x'.la x'.ln x'.lc, .bool x'.bb, .string x'.s, .slice x'.ia x'.items.length x'.ic, .slice x'.ta x'.tail.length x'.tc] 31)).heap.size = w1.heap.size + 1 + 1 := by rw [World.size_alloc, hzA]
            have mB1 := (hbb.block (w.heap.size + 1) (by omega)).trans HY.out.2.2.2.2.1
            have mB2 := (hbb.block (w.heap.size + 1 + 1) (by omega)).trans HY.out.2.2.2.2.2.1
            obtain ⟨r0', r1', r2', r3', r4', r5', r6'⟩ := cells7 mB1
            obtain ⟨f0', f1', f2', f3', f4', f5', f6'⟩ := frozen7 mB1
            obtain ⟨o0', o1', o2', o3', o4', o5', o6'⟩ := cells7 mB2
            obtain ⟨_, _, _, _, _, p5', p6'⟩ := frozen7 mB2
            have HT2 := Lib.hid (And.intro hbb (And.intro kT hzB))
            clear hbb kT mB1 mB2
            go_wp2_with fail
            (try simp only [Exit.inBlock, Exit.then])
            refine bodyPost_ret (v := .agg #[.int .i64 5, .bool false, .slice none 0 0, .bool false, .string ⟨#[]⟩, .slice ia m ic, .slice (some ⟨w1.heap.size + 1, 0, none⟩) 1 1]) (results_d rfl rfl (by go_simp) (by go_simp) (by go_simp) (by go_simp) (by go_simp) (by go_simp <;> rfl) (by go_simp)) rfl ⟨rowT ia ic ts (some ⟨w1.heap.size + 1, 0, none⟩) 1 [x'], by rw [← HMM.out]; rfl, ?_, ?_, ?_⟩
            · have hA : Fresh ((w1.alloc (Obj.cells #[.int .i64 x'.k, .bool x'.g, .slice x'.la x'.ln x'.lc, .bool x'.bb, .string x'.s, .slice x'.ia x'.items.length x'.ic, .slice x'.ta x'.tail.length x'.tc] 31)).alloc (Obj.cells #[.int .i64 x'.k, .bool x'.g, .slice x'.la x'.ln x'.lc, .bool x'.bb, .string x'.s, .slice x'.ia x'.items.length x'.ic, .slice x'.ta x'.tail.length x'.tc] 31)) (w.heap.size + 3) (w1.heap.size + 1) := Fresh.of (by omega) (HT2.out.2.1) (by decide)
              have hk3 : ∀ q, Fresh wr (w.heap.size + 3) q → Fresh ((w1.alloc (Obj.cells #[.int .i64 x'.k, .bool x'.g, .slice x'.la x'.ln x'.lc, .bool x'.bb, .string x'.s, .slice x'.ia x'.items.length x'.ic, .slice x'.ta x'.tail.length x'.tc] 31)).alloc (Obj.cells #[.int .i64 x'.k, .bool x'.g, .slice x'.la x'.ln x'.lc, .bool x'.bb, .string x'.s, .slice x'.ia x'.items.length x'.ic, .slice x'.ta x'.tail.length x'.tc] 31)) (w.heap.size + 3) q ∧ ((w1.alloc (Obj.cells #[.int .i64 x'.k, .bool x'.g, .slice x'.la x'.ln x'.lc, .bool x'.bb, .string x'.s, .slice x'.ia x'.items.length x'.ic, .slice x'.ta x'.tail.length x'.tc] 31)).alloc (Obj.cells #[.int .i64 x'.k, .bool x'.g, .slice x'.la x'.ln x'.lc, .bool x'.bb, .string x'.s, .slice x'.ia x'.items.length x'.ic, .slice x'.ta x'.tail.length x'.tc] 31)).heap[q]? = wr.heap[q]? := fun q hq => by
                have e := (HT2.out.1.block q (by have := hq.lt; omega)).trans (HY.out.2.2.2.1.block q hq.lt)
                exact ⟨hq.same e, e⟩
              refine HeldP.low (L := w.heap.size) (U := w.heap.size + 3) (w := (w1.alloc (Obj.cells #[.int .i64 x'.k, .bool x'.g, .slice x'.la x'.ln x'.lc, .bool x'.bb, .string x'.s, .slice x'.ia x'.items.length x'.ic, .slice x'.ta x'.tail.length x'.tc] 31)).alloc (Obj.cells #[.int .i64 x'.k, .bool x'.g, .slice x'.la x'.ln x'.lc, .bool x'.bb, .string x'.s, .slice x'.ia x'.items.length x'.ic, .slice x'.ta x'.tail.length x'.tc] 31)) (rowT_held ?_ ?_ ⟨by simp, by simp [maxLen], fun _ => ⟨rfl, hA⟩, fun e => by cases e⟩ ?_) (set7_low ((Low.refl w.heap.size (w.heap.size + 3) _).setCell (p := ⟨w.heap.size + 1 + 1, 6, none⟩) (by show w.heap.size ≤ w.heap.size + 1 + 1; omega) (by show w.heap.size + 1 + 1 < w.heap.size + 3; omega) _) (by omega) (by omega)) (by omega)
              · rw [HMM.out]
                exact HVE.out.1.mono fun q hq => (hk3 q hq).1
              · exact HVE.out.2.keep (by rw [HT2.out.2.2]; omega) fun q hq => hk3 q hq
              · refine liesPR_of hA [x'] 0 (fun z hz => ?_) fun j v hj => ?_
                · rw [List.mem_singleton.1 hz]
                  exact HY.out.1.below HT2.out.1 (by omega)
                · have h := cells_news HT2.out.2.1 j v (by rw [show cellsAll [x'] = x'.cells from List.append_nil _] at hj; exact hj)
                  rwa [cell_add] at h
            · rw [rowT_shape, shapes_cons, shapes_nil, HJ.out]
            · exact set7_below (((HY.out.2.2.1).trans (HT2.out.1.mono (by omega))).setCell (p := ⟨w.heap.size + 1 + 1, 6, none⟩) (by show w.heap.size ≤ w.heap.size + 1 + 1; omega) _) (by omega)
theorem rnorm_tree (M : Nat) : ∀ N : Nat, N ≤ 100000 → ∀ t : LT, t.size ≤ N → Tame t → ∀ w : World, M ≤ w.heap.size → Held w M t → Calls Tryz.prog 88 #[.agg #[.int .i64 t.k, .bool t.g, .slice t.la t.ln t.lc, .bool t.bb, .string t.s, .slice t.ia t.items.length t.ic, .slice t.ta t.tail.length t.tc]] w (NPost (normT t) w)
  | 0, _, t, ht, _, _, _, _ => by rw [t.size_eq] at ht; omega
  | N + 1, hN, t, ht, hT, w, hM, hH => by
    by_cases hk : t.k = 5
    · exact rnorm_list_tree M N (fun u hu hTu w hM hH => rnorm_tree M N (by omega) u hu hTu w hM hH) hN t ht hk hT w hM hH
    · exact rnorm_nl t hk ((tame_eq t).1 hT).1 hH.1.2.2 w hH.1.1
mutual
theorem budT_ge : ∀ (t : LT) (left deep : Int), (t.size : Int) ≤ left → (t.depth : Int) ≤ deep → budT t left deep = left - t.size
  | .mk k g la ln lc ys bb s ia ic items ta tc tail, left, deep, h1, h2 => by
    have e1 : LT.size (.mk k g la ln lc ys bb s ia ic items ta tc tail) = 1 + (sizes items + sizes tail) := by simp [LT.size]
    have e2 : LT.depth (.mk k g la ln lc ys bb s ia ic items ta tc tail) = 1 + max (depths items) (depths tail) := by simp [LT.depth]
    rw [e1] at h1
    rw [e2] at h2
    rw [budT_eq, if_neg (by omega), e1]
    have h3 := budR_ge items (left - 1) (deep - 1) (by omega) (by omega)
    have h4 := budR_ge tail (budR items (left - 1) (deep - 1)) (deep - 1) (by omega) (by omega)
    simp only [LT.items, LT.tail]
    rw [h4, h3]
    omega
theorem budR_ge : ∀ (l : List LT) (left deep : Int), (sizes l : Int) ≤ left → (depths l : Int) ≤ deep → budR l left deep = left - sizes l
  | [], left, deep, _, _ => by rw [budR_nil]; simp [sizes]
  | t :: l, left, deep, h1, h2 => by
    simp only [sizes, depths] at h1 h2 ⊢
    have h3 := budT_ge t left deep (by omega) (by omega)
    rw [budR_cons, if_neg (by omega)]
    have h4 := budR_ge l (budT t left deep) deep (by omega) (by omega)
    rw [h4, h3]
    omega
end

set_option maxRecDepth 100000 in
set_option maxHeartbeats 3200000 in
theorem rNorm_tree (M : Nat) (t : LT) (h1 : t.size ≤ 100000) (h2 : t.depth ≤ 10000) (hT : Tame t) (w : World) (hM : M ≤ w.heap.size) (hH : Held w M t) :
    Calls Tryz.prog 46 #[.agg #[.int .i64 t.k, .bool t.g, .slice t.la t.ln t.lc, .bool t.bb, .string t.s, .slice t.ia t.items.length t.ic, .slice t.ta t.tail.length t.tc]] w (NPost (normT t) w) := by
  have hl := fun W (hb : Below w.heap.size w W) => few_any M t W (Nat.le_trans hM hb.size) (hH.below hM hb)
  have hn := fun W (hb : Below w.heap.size w W) => rnorm_tree M 100000 (Nat.le_refl _) t h1 hT W (Nat.le_trans hM hb.size) (hH.below hM hb)
  have hbu : decide (0 ≤ budT t 100000 10000) = true := decide_eq_true (by rw [budT_ge t 100000 10000 (by omega) (by omega)]; omega)
  unfold LT.val at hl
  rw [hbu] at hl
  have HL := Lib.hid (And.intro hl hn)
  clear hl hn hH hT hbu
  generalize normT t = d at *
  go_enter Tryz.func46, Tryz.ntmps46
  go_wp2_with fail
  have hz2 : ((w.alloc (Obj.cells #[.int .i64 t.k, .bool t.g, .slice t.la t.ln t.lc, .bool t.bb, .string t.s, .slice t.ia t.items.length t.ic, .slice t.ta t.tail.length t.tc] 31)).alloc (Obj.cells #[.int .i64 0, .bool false, .slice none 0 0, .bool false, .string ⟨#[]⟩, .slice none 0 0, .slice none 0 0] 31)).heap.size = w.heap.size + 1 + 1 := by rw [World.size_alloc, World.size_alloc]
  refine (HL.out.1 _ (((Below.refl w.heap.size w).alloc (Nat.le_refl _) _).alloc (by simp) _)).mono ?_
  rintro e w1 ⟨rfl, b1⟩
  have hr1 : w1.heap[w.heap.size + 1]? = some (Obj.cells #[.int .i64 0, .bool false, .slice none 0 0, .bool false, .string ⟨#[]⟩, .slice none 0 0, .slice none 0 0] 31) := by
    refine (b1.block _ (by rw [hz2]; omega)).trans ?_
    have := World.alloc_heap_new (w.alloc (Obj.cells #[.int .i64 t.k, .bool t.g, .slice t.la t.ln t.lc, .bool t.bb, .string t.s, .slice t.ia t.items.length t.ic, .slice t.ta t.tail.length t.tc] 31)) (Obj.cells #[.int .i64 0, .bool false, .slice none 0 0, .bool false, .string ⟨#[]⟩, .slice none 0 0, .slice none 0 0] 31)
    rwa [World.size_alloc] at this
  have hr0 : w1.heap[w.heap.size]? = some (Obj.cells #[.int .i64 t.k, .bool t.g, .slice t.la t.ln t.lc, .bool t.bb, .string t.s, .slice t.ia t.items.length t.ic, .slice t.ta t.tail.length t.tc] 31) := (b1.block _ (by rw [hz2]; omega)).trans ((Below.heap_alloc _ _ _ (by simp)).trans (World.alloc_heap_new w _))
  have hb1 : Below w.heap.size w w1 := (((Below.refl w.heap.size w).alloc (Nat.le_refl _) _).alloc (by simp) _).trans (b1.mono (by rw [hz2]; omega))
  have s1 : w.heap.size + 1 + 1 ≤ w1.heap.size := by have := b1.size; rw [hz2] at this; exact this
  clear b1 hz2
  obtain ⟨d0, d1, d2, d3, d4, d5, d6⟩ := cells7 hr0
  have HR1 := Lib.hid (And.intro hr1 hb1)
  clear hr1 hr0 hb1
  go_wp2_with fail
  refine (HL.out.2 w1 HR1.out.2).mono ?_
  rintro e w2 ⟨x', rfl, hP, hsh, b2⟩
  have s2 := b2.size
  have hr := (b2.block (w.heap.size + 1) (by omega)).trans HR1.out.1
  have HY := Lib.hid (And.intro hP (And.intro hsh (HR1.out.2.trans (b2.mono (by omega)))))
  clear b2 d0 d1 d2 d3 d4 d5 d6 hP hsh
  obtain ⟨r0, r1, r2, r3, r4, r5, r6⟩ := cells7 hr
  obtain ⟨f0, f1, f2, f3, f4, f5, f6⟩ := frozen7 hr
  clear hr
  go_wp2_with fail
  (try simp only [Exit.inBlock, Exit.then])
  refine bodyPost_ret (v := .agg #[.int .i64 x'.k, .bool x'.g, .slice x'.la x'.ln x'.lc, .bool x'.bb, .string x'.s, .slice x'.ia x'.items.length x'.ic, .slice x'.ta x'.tail.length x'.tc]) (results_d rfl rfl (by go_simp) (by go_simp) (by go_simp) (by go_simp) (by go_simp) (by go_simp <;> rfl) (by go_simp)) rfl ⟨x', rfl, ?_, HY.out.2.1, ?_⟩
  · exact HeldP.low (U := w.heap.size + 2) (HY.out.1.keep (Nat.le_refl _) fun q hq => ⟨hq.low (by omega), rfl⟩) (set7_low (Low.refl w.heap.size (w.heap.size + 2) _) (by omega) (by omega)) (by omega)
  · exact set7_below HY.out.2.2 (by omega)
mutual
/-- One Tail at most, wherever. -/
def One1 : DT → Prop
  | .mk _ _ _ _ _ items tail => tail.length ≤ 1 ∧ One1R items ∧ One1R tail
def One1R : List DT → Prop
  | [] => True
  | t :: l => One1 t ∧ One1R l
end
theorem one1R_append (l m : List DT) : One1R (l ++ m) ↔ One1R l ∧ One1R m := by
  induction l with
  | nil => simp [One1R]
  | cons t l ih => simp [One1R, ih, and_assoc]
theorem one1_leaf (k : Int) (g : Bool) (ys : List Nat) (bb : Bool) (s : ByteArray) : One1 (leafD k g ys bb s) := by unfold leafD; repeat (first | split | simp [One1, One1R])
theorem one1_close : ∀ (x : List DT × Option DT), One1R x.1 → (∀ e, x.2 = some e → One1 e) → One1 (closeD x)
  | (l, none), h, _ => by simp only [closeD, One1]; exact ⟨by simp, h, by simp [One1R]⟩
  | ([], some e), _, h => h e rfl
  | (x :: l, some e), h, he => by simp only [closeD, One1, One1R, and_true]; exact ⟨by simp, by simpa [One1R] using h, he e rfl⟩
mutual
theorem one1_spine : ∀ t : LT, One1R (spineT t).1 ∧ ∀ e, (spineT t).2 = some e → One1 e
  | .mk k g la ln lc ys bb s ia ic items ta tc tail => by
    simp only [spineT]
    split
    · have h1 := one1_normR items
      have h2 := one1_spineR tail
      exact ⟨(one1R_append _ _).2 ⟨h1, h2.1⟩, h2.2⟩
    · refine ⟨by simp [One1R], fun e he => ?_⟩
      obtain rfl := Option.some.inj he
      exact one1_leaf ..
theorem one1_spineR : ∀ l : List LT, One1R (spineR l).1 ∧ ∀ e, (spineR l).2 = some e → One1 e
  | [] => by simp [spineR, One1R]
  | t :: l => by
    simp only [spineR]
    exact one1_spine t
theorem one1_normR : ∀ l : List LT, One1R (normR l)
  | [] => by simp [normR, One1R]
  | t :: l => by
    simp only [normR, One1R]
    have h1 := one1_spine t
    exact ⟨one1_close _ h1.1 h1.2, one1_normR l⟩
end
theorem one1_norm (t : LT) : One1 (normT t) := one1_close _ (one1_spine t).1 (one1_spine t).2
theorem one1_eq (t : LT) : One1 (shape t) ↔ t.tail.length ≤ 1 ∧ One1R (shapes t.items) ∧ One1R (shapes t.tail) := by rw [shape_eq]; simp only [One1, shapes_length]
theorem one1R_at : ∀ (l : List LT) (k : Nat) (hk : k < l.length), One1R (shapes l) → One1 (shape l[k])
  | t :: l, 0, _, h => by rw [shapes_cons] at h; simp only [One1R] at h; exact h.1
  | t :: l, k + 1, hk, h => by rw [shapes_cons] at h; simp only [One1R] at h; exact one1R_at l k (by simpa using hk) h.2
def quoS (s : ByteArray) : ByteArray := ⟨(betw 34 s.data.toList).toArray⟩
theorem bytes_ext {a b : ByteArray} (h : a.data.toList = b.data.toList) : a = b := by
  obtain ⟨⟨a⟩⟩ := a
  obtain ⟨⟨b⟩⟩ := b
  simp only at h
  rw [h]
theorem rdig4_any (n : Nat) (w : World) : Calls Tryz.prog 184 #[.int .u8 (n : Int)] w fun e w' => e = .returned (.bool (isDig n)) ∧ w = w' := by
  by_cases h1 : 48 ≤ n
  · by_cases h2 : n ≤ 57
    · have e : isDig n = true := by simp [isDig, h1, h2]
      rw [e]
      go_enter Tryz.func184, Tryz.ntmps184
      go_wp2
      all_goals (go_ret; first | exact ⟨rfl, rfl⟩ | (refine ⟨?_, rfl⟩; simp; omega))
    · have e : isDig n = false := by simp [isDig]; omega
      rw [e]
      have hd : decide ((n : Int) ≤ 57) = false := by simp; omega
      go_enter Tryz.func184, Tryz.ntmps184
      go_wp2
      all_goals (go_ret; first | exact ⟨rfl, rfl⟩ | (refine ⟨?_, rfl⟩; simp; omega))
  · have e : isDig n = false := by simp [isDig]; omega
    rw [e]
    have hd : decide (48 ≤ (n : Int)) = false := by simp; omega
    go_enter Tryz.func184, Tryz.ntmps184
    go_wp2
    all_goals (go_ret; first | exact ⟨rfl, rfl⟩ | (refine ⟨?_, rfl⟩; simp; omega))
set_option maxHeartbeats 1600000 in
theorem rdig1_not (c : Nat) (hc : c ≤ 255) (hn : isDig c = false) (w : World) : Calls Tryz.prog 246 #[.int .u8 (c : Int)] w fun e w' => ∃ z : Int, e = .returned (.int .i64 z) ∧ (z = -1 ∨ (10 ≤ z ∧ z ≤ 36)) ∧ w = w' := by
  have hn2 : ¬ (48 ≤ c ∧ c ≤ 57) := by
    intro h
    simp [isDig, h.1, h.2] at hn
  clear hn
  rcases (show c < 48 ∨ (58 ≤ c ∧ c < 65) ∨ (65 ≤ c ∧ c ≤ 90) ∨ (91 ≤ c ∧ c < 97) ∨ (97 ≤ c ∧ c ≤ 122) ∨ 123 ≤ c by omega) with h | ⟨h, h'⟩ | ⟨h, h'⟩ | ⟨h, h'⟩ | ⟨h, h'⟩ | h
  all_goals
    clear hn2
    go_enter Tryz.func246, Tryz.ntmps246
    go_wp2_with fail
    go_ret
    exact ⟨_, rfl, by omega, rfl⟩
set_option maxHeartbeats 1600000 in
theorem rpar1_no (s : ByteArray) (w : World) (hm : s.size ≤ 64) (hn : ∀ h : 0 < s.size, isDig s[0].toNat = false) :
    Calls Tryz.prog 219 #[.string s, .int .i64 10] w fun e w' => e = .returned (.tuple #[.slice none 0 0, .bool false]) ∧ Below w.heap.size w w' := by
  by_cases h3 : s.size < 1
  · clear hn
    go_enter Tryz.func219, Tryz.ntmps219
    go_wp2_with fail
    go_ret2
    exact ⟨rfl, Below.refl _ _⟩
  · have h0 : 0 < s.size := by omega
    have hd := hn h0
    have hc := UInt8.toNat_lt s[0]
    have HD := Lib.hid (fun w => rdig1_not s[0].toNat (by omega) hd w)
    clear hn hd h3
    go_enter Tryz.func219, Tryz.ntmps219
    go_wp2_with fail
    go_loopw [6, 7] (fun _ i wr => i = .int .i64 0 ∧ Below w.heap.size w wr) (fun _ _ _ => 0)
    case atStart => exact ⟨rfl, bnew (Below.refl _ _) _⟩
    case round =>
      obtain ⟨rfl, hbel⟩ := hrel
      go_wp2_with fail
      refine (HD.out _).mono ?_
      rintro e w' ⟨z, rfl, hz, rfl⟩
      rcases hz with rfl | ⟨hz, hz'⟩
      · go_wp2_with fail
        go_ret2
        exact ⟨rfl, hbel⟩
      · have hz0 : 0 ≤ z := by omega
        go_wp2_with fail
        go_ret2
        exact ⟨rfl, hbel⟩
theorem results_p {fn : Func} {tmps : Array Value} {t t2 : Tmp} {w : World} {b : Nat} {v0 v1 v2 : Value} (h : fn.results = #[.cell t 29, .tmp t2]) (ht : tmps.getD t undef = .pointer (some ⟨b, 0, none⟩)) (ht2 : tmps.getD t2 undef = v2) (c0 : w.cell? ⟨b, 0, none⟩ = some v0) (c1 : w.cell? ⟨b, 1, none⟩ = some v1) :
    (results fn tmps).run Tryz.prog w = .ok (.tuple #[.agg #[v0, v1], v2]) w := by
  rw [Array.getD_eq_getD_getElem?] at ht ht2
  simp [results, h, ht, ht2, go_sem, c0, c1]
/-- No number: behind a sign, or at the head, no digit stands. -/
def NoNum (s : ByteArray) : Prop := 0 < s.size ∧ s.size ≤ 64 ∧ isDig (at8 s 0) = false ∧ ((at8 s 0 = 43 ∨ at8 s 0 = 45) → 1 < s.size → isDig (at8 s 1) = false)
theorem at8_extract (s : ByteArray) (h : 1 < s.size) : ∀ k : 0 < (s.extract 1 s.size).size, (s.extract 1 s.size)[0] = s[1] := by
  intro k
  simp [ByteArray.getElem_extract]
theorem size_extract1 (s : ByteArray) : (s.extract 1 s.size).size = s.size - 1 := by simp [ByteArray.size_extract]
set_option maxHeartbeats 3200000 in
theorem rpar2_no (s : ByteArray) (w : World) (h : NoNum s) : Calls Tryz.prog 186 #[.string s] w fun e w' => e = .returned (.tuple #[.agg #[.bool false, .slice none 0 0], .bool false]) ∧ Below w.heap.size w w' := by
  obtain ⟨h0, h64, hd0, hd1⟩ := h
  rw [at8_eq s 0 h0] at hd0 hd1
  have hl : s.data.toList.length = s.size := by simp
  have q1 : (s.toList == []) = false := by
    rw [ByteArray.toList_eq]
    cases h : s.data.toList with
    | nil => rw [h] at hl; simp at hl; omega
    | cons => rfl
  have q2 : ¬ s.toList = [] := by simpa using q1
  have q3 : s.toList.isEmpty = false := by
    rw [ByteArray.toList_eq]
    cases h : s.data.toList with
    | nil => rw [h] at hl; simp at hl; omega
    | cons => rfl
  clear hl
  have hb0 : Below w.heap.size w (w.alloc (.cells #[.bool false, .slice none 0 0] 29)) := (Below.refl _ w).alloc (Nat.le_refl _) _
  have hR := World.alloc_heap_new w (.cells #[.bool false, .slice none 0 0] 29)
  have hz : (w.alloc (.cells #[.bool false, .slice none 0 0] 29)).heap.size = w.heap.size + 1 := World.size_alloc _ _
  by_cases hs : s[0].toNat = 43 ∨ s[0].toNat = 45
  · have hP := rpar1_no (s.extract 1 s.size) (w.alloc (.cells #[.bool false, .slice none 0 0] 29)) (by rw [size_extract1]; omega) (fun k => by
      have h1 : 1 < s.size := by rw [size_extract1] at k; omega
      rw [at8_extract s h1 k, ← at8_eq s 1 h1]
      exact hd1 hs h1)
    have HP := Lib.hid (And.intro hP (And.intro hb0 (And.intro hR hz)))
    clear hd1 hP hb0 hR hz hd0
    rcases hs with hs | hs
    · have e1 : (((s[0].toNat : Nat) : Int) == 45) = false := by rw [hs]; rfl
      have e2 : (((s[0].toNat : Nat) : Int) == 43) = true := by rw [hs]; rfl
      clear hs
      go_enter Tryz.func186, Tryz.ntmps186
      go_wp2_with fail
      refine HP.out.1.mono ?_
      rintro e w1 ⟨rfl, b1⟩
      have hR1 := (b1.block w.heap.size (by rw [HP.out.2.2.2]; omega)).trans HP.out.2.2.1
      have hb1 := HP.out.2.1.trans (b1.mono (by rw [HP.out.2.2.2]; omega))
      have c0 := Lib.cell_of_heap hR1 0
      have c1 := Lib.cell_of_heap hR1 1
      have f0 := Lib.frozen_of_heap hR1 0
      have f1 := Lib.frozen_of_heap hR1 1
      simp only [List.getElem?_toArray, List.getElem?_cons_zero, List.getElem?_cons_succ] at c0 c1
      clear hR1
      go_wp2_with fail
      refine bodyPost_ret (results_p rfl rfl rfl (by go_simp) (by go_simp)) rfl ⟨rfl, ?_⟩
      exact Below.setCell (hp := Nat.le_refl _) (Below.setCell (hp := Nat.le_refl _) hb1 _) _
    · have e1 : (((s[0].toNat : Nat) : Int) == 45) = true := by rw [hs]; rfl
      clear hs
      go_enter Tryz.func186, Tryz.ntmps186
      go_wp2_with fail
      refine HP.out.1.mono ?_
      rintro e w1 ⟨rfl, b1⟩
      have hR1 := (b1.block w.heap.size (by rw [HP.out.2.2.2]; omega)).trans HP.out.2.2.1
      have hb1 := HP.out.2.1.trans (b1.mono (by rw [HP.out.2.2.2]; omega))
      have c0 := Lib.cell_of_heap hR1 0
      have c1 := Lib.cell_of_heap hR1 1
      have f0 := Lib.frozen_of_heap hR1 0
      have f1 := Lib.frozen_of_heap hR1 1
      simp only [List.getElem?_toArray, List.getElem?_cons_zero, List.getElem?_cons_succ] at c0 c1
      clear hR1
      go_wp2_with fail
      refine bodyPost_ret (results_p rfl rfl rfl (by go_simp) (by go_simp)) rfl ⟨rfl, ?_⟩
      exact Below.setCell (hp := Nat.le_refl _) (Below.setCell (hp := Nat.le_refl _) hb1 _) _
  · have hP := rpar1_no s (w.alloc (.cells #[.bool false, .slice none 0 0] 29)) h64 (fun _ => hd0)
    have HP := Lib.hid (And.intro hP (And.intro hb0 (And.intro hR hz)))
    clear hd1 hP hb0 hR hz hd0
    · have e1 : (((s[0].toNat : Nat) : Int) == 45) = false := by simp; omega
      have e2 : (((s[0].toNat : Nat) : Int) == 43) = false := by simp; omega
      clear hs
      go_enter Tryz.func186, Tryz.ntmps186
      go_wp2_with fail
      refine HP.out.1.mono ?_
      rintro e w1 ⟨rfl, b1⟩
      have hR1 := (b1.block w.heap.size (by rw [HP.out.2.2.2]; omega)).trans HP.out.2.2.1
      have hb1 := HP.out.2.1.trans (b1.mono (by rw [HP.out.2.2.2]; omega))
      have c0 := Lib.cell_of_heap hR1 0
      have c1 := Lib.cell_of_heap hR1 1
      have f0 := Lib.frozen_of_heap hR1 0
      have f1 := Lib.frozen_of_heap hR1 1
      simp only [List.getElem?_toArray, List.getElem?_cons_zero, List.getElem?_cons_succ] at c0 c1
      clear hR1
      go_wp2_with fail
      refine bodyPost_ret (results_p rfl rfl rfl (by go_simp) (by go_simp)) rfl ⟨rfl, ?_⟩
      exact Below.setCell (hp := Nat.le_refl _) (Below.setCell (hp := Nat.le_refl _) hb1 _) _
theorem sg_cell (w : World) (k : Nat) (hk : k < 18) : (w.alloc (.cells #[Value.int .u8 33, .int .u8 36, .int .u8 37, .int .u8 38, .int .u8 42, .int .u8 47, .int .u8 58, .int .u8 60, .int .u8 61, .int .u8 62, .int .u8 63, .int .u8 94, .int .u8 95, .int .u8 126, .int .u8 43, .int .u8 45, .int .u8 46, .int .u8 64] 5 (18, 19))).cell? ⟨w.heap.size, k, none⟩ = some (.int .u8 ((sgL.getD k 0 : Nat) : Int)) := by
  rw [Lib.cell_of_heap (World.alloc_heap_new w _)]
  exact sg_at k hk
set_option maxRecDepth 100000 in
set_option maxHeartbeats 6400000 in
theorem letter_sign (n : Nat) (hn : n < 256) (h : n < 48 ∨ (58 ≤ n ∧ n < 65) ∨ (91 ≤ n ∧ n < 97) ∨ 123 ≤ n) (w : World) : Calls Tryz.prog 185 #[.int .u8 (n : Int)] w fun e w' => e = .returned (.bool (isPl n)) ∧ Below w.heap.size w w' := by
  have hdg : isDig n = false := by simp [isDig]; omega
  have hpl : isPl n = isSign n := by
    have a : (decide (97 ≤ n) && decide (n ≤ 122)) = false := by simp; omega
    have b : (decide (65 ≤ n) && decide (n ≤ 90)) = false := by simp; omega
    simp only [isPl, a, b, hdg, Bool.or_false]
  have HPL := Lib.hid hpl
  have hD := fun w => rdig4_any n w
  rw [hdg] at hD
  have HDG := Lib.hid hD
  have HC := Lib.hid (sg_cell w)
  have HB := Lib.hid (show Below w.heap.size w (w.alloc (.cells #[Value.int .u8 33, .int .u8 36, .int .u8 37, .int .u8 38, .int .u8 42, .int .u8 47, .int .u8 58, .int .u8 60, .int .u8 61, .int .u8 62, .int .u8 63, .int .u8 94, .int .u8 95, .int .u8 126, .int .u8 43, .int .u8 45, .int .u8 46, .int .u8 64] 5 (18, 19))) from (Below.refl _ w).alloc (Nat.le_refl _) _)
  clear hpl hdg hD
  have hconv : (convert 107 107 (.slice (some ⟨w.heap.size, 0, none⟩) 18 18)).run Tryz.prog (w.alloc (.cells #[Value.int .u8 33, .int .u8 36, .int .u8 37, .int .u8 38, .int .u8 42, .int .u8 47, .int .u8 58, .int .u8 60, .int .u8 61, .int .u8 62, .int .u8 63, .int .u8 94, .int .u8 95, .int .u8 126, .int .u8 43, .int .u8 45, .int .u8 46, .int .u8 64] 5)) = .ok (.slice (some ⟨w.heap.size, 0, none⟩) 18 18) (w.alloc (.cells #[Value.int .u8 33, .int .u8 36, .int .u8 37, .int .u8 38, .int .u8 42, .int .u8 47, .int .u8 58, .int .u8 60, .int .u8 61, .int .u8 62, .int .u8 63, .int .u8 94, .int .u8 95, .int .u8 126, .int .u8 43, .int .u8 45, .int .u8 46, .int .u8 64] 5 (18, 19))) :=
    Lib.run_convert_bytes_const w 107 5 #[Value.int .u8 33, .int .u8 36, .int .u8 37, .int .u8 38, .int .u8 42, .int .u8 47, .int .u8 58, .int .u8 60, .int .u8 61, .int .u8 62, .int .u8 63, .int .u8 94, .int .u8 95, .int .u8 126, .int .u8 43, .int .u8 45, .int .u8 46, .int .u8 64] 18 18 Tryz.underlying107 Tryz.underlying5
  rcases h with h | ⟨h, h'⟩ | ⟨h, h'⟩ | h
  all_goals
    go_enter Tryz.func185, Tryz.ntmps185
    go_wp2_with (go_at_call 184; refine (HDG.out _).mono ?_; rintro e w' ⟨rfl, rfl⟩)
    clear hconv
    generalize hW : w.alloc (.cells #[Value.int .u8 33, .int .u8 36, .int .u8 37, .int .u8 38, .int .u8 42, .int .u8 47, .int .u8 58, .int .u8 60, .int .u8 61, .int .u8 62, .int .u8 63, .int .u8 94, .int .u8 95, .int .u8 126, .int .u8 43, .int .u8 45, .int .u8 46, .int .u8 64] 5 (18, 19)) = W at *
    clear hW
    go_loop [26] (fun i => ∃ k : Nat, k ≤ 18 ∧ i = .int .i64 k ∧ Hid (∀ j, j < k → sgL.getD j 0 ≠ n)) (fun i => 18 - (intOf i).toNat)
    case atStart => exact ⟨0, Nat.zero_le _, rfl, Lib.hid fun j hj => by omega⟩
    case round =>
      obtain ⟨k, hk, rfl, HN⟩ := hrel
      by_cases hlt : k < 18
      · have hc := HC.out k hlt
        by_cases he : sgL.getD k 0 = n
        · have HP := Lib.hid (show isPl n = true by rw [HPL.out]; exact (isSign_iff n).2 ⟨k, hlt, he⟩)
          rw [he] at hc
          clear he
          go_wp2_with fail
          go_ret
          exact ⟨by rw [HP.out]; rfl, HB.out⟩
        · have HM : Hid (∀ j, j < k + 1 → sgL.getD j 0 ≠ n) := Lib.hid fun j hj => by
            rcases Nat.lt_succ_iff_lt_or_eq.1 hj with h | rfl
            · exact HN.out j h
            · exact he
          generalize sgL.getD k 0 = x at *
          have hx : ((x : Int) == (n : Int)) = false := by simp; omega
          clear he
          go_wp2_with fail
          go_round
          case rel => exact ⟨k + 1, by omega, by go_num, HM⟩
          case measure => simp [intOf]; omega
      · obtain rfl : k = 18 := by omega
        have HS := Lib.hid (show isPl n = false by
          rw [HPL.out]
          cases h : isSign n with
          | false => rfl
          | true => obtain ⟨j, hj, e⟩ := (isSign_iff n).1 h; exact absurd e (HN.out j hj))
        go_wp2_with fail
        go_ret
        exact ⟨by rw [HS.out]; rfl, HB.out⟩
set_option maxRecDepth 100000 in
set_option maxHeartbeats 3200000 in
theorem letter_any (n : Nat) (hn : n < 256) (w : World) : Calls Tryz.prog 185 #[.int .u8 (n : Int)] w fun e w' => e = .returned (.bool (isPl n)) ∧ Below w.heap.size w w' := by
  rcases (show (97 ≤ n ∧ n ≤ 122) ∨ (65 ≤ n ∧ n ≤ 90) ∨ (48 ≤ n ∧ n ≤ 57) ∨ (n < 48 ∨ (58 ≤ n ∧ n < 65) ∨ (91 ≤ n ∧ n < 97) ∨ 123 ≤ n) by omega) with ⟨h, h'⟩ | ⟨h, h'⟩ | ⟨h, h'⟩ | h
  · have HP := Lib.hid (show isPl n = true by simp [isPl, h, h'])
    go_enter Tryz.func185, Tryz.ntmps185
    go_wp2_with fail
    go_ret
    exact ⟨by rw [HP.out]; rfl, Below.refl _ _⟩
  · have HP := Lib.hid (show isPl n = true by simp [isPl, h, h'])
    go_enter Tryz.func185, Tryz.ntmps185
    go_wp2_with fail
    go_ret
    exact ⟨by rw [HP.out]; rfl, Below.refl _ _⟩
  · have hdg : isDig n = true := by simp [isDig, h, h']
    have HP := Lib.hid (show isPl n = true by simp only [isPl, hdg, Bool.or_true])
    have hD := fun w => rdig4_any n w
    rw [hdg] at hD
    have HDG := Lib.hid hD
    clear hdg hD
    go_enter Tryz.func185, Tryz.ntmps185
    go_wp2_with (go_at_call 184; refine (HDG.out _).mono ?_; rintro e w' ⟨rfl, rfl⟩)
    go_ret
    exact ⟨by rw [HP.out]; rfl, Below.refl _ _⟩
  · exact letter_sign n hn h w
set_option maxRecDepth 100000 in
set_option maxHeartbeats 6400000 in
theorem rplain_ok (s : ByteArray) (w : World) (h0 : 0 < s.size) (h64 : s.size ≤ 64) (hd : s.data.toList ≠ [46]) (hdg : isDig s[0].toNat = false) : Calls Tryz.prog 143 #[.string s] w fun e w' => e = .returned (.bool (plainB s)) ∧ Below w.heap.size w w' := by
  have q2 : (s.toList == [46]) = false := by rw [ByteArray.toList_eq]; simpa using hd
  have HPL := Lib.hid (show s.data.toList.all (fun c => isPl c.toNat) = true → plainB s = !begB s by
    intro hall
    have hdd : (!(s.data.toList == [46])) = true := by simpa using hd
    simp only [plainB, at8_eq s 0 h0, hdg, hall, hdd]
    simp [h0, h64])
  have hD := fun w => rdig4_any s[0].toNat w
  rw [hdg] at hD
  have HD0 := Lib.hid hD
  have HDG := Lib.hid hdg
  clear hd hD hdg
  go_enter Tryz.func143, Tryz.ntmps143
  go_wp2_with (go_at_call 184; refine (HD0.out _).mono ?_; rintro e w' ⟨rfl, rfl⟩)
  clear q2 HD0
  go_loopw [3] (fun i wr => ∃ k : Nat, k ≤ s.size ∧ i = .int .i64 k ∧ Hid (plTo s k) ∧ Below w.heap.size w wr) (fun i _ => s.size - (intOf i).toNat)
  case atStart => exact ⟨0, Nat.zero_le _, rfl, Lib.hid (by simp [plTo]), Below.refl _ _⟩
  case round =>
    obtain ⟨k, hk, rfl, HPT, hbel⟩ := hrel
    by_cases hlt : k < s.size
    · have hc := letter_any s[k].toNat (UInt8.toNat_lt _) wr
      by_cases hp : isPl s[k].toNat = true
      · rw [hp] at hc
        have HC := Lib.hid hc
        have HN : Hid (plTo s (k + 1)) := Lib.hid (show plTo s (k + 1) by unfold plTo; rw [take_snoc8 s k hlt, List.all_append, HPT.out]; simp [hp])
        clear hc hp
        go_wp2_with fail
        refine HC.out.mono ?_
        rintro e w2 ⟨rfl, b2⟩
        replace hbel := bnext hbel b2
        go_wp2_with fail
        go_roundw
        case rel => exact ⟨k + 1, by omega, by go_num, HN, hbel⟩
        case measure => simp [intOf]; omega
      · have hp' : isPl s[k].toNat = false := by simpa using hp
        rw [hp'] at hc
        have HC := Lib.hid hc
        have HN := Lib.hid (show plainB s = false by
          have hm : s[k] ∈ s.data.toList := by
            have : s.data.toList[k]? = some s[k] := by rw [List.getElem?_eq_getElem (by simpa using hlt)]; rfl
            exact List.mem_of_getElem? this
          have : s.data.toList.all (fun c => isPl c.toNat) = false := by
            rw [List.all_eq_false]
            exact ⟨s[k], hm, by simpa using hp'⟩
          simp only [plainB, this, Bool.and_false, Bool.false_and])
        clear hc hp hp'
        go_wp2_with fail
        refine HC.out.mono ?_
        rintro e w2 ⟨rfl, b2⟩
        replace hbel := bnext hbel b2
        go_wp2_with fail
        go_ret
        exact ⟨by rw [HN.out]; rfl, hbel⟩
    · obtain rfl : k = s.size := by omega
      have hall : s.data.toList.all (fun c => isPl c.toNat) = true := by
        have := HPT.out
        unfold plTo at this
        rwa [List.take_of_length_le (by simp)] at this
      have HB := Lib.hid (HPL.out hall)
      clear hall
      by_cases hsg : s[0].toNat = 43 ∨ s[0].toNat = 45 ∨ s[0].toNat = 46
      · by_cases h1 : 1 < s.size
        · have hD := fun w => rdig4_any s[1].toNat w
          cases hdx : isDig s[1].toNat with
          | true =>
            rw [hdx] at hD
            have HD1 := Lib.hid hD
            have HR := Lib.hid (show plainB s = false by
              rw [HB.out]
              have : begB s = true := by
                unfold begB
                rw [at8_eq s 0 h0, at8_eq s 1 h1, hdx]
                simp only [Bool.and_true, Bool.and_eq_true, decide_eq_true_eq, Bool.or_eq_true, beq_iff_eq]
                omega
              rw [this]; rfl)
            clear hD hdx
            rcases hsg with hs | hs | hs
            · have e1 : (((s[0].toNat : Nat) : Int) == 43) = true := by rw [hs]; rfl
              clear hs
              go_wp2_with (go_at_call 184; refine (HD1.out _).mono ?_; rintro e w' ⟨rfl, rfl⟩)
              go_ret
              exact ⟨by rw [HR.out]; rfl, hbel⟩
            · have e1 : (((s[0].toNat : Nat) : Int) == 43) = false := by rw [hs]; rfl
              have e2 : (((s[0].toNat : Nat) : Int) == 45) = true := by rw [hs]; rfl
              clear hs
              go_wp2_with (go_at_call 184; refine (HD1.out _).mono ?_; rintro e w' ⟨rfl, rfl⟩)
              go_ret
              exact ⟨by rw [HR.out]; rfl, hbel⟩
            · have e1 : (((s[0].toNat : Nat) : Int) == 43) = false := by rw [hs]; rfl
              have e2 : (((s[0].toNat : Nat) : Int) == 45) = false := by rw [hs]; rfl
              have e3 : (((s[0].toNat : Nat) : Int) == 46) = true := by rw [hs]; rfl
              clear hs
              go_wp2_with (go_at_call 184; refine (HD1.out _).mono ?_; rintro e w' ⟨rfl, rfl⟩)
              go_ret
              exact ⟨by rw [HR.out]; rfl, hbel⟩
          | false =>
            rw [hdx] at hD
            have HD1 := Lib.hid hD
            have HR := Lib.hid (show plainB s = true by
              rw [HB.out]
              have : begB s = false := by
                unfold begB
                rw [at8_eq s 1 h1, hdx, Bool.and_false]
              rw [this]; rfl)
            have HNN := Lib.hid (show NoNum s from ⟨h0, h64, by rw [at8_eq s 0 h0]; exact HDG.out, fun _ _ => by rw [at8_eq s 1 h1]; exact hdx⟩)
            clear hD hdx
            rcases hsg with hs | hs | hs
            · have e1 : (((s[0].toNat : Nat) : Int) == 43) = true := by rw [hs]; rfl
              clear hs
              go_wp2_with (go_at_call 184; refine (HD1.out _).mono ?_; rintro e w' ⟨rfl, rfl⟩)
              refine (rpar2_no s _ HNN.out).mono ?_
              rintro e w2 ⟨rfl, b2⟩
              replace hbel := bnext hbel b2
              go_wp2_with fail
              go_ret
              refine ⟨by rw [HR.out]; rfl, ?_⟩
              have hsz2 := hbel.size
              repeat (first | exact hbel | refine Below.setCell (hp := hsz2) ?_ _ | refine Below.alloc ?_ hsz2 _)
            · have e1 : (((s[0].toNat : Nat) : Int) == 43) = false := by rw [hs]; rfl
              have e2 : (((s[0].toNat : Nat) : Int) == 45) = true := by rw [hs]; rfl
              clear hs
              go_wp2_with (go_at_call 184; refine (HD1.out _).mono ?_; rintro e w' ⟨rfl, rfl⟩)
              refine (rpar2_no s _ HNN.out).mono ?_
              rintro e w2 ⟨rfl, b2⟩
              replace hbel := bnext hbel b2
              go_wp2_with fail
              go_ret
              refine ⟨by rw [HR.out]; rfl, ?_⟩
              have hsz2 := hbel.size
              repeat (first | exact hbel | refine Below.setCell (hp := hsz2) ?_ _ | refine Below.alloc ?_ hsz2 _)
            · have e1 : (((s[0].toNat : Nat) : Int) == 43) = false := by rw [hs]; rfl
              have e2 : (((s[0].toNat : Nat) : Int) == 45) = false := by rw [hs]; rfl
              have e3 : (((s[0].toNat : Nat) : Int) == 46) = true := by rw [hs]; rfl
              clear hs
              go_wp2_with (go_at_call 184; refine (HD1.out _).mono ?_; rintro e w' ⟨rfl, rfl⟩)
              refine (rpar2_no s _ HNN.out).mono ?_
              rintro e w2 ⟨rfl, b2⟩
              replace hbel := bnext hbel b2
              go_wp2_with fail
              go_ret
              refine ⟨by rw [HR.out]; rfl, ?_⟩
              have hsz2 := hbel.size
              repeat (first | exact hbel | refine Below.setCell (hp := hsz2) ?_ _ | refine Below.alloc ?_ hsz2 _)
        · have HR := Lib.hid (show plainB s = true by
            rw [HB.out]
            have : begB s = false := by
              unfold begB
              rw [decide_eq_false h1, Bool.false_and, Bool.false_and]
            rw [this]; rfl)
          have HNN := Lib.hid (show NoNum s from ⟨h0, h64, by rw [at8_eq s 0 h0]; exact HDG.out, fun _ h => absurd h h1⟩)
          have t1 : decide (1 < (s.size : Int)) = false := by simp; omega
          rcases hsg with hs | hs | hs
          · have e1 : (((s[0].toNat : Nat) : Int) == 43) = true := by rw [hs]; rfl
            clear hs
            go_wp2_with fail
            refine (rpar2_no s _ HNN.out).mono ?_
            rintro e w2 ⟨rfl, b2⟩
            replace hbel := bnext hbel b2
            go_wp2_with fail
            go_ret
            refine ⟨by rw [HR.out]; rfl, ?_⟩
            have hsz2 := hbel.size
            repeat (first | exact hbel | refine Below.setCell (hp := hsz2) ?_ _ | refine Below.alloc ?_ hsz2 _)
          · have e1 : (((s[0].toNat : Nat) : Int) == 43) = false := by rw [hs]; rfl
            have e2 : (((s[0].toNat : Nat) : Int) == 45) = true := by rw [hs]; rfl
            clear hs
            go_wp2_with fail
            refine (rpar2_no s _ HNN.out).mono ?_
            rintro e w2 ⟨rfl, b2⟩
            replace hbel := bnext hbel b2
            go_wp2_with fail
            go_ret
            refine ⟨by rw [HR.out]; rfl, ?_⟩
            have hsz2 := hbel.size
            repeat (first | exact hbel | refine Below.setCell (hp := hsz2) ?_ _ | refine Below.alloc ?_ hsz2 _)
          · have e1 : (((s[0].toNat : Nat) : Int) == 43) = false := by rw [hs]; rfl
            have e2 : (((s[0].toNat : Nat) : Int) == 45) = false := by rw [hs]; rfl
            have e3 : (((s[0].toNat : Nat) : Int) == 46) = true := by rw [hs]; rfl
            clear hs
            go_wp2_with fail
            refine (rpar2_no s _ HNN.out).mono ?_
            rintro e w2 ⟨rfl, b2⟩
            replace hbel := bnext hbel b2
            go_wp2_with fail
            go_ret
            refine ⟨by rw [HR.out]; rfl, ?_⟩
            have hsz2 := hbel.size
            repeat (first | exact hbel | refine Below.setCell (hp := hsz2) ?_ _ | refine Below.alloc ?_ hsz2 _)
      · have HR := Lib.hid (show plainB s = true by
          rw [HB.out]
          have : begB s = false := by
            unfold begB
            have hx : (at8 s 0 == 43 || at8 s 0 == 45 || at8 s 0 == 46) = false := by
              rw [at8_eq s 0 h0]
              simp only [Bool.or_eq_false_iff, beq_eq_false_iff_ne]
              omega
            rw [hx, Bool.and_false, Bool.false_and]
          rw [this]; rfl)
        have HNN := Lib.hid (show NoNum s from ⟨h0, h64, by rw [at8_eq s 0 h0]; exact HDG.out, fun h => by rw [at8_eq s 0 h0] at h; omega⟩)
        have e1 : (((s[0].toNat : Nat) : Int) == 43) = false := by simp; omega
        have e2 : (((s[0].toNat : Nat) : Int) == 45) = false := by simp; omega
        have e3 : (((s[0].toNat : Nat) : Int) == 46) = false := by simp; omega
        clear hsg
        go_wp2_with fail
        refine (rpar2_no s _ HNN.out).mono ?_
        rintro e w2 ⟨rfl, b2⟩
        replace hbel := bnext hbel b2
        go_wp2_with fail
        go_ret
        refine ⟨by rw [HR.out]; rfl, ?_⟩
        have hsz2 := hbel.size
        repeat (first | exact hbel | refine Below.setCell (hp := hsz2) ?_ _ | refine Below.alloc ?_ hsz2 _)
theorem drewN_below {w w' : World} {B : Nat} (h : Below B w w') (n : Nat) : Below B w (w'.drewN n) := h.trans ⟨rfl, rfl, rfl, Nat.le_refl _, fun _ _ => rfl⟩
theorem ext1 (s : ByteArray) (k : Nat) (h : k < s.size) : (s.extract k (k + 1)).data.toList = [s[k]] := by
  have h2 : k < s.data.toList.length := by simpa using h
  rw [ByteArray.data_extract, Array.toList_extract, List.extract_eq_take_drop, List.drop_eq_getElem_cons h2, show k + 1 - k = 1 by omega]
  rfl
theorem ext1_size (s : ByteArray) (k : Nat) (h : k < s.size) : (s.extract k (k + 1)).size = 1 := by rw [ByteArray.size_extract]; omega
theorem mk_next (M : Nat) (s T T' : ByteArray) (k : Nat) (hk : k < s.size) (h : T.data.toList = by8 M :: escs M (s.data.toList.take k)) (h' : T'.data.toList = T.data.toList ++ esc M s[k].toNat) : T'.data.toList = by8 M :: escs M (s.data.toList.take (k + 1)) := by
  rw [h', h, take_snoc8 s k hk, escs_append]
  simp [escs]
theorem by8_at (x : UInt8) : by8 x.toNat = x := by unfold by8; simp
theorem app_list (a b : ByteArray) : (a ++ b).data.toList = a.data.toList ++ b.data.toList := by rw [ByteArray.data_append, Array.toList_append]
def hexS : ByteArray := ⟨#[48, 49, 50, 51, 52, 53, 54, 55, 56, 57, 97, 98, 99, 100, 101, 102]⟩
theorem hexS_size : hexS.size = 16 := rfl
theorem hexS_ext (i : Nat) (h : i < 16) : (hexS.extract i (i + 1)).data.toList = [hexd i] := by
  rw [ext1 hexS i (by rw [hexS_size]; exact h)]
  exact congrArg (fun x => [x]) (hex_at i (by exact h))
theorem mark_conv (M : Nat) (hM : M = 124 ∨ M = 34) (w : World) : (convert 107 9 (.slice (some ⟨w.heap.size, 0, none⟩) 1 1)).run Tryz.prog (w.alloc (.cells #[.int .u8 (M : Int)] 5)) = .ok (.string ⟨#[by8 M]⟩) (w.alloc (.cells #[.int .u8 (M : Int)] 5)) := by
  have := run_convert_bytes_arg (P := Tryz.prog) (w.alloc (.cells #[.int .u8 (M : Int)] 5)) 107 5 Tryz.underlying107 Tryz.underlying5 w.heap.size 0 1 1 [(M : Int)] rfl (fun i hi => by
    obtain rfl : i = 0 := by omega
    rw [Lib.cell_of_heap (World.alloc_heap_new w _)]
    rfl) 9 Tryz.underlying9
  rw [this]
  rcases hM with rfl | rfl <;> rfl
set_option maxRecDepth 100000 in
set_option maxHeartbeats 12800000 in
theorem marked_bar (s : ByteArray) (w : World) (hs : s.size ≤ 1100) : Calls Tryz.prog 144 #[.string s, .int .u8 124] w fun e w' => (∃ T : ByteArray, e = .returned (.string T) ∧ T.data.toList = betw 124 s.data.toList) ∧ Below w.heap.size w w' := by
  have hconv : (convert 107 9 (.slice (some ⟨w.heap.size, 0, none⟩) 1 1)).run Tryz.prog (w.alloc (.cells #[.int .u8 124] 5)) = .ok (.string ⟨#[by8 124]⟩) (w.alloc (.cells #[.int .u8 124] 5)) := mark_conv 124 (by decide) w
  have HB := Lib.hid (show Below w.heap.size w (w.alloc (.cells #[.int .u8 124] 5)) from (Below.refl _ w).alloc (Nat.le_refl _) _)
  go_enter Tryz.func144, Tryz.ntmps144
  go_wp2_with fail
  clear hconv
  generalize w.alloc (.cells #[.int .u8 124] 5) = W at *
  go_loopw [6, 7] (fun o i wr => ∃ (k : Nat) (T : ByteArray), k ≤ s.size ∧ i = .int .i64 k ∧ o = .string T ∧ T.size ≤ 5 * k + 1 ∧ Hid (T.data.toList = by8 124 :: escs 124 (s.data.toList.take k)) ∧ Below w.heap.size w wr) (fun _ i _ => s.size - (intOf i).toNat)
  case atStart => exact ⟨0, _, Nat.zero_le _, rfl, rfl, by decide, Lib.hid (by simp [escs]), HB.out⟩
  case round =>
    obtain ⟨k, T, hk, rfl, rfl, hT, HT, hbel⟩ := hrel
    by_cases hlt : k < s.size
    · have hx := ext1_size s k hlt
      have z1 : ∀ x, (⟨#[x]⟩ : ByteArray).size = 1 := fun _ => rfl
      have z2 : ∀ x y, (⟨#[x, y]⟩ : ByteArray).size = 2 := fun _ _ => rfl
      have HX := Lib.hid (ext1 s k hlt)
      have hc8 := UInt8.toNat_lt s[k]
      rcases (show s[k].toNat = 124 ∨ s[k].toNat = 92 ∨ (s[k].toNat < 32) ∨ (126 < s[k].toNat) ∨ (32 ≤ s[k].toNat ∧ s[k].toNat ≤ 126 ∧ s[k].toNat ≠ 124 ∧ s[k].toNat ≠ 92) by omega) with hc | hc | hc | hc | ⟨hc, hc1, hc2, hc3⟩
      · have t1 : (((s[k].toNat : Nat) : Int) == 124) = true := by rw [hc]; rfl
        have HE := Lib.hid (show esc 124 s[k].toNat = _ by rw [esc, if_pos (by omega)])
        clear hc
        go_wp2_with fail
        go_round
        case rel => exact ⟨k + 1, _, by omega, by go_num, rfl, by simp only [ByteArray.size_append, hx, z1, z2]; omega, Lib.hid (mk_next 124 s T _ k hlt HT.out (by rw [HE.out, app_list, app_list, HX.out]; (try rw [by8_at]); (try rfl))), hbel⟩
        case measure => simp [intOf]; omega
      · have t1 : (((s[k].toNat : Nat) : Int) == 124) = false := by rw [hc]; rfl
        have t2 : (((s[k].toNat : Nat) : Int) == 92) = true := by rw [hc]; rfl
        have HE := Lib.hid (show esc 124 s[k].toNat = _ by rw [esc, if_pos (by omega)])
        clear hc
        go_wp2_with fail
        go_round
        case rel => exact ⟨k + 1, _, by omega, by go_num, rfl, by simp only [ByteArray.size_append, hx, z1, z2]; omega, Lib.hid (mk_next 124 s T _ k hlt HT.out (by rw [HE.out, app_list, app_list, HX.out]; (try rw [by8_at]); (try rfl))), hbel⟩
        case measure => simp [intOf]; omega
      · have t1 : (((s[k].toNat : Nat) : Int) == 124) = false := by simp; omega
        have t2 : (((s[k].toNat : Nat) : Int) == 92) = false := by simp; omega
        have HE := Lib.hid (show esc 124 s[k].toNat = _ by rw [esc, if_neg (by omega), if_neg (by omega), if_neg (by omega), if_pos (by omega)])
        have hq : s[k].toNat / 16 < 16 := by omega
        have hr : s[k].toNat % 16 < 16 := by omega
        have HQ := Lib.hid (hexS_ext (s[k].toNat / 16) hq)
        have HR := Lib.hid (hexS_ext (s[k].toNat % 16) hr)
        have hqs := ext1_size hexS (s[k].toNat / 16) hq
        have hrs := ext1_size hexS (s[k].toNat % 16) hr
        unfold hexS at HQ HR hqs hrs
        go_wp2_with fail
        go_quiet (fail)
        replace hbel := drewN_below hbel nq
        generalize wr.drewN nq = w5 at *
        go_wp2_with fail
        go_round
        case rel => exact ⟨k + 1, _, by omega, by go_num, rfl, by simp only [ByteArray.size_append, hx, z1, z2, hqs, hrs]; omega, Lib.hid (mk_next 124 s T _ k hlt HT.out (by rw [HE.out, app_list, app_list, app_list, app_list, HQ.out, HR.out]; (try rfl))), hbel⟩
        case measure => simp [intOf]; omega
      · have t1 : (((s[k].toNat : Nat) : Int) == 124) = false := by simp; omega
        have t2 : (((s[k].toNat : Nat) : Int) == 92) = false := by simp; omega
        have HE := Lib.hid (show esc 124 s[k].toNat = _ by rw [esc, if_neg (by omega), if_neg (by omega), if_neg (by omega), if_pos (by omega)])
        have hq : s[k].toNat / 16 < 16 := by omega
        have hr : s[k].toNat % 16 < 16 := by omega
        have HQ := Lib.hid (hexS_ext (s[k].toNat / 16) hq)
        have HR := Lib.hid (hexS_ext (s[k].toNat % 16) hr)
        have hqs := ext1_size hexS (s[k].toNat / 16) hq
        have hrs := ext1_size hexS (s[k].toNat % 16) hr
        unfold hexS at HQ HR hqs hrs
        go_wp2_with fail
        go_quiet (fail)
        replace hbel := drewN_below hbel nq
        generalize wr.drewN nq = w5 at *
        go_wp2_with fail
        go_round
        case rel => exact ⟨k + 1, _, by omega, by go_num, rfl, by simp only [ByteArray.size_append, hx, z1, z2, hqs, hrs]; omega, Lib.hid (mk_next 124 s T _ k hlt HT.out (by rw [HE.out, app_list, app_list, app_list, app_list, HQ.out, HR.out]; (try rfl))), hbel⟩
        case measure => simp [intOf]; omega
      · have t1 : (((s[k].toNat : Nat) : Int) == 124) = false := by simp; omega
        have t2 : (((s[k].toNat : Nat) : Int) == 92) = false := by simp; omega
        have HE := Lib.hid (show esc 124 s[k].toNat = _ by rw [esc, if_neg (by omega), if_neg (by omega), if_neg (by omega), if_neg (by omega)])
        go_wp2_with fail
        go_round
        case rel => exact ⟨k + 1, _, by omega, by go_num, rfl, by simp only [ByteArray.size_append, hx, z1, z2]; omega, Lib.hid (mk_next 124 s T _ k hlt HT.out (by rw [HE.out, app_list, HX.out]; (try rw [by8_at]); (try rfl))), hbel⟩
        case measure => simp [intOf]; omega
    · obtain rfl : k = s.size := by omega
      go_wp2_with fail
      go_ret
      refine ⟨⟨_, rfl, ?_⟩, hbel⟩
      rw [app_list, HT.out, List.take_of_length_le (by simp)]
      rfl
set_option maxRecDepth 100000 in
set_option maxHeartbeats 12800000 in
theorem marked_quo (s : ByteArray) (w : World) (hs : s.size ≤ 1100) : Calls Tryz.prog 144 #[.string s, .int .u8 34] w fun e w' => (∃ T : ByteArray, e = .returned (.string T) ∧ T.data.toList = betw 34 s.data.toList) ∧ Below w.heap.size w w' := by
  have hconv : (convert 107 9 (.slice (some ⟨w.heap.size, 0, none⟩) 1 1)).run Tryz.prog (w.alloc (.cells #[.int .u8 34] 5)) = .ok (.string ⟨#[by8 34]⟩) (w.alloc (.cells #[.int .u8 34] 5)) := mark_conv 34 (by decide) w
  have HB := Lib.hid (show Below w.heap.size w (w.alloc (.cells #[.int .u8 34] 5)) from (Below.refl _ w).alloc (Nat.le_refl _) _)
  go_enter Tryz.func144, Tryz.ntmps144
  go_wp2_with fail
  clear hconv
  generalize w.alloc (.cells #[.int .u8 34] 5) = W at *
  go_loopw [6, 7] (fun o i wr => ∃ (k : Nat) (T : ByteArray), k ≤ s.size ∧ i = .int .i64 k ∧ o = .string T ∧ T.size ≤ 5 * k + 1 ∧ Hid (T.data.toList = by8 34 :: escs 34 (s.data.toList.take k)) ∧ Below w.heap.size w wr) (fun _ i _ => s.size - (intOf i).toNat)
  case atStart => exact ⟨0, _, Nat.zero_le _, rfl, rfl, by decide, Lib.hid (by simp [escs]), HB.out⟩
  case round =>
    obtain ⟨k, T, hk, rfl, rfl, hT, HT, hbel⟩ := hrel
    by_cases hlt : k < s.size
    · have hx := ext1_size s k hlt
      have z1 : ∀ x, (⟨#[x]⟩ : ByteArray).size = 1 := fun _ => rfl
      have z2 : ∀ x y, (⟨#[x, y]⟩ : ByteArray).size = 2 := fun _ _ => rfl
      have HX := Lib.hid (ext1 s k hlt)
      have hc8 := UInt8.toNat_lt s[k]
      rcases (show s[k].toNat = 34 ∨ s[k].toNat = 92 ∨ s[k].toNat = 10 ∨ s[k].toNat = 9 ∨ (s[k].toNat < 32 ∧ s[k].toNat ≠ 34 ∧ s[k].toNat ≠ 92 ∧ s[k].toNat ≠ 10 ∧ s[k].toNat ≠ 9) ∨ (126 < s[k].toNat) ∨ (32 ≤ s[k].toNat ∧ s[k].toNat ≤ 126 ∧ s[k].toNat ≠ 34 ∧ s[k].toNat ≠ 92) by omega) with hc | hc | hc | hc | ⟨hc, hc1, hc2, hc3, hc4⟩ | hc | ⟨hc, hc1, hc2, hc3⟩
      · have t1 : (((s[k].toNat : Nat) : Int) == 34) = true := by rw [hc]; rfl
        have HE := Lib.hid (show esc 34 s[k].toNat = _ by rw [esc, if_pos (by omega)])
        clear hc
        go_wp2_with fail
        go_round
        case rel => exact ⟨k + 1, _, by omega, by go_num, rfl, by simp only [ByteArray.size_append, hx, z1, z2]; omega, Lib.hid (mk_next 34 s T _ k hlt HT.out (by rw [HE.out, app_list, app_list, HX.out]; (try rw [by8_at]); (try rfl))), hbel⟩
        case measure => simp [intOf]; omega
      · have t1 : (((s[k].toNat : Nat) : Int) == 34) = false := by rw [hc]; rfl
        have t2 : (((s[k].toNat : Nat) : Int) == 92) = true := by rw [hc]; rfl
        have HE := Lib.hid (show esc 34 s[k].toNat = _ by rw [esc, if_pos (by omega)])
        clear hc
        go_wp2_with fail
        go_round
        case rel => exact ⟨k + 1, _, by omega, by go_num, rfl, by simp only [ByteArray.size_append, hx, z1, z2]; omega, Lib.hid (mk_next 34 s T _ k hlt HT.out (by rw [HE.out, app_list, app_list, HX.out]; (try rw [by8_at]); (try rfl))), hbel⟩
        case measure => simp [intOf]; omega
      · have t1 : (((s[k].toNat : Nat) : Int) == 34) = false := by rw [hc]; rfl
        have t2 : (((s[k].toNat : Nat) : Int) == 92) = false := by rw [hc]; rfl
        have t3 : (((s[k].toNat : Nat) : Int) == 10) = true := by rw [hc]; rfl
        have HE := Lib.hid (show esc 34 s[k].toNat = _ by rw [esc, if_neg (by omega), if_pos (by omega)])
        clear hc
        go_wp2_with fail
        go_round
        case rel => exact ⟨k + 1, _, by omega, by go_num, rfl, by simp only [ByteArray.size_append, hx, z1, z2]; omega, Lib.hid (mk_next 34 s T _ k hlt HT.out (by rw [HE.out, app_list]; (try rfl))), hbel⟩
        case measure => simp [intOf]; omega
      · have t1 : (((s[k].toNat : Nat) : Int) == 34) = false := by rw [hc]; rfl
        have t2 : (((s[k].toNat : Nat) : Int) == 92) = false := by rw [hc]; rfl
        have t3 : (((s[k].toNat : Nat) : Int) == 10) = false := by rw [hc]; rfl
        have t4 : (((s[k].toNat : Nat) : Int) == 9) = true := by rw [hc]; rfl
        have HE := Lib.hid (show esc 34 s[k].toNat = _ by rw [esc, if_neg (by omega), if_neg (by omega), if_pos (by omega)])
        clear hc
        go_wp2_with fail
        go_round
        case rel => exact ⟨k + 1, _, by omega, by go_num, rfl, by simp only [ByteArray.size_append, hx, z1, z2]; omega, Lib.hid (mk_next 34 s T _ k hlt HT.out (by rw [HE.out, app_list]; (try rfl))), hbel⟩
        case measure => simp [intOf]; omega
      · have t1 : (((s[k].toNat : Nat) : Int) == 34) = false := by simp; omega
        have t2 : (((s[k].toNat : Nat) : Int) == 92) = false := by simp; omega
        have t3 : (((s[k].toNat : Nat) : Int) == 10) = false := by simp; omega
        have t4 : (((s[k].toNat : Nat) : Int) == 9) = false := by simp; omega
        have HE := Lib.hid (show esc 34 s[k].toNat = _ by rw [esc, if_neg (by omega), if_neg (by omega), if_neg (by omega), if_pos (by omega)])
        have hq : s[k].toNat / 16 < 16 := by omega
        have hr : s[k].toNat % 16 < 16 := by omega
        have HQ := Lib.hid (hexS_ext (s[k].toNat / 16) hq)
        have HR := Lib.hid (hexS_ext (s[k].toNat % 16) hr)
        have hqs := ext1_size hexS (s[k].toNat / 16) hq
        have hrs := ext1_size hexS (s[k].toNat % 16) hr
        unfold hexS at HQ HR hqs hrs
        go_wp2_with fail
        go_quiet (fail)
        replace hbel := drewN_below hbel nq
        generalize wr.drewN nq = w5 at *
        go_wp2_with fail
        go_round
        case rel => exact ⟨k + 1, _, by omega, by go_num, rfl, by simp only [ByteArray.size_append, hx, z1, z2, hqs, hrs]; omega, Lib.hid (mk_next 34 s T _ k hlt HT.out (by rw [HE.out, app_list, app_list, app_list, app_list, HQ.out, HR.out]; (try rfl))), hbel⟩
        case measure => simp [intOf]; omega
      · have t1 : (((s[k].toNat : Nat) : Int) == 34) = false := by simp; omega
        have t2 : (((s[k].toNat : Nat) : Int) == 92) = false := by simp; omega
        have t3 : (((s[k].toNat : Nat) : Int) == 10) = false := by simp; omega
        have t4 : (((s[k].toNat : Nat) : Int) == 9) = false := by simp; omega
        have HE := Lib.hid (show esc 34 s[k].toNat = _ by rw [esc, if_neg (by omega), if_neg (by omega), if_neg (by omega), if_pos (by omega)])
        have hq : s[k].toNat / 16 < 16 := by omega
        have hr : s[k].toNat % 16 < 16 := by omega
        have HQ := Lib.hid (hexS_ext (s[k].toNat / 16) hq)
        have HR := Lib.hid (hexS_ext (s[k].toNat % 16) hr)
        have hqs := ext1_size hexS (s[k].toNat / 16) hq
        have hrs := ext1_size hexS (s[k].toNat % 16) hr
        unfold hexS at HQ HR hqs hrs
        go_wp2_with fail
        go_quiet (fail)
        replace hbel := drewN_below hbel nq
        generalize wr.drewN nq = w5 at *
        go_wp2_with fail
        go_round
        case rel => exact ⟨k + 1, _, by omega, by go_num, rfl, by simp only [ByteArray.size_append, hx, z1, z2, hqs, hrs]; omega, Lib.hid (mk_next 34 s T _ k hlt HT.out (by rw [HE.out, app_list, app_list, app_list, app_list, HQ.out, HR.out]; (try rfl))), hbel⟩
        case measure => simp [intOf]; omega
      · have t1 : (((s[k].toNat : Nat) : Int) == 34) = false := by simp; omega
        have t2 : (((s[k].toNat : Nat) : Int) == 92) = false := by simp; omega
        have t3 : (((s[k].toNat : Nat) : Int) == 10) = false := by simp; omega
        have t4 : (((s[k].toNat : Nat) : Int) == 9) = false := by simp; omega
        have HE := Lib.hid (show esc 34 s[k].toNat = _ by rw [esc, if_neg (by omega), if_neg (by omega), if_neg (by omega), if_neg (by omega)])
        go_wp2_with fail
        go_round
        case rel => exact ⟨k + 1, _, by omega, by go_num, rfl, by simp only [ByteArray.size_append, hx, z1, z2]; omega, Lib.hid (mk_next 34 s T _ k hlt HT.out (by rw [HE.out, app_list, HX.out]; (try rw [by8_at]); (try rfl))), hbel⟩
        case measure => simp [intOf]; omega
    · obtain rfl : k = s.size := by omega
      go_wp2_with fail
      go_ret
      refine ⟨⟨_, rfl, ?_⟩, hbel⟩
      rw [app_list, HT.out, List.take_of_length_le (by simp)]
      rfl
set_option maxRecDepth 100000 in
set_option maxHeartbeats 1600000 in
theorem rplain_any (s : ByteArray) (w : World) (hs : s.size ≤ 1100) : Calls Tryz.prog 143 #[.string s] w fun e w' => e = .returned (.bool (plainB s)) ∧ Below w.heap.size w w' := by
  by_cases h0 : 0 < s.size
  · by_cases h64 : s.size ≤ 64
    · by_cases hd : s.data.toList = [46]
      · obtain rfl : s = ⟨#[46]⟩ := by
          have : s = ⟨s.data.toList.toArray⟩ := by cases s; simp
          rw [this, hd]
        go_enter Tryz.func143, Tryz.ntmps143
        go_wp2_with fail
        go_ret
        exact ⟨rfl, Below.refl _ _⟩
      · cases hdg : isDig s[0].toNat with
        | false => exact rplain_ok s w h0 h64 hd hdg
        | true =>
          have HN := Lib.hid (show plainB s = false by simp only [plainB, at8_eq s 0 h0, hdg, Bool.not_true, Bool.and_false, Bool.false_and])
          have q2 : (s.toList == [46]) = false := by rw [ByteArray.toList_eq]; simpa using hd
          have hD := fun w => rdig4_any s[0].toNat w
          rw [hdg] at hD
          have HD0 := Lib.hid hD
          clear hd hD hdg
          go_enter Tryz.func143, Tryz.ntmps143
          go_wp2_with (go_at_call 184; refine (HD0.out _).mono ?_; rintro e w' ⟨rfl, rfl⟩)
          go_ret
          exact ⟨by rw [HN.out]; rfl, Below.refl _ _⟩
    · have HN := Lib.hid (show plainB s = false by simp [plainB, h64])
      have t1 : decide ((s.size : Int) < 1) = false := by simp; omega
      have t64 : decide (64 < (s.size : Int)) = true := by simp; omega
      go_enter Tryz.func143, Tryz.ntmps143
      go_wp2_with fail
      go_ret
      exact ⟨by rw [HN.out]; rfl, Below.refl _ _⟩
  · obtain rfl : s = ⟨#[]⟩ := by
      have h1 : s.size = 0 := by omega
      have : s = ⟨s.data⟩ := by cases s; rfl
      rw [this, Array.eq_empty_of_size_eq_zero h1]
    go_enter Tryz.func143, Tryz.ntmps143
    go_wp2_with fail
    go_ret
    exact ⟨rfl, Below.refl _ _⟩
theorem text_of {T : ByteArray} {l : List UInt8} (h : T.data.toList = l) : T = ⟨l.toArray⟩ := bytes_ext (by rw [h])
set_option maxHeartbeats 1600000 in
theorem rname_any (s : ByteArray) (w : World) (hs : s.size ≤ 1100) : Calls Tryz.prog 86 #[.string s] w fun e w' => e = .returned (.string (nameS s)) ∧ Below w.heap.size w w' := by
  have hp := rplain_any s w hs
  cases hpl : plainB s with
  | true =>
    have HN := Lib.hid (show nameS s = s by unfold nameS; rw [if_pos hpl])
    rw [hpl] at hp
    have HP := Lib.hid hp
    clear hp hpl
    go_enter Tryz.func86, Tryz.ntmps86
    go_wp2_with fail
    refine HP.out.mono ?_
    rintro e w1 ⟨rfl, b1⟩
    go_wp2_with fail
    go_ret
    exact ⟨by rw [HN.out]; rfl, b1⟩
  | false =>
    have HN := Lib.hid (show nameS s = ⟨(betw 124 s.data.toList).toArray⟩ by unfold nameS; rw [if_neg (by rw [hpl]; decide)])
    rw [hpl] at hp
    have HP := Lib.hid hp
    clear hp hpl
    go_enter Tryz.func86, Tryz.ntmps86
    go_wp2_with fail
    refine HP.out.mono ?_
    rintro e w1 ⟨rfl, b1⟩
    go_wp2_with fail
    refine (marked_bar s w1 hs).mono ?_
    rintro e w2 ⟨⟨T, rfl, hT⟩, b2⟩
    go_wp2_with fail
    go_ret
    exact ⟨by rw [HN.out, text_of hT]; rfl, bnext b1 b2⟩
set_option maxHeartbeats 1600000 in
theorem rquote_any (s : ByteArray) (w : World) (hs : s.size ≤ 1100) : Calls Tryz.prog 87 #[.string s] w fun e w' => e = .returned (.string (quoS s)) ∧ Below w.heap.size w w' := by
  go_enter Tryz.func87, Tryz.ntmps87
  go_wp2_with fail
  refine (marked_quo s w hs).mono ?_
  rintro e w2 ⟨⟨T, rfl, hT⟩, b2⟩
  go_wp2_with fail
  go_ret
  exact ⟨by rw [text_of hT]; rfl, b2⟩
/-- A block that no writer of the builder in block b touches. -/
def Solid (w : World) (b k : Nat) : Prop := k ≠ b ∧ ∃ o, w.heap[k]? = some o ∧ ∀ c fz, o ≠ .cells c 5 fz
theorem Solid.lt {w : World} {b k : Nat} (h : Solid w b k) : k < w.heap.size := by
  obtain ⟨_, o, ho, _⟩ := h
  exact (Array.getElem?_eq_some_iff.1 ho).1
theorem Solid.same {w w' : World} {b k : Nat} (h : Solid w b k) (e : w'.heap[k]? = w.heap[k]?) : Solid w' b k := ⟨h.1, by rw [e]; exact h.2⟩
theorem allDR_at {p : Int → List Nat → ByteArray → Prop} : ∀ (l : List LT) (k : Nat) (hk : k < l.length), AllDR p (shapes l) → AllD p (shape l[k])
  | t :: l, 0, _, h => by rw [shapes_cons] at h; simp only [AllDR] at h; exact h.1
  | t :: l, k + 1, hk, h => by rw [shapes_cons] at h; simp only [AllDR] at h; exact allDR_at l k (by simpa using hk) h.2
theorem allD_eq {p : Int → List Nat → ByteArray → Prop} (t : LT) : AllD p (shape t) ↔ p t.k t.ys t.s ∧ AllDR p (shapes t.items) ∧ AllDR p (shapes t.tail) := by rw [shape_eq]; simp only [AllD]
theorem shapes_at (l : List LT) (k : Nat) (hk : k < l.length) : (shapes l)[k]? = some (shape l[k]) := by
  induction l generalizing k with
  | nil => cases hk
  | cons t l ih =>
    rw [shapes_cons]
    cases k with
    | zero => rfl
    | succ k => simpa using ih k (by simpa using hk)
theorem shapes_take (l : List LT) (k : Nat) (hk : k < l.length) : (shapes l).take (k + 1) = (shapes l).take k ++ [shape l[k]] := by rw [List.take_add_one, shapes_at l k hk]; rfl
theorem take_ne {l : List LT} {k : Nat} (hk : 0 < k) (hn : k < l.length) : (shapes l).take k ≠ [] := by
  intro h
  have := congrArg List.length h
  rw [List.length_take, shapes_length, Nat.min_eq_left (by omega)] at this
  simp at this
  omega
theorem nm_size (s : ByteArray) : (nameS s).size ≤ 5 * s.size + 2 := by
  unfold nameS
  have h := escs_length 124 s.data.toList
  have e : s.data.toList.length = s.size := Array.length_toList
  split
  · omega
  · show (betw 124 s.data.toList).toArray.size ≤ _
    rw [List.size_toArray]
    simp only [betw, List.length_cons, List.length_append, List.length_nil]; omega
theorem qu_size (s : ByteArray) : (quoS s).size ≤ 5 * s.size + 2 := by
  have h := escs_length 34 s.data.toList
  have e : s.data.toList.length = s.size := Array.length_toList
  show (betw 34 s.data.toList).toArray.size ≤ _
  rw [List.size_toArray]
  simp only [betw, List.length_cons, List.length_append, List.length_nil]; omega
/-- A variable's block holds the datum. -/
structure VarD (w : World) (g : Nat) (t : LT) : Prop where
  at_ : w.heap[g]? = some (Obj.cells #[.int .i64 t.k, .bool t.g, .slice t.la t.ln t.lc, .bool t.bb, .string t.s, .slice t.ia t.items.length t.ic, .slice t.ta t.tail.length t.tc] 31)
theorem VarD.next {w w' : World} {g : Nat} {t : LT} (h : VarD w g t) (hb : Below w.heap.size w w') : VarD w' g t := ⟨(hb.block g (Array.getElem?_eq_some_iff.1 h.at_).1).trans h.at_⟩
theorem VarD.drew {w : World} {g : Nat} {t : LT} (h : VarD w g t) : VarD w.drew g t := ⟨h.at_⟩
theorem VarD.c {w : World} {g : Nat} {t : LT} (h : VarD w g t) : w.cell? ⟨g, 0, none⟩ = some (.int .i64 t.k) ∧ w.cell? ⟨g, 1, none⟩ = some (.bool t.g) ∧ w.cell? ⟨g, 2, none⟩ = some (.slice t.la t.ln t.lc) ∧ w.cell? ⟨g, 3, none⟩ = some (.bool t.bb) ∧ w.cell? ⟨g, 4, none⟩ = some (.string t.s) ∧ w.cell? ⟨g, 5, none⟩ = some (.slice t.ia t.items.length t.ic) ∧ w.cell? ⟨g, 6, none⟩ = some (.slice t.ta t.tail.length t.tc) := by
  refine ⟨?_, ?_, ?_, ?_, ?_, ?_, ?_⟩ <;> (rw [Lib.cell_of_heap h.at_]; rfl)
theorem VarD.new (w : World) (t : LT) : VarD (w.alloc (Obj.cells #[.int .i64 t.k, .bool t.g, .slice t.la t.ln t.lc, .bool t.bb, .string t.s, .slice t.ia t.items.length t.ic, .slice t.ta t.tail.length t.tc] 31)) w.heap.size t := ⟨World.alloc_heap_new w _⟩
/-- What text tells. -/
def TPost (l : List UInt8) (w : World) (e : Ending) (w' : World) : Prop := ∃ s : ByteArray, e = .returned (.string s) ∧ s.data.toList = l ∧ Below w.heap.size w w'
theorem bsize {s : ByteArray} {l : List UInt8} (h : s.data.toList = l) : s.size = l.length := by rw [← h]; exact (Array.length_toList (xs := s.data)).symm
set_option maxRecDepth 100000 in
set_option maxHeartbeats 6400000 in
theorem rtext_numT (t : LT) (show_ : Bool) (w : World) (hk : t.k = 1) (hl : t.ln ≤ 1000) (hs : Sl w t.la t.ln t.lc t.ys) :
    Calls Tryz.prog 45 #[.agg #[.int .i64 t.k, .bool t.g, .slice t.la t.ln t.lc, .bool t.bb, .string t.s, .slice t.ia t.items.length t.ic, .slice t.ta t.tail.length t.tc], .bool show_] w (TPost (wtxt (zOf t.g (val t.ys))) w) := by
  have hb : Below w.heap.size w (w.alloc (Obj.cells #[.int .i64 1, .bool t.g, .slice t.la t.ln t.lc, .bool t.bb, .string t.s, .slice t.ia t.items.length t.ic, .slice t.ta t.tail.length t.tc] 31)) := (Below.refl _ w).alloc (Nat.le_refl _) _
  have HT := Lib.hid (rwtext_num (w := w.alloc (Obj.cells #[.int .i64 1, .bool t.g, .slice t.la t.ln t.lc, .bool t.bb, .string t.s, .slice t.ia t.items.length t.ic, .slice t.ta t.tail.length t.tc] 31)) (u := .agg #[.bool t.g, .slice t.la t.ln t.lc]) (a := zOf t.g (val t.ys)) (K := 1000) ⟨t.g, _, val t.ys, rfl, ⟨t.la, t.ln, t.lc, t.ys, rfl, hs.below hb, rfl, hl⟩, rfl⟩ (by decide))
  have HB := Lib.hid hb
  rw [hk]
  clear hk hb hs
  go_enter Tryz.func45, Tryz.ntmps45
  go_wp2_with fail
  refine HT.out.mono ?_
  rintro e w3 ⟨s, rfl, hs, b3⟩
  have HS := Lib.hid (And.intro hs (bnext HB.out b3))
  clear hs b3
  go_wp2_with fail
  go_ret
  exact ⟨s, rfl, HS.out⟩
set_option maxRecDepth 100000 in
set_option maxHeartbeats 6400000 in
theorem rtext_boolT (t : LT) (show_ : Bool) (w : World) (hk : t.k = 2) :
    Calls Tryz.prog 45 #[.agg #[.int .i64 t.k, .bool t.g, .slice t.la t.ln t.lc, .bool t.bb, .string t.s, .slice t.ia t.items.length t.ic, .slice t.ta t.tail.length t.tc], .bool show_] w (TPost (if t.bb then [35, 116] else [35, 102]) w) := by
  have HB := Lib.hid ((Below.refl w.heap.size w).alloc (Nat.le_refl _) (Obj.cells #[.int .i64 2, .bool t.g, .slice t.la t.ln t.lc, .bool t.bb, .string t.s, .slice t.ia t.items.length t.ic, .slice t.ta t.tail.length t.tc] 31))
  rw [hk]
  clear hk
  generalize t.bb = x at *
  cases x
  all_goals
    go_enter Tryz.func45, Tryz.ntmps45
    go_wp2_with fail
    go_ret
    exact ⟨_, rfl, rfl, HB.out⟩
set_option maxRecDepth 100000 in
set_option maxHeartbeats 6400000 in
theorem rtext_symT (t : LT) (show_ : Bool) (w : World) (hk : t.k = 3) (hs : t.s.size ≤ 1100) :
    Calls Tryz.prog 45 #[.agg #[.int .i64 t.k, .bool t.g, .slice t.la t.ln t.lc, .bool t.bb, .string t.s, .slice t.ia t.items.length t.ic, .slice t.ta t.tail.length t.tc], .bool show_] w (TPost ((if show_ then t.s else nameS t.s).data.toList) w) := by
  have HB := Lib.hid ((Below.refl w.heap.size w).alloc (Nat.le_refl _) (Obj.cells #[.int .i64 3, .bool t.g, .slice t.la t.ln t.lc, .bool t.bb, .string t.s, .slice t.ia t.items.length t.ic, .slice t.ta t.tail.length t.tc] 31))
  have HT := Lib.hid (rname_any t.s (w.alloc (Obj.cells #[.int .i64 3, .bool t.g, .slice t.la t.ln t.lc, .bool t.bb, .string t.s, .slice t.ia t.items.length t.ic, .slice t.ta t.tail.length t.tc] 31)) hs)
  rw [hk]
  clear hk
  cases show_ with
  | true =>
    go_enter Tryz.func45, Tryz.ntmps45
    go_wp2_with fail
    go_ret
    exact ⟨_, rfl, rfl, HB.out⟩
  | false =>
    go_enter Tryz.func45, Tryz.ntmps45
    go_wp2_with fail
    refine HT.out.mono ?_
    rintro e w3 ⟨rfl, b3⟩
    go_wp2_with fail
    go_ret
    exact ⟨_, rfl, rfl, bnext HB.out b3⟩
set_option maxRecDepth 100000 in
set_option maxHeartbeats 6400000 in
theorem rtext_strT (t : LT) (show_ : Bool) (w : World) (hk : t.k = 4) (hs : t.s.size ≤ 1100) :
    Calls Tryz.prog 45 #[.agg #[.int .i64 t.k, .bool t.g, .slice t.la t.ln t.lc, .bool t.bb, .string t.s, .slice t.ia t.items.length t.ic, .slice t.ta t.tail.length t.tc], .bool show_] w (TPost ((if show_ then t.s else quoS t.s).data.toList) w) := by
  have HB := Lib.hid ((Below.refl w.heap.size w).alloc (Nat.le_refl _) (Obj.cells #[.int .i64 4, .bool t.g, .slice t.la t.ln t.lc, .bool t.bb, .string t.s, .slice t.ia t.items.length t.ic, .slice t.ta t.tail.length t.tc] 31))
  have HT := Lib.hid (rquote_any t.s (w.alloc (Obj.cells #[.int .i64 4, .bool t.g, .slice t.la t.ln t.lc, .bool t.bb, .string t.s, .slice t.ia t.items.length t.ic, .slice t.ta t.tail.length t.tc] 31)) hs)
  rw [hk]
  clear hk
  cases show_ with
  | true =>
    go_enter Tryz.func45, Tryz.ntmps45
    go_wp2_with fail
    go_ret
    exact ⟨_, rfl, rfl, HB.out⟩
  | false =>
    go_enter Tryz.func45, Tryz.ntmps45
    go_wp2_with fail
    refine HT.out.mono ?_
    rintro e w3 ⟨rfl, b3⟩
    go_wp2_with fail
    go_ret
    exact ⟨_, rfl, rfl, bnext HB.out b3⟩
set_option maxRecDepth 100000 in
set_option maxHeartbeats 6400000 in
theorem rtext_otherT (t : LT) (show_ : Bool) (w : World) (h1 : t.k ≠ 1) (h2 : t.k ≠ 2) (h3 : t.k ≠ 3) (h4 : t.k ≠ 4) (h5 : t.k ≠ 5) :
    Calls Tryz.prog 45 #[.agg #[.int .i64 t.k, .bool t.g, .slice t.la t.ln t.lc, .bool t.bb, .string t.s, .slice t.ia t.items.length t.ic, .slice t.ta t.tail.length t.tc], .bool show_] w (TPost [35, 118] w) := by
  have HB := Lib.hid ((Below.refl w.heap.size w).alloc (Nat.le_refl _) (Obj.cells #[.int .i64 t.k, .bool t.g, .slice t.la t.ln t.lc, .bool t.bb, .string t.s, .slice t.ia t.items.length t.ic, .slice t.ta t.tail.length t.tc] 31))
  have q1 : (t.k == 1) = false := beq_eq_false_iff_ne.2 h1
  have q2 : (t.k == 2) = false := beq_eq_false_iff_ne.2 h2
  have q3 : (t.k == 3) = false := beq_eq_false_iff_ne.2 h3
  have q4 : (t.k == 4) = false := beq_eq_false_iff_ne.2 h4
  have q5 : (t.k == 5) = false := beq_eq_false_iff_ne.2 h5
  go_enter Tryz.func45, Tryz.ntmps45
  go_wp2_with fail
  go_ret
  exact ⟨_, rfl, rfl, HB.out⟩
def RtRel (t : LT) (tf tg : ByteArray → ByteArray) (w : World) (s i : Value) (wr : World) : Prop :=
  ∃ (k : Nat) (sb : ByteArray), k ≤ t.items.length ∧ i = .int .i64 k ∧ s = .string sb ∧ Hid (sb.data.toList = wR tf tg ((shapes t.items).take k)) ∧ sb.size ≤ 100000000 ∧ Below w.heap.size w wr ∧ Hid (VarD wr w.heap.size t)
theorem cat3 (a b c : ByteArray) : (a ++ b ++ c).data.toList = a.data.toList ++ b.data.toList ++ c.data.toList := by rw [ByteArray.data_append, ByteArray.data_append, Array.toList_append, Array.toList_append]
theorem cat2 (a b : ByteArray) : (a ++ b).data.toList = a.data.toList ++ b.data.toList := by rw [ByteArray.data_append, Array.toList_append]
set_option maxRecDepth 100000 in
set_option maxHeartbeats 12800000 in
theorem rtext_listT (M N : Nat) (show_ : Bool) (tf tg : ByteArray → ByteArray)
    (ih : ∀ u : LT, u.size ≤ N → ∀ w : World, M ≤ w.heap.size → Held w M u → AllD pB (shape u) → One1 (shape u) → (wD tf tg (shape u)).length < 100000000 → Calls Tryz.prog 45 #[.agg #[.int .i64 u.k, .bool u.g, .slice u.la u.ln u.lc, .bool u.bb, .string u.s, .slice u.ia u.items.length u.ic, .slice u.ta u.tail.length u.tc], .bool show_] w (TPost (wD tf tg (shape u)) w))
    (t : LT) (hsz : t.size ≤ N + 1) (hk : t.k = 5) (w : World) (hM : M ≤ w.heap.size) (hH : Held w M t) (hA : AllD pB (shape t)) (hO : One1 (shape t)) (hl : (wD tf tg (shape t)).length < 100000000) :
    Calls Tryz.prog 45 #[.agg #[.int .i64 t.k, .bool t.g, .slice t.la t.ln t.lc, .bool t.bb, .string t.s, .slice t.ia t.items.length t.ic, .slice t.ta t.tail.length t.tc], .bool show_] w (TPost (wD tf tg (shape t)) w) := by
  rw [wD_list tf tg t hk] at hl ⊢
  have hls : (wR tf tg (shapes t.items)).length + (wTl tf tg (shapes t.tail)).length + 2 < 100000000 := by simp only [List.length_cons, List.length_append, List.length_nil] at hl; omega
  have hb0 : Below w.heap.size w (w.alloc (Obj.cells #[.int .i64 t.k, .bool t.g, .slice t.la t.ln t.lc, .bool t.bb, .string t.s, .slice t.ia t.items.length t.ic, .slice t.ta t.tail.length t.tc] 31)) := (Below.refl _ w).alloc (Nat.le_refl _) _
  have q1 : (t.k == 1) = false := beq_eq_false_iff_ne.2 (by omega)
  have q2 : (t.k == 2) = false := beq_eq_false_iff_ne.2 (by omega)
  have q3 : (t.k == 3) = false := beq_eq_false_iff_ne.2 (by omega)
  have q4 : (t.k == 4) = false := beq_eq_false_iff_ne.2 (by omega)
  have q5 : (t.k == 5) = true := beq_iff_eq.2 hk
  have HS := Lib.hid (And.intro hsz (And.intro hA ((one1_eq t).1 hO)))
  have HIH := Lib.hid ih
  have HH := Lib.hid hH
  have HB0 := Lib.hid hb0
  have ht1 := ((one1_eq t).1 hO).1
  have D := VarD.new w t
  clear hsz hA hk ih hH hl hO hb0
  generalize hwD : 40 :: (wR tf tg (shapes t.items) ++ (wTl tf tg (shapes t.tail) ++ [41])) = out at *
  have HWD := Lib.hid hwD
  clear hwD
  by_cases hn : 0 < t.items.length
  · have haa := (HH.out.2.1.2.2.1 hn).1
    have hgM := (HH.out.2.1.2.2.1 hn).2
    have hcap := HH.out.2.1.2.1
    have hcl := HH.out.2.1.1
    unfold maxLen at hcap
    have HV0 := Lib.hid D
    clear D
    generalize hgb : blk t.ia = gb at *
    generalize hgo : ofs t.ia = go at *
    rw [haa] at HV0 HB0 ⊢
    have HA := Lib.hid haa
    have HGB := Lib.hid (And.intro hgb hgo)
    clear haa hgb hgo
    go_enter Tryz.func45, Tryz.ntmps45
    go_wp2_with fail
    go_loopw [5, 42] (fun s i wr => RtRel t tf tg w s i wr) (fun _ i _ => t.items.length - (intOf i).toNat)
    case atStart => exact ⟨0, ⟨#[]⟩, Nat.zero_le _, rfl, rfl, Lib.hid (by simp [wR_nil]), by decide, HB0.out, HV0⟩
    case round =>
      obtain ⟨k, sb, hk, rfl, rfl, HT, hsb8, hbel, HV⟩ := hrel
      by_cases hlt : k < t.items.length
      · have hHw := HH.out.below hM hbel
        have hli := (liesR_iff _ _ _).1 hHw.2.2.2.1 k hlt
        rw [HGB.out.1, HGB.out.2] at hli
        obtain ⟨_, hcell, hheld⟩ := lies_held.1 hli
        have hszx := sizes_mem hlt
        have hszs := t.size_eq
        have tk := shapes_take t.items k hlt
        have hlen1 := wR_take tf tg (shapes t.items) (k + 1)
        have hAx := allDR_at t.items k hlt ((allD_eq t).1 HS.out.2.1).2.1
        have hOx := one1R_at t.items k hlt HS.out.2.2.2.1
        generalize t.items[k] = x at *
        rw [Nat.mul_comm 7 k] at hcell
        have d0 : wr.cell? ⟨gb, go + k * 7, none⟩ = some (.int .i64 x.k) := hcell 0 _ rfl
        have d1 : wr.cell? ⟨gb, go + k * 7 + 1, none⟩ = some (.bool x.g) := hcell 1 _ rfl
        have d2 : wr.cell? ⟨gb, go + k * 7 + 2, none⟩ = some (.slice x.la x.ln x.lc) := hcell 2 _ rfl
        have d3 : wr.cell? ⟨gb, go + k * 7 + 3, none⟩ = some (.bool x.bb) := hcell 3 _ rfl
        have d4 : wr.cell? ⟨gb, go + k * 7 + 4, none⟩ = some (.string x.s) := hcell 4 _ rfl
        have d5 : wr.cell? ⟨gb, go + k * 7 + 5, none⟩ = some (.slice x.ia x.items.length x.ic) := hcell 5 _ rfl
        have d6 : wr.cell? ⟨gb, go + k * 7 + 6, none⟩ = some (.slice x.ta x.tail.length x.tc) := hcell 6 _ rfl
        generalize hnn : t.items.length = n at *
        have hba := (Below.refl wr.heap.size wr).alloc (Nat.le_refl _) (Obj.cells #[.int .i64 x.k, .bool x.g, .slice x.la x.ln x.lc, .bool x.bb, .string x.s, .slice x.ia x.items.length x.ic, .slice x.ta x.tail.length x.tc] 31)
        have hsbk := bsize HT.out
        have hbs := hbel.size
        have hlk := wR_take tf tg (shapes t.items) k
        have hwx : (wD tf tg (shape x)).length ≤ (wR tf tg (shapes t.items)).length := by
          by_cases hk0 : k = 0
          · subst hk0
            rw [tk, List.take_zero, List.nil_append, wR_one] at hlen1
            exact hlen1
          · rw [tk, wR_snoc _ _ _ _ (take_ne (by omega) (by rw [hnn]; exact hlt))] at hlen1
            simp only [List.length_append, List.length_cons] at hlen1
            omega
        have HC := Lib.hid (HIH.out x (by have := HS.out.1; omega) (wr.alloc (Obj.cells #[.int .i64 x.k, .bool x.g, .slice x.la x.ln x.lc, .bool x.bb, .string x.s, .slice x.ia x.items.length x.ic, .slice x.ta x.tail.length x.tc] 31)) (by have := hba.size; omega) (hheld.below (by omega) hba) hAx hOx (by omega))
        have HX := Lib.hid (And.intro tk (And.intro hnn (And.intro (hbel.trans (hba.mono hbs)) (HV.out.next hba))))
        clear hba hcell hheld hli hHw hszx hszs hAx hOx tk hnn hbel
        by_cases hk0 : k = 0
        · subst hk0
          simp only [Nat.zero_mul, Nat.add_zero] at d0 d1 d2 d3 d4 d5 d6
          have htk : wR tf tg ((shapes t.items).take (0 + 1)) = wD tf tg (shape x) := by rw [HX.out.1, List.take_zero, List.nil_append, wR_one]
          have hsb0 : sb.data.toList = [] := by rw [HT.out, List.take_zero, wR_nil]
          have HTK := Lib.hid (And.intro htk hsb0)
          clear htk hsb0 hlen1
          go_wp2_with fail
          refine HC.out.mono ?_
          rintro e w5 ⟨s2, rfl, hs2, b5⟩
          have hs2s := bsize hs2
          have HN := Lib.hid (show RtRel t tf tg w (.string (sb ++ s2)) (.int .i64 1) w5 from by
            refine ⟨1, sb ++ s2, by rw [HX.out.2.1]; omega, rfl, rfl, Lib.hid ?_, ?_, bnext HX.out.2.2.1 b5, Lib.hid (HX.out.2.2.2.next b5)⟩
            · rw [cat2, HTK.out.2, hs2, List.nil_append, show (1 : Nat) = 0 + 1 from rfl, HTK.out.1]
            · rw [ByteArray.size_append, hs2s, bsize HTK.out.2]; simp only [List.length_nil]; omega)
          clear hs2 b5 d0 d1 d2 d3 d4 d5 d6
          go_wp2_with fail
          go_roundw
          case rel => exact HN.out
          case measure => simp [intOf]; omega
        · have hkp : 0 < k := by omega
          have hkd : decide ((0 : Int) < (k : Nat)) = true := decide_eq_true (by omega)
          have htk : wR tf tg ((shapes t.items).take (k + 1)) = wR tf tg ((shapes t.items).take k) ++ 32 :: wD tf tg (shape x) := by rw [HX.out.1, wR_snoc _ _ _ _ (take_ne (by omega) (by rw [HX.out.2.1]; exact hlt))]
          have hlx : (wR tf tg ((shapes t.items).take k)).length + 1 + (wD tf tg (shape x)).length ≤ (wR tf tg (shapes t.items)).length := by rw [htk] at hlen1; simp only [List.length_append, List.length_cons] at hlen1; omega
          have HTK := Lib.hid htk
          clear htk hlen1 hk0
          go_wp2_with fail
          refine HC.out.mono ?_
          rintro e w5 ⟨s2, rfl, hs2, b5⟩
          have hs2s := bsize hs2
          have HN := Lib.hid (show RtRel t tf tg w (.string (sb ++ ⟨#[32]⟩ ++ s2)) (.int .i64 (k + 1)) w5 from by
            refine ⟨k + 1, sb ++ ⟨#[32]⟩ ++ s2, by rw [HX.out.2.1]; omega, by simp, rfl, Lib.hid ?_, ?_, bnext HX.out.2.2.1 b5, Lib.hid (HX.out.2.2.2.next b5)⟩
            · rw [cat3, HT.out, hs2, HTK.out]
              simp
            · rw [ByteArray.size_append, ByteArray.size_append, hs2s, hsbk, show (⟨#[32]⟩ : ByteArray).size = 1 from rfl]; omega)
          have hsb9 : sb.size ≤ 100000000 := hsb8
          clear hs2 b5 d0 d1 d2 d3 d4 d5 d6 hkd
          go_wp2_with fail
          go_roundw
          case rel => exact HN.out
          case measure => simp [intOf]; omega
      · obtain rfl : k = t.items.length := by omega
        have hsb : sb.data.toList = wR tf tg (shapes t.items) := by have h := HT.out; rwa [List.take_of_length_le (by rw [shapes_length]; exact Nat.le_refl _)] at h
        clear hlt hgM hcap hcl HT
        have hD6 := (HV.out.c).2.2.2.2.2.2
        have hbs := hbel.size
        have HSB := Lib.hid hsb
        clear hsb
        by_cases hm : t.tail.length = 0
        · rw [hm] at hD6
          have HTN := Lib.hid (List.length_eq_zero_iff.1 hm)
          have hbw := hbel
          obtain ⟨wo, hwo⟩ : ∃ wo, wo = wr := ⟨_, rfl⟩
          rw [← hwo] at hD6 hbw ⊢
          clear hwo hbel
          go_wp2_with fail
          go_loopw [5, 60] (fun s j ws => s = .string sb ∧ j = .int .i64 0 ∧ ws = wo) (fun _ _ _ => 0)
          case atStart => exact ⟨rfl, rfl, rfl⟩
          case round =>
            clear hD6
            obtain ⟨rfl, rfl, rfl⟩ := hrel
            go_wp2_with fail
            go_ret
            refine ⟨_, rfl, ?_, hbw⟩
            rw [← HWD.out, HTN.out, shapes_nil, wTl_nil, cat3, HSB.out]
            rfl
        · obtain ⟨y, hy⟩ : ∃ y, t.tail = [y] := by
            have hl1 : t.tail.length = 1 := by omega
            cases hc : t.tail with
            | nil => rw [hc] at hl1; cases hl1
            | cons y ys =>
              rw [hc] at hl1
              obtain rfl : ys = [] := List.length_eq_zero_iff.1 (by simpa using hl1)
              exact ⟨y, rfl⟩
          have HY := Lib.hid hy
          have hm1 : t.tail.length = 1 := by rw [hy]; rfl
          have hHw := HH.out.below hM hbel
          have hta := (hHw.2.2.1.2.2.1 (by omega)).1
          have htM := (hHw.2.2.1.2.2.1 (by omega)).2
          have htc := hHw.2.2.1.2.1
          have htl := hHw.2.2.1.1
          unfold maxLen at htc
          rw [hm1] at hD6 htl
          rw [hta] at hD6
          have htR := hHw.2.2.2.2
          rw [hy, liesR_cons] at htR
          obtain ⟨_, hyc0, hyh0⟩ := lies_held.1 htR.1
          have HYC := Lib.hid (And.intro hyc0 hyh0)
          have hsy := t.size_eq
          have hsy2 : sizes t.tail = y.size := by rw [hy]; simp [sizes]
          have hAy : AllD pB (shape y) := by
            have h := ((allD_eq t).1 HS.out.2.1).2.2
            rw [hy, shapes_cons] at h
            simp only [AllDR] at h
            exact h.1
          have hOy : One1 (shape y) := by
            have h := HS.out.2.2.2.2
            rw [hy, shapes_cons] at h
            simp only [One1R] at h
            exact h.1
          have hlw : (wTl tf tg (shapes t.tail)).length = 3 + (wD tf tg (shape y)).length := by rw [hy, shapes_cons, wTl_cons]; simp only [List.length_cons]; omega
          have HIY := Lib.hid (fun W (hW : Below wr.heap.size wr W) => HIH.out y (by have := HS.out.1; omega) W (by have := hW.size; omega) (hyh0.below (by omega) hW) hAy hOy (by omega))
          have hsbs : sb.size = (wR tf tg (shapes t.items)).length := bsize HSB.out
          have hbw := Lib.hid hbel
          generalize blk t.ta = tb at *
          generalize ofs t.ta = to at *
          clear hta htR hyc0 hyh0 hHw hAy hOy hm hy hm1
          obtain ⟨wo, rfl⟩ : ∃ wo : World, wo = wr := ⟨_, rfl⟩
          go_wp2_with fail
          clear hD6
          go_loopw [5, 60] (fun s j ws => ∃ (q : Nat) (sc : ByteArray), q ≤ 1 ∧ j = .int .i64 q ∧ s = .string sc ∧ Hid (sc.data.toList = wR tf tg (shapes t.items) ++ (if q = 0 then [] else wTl tf tg (shapes t.tail))) ∧ sc.size ≤ 100000000 ∧ Below wo.heap.size wo ws) (fun _ j _ => 1 - (intOf j).toNat)
          case atStart => exact ⟨0, sb, by decide, rfl, rfl, Lib.hid (by rw [HSB.out, if_pos rfl, List.append_nil]), hsb8, Below.refl _ _⟩
          case round =>
            obtain ⟨q, sc, hq, rfl, rfl, HQ, hsc8, hws⟩ := hrel
            by_cases hq0 : q = 0
            · subst hq0
              have hws9 := hws.size
              have hyc : ∀ j v, y.cells[j]? = some v → wr.cell? ⟨tb, to + j, none⟩ = some v := fun j v hj => (hws.cell (p := ⟨tb, to + j, none⟩) (by show tb < wo.heap.size; omega)).trans (HYC.out.1 j v hj)
              have y0 : wr.cell? ⟨tb, to, none⟩ = some (.int .i64 y.k) := hyc 0 _ rfl
              have y1 : wr.cell? ⟨tb, to + 1, none⟩ = some (.bool y.g) := hyc 1 _ rfl
              have y2 : wr.cell? ⟨tb, to + 2, none⟩ = some (.slice y.la y.ln y.lc) := hyc 2 _ rfl
              have y3 : wr.cell? ⟨tb, to + 3, none⟩ = some (.bool y.bb) := hyc 3 _ rfl
              have y4 : wr.cell? ⟨tb, to + 4, none⟩ = some (.string y.s) := hyc 4 _ rfl
              have y5 : wr.cell? ⟨tb, to + 5, none⟩ = some (.slice y.ia y.items.length y.ic) := hyc 5 _ rfl
              have y6 : wr.cell? ⟨tb, to + 6, none⟩ = some (.slice y.ta y.tail.length y.tc) := hyc 6 _ rfl
              have hQ0 : sc.data.toList = wR tf tg (shapes t.items) := by have h := HQ.out; simpa using h
              have hscs : sc.size = (wR tf tg (shapes t.items)).length := bsize hQ0
              have hba := Lib.hid (hws.trans (((Below.refl wr.heap.size wr).alloc (Nat.le_refl _) (Obj.cells #[.int .i64 y.k, .bool y.g, .slice y.la y.ln y.lc, .bool y.bb, .string y.s, .slice y.ia y.items.length y.ic, .slice y.ta y.tail.length y.tc] 31)).mono hws.size))
              clear hyc hws
              go_wp2_with fail
              refine (HIY.out _ hba.out).mono ?_
              rintro e w5 ⟨s2, rfl, hs2, b5⟩
              have hs2s := bsize hs2
              have HN := Lib.hid (And.intro (show (sc ++ (⟨#[32, 46, 32]⟩ ++ s2)).data.toList = wR tf tg (shapes t.items) ++ (if (1 : Nat) = 0 then [] else wTl tf tg (shapes t.tail)) by
                rw [cat2, cat2, hQ0, HY.out, shapes_cons, wTl_cons, hs2]
                simp) (bnext hba.out b5))
              have hsz5 : (sc ++ (⟨#[32, 46, 32]⟩ ++ s2)).size ≤ 100000000 := by rw [ByteArray.size_append, ByteArray.size_append, hs2s, hscs, show (⟨#[32, 46, 32]⟩ : ByteArray).size = 3 from rfl]; omega
              clear hs2 b5 y0 y1 y2 y3 y4 y5 y6
              go_wp2_with fail
              go_roundw
              case rel => exact ⟨1, _, by decide, rfl, rfl, HN.out.1 |> Lib.hid, hsz5, HN.out.2⟩
              case measure => simp [intOf]
            · obtain rfl : q = 1 := by omega
              go_wp2_with fail
              go_ret
              refine ⟨_, rfl, ?_, hbw.out.trans (hws.mono hbs)⟩
              rw [← HWD.out, cat3, HQ.out, if_neg (by decide)]
              simp
  · have hn0 : t.items.length = 0 := by omega
    have HV0 := Lib.hid D
    rw [hn0] at HV0 HB0 ⊢
    have HX := Lib.hid hn0
    clear D hn hn0
    go_enter Tryz.func45, Tryz.ntmps45
    go_wp2_with fail
    go_loopw [5, 42] (fun s i wr => RtRel t tf tg w s i wr) (fun _ _ _ => 0)
    case atStart => exact ⟨0, ⟨#[]⟩, Nat.zero_le _, rfl, rfl, Lib.hid (by simp [wR_nil]), by decide, HB0.out, HV0⟩
    case round =>
      obtain ⟨k, sb, hk, rfl, rfl, HT, hsb8, hbel, HV⟩ := hrel
      rw [HX.out] at hk
      have hk0 : k = 0 := by omega
      have hkf : decide ((k : Int) < 0) = false := decide_eq_false (by omega)
      have hsb : sb.data.toList = wR tf tg (shapes t.items) := by have h := HT.out; rw [List.length_eq_zero_iff.1 HX.out, shapes_nil] at h ⊢; simpa using h
      clear HT hk0 hk
      have hD6 := (HV.out.c).2.2.2.2.2.2
      have hbs := hbel.size
      have HSB := Lib.hid hsb
      clear hsb
      by_cases hm : t.tail.length = 0
      · rw [hm] at hD6
        have HTN := Lib.hid (List.length_eq_zero_iff.1 hm)
        have hbw := hbel
        obtain ⟨wo, hwo⟩ : ∃ wo, wo = wr := ⟨_, rfl⟩
        rw [← hwo] at hD6 hbw ⊢
        clear hwo hbel
        go_wp2_with fail
        go_loopw [5, 60] (fun s j ws => s = .string sb ∧ j = .int .i64 0 ∧ ws = wo) (fun _ _ _ => 0)
        case atStart => exact ⟨rfl, rfl, rfl⟩
        case round =>
          clear hD6
          obtain ⟨rfl, rfl, rfl⟩ := hrel
          go_wp2_with fail
          go_ret
          refine ⟨_, rfl, ?_, hbw⟩
          rw [← HWD.out, HTN.out, shapes_nil, wTl_nil, cat3, HSB.out]
          rfl
      · obtain ⟨y, hy⟩ : ∃ y, t.tail = [y] := by
          have hl1 : t.tail.length = 1 := by omega
          cases hc : t.tail with
          | nil => rw [hc] at hl1; cases hl1
          | cons y ys =>
            rw [hc] at hl1
            obtain rfl : ys = [] := List.length_eq_zero_iff.1 (by simpa using hl1)
            exact ⟨y, rfl⟩
        have HY := Lib.hid hy
        have hm1 : t.tail.length = 1 := by rw [hy]; rfl
        have hHw := HH.out.below hM hbel
        have hta := (hHw.2.2.1.2.2.1 (by omega)).1
        have htM := (hHw.2.2.1.2.2.1 (by omega)).2
        have htc := hHw.2.2.1.2.1
        have htl := hHw.2.2.1.1
        unfold maxLen at htc
        rw [hm1] at hD6 htl
        rw [hta] at hD6
        have htR := hHw.2.2.2.2
        rw [hy, liesR_cons] at htR
        obtain ⟨_, hyc0, hyh0⟩ := lies_held.1 htR.1
        have HYC := Lib.hid (And.intro hyc0 hyh0)
        have hsy := t.size_eq
        have hsy2 : sizes t.tail = y.size := by rw [hy]; simp [sizes]
        have hAy : AllD pB (shape y) := by
          have h := ((allD_eq t).1 HS.out.2.1).2.2
          rw [hy, shapes_cons] at h
          simp only [AllDR] at h
          exact h.1
        have hOy : One1 (shape y) := by
          have h := HS.out.2.2.2.2
          rw [hy, shapes_cons] at h
          simp only [One1R] at h
          exact h.1
        have hlw : (wTl tf tg (shapes t.tail)).length = 3 + (wD tf tg (shape y)).length := by rw [hy, shapes_cons, wTl_cons]; simp only [List.length_cons]; omega
        have HIY := Lib.hid (fun W (hW : Below wr.heap.size wr W) => HIH.out y (by have := HS.out.1; omega) W (by have := hW.size; omega) (hyh0.below (by omega) hW) hAy hOy (by omega))
        have hsbs : sb.size = (wR tf tg (shapes t.items)).length := bsize HSB.out
        have hbw := Lib.hid hbel
        generalize blk t.ta = tb at *
        generalize ofs t.ta = to at *
        clear hta htR hyc0 hyh0 hHw hAy hOy hm hy hm1
        obtain ⟨wo, rfl⟩ : ∃ wo : World, wo = wr := ⟨_, rfl⟩
        go_wp2_with fail
        clear hD6
        go_loopw [5, 60] (fun s j ws => ∃ (q : Nat) (sc : ByteArray), q ≤ 1 ∧ j = .int .i64 q ∧ s = .string sc ∧ Hid (sc.data.toList = wR tf tg (shapes t.items) ++ (if q = 0 then [] else wTl tf tg (shapes t.tail))) ∧ sc.size ≤ 100000000 ∧ Below wo.heap.size wo ws) (fun _ j _ => 1 - (intOf j).toNat)
        case atStart => exact ⟨0, sb, by decide, rfl, rfl, Lib.hid (by rw [HSB.out, if_pos rfl, List.append_nil]), hsb8, Below.refl _ _⟩
        case round =>
          obtain ⟨q, sc, hq, rfl, rfl, HQ, hsc8, hws⟩ := hrel
          by_cases hq0 : q = 0
          · subst hq0
            have hws9 := hws.size
            have hyc : ∀ j v, y.cells[j]? = some v → wr.cell? ⟨tb, to + j, none⟩ = some v := fun j v hj => (hws.cell (p := ⟨tb, to + j, none⟩) (by show tb < wo.heap.size; omega)).trans (HYC.out.1 j v hj)
            have y0 : wr.cell? ⟨tb, to, none⟩ = some (.int .i64 y.k) := hyc 0 _ rfl
            have y1 : wr.cell? ⟨tb, to + 1, none⟩ = some (.bool y.g) := hyc 1 _ rfl
            have y2 : wr.cell? ⟨tb, to + 2, none⟩ = some (.slice y.la y.ln y.lc) := hyc 2 _ rfl
            have y3 : wr.cell? ⟨tb, to + 3, none⟩ = some (.bool y.bb) := hyc 3 _ rfl
            have y4 : wr.cell? ⟨tb, to + 4, none⟩ = some (.string y.s) := hyc 4 _ rfl
            have y5 : wr.cell? ⟨tb, to + 5, none⟩ = some (.slice y.ia y.items.length y.ic) := hyc 5 _ rfl
            have y6 : wr.cell? ⟨tb, to + 6, none⟩ = some (.slice y.ta y.tail.length y.tc) := hyc 6 _ rfl
            have hQ0 : sc.data.toList = wR tf tg (shapes t.items) := by have h := HQ.out; simpa using h
            have hscs : sc.size = (wR tf tg (shapes t.items)).length := bsize hQ0
            have hba := Lib.hid (hws.trans (((Below.refl wr.heap.size wr).alloc (Nat.le_refl _) (Obj.cells #[.int .i64 y.k, .bool y.g, .slice y.la y.ln y.lc, .bool y.bb, .string y.s, .slice y.ia y.items.length y.ic, .slice y.ta y.tail.length y.tc] 31)).mono hws.size))
            clear hyc hws
            go_wp2_with fail
            refine (HIY.out _ hba.out).mono ?_
            rintro e w5 ⟨s2, rfl, hs2, b5⟩
            have hs2s := bsize hs2
            have HN := Lib.hid (And.intro (show (sc ++ (⟨#[32, 46, 32]⟩ ++ s2)).data.toList = wR tf tg (shapes t.items) ++ (if (1 : Nat) = 0 then [] else wTl tf tg (shapes t.tail)) by
              rw [cat2, cat2, hQ0, HY.out, shapes_cons, wTl_cons, hs2]
              simp) (bnext hba.out b5))
            have hsz5 : (sc ++ (⟨#[32, 46, 32]⟩ ++ s2)).size ≤ 100000000 := by rw [ByteArray.size_append, ByteArray.size_append, hs2s, hscs, show (⟨#[32, 46, 32]⟩ : ByteArray).size = 3 from rfl]; omega
            clear hs2 b5 y0 y1 y2 y3 y4 y5 y6
            go_wp2_with fail
            go_roundw
            case rel => exact ⟨1, _, by decide, rfl, rfl, HN.out.1 |> Lib.hid, hsz5, HN.out.2⟩
            case measure => simp [intOf]
          · obtain rfl : q = 1 := by omega
            go_wp2_with fail
            go_ret
            refine ⟨_, rfl, ?_, hbw.out.trans (hws.mono hbs)⟩
            rw [← HWD.out, cat3, HQ.out, if_neg (by decide)]
            simp
theorem rtext_tree (M : Nat) (show_ : Bool) (tf tg : ByteArray → ByteArray) (hs : (show_ = true ∧ tf = id ∧ tg = id) ∨ (show_ = false ∧ tf = nameS ∧ tg = quoS)) :
    ∀ (N : Nat) (t : LT), t.size ≤ N → ∀ w : World, M ≤ w.heap.size → Held w M t → AllD pB (shape t) → One1 (shape t) → (wD tf tg (shape t)).length < 100000000 → Calls Tryz.prog 45 #[.agg #[.int .i64 t.k, .bool t.g, .slice t.la t.ln t.lc, .bool t.bb, .string t.s, .slice t.ia t.items.length t.ic, .slice t.ta t.tail.length t.tc], .bool show_] w (TPost (wD tf tg (shape t)) w)
  | 0, t, ht, _, _, _, _, _, _ => by rw [t.size_eq] at ht; omega
  | N + 1, t, hsz, w, hM, hH, hA, hO, hl => by
    have hp := ((allD_eq t).1 hA).1
    by_cases h1 : t.k = 1
    · rw [wD_num tf tg t h1]
      exact rtext_numT t show_ w h1 (by rw [hH.1.1.len]; exact hp.2.1) hH.1.1
    · by_cases h2 : t.k = 2
      · rw [wD_bool tf tg t h2]
        exact rtext_boolT t show_ w h2
      · by_cases h3 : t.k = 3
        · rw [wD_sym tf tg t h3]
          have h := rtext_symT t show_ w h3 hp.2.2
          rcases hs with ⟨rfl, rfl, rfl⟩ | ⟨rfl, rfl, rfl⟩ <;> simpa using h
        · by_cases h4 : t.k = 4
          · rw [wD_str tf tg t h4]
            have h := rtext_strT t show_ w h4 hp.2.2
            rcases hs with ⟨rfl, rfl, rfl⟩ | ⟨rfl, rfl, rfl⟩ <;> simpa using h
          · by_cases h5 : t.k = 5
            · exact rtext_listT M N show_ tf tg (fun u hu w hM hH hA hO hl => rtext_tree M show_ tf tg hs N u hu w hM hH hA hO hl) t hsz h5 w hM hH hA hO hl
            · rw [wD_other tf tg t h1 h2 h3 h4 h5]
              exact rtext_otherT t show_ w h1 h2 h3 h4 h5
set_option maxRecDepth 100000 in
set_option maxHeartbeats 3200000 in
theorem rwrite_tree (M : Nat) (t : LT) (h1 : t.size ≤ 1000) (h2 : t.depth ≤ 10000) (hT : Tame t) (hA : AllL pB t) (w : World) (hM : M ≤ w.heap.size) (hH : Held w M t) :
    Calls Tryz.prog 14 #[.agg #[.int .i64 t.k, .bool t.g, .slice t.la t.ln t.lc, .bool t.bb, .string t.s, .slice t.ia t.items.length t.ic, .slice t.ta t.tail.length t.tc]] w fun e w' => e = .returned (.string ⟨(wD nameS quoS (normT t)).toArray⟩) ∧ Below w.heap.size w w' := by
  have hl := fun W (hb : Below w.heap.size w W) => few_any M t W (Nat.le_trans hM hb.size) (hH.below hM hb)
  have hn := fun W (hb : Below w.heap.size w W) => rNorm_tree M t (by omega) h2 hT W (Nat.le_trans hM hb.size) (hH.below hM hb)
  have hbu : decide (0 ≤ budT t 100000 10000) = true := decide_eq_true (by rw [budT_ge t 100000 10000 (by omega) (by omega)]; omega)
  have hAn := allD_norm keepsB t hA
  have hOn := one1_norm t
  have hlen : (wD nameS quoS (normT t)).length < 100000000 := by
    have q1 := wD_len nameS quoS (fun s hs => by have := nm_size s; show (nameS s).data.toList.length ≤ _; rw [Array.length_toList]; show (nameS s).size ≤ _; omega) (fun s hs => by have := qu_size s; show (quoS s).data.toList.length ≤ _; rw [Array.length_toList]; show (quoS s).size ≤ _; omega) _ hAn
    have q2 := size_norm t
    omega
  unfold LT.val at hl
  rw [hbu] at hl
  have HL := Lib.hid (And.intro hl hn)
  have HA := Lib.hid (And.intro hAn (And.intro hOn hlen))
  clear hl hn hH hT hbu hA hAn hOn hlen
  generalize normT t = d at *
  have hb : Below w.heap.size w (w.alloc (Obj.cells #[.int .i64 t.k, .bool t.g, .slice t.la t.ln t.lc, .bool t.bb, .string t.s, .slice t.ia t.items.length t.ic, .slice t.ta t.tail.length t.tc] 31)) := (Below.refl _ w).alloc (Nat.le_refl _) _
  have D := VarD.new w t
  go_enter Tryz.func14, Tryz.ntmps14
  go_wp2_with fail
  refine (HL.out.1 _ hb).mono ?_
  rintro e w1 ⟨rfl, b1⟩
  replace D := D.next b1
  replace hb := bnext hb b1
  obtain ⟨c0, c1, c2, c3, c4, c5, c6⟩ := D.c
  clear b1
  go_wp2_with fail
  clear c0 c1 c2 c3 c4 c5 c6
  refine (HL.out.2 w1 hb).mono ?_
  rintro e w2 ⟨x', rfl, hP, hsh, b2⟩
  have HX := Lib.hid (rtext_tree w2.heap.size false nameS quoS (.inr ⟨rfl, rfl, rfl⟩) x'.size x' (Nat.le_refl _) w2 (Nat.le_refl _) (hP.held fun q hq => hq.lt) (by rw [hsh]; exact HA.out.1) (by rw [hsh]; exact HA.out.2.1) (by rw [hsh]; exact HA.out.2.2))
  rw [hsh] at HX
  have hb2 := bnext hb b2
  clear hP hsh b2
  go_wp2_with fail
  refine HX.out.mono ?_
  rintro e w3 ⟨s3, rfl, hs3, b3⟩
  have HE := Lib.hid (And.intro (show s3 = ⟨(wD nameS quoS d).toArray⟩ from bytes_ext (by rw [hs3])) (bnext hb2 b3))
  clear hs3 b3
  go_wp2_with fail
  go_ret
  exact ⟨by rw [← HE.out.1]; rfl, HE.out.2⟩
end Go.Proofs.YtlohdglhebplfaaGreatDoor
