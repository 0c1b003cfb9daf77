/-
  The law WriteNests: its walk. No condition.
-/
import Derived.Test.YtgfamihldecmbaaDoorNst
import Derived.Test.YtgfamihldecmbaaDoorRnl
namespace Go.Proofs.YtgfamihldecmbaaDoor
open Go.RowKit

set_option maxRecDepth 100000 in
theorem field_k (x' : LT) (w : World) : (Instr.field 27 (.agg #[.int .i64 x'.k, .bool x'.g, .slice x'.la x'.ln x'.lc, .bool x'.bb, .string x'.s, .slice x'.ia x'.items.length x'.ic, .slice x'.ta x'.tail.length x'.tc]) 0).run Tryd.prog w = .ok (.int .i64 x'.k) w := by
  first | rfl | kernel_rfl
/-- What the loop knows. -/
def NsRel (t : LT) (l : List LT) (w : World) (s d i : Value) (wr : World) : Prop :=
  ∃ (k : Nat) (sb sd : ByteArray), k ≤ l.length ∧ i = .int .i64 k ∧ s = .string sb ∧ d = .string sd ∧ Hid (sb.data.toList = 40 :: wR nameS quoS ((normR l).take k) ∧ sd.data.toList = 40 :: wR id id ((normR l).take k)) ∧ (sb.size ≤ 1 + k * 4200000 ∧ sd.size ≤ 1 + k * 4200000) ∧
    Hid (∀ x ∈ l.take k, nestB x = true) ∧ Hid (Below w.heap.size w wr) ∧ Hid (VarD wr w.heap.size t)

set_option maxRecDepth 100000 in
set_option maxHeartbeats 12800000 in
theorem writeNests_pos (gb go c : Nat) (l : List LT) (t : LT) (w : World) (ht : Tab w) (hsp : Spot w.heap.size (some ⟨gb, go, none⟩) l.length c) (hli : LiesR w w.heap.size l gb go) (hH : Held w w.heap.size t) (hl : lightB t = true) (hn : l.length ≤ 10) (hn0 : 0 < l.length) :
    Calls Tryd.prog 7 #[.slice (some ⟨gb, go, none⟩) l.length c, .agg #[.int .i64 t.k, .bool t.g, .slice t.la t.ln t.lc, .bool t.bb, .string t.s, .slice t.ia t.items.length t.ic, .slice t.ta t.tail.length t.tc]] w fun e w' => e = .returned (.bool true) ∧ Below w.heap.size w w' := by
  have HT := Lib.hid (And.intro ht (And.intro hsp (And.intro hli (And.intro hH hl))))
  have hLt := fun W (hb : Below w.heap.size w W) => (hl ▸ light_any w.heap.size t W hb.size (hH.up hb) : Calls Tryd.prog 10 #[.agg #[.int .i64 t.k, .bool t.g, .slice t.la t.ln t.lc, .bool t.bb, .string t.s, .slice t.ia t.items.length t.ic, .slice t.ta t.tail.length t.tc]] W fun e w' => e = .returned (.bool true) ∧ Below W.heap.size W w')
  have HLv := Lib.hid (fun W (hb : Below w.heap.size w W) => lives4_yes W (ht.below hb))
  have HL0 := Lib.hid hLt
  have qn : decide (10 < ((l.length : Nat) : Int)) = false := decide_eq_false (by omega)
  clear ht hli hH hl hLt
  have hcap := hsp.2.1
  have hcl := hsp.1
  unfold maxLen at hcap
  have hb : Below w.heap.size w (w.alloc (Obj.cells #[.int .i64 t.k, .bool t.g, .slice t.la t.ln t.lc, .bool t.bb, .string t.s, .slice t.ia t.items.length t.ic, .slice t.ta t.tail.length t.tc] 27)) := (Below.refl _ w).alloc (Nat.le_refl _) _
  have D := VarD.new w t
  obtain ⟨c0, c1, c2, c3, c4, c5, c6⟩ := D.c
  generalize hnn : l.length = n at *
  have HNN := Lib.hid hnn
  clear hnn
  go_enter Tryd.func7, Tryd.ntmps7
  go_wp2_with fail
  clear c0 c1 c2 c3 c4 c5 c6
  refine (HL0.out _ hb).mono ?_
  rintro e w1 ⟨rfl, b1⟩
  replace D := D.next b1
  replace hb := bnext hb b1
  have HS := Lib.hid (show NsRel t l w (.string ⟨#[40]⟩) (.string ⟨#[40]⟩) (.int .i64 0) w1 from
    ⟨0, ⟨#[40]⟩, ⟨#[40]⟩, Nat.zero_le _, rfl, rfl, rfl, Lib.hid ⟨by simp [wR_nil], by simp [wR_nil]⟩, by decide, Lib.hid (by simp), Lib.hid hb, Lib.hid D⟩)
  clear b1 D hb
  go_wp2_with fail
  go_loopw [5, 6, 21] (fun s d i wr => NsRel t l w s d i wr) (fun _ _ i _ => n - (intOf i).toNat)
  case atStart => exact HS.out
  case round =>
    obtain ⟨k, sb, sd, hk, rfl, rfl, rfl, HK, hbd, HG, HB, HV⟩ := hrel
    rw [HNN.out] at hk
    have hbz := HB.out.size
    by_cases hlt : k < n
    · have hkl : k < l.length := by rw [HNN.out]; exact hlt
      have hlik := (liesR_iff _ _ _).1 HT.out.2.2.1 k hkl
      obtain ⟨hgw, hcell0, hheld0⟩ := lies_held.1 hlik
      have htk := normR_take l k hkl
      have hkt : l.take (k + 1) = l.take k ++ [l[k]] := by rw [List.take_add_one, List.getElem?_eq_getElem hkl]; rfl
      have hne : 0 < k → (normR l).take k ≠ [] := fun h0 => nTake_ne h0 hkl
      generalize l[k] = x at *
      rw [Nat.mul_comm 7 k] at hcell0
      have hc : ∀ j v, x.cells[j]? = some v → wr.cell? ⟨gb, go + k * 7 + j, none⟩ = some v := fun j v hj => (HB.out.cell (p := ⟨gb, go + k * 7 + j, none⟩) (by show gb < w.heap.size; exact hgw)).trans (hcell0 j v hj)
      have d0 : wr.cell? ⟨gb, go + k * 7, none⟩ = some (.int .i64 x.k) := hc 0 _ rfl
      have d1 : wr.cell? ⟨gb, go + k * 7 + 1, none⟩ = some (.bool x.g) := hc 1 _ rfl
      have d2 : wr.cell? ⟨gb, go + k * 7 + 2, none⟩ = some (.slice x.la x.ln x.lc) := hc 2 _ rfl
      have d3 : wr.cell? ⟨gb, go + k * 7 + 3, none⟩ = some (.bool x.bb) := hc 3 _ rfl
      have d4 : wr.cell? ⟨gb, go + k * 7 + 4, none⟩ = some (.string x.s) := hc 4 _ rfl
      have d5 : wr.cell? ⟨gb, go + k * 7 + 5, none⟩ = some (.slice x.ia x.items.length x.ic) := hc 5 _ rfl
      have d6 : wr.cell? ⟨gb, go + k * 7 + 6, none⟩ = some (.slice x.ta x.tail.length x.tc) := hc 6 _ rfl
      have hba : Below wr.heap.size wr (wr.alloc (Obj.cells #[.int .i64 x.k, .bool x.g, .slice x.la x.ln x.lc, .bool x.bb, .string x.s, .slice x.ia x.items.length x.ic, .slice x.ta x.tail.length x.tc] 27)) := (Below.refl _ wr).alloc (Nat.le_refl _) _
      have hbA := Lib.hid (HB.out.trans (hba.mono hbz))
      have Dx := VarD.new wr x
      have HV2 := Lib.hid (HV.out.next hba)
      have HLx := Lib.hid (fun W (hb : Below w.heap.size w W) => light_any w.heap.size x W hb.size (hheld0.up hb))
      have HSx := Lib.hid (fun W (hb : Below w.heap.size w W) => (small_any w.heap.size x 50 20 W hb.size (hheld0.up hb) (by decide) (by decide) (by decide) (by decide) : Calls Tryd.prog 22 #[.agg #[.int .i64 x.k, .bool x.g, .slice x.la x.ln x.lc, .bool x.bb, .string x.s, .slice x.ia x.items.length x.ic, .slice x.ta x.tail.length x.tc], .int .i64 50, .int .i64 20] W fun e w' => e = .returned (.bool (decide (0 ≤ budT x 50 20))) ∧ Below W.heap.size W w'))
      have HXH := Lib.hid hheld0
      have HTK := Lib.hid (And.intro htk (And.intro hkt hne))
      clear hc hcell0 hheld0 hlik hba htk hkt hne hgw
      by_cases hk0 : k = 0
      · subst hk0
        simp only [Nat.zero_mul, Nat.add_zero] at d0 d1 d2 d3 d4 d5 d6
        cases hlx : lightB x with
        | false =>
          rw [hlx] at HLx
          clear hlx
          go_wp2_with fail
          refine (HLx.out _ hbA.out).mono ?_
          rintro e w5 ⟨rfl, b5⟩
          have hb5 := Lib.hid (bnext hbA.out b5)
          clear b5
          go_wp2_with fail
          refine (HLv.out _ hb5.out).mono ?_
          rintro e w6 ⟨rfl, b6⟩
          go_wp2_with fail
          go_ret
          exact ⟨rfl, bnext hb5.out b6⟩
        | true =>
          rw [hlx] at HLx
          cases hsx : decide (0 ≤ budT x 50 20) with
          | false =>
            rw [hsx] at HSx
            clear hlx hsx
            go_wp2_with fail
            refine (HLx.out _ hbA.out).mono ?_
            rintro e w5 ⟨rfl, b5⟩
            have hb5 := Lib.hid (bnext hbA.out b5)
            obtain ⟨c0, c1, c2, c3, c4, c5, c6⟩ := (Dx.next b5).c
            clear b5
            go_wp2_with fail
            clear c0 c1 c2 c3 c4 c5 c6
            refine (HSx.out _ hb5.out).mono ?_
            rintro e w6 ⟨rfl, b6⟩
            have hb6 := Lib.hid (bnext hb5.out b6)
            clear b6
            go_wp2_with fail
            refine (HLv.out _ hb6.out).mono ?_
            rintro e w7 ⟨rfl, b7⟩
            go_wp2_with fail
            go_ret
            exact ⟨rfl, bnext hb6.out b7⟩
          | true =>
            rw [hsx] at HSx
            have hnb : nestB x = true := by unfold nestB; rw [hlx, hsx]; rfl
            obtain ⟨m1, m2, m3, m4⟩ := nest_says x HXH.out hnb
            have HWx0 := fun W (hb : Below w.heap.size w W) => write_tree w.heap.size x (by omega) (by omega) m3 m4 W (HT.out.1.below hb) hb.size (HXH.out.up hb)
            have HDx0 := fun W (hb : Below w.heap.size w W) => display_tree w.heap.size x (by omega) (by omega) m3 m4 W (HT.out.1.below hb) hb.size (HXH.out.up hb)
            have n1 := item_len nameS quoS len_name len_quo x m4 m1
            have n2 := item_len id id len_id len_id x m4 m1
            obtain ⟨o1, ho1⟩ : ∃ o1 : ByteArray, o1 = ⟨(wD nameS quoS (normT x)).toArray⟩ := ⟨_, rfl⟩
            obtain ⟨o2, ho2⟩ : ∃ o2 : ByteArray, o2 = ⟨(wD id id (normT x)).toArray⟩ := ⟨_, rfl⟩
            have hp1 : o1.data.toList = wD nameS quoS (normT x) := by rw [ho1]
            have hp2 : o2.data.toList = wD id id (normT x) := by rw [ho2]
            rw [← ho1] at HWx0
            rw [← ho2] at HDx0
            have hz1 := bsz hp1
            have hz2 := bsz hp2
            have HWx := Lib.hid HWx0
            have HDx := Lib.hid HDx0
            have HNX := Lib.hid (show ((sb ++ o1).data.toList = 40 :: wR nameS quoS ((normR l).take (0 + 1))) ∧ ((sd ++ o2).data.toList = 40 :: wR id id ((normR l).take (0 + 1))) ∧ ((sb ++ o1).size ≤ 1 + (0 + 1) * 4200000 ∧ (sd ++ o2).size ≤ 1 + (0 + 1) * 4200000) ∧ (∀ y ∈ l.take (0 + 1), nestB y = true) from by
              refine ⟨?_, ?_, ⟨?_, ?_⟩, ?_⟩
              · rw [cat4, HK.out.1, hp1, HTK.out.1, List.take_zero, wR_nil, List.nil_append, wR_one]; rfl
              · rw [cat4, HK.out.2, hp2, HTK.out.1, List.take_zero, wR_nil, List.nil_append, wR_one]; rfl
              · rw [ByteArray.size_append]; omega
              · rw [ByteArray.size_append]; omega
              · intro y hy
                rw [HTK.out.2.1] at hy
                rcases List.mem_append.1 hy with hy | hy
                · exact HG.out y hy
                · rw [List.mem_singleton.1 hy]; exact hnb)
            have ho1s : o1.size ≤ 4100000 := by omega
            have ho2s : o2.size ≤ 4100000 := by omega
            have hbd1 : sb.size ≤ 50000000 := by have := hbd.1; omega
            have hbd2 : sd.size ≤ 50000000 := by have := hbd.2; omega
            have ha1 : sb.size + o1.size ≤ 9223372036854775807 := by omega
            have hag1 : ¬ (9223372036854775807 < sb.size + o1.size) := Nat.not_lt.2 ha1
            have hb1 : sd.size + o2.size ≤ 9223372036854775807 := by omega
            have hbg1 : ¬ (9223372036854775807 < sd.size + o2.size) := Nat.not_lt.2 hb1
            clear HWx0 HDx0 ho1 ho2 hp1 hp2 m1 m2 m3 m4 hnb hlx hsx n1 n2 hz1 hz2 hbd
            go_wp2_with fail
            refine (HLx.out _ hbA.out).mono ?_
            rintro e w5 ⟨rfl, b5⟩
            have hb5 := Lib.hid (bnext hbA.out b5)
            obtain ⟨c0, c1, c2, c3, c4, c5, c6⟩ := (Dx.next b5).c
            have hB5 := Lib.hid b5
            clear b5
            go_wp2_with fail
            clear c0 c1 c2 c3 c4 c5 c6
            refine (HSx.out _ hb5.out).mono ?_
            rintro e w6 ⟨rfl, b6⟩
            have B7 := Lib.hid (And.intro (bnext hb5.out b6) (hB5.out.trans (b6.mono hB5.out.size)))
            clear b6
            have D2 := (Dx.next B7.out.2).drew
            have hb7 := Lib.hid B7.out.1
            have Dt := (HV2.out.next B7.out.2).drew
            have hb := hb7.out.drew
            obtain ⟨c0, c1, c2, c3, c4, c5, c6⟩ := D2.c
            go_wp2_with fail
            go_region_held3 (fun w' => w'.cell? ⟨wr.heap.size, 0, none⟩ = some (.int .i64 x.k) ∧ w'.cell? ⟨wr.heap.size, 1, none⟩ = some (.bool x.g) ∧ w'.cell? ⟨wr.heap.size, 2, none⟩ = some (.slice x.la x.ln x.lc) ∧ w'.cell? ⟨wr.heap.size, 3, none⟩ = some (.bool x.bb) ∧ w'.cell? ⟨wr.heap.size, 4, none⟩ = some (.string x.s) ∧ w'.cell? ⟨wr.heap.size, 5, none⟩ = some (.slice x.ia x.items.length x.ic) ∧ w'.cell? ⟨wr.heap.size, 6, none⟩ = some (.slice x.ta x.tail.length x.tc))
              (with_reducible exact D2.c)
              (first
              | (go_at_call 12; refine (HWx.out _ hb).mono ?_; rintro e w8 ⟨rfl, b8⟩; replace hb := bnext hb b8; replace D2 := D2.next b8; replace Dt := Dt.next b8)
              | (go_at_call 14; refine (HDx.out _ hb).mono ?_; rintro e w9 ⟨rfl, b9⟩; replace hb := bnext hb b9; replace D2 := D2.next b9; replace Dt := Dt.next b9))
            all_goals
              have HN := Lib.hid (show NsRel t l w (.string (sb ++ o1)) (.string (sd ++ o2)) (.int .i64 1) _ from
                ⟨1, sb ++ o1, sd ++ o2, by rw [HNN.out]; omega, by simp, rfl, rfl, Lib.hid ⟨HNX.out.1, HNX.out.2.1⟩, HNX.out.2.2.1, Lib.hid HNX.out.2.2.2, Lib.hid hb, Lib.hid Dt⟩)
              clear D2 Dt hb
              go_wp2_with fail
              go_roundw
              case rel => exact HN.out
              case measure => simp [intOf]; omega
      · have hkp : 0 < k := by omega
        clear hk0
        cases hlx : lightB x with
        | false =>
          rw [hlx] at HLx
          clear hlx
          go_wp2_with fail
          refine (HLx.out _ hbA.out).mono ?_
          rintro e w5 ⟨rfl, b5⟩
          have hb5 := Lib.hid (bnext hbA.out b5)
          clear b5
          go_wp2_with fail
          refine (HLv.out _ hb5.out).mono ?_
          rintro e w6 ⟨rfl, b6⟩
          go_wp2_with fail
          go_ret
          exact ⟨rfl, bnext hb5.out b6⟩
        | true =>
          rw [hlx] at HLx
          cases hsx : decide (0 ≤ budT x 50 20) with
          | false =>
            rw [hsx] at HSx
            clear hlx hsx
            go_wp2_with fail
            refine (HLx.out _ hbA.out).mono ?_
            rintro e w5 ⟨rfl, b5⟩
            have hb5 := Lib.hid (bnext hbA.out b5)
            obtain ⟨c0, c1, c2, c3, c4, c5, c6⟩ := (Dx.next b5).c
            clear b5
            go_wp2_with fail
            clear c0 c1 c2 c3 c4 c5 c6
            refine (HSx.out _ hb5.out).mono ?_
            rintro e w6 ⟨rfl, b6⟩
            have hb6 := Lib.hid (bnext hb5.out b6)
            clear b6
            go_wp2_with fail
            refine (HLv.out _ hb6.out).mono ?_
            rintro e w7 ⟨rfl, b7⟩
            go_wp2_with fail
            go_ret
            exact ⟨rfl, bnext hb6.out b7⟩
          | true =>
            rw [hsx] at HSx
            have hnb : nestB x = true := by unfold nestB; rw [hlx, hsx]; rfl
            obtain ⟨m1, m2, m3, m4⟩ := nest_says x HXH.out hnb
            have HWx0 := fun W (hb : Below w.heap.size w W) => write_tree w.heap.size x (by omega) (by omega) m3 m4 W (HT.out.1.below hb) hb.size (HXH.out.up hb)
            have HDx0 := fun W (hb : Below w.heap.size w W) => display_tree w.heap.size x (by omega) (by omega) m3 m4 W (HT.out.1.below hb) hb.size (HXH.out.up hb)
            have n1 := item_len nameS quoS len_name len_quo x m4 m1
            have n2 := item_len id id len_id len_id x m4 m1
            obtain ⟨o1, ho1⟩ : ∃ o1 : ByteArray, o1 = ⟨(wD nameS quoS (normT x)).toArray⟩ := ⟨_, rfl⟩
            obtain ⟨o2, ho2⟩ : ∃ o2 : ByteArray, o2 = ⟨(wD id id (normT x)).toArray⟩ := ⟨_, rfl⟩
            have hp1 : o1.data.toList = wD nameS quoS (normT x) := by rw [ho1]
            have hp2 : o2.data.toList = wD id id (normT x) := by rw [ho2]
            rw [← ho1] at HWx0
            rw [← ho2] at HDx0
            have hz1 := bsz hp1
            have hz2 := bsz hp2
            have HWx := Lib.hid HWx0
            have HDx := Lib.hid HDx0
            have HNX := Lib.hid (show ((sb ++ ⟨#[32]⟩ ++ o1).data.toList = 40 :: wR nameS quoS ((normR l).take (k + 1))) ∧ ((sd ++ ⟨#[32]⟩ ++ o2).data.toList = 40 :: wR id id ((normR l).take (k + 1))) ∧ ((sb ++ ⟨#[32]⟩ ++ o1).size ≤ 1 + (k + 1) * 4200000 ∧ (sd ++ ⟨#[32]⟩ ++ o2).size ≤ 1 + (k + 1) * 4200000) ∧ (∀ y ∈ l.take (k + 1), nestB y = true) from by
              refine ⟨?_, ?_, ⟨?_, ?_⟩, ?_⟩
              · rw [cat4, cat4, HK.out.1, hp1, HTK.out.1, wR_snoc _ _ _ _ (HTK.out.2.2 hkp)]; simp
              · rw [cat4, cat4, HK.out.2, hp2, HTK.out.1, wR_snoc _ _ _ _ (HTK.out.2.2 hkp)]; simp
              · rw [ByteArray.size_append, ByteArray.size_append, show (⟨#[32]⟩ : ByteArray).size = 1 from rfl]; omega
              · rw [ByteArray.size_append, ByteArray.size_append, show (⟨#[32]⟩ : ByteArray).size = 1 from rfl]; omega
              · intro y hy
                rw [HTK.out.2.1] at hy
                rcases List.mem_append.1 hy with hy | hy
                · exact HG.out y hy
                · rw [List.mem_singleton.1 hy]; exact hnb)
            have ho1s : o1.size ≤ 4100000 := by omega
            have ho2s : o2.size ≤ 4100000 := by omega
            have hbd1 : sb.size ≤ 50000000 := by have := hbd.1; omega
            have hbd2 : sd.size ≤ 50000000 := by have := hbd.2; omega
            have ha1 : sb.size + 1 + o1.size ≤ 9223372036854775807 := by omega
            have hag1 : ¬ (9223372036854775807 < sb.size + 1 + o1.size) := Nat.not_lt.2 ha1
            have ha2 : sb.size + (⟨#[32]⟩ : ByteArray).size + o1.size ≤ 9223372036854775807 := ha1
            have hag2 : ¬ (9223372036854775807 < sb.size + (⟨#[32]⟩ : ByteArray).size + o1.size) := Nat.not_lt.2 ha2
            have ha3 : (sb ++ ⟨#[32]⟩).size + o1.size ≤ 9223372036854775807 := by rw [ByteArray.size_append]; exact ha1
            have hag3 : ¬ (9223372036854775807 < (sb ++ ⟨#[32]⟩).size + o1.size) := Nat.not_lt.2 ha3
            have hb1 : sd.size + 1 + o2.size ≤ 9223372036854775807 := by omega
            have hbg1 : ¬ (9223372036854775807 < sd.size + 1 + o2.size) := Nat.not_lt.2 hb1
            have hb2 : sd.size + (⟨#[32]⟩ : ByteArray).size + o2.size ≤ 9223372036854775807 := hb1
            have hbg2 : ¬ (9223372036854775807 < sd.size + (⟨#[32]⟩ : ByteArray).size + o2.size) := Nat.not_lt.2 hb2
            have hb3 : (sd ++ ⟨#[32]⟩).size + o2.size ≤ 9223372036854775807 := by rw [ByteArray.size_append]; exact hb1
            have hbg3 : ¬ (9223372036854775807 < (sd ++ ⟨#[32]⟩).size + o2.size) := Nat.not_lt.2 hb3
            clear HWx0 HDx0 ho1 ho2 hp1 hp2 m1 m2 m3 m4 hnb hlx hsx n1 n2 hz1 hz2 hbd
            go_wp2_with fail
            refine (HLx.out _ hbA.out).mono ?_
            rintro e w5 ⟨rfl, b5⟩
            have hb5 := Lib.hid (bnext hbA.out b5)
            obtain ⟨c0, c1, c2, c3, c4, c5, c6⟩ := (Dx.next b5).c
            have hB5 := Lib.hid b5
            clear b5
            go_wp2_with fail
            clear c0 c1 c2 c3 c4 c5 c6
            refine (HSx.out _ hb5.out).mono ?_
            rintro e w6 ⟨rfl, b6⟩
            have B7 := Lib.hid (And.intro (bnext hb5.out b6) (hB5.out.trans (b6.mono hB5.out.size)))
            clear b6
            have D2 := (Dx.next B7.out.2).drew
            have hb7 := Lib.hid B7.out.1
            have Dt := (HV2.out.next B7.out.2).drew
            have hb := hb7.out.drew
            obtain ⟨c0, c1, c2, c3, c4, c5, c6⟩ := D2.c
            go_wp2_with fail
            go_region_held3 (fun w' => w'.cell? ⟨wr.heap.size, 0, none⟩ = some (.int .i64 x.k) ∧ w'.cell? ⟨wr.heap.size, 1, none⟩ = some (.bool x.g) ∧ w'.cell? ⟨wr.heap.size, 2, none⟩ = some (.slice x.la x.ln x.lc) ∧ w'.cell? ⟨wr.heap.size, 3, none⟩ = some (.bool x.bb) ∧ w'.cell? ⟨wr.heap.size, 4, none⟩ = some (.string x.s) ∧ w'.cell? ⟨wr.heap.size, 5, none⟩ = some (.slice x.ia x.items.length x.ic) ∧ w'.cell? ⟨wr.heap.size, 6, none⟩ = some (.slice x.ta x.tail.length x.tc))
              (with_reducible exact D2.c)
              (first
              | (go_at_call 12; refine (HWx.out _ hb).mono ?_; rintro e w8 ⟨rfl, b8⟩; replace hb := bnext hb b8; replace D2 := D2.next b8; replace Dt := Dt.next b8)
              | (go_at_call 14; refine (HDx.out _ hb).mono ?_; rintro e w9 ⟨rfl, b9⟩; replace hb := bnext hb b9; replace D2 := D2.next b9; replace Dt := Dt.next b9))
            all_goals
              have HN := Lib.hid (show NsRel t l w (.string (sb ++ ⟨#[32]⟩ ++ o1)) (.string (sd ++ ⟨#[32]⟩ ++ o2)) (.int .i64 (k + 1)) _ from
                ⟨k + 1, sb ++ ⟨#[32]⟩ ++ o1, sd ++ ⟨#[32]⟩ ++ o2, by rw [HNN.out]; omega, by simp, rfl, rfl, Lib.hid ⟨HNX.out.1, HNX.out.2.1⟩, HNX.out.2.2.1, Lib.hid HNX.out.2.2.2, Lib.hid hb, Lib.hid Dt⟩)
              clear D2 Dt hb
              go_wp2_with fail
              go_roundw
              case rel => exact HN.out
              case measure => simp [intOf]; omega
    · obtain rfl : k = n := by omega
      replace HK := Lib.hid (show sb.data.toList = 40 :: wR nameS quoS (normR l) ∧ sd.data.toList = 40 :: wR id id (normR l) by have h := HK.out; rwa [List.take_of_length_le (by rw [normR_length, HNN.out]; exact Nat.le_refl _)] at h)
      replace HG := Lib.hid (show ∀ x ∈ l, nestB x = true by have h := HG.out; rwa [List.take_of_length_le (by rw [HNN.out]; exact Nat.le_refl _)] at h)
      have hn10 : l.length ≤ 10 := by rw [HNN.out]; exact hn
      have hgood := fun x (hx : x ∈ l) => (by
        obtain ⟨i, hi, rfl⟩ := List.getElem_of_mem hx
        exact nest_says l[i] (lies_held.1 ((liesR_iff _ _ _).1 HT.out.2.2.1 i hi)).2.2 (HG.out _ hx) : x.size ≤ 50 ∧ x.depth ≤ 20 ∧ Tame x ∧ AllL pB x)
      have hls := light_says t HT.out.2.2.2.1 HT.out.2.2.2.2
      have hH0 : Held w w.heap.size (nestT (some ⟨gb, go, none⟩) c l none 0 []) := nest_held (by rw [HNN.out]; exact hsp) HT.out.2.2.1 (spot_none _) (by simp [LiesR])
      have hg0 := nest_good (some ⟨gb, go, none⟩) c l hn10 hgood none 0 [] (.inl rfl)
      have hE1 : (⟨(wD nameS quoS (normT (nestT (some ⟨gb, go, none⟩) c l none 0 []))).toArray⟩ : ByteArray) = sb ++ ⟨#[41]⟩ := bytes_ext (by rw [nest_text, cat4, HK.out.1]; rfl)
      have hE2 : (⟨(wD id id (normT (nestT (some ⟨gb, go, none⟩) c l none 0 []))).toArray⟩ : ByteArray) = sd ++ ⟨#[41]⟩ := bytes_ext (by rw [nest_text, cat4, HK.out.2]; rfl)
      have HW0 := Lib.hid (fun W (hb : Below w.heap.size w W) => (by
        have h := write_tree w.heap.size (nestT (some ⟨gb, go, none⟩) c l none 0 []) hg0.1 hg0.2.1 hg0.2.2.1 hg0.2.2.2 W (HT.out.1.below hb) hb.size (hH0.up hb)
        rw [hE1] at h
        have e : (nestT (some ⟨gb, go, none⟩) c l none 0 []).items.length = k := HNN.out
        rw [e] at h
        exact h : Calls Tryd.prog 12 #[.agg #[.int .i64 5, .bool false, .slice none 0 0, .bool false, .string ⟨#[]⟩, .slice (some ⟨gb, go, none⟩) k c, .slice none 0 0]] W fun e w' => e = .returned (.string (sb ++ ⟨#[41]⟩)) ∧ Below W.heap.size W w'))
      have HD0 := Lib.hid (fun W (hb : Below w.heap.size w W) => (by
        have h := display_tree w.heap.size (nestT (some ⟨gb, go, none⟩) c l none 0 []) hg0.1 hg0.2.1 hg0.2.2.1 hg0.2.2.2 W (HT.out.1.below hb) hb.size (hH0.up hb)
        rw [hE2] at h
        have e : (nestT (some ⟨gb, go, none⟩) c l none 0 []).items.length = k := HNN.out
        rw [e] at h
        exact h : Calls Tryd.prog 14 #[.agg #[.int .i64 5, .bool false, .slice none 0 0, .bool false, .string ⟨#[]⟩, .slice (some ⟨gb, go, none⟩) k c, .slice none 0 0]] W fun e w' => e = .returned (.string (sd ++ ⟨#[41]⟩)) ∧ Below W.heap.size W w'))
      have HNm := Lib.hid (fun W (hb : Below w.heap.size w W) => rNorm_tree w.heap.size t (by omega) (by omega) hls.2.2.1 W hb.size (HT.out.2.2.2.1.up hb))
      have HGD := Lib.hid (And.intro hgood (And.intro hn10 hls))
      have hb8 : sb.size ≤ 50000000 := by have := hbd.1; omega
      have hb9 : sd.size ≤ 50000000 := by have := hbd.2; omega
      have u1 : ¬ (9223372036854775807 < sb.size + 1) := by omega
      have u2 : ¬ (9223372036854775807 < sb.size + (⟨#[41]⟩ : ByteArray).size) := u1
      have u3 : ¬ (9223372036854775807 < sd.size + 1) := by omega
      have u4 : ¬ (9223372036854775807 < sd.size + (⟨#[41]⟩ : ByteArray).size) := u3
      have e1 : ((sb ++ ⟨#[41]⟩ : ByteArray).toList == (sb ++ ⟨#[41]⟩ : ByteArray).toList) = true := beq_self_eq_true _
      have e2 : ((sd ++ ⟨#[41]⟩ : ByteArray).toList == (sd ++ ⟨#[41]⟩ : ByteArray).toList) = true := beq_self_eq_true _
      have hba : Below wr.heap.size wr (wr.alloc (Obj.cells #[.int .i64 5, .bool false, .slice none 0 0, .bool false, .string ⟨#[]⟩, .slice (some ⟨gb, go, none⟩) k c, .slice none 0 0] 27)) := (Below.refl _ wr).alloc (Nat.le_refl _) _
      have hX0 := World.alloc_heap_new wr (Obj.cells #[.int .i64 5, .bool false, .slice none 0 0, .bool false, .string ⟨#[]⟩, .slice (some ⟨gb, go, none⟩) k c, .slice none 0 0] 27)
      have hzA : (wr.alloc (Obj.cells #[.int .i64 5, .bool false, .slice none 0 0, .bool false, .string ⟨#[]⟩, .slice (some ⟨gb, go, none⟩) k c, .slice none 0 0] 27)).heap.size = wr.heap.size + 1 := World.size_alloc ..
      have hbA := Lib.hid (HB.out.trans (hba.mono hbz))
      have Dt := HV.out.next hba
      obtain ⟨x0, x1, x2, x3, x4, x5, x6⟩ := cells7 hX0
      clear hgood hls hH0 hg0 hE1 hE2 hbd hba
      go_wp2_with fail
      refine (HW0.out _ hbA.out).mono ?_
      rintro e w5 ⟨rfl, b5⟩
      have hX5 := (b5.block wr.heap.size (by rw [hzA]; omega)).trans hX0
      have hb5 := Lib.hid (bnext hbA.out b5)
      have z5 := b5.size
      rw [hzA] at z5
      replace Dt := Dt.next b5
      clear x0 x1 x2 x3 x4 x5 x6 hX0 b5 hzA hbA
      obtain ⟨x0, x1, x2, x3, x4, x5, x6⟩ := cells7 hX5
      go_wp2_with fail
      refine (HD0.out _ hb5.out).mono ?_
      rintro e w6 ⟨rfl, b6⟩
      have hX6 := (b6.block wr.heap.size (by omega)).trans hX5
      have hb6 := Lib.hid (bnext hb5.out b6)
      have z6 := b6.size
      replace Dt := Dt.next b6
      clear x0 x1 x2 x3 x4 x5 x6 hX5 b6
      obtain ⟨c0, c1, c2, c3, c4, c5, c6⟩ := Dt.c
      go_wp2_with fail
      refine (HNm.out _ hb6.out).mono ?_
      rintro e w7 ⟨x', rfl, hP, hsh, b7⟩
      have hfk := field_k x' w7
      have hk7 : x'.k = (normT t).k := by rw [← hsh]; exact (shape_k x').symm
      have hb7 := Lib.hid (bnext hb6.out b7)
      have hX7 := (b7.block wr.heap.size (by omega)).trans hX6
      have z7 := b7.size
      replace Dt := Dt.next b7
      clear c0 c1 c2 c3 c4 c5 c6 hX6 b7 hP hsh
      by_cases h5 : (normT t).k = 5
      · have g5 : (x'.k == 5) = true := beq_iff_eq.2 (hk7.trans h5)
        clear hk7 h5
        go_wp2_with fail
        refine (HLv.out _ hb7.out).mono ?_
        rintro e w8 ⟨rfl, b8⟩
        go_wp2_with fail
        go_ret
        exact ⟨rfl, bnext hb7.out b8⟩
      · have g5 : (x'.k == 5) = false := beq_eq_false_iff_ne.2 (by rw [hk7]; exact h5)
        have H5 := Lib.hid h5
        clear hk7 h5
        have gn : (((k : Nat) : Int) == 0) = false := beq_eq_false_iff_ne.2 (by omega)
        have hbt : Below w7.heap.size w7 (w7.alloc (Obj.cells #[.int .i64 t.k, .bool t.g, .slice t.la t.ln t.lc, .bool t.bb, .string t.s, .slice t.ia t.items.length t.ic, .slice t.ta t.tail.length t.tc] 27)) := (Below.refl _ w7).alloc (Nat.le_refl _) _
        have hTn := World.alloc_heap_new w7 (Obj.cells #[.int .i64 t.k, .bool t.g, .slice t.la t.ln t.lc, .bool t.bb, .string t.s, .slice t.ia t.items.length t.ic, .slice t.ta t.tail.length t.tc] 27)
        have hX8 := (hbt.block wr.heap.size (by omega)).trans hX7
        have Dt8 := Dt.next hbt
        obtain ⟨c0, c1, c2, c3, c4, c5, c6⟩ := Dt.c
        obtain ⟨_, _, _, _, _, _, p6⟩ := frozen7 hX8
        have x6 := (cells7 hX8).2.2.2.2.2.2
        have HQ := Lib.hid (And.intro hbt (And.intro hTn (And.intro hX8 (And.intro Dt8 hb7.out))))
        clear hbt hTn hX8 Dt8 hX7
        obtain ⟨W9, hW9⟩ : ∃ W9, W9 = (w7.alloc (Obj.cells #[.int .i64 t.k, .bool t.g, .slice t.la t.ln t.lc, .bool t.bb, .string t.s, .slice t.ia t.items.length t.ic, .slice t.ta t.tail.length t.tc] 27)).setCell ⟨wr.heap.size, 6, none⟩ (.slice (some ⟨w7.heap.size, 0, none⟩) 1 1) := ⟨_, rfl⟩
        have hset : ∀ q, q ≠ wr.heap.size → W9.heap[q]? = (w7.alloc (Obj.cells #[.int .i64 t.k, .bool t.g, .slice t.la t.ln t.lc, .bool t.bb, .string t.s, .slice t.ia t.items.length t.ic, .slice t.ta t.tail.length t.tc] 27)).heap[q]? := fun q hq => by rw [hW9]; exact Below.heap_setCell _ _ _ _ hq
        have hz9 : W9.heap.size = w7.heap.size + 1 := by
          rw [hW9]
          have h1 := World.size_alloc w7 (Obj.cells #[.int .i64 t.k, .bool t.g, .slice t.la t.ln t.lc, .bool t.bb, .string t.s, .slice t.ia t.items.length t.ic, .slice t.ta t.tail.length t.tc] 27)
          have h2 : ((w7.alloc (Obj.cells #[.int .i64 t.k, .bool t.g, .slice t.la t.ln t.lc, .bool t.bb, .string t.s, .slice t.ia t.items.length t.ic, .slice t.ta t.tail.length t.tc] 27)).setCell ⟨wr.heap.size, 6, none⟩ (.slice (some ⟨w7.heap.size, 0, none⟩) 1 1)).heap.size = (w7.alloc (Obj.cells #[.int .i64 t.k, .bool t.g, .slice t.la t.ln t.lc, .bool t.bb, .string t.s, .slice t.ia t.items.length t.ic, .slice t.ta t.tail.length t.tc] 27)).heap.size := by simp [World.setCell]
          rw [h2, h1]
        have hX9 : W9.heap[wr.heap.size]? = some (Obj.cells #[.int .i64 5, .bool false, .slice none 0 0, .bool false, .string ⟨#[]⟩, .slice (some ⟨gb, go, none⟩) k c, .slice (some ⟨w7.heap.size, 0, none⟩) 1 1] 27) := by
          rw [hW9]
          simp [World.setCell, Array.getElem?_modify, HQ.out.2.2.1]
        have hb9' : Below w.heap.size w W9 := by
          rw [hW9]
          exact (HQ.out.2.2.2.2.trans (HQ.out.1.mono HQ.out.2.2.2.2.size)).setCell (p := ⟨wr.heap.size, 6, none⟩) (by show w.heap.size ≤ wr.heap.size; exact hbz) _
        have hDt9 : VarD W9 w.heap.size t := ⟨(hset _ (by have := HB.out.size; have := (Array.getElem?_eq_some_iff.1 HV.out.at_).1; omega)).trans HQ.out.2.2.2.1.at_⟩
        have hTn9 : W9.heap[w7.heap.size]? = some (Obj.cells #[.int .i64 t.k, .bool t.g, .slice t.la t.ln t.lc, .bool t.bb, .string t.s, .slice t.ia t.items.length t.ic, .slice t.ta t.tail.length t.tc] 27) := (hset _ (by omega)).trans HQ.out.2.1
        have hHt9 : Held W9 w.heap.size t := HT.out.2.2.2.1.up hb9'
        have hli9 : LiesR W9 w.heap.size l gb go := LiesR.keep hb9'.size (fun q hq => hb9'.block q hq) _ _ _ HT.out.2.2.1
        have hlt9 : w.heap.size ≤ W9.heap.size := hb9'.size
        have hM9 : Held W9 W9.heap.size (nestT (some ⟨gb, go, none⟩) c l (some ⟨w7.heap.size, 0, none⟩) 1 [t]) := by
          refine nest_held ?_ (LiesR.mono hlt9 _ _ _ hli9) ⟨by simp, by simp [maxLen], fun _ => ⟨rfl, by show w7.heap.size < W9.heap.size; omega⟩, fun e => by cases e⟩ ?_
          · rw [HNN.out]; exact hsp.mono hlt9
          · rw [liesR_cons]
            refine ⟨lies_held.2 ⟨by show w7.heap.size < W9.heap.size; omega, fun j v hj => ?_, ?_⟩, by simp [LiesR]⟩
            · have h := cells_news hTn9 j v hj
              rwa [cell_add] at h
            · exact ⟨⟨hHt9.1.1, fun hp => by have := hHt9.1.2.1 hp; omega, hHt9.1.2.2⟩, hHt9.2.1.mono hlt9, hHt9.2.2.1.mono hlt9, LiesR.mono hlt9 _ _ _ hHt9.2.2.2.1, LiesR.mono hlt9 _ _ _ hHt9.2.2.2.2⟩
        have hg1 := nest_good (some ⟨gb, go, none⟩) c l HGD.out.2.1 HGD.out.1 (some ⟨w7.heap.size, 0, none⟩) 1 [t] (.inr ⟨t, rfl, HGD.out.2.2.1, HGD.out.2.2.2.1, HGD.out.2.2.2.2.1, HGD.out.2.2.2.2.2.1⟩)
        have hlne : l ≠ [] := fun e => by have h := HNN.out; rw [e] at h; simp at h; omega
        have hAt := allD_norm keepsB t HGD.out.2.2.2.2.2.1
        have hln1 := wD_len nameS quoS len_name len_quo _ hAt
        have hln2 := wD_len id id len_id len_id _ hAt
        have hsn := size_norm t
        have hst := HGD.out.2.2.1
        obtain ⟨o1, ho1⟩ : ∃ o1 : ByteArray, o1 = ⟨(wD nameS quoS (normT t)).toArray⟩ := ⟨_, rfl⟩
        obtain ⟨o2, ho2⟩ : ∃ o2 : ByteArray, o2 = ⟨(wD id id (normT t)).toArray⟩ := ⟨_, rfl⟩
        have hp1 : o1.data.toList = wD nameS quoS (normT t) := by rw [ho1]
        have hp2 : o2.data.toList = wD id id (normT t) := by rw [ho2]
        have hz1 := bsz hp1
        have hz2 := bsz hp2
        have hF1 : (⟨(wD nameS quoS (normT (nestT (some ⟨gb, go, none⟩) c l (some ⟨w7.heap.size, 0, none⟩) 1 [t]))).toArray⟩ : ByteArray) = sb ++ ⟨#[32, 46, 32]⟩ ++ o1 ++ ⟨#[41]⟩ := bytes_ext (by rw [nest_text1 _ _ _ _ _ hlne _ _ _ H5.out, cat4, cat4, cat4, HK.out.1, hp1]; simp)
        have hF2 : (⟨(wD id id (normT (nestT (some ⟨gb, go, none⟩) c l (some ⟨w7.heap.size, 0, none⟩) 1 [t]))).toArray⟩ : ByteArray) = sd ++ ⟨#[32, 46, 32]⟩ ++ o2 ++ ⟨#[41]⟩ := bytes_ext (by rw [nest_text1 _ _ _ _ _ hlne _ _ _ H5.out, cat4, cat4, cat4, HK.out.2, hp2]; simp)
        have HW1 := Lib.hid (fun W (hb : Below w.heap.size w W) (hb9 : Below W9.heap.size W9 W) => (by
          have h := write_tree W9.heap.size (nestT (some ⟨gb, go, none⟩) c l (some ⟨w7.heap.size, 0, none⟩) 1 [t]) hg1.1 hg1.2.1 hg1.2.2.1 hg1.2.2.2 W (HT.out.1.below hb) hb9.size (hM9.up hb9)
          rw [hF1] at h
          have e : (nestT (some ⟨gb, go, none⟩) c l (some ⟨w7.heap.size, 0, none⟩) 1 [t]).items.length = k := HNN.out
          rw [e] at h
          exact h : Calls Tryd.prog 12 #[.agg #[.int .i64 5, .bool false, .slice none 0 0, .bool false, .string ⟨#[]⟩, .slice (some ⟨gb, go, none⟩) k c, .slice (some ⟨w7.heap.size, 0, none⟩) 1 1]] W fun e w' => e = .returned (.string (sb ++ ⟨#[32, 46, 32]⟩ ++ o1 ++ ⟨#[41]⟩)) ∧ Below W.heap.size W w'))
        have HD1 := Lib.hid (fun W (hb : Below w.heap.size w W) (hb9 : Below W9.heap.size W9 W) => (by
          have h := display_tree W9.heap.size (nestT (some ⟨gb, go, none⟩) c l (some ⟨w7.heap.size, 0, none⟩) 1 [t]) hg1.1 hg1.2.1 hg1.2.2.1 hg1.2.2.2 W (HT.out.1.below hb) hb9.size (hM9.up hb9)
          rw [hF2] at h
          have e : (nestT (some ⟨gb, go, none⟩) c l (some ⟨w7.heap.size, 0, none⟩) 1 [t]).items.length = k := HNN.out
          rw [e] at h
          exact h : Calls Tryd.prog 14 #[.agg #[.int .i64 5, .bool false, .slice none 0 0, .bool false, .string ⟨#[]⟩, .slice (some ⟨gb, go, none⟩) k c, .slice (some ⟨w7.heap.size, 0, none⟩) 1 1]] W fun e w' => e = .returned (.string (sd ++ ⟨#[32, 46, 32]⟩ ++ o2 ++ ⟨#[41]⟩)) ∧ Below W.heap.size W w'))
        have HWt := Lib.hid (fun W (hb : Below w.heap.size w W) => (ho1 ▸ write_tree w.heap.size t (by omega) (by have := HGD.out.2.2.2.1; omega) HGD.out.2.2.2.2.1 HGD.out.2.2.2.2.2.1 W (HT.out.1.below hb) hb.size (HT.out.2.2.2.1.up hb) : Calls Tryd.prog 12 #[.agg #[.int .i64 t.k, .bool t.g, .slice t.la t.ln t.lc, .bool t.bb, .string t.s, .slice t.ia t.items.length t.ic, .slice t.ta t.tail.length t.tc]] W fun e w' => e = .returned (.string o1) ∧ Below W.heap.size W w'))
        have HDt := Lib.hid (fun W (hb : Below w.heap.size w W) => (ho2 ▸ display_tree w.heap.size t (by omega) (by have := HGD.out.2.2.2.1; omega) HGD.out.2.2.2.2.1 HGD.out.2.2.2.2.2.1 W (HT.out.1.below hb) hb.size (HT.out.2.2.2.1.up hb) : Calls Tryd.prog 14 #[.agg #[.int .i64 t.k, .bool t.g, .slice t.la t.ln t.lc, .bool t.bb, .string t.s, .slice t.ia t.items.length t.ic, .slice t.ta t.tail.length t.tc]] W fun e w' => e = .returned (.string o2) ∧ Below W.heap.size W w'))
        have ho1s : o1.size ≤ 40000000 := by omega
        have ho2s : o2.size ≤ 40000000 := by omega
        have v1 : ¬ (9223372036854775807 < sb.size + 3) := by omega
        have v2 : ¬ (9223372036854775807 < sb.size + (⟨#[32, 46, 32]⟩ : ByteArray).size) := v1
        have v3 : ¬ (9223372036854775807 < sb.size + 3 + o1.size) := by omega
        have v4 : ¬ (9223372036854775807 < sb.size + (⟨#[32, 46, 32]⟩ : ByteArray).size + o1.size) := v3
        have v5 : ¬ (9223372036854775807 < (sb ++ ⟨#[32, 46, 32]⟩).size + o1.size) := by rw [ByteArray.size_append]; exact v4
        have v6 : ¬ (9223372036854775807 < sb.size + 3 + o1.size + 1) := by omega
        have v7 : ¬ (9223372036854775807 < sb.size + (⟨#[32, 46, 32]⟩ : ByteArray).size + o1.size + (⟨#[41]⟩ : ByteArray).size) := v6
        have v8 : ¬ (9223372036854775807 < (sb ++ ⟨#[32, 46, 32]⟩ ++ o1).size + (⟨#[41]⟩ : ByteArray).size) := by rw [ByteArray.size_append, ByteArray.size_append]; exact v7
        have v9 : ¬ (9223372036854775807 < (sb ++ ⟨#[32, 46, 32]⟩ ++ o1).size + 1) := v8
        have v10 : ¬ (9223372036854775807 < sd.size + 3) := by omega
        have v11 : ¬ (9223372036854775807 < sd.size + (⟨#[32, 46, 32]⟩ : ByteArray).size) := v10
        have v12 : ¬ (9223372036854775807 < sd.size + 3 + o2.size) := by omega
        have v13 : ¬ (9223372036854775807 < sd.size + (⟨#[32, 46, 32]⟩ : ByteArray).size + o2.size) := v12
        have v14 : ¬ (9223372036854775807 < (sd ++ ⟨#[32, 46, 32]⟩).size + o2.size) := by rw [ByteArray.size_append]; exact v13
        have v15 : ¬ (9223372036854775807 < sd.size + 3 + o2.size + 1) := by omega
        have v16 : ¬ (9223372036854775807 < sd.size + (⟨#[32, 46, 32]⟩ : ByteArray).size + o2.size + (⟨#[41]⟩ : ByteArray).size) := v15
        have v17 : ¬ (9223372036854775807 < (sd ++ ⟨#[32, 46, 32]⟩ ++ o2).size + (⟨#[41]⟩ : ByteArray).size) := by rw [ByteArray.size_append, ByteArray.size_append]; exact v16
        have v18 : ¬ (9223372036854775807 < (sd ++ ⟨#[32, 46, 32]⟩ ++ o2).size + 1) := v17
        have q1 : ((sb ++ ⟨#[32, 46, 32]⟩ ++ o1 ++ ⟨#[41]⟩ : ByteArray).toList == (sb ++ ⟨#[32, 46, 32]⟩ ++ o1 ++ ⟨#[41]⟩ : ByteArray).toList) = true := beq_self_eq_true _
        have q2 : ((sd ++ ⟨#[32, 46, 32]⟩ ++ o2 ++ ⟨#[41]⟩ : ByteArray).toList == (sd ++ ⟨#[32, 46, 32]⟩ ++ o2 ++ ⟨#[41]⟩ : ByteArray).toList) = true := beq_self_eq_true _
        have hb := hb9'.drew
        have hB9 := (Below.refl W9.heap.size W9).drew
        have DX : W9.drew.heap[wr.heap.size]? = some (Obj.cells #[.int .i64 5, .bool false, .slice none 0 0, .bool false, .string ⟨#[]⟩, .slice (some ⟨gb, go, none⟩) k c, .slice (some ⟨w7.heap.size, 0, none⟩) 1 1] 27) := hX9
        have DT := hDt9.drew
        have HW9 := Lib.hid hW9
        clear hset hz9 hX9 hb9' hDt9 hTn9 hHt9 hli9 hlt9 hM9 hg1 hlne hAt hln1 hln2 hsn hst ho1 ho2 hp1 hp2 hz1 hz2 hF1 hF2 hW9 u1 u2 u3 u4 e1 e2
        go_wp2_with fail
        have h9 := HW9.out
        clear HW9
        rw [← h9]
        clear h9
        clear c0 c1 c2 c3 c4 c5 c6 p6 x6
        obtain ⟨c0, c1, c2, c3, c4, c5, c6⟩ := DT.c
        obtain ⟨x0, x1, x2, x3, x4, x5, x6⟩ := cells7 DX
        go_region_held3 (fun w' => w'.cell? ⟨wr.heap.size, 0, none⟩ = some (.int .i64 5) ∧ w'.cell? ⟨wr.heap.size, 1, none⟩ = some (.bool false) ∧ w'.cell? ⟨wr.heap.size, 2, none⟩ = some (.slice none 0 0) ∧ w'.cell? ⟨wr.heap.size, 3, none⟩ = some (.bool false) ∧ w'.cell? ⟨wr.heap.size, 4, none⟩ = some (.string ⟨#[]⟩) ∧ w'.cell? ⟨wr.heap.size, 5, none⟩ = some (.slice (some ⟨gb, go, none⟩) k c) ∧ w'.cell? ⟨wr.heap.size, 6, none⟩ = some (.slice (some ⟨w7.heap.size, 0, none⟩) 1 1) ∧ w'.cell? ⟨w.heap.size, 0, none⟩ = some (.int .i64 t.k) ∧ w'.cell? ⟨w.heap.size, 1, none⟩ = some (.bool t.g) ∧ w'.cell? ⟨w.heap.size, 2, none⟩ = some (.slice t.la t.ln t.lc) ∧ w'.cell? ⟨w.heap.size, 3, none⟩ = some (.bool t.bb) ∧ w'.cell? ⟨w.heap.size, 4, none⟩ = some (.string t.s) ∧ w'.cell? ⟨w.heap.size, 5, none⟩ = some (.slice t.ia t.items.length t.ic) ∧ w'.cell? ⟨w.heap.size, 6, none⟩ = some (.slice t.ta t.tail.length t.tc))
          (first | (with_reducible exact ⟨(cells7 DX).1, (cells7 DX).2.1, (cells7 DX).2.2.1, (cells7 DX).2.2.2.1, (cells7 DX).2.2.2.2.1, (cells7 DX).2.2.2.2.2.1, (cells7 DX).2.2.2.2.2.2, DT.c⟩) | (exact ⟨(cells7 DX).1, (cells7 DX).2.1, (cells7 DX).2.2.1, (cells7 DX).2.2.2.1, (cells7 DX).2.2.2.2.1, (cells7 DX).2.2.2.2.2.1, (cells7 DX).2.2.2.2.2.2, DT.c⟩))
          (first
          | (go_at_call 12; (fail_if_success (have hh := b11)); refine (HW1.out _ hb hB9).mono ?_; rintro e w11 ⟨rfl, b11⟩; replace hb := bnext hb b11; replace hB9 := bnext hB9 b11; replace DT := DT.next b11; replace DX := (b11.block wr.heap.size (Array.getElem?_eq_some_iff.1 DX).1).trans DX)
          | (go_at_call 12; (fail_if_success (have hh := b12)); refine (HWt.out _ hb).mono ?_; rintro e w12 ⟨rfl, b12⟩; replace hb := bnext hb b12; replace hB9 := bnext hB9 b12; replace DT := DT.next b12; replace DX := (b12.block wr.heap.size (Array.getElem?_eq_some_iff.1 DX).1).trans DX)
          | (go_at_call 14; (fail_if_success (have hh := b13)); refine (HD1.out _ hb hB9).mono ?_; rintro e w13 ⟨rfl, b13⟩; replace hb := bnext hb b13; replace hB9 := bnext hB9 b13; replace DT := DT.next b13; replace DX := (b13.block wr.heap.size (Array.getElem?_eq_some_iff.1 DX).1).trans DX)
          | (go_at_call 14; (fail_if_success (have hh := b14)); refine (HDt.out _ hb).mono ?_; rintro e w14 ⟨rfl, b14⟩; replace hb := bnext hb b14; replace hB9 := bnext hB9 b14; replace DT := DT.next b14; replace DX := (b14.block wr.heap.size (Array.getElem?_eq_some_iff.1 DX).1).trans DX)
          | (go_at_call 11; refine (HLv.out _ hb).mono ?_; rintro e w15 ⟨rfl, b15⟩; replace hb := bnext hb b15; replace hB9 := bnext hB9 b15; replace DT := DT.next b15; replace DX := (b15.block wr.heap.size (Array.getElem?_eq_some_iff.1 DX).1).trans DX))
        go_wp2_with fail
        go_ret
        exact ⟨rfl, hb⟩
set_option maxRecDepth 100000 in
set_option maxHeartbeats 12800000 in
theorem writeNests_zero (a : Option Addr) (c : Nat) (l : List LT) (t : LT) (w : World) (ht : Tab w) (hsp : Spot w.heap.size a l.length c) (hli : LiesR w w.heap.size l (blk a) (ofs a)) (hH : Held w w.heap.size t) (hl : lightB t = true) (hn : l.length ≤ 10) (hn0 : l.length = 0) :
    Calls Tryd.prog 7 #[.slice a l.length c, .agg #[.int .i64 t.k, .bool t.g, .slice t.la t.ln t.lc, .bool t.bb, .string t.s, .slice t.ia t.items.length t.ic, .slice t.ta t.tail.length t.tc]] w fun e w' => e = .returned (.bool true) ∧ Below w.heap.size w w' := by
  have HT := Lib.hid (And.intro ht (And.intro hsp (And.intro hli (And.intro hH hl))))
  have hLt := fun W (hb : Below w.heap.size w W) => (hl ▸ light_any w.heap.size t W hb.size (hH.up hb) : Calls Tryd.prog 10 #[.agg #[.int .i64 t.k, .bool t.g, .slice t.la t.ln t.lc, .bool t.bb, .string t.s, .slice t.ia t.items.length t.ic, .slice t.ta t.tail.length t.tc]] W fun e w' => e = .returned (.bool true) ∧ Below W.heap.size W w')
  have HLv := Lib.hid (fun W (hb : Below w.heap.size w W) => lives4_yes W (ht.below hb))
  have HL0 := Lib.hid hLt
  have qn : decide (10 < ((l.length : Nat) : Int)) = false := decide_eq_false (by omega)
  clear ht hli hH hl hLt
  have hcap := hsp.2.1
  have hcl := hsp.1
  unfold maxLen at hcap
  have hb : Below w.heap.size w (w.alloc (Obj.cells #[.int .i64 t.k, .bool t.g, .slice t.la t.ln t.lc, .bool t.bb, .string t.s, .slice t.ia t.items.length t.ic, .slice t.ta t.tail.length t.tc] 27)) := (Below.refl _ w).alloc (Nat.le_refl _) _
  have D := VarD.new w t
  obtain ⟨c0, c1, c2, c3, c4, c5, c6⟩ := D.c
  generalize hnn : l.length = n at *
  have HNN := Lib.hid hnn
  have HN0 := Lib.hid hn0
  clear hnn hn0
  go_enter Tryd.func7, Tryd.ntmps7
  go_wp2_with fail
  clear c0 c1 c2 c3 c4 c5 c6
  refine (HL0.out _ hb).mono ?_
  rintro e w1 ⟨rfl, b1⟩
  replace D := D.next b1
  replace hb := bnext hb b1
  have HS := Lib.hid (show NsRel t l w (.string ⟨#[40]⟩) (.string ⟨#[40]⟩) (.int .i64 0) w1 from
    ⟨0, ⟨#[40]⟩, ⟨#[40]⟩, Nat.zero_le _, rfl, rfl, rfl, Lib.hid ⟨by simp [wR_nil], by simp [wR_nil]⟩, by decide, Lib.hid (by simp), Lib.hid hb, Lib.hid D⟩)
  clear b1 D hb
  go_wp2_with fail
  go_loopw [5, 6, 21] (fun s d i wr => NsRel t l w s d i wr) (fun _ _ i _ => n - (intOf i).toNat)
  case atStart => exact HS.out
  case round =>
    obtain ⟨k, sb, sd, hk, rfl, rfl, rfl, HK, hbd, HG, HB, HV⟩ := hrel
    rw [HNN.out] at hk
    have hbz := HB.out.size
    obtain rfl : k = n := by have := HN0.out; omega
    have gn : (((k : Nat) : Int) == 0) = true := beq_iff_eq.2 (by have := HN0.out; omega)
    have gk : ¬ (k < k) := Nat.lt_irrefl _
    replace HK := Lib.hid (show sb.data.toList = 40 :: wR nameS quoS (normR l) ∧ sd.data.toList = 40 :: wR id id (normR l) by have h := HK.out; rwa [List.take_of_length_le (by rw [normR_length, HNN.out]; exact Nat.le_refl _)] at h)
    replace HG := Lib.hid (show ∀ x ∈ l, nestB x = true by have h := HG.out; rwa [List.take_of_length_le (by rw [HNN.out]; exact Nat.le_refl _)] at h)
    have hn10 : l.length ≤ 10 := by rw [HNN.out]; exact hn
    have hgood := fun x (hx : x ∈ l) => (by
      obtain ⟨i, hi, rfl⟩ := List.getElem_of_mem hx
      exact nest_says l[i] (lies_held.1 ((liesR_iff _ _ _).1 HT.out.2.2.1 i hi)).2.2 (HG.out _ hx) : x.size ≤ 50 ∧ x.depth ≤ 20 ∧ Tame x ∧ AllL pB x)
    have hls := light_says t HT.out.2.2.2.1 HT.out.2.2.2.2
    have hH0 : Held w w.heap.size (nestT a c l none 0 []) := nest_held (by rw [HNN.out]; exact hsp) HT.out.2.2.1 (spot_none _) (by simp [LiesR])
    have hg0 := nest_good a c l hn10 hgood none 0 [] (.inl rfl)
    have hE1 : (⟨(wD nameS quoS (normT (nestT a c l none 0 []))).toArray⟩ : ByteArray) = sb ++ ⟨#[41]⟩ := bytes_ext (by rw [nest_text, cat4, HK.out.1]; rfl)
    have hE2 : (⟨(wD id id (normT (nestT a c l none 0 []))).toArray⟩ : ByteArray) = sd ++ ⟨#[41]⟩ := bytes_ext (by rw [nest_text, cat4, HK.out.2]; rfl)
    have HW0 := Lib.hid (fun W (hb : Below w.heap.size w W) => (by
      have h := write_tree w.heap.size (nestT a c l none 0 []) hg0.1 hg0.2.1 hg0.2.2.1 hg0.2.2.2 W (HT.out.1.below hb) hb.size (hH0.up hb)
      rw [hE1] at h
      have e : (nestT a c l none 0 []).items.length = k := HNN.out
      rw [e] at h
      exact h : Calls Tryd.prog 12 #[.agg #[.int .i64 5, .bool false, .slice none 0 0, .bool false, .string ⟨#[]⟩, .slice a k c, .slice none 0 0]] W fun e w' => e = .returned (.string (sb ++ ⟨#[41]⟩)) ∧ Below W.heap.size W w'))
    have HD0 := Lib.hid (fun W (hb : Below w.heap.size w W) => (by
      have h := display_tree w.heap.size (nestT a c l none 0 []) hg0.1 hg0.2.1 hg0.2.2.1 hg0.2.2.2 W (HT.out.1.below hb) hb.size (hH0.up hb)
      rw [hE2] at h
      have e : (nestT a c l none 0 []).items.length = k := HNN.out
      rw [e] at h
      exact h : Calls Tryd.prog 14 #[.agg #[.int .i64 5, .bool false, .slice none 0 0, .bool false, .string ⟨#[]⟩, .slice a k c, .slice none 0 0]] W fun e w' => e = .returned (.string (sd ++ ⟨#[41]⟩)) ∧ Below W.heap.size W w'))
    have HNm := Lib.hid (fun W (hb : Below w.heap.size w W) => rNorm_tree w.heap.size t (by omega) (by omega) hls.2.2.1 W hb.size (HT.out.2.2.2.1.up hb))
    have HGD := Lib.hid (And.intro hgood (And.intro hn10 hls))
    have hb8 : sb.size ≤ 50000000 := by have := hbd.1; omega
    have hb9 : sd.size ≤ 50000000 := by have := hbd.2; omega
    have u1 : ¬ (9223372036854775807 < sb.size + 1) := by omega
    have u2 : ¬ (9223372036854775807 < sb.size + (⟨#[41]⟩ : ByteArray).size) := u1
    have u3 : ¬ (9223372036854775807 < sd.size + 1) := by omega
    have u4 : ¬ (9223372036854775807 < sd.size + (⟨#[41]⟩ : ByteArray).size) := u3
    have e1 : ((sb ++ ⟨#[41]⟩ : ByteArray).toList == (sb ++ ⟨#[41]⟩ : ByteArray).toList) = true := beq_self_eq_true _
    have e2 : ((sd ++ ⟨#[41]⟩ : ByteArray).toList == (sd ++ ⟨#[41]⟩ : ByteArray).toList) = true := beq_self_eq_true _
    have hba : Below wr.heap.size wr (wr.alloc (Obj.cells #[.int .i64 5, .bool false, .slice none 0 0, .bool false, .string ⟨#[]⟩, .slice a k c, .slice none 0 0] 27)) := (Below.refl _ wr).alloc (Nat.le_refl _) _
    have hX0 := World.alloc_heap_new wr (Obj.cells #[.int .i64 5, .bool false, .slice none 0 0, .bool false, .string ⟨#[]⟩, .slice a k c, .slice none 0 0] 27)
    have hzA : (wr.alloc (Obj.cells #[.int .i64 5, .bool false, .slice none 0 0, .bool false, .string ⟨#[]⟩, .slice a k c, .slice none 0 0] 27)).heap.size = wr.heap.size + 1 := World.size_alloc ..
    have hbA := Lib.hid (HB.out.trans (hba.mono hbz))
    have Dt := HV.out.next hba
    obtain ⟨x0, x1, x2, x3, x4, x5, x6⟩ := cells7 hX0
    clear hgood hls hH0 hg0 hE1 hE2 hbd hba
    go_wp2_with fail
    refine (HW0.out _ hbA.out).mono ?_
    rintro e w5 ⟨rfl, b5⟩
    have hX5 := (b5.block wr.heap.size (by rw [hzA]; omega)).trans hX0
    have hb5 := Lib.hid (bnext hbA.out b5)
    have z5 := b5.size
    rw [hzA] at z5
    replace Dt := Dt.next b5
    clear x0 x1 x2 x3 x4 x5 x6 hX0 b5 hzA hbA
    obtain ⟨x0, x1, x2, x3, x4, x5, x6⟩ := cells7 hX5
    go_wp2_with fail
    refine (HD0.out _ hb5.out).mono ?_
    rintro e w6 ⟨rfl, b6⟩
    have hX6 := (b6.block wr.heap.size (by omega)).trans hX5
    have hb6 := Lib.hid (bnext hb5.out b6)
    have z6 := b6.size
    replace Dt := Dt.next b6
    clear x0 x1 x2 x3 x4 x5 x6 hX5 b6
    obtain ⟨c0, c1, c2, c3, c4, c5, c6⟩ := Dt.c
    go_wp2_with fail
    refine (HNm.out _ hb6.out).mono ?_
    rintro e w7 ⟨x', rfl, hP, hsh, b7⟩
    have hfk := field_k x' w7
    have hk7 : x'.k = (normT t).k := by rw [← hsh]; exact (shape_k x').symm
    have hb7 := Lib.hid (bnext hb6.out b7)
    have hX7 := (b7.block wr.heap.size (by omega)).trans hX6
    have z7 := b7.size
    replace Dt := Dt.next b7
    clear c0 c1 c2 c3 c4 c5 c6 hX6 b7 hP hsh
    by_cases h5 : (normT t).k = 5
    · have g5 : (x'.k == 5) = true := beq_iff_eq.2 (hk7.trans h5)
      clear hk7 h5
      go_wp2_with fail
      refine (HLv.out _ hb7.out).mono ?_
      rintro e w8 ⟨rfl, b8⟩
      go_wp2_with fail
      go_ret
      exact ⟨rfl, bnext hb7.out b8⟩
    · have g5 : (x'.k == 5) = false := beq_eq_false_iff_ne.2 (by rw [hk7]; exact h5)
      have H5 := Lib.hid h5
      clear hk7 h5
      go_wp2_with fail
      refine (HLv.out _ hb7.out).mono ?_
      rintro e w8 ⟨rfl, b8⟩
      go_wp2_with fail
      go_ret
      exact ⟨rfl, bnext hb7.out b8⟩

set_option maxRecDepth 100000 in
set_option maxHeartbeats 3200000 in
theorem writeNests_many (a : Option Addr) (n c : Nat) (t : LT) (w : World) (ht : Tab w) (hn : n ≤ maxLen) (h : 10 < n) :
    Calls Tryd.prog 7 #[.slice a n c, .agg #[.int .i64 t.k, .bool t.g, .slice t.la t.ln t.lc, .bool t.bb, .string t.s, .slice t.ia t.items.length t.ic, .slice t.ta t.tail.length t.tc]] w fun e w' => e = .returned (.bool true) ∧ Below w.heap.size w w' := by
  have HLv := Lib.hid (fun W (hb : Below w.heap.size w W) => lives4_yes W (ht.below hb))
  have qn : decide (10 < ((n : Nat) : Int)) = true := decide_eq_true (by omega)
  unfold maxLen at hn
  clear ht
  have hb : Below w.heap.size w (w.alloc (Obj.cells #[.int .i64 t.k, .bool t.g, .slice t.la t.ln t.lc, .bool t.bb, .string t.s, .slice t.ia t.items.length t.ic, .slice t.ta t.tail.length t.tc] 27)) := (Below.refl _ w).alloc (Nat.le_refl _) _
  go_enter Tryd.func7, Tryd.ntmps7
  go_wp2_with fail
  refine (HLv.out _ hb).mono ?_
  rintro e w2 ⟨rfl, b2⟩
  go_wp2_with fail
  go_ret
  exact ⟨rfl, bnext hb b2⟩

set_option maxRecDepth 100000 in
set_option maxHeartbeats 3200000 in
theorem writeNests_heavy (a : Option Addr) (n c : Nat) (t : LT) (w : World) (ht : Tab w) (hH : Held w w.heap.size t) (hl : lightB t = false) (h : n ≤ 10) :
    Calls Tryd.prog 7 #[.slice a n c, .agg #[.int .i64 t.k, .bool t.g, .slice t.la t.ln t.lc, .bool t.bb, .string t.s, .slice t.ia t.items.length t.ic, .slice t.ta t.tail.length t.tc]] w fun e w' => e = .returned (.bool true) ∧ Below w.heap.size w w' := by
  have HLt := Lib.hid (fun W (hb : Below w.heap.size w W) => (hl ▸ light_any w.heap.size t W hb.size (hH.up hb) : Calls Tryd.prog 10 #[.agg #[.int .i64 t.k, .bool t.g, .slice t.la t.ln t.lc, .bool t.bb, .string t.s, .slice t.ia t.items.length t.ic, .slice t.ta t.tail.length t.tc]] W fun e w' => e = .returned (.bool false) ∧ Below W.heap.size W w'))
  have HLv := Lib.hid (fun W (hb : Below w.heap.size w W) => lives4_yes W (ht.below hb))
  have qn : decide (10 < ((n : Nat) : Int)) = false := decide_eq_false (by omega)
  clear ht hH hl
  have hb : Below w.heap.size w (w.alloc (Obj.cells #[.int .i64 t.k, .bool t.g, .slice t.la t.ln t.lc, .bool t.bb, .string t.s, .slice t.ia t.items.length t.ic, .slice t.ta t.tail.length t.tc] 27)) := (Below.refl _ w).alloc (Nat.le_refl _) _
  go_enter Tryd.func7, Tryd.ntmps7
  go_wp2_with fail
  refine (HLt.out _ hb).mono ?_
  rintro e w1 ⟨rfl, b1⟩
  replace hb := bnext hb b1
  clear b1
  go_wp2_with fail
  refine (HLv.out _ hb).mono ?_
  rintro e w2 ⟨rfl, b2⟩
  go_wp2_with fail
  go_ret
  exact ⟨rfl, bnext hb b2⟩

theorem writeNests_walk (a : Option Addr) (l : List LT) (c : Nat) (t : LT) (w : World) (hl : Spot w.heap.size a l.length c ∧ LiesR w w.heap.size l (blk a) (ofs a)) (hH : Held w w.heap.size t) (ht : Tab w) :
    Calls Tryd.prog 7 #[.slice a l.length c, .agg #[.int .i64 t.k, .bool t.g, .slice t.la t.ln t.lc, .bool t.bb, .string t.s, .slice t.ia t.items.length t.ic, .slice t.ta t.tail.length t.tc]] w fun e w' => e = .returned (.bool true) ∧ Below w.heap.size w w' := by
  by_cases h10 : l.length ≤ 10
  · cases hlt : lightB t with
    | false => exact writeNests_heavy a l.length c t w ht hH hlt h10
    | true =>
      rcases Nat.eq_zero_or_pos l.length with h0 | h0
      · exact writeNests_zero a c l t w ht hl.1 hl.2 hH hlt h10 h0
      · obtain ⟨ha, _⟩ := hl.1.2.2.1 h0
        have h1 := hl.1
        have h2 := hl.2
        generalize blk a = gb at ha h2
        generalize ofs a = go at ha h2
        subst ha
        exact writeNests_pos gb go c l t w ht h1 h2 hH hlt h10 h0
  · exact writeNests_many a l.length c t w ht (Nat.le_trans hl.1.1 hl.1.2.1) (by omega)
end Go.Proofs.YtgfamihldecmbaaDoor
