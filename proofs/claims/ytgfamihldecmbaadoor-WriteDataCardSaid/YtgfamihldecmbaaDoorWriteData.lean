/-
  The law WriteData: its walk. No condition.
-/
import Derived.Test.YtgfamihldecmbaaDoorRt
namespace Go.Proofs.YtgfamihldecmbaaDoor
open Go.RowKit

set_option maxRecDepth 100000 in
set_option maxHeartbeats 3200000 in
theorem rwrite_tree (M : Nat) (t : LT) (h1 : t.size ≤ 1000) (h2 : t.depth ≤ 10000) (hT : Tame t) (hA : AllL pB t) (w : World) (hM : M ≤ w.heap.size) (hH : Held w M t) :
    Calls Tryd.prog 13 #[.agg #[.int .i64 t.k, .bool t.g, .slice t.la t.ln t.lc, .bool t.bb, .string t.s, .slice t.ia t.items.length t.ic, .slice t.ta t.tail.length t.tc]] w fun e w' => e = .returned (.string ⟨(wD nameS quoS (normT t)).toArray⟩) ∧ Below w.heap.size w w' := by
  have hl := fun W (hb : Below w.heap.size w W) => few_any M t W (Nat.le_trans hM hb.size) (hH.below hM hb)
  have hn := fun W (hb : Below w.heap.size w W) => rNorm_tree M t (by omega) h2 hT W (Nat.le_trans hM hb.size) (hH.below hM hb)
  have hbu : decide (0 ≤ budT t 100000 10000) = true := decide_eq_true (by rw [budT_ge t 100000 10000 (by omega) (by omega)]; omega)
  have hAn := allD_norm keepsB t hA
  have hOn := one1_norm t
  have hlen : (wD nameS quoS (normT t)).length < 100000000 := by
    have q1 := wD_len nameS quoS (fun s hs => by have := nm_size s; show (nameS s).data.toList.length ≤ _; rw [Array.length_toList]; show (nameS s).size ≤ _; omega) (fun s hs => by have := qu_size s; show (quoS s).data.toList.length ≤ _; rw [Array.length_toList]; show (quoS s).size ≤ _; omega) _ hAn
    have q2 := size_norm t
    omega
  unfold LT.val at hl
  rw [hbu] at hl
  have HL := Lib.hid (And.intro hl hn)
  have HA := Lib.hid (And.intro hAn (And.intro hOn hlen))
  clear hl hn hH hT hbu hA hAn hOn hlen
  generalize normT t = d at *
  have hb : Below w.heap.size w (w.alloc (Obj.cells #[.int .i64 t.k, .bool t.g, .slice t.la t.ln t.lc, .bool t.bb, .string t.s, .slice t.ia t.items.length t.ic, .slice t.ta t.tail.length t.tc] 27)) := (Below.refl _ w).alloc (Nat.le_refl _) _
  have D := VarD.new w t
  go_enter Tryd.func13, Tryd.ntmps13
  go_wp2_with fail
  refine (HL.out.1 _ hb).mono ?_
  rintro e w1 ⟨rfl, b1⟩
  replace D := D.next b1
  replace hb := bnext hb b1
  obtain ⟨c0, c1, c2, c3, c4, c5, c6⟩ := D.c
  clear b1
  go_wp2_with fail
  clear c0 c1 c2 c3 c4 c5 c6
  refine (HL.out.2 w1 hb).mono ?_
  rintro e w2 ⟨x', rfl, hP, hsh, b2⟩
  have HX := Lib.hid (rtext_tree w2.heap.size false nameS quoS (.inr ⟨rfl, rfl, rfl⟩) x'.size x' (Nat.le_refl _) w2 (Nat.le_refl _) (hP.held fun q hq => hq.lt) (by rw [hsh]; exact HA.out.1) (by rw [hsh]; exact HA.out.2.1) (by rw [hsh]; exact HA.out.2.2))
  rw [hsh] at HX
  have hb2 := bnext hb b2
  clear hP hsh b2
  go_wp2_with fail
  refine HX.out.mono ?_
  rintro e w3 ⟨s3, rfl, hs3, b3⟩
  have HE := Lib.hid (And.intro (show s3 = ⟨(wD nameS quoS d).toArray⟩ from bytes_ext (by rw [hs3])) (bnext hb2 b3))
  clear hs3 b3
  go_wp2_with fail
  go_ret
  exact ⟨by rw [← HE.out.1]; rfl, HE.out.2⟩

set_option maxRecDepth 100000 in
set_option maxHeartbeats 3200000 in
theorem rdisplay_tree (M : Nat) (t : LT) (h1 : t.size ≤ 1000) (h2 : t.depth ≤ 10000) (hT : Tame t) (hA : AllL pB t) (w : World) (hM : M ≤ w.heap.size) (hH : Held w M t) :
    Calls Tryd.prog 15 #[.agg #[.int .i64 t.k, .bool t.g, .slice t.la t.ln t.lc, .bool t.bb, .string t.s, .slice t.ia t.items.length t.ic, .slice t.ta t.tail.length t.tc]] w fun e w' => e = .returned (.string ⟨(wD id id (normT t)).toArray⟩) ∧ Below w.heap.size w w' := by
  have hl := fun W (hb : Below w.heap.size w W) => few_any M t W (Nat.le_trans hM hb.size) (hH.below hM hb)
  have hn := fun W (hb : Below w.heap.size w W) => rNorm_tree M t (by omega) h2 hT W (Nat.le_trans hM hb.size) (hH.below hM hb)
  have hbu : decide (0 ≤ budT t 100000 10000) = true := decide_eq_true (by rw [budT_ge t 100000 10000 (by omega) (by omega)]; omega)
  have hAn := allD_norm keepsB t hA
  have hOn := one1_norm t
  have hlen : (wD id id (normT t)).length < 100000000 := by
    have q1 := wD_len id id (fun s hs => by show s.data.toList.length ≤ _; rw [Array.length_toList]; show s.size ≤ _; omega) (fun s hs => by show s.data.toList.length ≤ _; rw [Array.length_toList]; show s.size ≤ _; omega) _ hAn
    have q2 := size_norm t
    omega
  unfold LT.val at hl
  rw [hbu] at hl
  have HL := Lib.hid (And.intro hl hn)
  have HA := Lib.hid (And.intro hAn (And.intro hOn hlen))
  clear hl hn hH hT hbu hA hAn hOn hlen
  generalize normT t = d at *
  have hb : Below w.heap.size w (w.alloc (Obj.cells #[.int .i64 t.k, .bool t.g, .slice t.la t.ln t.lc, .bool t.bb, .string t.s, .slice t.ia t.items.length t.ic, .slice t.ta t.tail.length t.tc] 27)) := (Below.refl _ w).alloc (Nat.le_refl _) _
  have D := VarD.new w t
  go_enter Tryd.func15, Tryd.ntmps15
  go_wp2_with fail
  refine (HL.out.1 _ hb).mono ?_
  rintro e w1 ⟨rfl, b1⟩
  replace D := D.next b1
  replace hb := bnext hb b1
  obtain ⟨c0, c1, c2, c3, c4, c5, c6⟩ := D.c
  clear b1
  go_wp2_with fail
  clear c0 c1 c2 c3 c4 c5 c6
  refine (HL.out.2 w1 hb).mono ?_
  rintro e w2 ⟨x', rfl, hP, hsh, b2⟩
  have HX := Lib.hid (rtext_tree w2.heap.size true id id (.inl ⟨rfl, rfl, rfl⟩) x'.size x' (Nat.le_refl _) w2 (Nat.le_refl _) (hP.held fun q hq => hq.lt) (by rw [hsh]; exact HA.out.1) (by rw [hsh]; exact HA.out.2.1) (by rw [hsh]; exact HA.out.2.2))
  rw [hsh] at HX
  have hb2 := bnext hb b2
  clear hP hsh b2
  go_wp2_with fail
  refine HX.out.mono ?_
  rintro e w3 ⟨s3, rfl, hs3, b3⟩
  have HE := Lib.hid (And.intro (show s3 = ⟨(wD id id d).toArray⟩ from bytes_ext (by rw [hs3])) (bnext hb2 b3))
  clear hs3 b3
  go_wp2_with fail
  go_ret
  exact ⟨by rw [← HE.out.1]; rfl, HE.out.2⟩

set_option maxRecDepth 100000 in
set_option maxHeartbeats 12800000 in
theorem writeData_in (t : LT) (w : World) (ht : Tab w) (hH : Held w w.heap.size t) (hl : lightB t = true) :
    Calls Tryd.prog 3 #[.agg #[.int .i64 t.k, .bool t.g, .slice t.la t.ln t.lc, .bool t.bb, .string t.s, .slice t.ia t.items.length t.ic, .slice t.ta t.tail.length t.tc]] w fun e w' => e = .returned (.bool true) ∧ Below w.heap.size w w' := by
  obtain ⟨hs1, hs2, hT, hA, _⟩ := light_says t hH hl
  have HLt := Lib.hid (fun W (hb : Below w.heap.size w W) => (hl ▸ light_any w.heap.size t W hb.size (hH.up hb) : Calls Tryd.prog 10 #[.agg #[.int .i64 t.k, .bool t.g, .slice t.la t.ln t.lc, .bool t.bb, .string t.s, .slice t.ia t.items.length t.ic, .slice t.ta t.tail.length t.tc]] W fun e w' => e = .returned (.bool true) ∧ Below W.heap.size W w'))
  have HWr := Lib.hid (fun W (hb : Below w.heap.size w W) => write_tree w.heap.size t (by omega) (by omega) hT hA W (ht.below hb) hb.size (hH.up hb))
  have HDi := Lib.hid (fun W (hb : Below w.heap.size w W) => display_tree w.heap.size t (by omega) (by omega) hT hA W (ht.below hb) hb.size (hH.up hb))
  have HRw := Lib.hid (fun W (hb : Below w.heap.size w W) => rwrite_tree w.heap.size t (by omega) (by omega) hT hA W hb.size (hH.up hb))
  have HRd := Lib.hid (fun W (hb : Below w.heap.size w W) => rdisplay_tree w.heap.size t (by omega) (by omega) hT hA W hb.size (hH.up hb))
  have HLv := Lib.hid (fun W (hb : Below w.heap.size w W) => lives4_yes W (ht.below hb))
  clear ht hH hl hs1 hs2 hT hA
  have hb : Below w.heap.size w (w.alloc (Obj.cells #[.int .i64 t.k, .bool t.g, .slice t.la t.ln t.lc, .bool t.bb, .string t.s, .slice t.ia t.items.length t.ic, .slice t.ta t.tail.length t.tc] 27)) := (Below.refl _ w).alloc (Nat.le_refl _) _
  have D := VarD.new w t
  obtain ⟨c0, c1, c2, c3, c4, c5, c6⟩ := D.c
  generalize (⟨(wD nameS quoS (normT t)).toArray⟩ : ByteArray) = o1 at *
  generalize (⟨(wD id id (normT t)).toArray⟩ : ByteArray) = o2 at *
  have heq : (o1.toList == o1.toList) = true := beq_self_eq_true _
  have heq2 : (o2.toList == o2.toList) = true := beq_self_eq_true _
  go_enter Tryd.func3, Tryd.ntmps3
  go_wp2_with fail
  clear c0 c1 c2 c3 c4 c5 c6
  refine (HLt.out _ hb).mono ?_
  rintro e w1 ⟨rfl, b1⟩
  replace D := (D.next b1).drew
  replace hb := (bnext hb b1).drew
  clear b1
  obtain ⟨c0, c1, c2, c3, c4, c5, c6⟩ := D.c
  go_wp2_with fail
  go_region_held3 (fun w' => w'.cell? ⟨w.heap.size, 0, none⟩ = some (.int .i64 t.k) ∧ w'.cell? ⟨w.heap.size, 1, none⟩ = some (.bool t.g) ∧ w'.cell? ⟨w.heap.size, 2, none⟩ = some (.slice t.la t.ln t.lc) ∧ w'.cell? ⟨w.heap.size, 3, none⟩ = some (.bool t.bb) ∧ w'.cell? ⟨w.heap.size, 4, none⟩ = some (.string t.s) ∧ w'.cell? ⟨w.heap.size, 5, none⟩ = some (.slice t.ia t.items.length t.ic) ∧ w'.cell? ⟨w.heap.size, 6, none⟩ = some (.slice t.ta t.tail.length t.tc))
    (with_reducible exact D.c)
    (first
    | (go_at_call 12; refine (HWr.out _ hb).mono ?_; rintro e w5 ⟨rfl, b5⟩; replace hb := bnext hb b5; replace D := D.next b5)
    | (go_at_call 13; refine (HRw.out _ hb).mono ?_; rintro e w6 ⟨rfl, b6⟩; replace hb := bnext hb b6; replace D := D.next b6)
    | (go_at_call 14; refine (HDi.out _ hb).mono ?_; rintro e w7 ⟨rfl, b7⟩; replace hb := bnext hb b7; replace D := D.next b7)
    | (go_at_call 15; refine (HRd.out _ hb).mono ?_; rintro e w8 ⟨rfl, b8⟩; replace hb := bnext hb b8; replace D := D.next b8)
    | (go_at_call 11; refine (HLv.out _ hb).mono ?_; rintro e w9 ⟨rfl, b9⟩; replace hb := bnext hb b9; replace D := D.next b9))
  go_wp2_with fail
  go_ret
  exact ⟨rfl, hb⟩

set_option maxRecDepth 100000 in
set_option maxHeartbeats 3200000 in
theorem writeData_walk (t : LT) (w : World) (hH : Held w w.heap.size t) (ht : Tab w) :
    Calls Tryd.prog 3 #[.agg #[.int .i64 t.k, .bool t.g, .slice t.la t.ln t.lc, .bool t.bb, .string t.s, .slice t.ia t.items.length t.ic, .slice t.ta t.tail.length t.tc]] w fun e w' => e = .returned (.bool true) ∧ Below w.heap.size w w' := by
  cases hl : lightB t with
  | true => exact writeData_in t w ht hH hl
  | false =>
    have HLt := Lib.hid (fun W (hb : Below w.heap.size w W) => (hl ▸ light_any w.heap.size t W hb.size (hH.up hb) : Calls Tryd.prog 10 #[.agg #[.int .i64 t.k, .bool t.g, .slice t.la t.ln t.lc, .bool t.bb, .string t.s, .slice t.ia t.items.length t.ic, .slice t.ta t.tail.length t.tc]] W fun e w' => e = .returned (.bool false) ∧ Below W.heap.size W w'))
    have HLv := Lib.hid (fun W (hb : Below w.heap.size w W) => lives4_yes W (ht.below hb))
    clear ht hH hl
    have hb : Below w.heap.size w (w.alloc (Obj.cells #[.int .i64 t.k, .bool t.g, .slice t.la t.ln t.lc, .bool t.bb, .string t.s, .slice t.ia t.items.length t.ic, .slice t.ta t.tail.length t.tc] 27)) := (Below.refl _ w).alloc (Nat.le_refl _) _
    go_enter Tryd.func3, Tryd.ntmps3
    go_wp2_with fail
    refine (HLt.out _ hb).mono ?_
    rintro e w1 ⟨rfl, b1⟩
    replace hb := bnext hb b1
    clear b1
    go_wp2_with fail
    refine (HLv.out _ hb).mono ?_
    rintro e w2 ⟨rfl, b2⟩
    go_wp2_with fail
    go_ret
    exact ⟨rfl, bnext hb b2⟩
end Go.Proofs.YtgfamihldecmbaaDoor
