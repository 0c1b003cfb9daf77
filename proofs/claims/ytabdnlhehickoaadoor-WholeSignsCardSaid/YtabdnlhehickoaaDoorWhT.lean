/-
  whole.Text: its contract.
-/
import Derived.Test.YtabdnlhehickoaaDoorWhE
import Derived.Test.YtabdnlhehickoaaDoorDig2
namespace Go.Proofs.YtabdnlhehickoaaDoor
open Go.RowKit
def wtxt (a : Int) : List UInt8 := if a < 0 then 45 :: txt 10 a.natAbs else txt 10 a.natAbs
theorem text_num {w : World} {u : Value} {a K : Nat} (hu : Num w u a K) (hK : K ≤ 1000000) : Calls Tryd.prog 55 #[u, .int .i64 10] w fun e w' => ∃ t : ByteArray, e = .returned (.string t) ∧ t.data.toList = txt 10 a ∧ Below w.heap.size w w' := by
  obtain ⟨A1, n1, c1, xs, rfl, s1, rfl, k1⟩ := hu
  exact text_any _ _ _ _ 10 _ s1 (by omega) (by omega) (by omega)
set_option maxHeartbeats 800000 in
theorem wtext_num {w : World} {u : Value} {a : Int} {K : Nat} (hu : Wh w u a K) (hK : K ≤ 1000000) : Calls Tryd.prog 52 #[u] w fun e w' => ∃ t : ByteArray, e = .returned (.string t) ∧ t.data.toList = wtxt a ∧ Below w.heap.size w w' := by
  have hlt := hu.lt
  obtain ⟨s, x, m, rfl, hx, rfl⟩ := hu
  obtain ⟨W, hW, hp, hb⟩ := enter1 w (.bool s) x
  replace hx := hx.below hb
  unfold wtxt
  rw [zOf_abs] at hlt ⊢
  have hlen := txt_len 10 m K (by decide) hlt
  have HT := Lib.hid (text_num hx hK)
  have e0 := hp.c0
  have e1 := hp.c1
  rw [hW] at e0 e1
  by_cases hneg : zOf s m < 0
  · rw [if_pos hneg]
    have HN := Lib.hid hneg
    clear hneg
    go_enter Tryd.func52, Tryd.ntmps52
    go_wp2_with fail
    rw [← hW]
    rw [← hW] at e0 e1
    refine HT.out.mono ?_
    rintro e w1 ⟨t, rfl, ht, hb1⟩
    have HB := below_any (s := s) (hx.below hb1) hK
    rw [decide_eq_true HN.out] at HB
    replace HB := Lib.hid HB
    have hts : t.size ≤ 32 * K + 1 := by
      have : t.size = t.data.toList.length := (Array.length_toList (xs := t.data)).symm
      rw [this, ht]; exact hlen
    have f0 := (hp.next hb1).c0
    have f1 := (hp.next hb1).c1
    have H2 := Lib.hid ht
    clear e0 e1 HT hW ht hlen
    go_wp2_with fail
    refine HB.out.mono ?_
    rintro e w2 ⟨rfl, hb2⟩
    go_wp2_with fail
    go_ret
    refine ⟨_, rfl, ?_, bnext (bnext hb hb1) hb2⟩
    simp [H2.out]
  · rw [if_neg hneg]
    have HN := Lib.hid hneg
    clear hneg
    go_enter Tryd.func52, Tryd.ntmps52
    go_wp2_with fail
    rw [← hW]
    rw [← hW] at e0 e1
    refine HT.out.mono ?_
    rintro e w1 ⟨t, rfl, ht, hb1⟩
    have HB := below_any (s := s) (hx.below hb1) hK
    rw [decide_eq_false (show ¬ zOf s m < 0 by have := HN.out; omega)] at HB
    replace HB := Lib.hid HB
    have f0 := (hp.next hb1).c0
    have f1 := (hp.next hb1).c1
    have H2 := Lib.hid ht
    clear e0 e1 HT hW ht hlen
    go_wp2_with fail
    refine HB.out.mono ?_
    rintro e w2 ⟨rfl, hb2⟩
    go_wp2_with fail
    go_ret
    exact ⟨_, rfl, H2.out, bnext (bnext hb hb1) hb2⟩
end Go.Proofs.YtabdnlhehickoaaDoor
