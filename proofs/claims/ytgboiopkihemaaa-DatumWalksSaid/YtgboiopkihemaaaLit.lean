/-
  light of pavanelaw03, of any tree.
-/
import Derived.Test.YtgboiopkihemaaaAll
namespace Go.Proofs.Ytgboiopkihemaaa
open Go.RowKit

def lightX (x : LT) : Bool := decide (x.ln ≤ 100)
def lightB (t : LT) : Bool := decide (0 ≤ budT t 400 60) && (allT t).all lightX
theorem cellsAll_at : ∀ (l : List LT) (k : Nat) (h : k < l.length) (j : Nat), j < 7 → (cellsAll l)[k * 7 + j]? = l[k].cells[j]?
  | t :: l, 0, h, j, hj => by
    simp only [cellsAll, Nat.zero_mul, Nat.zero_add, List.getElem_cons_zero]
    rw [List.getElem?_append_left (by rw [show t.cells.length = 7 from rfl]; exact hj)]
  | t :: l, k + 1, h, j, hj => by
    simp only [cellsAll, List.getElem_cons_succ]
    rw [List.getElem?_append_right (by rw [show t.cells.length = 7 from rfl]; omega), show t.cells.length = 7 from rfl, show (k + 1) * 7 + j - 7 = k * 7 + j by omega]
    exact cellsAll_at l k (by simpa using h) j hj

set_option maxRecDepth 100000 in
set_option maxHeartbeats 6400000 in
theorem light_any (M : Nat) (t : LT) (w : World) (hM : M ≤ w.heap.size) (hH : Held w M t) :
    Calls Try.prog 10 #[.agg #[.int .i64 t.k, .bool t.g, .slice t.la t.ln t.lc, .bool t.bb, .string t.s, .slice t.ia t.items.length t.ic, .slice t.ta t.tail.length t.tc]] w fun e w' => e = .returned (.bool (lightB t)) ∧ Below w.heap.size w w' := by
  have hba : Below w.heap.size w (w.alloc (Obj.cells #[.int .i64 t.k, .bool t.g, .slice t.la t.ln t.lc, .bool t.bb, .string t.s, .slice t.ia t.items.length t.ic, .slice t.ta t.tail.length t.tc] 27)) := (Below.refl _ w).alloc (Nat.le_refl _) _
  have hR := World.alloc_heap_new w (Obj.cells #[.int .i64 t.k, .bool t.g, .slice t.la t.ln t.lc, .bool t.bb, .string t.s, .slice t.ia t.items.length t.ic, .slice t.ta t.tail.length t.tc] 27)
  have hz : (w.alloc (Obj.cells #[.int .i64 t.k, .bool t.g, .slice t.la t.ln t.lc, .bool t.bb, .string t.s, .slice t.ia t.items.length t.ic, .slice t.ta t.tail.length t.tc] 27)).heap.size = w.heap.size + 1 := World.size_alloc _ _
  have hsm := small_any M t 400 60 (w.alloc (Obj.cells #[.int .i64 t.k, .bool t.g, .slice t.la t.ln t.lc, .bool t.bb, .string t.s, .slice t.ia t.items.length t.ic, .slice t.ta t.tail.length t.tc] 27)) (Nat.le_trans hM hba.size) (hH.keep hba.size (fun q hq => hba.block q (by omega))) (by decide) (by decide) (by decide) (by decide)
  unfold LT.val at hsm
  have HB := Lib.hid (And.intro hba (And.intro hR hz))
  have HH := Lib.hid hH
  clear hba hR hz hH
  by_cases hb : 0 ≤ budT t 400 60
  · have hd : decide (0 ≤ budT t 400 60) = true := decide_eq_true hb
    have HS := Lib.hid (budT_few t 400 60 (by decide) hb)
    rw [hd] at hsm
    have HSM := Lib.hid hsm
    have HL := Lib.hid (show lightB t = (allT t).all lightX by unfold lightB; rw [hd, Bool.true_and])
    clear hsm hd hb
    go_enter Try.func10, Try.ntmps10
    go_wp2_with fail
    refine HSM.out.mono ?_
    rintro e w1 ⟨rfl, b1⟩
    have hR1 := (b1.block w.heap.size (by rw [HB.out.2.2]; omega)).trans HB.out.2.1
    have hb1 := bnext HB.out.1 b1
    have hz1 := hb1.size
    have hcs := fun j => Lib.cell_of_heap hR1 j
    have c0 := hcs 0
    have c1 := hcs 1
    have c2 := hcs 2
    have c3 := hcs 3
    have c4 := hcs 4
    have c5 := hcs 5
    have c6 := hcs 6
    simp only [List.getElem?_toArray, List.getElem?_cons_zero, List.getElem?_cons_succ] at c0 c1 c2 c3 c4 c5 c6
    have HA := Lib.hid (all_ok M t.size t (Nat.le_refl _) (by have h1 := HS.out.1; have h2 := (budT_bd t 400 60 (by decide)).1; omega) w1 (Nat.le_trans hM hz1) (HH.out.keep hz1 (fun q hq => hb1.block q (by omega))))
    have HLN := Lib.hid (show (allT t).length ≤ 401 by rw [allT_length]; have h1 := HS.out.1; have h2 := (budT_bd t 400 60 (by decide)).1; omega)
    have HB1 := Lib.hid hb1
    clear hcs hR1 b1 hb1 hz1
    go_wp2_with fail
    refine HA.out.mono ?_
    rintro e w3 ⟨V, rfl, hown, b3⟩
    have hb3 := bnext HB1.out b3
    obtain ⟨g2, cc, rfl, hg2⟩ := own_open7 hown (by rw [allT_eq]; simp)
    have HO := Lib.hid hown
    clear hown b3 c0 c1 c2 c3 c4 c5 c6
    have hn401 := HLN.out
    obtain ⟨l, hl⟩ : ∃ l, allT t = l := ⟨_, rfl⟩
    rw [hl] at HO HL hn401 ⊢
    have HB3 := Lib.hid hb3
    clear hb3 HLN
    go_wp2_with fail
    go_loopw [11] (fun i wr => ∃ k : Nat, k ≤ l.length ∧ i = .int .i64 k ∧ Hid ((l.take k).all lightX = true) ∧ Below w3.heap.size w3 wr) (fun i _ => l.length - (intOf i).toNat)
    case atStart => exact ⟨0, Nat.zero_le _, rfl, Lib.hid (by simp), Below.refl _ _⟩
    case round =>
      obtain ⟨k, hk, rfl, HK, hbs⟩ := hrel
      by_cases hlk : k < l.length
      · have hcell := (own_below7 HO.out hbs).cells rfl
        have hat := cellsAll_at l k hlk
        obtain ⟨x, hx⟩ : ∃ x, l[k] = x := ⟨_, rfl⟩
        rw [hx] at hat
        have hc : ∀ j v, j < 7 → x.cells[j]? = some v → wr.cell? ⟨g2, k * 7 + j, none⟩ = some v := by
          intro j v hj hv
          have h1 := hcell (k * 7 + j) v (by rw [hat j hj, hv])
          rwa [cell_add, Nat.zero_add] at h1
        have d0 : wr.cell? ⟨g2, k * 7, none⟩ = some (.int .i64 x.k) := hc 0 _ (by decide) rfl
        have d1 : wr.cell? ⟨g2, k * 7 + 1, none⟩ = some (.bool x.g) := hc 1 _ (by decide) rfl
        have d2 : wr.cell? ⟨g2, k * 7 + 2, none⟩ = some (.slice x.la x.ln x.lc) := hc 2 _ (by decide) rfl
        have d3 : wr.cell? ⟨g2, k * 7 + 3, none⟩ = some (.bool x.bb) := hc 3 _ (by decide) rfl
        have d4 : wr.cell? ⟨g2, k * 7 + 4, none⟩ = some (.string x.s) := hc 4 _ (by decide) rfl
        have d5 : wr.cell? ⟨g2, k * 7 + 5, none⟩ = some (.slice x.ia x.items.length x.ic) := hc 5 _ (by decide) rfl
        have d6 : wr.cell? ⟨g2, k * 7 + 6, none⟩ = some (.slice x.ta x.tail.length x.tc) := hc 6 _ (by decide) rfl
        have hbn := Lib.hid (hbs.trans (((Below.refl wr.heap.size wr).alloc (Nat.le_refl _) (Obj.cells #[.int .i64 x.k, .bool x.g, .slice x.la x.ln x.lc, .bool x.bb, .string x.s, .slice x.ia x.items.length x.ic, .slice x.ta x.tail.length x.tc] 27)).mono hbs.size))
        have HX := Lib.hid hx
        clear hcell hat hc hx hbs
        by_cases h1 : x.ln ≤ 100
        · have q1 : decide (100 < (x.ln : Int)) = false := by simp; omega
          have HN := Lib.hid (show (l.take (k + 1)).all lightX = true by
            rw [List.take_add_one, List.getElem?_eq_getElem hlk, HX.out, List.all_append, HK.out]
            simp [lightX, h1])
          go_wp2_with fail
          go_roundw
          case rel => exact ⟨k + 1, by omega, by go_num, HN, hbn.out⟩
          case measure => simp [intOf]; omega
        · have q1 : decide (100 < (x.ln : Int)) = true := by simp; omega
          have HN := Lib.hid (show l.all lightX = false by
            rw [List.all_eq_false]
            exact ⟨x, by rw [← HX.out]; exact List.getElem_mem _, by simp [lightX, h1]⟩)
          go_wp2_with fail
          go_ret
          exact ⟨by rw [HL.out, HN.out]; rfl, HB3.out.trans (hbn.out.mono HB3.out.size)⟩
      · obtain rfl : k = l.length := by omega
        have HN := Lib.hid (show l.all lightX = true by have := HK.out; rwa [List.take_length] at this)
        go_wp2_with fail
        go_ret
        exact ⟨by rw [HL.out, HN.out]; rfl, HB3.out.trans (hbs.mono HB3.out.size)⟩
  · have hd : decide (0 ≤ budT t 400 60) = false := decide_eq_false hb
    have HL := Lib.hid (show lightB t = false by unfold lightB; rw [hd, Bool.false_and])
    rw [hd] at hsm
    have HSM := Lib.hid hsm
    clear hsm hd hb
    go_enter Try.func10, Try.ntmps10
    go_wp2_with fail
    refine HSM.out.mono ?_
    rintro e w1 ⟨rfl, b1⟩
    have hb1 := bnext HB.out.1 b1
    go_wp2_with fail
    go_ret
    exact ⟨by rw [HL.out]; rfl, hb1⟩
end Go.Proofs.Ytgboiopkihemaaa
