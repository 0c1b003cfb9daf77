/-
  The law WriteShows: its walk. No condition.
-/
import Derived.Test.YtgfamihldecmbaaDoorOx
import Derived.Test.YtgfamihldecmbaaDoorWriteApart
namespace Go.Proofs.YtgfamihldecmbaaDoor
open Go.RowKit

/-- No string, and plain symbols alone. -/
def pS (k : Int) (_ : List Nat) (s : ByteArray) : Prop := k ≠ 4 ∧ (k = 3 → plainB s = true)
theorem keepsS : Keeps pS where
  num := fun _ _ _ _ => ⟨by decide, fun h => absurd h (by decide)⟩
  bool := ⟨by decide, fun h => absurd h (by decide)⟩
  text := fun _ _ _ _ h => h
  list := ⟨by decide, fun h => absurd h (by decide)⟩
  other := fun _ _ _ _ _ _ h3 h4 _ => ⟨h4, fun h => absurd h h3⟩
mutual
theorem shows_same : ∀ d : DT, AllD pS d → wD nameS quoS d = wD id id d
  | .mk k g ys bb s items tail, h => by
    simp only [AllD] at h
    have h1 := showsR_same items h.2.1
    have h2 := showsT_same tail h.2.2
    have h3 := h.1.1
    have h4 := h.1.2
    simp only [wD, h1, h2]
    by_cases q3 : k = 3
    · have : nameS s = s := by unfold nameS; rw [if_pos (h4 q3)]
      simp only [this, id]
      simp only [q3]
      rfl
    · simp only [if_neg q3, if_neg h3]
theorem showsR_same : ∀ l : List DT, AllDR pS l → wR nameS quoS l = wR id id l
  | [], _ => by simp only [wR]
  | t :: l, h => by
    simp only [AllDR] at h
    simp only [wR, shows_same t h.1, showsQ_same l h.2]
theorem showsQ_same : ∀ l : List DT, AllDR pS l → wQ nameS quoS l = wQ id id l
  | [], _ => by simp only [wQ]
  | t :: l, h => by
    simp only [AllDR] at h
    simp only [wQ, shows_same t h.1, showsQ_same l h.2]
theorem showsT_same : ∀ l : List DT, AllDR pS l → wTl nameS quoS l = wTl id id l
  | [], _ => by simp only [wTl]
  | t :: l, h => by
    simp only [AllDR] at h
    simp only [wTl, shows_same t h.1]
end
/-- What the law asks of each datum. -/
def showB (x : LT) : Bool := !(decide (x.k = 4)) && (!(decide (x.k = 3)) || plainB x.s)
theorem showB_p {x : LT} (h : showB x = true) : pS x.k x.ys x.s := by
  unfold showB at h
  simp only [Bool.and_eq_true, Bool.not_eq_true', decide_eq_false_iff_not, Bool.or_eq_true] at h
  exact ⟨h.1, fun h3 => h.2.resolve_left (fun h2 => h2 h3)⟩

set_option maxRecDepth 100000 in
set_option maxHeartbeats 12800000 in
theorem writeShows_in (t : LT) (w : World) (ht : Tab w) (hH : Held w w.heap.size t) (hl : lightB t = true) :
    Calls Tryd.prog 8 #[.agg #[.int .i64 t.k, .bool t.g, .slice t.la t.ln t.lc, .bool t.bb, .string t.s, .slice t.ia t.items.length t.ic, .slice t.ta t.tail.length t.tc]] w fun e w' => e = .returned (.bool true) ∧ Below w.heap.size w w' := by
  obtain ⟨hs1, hs2, hT, hA, hall⟩ := light_says t hH hl
  have HLt := Lib.hid (fun W (hb : Below w.heap.size w W) => (hl ▸ light_any w.heap.size t W hb.size (hH.up hb) : Calls Tryd.prog 10 #[.agg #[.int .i64 t.k, .bool t.g, .slice t.la t.ln t.lc, .bool t.bb, .string t.s, .slice t.ia t.items.length t.ic, .slice t.ta t.tail.length t.tc]] W fun e w' => e = .returned (.bool true) ∧ Below W.heap.size W w'))
  have HAl := Lib.hid (fun W (hb : Below w.heap.size w W) => all_ok w.heap.size t.size t (Nat.le_refl _) (by omega) W hb.size (hH.up hb))
  have HWr := Lib.hid (fun W (hb : Below w.heap.size w W) => write_tree w.heap.size t (by omega) (by omega) hT hA W (ht.below hb) hb.size (hH.up hb))
  have HDi := Lib.hid (fun W (hb : Below w.heap.size w W) => display_tree w.heap.size t (by omega) (by omega) hT hA W (ht.below hb) hb.size (hH.up hb))
  have HLv := Lib.hid (fun W (hb : Below w.heap.size w W) => lives4_yes W (ht.below hb))
  have HPl := Lib.hid (fun W (hb : Below w.heap.size w W) (s : ByteArray) (hs : s.size ≤ 1100) => plain_any s W (ht.below hb) (by omega))
  have HLN := Lib.hid (show (allT t).length ≤ 400 by rw [allT_length]; omega)
  have HSH := Lib.hid (fun (h : (allT t).all showB = true) => shows_same (normT t) (allD_norm keepsS t (allL_held t hH fun x hx _ _ => showB_p (List.all_eq_true.1 h x hx))))
  have HAL := Lib.hid hall
  clear ht hH hl hs1 hs2 hT hA hall
  have hb : Below w.heap.size w (w.alloc (Obj.cells #[.int .i64 t.k, .bool t.g, .slice t.la t.ln t.lc, .bool t.bb, .string t.s, .slice t.ia t.items.length t.ic, .slice t.ta t.tail.length t.tc] 27)) := (Below.refl _ w).alloc (Nat.le_refl _) _
  have D := VarD.new w t
  obtain ⟨c0, c1, c2, c3, c4, c5, c6⟩ := D.c
  go_enter Tryd.func8, Tryd.ntmps8
  go_wp2_with fail
  clear c0 c1 c2 c3 c4 c5 c6
  refine (HLt.out _ hb).mono ?_
  rintro e w1 ⟨rfl, b1⟩
  replace D := D.next b1
  replace hb := bnext hb b1
  clear b1
  obtain ⟨c0, c1, c2, c3, c4, c5, c6⟩ := D.c
  go_wp2_with fail
  clear c0 c1 c2 c3 c4 c5 c6
  refine (HAl.out _ hb).mono ?_
  rintro e w3 ⟨V, rfl, hown, b3⟩
  replace D := D.next b3
  have hb3 := bnext hb b3
  have hbz := hb.size
  obtain ⟨g2, cc, rfl, hg2⟩ := own_open7 hown (by rw [allT_eq]; simp)
  have HO := Lib.hid hown
  have hn401 := HLN.out
  obtain ⟨l, hl⟩ : ∃ l, allT t = l := ⟨_, rfl⟩
  rw [hl] at HO hn401 HSH HAL ⊢
  have HB3 := Lib.hid (And.intro hb3 D)
  clear hown b3 hb D HLN hl hb3
  go_wp2_with fail
  go_loopw [12] (fun i wr => ∃ k : Nat, k ≤ l.length ∧ i = .int .i64 k ∧ Hid ((l.take k).all showB = true) ∧ Below w3.heap.size w3 wr) (fun i _ => l.length - (intOf i).toNat)
  case atStart => exact ⟨0, Nat.zero_le _, rfl, Lib.hid (by simp), Below.refl _ _⟩
  case round =>
    obtain ⟨k, hk, rfl, HK, hbs⟩ := hrel
    by_cases hlk : k < l.length
    · have hcell := (own_below7 HO.out hbs).cells rfl
      have hat := cellsAll_at l k hlk
      have hxl := HAL.out l[k] (List.getElem_mem _)
      obtain ⟨x, hx⟩ : ∃ x, l[k] = x := ⟨_, rfl⟩
      rw [hx] at hat hxl
      have hc : ∀ j v, j < 7 → x.cells[j]? = some v → wr.cell? ⟨g2, k * 7 + j, none⟩ = some v := by
        intro j v hj hv
        have h1 := hcell (k * 7 + j) v (by rw [hat j hj, hv])
        rwa [cell_add, Nat.zero_add] at h1
      have d0 : wr.cell? ⟨g2, k * 7, none⟩ = some (.int .i64 x.k) := hc 0 _ (by decide) rfl
      have d1 : wr.cell? ⟨g2, k * 7 + 1, none⟩ = some (.bool x.g) := hc 1 _ (by decide) rfl
      have d2 : wr.cell? ⟨g2, k * 7 + 2, none⟩ = some (.slice x.la x.ln x.lc) := hc 2 _ (by decide) rfl
      have d3 : wr.cell? ⟨g2, k * 7 + 3, none⟩ = some (.bool x.bb) := hc 3 _ (by decide) rfl
      have d4 : wr.cell? ⟨g2, k * 7 + 4, none⟩ = some (.string x.s) := hc 4 _ (by decide) rfl
      have d5 : wr.cell? ⟨g2, k * 7 + 5, none⟩ = some (.slice x.ia x.items.length x.ic) := hc 5 _ (by decide) rfl
      have d6 : wr.cell? ⟨g2, k * 7 + 6, none⟩ = some (.slice x.ta x.tail.length x.tc) := hc 6 _ (by decide) rfl
      have hba := (Below.refl wr.heap.size wr).alloc (Nat.le_refl _) (Obj.cells #[.int .i64 x.k, .bool x.g, .slice x.la x.ln x.lc, .bool x.bb, .string x.s, .slice x.ia x.items.length x.ic, .slice x.ta x.tail.length x.tc] 27)
      have hbn0 := hbs.trans (hba.mono hbs.size)
      have hbn := Lib.hid (And.intro hbn0 (bnext HB3.out.1 hbn0))
      have HX := Lib.hid hx
      clear hcell hat hc hx hbs hba hbn0
      by_cases h4 : x.k = 4
      · have q4 : (x.k == 4) = true := beq_iff_eq.2 h4
        clear h4
        have HL := Lib.hid (HLv.out _ hbn.out.2)
        go_wp2_with fail
        refine HL.out.mono ?_
        rintro e w5 ⟨rfl, b5⟩
        go_wp2_with fail
        go_ret
        exact ⟨rfl, bnext hbn.out.2 b5⟩
      · by_cases h3 : x.k = 3
        · have q4 : (x.k == 4) = false := beq_eq_false_iff_ne.2 h4
          have q3 : (x.k == 3) = true := beq_iff_eq.2 h3
          have HP := Lib.hid (HPl.out _ hbn.out.2 x.s hxl.2)
          cases hpl : plainB x.s with
          | true =>
            rw [hpl] at HP
            have HN := Lib.hid (show (l.take (k + 1)).all showB = true by
              rw [List.take_add_one, List.getElem?_eq_getElem hlk, HX.out, List.all_append, HK.out]
              simp [showB, h3, hpl])
            clear h4 h3 hpl
            go_wp2_with fail
            refine HP.out.mono ?_
            rintro e w5 ⟨rfl, rfl⟩
            go_wp2_with fail
            go_roundw
            case rel => exact ⟨k + 1, by omega, by go_num, HN, hbn.out.1⟩
            case measure => simp [intOf]; omega
          | false =>
            rw [hpl] at HP
            have HL := Lib.hid (HLv.out _ hbn.out.2)
            clear h4 h3 hpl
            go_wp2_with fail
            refine HP.out.mono ?_
            rintro e w5 ⟨rfl, rfl⟩
            go_wp2_with fail
            refine HL.out.mono ?_
            rintro e w6 ⟨rfl, b6⟩
            go_wp2_with fail
            go_ret
            exact ⟨rfl, bnext hbn.out.2 b6⟩
        · have q4 : (x.k == 4) = false := beq_eq_false_iff_ne.2 h4
          have q3 : (x.k == 3) = false := beq_eq_false_iff_ne.2 h3
          have HN := Lib.hid (show (l.take (k + 1)).all showB = true by
            rw [List.take_add_one, List.getElem?_eq_getElem hlk, HX.out, List.all_append, HK.out]
            simp [showB, h3, h4])
          go_wp2_with fail
          go_roundw
          case rel => exact ⟨k + 1, by omega, by go_num, HN, hbn.out.1⟩
          case measure => simp [intOf]; omega
    · obtain rfl : k = l.length := by omega
      have hsame := HSH.out (by have := HK.out; rwa [List.take_length] at this)
      replace HWr := Lib.hid (fun W (hb : Below w.heap.size w W) => (by have h := HWr.out W hb; rw [hsame] at h; exact h : Calls Tryd.prog 12 #[.agg #[.int .i64 t.k, .bool t.g, .slice t.la t.ln t.lc, .bool t.bb, .string t.s, .slice t.ia t.items.length t.ic, .slice t.ta t.tail.length t.tc]] W fun e w' => e = .returned (.string ⟨(wD id id (normT t)).toArray⟩) ∧ Below W.heap.size W w'))
      clear hsame HSH
      generalize (⟨(wD id id (normT t)).toArray⟩ : ByteArray) = out at *
      have heq : (out.toList == out.toList) = true := beq_self_eq_true _
      have hb := bnext HB3.out.1 hbs
      have D := (HB3.out.2.next hbs).drew
      replace hb := hb.drew
      obtain ⟨c0, c1, c2, c3, c4, c5, c6⟩ := D.c
      clear hbs
      go_wp2_with fail
      go_region_held3 (fun w' => w'.cell? ⟨w.heap.size, 0, none⟩ = some (.int .i64 t.k) ∧ w'.cell? ⟨w.heap.size, 1, none⟩ = some (.bool t.g) ∧ w'.cell? ⟨w.heap.size, 2, none⟩ = some (.slice t.la t.ln t.lc) ∧ w'.cell? ⟨w.heap.size, 3, none⟩ = some (.bool t.bb) ∧ w'.cell? ⟨w.heap.size, 4, none⟩ = some (.string t.s) ∧ w'.cell? ⟨w.heap.size, 5, none⟩ = some (.slice t.ia t.items.length t.ic) ∧ w'.cell? ⟨w.heap.size, 6, none⟩ = some (.slice t.ta t.tail.length t.tc))
        (with_reducible exact D.c)
        (first
        | (go_at_call 12; refine (HWr.out _ hb).mono ?_; rintro e w5 ⟨rfl, b5⟩; replace hb := bnext hb b5; replace D := D.next b5)
        | (go_at_call 14; refine (HDi.out _ hb).mono ?_; rintro e w6 ⟨rfl, b6⟩; replace hb := bnext hb b6; replace D := D.next b6)
        | (go_at_call 11; refine (HLv.out _ hb).mono ?_; rintro e w7 ⟨rfl, b7⟩; replace hb := bnext hb b7; replace D := D.next b7))
      go_wp2_with fail
      go_ret
      exact ⟨rfl, hb⟩

set_option maxRecDepth 100000 in
set_option maxHeartbeats 3200000 in
theorem writeShows_walk (t : LT) (w : World) (hH : Held w w.heap.size t) (ht : Tab w) :
    Calls Tryd.prog 8 #[.agg #[.int .i64 t.k, .bool t.g, .slice t.la t.ln t.lc, .bool t.bb, .string t.s, .slice t.ia t.items.length t.ic, .slice t.ta t.tail.length t.tc]] w fun e w' => e = .returned (.bool true) ∧ Below w.heap.size w w' := by
  cases hl : lightB t with
  | true => exact writeShows_in t w ht hH hl
  | false =>
    have HLt := Lib.hid (fun W (hb : Below w.heap.size w W) => (hl ▸ light_any w.heap.size t W hb.size (hH.up hb) : Calls Tryd.prog 10 #[.agg #[.int .i64 t.k, .bool t.g, .slice t.la t.ln t.lc, .bool t.bb, .string t.s, .slice t.ia t.items.length t.ic, .slice t.ta t.tail.length t.tc]] W fun e w' => e = .returned (.bool false) ∧ Below W.heap.size W w'))
    have HLv := Lib.hid (fun W (hb : Below w.heap.size w W) => lives4_yes W (ht.below hb))
    clear ht hH hl
    have hb : Below w.heap.size w (w.alloc (Obj.cells #[.int .i64 t.k, .bool t.g, .slice t.la t.ln t.lc, .bool t.bb, .string t.s, .slice t.ia t.items.length t.ic, .slice t.ta t.tail.length t.tc] 27)) := (Below.refl _ w).alloc (Nat.le_refl _) _
    go_enter Tryd.func8, Tryd.ntmps8
    go_wp2_with fail
    refine (HLt.out _ hb).mono ?_
    rintro e w1 ⟨rfl, b1⟩
    replace hb := bnext hb b1
    clear b1
    go_wp2_with fail
    refine (HLv.out _ hb).mono ?_
    rintro e w2 ⟨rfl, b2⟩
    go_wp2_with fail
    go_ret
    exact ⟨rfl, bnext hb b2⟩
end Go.Proofs.YtgfamihldecmbaaDoor
