/-
  The document's budget of an expression; Small, Few; the law's short and light. Ranges over an iterator of expressions: its stack is what it may turn; a round may turn all else from the loop's begin on. core.told: its iterator tells an expression and all that is in it, in the order of the tree. core.told's iterator, walked.
-/
import Derived.Test.YthdhdmmlmbkalaaGreatDoorJr1
import Derived.RangeFuncRecord
import Derived.Test.YthdhdmmlmbkalaaGreatDoorJr2
import Derived.WalkKit
import Derived.OwnWalkIn
import Derived.TacticsInMore
import Derived.LoopNIn
import Derived.LoopIn
import Derived.Laws.OwnMore
import Derived.Deep.LoopGhost
import Derived.Shelf.RegionOpen
set_option linter.unusedVariables false
set_option linter.unusedSimpArgs false
set_option linter.unusedSectionVars false
set_option linter.unnecessarySimpa false
namespace Go.Proofs.YthdhdmmlmbkalaaGreatDoor
section
open Go.RowKit

mutual
def budE : ET → Int → Int → Int
  | .mk _ _ _ _ _ _ _ _ _ _ kids, left, deep => if left - 1 < 0 ∨ deep ≤ 0 then -1 else budER kids (left - 1) (deep - 1)
def budER : List ET → Int → Int → Int
  | [], left, _ => left
  | e :: l, left, deep => if budE e left deep < 0 then -1 else budER l (budE e left deep) deep
end
theorem budE_eq (e : ET) (left deep : Int) : budE e left deep = if left - 1 < 0 ∨ deep ≤ 0 then -1 else budER e.kids (left - 1) (deep - 1) := by cases e; simp [budE, ET.kids]
theorem budER_cons (e : ET) (l : List ET) (left deep : Int) : budER (e :: l) left deep = if budE e left deep < 0 then -1 else budER l (budE e left deep) deep := by simp [budER]
theorem budER_nil (left deep : Int) : budER [] left deep = left := by simp [budER]
mutual
theorem budE_bd : ∀ (e : ET) (left deep : Int), 0 ≤ left → -1 ≤ budE e left deep ∧ budE e left deep ≤ left
  | .mk k d v va vc vs rs p ka kc kids, left, deep, h => by
    rw [budE_eq]
    by_cases hx : left - 1 < 0 ∨ deep ≤ 0
    · rw [if_pos hx]; omega
    · rw [if_neg hx]
      have h1 := budER_bd kids (left - 1) (deep - 1) (by omega)
      simp only [ET.kids]
      omega
theorem budER_bd : ∀ (l : List ET) (left deep : Int), 0 ≤ left → -1 ≤ budER l left deep ∧ budER l left deep ≤ left
  | [], left, deep, h => by rw [budER_nil]; omega
  | e :: l, left, deep, h => by
    have h1 := budE_bd e left deep h
    rw [budER_cons]
    by_cases hx : budE e left deep < 0
    · rw [if_pos hx]; omega
    · rw [if_neg hx]
      have h2 := budER_bd l (budE e left deep) deep (by omega)
      omega
end
mutual
/-- What the count tells: what is left is what was there less the size; and no deeper. -/
theorem budE_few : ∀ (e : ET) (left deep : Int), 0 ≤ budE e left deep → budE e left deep = left - e.size ∧ (e.depth : Int) ≤ deep
  | .mk k d v va vc vs rs p ka kc kids, left, deep, h => by
    rw [budE_eq] at h ⊢
    by_cases hx : left - 1 < 0 ∨ deep ≤ 0
    · rw [if_pos hx] at h; omega
    · rw [if_neg hx] at h ⊢
      have h1 := budER_few kids (left - 1) (deep - 1) h (by omega)
      simp only [ET.kids, ET.size, ET.depth] at h1 ⊢
      omega
theorem budER_few : ∀ (l : List ET) (left deep : Int), 0 ≤ budER l left deep → 0 ≤ deep → budER l left deep = left - sizesE l ∧ (depthsE l : Int) ≤ deep
  | [], left, deep, h, hd => by rw [budER_nil] at h ⊢; simp [sizesE, depthsE]; omega
  | e :: l, left, deep, h, hd => by
    rw [budER_cons] at h ⊢
    by_cases hx : budE e left deep < 0
    · rw [if_pos hx] at h; omega
    · rw [if_neg hx] at h ⊢
      have h1 := budE_few e left deep (by omega)
      have h2 := budER_few l (budE e left deep) deep h hd
      simp only [sizesE, depthsE]
      omega
end
mutual
def shortE : ET → Bool
  | .mk _ d _ _ _ vs _ _ _ _ kids => decide (vs.length ≤ 30) && decide (0 ≤ budT d 100 30) && shortER kids
def shortER : List ET → Bool
  | [] => true
  | e :: l => shortE e && shortER l
end
theorem shortE_eq (e : ET) : shortE e = (decide (e.vs.length ≤ 30) && decide (0 ≤ budT e.d 100 30) && shortER e.kids) := by cases e; rw [shortE]; rfl
theorem shortER_cons (e : ET) (l : List ET) : shortER (e :: l) = (shortE e && shortER l) := by simp [shortER]
theorem shortER_nil : shortER [] = true := by simp [shortER]
section
set_option maxRecDepth 100000 in
set_option maxHeartbeats 6400000 in
theorem budgetE_ok (M : Nat) : ∀ (N : Nat) (t : ET), t.size ≤ N → ∀ (left deep : Int) (w : World), M ≤ w.heap.size → HeldE w M t → 0 ≤ left → left ≤ 1000000 → 0 ≤ deep → deep ≤ 1000000 →
    Calls Tryz.prog 32 #[.agg #[.int .i64 t.k, .int .i64 t.d.k, .bool t.d.g, .slice t.d.la t.d.ln t.d.lc, .bool t.d.bb, .string t.d.s, .slice t.d.ia t.d.items.length t.d.ic, .slice t.d.ta t.d.tail.length t.d.tc, .int .i64 t.v, .slice t.va t.vs.length t.vc, .bool t.rs, .int .i64 t.p, .slice t.ka t.kids.length t.kc], .int .i64 left, .int .i64 deep] w fun e w' => e = .returned (.int .i64 (budE t left deep)) ∧ Below w.heap.size w w' := by
  intro N
  induction N with
  | zero => intro t ht; rw [t.size_eq] at ht; omega
  | succ N ih =>
    intro t ht left deep w hM hH hl0 hl1 hd0 hd1
    have IH := Lib.hid ih
    clear ih
    have hb0 : ∀ O, Below w.heap.size w (w.alloc O) := fun O => (Below.refl _ w).alloc (Nat.le_refl _) _
    by_cases hx : left - 1 < 0
    · have HR := Lib.hid (show budE t left deep = -1 by rw [budE_eq, if_pos (.inl hx)])
      go_enter Tryz.func32, Tryz.ntmps32
      go_wp2_with fail
      go_ret
      exact ⟨by rw [HR.out]; rfl, hb0 _⟩
    by_cases hy : deep ≤ 0
    · have HR := Lib.hid (show budE t left deep = -1 by rw [budE_eq, if_pos (.inr hy)])
      go_enter Tryz.func32, Tryz.ntmps32
      go_wp2_with fail
      go_ret
      exact ⟨by rw [HR.out]; rfl, hb0 _⟩
    have HT := Lib.hid (show budE t left deep = budER t.kids (left - 1) (deep - 1) by rw [budE_eq, if_neg (by omega)])
    have HSZ := Lib.hid (show sizesE t.kids ≤ N by rw [t.size_eq] at ht; omega)
    have hsp := hH.2.1
    have HLI := Lib.hid hH.2.2
    clear hH ht
    go_enter Tryz.func32, Tryz.ntmps32
    go_wp2_with fail
    generalize t.kids = l at *
    obtain ⟨ka, hka⟩ : ∃ a, t.ka = a := ⟨_, rfl⟩
    rw [hka] at hsp HLI
    rw [hka]
    clear hka
    have hsz := hsp.2.1
    have hsc := hsp.1
    unfold maxLen at hsz
    go_loopw [1, 20] (fun lf i wr => ∃ (k : Nat) (L' : Int), k ≤ l.length ∧ i = .int .i64 k ∧ lf = .int .i64 L' ∧ 0 ≤ L' ∧ L' ≤ left ∧ Hid (budE t left deep = budER (l.drop k) L' (deep - 1)) ∧ Below w.heap.size w wr) (fun _ i _ => l.length - (intOf i).toNat)
    case atStart => exact ⟨0, left - 1, Nat.zero_le _, rfl, rfl, by omega, by omega, Lib.hid (by rw [HT.out, List.drop_zero]), hb0 _⟩
    case round =>
      obtain ⟨k, L', hk, rfl, rfl, hm0, hm1, HK, hbs⟩ := hrel
      clear hb0
      by_cases hlk : k < l.length
      · obtain ⟨gb, go, hae, hR⟩ : ∃ gb go, ka = some ⟨gb, go, none⟩ ∧ LiesER w M l gb go := ⟨_, _, (hsp.2.2.1 (by omega)).1, HLI.out⟩
        have hli := ((liesER_iff _ _ _).1 hR k hlk).keep hbs.size (fun q hq => hbs.block q (by omega))
        obtain ⟨hgbM, hcell, hheld⟩ := liesE_held.1 hli
        have hsz1 := sizesE_mem hlk
        have hdr := List.drop_eq_getElem_cons hlk
        clear hsp
        subst hae
        obtain ⟨u, hu⟩ : ∃ u, l[k] = u := ⟨_, rfl⟩
        rw [hu] at hcell hheld hsz1 hdr
        rw [Nat.mul_comm 13 k] at hcell
        have d0 : wr.cell? ⟨gb, go + k * 13, none⟩ = some (.int .i64 u.k) := hcell 0 _ rfl
        have d1 : wr.cell? ⟨gb, go + k * 13 + 1, none⟩ = some (.int .i64 u.d.k) := hcell 1 _ rfl
        have d2 : wr.cell? ⟨gb, go + k * 13 + 2, none⟩ = some (.bool u.d.g) := hcell 2 _ rfl
        have d3 : wr.cell? ⟨gb, go + k * 13 + 3, none⟩ = some (.slice u.d.la u.d.ln u.d.lc) := hcell 3 _ rfl
        have d4 : wr.cell? ⟨gb, go + k * 13 + 4, none⟩ = some (.bool u.d.bb) := hcell 4 _ rfl
        have d5 : wr.cell? ⟨gb, go + k * 13 + 5, none⟩ = some (.string u.d.s) := hcell 5 _ rfl
        have d6 : wr.cell? ⟨gb, go + k * 13 + 6, none⟩ = some (.slice u.d.ia u.d.items.length u.d.ic) := hcell 6 _ rfl
        have d7 : wr.cell? ⟨gb, go + k * 13 + 7, none⟩ = some (.slice u.d.ta u.d.tail.length u.d.tc) := hcell 7 _ rfl
        have d8 : wr.cell? ⟨gb, go + k * 13 + 8, none⟩ = some (.int .i64 u.v) := hcell 8 _ rfl
        have d9 : wr.cell? ⟨gb, go + k * 13 + 9, none⟩ = some (.slice u.va u.vs.length u.vc) := hcell 9 _ rfl
        have d10 : wr.cell? ⟨gb, go + k * 13 + 10, none⟩ = some (.bool u.rs) := hcell 10 _ rfl
        have d11 : wr.cell? ⟨gb, go + k * 13 + 11, none⟩ = some (.int .i64 u.p) := hcell 11 _ rfl
        have d12 : wr.cell? ⟨gb, go + k * 13 + 12, none⟩ = some (.slice u.ka u.kids.length u.kc) := hcell 12 _ rfl
        have hba : Below wr.heap.size wr (wr.alloc (Obj.cells #[.int .i64 u.k, .int .i64 u.d.k, .bool u.d.g, .slice u.d.la u.d.ln u.d.lc, .bool u.d.bb, .string u.d.s, .slice u.d.ia u.d.items.length u.d.ic, .slice u.d.ta u.d.tail.length u.d.tc, .int .i64 u.v, .slice u.va u.vs.length u.vc, .bool u.rs, .int .i64 u.p, .slice u.ka u.kids.length u.kc] 31)) := (Below.refl _ _).alloc (Nat.le_refl _) _
        have hMs : M ≤ wr.heap.size := Nat.le_trans hM hbs.size
        have HC := Lib.hid (IH.out u (Nat.le_trans hsz1 HSZ.out) L' (deep - 1) (wr.alloc (Obj.cells #[.int .i64 u.k, .int .i64 u.d.k, .bool u.d.g, .slice u.d.la u.d.ln u.d.lc, .bool u.d.bb, .string u.d.s, .slice u.d.ia u.d.items.length u.d.ic, .slice u.d.ta u.d.tail.length u.d.tc, .int .i64 u.v, .slice u.va u.vs.length u.vc, .bool u.rs, .int .i64 u.p, .slice u.ka u.kids.length u.kc] 31)) (Nat.le_trans hMs hba.size) (hheld.keep hba.size (fun q hq => hba.block q (by omega))) hm0 (by omega) (by omega) (by omega))
        have HBA := Lib.hid (bnext hbs hba)
        have hbd := budE_bd u L' (deep - 1) hm0
        have HK2 := Lib.hid (show budE t left deep = if budE u L' (deep - 1) < 0 then -1 else budER (l.drop (k + 1)) (budE u L' (deep - 1)) (deep - 1) by rw [HK.out, hdr, budER_cons])
        clear hli hcell hheld hsz1 hdr hba hR
        generalize budE u L' (deep - 1) = r at *
        go_wp2_with fail
        refine HC.out.mono ?_
        rintro e w6 ⟨rfl, b6⟩
        have hb6 := bnext HBA.out b6
        obtain ⟨hr0, hr1⟩ := hbd
        by_cases hr : r < 0
        · have HF := Lib.hid (show budE t left deep = -1 by rw [HK2.out, if_pos hr])
          go_wp2_with fail
          go_ret
          exact ⟨by rw [HF.out]; rfl, hb6⟩
        · have HG := Lib.hid (show budE t left deep = budER (l.drop (k + 1)) r (deep - 1) by rw [HK2.out, if_neg hr])
          go_wp2_with fail
          go_roundw
          case rel => exact ⟨k + 1, r, by omega, by go_num, rfl, by omega, by omega, HG, hb6⟩
          case measure => simp [intOf]; omega
      · obtain rfl : k = l.length := by omega
        have HE := Lib.hid (show budE t left deep = L' by rw [HK.out, List.drop_length, budER_nil])
        go_wp2_with fail
        go_ret
        exact ⟨by rw [HE.out]; rfl, hbs⟩
set_option maxRecDepth 100000 in
theorem smallE_any (M : Nat) (t : ET) (most : Int) (w : World) (hM : M ≤ w.heap.size) (hH : HeldE w M t) (hl0 : 0 ≤ most) (hl1 : most ≤ 1000000) :
    Calls Tryz.prog 16 #[.agg #[.int .i64 t.k, .int .i64 t.d.k, .bool t.d.g, .slice t.d.la t.d.ln t.d.lc, .bool t.d.bb, .string t.d.s, .slice t.d.ia t.d.items.length t.d.ic, .slice t.d.ta t.d.tail.length t.d.tc, .int .i64 t.v, .slice t.va t.vs.length t.vc, .bool t.rs, .int .i64 t.p, .slice t.ka t.kids.length t.kc], .int .i64 most] w fun e w' => e = .returned (.bool (decide (0 ≤ budE t most 300))) ∧ Below w.heap.size w w' := by
  have hb0 : Below w.heap.size w (w.alloc (Obj.cells #[.int .i64 t.k, .int .i64 t.d.k, .bool t.d.g, .slice t.d.la t.d.ln t.d.lc, .bool t.d.bb, .string t.d.s, .slice t.d.ia t.d.items.length t.d.ic, .slice t.d.ta t.d.tail.length t.d.tc, .int .i64 t.v, .slice t.va t.vs.length t.vc, .bool t.rs, .int .i64 t.p, .slice t.ka t.kids.length t.kc] 31)) := (Below.refl _ w).alloc (Nat.le_refl _) _
  have HC := Lib.hid (budgetE_ok M t.size t (Nat.le_refl _) most 300 (w.alloc (Obj.cells #[.int .i64 t.k, .int .i64 t.d.k, .bool t.d.g, .slice t.d.la t.d.ln t.d.lc, .bool t.d.bb, .string t.d.s, .slice t.d.ia t.d.items.length t.d.ic, .slice t.d.ta t.d.tail.length t.d.tc, .int .i64 t.v, .slice t.va t.vs.length t.vc, .bool t.rs, .int .i64 t.p, .slice t.ka t.kids.length t.kc] 31)) (Nat.le_trans hM hb0.size) (hH.below hM hb0) hl0 hl1 (by decide) (by decide))
  have HB := Lib.hid hb0
  clear hb0 hH
  generalize budE t most 300 = r at *
  go_enter Tryz.func16, Tryz.ntmps16
  go_wp2_with fail
  refine HC.out.mono ?_
  rintro e w6 ⟨rfl, b6⟩
  have hb6 := bnext HB.out b6
  go_wp2_with fail
  go_ret
  exact ⟨rfl, hb6⟩
theorem shortER_drop {l : List ET} {k : Nat} (h : k < l.length) : shortER (l.drop k) = (shortE l[k] && shortER (l.drop (k + 1))) := by rw [List.drop_eq_getElem_cons h, shortER_cons]
set_option maxRecDepth 100000 in
set_option maxHeartbeats 6400000 in
theorem shortE_any (M : Nat) : ∀ (N : Nat), N ≤ 1000000 → ∀ (t : ET), t.size ≤ N → ∀ (w : World), M ≤ w.heap.size → HeldE w M t →
    Calls Tryz.prog 17 #[.agg #[.int .i64 t.k, .int .i64 t.d.k, .bool t.d.g, .slice t.d.la t.d.ln t.d.lc, .bool t.d.bb, .string t.d.s, .slice t.d.ia t.d.items.length t.d.ic, .slice t.d.ta t.d.tail.length t.d.tc, .int .i64 t.v, .slice t.va t.vs.length t.vc, .bool t.rs, .int .i64 t.p, .slice t.ka t.kids.length t.kc]] w fun e w' => e = .returned (.bool (shortE t)) ∧ Below w.heap.size w w' := by
  intro N
  induction N with
  | zero => intro _ t ht; rw [t.size_eq] at ht; omega
  | succ N ih =>
    intro hN t ht w hM hH
    have IH := Lib.hid (ih (by omega))
    clear ih
    have hb0 : ∀ O, Below w.heap.size w (w.alloc O) := fun O => (Below.refl _ w).alloc (Nat.le_refl _) _
    have HSZ := Lib.hid (show sizesE t.kids ≤ N by rw [t.size_eq] at ht; omega)
    have hsp := hH.2.1
    have HLI := Lib.hid hH.2.2
    have HT := Lib.hid (shortE_eq t)
    have hvs := hH.1.2.1.1
    have hvc := hH.1.2.1.2.1
    unfold maxLen at hvc
    have hs := fun W (hb : Below w.heap.size w W) => small_any M t.d 100 30 W (Nat.le_trans hM hb.size) (hH.1.1.keep hb.size fun q hq => hb.block q (by omega)) (by decide) (by decide) (by decide) (by decide)
    unfold LT.val at hs
    have HS := Lib.hid hs
    clear hs ht hH
    by_cases hv : 30 < t.vs.length
    · have q1 : decide (30 < (t.vs.length : Int)) = true := decide_eq_true (by omega)
      have HE := Lib.hid (show shortE t = false by rw [HT.out, decide_eq_false (show ¬ t.vs.length ≤ 30 by omega)]; rfl)
      go_enter Tryz.func17, Tryz.ntmps17
      go_wp2_with fail
      go_ret
      exact ⟨by rw [HE.out]; rfl, hb0 _⟩
    have q1 : decide (30 < (t.vs.length : Int)) = false := decide_eq_false (by omega)
    have HT2 := Lib.hid (show shortE t = (decide (0 ≤ budT t.d 100 30) && shortER t.kids) by rw [HT.out, decide_eq_true (show t.vs.length ≤ 30 by omega)]; rfl)
    obtain ⟨sm, hsm⟩ : ∃ b, decide (0 ≤ budT t.d 100 30) = b := ⟨_, rfl⟩
    rw [hsm] at HS HT2
    obtain ⟨W0, hW0⟩ : ∃ W, w.alloc (Obj.cells #[.int .i64 t.k, .int .i64 t.d.k, .bool t.d.g, .slice t.d.la t.d.ln t.d.lc, .bool t.d.bb, .string t.d.s, .slice t.d.ia t.d.items.length t.d.ic, .slice t.d.ta t.d.tail.length t.d.tc, .int .i64 t.v, .slice t.va t.vs.length t.vc, .bool t.rs, .int .i64 t.p, .slice t.ka t.kids.length t.kc] 31) = W := ⟨_, rfl⟩
    have h0n : W0.heap[w.heap.size]? = some (Obj.cells #[.int .i64 t.k, .int .i64 t.d.k, .bool t.d.g, .slice t.d.la t.d.ln t.d.lc, .bool t.d.bb, .string t.d.s, .slice t.d.ia t.d.items.length t.d.ic, .slice t.d.ta t.d.tail.length t.d.tc, .int .i64 t.v, .slice t.va t.vs.length t.vc, .bool t.rs, .int .i64 t.p, .slice t.ka t.kids.length t.kc] 31) := hW0 ▸ World.alloc_heap_new _ _
    have h0s : W0.heap.size = w.heap.size + 1 := by rw [← hW0]; exact World.size_alloc ..
    have HB := Lib.hid (show Below w.heap.size w W0 from hW0 ▸ hb0 _)
    have HN := Lib.hid h0n
    have HW := Lib.hid hW0
    clear h0n hW0 hsm HT
    go_enter Tryz.func17, Tryz.ntmps17
    go_wp2_with fail
    rw [HW.out]
    refine (HS.out _ HB.out).mono ?_
    rintro e w1 ⟨rfl, b1⟩
    have h1n := (b1.block w.heap.size (by omega)).trans HN.out
    have hb1 := bnext HB.out b1
    have d12 : w1.cell? ⟨w.heap.size, 12, none⟩ = some (.slice t.ka t.kids.length t.kc) := by rw [Lib.cell_of_heap h1n]; rfl
    clear h1n b1
    cases sm
    · have HE := Lib.hid (show shortE t = false by rw [HT2.out]; rfl)
      go_wp2_with fail
      go_ret
      exact ⟨by rw [HE.out]; rfl, hb1⟩
    have HT3 := Lib.hid (show shortE t = shortER t.kids by rw [HT2.out]; rfl)
    clear HT2
    generalize t.kids = l at *
    obtain ⟨ka, hka⟩ : ∃ a, t.ka = a := ⟨_, rfl⟩
    rw [hka] at hsp HLI d12
    clear hka
    have hsz := hsp.2.1
    have hsc := hsp.1
    unfold maxLen at hsz
    go_wp2_with fail
    go_loopw [18] (fun i wr => ∃ (k : Nat), k ≤ l.length ∧ i = .int .i64 k ∧ Hid (shortE t = shortER (l.drop k)) ∧ Below w.heap.size w wr) (fun i _ => l.length - (intOf i).toNat)
    case atStart => exact ⟨0, Nat.zero_le _, rfl, Lib.hid (by rw [HT3.out, List.drop_zero]), hb1⟩
    case round =>
      obtain ⟨k, hk, rfl, HK, hbs⟩ := hrel
      clear hb1 hb0 d12
      by_cases hlk : k < l.length
      · obtain ⟨gb, go, hae, hR⟩ : ∃ gb go, ka = some ⟨gb, go, none⟩ ∧ LiesER w M l gb go := ⟨_, _, (hsp.2.2.1 (by omega)).1, HLI.out⟩
        have hli := ((liesER_iff _ _ _).1 hR k hlk).keep hbs.size (fun q hq => hbs.block q (by omega))
        obtain ⟨hgbM, hcell, hheld⟩ := liesE_held.1 hli
        have hsz1 := sizesE_mem hlk
        have hdr := shortER_drop hlk
        clear hsp
        subst hae
        obtain ⟨u, hu⟩ : ∃ u, l[k] = u := ⟨_, rfl⟩
        rw [hu] at hcell hheld hsz1 hdr
        rw [Nat.mul_comm 13 k] at hcell
        have d0 : wr.cell? ⟨gb, go + k * 13, none⟩ = some (.int .i64 u.k) := hcell 0 _ rfl
        have d1 : wr.cell? ⟨gb, go + k * 13 + 1, none⟩ = some (.int .i64 u.d.k) := hcell 1 _ rfl
        have d2 : wr.cell? ⟨gb, go + k * 13 + 2, none⟩ = some (.bool u.d.g) := hcell 2 _ rfl
        have d3 : wr.cell? ⟨gb, go + k * 13 + 3, none⟩ = some (.slice u.d.la u.d.ln u.d.lc) := hcell 3 _ rfl
        have d4 : wr.cell? ⟨gb, go + k * 13 + 4, none⟩ = some (.bool u.d.bb) := hcell 4 _ rfl
        have d5 : wr.cell? ⟨gb, go + k * 13 + 5, none⟩ = some (.string u.d.s) := hcell 5 _ rfl
        have d6 : wr.cell? ⟨gb, go + k * 13 + 6, none⟩ = some (.slice u.d.ia u.d.items.length u.d.ic) := hcell 6 _ rfl
        have d7 : wr.cell? ⟨gb, go + k * 13 + 7, none⟩ = some (.slice u.d.ta u.d.tail.length u.d.tc) := hcell 7 _ rfl
        have d8 : wr.cell? ⟨gb, go + k * 13 + 8, none⟩ = some (.int .i64 u.v) := hcell 8 _ rfl
        have d9 : wr.cell? ⟨gb, go + k * 13 + 9, none⟩ = some (.slice u.va u.vs.length u.vc) := hcell 9 _ rfl
        have d10 : wr.cell? ⟨gb, go + k * 13 + 10, none⟩ = some (.bool u.rs) := hcell 10 _ rfl
        have d11 : wr.cell? ⟨gb, go + k * 13 + 11, none⟩ = some (.int .i64 u.p) := hcell 11 _ rfl
        have d12 : wr.cell? ⟨gb, go + k * 13 + 12, none⟩ = some (.slice u.ka u.kids.length u.kc) := hcell 12 _ rfl
        have hba : Below wr.heap.size wr (wr.alloc (Obj.cells #[.int .i64 u.k, .int .i64 u.d.k, .bool u.d.g, .slice u.d.la u.d.ln u.d.lc, .bool u.d.bb, .string u.d.s, .slice u.d.ia u.d.items.length u.d.ic, .slice u.d.ta u.d.tail.length u.d.tc, .int .i64 u.v, .slice u.va u.vs.length u.vc, .bool u.rs, .int .i64 u.p, .slice u.ka u.kids.length u.kc] 31)) := (Below.refl _ _).alloc (Nat.le_refl _) _
        have hMs : M ≤ wr.heap.size := Nat.le_trans hM hbs.size
        have HC := Lib.hid (IH.out u (Nat.le_trans hsz1 HSZ.out) (wr.alloc (Obj.cells #[.int .i64 u.k, .int .i64 u.d.k, .bool u.d.g, .slice u.d.la u.d.ln u.d.lc, .bool u.d.bb, .string u.d.s, .slice u.d.ia u.d.items.length u.d.ic, .slice u.d.ta u.d.tail.length u.d.tc, .int .i64 u.v, .slice u.va u.vs.length u.vc, .bool u.rs, .int .i64 u.p, .slice u.ka u.kids.length u.kc] 31)) (Nat.le_trans hMs hba.size) (hheld.keep hba.size (fun q hq => hba.block q (by omega))))
        have HBA := Lib.hid (bnext hbs hba)
        have HK2 := Lib.hid (show shortE t = (shortE u && shortER (l.drop (k + 1))) by rw [HK.out, hdr])
        clear hli hcell hheld hsz1 hdr hba hR
        generalize shortE u = r at *
        go_wp2_with fail
        refine HC.out.mono ?_
        rintro e w6 ⟨rfl, b6⟩
        have hb6 := bnext HBA.out b6
        cases r
        · have HF := Lib.hid (show shortE t = false by rw [HK2.out]; rfl)
          go_wp2_with fail
          go_ret
          exact ⟨by rw [HF.out]; rfl, hb6⟩
        · have HG := Lib.hid (show shortE t = shortER (l.drop (k + 1)) by rw [HK2.out]; rfl)
          go_wp2_with fail
          go_roundw
          case rel => exact ⟨k + 1, by omega, by go_num, HG, hb6⟩
          case measure => simp [intOf]; omega
      · obtain rfl : k = l.length := by omega
        have HE := Lib.hid (show shortE t = true by rw [HK.out, List.drop_length, shortER_nil])
        go_wp2_with fail
        go_ret
        exact ⟨by rw [HE.out]; rfl, hbs⟩
end
end
end Go.Proofs.YthdhdmmlmbkalaaGreatDoor
namespace Go.Proofs.YthdhdmmlmbkalaaGreatDoor
section
open Go.RowKit

/-- What may be another one without its owner's doing: a stack of told's, a loop's record, what is deferred. -/
inductive MutE : Obj → Prop
  | stack (c : Array Value) (fr : Nat × Nat) : MutE (.cells c 29 fr)
  | loop (r : Loop) : MutE (.loop r)
  | deferred (l : Option (List Deferred)) : MutE (.deferred l)
/-- Below base all is as it was; above, only such as MutE knows is another one. -/
structure FineE (base : Nat) (w w' : World) : Prop extends Below base w w' where
  kept : ∀ i, i < w.heap.size → w'.heap[i]? = w.heap[i]? ∨ ∃ o, w.heap[i]? = some o ∧ MutE o
theorem FineE.refl (base : Nat) (w : World) : FineE base w w := ⟨Below.refl base w, fun _ _ => .inl rfl⟩
theorem FineE.trans {base : Nat} {a b c : World} (h : FineE base a b) (k : FineE base b c) : FineE base a c := ⟨h.toBelow.trans k.toBelow, fun i hi => by
  rcases h.kept i hi with e | e
  · rcases k.kept i (Nat.lt_of_lt_of_le hi h.size) with e2 | ⟨o, ho, hm⟩
    · exact .inl (e2.trans e)
    · exact .inr ⟨o, by rw [← e]; exact ho, hm⟩
  · exact .inr e⟩
theorem FineE.mono {base base' : Nat} {a b : World} (h : FineE base a b) (hb : base' ≤ base) : FineE base' a b := ⟨h.toBelow.mono hb, h.kept⟩
theorem FineE.new {base : Nat} {a b : World} (h : Below a.heap.size a b) (hb : base ≤ a.heap.size) : FineE base a b := ⟨h.mono hb, fun i hi => .inl (h.block i hi)⟩
theorem FineE.at_ {base : Nat} {a b : World} {g : Nat} {o : Obj} (h : Below base a b) (hg : a.heap[g]? = some o) (hm : MutE o) (hk : ∀ i, i < a.heap.size → i ≠ g → b.heap[i]? = a.heap[i]?) : FineE base a b := ⟨h, fun i hi => by
  by_cases e : i = g
  · subst e
    exact .inr ⟨o, hg, hm⟩
  · exact .inl (hk i hi e)⟩
/-- What is no stack, no loop's record and not deferred lies as it lay. -/
theorem FineE.still {base i : Nat} {a b : World} {o : Obj} (h : FineE base a b) (ho : a.heap[i]? = some o) (hn : ¬ MutE o) : b.heap[i]? = some o := by
  rcases h.kept i (Array.getElem?_eq_some_iff.1 ho).1 with e | ⟨o', h1, h2⟩
  · exact e.trans ho
  · rw [ho] at h1
    injection h1 with h1
    subst h1
    exact absurd h2 hn
theorem FineE.loop {base l : Nat} {A : World} {r : Loop} (o : Obj) (hb : base ≤ l) (h : A.heap[l]? = some (.loop r)) : FineE base A (A.putObj l o) :=
  FineE.at_ ⟨rfl, rfl, rfl, by simp, fun k hk => World.putObj_heap_other (by omega)⟩ h (.loop r) fun i _ hne => World.putObj_heap_other hne
/-- All blocks but those of X lie as they lay, and but such from base on as MutE doesn't know. -/
def ButE (base : Nat) (X : Nat → Prop) (w w' : World) : Prop := w.heap.size ≤ w'.heap.size ∧ ∀ k, k < w.heap.size → ¬ X k → w'.heap[k]? = w.heap[k]? ∨ (base ≤ k ∧ ∃ o, w.heap[k]? = some o ∧ ¬ MutE o)
theorem ButE.refl (base : Nat) (X : Nat → Prop) (w : World) : ButE base X w w := ⟨Nat.le_refl _, fun _ _ _ => .inl rfl⟩
theorem ButE.low {base : Nat} {X : Nat → Prop} {w w' : World} (h : ButE base X w w') {k : Nat} (hk : k < w.heap.size) (hb : k < base) (hx : ¬ X k) : w'.heap[k]? = w.heap[k]? := by
  rcases h.2 k hk hx with e | ⟨h1, _⟩
  · exact e
  · omega
theorem ButE.trans {base : Nat} {X : Nat → Prop} {a b c : World} (h : ButE base X a b) (k : ButE base X b c) : ButE base X a c := ⟨Nat.le_trans h.1 k.1, fun i hi hx => by
  rcases h.2 i hi hx with e | e
  · rcases k.2 i (Nat.lt_of_lt_of_le hi h.1) hx with e2 | ⟨h2, o, ho, hm⟩
    · exact .inl (e2.trans e)
    · exact .inr ⟨h2, o, by rw [← e]; exact ho, hm⟩
  · exact .inr e⟩
theorem ButE.mono {base : Nat} {X Y : Nat → Prop} {a b : World} (h : ButE base X a b) (hxy : ∀ k, X k → Y k) : ButE base Y a b := ⟨h.1, fun k hk hy => h.2 k hk fun hx => hy (hxy k hx)⟩
theorem ButE.more {base base' : Nat} {X : Nat → Prop} {a b : World} (h : ButE base X a b) (hb : base' ≤ base) : ButE base' X a b := ⟨h.1, fun k hk hx => by
  rcases h.2 k hk hx with e | ⟨h1, e⟩
  · exact .inl e
  · exact .inr ⟨Nat.le_trans hb h1, e⟩⟩
theorem ButE.new {base : Nat} {X : Nat → Prop} {a b : World} (h : Below a.heap.size a b) : ButE base X a b := ⟨h.size, fun k hk _ => .inl (h.block k hk)⟩
theorem But.e {base : Nat} {X : Nat → Prop} {a b : World} (h : But X a b) : ButE base X a b := ⟨h.1, fun k hk hx => .inl (h.2 k hk hx)⟩
theorem ButE.cells {base : Nat} {X : Nat → Prop} {w w' : World} (h : ButE base X w w') {k : Nat} {o : Obj} (ho : w.heap[k]? = some o) (hx : ¬ X k) (hm : MutE o) : w'.heap[k]? = some o := by
  rcases h.2 k (Array.getElem?_eq_some_iff.1 ho).1 hx with e | ⟨_, o', e, hn⟩
  · rw [e]; exact ho
  · rw [ho] at e
    injection e with e
    subst e
    exact absurd hm hn
variable {F : Fence} {n : Nat} {P : Program}

end
end Go.Proofs.YthdhdmmlmbkalaaGreatDoor
namespace Go.Proofs.YthdhdmmlmbkalaaGreatDoor
section
open Go.RowKit
attribute [local go_sem] Oper.semAt_some

/-- An expression that is told: how deep, where, and itself. -/
structure NodeE where
  lev : Nat
  b : Nat
  o : Nat
  e : ET
mutual
def seqE : ET → Nat → Nat → Nat → List NodeE
  | .mk k d v va vc vs rs p ka kc kids, lv, b, o => ⟨lv, b, o, .mk k d v va vc vs rs p ka kc kids⟩ :: seqER kids (lv + 1) (blk ka) (ofs ka)
def seqER : List ET → Nat → Nat → Nat → List NodeE
  | [], _, _, _ => []
  | e :: l, lv, b, o => seqE e lv b o ++ seqER l lv b (o + 13)
end
theorem seqE_eq (e : ET) (lv b o : Nat) : seqE e lv b o = ⟨lv, b, o, e⟩ :: seqER e.kids (lv + 1) (blk e.ka) (ofs e.ka) := by cases e; simp [seqE, ET.kids, ET.ka]
theorem seqER_nil (lv b o : Nat) : seqER [] lv b o = [] := by simp [seqER]
theorem seqER_cons (e : ET) (l : List ET) (lv b o : Nat) : seqER (e :: l) lv b o = seqE e lv b o ++ seqER l lv b (o + 13) := by simp [seqER]
mutual
theorem seqE_length : ∀ (e : ET) (lv b o : Nat), (seqE e lv b o).length = e.size
  | .mk k d v va vc vs rs p ka kc kids, lv, b, o => by
    have h := seqER_length kids (lv + 1) (blk ka) (ofs ka)
    simp only [seqE, List.length_cons, ET.size]
    omega
theorem seqER_length : ∀ (l : List ET) (lv b o : Nat), (seqER l lv b o).length = sizesE l
  | [], _, _, _ => by simp [seqER, sizesE]
  | e :: l, lv, b, o => by
    have h1 := seqE_length e lv b o
    have h2 := seqER_length l lv b (o + 13)
    simp only [seqER, List.length_append, sizesE]
    omega
end
/-- The k-th that is told. -/
def ndE (full : List NodeE) (k : Nat) : NodeE := (full[k]?).getD ⟨0, 0, 0, .mk 0 (.mk 0 false none 0 0 [] false ⟨#[]⟩ none 0 [] none 0 []) 0 none 0 [] false 0 none 0 []⟩
def toldE (full : List NodeE) (k : Nat) : Array Value := #[.int .i64 ((ndE full k).lev : Nat), .pointer (some ⟨(ndE full k).b, (ndE full k).o, none⟩)]
theorem ndE_eq {full : List NodeE} {k : Nat} {x : NodeE} (h : full[k]? = some x) : ndE full k = x := by simp only [ndE, h, Option.getD_some]
theorem toldE_eq {full : List NodeE} {k : Nat} {x : NodeE} (h : full[k]? = some x) : toldE full k = #[.int .i64 (x.lev : Nat), .pointer (some ⟨x.b, x.o, none⟩)] := by simp only [toldE, ndE_eq h]

/-- A row of the stack: what is left of a list of Kids. -/
structure EntE where
  a : Option Addr
  c : Nat
  l : List ET
def EntE.cell (e : EntE) : Value := .slice e.a e.l.length e.c
/-- The stack's cells: the top lies last. -/
def stE : List EntE → List Value | [] => [] | e :: st => stE st ++ [e.cell]
theorem stE_length (st : List EntE) : (stE st).length = st.length := by induction st with | nil => rfl | cons e st ih => simp [stE, ih]
def flatE : List EntE → List NodeE | [] => [] | e :: st => seqER e.l (st.length + 2) (blk e.a) (ofs e.a) ++ flatE st
/-- The rows of a stack lie there, and it is no higher than N. -/
def GoodE (w : World) (M N : Nat) : List EntE → Prop
  | [] => True
  | e :: st => (Spot M e.a e.l.length e.c ∧ LiesER w M e.l (blk e.a) (ofs e.a) ∧ st.length + sizesE e.l ≤ N) ∧ GoodE w M N st
theorem GoodE.keep {w w' : World} {M N : Nat} (hs : w.heap.size ≤ w'.heap.size) (hk : ∀ k, k < M → w'.heap[k]? = w.heap[k]?) : ∀ {st : List EntE}, GoodE w M N st → GoodE w' M N st
  | [], _ => trivial
  | _ :: _, h => ⟨⟨h.1.1, h.1.2.1.keep hs hk, h.1.2.2⟩, GoodE.keep hs hk h.2⟩
theorem infoS : (Tryz.prog.info? 29).map (fun i => (i.zero, i.size, i.bytes)) = some (some (.slice none 0 0), 1, 24) := by kernel_rfl

/-- What the loop's head knows, with so much still to be done. -/
def ToldE (M N base : Nat) (full : List NodeE) (J : Nat → World → Prop) (v : Value) (w : World) (m : Nat) : Prop :=
  ∃ (k : Nat) (st : List EntE), k ≤ full.length ∧ m = 2 * (full.length - k) + st.length ∧ full.drop k = flatE st ∧ GoodE w M N st ∧ w.ownsRow base 29 1 v st.length (stE st) ∧ base ≤ w.heap.size ∧ J k w
/-- The row's last element is cut off. -/
theorem rowE_less {w : World} {base g n cap : Nat} {xs : List Value} {y : Value} (h : w.ownsRow base 29 1 (.slice (some ⟨g, 0, none⟩) (n + 1) cap) (n + 1) (xs ++ [y])) (hx : xs.length = n) :
    w.ownsRow base 29 1 (.slice (some ⟨g, 0, none⟩) n cap) n xs := by
  obtain ⟨hl, hr⟩ := h
  refine ⟨by omega, ?_⟩
  rcases hr with ⟨hv, _⟩ | ⟨g', cap', cur, hv, hb, hg, hn, hm, hs, ht⟩
  · cases hv
  · cases hv
    refine .inr ⟨g, cap, cur, rfl, hb, hg, by omega, hm, hs, ?_⟩
    have : cur.toList.take (n * 1) = (cur.toList.take ((n + 1) * 1)).take (n * 1) := by rw [List.take_take, Nat.min_eq_left (by omega)]
    rw [this, ht, Nat.mul_one, ← hx, List.take_left]
theorem rowE_set {w : World} {base g n cap : Nat} {xs : List Value} {y : Value} (z : Value) (h : w.ownsRow base 29 1 (.slice (some ⟨g, 0, none⟩) (n + 1) cap) (n + 1) (xs ++ [y])) (hx : xs.length = n) :
    (w.setCell ⟨g, n, none⟩ z).ownsRow base 29 1 (.slice (some ⟨g, 0, none⟩) (n + 1) cap) (n + 1) (xs ++ [z]) := by
  have h1 := (h.stored n z).1
  rw [List.set_append, if_neg (by omega), hx, Nat.sub_self] at h1
  exact h1
theorem rowE_at {w : World} {base n g : Nat} {v : Value} {xs : List Value} (h : w.ownsRow base 29 1 v n xs) (hg : v.ownBlock = some g) : ∃ c, w.heap[g]? = some (.cells c 29 (0, 0)) := by
  rcases h.2 with ⟨hv, _⟩ | ⟨g', cap, cur, hv, hb, hc, _⟩
  · rw [hv] at hg; cases hg
  · rw [hv] at hg
    have e : g' = g := Option.some.inj hg
    subst e
    exact ⟨cur, hc⟩
theorem rowE_but {w w' : World} {B base n : Nat} {X : Nat → Prop} {v : Value} {xs : List Value} (h : w.ownsRow B 29 1 v n xs) (hu : ButE base X w w') (hx : ∀ k, B ≤ k → k < w.heap.size → ¬ X k) : w'.ownsRow B 29 1 v n xs := by
  refine ⟨h.1, ?_⟩
  rcases h.2 with hn | ⟨g, cap, cur, hv, hb, hg, rest⟩
  · exact .inl hn
  · exact .inr ⟨g, cap, cur, hv, hb, hu.cells hg (hx g hb (Array.getElem?_eq_some_iff.1 hg).1) (.stack _ _), rest⟩
theorem fineE_grown {w w1 : World} {base n : Nat} {v : Value} {xs : List Value} {o : Obj} (hown : w.ownsRow base 29 1 v n xs) (hb : base ≤ w.heap.size) (hg : (w.alloc o).grownBy w1 v.ownBlock) : FineE base w w1 := by
  refine ⟨((Below.refl base w).alloc hb _).grown hg (by simp; omega) (fun k hk => (hown.lt k hk).1), fun i hi => ?_⟩
  by_cases e : v.ownBlock = some i
  · obtain ⟨c, hc⟩ := rowE_at hown e
    exact .inr ⟨_, hc, .stack c _⟩
  · exact .inl ((hg.block i (by simp; omega) (fun h => e h.symm)).trans (Below.heap_alloc w o i hi))
theorem cellS {w : World} {g : Nat} {x : Value} (h : w.heap[g]? = some (.cells #[x] 29 (0, 0))) : ∀ j u, ([x] : List Value)[j]? = some u → w.cell? ((⟨g, 0, none⟩ : Addr).add j) = some u := by
  intro j u hu
  rw [cell_add]
  match j, hu with
  | 0, hu => simpa [World.cell?, h] using hu
  | j + 1, hu => simp at hu
theorem toldE_less {M N base : Nat} {full : List NodeE} {J : Nat → World → Prop} {v v' : Value} {w w' : World} {m0 m1 : Nat} (h : leastOf (fun m => ToldE M N base full J v w m) = m0) (hm : m1 < m0) (hr : ToldE M N base full J v' w' m1) :
    leastOf (fun m => ToldE M N base full J v' w' m) < leastOf (fun m => ToldE M N base full J v w m) := by
  have := (leastOf_spec (p := fun m => ToldE M N base full J v' w' m) ⟨_, hr⟩).2 _ hr
  omega
/-- What is pushed behind a row's first. -/
theorem goodE_push {w : World} {M N b o : Nat} {e : ET} {st : List EntE} (h : LiesE w M e b o) (hg : GoodE w M N st) (hN : st.length + sizesE e.kids ≤ N) : GoodE w M N (⟨e.ka, e.kc, e.kids⟩ :: st) := by
  obtain ⟨_, _, hh⟩ := liesE_held.1 h
  exact ⟨⟨hh.2.1, hh.2.2, hN⟩, hg⟩
theorem ownsRow_one {w : World} {base : Nat} {v : Value} {e : EntE} {st : List EntE} (h : w.ownsRow base 29 1 v (e :: st).length (stE (e :: st))) : ∃ g cap, v = .slice (some ⟨g, 0, none⟩) (st.length + 1) cap ∧ base ≤ g ∧ g < w.heap.size ∧ st.length + 1 ≤ cap ∧ w.cell? ⟨g, st.length, none⟩ = some e.cell ∧ w.frozen? ⟨g, st.length, none⟩ = false := by
  obtain ⟨g, cap, hv⟩ := ownsRow_succ h
  have hv : v = .slice (some ⟨g, 0, none⟩) (st.length + 1) cap := hv
  subst hv
  have hl := stE_length st
  refine ⟨g, cap, rfl, (h.lt g rfl).1, (h.lt g rfl).2, ?_, ?_, h.frozenAt _⟩
  · rcases h.2 with ⟨h, _⟩ | ⟨_, _, _, h, _, _, h2, _⟩
    · cases h
    · cases h; exact h2
  · have := h.cells (g := g) rfl st.length e.cell (by simp [stE, hl])
    rwa [cell_add, Nat.zero_add] at this
end
end Go.Proofs.YthdhdmmlmbkalaaGreatDoor
namespace Go.Proofs.YthdhdmmlmbkalaaGreatDoor
section
open Go.RowKit
attribute [local go_sem] Oper.semAt_some

theorem toldE_node {full : List NodeE} {k c : Nat} {a : Option Addr} {t : ET} {r : List ET} {st : List EntE} (h : full.drop k = flatE (⟨a, c, t :: r⟩ :: st)) : k < full.length ∧ full[k]? = some ⟨st.length + 2, blk a, ofs a, t⟩ := by
  have hlt : k < full.length := by
    rcases Nat.lt_or_ge k full.length with h1 | h1
    · exact h1
    · rw [List.drop_eq_nil_of_le h1] at h
      simp [flatE, seqER_cons, seqE_eq] at h
  refine ⟨hlt, ?_⟩
  have h1 : (full.drop k)[0]? = full[k]? := by rw [List.getElem?_drop]; simp
  rw [← h1, h]
  simp [flatE, seqER_cons, seqE_eq]
theorem toldE_next {M N base : Nat} {full : List NodeE} {J : Nat → World → Prop} {k eb eo ec c' p : Nat} {a' : Option Addr} {t : ET} {r : List ET} {st : List EntE} {wr w8 : World} {v8 : Value}
    (hd : full.drop k = flatE (⟨some ⟨eb, eo, none⟩, ec, t :: r⟩ :: st)) (hg : GoodE wr M N (⟨some ⟨eb, eo, none⟩, ec, t :: r⟩ :: st)) (ha : r = [] ∨ a' = some ⟨eb, eo + 13, none⟩) (hs : Spot M a' r.length c') (hp : st.length = p)
    (hsz : wr.heap.size ≤ w8.heap.size) (hlow : ∀ q, q < M → w8.heap[q]? = wr.heap[q]?) (own : w8.ownsRow base 29 1 v8 (p + 1 + 1) (stE (⟨a', c', r⟩ :: st) ++ [.slice t.ka t.kids.length t.kc])) (hb : base ≤ w8.heap.size) (hj : J (k + 1) w8) :
    ToldE M N base full J v8 w8 (2 * (full.length - (k + 1)) + (p + 1 + 1)) := by
  obtain ⟨hlt, hat⟩ := toldE_node hd
  obtain ⟨⟨h1, h2, h3⟩, h4⟩ := hg
  simp only [liesER_cons] at h2
  simp only [sizesE] at h3
  have hts := t.size_eq
  subst hp
  refine ⟨k + 1, ⟨t.ka, t.kc, t.kids⟩ :: ⟨a', c', r⟩ :: st, hlt, rfl, ?_, ?_, own, hb, hj⟩
  · have e1 : full.drop (k + 1) = (full.drop k).drop 1 := by rw [List.drop_drop]
    rw [e1, hd]
    simp only [flatE, seqER_cons, seqE_eq, List.cons_append, List.drop_succ_cons, List.drop_zero, List.length_cons, List.append_assoc]
    rcases ha with rfl | rfl
    · simp [seqER_nil]
    · rfl
  · refine goodE_push (LiesE.keep hsz hlow _ _ _ h2.1) ⟨⟨hs, ?_, by show st.length + sizesE r ≤ N; omega⟩, h4.keep hsz hlow⟩ (by simp only [List.length_cons]; omega)
    rcases ha with rfl | rfl
    · rw [liesER_nil]; trivial
    · exact LiesER.keep hsz hlow _ _ _ h2.2
set_option maxRecDepth 100000 in
set_option maxHeartbeats 3200000 in
theorem told1E_in (n l bd M N b o Bs : Nat) (root : ET) (X : Nat → Prop) (J Jx : Nat → World → Prop) (W : World) (hBs : M ≤ Bs) (hbt : bd < Bs) (hX : ∀ r, X r → M ≤ r ∧ r ≠ bd ∧ r < W.heap.size)
    (hJ : ∀ k A B, FineE W.heap.size A B → J k A → J k B) (full : List NodeE) (hfull : full = seqE root 1 b o)
    (hY : ∀ k W1, k < full.length → J k W1 → YieldAt Fence.wide (n - 1) Tryz.prog l (toldE full k) W1 fun e W' =>
      (e = .returned (.bool true) ∧ J (k + 1) W' ∧ ButE Bs X W1 W') ∨ (e = .returned (.bool false) ∧ Jx k W'))
    (hbd : W.cell? ⟨bd, 0, none⟩ = some (.pointer (some ⟨b, o, none⟩))) (hMW : M ≤ W.heap.size) (hL : LiesE W M root b o) (hN : root.size + 1 ≤ N) (hN9 : N ≤ 1000000000) (h0 : J 0 W) :
    CallsIn Fence.wide n Tryz.prog 47 #[.func (.yield l) #[] #[], .pointer (some ⟨bd, 0, none⟩)] W fun e W' => (∃ v, e = .returned v) ∧ (J full.length W' ∨ ∃ k, k < full.length ∧ Jx k W') := by
  obtain ⟨i0, hi, hz0, hz1, hz2⟩ := info_parts infoS
  have hbW : bd < W.heap.size := World.block_lt_of_cell? W _ hbd
  have hlen : full.length = root.size := by rw [hfull, seqE_length]
  have hsz := root.size_eq
  have hat0 : full[0]? = some ⟨1, b, o, root⟩ := by rw [hfull, seqE_eq]; rfl
  have hdrop1 : full.drop 1 = flatE [⟨root.ka, root.kc, root.kids⟩] := by rw [hfull, seqE_eq]; simp [flatE]
  obtain ⟨fn, tmps, assign, body, hy, hR⟩ := hY 0 W (by omega) h0
  rw [toldE_eq hat0] at hy
  have hy' : (Instr.yield l #[Value.int .i64 1, .pointer (some ⟨b, o, none⟩)]).run Tryz.prog W = _ := hy
  clear hy
  have HL := Lib.hid (And.intro hlen (And.intro hfull hat0))
  have HD := Lib.hid hdrop1
  clear hlen hfull hdrop1 hat0
  refine callsIn_of_wp Tryz.func47 rfl trivial ?_ rfl
  simp only [Tryz.ntmps47, List.size_toArray, List.length_cons, List.length_nil, Nat.reduceAdd, Nat.reduceSub, Array.replicate_succ, Array.replicate_zero, List.push_toArray, List.append_toArray, List.nil_append, List.cons_append]
  gi_wp2
  refine ⟨fun h => absurd h (by decide), hR.mono ?_⟩
  rintro e W3 (⟨rfl, hJ3, hk3⟩ | ⟨rfl, hJx3⟩)
  · have hbd3 : W3.cell? ⟨bd, 0, none⟩ = some (.pointer (some ⟨b, o, none⟩)) := (World.cell?_of_block (w := W) (a := ⟨bd, 0, none⟩) (hk3.low hbW hbt (fun h => (hX _ h).2.1 rfl))).trans hbd
    have hL3 : LiesE W3 M root b o := LiesE.keep hk3.1 (fun k hk => hk3.low (by omega) (by omega) (fun h => by have := (hX _ h).1; omega)) _ _ _ hL
    have hs3 := hk3.1
    have c12 : W3.cell? ⟨b, o + 12, none⟩ = some (.slice root.ka root.kids.length root.kc) := (liesE_held.1 hL3).2.1 12 _ rfl
    have own4 : (W3.alloc (.cells #[.slice root.ka root.kids.length root.kc] 29)).ownsRow W.heap.size 29 1 (.slice (some ⟨W3.heap.size, 0, none⟩) 1 1) 1 [.slice root.ka root.kids.length root.kc] :=
      World.ownsRow_lit (base := W.heap.size) (size := 1) W3 #[.slice root.ka root.kids.length root.kc] 1 hs3 (by decide) rfl
    have f4 : FineE W.heap.size W3 (W3.alloc (.cells #[.slice root.ka root.kids.length root.kc] 29)) := FineE.new ((Below.refl _ _).alloc (Nat.le_refl _) _) hs3
    have hJ4 := hJ 1 _ _ f4 hJ3
    have hL4 := LiesE.keep f4.size (fun q hq => f4.block q (by omega)) _ _ _ hL3
    have HI := Lib.hid (show ToldE M N W.heap.size full J (.slice (some ⟨W3.heap.size, 0, none⟩) 1 1) (W3.alloc (.cells #[.slice root.ka root.kids.length root.kc] 29)) (2 * (full.length - 1) + 1) from
      ⟨1, [⟨root.ka, root.kc, root.kids⟩], by rw [HL.out.1]; omega, rfl, HD.out, goodE_push hL4 trivial (by show 0 + sizesE root.kids ≤ N; omega), own4, by have := f4.size; omega, hJ4⟩)
    clear own4 f4 hJ4 hL4 hL3 hJ3 hk3
    gi_wp2
    clear c12 hbd3
    gi_loopw [3] (fun v w => ∃ m, ToldE M N W.heap.size full J v w m) (fun v w => leastOf (fun m => ToldE M N W.heap.size full J v w m))
    case atStart => exact ⟨_, HI.out⟩
    case round =>
      clear HI
      obtain ⟨k, st, hkN, hmk, hdrop, hgood, hown, hbase, hJk⟩ := (leastOf_spec hrel).1
      generalize hm0 : leastOf (fun m => ToldE M N W.heap.size full J u3 wr m) = m0 at hmk
      have HM := Lib.hid (And.intro hm0 hmk)
      clear hm0 hrel hmk
      cases st with
      | nil =>
        have hkL : k = full.length := by
          have := congrArg List.length hdrop
          simp only [List.length_drop, flatE, List.length_nil] at this
          omega
        have hJN := Lib.hid (hkL ▸ hJk)
        rcases hown.2 with ⟨rfl, _⟩ | ⟨g, cap, cur, rfl, _⟩
        · clear hown hgood hJk hdrop hkL
          gi_wp2
          go_end0
          exact ⟨⟨_, rfl⟩, .inl hJN.out⟩
        · clear hown hgood hJk hdrop hkL
          gi_wp2
          go_end0
          exact ⟨⟨_, rfl⟩, .inl hJN.out⟩
      | cons e st =>
        obtain ⟨g, cap, rfl, hg1, hg2, hpc, hc0, hfz⟩ := ownsRow_one hown
        have hpN : st.length ≤ N := by have := hgood.1.2.2; omega
        generalize hp : st.length = p at *
        obtain ⟨ea, ec, el⟩ := e
        have hcl : cap ≤ 9223372036854775807 := by
          rcases hown.2 with ⟨h, _⟩ | ⟨_, _, _, h, _, _, _, h3, _⟩
          · cases h
          · cases h; unfold maxLen at h3; omega
        cases el with
        | nil =>
          have hO := rowE_less (n := p) (xs := stE st) (by have h1 := hown; rw [List.length_cons, hp] at h1; exact h1) ((stE_length st).trans hp)
          have HR := Lib.hid (show ToldE M N W.heap.size full J (.slice (some ⟨g, 0, none⟩) p cap) wr (2 * (full.length - k) + p) from
            ⟨k, st, hkN, by rw [hp], by rw [hdrop]; simp [flatE, seqER_nil], hgood.2, by rw [hp]; exact hO, hbase, hJk⟩)
          have HM2 := Lib.hid (show 2 * (full.length - k) + p < m0 by have := HM.out.2; simp only [List.length_cons] at this; omega)
          have hc1 : wr.cell? ⟨g, p, none⟩ = some (.slice ea 0 ec) := hc0
          clear hO hgood hown hdrop hJk hc0 hp
          gi_wp2
          go_roundw
          case rel => exact ⟨_, HR.out⟩
          case measure => exact toldE_less HM.out.1 HM2.out HR.out
        | cons t r =>
          have hsp := hgood.1.1
          have hli := hgood.1.2.1
          obtain ⟨hea, heb⟩ := hsp.2.2.1 (by simp)
          obtain ⟨eb, hebb⟩ : ∃ x, blk ea = x := ⟨_, rfl⟩
          obtain ⟨eo, heoo⟩ : ∃ x, ofs ea = x := ⟨_, rfl⟩
          rw [hebb, heoo] at hea
          rw [hebb] at heb
          subst hea
          clear hebb heoo
          obtain ⟨hkl, hat⟩ := toldE_node hdrop
          have hlt0 : LiesE wr M t eb eo := (liesER_cons ▸ hli : _ ∧ _).1
          have hcE : r.length + 1 ≤ ec := by have := hsp.1; simpa using this
          have hcM : ec ≤ 9223372036854775807 := by have := hsp.2.1; unfold maxLen at this; omega
          have hrw : ∃ c, wr.heap[g]? = some (.cells c 29 (0, 0)) := rowE_at hown rfl
          have hrowS : ∀ z, (wr.setCell ⟨g, p, none⟩ z).ownsRow W.heap.size 29 1 (.slice (some ⟨g, 0, none⟩) (p + 1) cap) (p + 1) (stE st ++ [z]) := fun z => by
            exact rowE_set (n := p) (xs := stE st) z (by have h1 := hown; rw [List.length_cons, hp] at h1; exact h1) ((stE_length st).trans hp)
          have hfin : ∀ z, FineE W.heap.size wr (wr.setCell ⟨g, p, none⟩ z) := fun z => by
            obtain ⟨c, hc⟩ := hrw
            exact FineE.at_ ((Below.refl _ _).setCell (p := ⟨g, p, none⟩) hg1 z) hc (.stack c _) fun i _ hne => Below.heap_setCell _ _ _ _ hne
          have hJs : ∀ z, J k (wr.setCell ⟨g, p, none⟩ z) := fun z => hJ k _ _ (hfin z) hJk
          have HO := Lib.hid (And.intro hdrop (And.intro hgood (And.intro hrowS (And.intro hfin hlt0))))
          have HM2 := Lib.hid (show 2 * (full.length - (k + 1)) + (p + 1 + 1) < m0 by have := HM.out.2; simp only [List.length_cons] at this; omega)
          have HP := Lib.hid hp
          rw [hp] at hat
          have hc1 : wr.cell? ⟨g, p, none⟩ = some (.slice (some ⟨eb, eo, none⟩) (r.length + 1) ec) := hc0
          have hsr := hsp
          clear hdrop hgood hown hrowS hfin hlt0 hli hJk hrw hc0 hp hsp
          obtain ⟨q, hq⟩ : ∃ q, r.length = q := ⟨_, rfl⟩
          have HQ := Lib.hid (And.intro hq hsr)
          rw [hq] at hc1 hcE
          clear hq hsr
          by_cases hec : ec = 1
          · have hq0 : q = 0 := by omega
            subst hec hq0
            obtain ⟨fn2, tmps2, assign2, body2, hy2, hR2⟩ := hY k _ hkl (hJs (.slice (some ⟨eb, eo, none⟩) 0 0))
            rw [toldE_eq hat] at hy2
            dsimp only [blk, ofs] at hy2
            have hy3 := hy2
            rw [show ((p + 2 : Nat) : Int) = (p : Int) + 1 + 1 by omega] at hy3
            clear hy2
            have hss : (wr.setCell ⟨g, p, none⟩ (.slice (some ⟨eb, eo, none⟩) 0 0)).heap.size = wr.heap.size := World.size_setCell ..
            gi_wp2
            refine ⟨fun h => absurd h (by decide), hR2.mono ?_⟩
            rintro e W5 (⟨rfl, hJ5, hk5⟩ | ⟨rfl, hJx5⟩)
            · have hs5 : wr.heap.size ≤ W5.heap.size := by have := hk5.1; omega
              have own5 := rowE_but (HO.out.2.2.1 (.slice (some ⟨eb, eo, none⟩) 0 0)) hk5 (fun i h1 h2 hx => by have := (hX i hx).2.2; omega)
              have hlow5 : ∀ i, i < M → W5.heap[i]? = wr.heap[i]? := fun i hi => (hk5.low (by omega) (by omega) (fun h => by have := (hX _ h).1; omega)).trans ((HO.out.2.2.2.1 (.slice (some ⟨eb, eo, none⟩) 0 0)).block i (by omega))
              have hL5 := LiesE.keep hs5 hlow5 _ _ _ HO.out.2.2.2.2
              have c12 : W5.cell? ⟨eb, eo + 12, none⟩ = some (.slice t.ka t.kids.length t.kc) := (liesE_held.1 hL5).2.1 12 _ rfl
              have H5 := Lib.hid (And.intro own5 (And.intro hlow5 hJ5))
              clear own5 hlow5 hL5 hk5 hy3 hR2 hJ5 hJs
              gi_wp2_with (gi_at_builtin; refine wpListIn_append_own _ rfl (.tmp 50) (.tmp 55) 82 rfl W.heap.size 29 i0 (.slice none 0 0) 1 24 Tryz.underlying82 hi hz0 hz1 hz2 rfl (by decide) _ (p + 1) (stE st ++ [.slice (some ⟨eb, eo, none⟩) 0 0]) rfl (H5.out.1.alloc _) ⟨W5.heap.size, 0, none⟩ 1 1 [.slice t.ka t.kids.length t.kc] rfl rfl (cellS (World.alloc_heap_new W5 (.cells #[.slice t.ka t.kids.length t.kc] 29))) (by intro u hu; rw [List.mem_singleton.1 hu]; rfl) (by unfold maxLen; omega) (by omega) (by rw [World.size_alloc]; omega) ?_; intro v8 w8 own8 grow8 _)
              have f8 := fineE_grown (o := .cells #[.slice t.ka t.kids.length t.kc] 29) H5.out.1 (by omega) grow8
              have HN8 := Lib.hid (toldE_next (J := J) (w8 := w8) (v8 := v8) (base := W.heap.size) HO.out.1 HO.out.2.1 (a' := some ⟨eb, eo, none⟩) (c' := 0) (.inl (List.length_eq_zero_iff.1 HQ.out.1)) (by rw [HQ.out.1]; exact ⟨Nat.le_refl _, Nat.zero_le _, fun h => absurd h (by decide), fun e => by cases e⟩) HP.out (by have := f8.size; omega) (fun i hi => (f8.block i (by omega)).trans (H5.out.2.1 i hi)) (by have h1 := own8; rw [show stE (⟨some ⟨eb, eo, none⟩, 0, r⟩ :: st) = stE st ++ [.slice (some ⟨eb, eo, none⟩) 0 0] by simp only [stE, EntE.cell, HQ.out.1]]; exact h1) (by have := f8.size; omega) (hJ _ _ _ f8 H5.out.2.2))
              clear own8 grow8 f8 c12
              gi_wp2
              go_roundw
              case rel => exact ⟨_, HN8.out⟩
              case measure => exact toldE_less HM.out.1 HM2.out HN8.out
            · gi_wp2
              refine bodyPost_ret (results_none rfl _ _ _) rfl ?_
              exact ⟨⟨_, rfl⟩, .inr ⟨k, hkl, hJx5⟩⟩
          · have hec2 : 2 ≤ ec := by omega
            obtain ⟨fn2, tmps2, assign2, body2, hy2, hR2⟩ := hY k _ hkl (hJs (.slice (some ⟨eb, eo + 13, none⟩) q (ec - 1)))
            rw [toldE_eq hat] at hy2
            dsimp only [blk, ofs] at hy2
            have hy3 := hy2
            rw [show ((p + 2 : Nat) : Int) = (p : Int) + 1 + 1 by omega] at hy3
            clear hy2
            have hss : (wr.setCell ⟨g, p, none⟩ (.slice (some ⟨eb, eo + 13, none⟩) q (ec - 1))).heap.size = wr.heap.size := World.size_setCell ..
            gi_wp2
            refine ⟨fun h => absurd h (by decide), hR2.mono ?_⟩
            rintro e W5 (⟨rfl, hJ5, hk5⟩ | ⟨rfl, hJx5⟩)
            · have hs5 : wr.heap.size ≤ W5.heap.size := by have := hk5.1; omega
              have own5 := rowE_but (HO.out.2.2.1 (.slice (some ⟨eb, eo + 13, none⟩) q (ec - 1))) hk5 (fun i h1 h2 hx => by have := (hX i hx).2.2; omega)
              have hlow5 : ∀ i, i < M → W5.heap[i]? = wr.heap[i]? := fun i hi => (hk5.low (by omega) (by omega) (fun h => by have := (hX _ h).1; omega)).trans ((HO.out.2.2.2.1 (.slice (some ⟨eb, eo + 13, none⟩) q (ec - 1))).block i (by omega))
              have hL5 := LiesE.keep hs5 hlow5 _ _ _ HO.out.2.2.2.2
              have c12 : W5.cell? ⟨eb, eo + 12, none⟩ = some (.slice t.ka t.kids.length t.kc) := (liesE_held.1 hL5).2.1 12 _ rfl
              have H5 := Lib.hid (And.intro own5 (And.intro hlow5 hJ5))
              clear own5 hlow5 hL5 hk5 hy3 hR2 hJ5 hJs
              gi_wp2_with (gi_at_builtin; refine wpListIn_append_own _ rfl (.tmp 50) (.tmp 55) 82 rfl W.heap.size 29 i0 (.slice none 0 0) 1 24 Tryz.underlying82 hi hz0 hz1 hz2 rfl (by decide) _ (p + 1) (stE st ++ [.slice (some ⟨eb, eo + 13, none⟩) q (ec - 1)]) rfl (H5.out.1.alloc _) ⟨W5.heap.size, 0, none⟩ 1 1 [.slice t.ka t.kids.length t.kc] rfl rfl (cellS (World.alloc_heap_new W5 (.cells #[.slice t.ka t.kids.length t.kc] 29))) (by intro u hu; rw [List.mem_singleton.1 hu]; rfl) (by unfold maxLen; omega) (by omega) (by rw [World.size_alloc]; omega) ?_; intro v8 w8 own8 grow8 _)
              have f8 := fineE_grown (o := .cells #[.slice t.ka t.kids.length t.kc] 29) H5.out.1 (by omega) grow8
              have HN8 := Lib.hid (toldE_next (J := J) (w8 := w8) (v8 := v8) (base := W.heap.size) HO.out.1 HO.out.2.1 (a' := some ⟨eb, eo + 13, none⟩) (c' := (ec - 1)) (.inr rfl) (by rw [HQ.out.1]; exact ⟨by omega, by unfold maxLen; omega, fun _ => ⟨rfl, heb⟩, fun e => by cases e⟩) HP.out (by have := f8.size; omega) (fun i hi => (f8.block i (by omega)).trans (H5.out.2.1 i hi)) (by have h1 := own8; rw [show stE (⟨some ⟨eb, eo + 13, none⟩, (ec - 1), r⟩ :: st) = stE st ++ [.slice (some ⟨eb, eo + 13, none⟩) q (ec - 1)] by simp only [stE, EntE.cell, HQ.out.1]]; exact h1) (by have := f8.size; omega) (hJ _ _ _ f8 H5.out.2.2))
              clear own8 grow8 f8 c12
              gi_wp2
              go_roundw
              case rel => exact ⟨_, HN8.out⟩
              case measure => exact toldE_less HM.out.1 HM2.out HN8.out
            · gi_wp2
              refine bodyPost_ret (results_none rfl _ _ _) rfl ?_
              exact ⟨⟨_, rfl⟩, .inr ⟨k, hkl, hJx5⟩⟩
  · gi_wp2
    refine bodyPost_ret (results_none rfl _ _ _) rfl ?_
    exact ⟨⟨_, rfl⟩, .inr ⟨0, by rw [HL.out.1]; omega, hJx3⟩⟩
end
end Go.Proofs.YthdhdmmlmbkalaaGreatDoor
