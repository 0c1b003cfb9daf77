/-
  The document's budget of an expression; Small, Few; the law's short and light. A range over a function whose iterator keeps a state of its own in memory: what the iterator promises its caller, and what the caller owes. Ranges over an iterator of expressions: its stack is what it may turn; a round may turn all else from the loop's begin on. core.told: its iterator tells an expression and all that is in it, in the order of the tree.
-/
import Derived.Test.YthdhdmmlmbkalaaGreatDoorJp1
import Derived.RangeFuncRecord
import Derived.RangeFuncNested
import Derived.RangeFuncBound
import Derived.RangeFuncCalls
import Derived.RangeFuncLeaves
import Derived.WalkKit
import Derived.OwnWalkIn
import Derived.TacticsInMore
import Derived.LoopNIn
import Derived.LoopIn
import Derived.Laws.OwnMore
import Derived.Deep.LoopGhost
import Derived.Shelf.RegionOpen
set_option linter.unusedVariables false
set_option linter.unusedSimpArgs false
set_option linter.unusedSectionVars false
set_option linter.unnecessarySimpa false
namespace Go.Proofs.YthdhdmmlmbkalaaGreatDoor
section
open Go.RowKit

mutual
def budE : ET → Int → Int → Int
  | .mk _ _ _ _ _ _ _ _ _ _ kids, left, deep => if left - 1 < 0 ∨ deep ≤ 0 then -1 else budER kids (left - 1) (deep - 1)
def budER : List ET → Int → Int → Int
  | [], left, _ => left
  | e :: l, left, deep => if budE e left deep < 0 then -1 else budER l (budE e left deep) deep
end
theorem budE_eq (e : ET) (left deep : Int) : budE e left deep = if left - 1 < 0 ∨ deep ≤ 0 then -1 else budER e.kids (left - 1) (deep - 1) := by cases e; simp [budE, ET.kids]
theorem budER_cons (e : ET) (l : List ET) (left deep : Int) : budER (e :: l) left deep = if budE e left deep < 0 then -1 else budER l (budE e left deep) deep := by simp [budER]
theorem budER_nil (left deep : Int) : budER [] left deep = left := by simp [budER]
mutual
theorem budE_bd : ∀ (e : ET) (left deep : Int), 0 ≤ left → -1 ≤ budE e left deep ∧ budE e left deep ≤ left
  | .mk k d v va vc vs rs p ka kc kids, left, deep, h => by
    rw [budE_eq]
    by_cases hx : left - 1 < 0 ∨ deep ≤ 0
    · rw [if_pos hx]; omega
    · rw [if_neg hx]
      have h1 := budER_bd kids (left - 1) (deep - 1) (by omega)
      simp only [ET.kids]
      omega
theorem budER_bd : ∀ (l : List ET) (left deep : Int), 0 ≤ left → -1 ≤ budER l left deep ∧ budER l left deep ≤ left
  | [], left, deep, h => by rw [budER_nil]; omega
  | e :: l, left, deep, h => by
    have h1 := budE_bd e left deep h
    rw [budER_cons]
    by_cases hx : budE e left deep < 0
    · rw [if_pos hx]; omega
    · rw [if_neg hx]
      have h2 := budER_bd l (budE e left deep) deep (by omega)
      omega
end
mutual
/-- What the count tells: what is left is what was there less the size; and no deeper. -/
theorem budE_few : ∀ (e : ET) (left deep : Int), 0 ≤ budE e left deep → budE e left deep = left - e.size ∧ (e.depth : Int) ≤ deep
  | .mk k d v va vc vs rs p ka kc kids, left, deep, h => by
    rw [budE_eq] at h ⊢
    by_cases hx : left - 1 < 0 ∨ deep ≤ 0
    · rw [if_pos hx] at h; omega
    · rw [if_neg hx] at h ⊢
      have h1 := budER_few kids (left - 1) (deep - 1) h (by omega)
      simp only [ET.kids, ET.size, ET.depth] at h1 ⊢
      omega
theorem budER_few : ∀ (l : List ET) (left deep : Int), 0 ≤ budER l left deep → 0 ≤ deep → budER l left deep = left - sizesE l ∧ (depthsE l : Int) ≤ deep
  | [], left, deep, h, hd => by rw [budER_nil] at h ⊢; simp [sizesE, depthsE]; omega
  | e :: l, left, deep, h, hd => by
    rw [budER_cons] at h ⊢
    by_cases hx : budE e left deep < 0
    · rw [if_pos hx] at h; omega
    · rw [if_neg hx] at h ⊢
      have h1 := budE_few e left deep (by omega)
      have h2 := budER_few l (budE e left deep) deep h hd
      simp only [sizesE, depthsE]
      omega
end
mutual
def shortE : ET → Bool
  | .mk _ d _ _ _ vs _ _ _ _ kids => decide (vs.length ≤ 30) && decide (0 ≤ budT d 100 30) && shortER kids
def shortER : List ET → Bool
  | [] => true
  | e :: l => shortE e && shortER l
end
theorem shortE_eq (e : ET) : shortE e = (decide (e.vs.length ≤ 30) && decide (0 ≤ budT e.d 100 30) && shortER e.kids) := by cases e; rw [shortE]; rfl
theorem shortER_cons (e : ET) (l : List ET) : shortER (e :: l) = (shortE e && shortER l) := by simp [shortER]
theorem shortER_nil : shortER [] = true := by simp [shortER]
section
set_option maxRecDepth 100000 in
set_option maxHeartbeats 6400000 in
theorem budgetE_ok (M : Nat) : ∀ (N : Nat) (t : ET), t.size ≤ N → ∀ (left deep : Int) (w : World), M ≤ w.heap.size → HeldE w M t → 0 ≤ left → left ≤ 1000000 → 0 ≤ deep → deep ≤ 1000000 →
    Calls Tryz.prog 32 #[.agg #[.int .i64 t.k, .int .i64 t.d.k, .bool t.d.g, .slice t.d.la t.d.ln t.d.lc, .bool t.d.bb, .string t.d.s, .slice t.d.ia t.d.items.length t.d.ic, .slice t.d.ta t.d.tail.length t.d.tc, .int .i64 t.v, .slice t.va t.vs.length t.vc, .bool t.rs, .int .i64 t.p, .slice t.ka t.kids.length t.kc], .int .i64 left, .int .i64 deep] w fun e w' => e = .returned (.int .i64 (budE t left deep)) ∧ Below w.heap.size w w' := by
  intro N
  induction N with
  | zero => intro t ht; rw [t.size_eq] at ht; omega
  | succ N ih =>
    intro t ht left deep w hM hH hl0 hl1 hd0 hd1
    have IH := Lib.hid ih
    clear ih
    have hb0 : ∀ O, Below w.heap.size w (w.alloc O) := fun O => (Below.refl _ w).alloc (Nat.le_refl _) _
    by_cases hx : left - 1 < 0
    · have HR := Lib.hid (show budE t left deep = -1 by rw [budE_eq, if_pos (.inl hx)])
      go_enter Tryz.func32, Tryz.ntmps32
      go_wp2_with fail
      go_ret
      exact ⟨by rw [HR.out]; rfl, hb0 _⟩
    by_cases hy : deep ≤ 0
    · have HR := Lib.hid (show budE t left deep = -1 by rw [budE_eq, if_pos (.inr hy)])
      go_enter Tryz.func32, Tryz.ntmps32
      go_wp2_with fail
      go_ret
      exact ⟨by rw [HR.out]; rfl, hb0 _⟩
    have HT := Lib.hid (show budE t left deep = budER t.kids (left - 1) (deep - 1) by rw [budE_eq, if_neg (by omega)])
    have HSZ := Lib.hid (show sizesE t.kids ≤ N by rw [t.size_eq] at ht; omega)
    have hsp := hH.2.1
    have HLI := Lib.hid hH.2.2
    clear hH ht
    go_enter Tryz.func32, Tryz.ntmps32
    go_wp2_with fail
    generalize t.kids = l at *
    obtain ⟨ka, hka⟩ : ∃ a, t.ka = a := ⟨_, rfl⟩
    rw [hka] at hsp HLI
    rw [hka]
    clear hka
    have hsz := hsp.2.1
    have hsc := hsp.1
    unfold maxLen at hsz
    go_loopw [1, 20] (fun lf i wr => ∃ (k : Nat) (L' : Int), k ≤ l.length ∧ i = .int .i64 k ∧ lf = .int .i64 L' ∧ 0 ≤ L' ∧ L' ≤ left ∧ Hid (budE t left deep = budER (l.drop k) L' (deep - 1)) ∧ Below w.heap.size w wr) (fun _ i _ => l.length - (intOf i).toNat)
    case atStart => exact ⟨0, left - 1, Nat.zero_le _, rfl, rfl, by omega, by omega, Lib.hid (by rw [HT.out, List.drop_zero]), hb0 _⟩
    case round =>
      obtain ⟨k, L', hk, rfl, rfl, hm0, hm1, HK, hbs⟩ := hrel
      clear hb0
      by_cases hlk : k < l.length
      · obtain ⟨gb, go, hae, hR⟩ : ∃ gb go, ka = some ⟨gb, go, none⟩ ∧ LiesER w M l gb go := ⟨_, _, (hsp.2.2.1 (by omega)).1, HLI.out⟩
        have hli := ((liesER_iff _ _ _).1 hR k hlk).keep hbs.size (fun q hq => hbs.block q (by omega))
        obtain ⟨hgbM, hcell, hheld⟩ := liesE_held.1 hli
        have hsz1 := sizesE_mem hlk
        have hdr := List.drop_eq_getElem_cons hlk
        clear hsp
        subst hae
        obtain ⟨u, hu⟩ : ∃ u, l[k] = u := ⟨_, rfl⟩
        rw [hu] at hcell hheld hsz1 hdr
        rw [Nat.mul_comm 13 k] at hcell
        have d0 : wr.cell? ⟨gb, go + k * 13, none⟩ = some (.int .i64 u.k) := hcell 0 _ rfl
        have d1 : wr.cell? ⟨gb, go + k * 13 + 1, none⟩ = some (.int .i64 u.d.k) := hcell 1 _ rfl
        have d2 : wr.cell? ⟨gb, go + k * 13 + 2, none⟩ = some (.bool u.d.g) := hcell 2 _ rfl
        have d3 : wr.cell? ⟨gb, go + k * 13 + 3, none⟩ = some (.slice u.d.la u.d.ln u.d.lc) := hcell 3 _ rfl
        have d4 : wr.cell? ⟨gb, go + k * 13 + 4, none⟩ = some (.bool u.d.bb) := hcell 4 _ rfl
        have d5 : wr.cell? ⟨gb, go + k * 13 + 5, none⟩ = some (.string u.d.s) := hcell 5 _ rfl
        have d6 : wr.cell? ⟨gb, go + k * 13 + 6, none⟩ = some (.slice u.d.ia u.d.items.length u.d.ic) := hcell 6 _ rfl
        have d7 : wr.cell? ⟨gb, go + k * 13 + 7, none⟩ = some (.slice u.d.ta u.d.tail.length u.d.tc) := hcell 7 _ rfl
        have d8 : wr.cell? ⟨gb, go + k * 13 + 8, none⟩ = some (.int .i64 u.v) := hcell 8 _ rfl
        have d9 : wr.cell? ⟨gb, go + k * 13 + 9, none⟩ = some (.slice u.va u.vs.length u.vc) := hcell 9 _ rfl
        have d10 : wr.cell? ⟨gb, go + k * 13 + 10, none⟩ = some (.bool u.rs) := hcell 10 _ rfl
        have d11 : wr.cell? ⟨gb, go + k * 13 + 11, none⟩ = some (.int .i64 u.p) := hcell 11 _ rfl
        have d12 : wr.cell? ⟨gb, go + k * 13 + 12, none⟩ = some (.slice u.ka u.kids.length u.kc) := hcell 12 _ rfl
        have hba : Below wr.heap.size wr (wr.alloc (Obj.cells #[.int .i64 u.k, .int .i64 u.d.k, .bool u.d.g, .slice u.d.la u.d.ln u.d.lc, .bool u.d.bb, .string u.d.s, .slice u.d.ia u.d.items.length u.d.ic, .slice u.d.ta u.d.tail.length u.d.tc, .int .i64 u.v, .slice u.va u.vs.length u.vc, .bool u.rs, .int .i64 u.p, .slice u.ka u.kids.length u.kc] 31)) := (Below.refl _ _).alloc (Nat.le_refl _) _
        have hMs : M ≤ wr.heap.size := Nat.le_trans hM hbs.size
        have HC := Lib.hid (IH.out u (Nat.le_trans hsz1 HSZ.out) L' (deep - 1) (wr.alloc (Obj.cells #[.int .i64 u.k, .int .i64 u.d.k, .bool u.d.g, .slice u.d.la u.d.ln u.d.lc, .bool u.d.bb, .string u.d.s, .slice u.d.ia u.d.items.length u.d.ic, .slice u.d.ta u.d.tail.length u.d.tc, .int .i64 u.v, .slice u.va u.vs.length u.vc, .bool u.rs, .int .i64 u.p, .slice u.ka u.kids.length u.kc] 31)) (Nat.le_trans hMs hba.size) (hheld.keep hba.size (fun q hq => hba.block q (by omega))) hm0 (by omega) (by omega) (by omega))
        have HBA := Lib.hid (bnext hbs hba)
        have hbd := budE_bd u L' (deep - 1) hm0
        have HK2 := Lib.hid (show budE t left deep = if budE u L' (deep - 1) < 0 then -1 else budER (l.drop (k + 1)) (budE u L' (deep - 1)) (deep - 1) by rw [HK.out, hdr, budER_cons])
        clear hli hcell hheld hsz1 hdr hba hR
        generalize budE u L' (deep - 1) = r at *
        go_wp2_with fail
        refine HC.out.mono ?_
        rintro e w6 ⟨rfl, b6⟩
        have hb6 := bnext HBA.out b6
        obtain ⟨hr0, hr1⟩ := hbd
        by_cases hr : r < 0
        · have HF := Lib.hid (show budE t left deep = -1 by rw [HK2.out, if_pos hr])
          go_wp2_with fail
          go_ret
          exact ⟨by rw [HF.out]; rfl, hb6⟩
        · have HG := Lib.hid (show budE t left deep = budER (l.drop (k + 1)) r (deep - 1) by rw [HK2.out, if_neg hr])
          go_wp2_with fail
          go_roundw
          case rel => exact ⟨k + 1, r, by omega, by go_num, rfl, by omega, by omega, HG, hb6⟩
          case measure => simp [intOf]; omega
      · obtain rfl : k = l.length := by omega
        have HE := Lib.hid (show budE t left deep = L' by rw [HK.out, List.drop_length, budER_nil])
        go_wp2_with fail
        go_ret
        exact ⟨by rw [HE.out]; rfl, hbs⟩
set_option maxRecDepth 100000 in
theorem smallE_any (M : Nat) (t : ET) (most : Int) (w : World) (hM : M ≤ w.heap.size) (hH : HeldE w M t) (hl0 : 0 ≤ most) (hl1 : most ≤ 1000000) :
    Calls Tryz.prog 16 #[.agg #[.int .i64 t.k, .int .i64 t.d.k, .bool t.d.g, .slice t.d.la t.d.ln t.d.lc, .bool t.d.bb, .string t.d.s, .slice t.d.ia t.d.items.length t.d.ic, .slice t.d.ta t.d.tail.length t.d.tc, .int .i64 t.v, .slice t.va t.vs.length t.vc, .bool t.rs, .int .i64 t.p, .slice t.ka t.kids.length t.kc], .int .i64 most] w fun e w' => e = .returned (.bool (decide (0 ≤ budE t most 300))) ∧ Below w.heap.size w w' := by
  have hb0 : Below w.heap.size w (w.alloc (Obj.cells #[.int .i64 t.k, .int .i64 t.d.k, .bool t.d.g, .slice t.d.la t.d.ln t.d.lc, .bool t.d.bb, .string t.d.s, .slice t.d.ia t.d.items.length t.d.ic, .slice t.d.ta t.d.tail.length t.d.tc, .int .i64 t.v, .slice t.va t.vs.length t.vc, .bool t.rs, .int .i64 t.p, .slice t.ka t.kids.length t.kc] 31)) := (Below.refl _ w).alloc (Nat.le_refl _) _
  have HC := Lib.hid (budgetE_ok M t.size t (Nat.le_refl _) most 300 (w.alloc (Obj.cells #[.int .i64 t.k, .int .i64 t.d.k, .bool t.d.g, .slice t.d.la t.d.ln t.d.lc, .bool t.d.bb, .string t.d.s, .slice t.d.ia t.d.items.length t.d.ic, .slice t.d.ta t.d.tail.length t.d.tc, .int .i64 t.v, .slice t.va t.vs.length t.vc, .bool t.rs, .int .i64 t.p, .slice t.ka t.kids.length t.kc] 31)) (Nat.le_trans hM hb0.size) (hH.below hM hb0) hl0 hl1 (by decide) (by decide))
  have HB := Lib.hid hb0
  clear hb0 hH
  generalize budE t most 300 = r at *
  go_enter Tryz.func16, Tryz.ntmps16
  go_wp2_with fail
  refine HC.out.mono ?_
  rintro e w6 ⟨rfl, b6⟩
  have hb6 := bnext HB.out b6
  go_wp2_with fail
  go_ret
  exact ⟨rfl, hb6⟩
theorem shortER_drop {l : List ET} {k : Nat} (h : k < l.length) : shortER (l.drop k) = (shortE l[k] && shortER (l.drop (k + 1))) := by rw [List.drop_eq_getElem_cons h, shortER_cons]
set_option maxRecDepth 100000 in
set_option maxHeartbeats 6400000 in
theorem shortE_any (M : Nat) : ∀ (N : Nat), N ≤ 1000000 → ∀ (t : ET), t.size ≤ N → ∀ (w : World), M ≤ w.heap.size → HeldE w M t →
    Calls Tryz.prog 17 #[.agg #[.int .i64 t.k, .int .i64 t.d.k, .bool t.d.g, .slice t.d.la t.d.ln t.d.lc, .bool t.d.bb, .string t.d.s, .slice t.d.ia t.d.items.length t.d.ic, .slice t.d.ta t.d.tail.length t.d.tc, .int .i64 t.v, .slice t.va t.vs.length t.vc, .bool t.rs, .int .i64 t.p, .slice t.ka t.kids.length t.kc]] w fun e w' => e = .returned (.bool (shortE t)) ∧ Below w.heap.size w w' := by
  intro N
  induction N with
  | zero => intro _ t ht; rw [t.size_eq] at ht; omega
  | succ N ih =>
    intro hN t ht w hM hH
    have IH := Lib.hid (ih (by omega))
    clear ih
    have hb0 : ∀ O, Below w.heap.size w (w.alloc O) := fun O => (Below.refl _ w).alloc (Nat.le_refl _) _
    have HSZ := Lib.hid (show sizesE t.kids ≤ N by rw [t.size_eq] at ht; omega)
    have hsp := hH.2.1
    have HLI := Lib.hid hH.2.2
    have HT := Lib.hid (shortE_eq t)
    have hvs := hH.1.2.1.1
    have hvc := hH.1.2.1.2.1
    unfold maxLen at hvc
    have hs := fun W (hb : Below w.heap.size w W) => small_any M t.d 100 30 W (Nat.le_trans hM hb.size) (hH.1.1.keep hb.size fun q hq => hb.block q (by omega)) (by decide) (by decide) (by decide) (by decide)
    unfold LT.val at hs
    have HS := Lib.hid hs
    clear hs ht hH
    by_cases hv : 30 < t.vs.length
    · have q1 : decide (30 < (t.vs.length : Int)) = true := decide_eq_true (by omega)
      have HE := Lib.hid (show shortE t = false by rw [HT.out, decide_eq_false (show ¬ t.vs.length ≤ 30 by omega)]; rfl)
      go_enter Tryz.func17, Tryz.ntmps17
      go_wp2_with fail
      go_ret
      exact ⟨by rw [HE.out]; rfl, hb0 _⟩
    have q1 : decide (30 < (t.vs.length : Int)) = false := decide_eq_false (by omega)
    have HT2 := Lib.hid (show shortE t = (decide (0 ≤ budT t.d 100 30) && shortER t.kids) by rw [HT.out, decide_eq_true (show t.vs.length ≤ 30 by omega)]; rfl)
    obtain ⟨sm, hsm⟩ : ∃ b, decide (0 ≤ budT t.d 100 30) = b := ⟨_, rfl⟩
    rw [hsm] at HS HT2
    obtain ⟨W0, hW0⟩ : ∃ W, w.alloc (Obj.cells #[.int .i64 t.k, .int .i64 t.d.k, .bool t.d.g, .slice t.d.la t.d.ln t.d.lc, .bool t.d.bb, .string t.d.s, .slice t.d.ia t.d.items.length t.d.ic, .slice t.d.ta t.d.tail.length t.d.tc, .int .i64 t.v, .slice t.va t.vs.length t.vc, .bool t.rs, .int .i64 t.p, .slice t.ka t.kids.length t.kc] 31) = W := ⟨_, rfl⟩
    have h0n : W0.heap[w.heap.size]? = some (Obj.cells #[.int .i64 t.k, .int .i64 t.d.k, .bool t.d.g, .slice t.d.la t.d.ln t.d.lc, .bool t.d.bb, .string t.d.s, .slice t.d.ia t.d.items.length t.d.ic, .slice t.d.ta t.d.tail.length t.d.tc, .int .i64 t.v, .slice t.va t.vs.length t.vc, .bool t.rs, .int .i64 t.p, .slice t.ka t.kids.length t.kc] 31) := hW0 ▸ World.alloc_heap_new _ _
    have h0s : W0.heap.size = w.heap.size + 1 := by rw [← hW0]; exact World.size_alloc ..
    have HB := Lib.hid (show Below w.heap.size w W0 from hW0 ▸ hb0 _)
    have HN := Lib.hid h0n
    have HW := Lib.hid hW0
    clear h0n hW0 hsm HT
    go_enter Tryz.func17, Tryz.ntmps17
    go_wp2_with fail
    rw [HW.out]
    refine (HS.out _ HB.out).mono ?_
    rintro e w1 ⟨rfl, b1⟩
    have h1n := (b1.block w.heap.size (by omega)).trans HN.out
    have hb1 := bnext HB.out b1
    have d12 : w1.cell? ⟨w.heap.size, 12, none⟩ = some (.slice t.ka t.kids.length t.kc) := by rw [Lib.cell_of_heap h1n]; rfl
    clear h1n b1
    cases sm
    · have HE := Lib.hid (show shortE t = false by rw [HT2.out]; rfl)
      go_wp2_with fail
      go_ret
      exact ⟨by rw [HE.out]; rfl, hb1⟩
    have HT3 := Lib.hid (show shortE t = shortER t.kids by rw [HT2.out]; rfl)
    clear HT2
    generalize t.kids = l at *
    obtain ⟨ka, hka⟩ : ∃ a, t.ka = a := ⟨_, rfl⟩
    rw [hka] at hsp HLI d12
    clear hka
    have hsz := hsp.2.1
    have hsc := hsp.1
    unfold maxLen at hsz
    go_wp2_with fail
    go_loopw [18] (fun i wr => ∃ (k : Nat), k ≤ l.length ∧ i = .int .i64 k ∧ Hid (shortE t = shortER (l.drop k)) ∧ Below w.heap.size w wr) (fun i _ => l.length - (intOf i).toNat)
    case atStart => exact ⟨0, Nat.zero_le _, rfl, Lib.hid (by rw [HT3.out, List.drop_zero]), hb1⟩
    case round =>
      obtain ⟨k, hk, rfl, HK, hbs⟩ := hrel
      clear hb1 hb0 d12
      by_cases hlk : k < l.length
      · obtain ⟨gb, go, hae, hR⟩ : ∃ gb go, ka = some ⟨gb, go, none⟩ ∧ LiesER w M l gb go := ⟨_, _, (hsp.2.2.1 (by omega)).1, HLI.out⟩
        have hli := ((liesER_iff _ _ _).1 hR k hlk).keep hbs.size (fun q hq => hbs.block q (by omega))
        obtain ⟨hgbM, hcell, hheld⟩ := liesE_held.1 hli
        have hsz1 := sizesE_mem hlk
        have hdr := shortER_drop hlk
        clear hsp
        subst hae
        obtain ⟨u, hu⟩ : ∃ u, l[k] = u := ⟨_, rfl⟩
        rw [hu] at hcell hheld hsz1 hdr
        rw [Nat.mul_comm 13 k] at hcell
        have d0 : wr.cell? ⟨gb, go + k * 13, none⟩ = some (.int .i64 u.k) := hcell 0 _ rfl
        have d1 : wr.cell? ⟨gb, go + k * 13 + 1, none⟩ = some (.int .i64 u.d.k) := hcell 1 _ rfl
        have d2 : wr.cell? ⟨gb, go + k * 13 + 2, none⟩ = some (.bool u.d.g) := hcell 2 _ rfl
        have d3 : wr.cell? ⟨gb, go + k * 13 + 3, none⟩ = some (.slice u.d.la u.d.ln u.d.lc) := hcell 3 _ rfl
        have d4 : wr.cell? ⟨gb, go + k * 13 + 4, none⟩ = some (.bool u.d.bb) := hcell 4 _ rfl
        have d5 : wr.cell? ⟨gb, go + k * 13 + 5, none⟩ = some (.string u.d.s) := hcell 5 _ rfl
        have d6 : wr.cell? ⟨gb, go + k * 13 + 6, none⟩ = some (.slice u.d.ia u.d.items.length u.d.ic) := hcell 6 _ rfl
        have d7 : wr.cell? ⟨gb, go + k * 13 + 7, none⟩ = some (.slice u.d.ta u.d.tail.length u.d.tc) := hcell 7 _ rfl
        have d8 : wr.cell? ⟨gb, go + k * 13 + 8, none⟩ = some (.int .i64 u.v) := hcell 8 _ rfl
        have d9 : wr.cell? ⟨gb, go + k * 13 + 9, none⟩ = some (.slice u.va u.vs.length u.vc) := hcell 9 _ rfl
        have d10 : wr.cell? ⟨gb, go + k * 13 + 10, none⟩ = some (.bool u.rs) := hcell 10 _ rfl
        have d11 : wr.cell? ⟨gb, go + k * 13 + 11, none⟩ = some (.int .i64 u.p) := hcell 11 _ rfl
        have d12 : wr.cell? ⟨gb, go + k * 13 + 12, none⟩ = some (.slice u.ka u.kids.length u.kc) := hcell 12 _ rfl
        have hba : Below wr.heap.size wr (wr.alloc (Obj.cells #[.int .i64 u.k, .int .i64 u.d.k, .bool u.d.g, .slice u.d.la u.d.ln u.d.lc, .bool u.d.bb, .string u.d.s, .slice u.d.ia u.d.items.length u.d.ic, .slice u.d.ta u.d.tail.length u.d.tc, .int .i64 u.v, .slice u.va u.vs.length u.vc, .bool u.rs, .int .i64 u.p, .slice u.ka u.kids.length u.kc] 31)) := (Below.refl _ _).alloc (Nat.le_refl _) _
        have hMs : M ≤ wr.heap.size := Nat.le_trans hM hbs.size
        have HC := Lib.hid (IH.out u (Nat.le_trans hsz1 HSZ.out) (wr.alloc (Obj.cells #[.int .i64 u.k, .int .i64 u.d.k, .bool u.d.g, .slice u.d.la u.d.ln u.d.lc, .bool u.d.bb, .string u.d.s, .slice u.d.ia u.d.items.length u.d.ic, .slice u.d.ta u.d.tail.length u.d.tc, .int .i64 u.v, .slice u.va u.vs.length u.vc, .bool u.rs, .int .i64 u.p, .slice u.ka u.kids.length u.kc] 31)) (Nat.le_trans hMs hba.size) (hheld.keep hba.size (fun q hq => hba.block q (by omega))))
        have HBA := Lib.hid (bnext hbs hba)
        have HK2 := Lib.hid (show shortE t = (shortE u && shortER (l.drop (k + 1))) by rw [HK.out, hdr])
        clear hli hcell hheld hsz1 hdr hba hR
        generalize shortE u = r at *
        go_wp2_with fail
        refine HC.out.mono ?_
        rintro e w6 ⟨rfl, b6⟩
        have hb6 := bnext HBA.out b6
        cases r
        · have HF := Lib.hid (show shortE t = false by rw [HK2.out]; rfl)
          go_wp2_with fail
          go_ret
          exact ⟨by rw [HF.out]; rfl, hb6⟩
        · have HG := Lib.hid (show shortE t = shortER (l.drop (k + 1)) by rw [HK2.out]; rfl)
          go_wp2_with fail
          go_roundw
          case rel => exact ⟨k + 1, by omega, by go_num, HG, hb6⟩
          case measure => simp [intOf]; omega
      · obtain rfl : k = l.length := by omega
        have HE := Lib.hid (show shortE t = true by rw [HK.out, List.drop_length, shortER_nil])
        go_wp2_with fail
        go_ret
        exact ⟨by rw [HE.out]; rfl, hbs⟩
end
end
end Go.Proofs.YthdhdmmlmbkalaaGreatDoor
namespace Go.Proofs.YthdhdmmlmbkalaaGreatDoor
section
open Go.RowKit

/-- All blocks of w but those of X lie in w' as they lay. -/
def But (X : Nat → Prop) (w w' : World) : Prop := w.heap.size ≤ w'.heap.size ∧ ∀ k, k < w.heap.size → ¬ X k → w'.heap[k]? = w.heap[k]?
theorem But.refl (X : Nat → Prop) (w : World) : But X w w := ⟨Nat.le_refl _, fun _ _ _ => rfl⟩
theorem But.trans {X : Nat → Prop} {a b c : World} (h : But X a b) (k : But X b c) : But X a c :=
  ⟨Nat.le_trans h.1 k.1, fun i hi hx => (k.2 i (Nat.lt_of_lt_of_le hi h.1) hx).trans (h.2 i hi hx)⟩
theorem But.mono {X Y : Nat → Prop} {a b : World} (h : But X a b) (hxy : ∀ k, X k → Y k) : But Y a b := ⟨h.1, fun k hk hy => h.2 k hk fun hx => hy (hxy k hx)⟩
theorem But.putObj (X : Nat → Prop) (w : World) (l : Nat) (o : Obj) (hl : X l) : But X w (w.putObj l o) :=
  ⟨by simp, fun k _ hk => World.putObj_heap_other (fun e => hk (e ▸ hl))⟩
theorem But.setCell (X : Nat → Prop) (w : World) (a : Addr) (v : Value) (hl : X a.block) : But X w (w.setCell a v) :=
  ⟨(KeepsWalks.setCell w a v).size, fun k _ hk => Below.heap_setCell w a v k (fun e => hk (e ▸ hl))⟩
theorem But.drew {X : Nat → Prop} {a b : World} (h : But X a b) : But X a b.drew := h
theorem But.alloc {X : Nat → Prop} {a b : World} (h : But X a b) (o : Obj) : But X a (b.alloc o) :=
  h.trans ⟨by simp, fun k hk _ => Below.heap_alloc b o k hk⟩
theorem But.below {X : Nat → Prop} {B : Nat} {a b c : World} (h : But X a b) (k : Below B b c) (hB : a.heap.size ≤ B) : But X a c :=
  ⟨Nat.le_trans h.1 k.size, fun i hi hx => (k.block i (by omega)).trans (h.2 i hi hx)⟩

/-- WHAT AN ITERATOR PROMISES: called with yield it tells enc 0, .., enc (N - 1), as long as yield says so; the caller's J abides whatever happens to blocks from the loop's begin on; a round may write X alone. -/
def Runs (F : Fence) (n : Nat) (P : Program) (g : Nat) (lb : Array Value) (encs : Nat → Array Value) (N : Nat) (X : Nat → Prop) (w : World) : Prop :=
  ∀ (l : Nat) (J Jx : Nat → World → Prop) (W : World), Below w.heap.size w W → (∀ r, X r → r < W.heap.size) → (∀ k A B, Below W.heap.size A B → J k A → J k B) → (∀ k A B, Below W.heap.size A B → Jx k A → Jx k B) →
    (∀ k W1, k < N → J k W1 → YieldAt F (n - 1) P l (encs k) W1 fun e W' =>
      (e = .returned (.bool true) ∧ J (k + 1) W' ∧ But X W1 W') ∨ (e = .returned (.bool false) ∧ Jx k W')) →
    J 0 W →
    CallsIn F n P g (#[.func (.yield l) #[] #[]] ++ lb) W fun e W' => (∃ v, e = .returned v) ∧ (J N W' ∨ ∃ k, k < N ∧ Jx k W')

/-- How the body of a round may be left. -/
def runPost (X : Nat → Prop) (I : Nat → World → Prop) (Ix : Code → Nat → World → Prop) (k : Nat) (W : World) : Exit → Act → World → Prop
  | .normal, _, W' => But X W W' ∧ I (k + 1) W'
  | .ret, _, W' => But X W W' ∧ Ix .ret k W'
  | .exit id, _, W' => But X W W' ∧ Ix (.exit id) k W'
  | .goto t, _, W' => But X W W' ∧ Ix (.goto t) k W'
  | .panic _, _, _ => False
  | .outgrown, _, _ => False

variable {F : Fence} {n : Nat} {P : Program}

/-- What the caller owes. -/
theorem wpIn_runs {g : Operand} {ps : Array Tmp} {assign body : Code} {Q : Exit → Act → World → Prop} {a : Act} {w : World}
    (hro : F.round = none) (h1 : 1 ≤ n) {gf : Nat} {lb : Array Value} (hg : a.eval g = .func (.func gf) #[] lb) (hFg : F.fn gf) (eg : ∀ args w, (callFunc gf args).run P w = .ok (.enter gf args) w)
    {encs : Nat → Array Value} {N : Nat} {X : Nat → Prop} {w0 : World} (hseq : Runs F (n - 1) P gf lb encs N (fun r => X r ∨ r = w.heap.size + 1) w0)
    (hX : ∀ r, X r → r < w.heap.size) (hb0 : Below w0.heap.size w0 w) (hps : ∀ k, (encs k).size = ps.size)
    (I : Nat → World → Prop) (Ix : Code → Nat → World → Prop) (hI : ∀ k A B, Below w.heap.size A B → I k A → I k B) (hIx : ∀ c k A B, Below w.heap.size A B → Ix c k A → Ix c k B) (h0 : I 0 w) (a₁ : Nat → Act)
    (hassign : ∀ (l k : Nat) (W : World) (K : Act → World → Prop), k < N → K (a₁ k) W →
      assign.wpIn (F.inRound l) (n - 1 - 1) P (Exit.then K (fun _ _ _ => False)) { tmps := (ps.zip (encs k)).foldl (fun t (p, v) => t.setIfInBounds p v) a.tmps, defers := [] } W)
    (hbody : ∀ (l k : Nat) (W : World), k < N → I k W → body.wpIn (F.inRound l) (n - 1 - 1) P (runPost X I Ix k W) (a₁ k) W)
    (hdone : ∀ (D : Nat) (W : World), w.heap.size ≤ D → I N W → W.heap[D]? = some (.deferred (some [])) → Q .normal { a with defers := { target := .collected D, args := #[] } :: a.defers } W)
    (hstop : ∀ (D : Nat) (c : Code) (k : Nat) (W : World), w.heap.size ≤ D → k < N → Ix c k W → W.heap[D]? = some (.deferred (some [])) → c.wpIn F n P Q { a with defers := { target := .collected D, args := #[] } :: a.defers } W) :
    (Code.rangeFunc g ps assign body).wpIn F n P Q a w := by
  refine wpIn_rangeFunc ?_
  intro fn hfn
  rw [hro]
  obtain ⟨rec, hrec⟩ : ∃ rec : LoopState → Option Code → Loop, rec = fun st pe => { state := st, pending := pe, fn, tmps := a.tmps, params := ps, assign, body, defers := w.heap.size } := ⟨_, rfl⟩
  obtain ⟨W1, hW1⟩ : ∃ W1, (w.alloc (.deferred (some []))).alloc (.loop (rec .ready none)) = W1 := ⟨_, rfl⟩
  have hsz : W1.heap.size = w.heap.size + 2 := by rw [← hW1]; simp
  have hL1 : W1.heap[w.heap.size + 1]? = some (.loop (rec .ready none)) := by
    rw [← hW1]; have := World.alloc_heap_new (w.alloc (.deferred (some []))) (.loop (rec .ready none)); rwa [World.size_alloc] at this
  have hK1 : W1.heap[w.heap.size]? = some (.deferred (some [])) := by
    rw [← hW1]; exact (Below.heap_alloc _ _ _ (by simp)).trans (World.alloc_heap_new w _)
  have hbw : Below w.heap.size w W1 := by rw [← hW1]; exact ((Below.refl _ w).alloc (Nat.le_refl _) _).alloc (by simp) _
  have hput : ∀ (W : World) (o : Obj), Below w.heap.size W (W.putObj (w.heap.size + 1) o) := fun W o =>
    ⟨rfl, rfl, rfl, by simp, fun k hk => World.putObj_heap_other (by omega)⟩
  refine ⟨w.heap.size + 1, [{ target := .collected w.heap.size, args := #[] }], W1, { target := .fn (.func gf) lb, args := #[.func (.yield (w.heap.size + 1)) #[] #[]] }, W1, gf,
    #[.func (.yield (w.heap.size + 1)) #[] #[]] ++ lb, W1, ?_, ?_, ?_, ?_, fun _ => h1, ?_⟩
  · rw [← hW1, hrec]; exact run_enterLoop_outer _ _ _ _ _
  · simp only [resolve, hg]
    simp [go_sem]
  · intro f' hf'; simp [Target.leads] at hf'; subst hf'; exact hFg
  · simp [invoke, go_sem, eg]
  · refine (hseq (w.heap.size + 1)
      (fun k W => I k W ∧ W.heap[w.heap.size + 1]? = some (.loop (rec .ready none)) ∧ W.heap[w.heap.size]? = some (.deferred (some [])))
      (fun k W => ∃ c, Ix c k W ∧ W.heap[w.heap.size + 1]? = some (.loop (rec .done (some c))) ∧ W.heap[w.heap.size]? = some (.deferred (some [])))
      W1 (hb0.trans (hbw.mono hb0.size)) (fun r hr => by rcases hr with hr | rfl <;> first | (have := hX _ hr; omega) | omega)
      (fun k A B hAB ⟨hi, hl, hk⟩ => ⟨hI k A B (hAB.mono (by omega)) hi, (hAB.block _ (by omega)).trans hl, (hAB.block _ (by omega)).trans hk⟩)
      (fun k A B hAB ⟨c, hi, hl, hk⟩ => ⟨c, hIx c k A B (hAB.mono (by omega)) hi, (hAB.block _ (by omega)).trans hl, (hAB.block _ (by omega)).trans hk⟩)
      ?_ ⟨hI 0 _ _ hbw h0, hL1, hK1⟩).mono ?_
    · rintro k W hkN ⟨hi, hl, hk⟩
      have hlt : w.heap.size + 1 < W.heap.size := (Array.getElem?_eq_some_iff.1 hl).1
      have hy := run_yield (P := P) (args := encs k) hl (by rw [hrec]; exact hps k)
      rw [hrec] at hy
      refine ⟨fn, _, assign, body, hy, roundIn_of_wpIn hfn (hassign _ k W _ hkN ⟨_, run_beginRound hl (by rw [hrec]), ?_⟩)⟩
      generalize hbusy : Obj.loop { rec .ready none with state := .busy } = ob
      have hl2 : (W.putObj (w.heap.size + 1) ob).heap[w.heap.size + 1]? = some ob := World.putObj_heap_same hlt
      have hk2 : (W.putObj (w.heap.size + 1) ob).heap[w.heap.size]? = some (.deferred (some [])) := (World.putObj_heap_other (by omega)).trans hk
      have hsz2 : (W.putObj (w.heap.size + 1) ob).heap.size = W.heap.size := by simp
      refine wpIn_mono (hbody _ k _ hkN (hI k _ _ (hput W ob) hi)) ?_
      have fin : ∀ (jump : Option Code) (W3 : World), But X (W.putObj (w.heap.size + 1) ob) W3 →
          (Instr.endRound (w.heap.size + 1) jump).run P W3 = .ok (.bool jump.isNone) (W3.putObj (w.heap.size + 1) (.loop (rec (if jump.isNone then .ready else .done) jump))) ∧
          (W3.putObj (w.heap.size + 1) (.loop (rec (if jump.isNone then .ready else .done) jump))).heap[w.heap.size + 1]? = some (.loop (rec (if jump.isNone then .ready else .done) jump)) ∧
          (W3.putObj (w.heap.size + 1) (.loop (rec (if jump.isNone then .ready else .done) jump))).heap[w.heap.size]? = some (.deferred (some [])) ∧
          But (fun r => X r ∨ r = w.heap.size + 1) W (W3.putObj (w.heap.size + 1) (.loop (rec (if jump.isNone then .ready else .done) jump))) := fun jump W3 hk3 => by
        have hl3 : W3.heap[w.heap.size + 1]? = some ob := (hk3.2 _ (by omega) (fun h => by have := hX _ h; omega)).trans hl2
        have hd3 : W3.heap[w.heap.size]? = some (.deferred (some [])) := (hk3.2 _ (by omega) (fun h => by have := hX _ h; omega)).trans hk2
        rw [← hbusy] at hl3
        have := run_endRound (P := P) jump hl3
        rw [hrec] at this ⊢
        refine ⟨this, World.putObj_heap_same (Array.getElem?_eq_some_iff.1 hl3).1, (World.putObj_heap_other (by omega)).trans hd3, ?_⟩
        exact ((But.putObj _ W _ _ (.inr rfl)).trans (hk3.mono fun _ => .inl)).trans (But.putObj _ _ _ _ (.inr rfl))
      rintro e a3 W3 hp
      cases e with
      | normal =>
        obtain ⟨hk3, hi3⟩ := hp
        obtain ⟨hr, hl4, hk4, hb4⟩ := fin none W3 hk3
        exact ⟨_, _, hr, .inl ⟨rfl, ⟨hI _ _ _ (hput _ _) hi3, hl4, hk4⟩, hb4⟩⟩
      | ret =>
        obtain ⟨hk3, hi3⟩ := hp
        obtain ⟨hr, hl4, hk4, hb4⟩ := fin (some .ret) W3 hk3
        exact ⟨_, _, hr, .inr ⟨rfl, .ret, hIx _ _ _ _ (hput _ _) hi3, hl4, hk4⟩⟩
      | exit id =>
        obtain ⟨hk3, hi3⟩ := hp
        obtain ⟨hr, hl4, hk4, hb4⟩ := fin (some (.exit id)) W3 hk3
        exact ⟨_, _, hr, .inr ⟨rfl, .exit id, hIx _ _ _ _ (hput _ _) hi3, hl4, hk4⟩⟩
      | goto t =>
        obtain ⟨hk3, hi3⟩ := hp
        obtain ⟨hr, hl4, hk4, hb4⟩ := fin (some (.goto t)) W3 hk3
        exact ⟨_, _, hr, .inr ⟨rfl, .goto t, hIx _ _ _ _ (hput _ _) hi3, hl4, hk4⟩⟩
      | panic ch => exact hp.elim
      | outgrown => exact hp.elim
    · rintro e W2 ⟨⟨v, rfl⟩, (⟨hi, hl, hk⟩ | ⟨k, hkN, c, hi, hl, hk⟩)⟩
      · exact ⟨none, _, by have := run_endLoop (P := P) hl (by rw [hrec]; simp); rw [hrec] at this; exact this, hdone _ _ (Nat.le_refl _) (hI _ _ _ (hput _ _) hi) ((World.putObj_heap_other (by omega)).trans hk)⟩
      · exact ⟨some c, _, by have := run_endLoop (P := P) hl (by rw [hrec]; simp); rw [hrec] at this; exact this, hstop _ c k _ (Nat.le_refl _) hkN (hIx _ _ _ _ (hput _ _) hi) ((World.putObj_heap_other (by omega)).trans hk)⟩
end
end Go.Proofs.YthdhdmmlmbkalaaGreatDoor
namespace Go.Proofs.YthdhdmmlmbkalaaGreatDoor
section
open Go.RowKit

/-- What may be another one without its owner's doing: a stack of told's, a loop's record, what is deferred. -/
inductive MutE : Obj → Prop
  | stack (c : Array Value) (fr : Nat × Nat) : MutE (.cells c 29 fr)
  | loop (r : Loop) : MutE (.loop r)
  | deferred (l : Option (List Deferred)) : MutE (.deferred l)
/-- Below base all is as it was; above, only such as MutE knows is another one. -/
structure FineE (base : Nat) (w w' : World) : Prop extends Below base w w' where
  kept : ∀ i, i < w.heap.size → w'.heap[i]? = w.heap[i]? ∨ ∃ o, w.heap[i]? = some o ∧ MutE o
theorem FineE.refl (base : Nat) (w : World) : FineE base w w := ⟨Below.refl base w, fun _ _ => .inl rfl⟩
theorem FineE.trans {base : Nat} {a b c : World} (h : FineE base a b) (k : FineE base b c) : FineE base a c := ⟨h.toBelow.trans k.toBelow, fun i hi => by
  rcases h.kept i hi with e | e
  · rcases k.kept i (Nat.lt_of_lt_of_le hi h.size) with e2 | ⟨o, ho, hm⟩
    · exact .inl (e2.trans e)
    · exact .inr ⟨o, by rw [← e]; exact ho, hm⟩
  · exact .inr e⟩
theorem FineE.mono {base base' : Nat} {a b : World} (h : FineE base a b) (hb : base' ≤ base) : FineE base' a b := ⟨h.toBelow.mono hb, h.kept⟩
theorem FineE.new {base : Nat} {a b : World} (h : Below a.heap.size a b) (hb : base ≤ a.heap.size) : FineE base a b := ⟨h.mono hb, fun i hi => .inl (h.block i hi)⟩
theorem FineE.at_ {base : Nat} {a b : World} {g : Nat} {o : Obj} (h : Below base a b) (hg : a.heap[g]? = some o) (hm : MutE o) (hk : ∀ i, i < a.heap.size → i ≠ g → b.heap[i]? = a.heap[i]?) : FineE base a b := ⟨h, fun i hi => by
  by_cases e : i = g
  · subst e
    exact .inr ⟨o, hg, hm⟩
  · exact .inl (hk i hi e)⟩
/-- What is no stack, no loop's record and not deferred lies as it lay. -/
theorem FineE.still {base i : Nat} {a b : World} {o : Obj} (h : FineE base a b) (ho : a.heap[i]? = some o) (hn : ¬ MutE o) : b.heap[i]? = some o := by
  rcases h.kept i (Array.getElem?_eq_some_iff.1 ho).1 with e | ⟨o', h1, h2⟩
  · exact e.trans ho
  · rw [ho] at h1
    injection h1 with h1
    subst h1
    exact absurd h2 hn
theorem FineE.loop {base l : Nat} {A : World} {r : Loop} (o : Obj) (hb : base ≤ l) (h : A.heap[l]? = some (.loop r)) : FineE base A (A.putObj l o) :=
  FineE.at_ ⟨rfl, rfl, rfl, by simp, fun k hk => World.putObj_heap_other (by omega)⟩ h (.loop r) fun i _ hne => World.putObj_heap_other hne
/-- All blocks but those of X lie as they lay, and but such from base on as MutE doesn't know. -/
def ButE (base : Nat) (X : Nat → Prop) (w w' : World) : Prop := w.heap.size ≤ w'.heap.size ∧ ∀ k, k < w.heap.size → ¬ X k → w'.heap[k]? = w.heap[k]? ∨ (base ≤ k ∧ ∃ o, w.heap[k]? = some o ∧ ¬ MutE o)
theorem ButE.refl (base : Nat) (X : Nat → Prop) (w : World) : ButE base X w w := ⟨Nat.le_refl _, fun _ _ _ => .inl rfl⟩
theorem ButE.low {base : Nat} {X : Nat → Prop} {w w' : World} (h : ButE base X w w') {k : Nat} (hk : k < w.heap.size) (hb : k < base) (hx : ¬ X k) : w'.heap[k]? = w.heap[k]? := by
  rcases h.2 k hk hx with e | ⟨h1, _⟩
  · exact e
  · omega
theorem ButE.trans {base : Nat} {X : Nat → Prop} {a b c : World} (h : ButE base X a b) (k : ButE base X b c) : ButE base X a c := ⟨Nat.le_trans h.1 k.1, fun i hi hx => by
  rcases h.2 i hi hx with e | e
  · rcases k.2 i (Nat.lt_of_lt_of_le hi h.1) hx with e2 | ⟨h2, o, ho, hm⟩
    · exact .inl (e2.trans e)
    · exact .inr ⟨h2, o, by rw [← e]; exact ho, hm⟩
  · exact .inr e⟩
theorem ButE.mono {base : Nat} {X Y : Nat → Prop} {a b : World} (h : ButE base X a b) (hxy : ∀ k, X k → Y k) : ButE base Y a b := ⟨h.1, fun k hk hy => h.2 k hk fun hx => hy (hxy k hx)⟩
theorem ButE.more {base base' : Nat} {X : Nat → Prop} {a b : World} (h : ButE base X a b) (hb : base' ≤ base) : ButE base' X a b := ⟨h.1, fun k hk hx => by
  rcases h.2 k hk hx with e | ⟨h1, e⟩
  · exact .inl e
  · exact .inr ⟨Nat.le_trans hb h1, e⟩⟩
theorem ButE.new {base : Nat} {X : Nat → Prop} {a b : World} (h : Below a.heap.size a b) : ButE base X a b := ⟨h.size, fun k hk _ => .inl (h.block k hk)⟩
theorem But.e {base : Nat} {X : Nat → Prop} {a b : World} (h : But X a b) : ButE base X a b := ⟨h.1, fun k hk hx => .inl (h.2 k hk hx)⟩
theorem ButE.cells {base : Nat} {X : Nat → Prop} {w w' : World} (h : ButE base X w w') {k : Nat} {o : Obj} (ho : w.heap[k]? = some o) (hx : ¬ X k) (hm : MutE o) : w'.heap[k]? = some o := by
  rcases h.2 k (Array.getElem?_eq_some_iff.1 ho).1 hx with e | ⟨_, o', e, hn⟩
  · rw [e]; exact ho
  · rw [ho] at e
    injection e with e
    subst e
    exact absurd hm hn
variable {F : Fence} {n : Nat} {P : Program}

end
end Go.Proofs.YthdhdmmlmbkalaaGreatDoor
namespace Go.Proofs.YthdhdmmlmbkalaaGreatDoor
section
open Go.RowKit
attribute [local go_sem] Oper.semAt_some

/-- An expression that is told: how deep, where, and itself. -/
structure NodeE where
  lev : Nat
  b : Nat
  o : Nat
  e : ET
mutual
def seqE : ET → Nat → Nat → Nat → List NodeE
  | .mk k d v va vc vs rs p ka kc kids, lv, b, o => ⟨lv, b, o, .mk k d v va vc vs rs p ka kc kids⟩ :: seqER kids (lv + 1) (blk ka) (ofs ka)
def seqER : List ET → Nat → Nat → Nat → List NodeE
  | [], _, _, _ => []
  | e :: l, lv, b, o => seqE e lv b o ++ seqER l lv b (o + 13)
end
theorem seqE_eq (e : ET) (lv b o : Nat) : seqE e lv b o = ⟨lv, b, o, e⟩ :: seqER e.kids (lv + 1) (blk e.ka) (ofs e.ka) := by cases e; simp [seqE, ET.kids, ET.ka]
theorem seqER_nil (lv b o : Nat) : seqER [] lv b o = [] := by simp [seqER]
theorem seqER_cons (e : ET) (l : List ET) (lv b o : Nat) : seqER (e :: l) lv b o = seqE e lv b o ++ seqER l lv b (o + 13) := by simp [seqER]
mutual
theorem seqE_length : ∀ (e : ET) (lv b o : Nat), (seqE e lv b o).length = e.size
  | .mk k d v va vc vs rs p ka kc kids, lv, b, o => by
    have h := seqER_length kids (lv + 1) (blk ka) (ofs ka)
    simp only [seqE, List.length_cons, ET.size]
    omega
theorem seqER_length : ∀ (l : List ET) (lv b o : Nat), (seqER l lv b o).length = sizesE l
  | [], _, _, _ => by simp [seqER, sizesE]
  | e :: l, lv, b, o => by
    have h1 := seqE_length e lv b o
    have h2 := seqER_length l lv b (o + 13)
    simp only [seqER, List.length_append, sizesE]
    omega
end
/-- The k-th that is told. -/
def ndE (full : List NodeE) (k : Nat) : NodeE := (full[k]?).getD ⟨0, 0, 0, .mk 0 (.mk 0 false none 0 0 [] false ⟨#[]⟩ none 0 [] none 0 []) 0 none 0 [] false 0 none 0 []⟩
def toldE (full : List NodeE) (k : Nat) : Array Value := #[.int .i64 ((ndE full k).lev : Nat), .pointer (some ⟨(ndE full k).b, (ndE full k).o, none⟩)]
theorem ndE_eq {full : List NodeE} {k : Nat} {x : NodeE} (h : full[k]? = some x) : ndE full k = x := by simp only [ndE, h, Option.getD_some]
theorem toldE_eq {full : List NodeE} {k : Nat} {x : NodeE} (h : full[k]? = some x) : toldE full k = #[.int .i64 (x.lev : Nat), .pointer (some ⟨x.b, x.o, none⟩)] := by simp only [toldE, ndE_eq h]

/-- A row of the stack: what is left of a list of Kids. -/
structure EntE where
  a : Option Addr
  c : Nat
  l : List ET
def EntE.cell (e : EntE) : Value := .slice e.a e.l.length e.c
/-- The stack's cells: the top lies last. -/
def stE : List EntE → List Value | [] => [] | e :: st => stE st ++ [e.cell]
theorem stE_length (st : List EntE) : (stE st).length = st.length := by induction st with | nil => rfl | cons e st ih => simp [stE, ih]
def flatE : List EntE → List NodeE | [] => [] | e :: st => seqER e.l (st.length + 2) (blk e.a) (ofs e.a) ++ flatE st
/-- The rows of a stack lie there, and it is no higher than N. -/
def GoodE (w : World) (M N : Nat) : List EntE → Prop
  | [] => True
  | e :: st => (Spot M e.a e.l.length e.c ∧ LiesER w M e.l (blk e.a) (ofs e.a) ∧ st.length + sizesE e.l ≤ N) ∧ GoodE w M N st
theorem GoodE.keep {w w' : World} {M N : Nat} (hs : w.heap.size ≤ w'.heap.size) (hk : ∀ k, k < M → w'.heap[k]? = w.heap[k]?) : ∀ {st : List EntE}, GoodE w M N st → GoodE w' M N st
  | [], _ => trivial
  | _ :: _, h => ⟨⟨h.1.1, h.1.2.1.keep hs hk, h.1.2.2⟩, GoodE.keep hs hk h.2⟩
theorem infoS : (Tryz.prog.info? 29).map (fun i => (i.zero, i.size, i.bytes)) = some (some (.slice none 0 0), 1, 24) := by kernel_rfl

/-- What the loop's head knows, with so much still to be done. -/
def ToldE (M N base : Nat) (full : List NodeE) (J : Nat → World → Prop) (v : Value) (w : World) (m : Nat) : Prop :=
  ∃ (k : Nat) (st : List EntE), k ≤ full.length ∧ m = 2 * (full.length - k) + st.length ∧ full.drop k = flatE st ∧ GoodE w M N st ∧ w.ownsRow base 29 1 v st.length (stE st) ∧ base ≤ w.heap.size ∧ J k w
/-- The row's last element is cut off. -/
theorem rowE_less {w : World} {base g n cap : Nat} {xs : List Value} {y : Value} (h : w.ownsRow base 29 1 (.slice (some ⟨g, 0, none⟩) (n + 1) cap) (n + 1) (xs ++ [y])) (hx : xs.length = n) :
    w.ownsRow base 29 1 (.slice (some ⟨g, 0, none⟩) n cap) n xs := by
  obtain ⟨hl, hr⟩ := h
  refine ⟨by omega, ?_⟩
  rcases hr with ⟨hv, _⟩ | ⟨g', cap', cur, hv, hb, hg, hn, hm, hs, ht⟩
  · cases hv
  · cases hv
    refine .inr ⟨g, cap, cur, rfl, hb, hg, by omega, hm, hs, ?_⟩
    have : cur.toList.take (n * 1) = (cur.toList.take ((n + 1) * 1)).take (n * 1) := by rw [List.take_take, Nat.min_eq_left (by omega)]
    rw [this, ht, Nat.mul_one, ← hx, List.take_left]
theorem rowE_set {w : World} {base g n cap : Nat} {xs : List Value} {y : Value} (z : Value) (h : w.ownsRow base 29 1 (.slice (some ⟨g, 0, none⟩) (n + 1) cap) (n + 1) (xs ++ [y])) (hx : xs.length = n) :
    (w.setCell ⟨g, n, none⟩ z).ownsRow base 29 1 (.slice (some ⟨g, 0, none⟩) (n + 1) cap) (n + 1) (xs ++ [z]) := by
  have h1 := (h.stored n z).1
  rw [List.set_append, if_neg (by omega), hx, Nat.sub_self] at h1
  exact h1
theorem rowE_at {w : World} {base n g : Nat} {v : Value} {xs : List Value} (h : w.ownsRow base 29 1 v n xs) (hg : v.ownBlock = some g) : ∃ c, w.heap[g]? = some (.cells c 29 (0, 0)) := by
  rcases h.2 with ⟨hv, _⟩ | ⟨g', cap, cur, hv, hb, hc, _⟩
  · rw [hv] at hg; cases hg
  · rw [hv] at hg
    have e : g' = g := Option.some.inj hg
    subst e
    exact ⟨cur, hc⟩
theorem rowE_but {w w' : World} {B base n : Nat} {X : Nat → Prop} {v : Value} {xs : List Value} (h : w.ownsRow B 29 1 v n xs) (hu : ButE base X w w') (hx : ∀ k, B ≤ k → k < w.heap.size → ¬ X k) : w'.ownsRow B 29 1 v n xs := by
  refine ⟨h.1, ?_⟩
  rcases h.2 with hn | ⟨g, cap, cur, hv, hb, hg, rest⟩
  · exact .inl hn
  · exact .inr ⟨g, cap, cur, hv, hb, hu.cells hg (hx g hb (Array.getElem?_eq_some_iff.1 hg).1) (.stack _ _), rest⟩
theorem fineE_grown {w w1 : World} {base n : Nat} {v : Value} {xs : List Value} {o : Obj} (hown : w.ownsRow base 29 1 v n xs) (hb : base ≤ w.heap.size) (hg : (w.alloc o).grownBy w1 v.ownBlock) : FineE base w w1 := by
  refine ⟨((Below.refl base w).alloc hb _).grown hg (by simp; omega) (fun k hk => (hown.lt k hk).1), fun i hi => ?_⟩
  by_cases e : v.ownBlock = some i
  · obtain ⟨c, hc⟩ := rowE_at hown e
    exact .inr ⟨_, hc, .stack c _⟩
  · exact .inl ((hg.block i (by simp; omega) (fun h => e h.symm)).trans (Below.heap_alloc w o i hi))
theorem cellS {w : World} {g : Nat} {x : Value} (h : w.heap[g]? = some (.cells #[x] 29 (0, 0))) : ∀ j u, ([x] : List Value)[j]? = some u → w.cell? ((⟨g, 0, none⟩ : Addr).add j) = some u := by
  intro j u hu
  rw [cell_add]
  match j, hu with
  | 0, hu => simpa [World.cell?, h] using hu
  | j + 1, hu => simp at hu
theorem toldE_less {M N base : Nat} {full : List NodeE} {J : Nat → World → Prop} {v v' : Value} {w w' : World} {m0 m1 : Nat} (h : leastOf (fun m => ToldE M N base full J v w m) = m0) (hm : m1 < m0) (hr : ToldE M N base full J v' w' m1) :
    leastOf (fun m => ToldE M N base full J v' w' m) < leastOf (fun m => ToldE M N base full J v w m) := by
  have := (leastOf_spec (p := fun m => ToldE M N base full J v' w' m) ⟨_, hr⟩).2 _ hr
  omega
/-- What is pushed behind a row's first. -/
theorem goodE_push {w : World} {M N b o : Nat} {e : ET} {st : List EntE} (h : LiesE w M e b o) (hg : GoodE w M N st) (hN : st.length + sizesE e.kids ≤ N) : GoodE w M N (⟨e.ka, e.kc, e.kids⟩ :: st) := by
  obtain ⟨_, _, hh⟩ := liesE_held.1 h
  exact ⟨⟨hh.2.1, hh.2.2, hN⟩, hg⟩
theorem ownsRow_one {w : World} {base : Nat} {v : Value} {e : EntE} {st : List EntE} (h : w.ownsRow base 29 1 v (e :: st).length (stE (e :: st))) : ∃ g cap, v = .slice (some ⟨g, 0, none⟩) (st.length + 1) cap ∧ base ≤ g ∧ g < w.heap.size ∧ st.length + 1 ≤ cap ∧ w.cell? ⟨g, st.length, none⟩ = some e.cell ∧ w.frozen? ⟨g, st.length, none⟩ = false := by
  obtain ⟨g, cap, hv⟩ := ownsRow_succ h
  have hv : v = .slice (some ⟨g, 0, none⟩) (st.length + 1) cap := hv
  subst hv
  have hl := stE_length st
  refine ⟨g, cap, rfl, (h.lt g rfl).1, (h.lt g rfl).2, ?_, ?_, h.frozenAt _⟩
  · rcases h.2 with ⟨h, _⟩ | ⟨_, _, _, h, _, _, h2, _⟩
    · cases h
    · cases h; exact h2
  · have := h.cells (g := g) rfl st.length e.cell (by simp [stE, hl])
    rwa [cell_add, Nat.zero_add] at this
end
end Go.Proofs.YthdhdmmlmbkalaaGreatDoor
