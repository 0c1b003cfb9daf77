/-
  prim's closures: what each does with a row of data. prim's only: what is done with data of one kind.
-/
import Derived.Test.YtocnlapbkidinaaGreatDoorPp1
import Derived.Test.YtocnlapbkidinaaGreatDoorQHeld
import Derived.Deep.RegionHeld3
import Derived.BigQuiet
import Derived.Orders
import Derived.LoopTactic
set_option linter.unusedVariables false
set_option linter.unusedSimpArgs false
set_option linter.unusedSectionVars false
set_option linter.unnecessarySimpa false
namespace Go.Proofs.YtocnlapbkidinaaGreatDoor
section
open Go.RowKit
set_option maxRecDepth 100000

theorem len_zero (l : List LT) : ((l.length : Int) == 0) = decide (l.length = 0) := by
  rw [Bool.eq_iff_iff]; simp
theorem isOf1_any (g : Nat) (k : Int) (t : LT) (w : World) (hc : w.cell? ⟨g, 0, none⟩ = some (.int .i64 k)) (hg : g < w.heap.size) :
    Calls Tryz.prog 95 #[.agg #[.int .i64 t.k, .bool t.g, .slice t.la t.ln t.lc, .bool t.bb, .string t.s, .slice t.ia t.items.length t.ic, .slice t.ta t.tail.length t.tc], .pointer (some ⟨g, 0, none⟩)] w fun e w' => e = .returned (.bool (decide (t.k = k))) ∧ Below w.heap.size w w' := by
  have hb : Below w.heap.size w (w.alloc (Obj.cells #[.int .i64 t.k, .bool t.g, .slice t.la t.ln t.lc, .bool t.bb, .string t.s, .slice t.ia t.items.length t.ic, .slice t.ta t.tail.length t.tc] 29)) := (Below.refl _ _).alloc (Nat.le_refl _) _
  have HB := Lib.hid hb
  have hc2 := (hb.cell (p := ⟨g, 0, none⟩) hg).trans hc
  clear hb hc
  go_enter Tryz.func95, Tryz.ntmps95
  go_wp2_with fail
  go_ret
  refine ⟨?_, HB.out⟩
  congr 2
  try exact (Bool.decide_eq_decide.2 (by simp)).symm
theorem isFalse_any (t : LT) (w : World) : Calls Tryz.prog 35 #[.agg #[.int .i64 t.k, .bool t.g, .slice t.la t.ln t.lc, .bool t.bb, .string t.s, .slice t.ia t.items.length t.ic, .slice t.ta t.tail.length t.tc]] w fun e w' => e = .returned (.bool (decide (t.k = 2) && !t.bb)) ∧ Below w.heap.size w w' := by
  go_enter Tryz.func35, Tryz.ntmps35
  go_wp2_with fail
  all_goals
    go_ret
    refine ⟨?_, (Below.refl _ _).alloc (Nat.le_refl _) _⟩
    (try simp_all)
theorem isEmpty_any (t : LT) (w : World) : Calls Tryz.prog 37 #[.agg #[.int .i64 t.k, .bool t.g, .slice t.la t.ln t.lc, .bool t.bb, .string t.s, .slice t.ia t.items.length t.ic, .slice t.ta t.tail.length t.tc]] w fun e w' => e = .returned (.bool (decide (t.k = 5) && decide (t.items.length = 0))) ∧ Below w.heap.size w w' := by
  have hl := len_zero t.items
  generalize t.items.length = m at *
  go_enter Tryz.func37, Tryz.ntmps37
  go_wp2_with fail
  all_goals
    go_ret
    refine ⟨?_, (Below.refl _ _).alloc (Nat.le_refl _) _⟩
    (try simp_all)
theorem isPair_any (t : LT) (w : World) : Calls Tryz.prog 54 #[.agg #[.int .i64 t.k, .bool t.g, .slice t.la t.ln t.lc, .bool t.bb, .string t.s, .slice t.ia t.items.length t.ic, .slice t.ta t.tail.length t.tc]] w fun e w' => e = .returned (.bool (decide (t.k = 5) && decide (0 < t.items.length))) ∧ Below w.heap.size w w' := by
  go_enter Tryz.func54, Tryz.ntmps54
  go_wp2_with fail
  all_goals
    go_ret
    refine ⟨?_, (Below.refl _ _).alloc (Nat.le_refl _) _⟩
    simp_all
/-- The datum lies at that place of a row. -/
def Seven7 (w : World) (B o : Nat) (x : LT) : Prop := ∀ j v, x.cells[j]? = some v → w.cell? ⟨B, o + j, none⟩ = some v
theorem Seven7.cells {w : World} {B o : Nat} {x : LT} (h : Seven7 w B o x) : w.cell? ⟨B, o, none⟩ = some (.int .i64 x.k) ∧ w.cell? ⟨B, o + 1, none⟩ = some (.bool x.g) ∧ w.cell? ⟨B, o + 2, none⟩ = some (.slice x.la x.ln x.lc) ∧ w.cell? ⟨B, o + 3, none⟩ = some (.bool x.bb) ∧
    w.cell? ⟨B, o + 4, none⟩ = some (.string x.s) ∧ w.cell? ⟨B, o + 5, none⟩ = some (.slice x.ia x.items.length x.ic) ∧ w.cell? ⟨B, o + 6, none⟩ = some (.slice x.ta x.tail.length x.tc) :=
  ⟨h 0 _ rfl, h 1 _ rfl, h 2 _ rfl, h 3 _ rfl, h 4 _ rfl, h 5 _ rfl, h 6 _ rfl⟩
theorem Seven7.below {w w' : World} {B o : Nat} {x : LT} (h : Seven7 w B o x) (hb : Below w.heap.size w w') : Seven7 w' B o x := fun j v hj => by
  have h0 := h j v hj
  have hlt : B < w.heap.size := World.block_lt_of_cell? w _ h0
  exact (hb.cell (p := ⟨B, o + j, none⟩) hlt).trans h0
set_option maxHeartbeats 3200000 in
theorem asked1_any (g F : Nat) (cap : Array Value) (B o n c : Nat) (t : LT) (r : Bool) (w : World) (hc : w.cell? ⟨g, 0, none⟩ = some (.func (.func F) #[] cap)) (hg : g < w.heap.size) (hF : Enters F) (hn : 0 < n) (h7 : Seven7 w B o t)
    (H : ∀ W, Below w.heap.size w W → Calls Tryz.prog F (#[.agg #[.int .i64 t.k, .bool t.g, .slice t.la t.ln t.lc, .bool t.bb, .string t.s, .slice t.ia t.items.length t.ic, .slice t.ta t.tail.length t.tc]] ++ cap) W fun e W' => e = .returned (.bool r) ∧ Below W.heap.size W W') :
    Calls Tryz.prog 94 #[.slice (some ⟨B, o, none⟩) n c, .pointer (some ⟨g, 0, none⟩)] w (DatP w 2 false [] r ⟨#[]⟩) := by
  have hb0 : Below w.heap.size w (w.alloc (Obj.cells #[.int .i64 0, .bool false, .slice none 0 0, .bool false, .string ⟨#[]⟩, .slice none 0 0, .slice none 0 0] 29)).drew := ((Below.refl _ _).alloc (Nat.le_refl _) _).drew
  have hz0 : (w.alloc (Obj.cells #[.int .i64 0, .bool false, .slice none 0 0, .bool false, .string ⟨#[]⟩, .slice none 0 0, .slice none 0 0] 29)).drew.heap[w.heap.size]? = some (Obj.cells #[.int .i64 0, .bool false, .slice none 0 0, .bool false, .string ⟨#[]⟩, .slice none 0 0, .slice none 0 0] 29) := heap_alloc_new w (Obj.cells #[.int .i64 0, .bool false, .slice none 0 0, .bool false, .string ⟨#[]⟩, .slice none 0 0, .slice none 0 0] 29)
  have hs0 : (w.alloc (Obj.cells #[.int .i64 0, .bool false, .slice none 0 0, .bool false, .string ⟨#[]⟩, .slice none 0 0, .slice none 0 0] 29)).drew.heap.size = w.heap.size + 1 := World.size_alloc ..
  have hS0 := And.intro ((hb0.cell (p := ⟨g, 0, none⟩) hg).trans hc) (h7.below hb0).cells
  have HH := Lib.hid (And.intro H (And.intro hb0 (And.intro hz0 (And.intro hs0 (And.intro hc h7)))))
  clear H hz0 hs0 h7 hb0
  go_enter Tryz.func94, Tryz.ntmps94
  go_wp2_with fail
  go_region_held3 (fun w' => w'.cell? ⟨g, 0, none⟩ = some (.func (.func F) #[] cap) ∧ w'.cell? ⟨B, o, none⟩ = some (.int .i64 t.k) ∧ w'.cell? ⟨B, o + 1, none⟩ = some (.bool t.g) ∧ w'.cell? ⟨B, o + 2, none⟩ = some (.slice t.la t.ln t.lc) ∧ w'.cell? ⟨B, o + 3, none⟩ = some (.bool t.bb) ∧ w'.cell? ⟨B, o + 4, none⟩ = some (.string t.s) ∧ w'.cell? ⟨B, o + 5, none⟩ = some (.slice t.ia t.items.length t.ic) ∧ w'.cell? ⟨B, o + 6, none⟩ = some (.slice t.ta t.tail.length t.tc))
    (first | with_reducible exact hS0 | with_reducible exact hS1 | with_reducible exact hS2 | with_reducible exact hS3 | go_keep)
    (first
    | (rw [hF, Oper.upon_enter]; refine (HH.out.1 _ HH.out.2.1).mono ?_; rintro e w1 ⟨rfl, b1⟩; have hb1 := HH.out.2.1.trans (b1.mono (by rw [HH.out.2.2.2.1]; omega)); have hS1 := And.intro ((hb1.cell (p := ⟨g, 0, none⟩) hg).trans hc) (HH.out.2.2.2.2.2.below hb1).cells)
    | (go_at_call 58; refine (truth_any r w1).mono ?_; rintro e w2 ⟨A1, n1, c1, rfl, hsl, b2⟩; have hb2 := hb1.trans (b2.mono hb1.size); have hS2 := And.intro ((hb2.cell (p := ⟨g, 0, none⟩) hg).trans hc) (HH.out.2.2.2.2.2.below hb2).cells;
       have hz := ((b1.trans (b2.mono b1.size)).block w.heap.size (by rw [HH.out.2.2.2.1]; omega)).trans HH.out.2.2.1; obtain ⟨⟨d0, d1, d2, d3, d4, d5, d6⟩, f0, f1, f2, f3, f4, f5, f6⟩ := cells7 hz;
       have hb3 := below7 hb2 (Nat.le_refl _) (.int .i64 2) (.bool false) (.slice A1 n1 c1) (.bool r) (.string ⟨#[]⟩) (.slice none 0 0) (.slice none 0 0); have hS3 := And.intro ((hb3.cell (p := ⟨g, 0, none⟩) hg).trans hc) (HH.out.2.2.2.2.2.below hb3).cells))
  go_wp2_with fail
  exact dat_set rfl rfl rfl hz (Nat.le_refl _) hsl hb2
end
end Go.Proofs.YtocnlapbkidinaaGreatDoor
namespace Go.Proofs.YtocnlapbkidinaaGreatDoor
section
open Go.RowKit
set_option maxRecDepth 100000

/-- A row of data that lies there: each of them at its place. -/
def RowAt (w : World) (B o : Nat) (ts : List LT) : Prop := B < w.heap.size ∧ ∀ k (h : k < ts.length), Seven7 w B (o + k * 7) ts[k]
theorem RowAt.below {w w' : World} {B o : Nat} {ts : List LT} (h : RowAt w B o ts) (hb : Below w.heap.size w w') : RowAt w' B o ts := ⟨Nat.lt_of_lt_of_le h.1 hb.size, fun k hk => (h.2 k hk).below hb⟩
set_option maxHeartbeats 3200000 in
theorem only1_any (gi gk gd F : Nat) (cap : Array Value) (kk : Int) (B o c : Nat) (ts : List LT) (w : World) {k : Int} {sg : Bool} {xs : List Nat} {b : Bool} {s : ByteArray} {er : Int}
    (hi : w.cell? ⟨gi, 0, none⟩ = some (.func (.func 95) #[] #[.pointer (some ⟨gk, 0, none⟩)])) (hk : w.cell? ⟨gk, 0, none⟩ = some (.int .i64 kk)) (hd : w.cell? ⟨gd, 0, none⟩ = some (.func (.func F) #[] cap)) (hF : Enters F)
    (hR : RowAt w B o ts) (hn : ts.length ≤ 1000)
    (H : (∀ x ∈ ts, x.k = kk) → ∀ W, Below w.heap.size w W → Calls Tryz.prog F (#[.slice (some ⟨B, o, none⟩) ts.length c] ++ cap) W (TelP W k sg xs b s er)) (hno : (¬ ∀ x ∈ ts, x.k = kk) → k = 0 ∧ sg = false ∧ xs = [] ∧ b = false ∧ s = ⟨#[]⟩ ∧ er = 6) :
    Calls Tryz.prog 97 #[.slice (some ⟨B, o, none⟩) ts.length c, .pointer (some ⟨gi, 0, none⟩), .pointer (some ⟨gd, 0, none⟩)] w (TelP w k sg xs b s er) := by
  have hgi : gi < w.heap.size := World.block_lt_of_cell? w _ hi
  have hgk : gk < w.heap.size := World.block_lt_of_cell? w _ hk
  have hgd : gd < w.heap.size := World.block_lt_of_cell? w _ hd
  have hz0 : (w.alloc (Obj.cells #[.int .i64 0, .bool false, .slice none 0 0, .bool false, .string ⟨#[]⟩, .slice none 0 0, .slice none 0 0] 29)).heap[w.heap.size]? = some (Obj.cells #[.int .i64 0, .bool false, .slice none 0 0, .bool false, .string ⟨#[]⟩, .slice none 0 0, .slice none 0 0] 29) := heap_alloc_new w (Obj.cells #[.int .i64 0, .bool false, .slice none 0 0, .bool false, .string ⟨#[]⟩, .slice none 0 0, .slice none 0 0] 29)
  have hb0 : Below w.heap.size w (w.alloc (Obj.cells #[.int .i64 0, .bool false, .slice none 0 0, .bool false, .string ⟨#[]⟩, .slice none 0 0, .slice none 0 0] 29)) := (Below.refl _ _).alloc (Nat.le_refl _) _
  have hs0 : (w.alloc (Obj.cells #[.int .i64 0, .bool false, .slice none 0 0, .bool false, .string ⟨#[]⟩, .slice none 0 0, .slice none 0 0] 29)).heap.size = w.heap.size + 1 := World.size_alloc ..
  have HH := Lib.hid (And.intro H (And.intro hno (And.intro hz0 (And.intro hb0 (And.intro hs0 (And.intro hR (And.intro hi (And.intro hk hd))))))))
  clear H hno hz0 hb0 hR hi hk hd
  go_enter Tryz.func97, Tryz.ntmps97
  go_wp2_with fail
  obtain ⟨W0, hW0⟩ : ∃ W0, w.alloc (Obj.cells #[.int .i64 0, .bool false, .slice none 0 0, .bool false, .string ⟨#[]⟩, .slice none 0 0, .slice none 0 0] 29) = W0 := ⟨_, rfl⟩
  rw [hW0]
  have HW : Hid (Below w.heap.size w W0 ∧ W0.heap[w.heap.size]? = some (Obj.cells #[.int .i64 0, .bool false, .slice none 0 0, .bool false, .string ⟨#[]⟩, .slice none 0 0, .slice none 0 0] 29) ∧ W0.heap.size = w.heap.size + 1) := Lib.hid (hW0 ▸ ⟨HH.out.2.2.2.1, HH.out.2.2.1, HH.out.2.2.2.2.1⟩)
  clear hW0 hs0
  go_loopw [10] (fun i wr => ∃ j : Nat, j ≤ ts.length ∧ i = .int .i64 j ∧ Below W0.heap.size W0 wr ∧ Hid (∀ q (h : q < ts.length), q < j → ts[q].k = kk)) (fun i _ => ts.length - (intOf i).toNat)
  case atStart => exact ⟨0, Nat.zero_le _, rfl, Below.refl _ _, Lib.hid fun q h hq => by omega⟩
  case round =>
    obtain ⟨j, hj, rfl, hb, hq⟩ := hrel
    have hbw := HW.out.1.trans (hb.mono HW.out.1.size)
    by_cases hlt : j < ts.length
    · have h7 := ((HH.out.2.2.2.2.2.1.below hbw).2 j hlt)
      obtain ⟨x, hx⟩ : ∃ x, ts[j] = x := ⟨_, rfl⟩
      rw [hx] at h7
      have hbx : Below wr.heap.size wr (wr.alloc (Obj.cells #[.int .i64 x.k, .bool x.g, .slice x.la x.ln x.lc, .bool x.bb, .string x.s, .slice x.ia x.items.length x.ic, .slice x.ta x.tail.length x.tc] 29)) := (Below.refl _ _).alloc (Nat.le_refl _) _
      have i0 := (hbw.cell (p := ⟨gi, 0, none⟩) hgi).trans HH.out.2.2.2.2.2.2.1
      have i1 := (hbx.cell (p := ⟨gi, 0, none⟩) (Nat.lt_of_lt_of_le hgi hbw.size)).trans i0
      have k1 := (hbx.cell (p := ⟨gk, 0, none⟩) (Nat.lt_of_lt_of_le hgk hbw.size)).trans ((hbw.cell (p := ⟨gk, 0, none⟩) hgk).trans HH.out.2.2.2.2.2.2.2.1)
      have hgk1 : gk < (wr.alloc (Obj.cells #[.int .i64 x.k, .bool x.g, .slice x.la x.ln x.lc, .bool x.bb, .string x.s, .slice x.ia x.items.length x.ic, .slice x.ta x.tail.length x.tc] 29)).heap.size := Nat.lt_of_lt_of_le hgk (Nat.le_trans hbw.size hbx.size)
      obtain ⟨d0, d1, d2, d3, d4, d5, d6⟩ := h7.cells
      have HB := Lib.hid (And.intro hbw (And.intro hbx hb))
      have HK := Lib.hid (isOf1_any gk kk x (wr.alloc (Obj.cells #[.int .i64 x.k, .bool x.g, .slice x.la x.ln x.lc, .bool x.bb, .string x.s, .slice x.ia x.items.length x.ic, .slice x.ta x.tail.length x.tc] 29)) k1 hgk1)
      clear hbw hbx hb h7 k1 hgk1 i0
      go_wp2_with fail
      clear d0 d1 d2 d3 d4 d5 d6
      refine HK.out.mono ?_
      rintro e w1 ⟨rfl, b1⟩
      have hb1 := HB.out.2.2.trans ((HB.out.2.1.trans (b1.mono HB.out.2.1.size)).mono HB.out.2.2.size)
      have hz1 := (hb1.block w.heap.size (by rw [HW.out.2.2]; omega)).trans HW.out.2.1
      have hbw1 := HW.out.1.trans (hb1.mono HW.out.1.size)
      by_cases hxk : x.k = kk
      · have hdk : decide (x.k = kk) = true := decide_eq_true hxk
        have HQ : Hid (∀ q (h : q < ts.length), q < j + 1 → ts[q].k = kk) := Lib.hid fun q h hq1 => by
          rcases Nat.lt_or_ge q j with h1 | h1
          · exact hq.out q h h1
          · obtain rfl : q = j := by omega
            rw [hx]; exact hxk
        have HB1 := Lib.hid hb1
        clear hb1 hz1 hbw1 b1 hxk
        go_wp2_with fail
        go_roundw
        case rel => exact ⟨j + 1, by omega, by go_num, HB1.out, HQ⟩
        case measure => simp [intOf]; omega
      · have hdk : decide (x.k = kk) = false := decide_eq_false hxk
        obtain ⟨⟨d0, d1, d2, d3, d4, d5, d6⟩, f0, f1, f2, f3, f4, f5, f6⟩ := cells7 hz1
        have HX := Lib.hid (And.intro hz1 hbw1)
        have HN : Hid (¬ ∀ x ∈ ts, x.k = kk) := Lib.hid fun h => hxk (h x (hx ▸ List.getElem_mem hlt))
        clear hb1 hz1 hbw1 b1 hxk
        go_wp2_with fail
        obtain ⟨rfl, rfl, rfl, rfl, rfl, rfl⟩ := HH.out.2.1 HN.out
        exact tel_set rfl rfl rfl rfl HX.out.1 (Nat.le_refl _) Sl.nil HX.out.2
    · have hall : ∀ x ∈ ts, x.k = kk := fun x hx => by
        obtain ⟨q, hq1, rfl⟩ := List.getElem_of_mem hx
        exact hq.out q hq1 (by omega)
      have i1 := (hbw.cell (p := ⟨gd, 0, none⟩) hgd).trans HH.out.2.2.2.2.2.2.2.2
      have HF := Lib.hid (And.intro (HH.out.1 hall wr hbw) (And.intro hbw ((hb.block w.heap.size (by rw [HW.out.2.2]; omega)).trans HW.out.2.1)))
      clear hbw hb
      go_wp2_with fail
      rw [hF, Oper.upon_enter]
      refine HF.out.1.mono ?_
      rintro e w1 ⟨A1, n1, c1, rfl, hsl, b1⟩
      have hz1 := (b1.block w.heap.size (Array.getElem?_eq_some_iff.1 HF.out.2.2).1).trans HF.out.2.2
      obtain ⟨⟨d0, d1, d2, d3, d4, d5, d6⟩, f0, f1, f2, f3, f4, f5, f6⟩ := cells7 hz1
      have HX := Lib.hid (And.intro hz1 (And.intro (HF.out.2.1.trans (b1.mono HF.out.2.1.size)) hsl))
      clear hz1 b1 hsl
      go_wp2_with fail
      exact tel_set rfl rfl rfl rfl HX.out.1 (Nat.le_refl _) HX.out.2.2 HX.out.2.1
end
end Go.Proofs.YtocnlapbkidinaaGreatDoor
