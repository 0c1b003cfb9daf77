/-
  The law DatumSizes, walked.
-/
import Derived.Test.YtgfamihldecmbaaLvs
import Derived.Test.YtgfamihldecmbaaLit
namespace Go.Proofs.Ytgfamihldecmbaa
open Go.RowKit

mutual
theorem tame_all : ∀ t : LT, (∀ x ∈ allT t, x.ln ≤ 1000) → Tame t
  | .mk k g la ln lc ys bb s ia ic items ta tc tail, h => by
    simp only [Tame]
    exact ⟨h (.mk k g la ln lc ys bb s ia ic items ta tc tail) (by simp [allT]), tameR_all items (fun x hx => h x (by simp [allT, hx])), tameR_all tail (fun x hx => h x (by simp [allT, hx]))⟩
theorem tameR_all : ∀ l : List LT, (∀ x ∈ allR l, x.ln ≤ 1000) → TameR l
  | [], _ => by simp [TameR]
  | t :: l, h => by
    simp only [TameR]
    exact ⟨tame_all t (fun x hx => h x (by simp [allR, hx])), tameR_all l (fun x hx => h x (by simp [allR, hx]))⟩
end
theorem light_tells {t : LT} (h : lightB t = true) : t.size ≤ 400 ∧ t.depth ≤ 60 ∧ Tame t := by
  unfold lightB at h
  simp only [Bool.and_eq_true, decide_eq_true_eq, List.all_eq_true] at h
  have h1 := budT_few t 400 60 (by decide) h.1
  have h2 := h.2
  have h4 := h.1
  refine ⟨by omega, by omega, tame_all t (fun x hx => by have := h2 x hx; simp [lightX] at this; omega)⟩
theorem sizes_take {l : List LT} {k : Nat} (h : k < l.length) : sizes (l.take (k + 1)) = sizes (l.take k) + l[k].size := by
  induction l generalizing k with
  | nil => simp at h
  | cons t l ih =>
    cases k with
    | zero => simp [sizes]
    | succ k =>
      have := ih (k := k) (by simpa using h)
      simp only [List.take_succ_cons, sizes, List.getElem_cons_succ]
      omega
theorem depths_take {l : List LT} {k : Nat} (h : k < l.length) : depths (l.take (k + 1)) = max (depths (l.take k)) l[k].depth := by
  induction l generalizing k with
  | nil => simp at h
  | cons t l ih =>
    cases k with
    | zero => simp [depths]
    | succ k =>
      have := ih (k := k) (by simpa using h)
      simp only [List.take_succ_cons, depths, List.getElem_cons_succ]
      omega
theorem tameR_of : ∀ (l : List LT), (∀ x ∈ l, Tame x) → TameR l
  | [], _ => by simp [TameR]
  | t :: l, h => by
    simp only [TameR]
    exact ⟨h t (by simp), tameR_of l fun x hx => h x (by simp [hx])⟩
theorem sizes_few : ∀ (l : List LT), (∀ x ∈ l, lightB x = true) → sizes l ≤ 400 * l.length
  | [], _ => by simp [sizes]
  | t :: l, h => by
    have h1 := (light_tells (h t (by simp))).1
    have h2 := sizes_few l fun x hx => h x (by simp [hx])
    simp only [sizes, List.length_cons]
    omega
theorem depths_few : ∀ (l : List LT), (∀ x ∈ l, lightB x = true) → depths l ≤ 60
  | [], _ => by simp [depths]
  | t :: l, h => by
    have h1 := (light_tells (h t (by simp))).2.1
    have h2 := depths_few l fun x hx => h x (by simp [hx])
    simp only [depths]
    omega
def SzRel (l : List LT) (w : World) (n d i : Value) (wr : World) : Prop :=
  ∃ k : Nat, k ≤ l.length ∧ i = .int .i64 k ∧ n = .int .i64 ((1 + sizes (l.take k) : Nat) : Int) ∧ d = .int .i64 ((depths (l.take k) : Nat) : Int) ∧ Hid (∀ x ∈ l.take k, lightB x = true) ∧ Below w.heap.size w wr

set_option maxRecDepth 100000 in
set_option maxHeartbeats 6400000 in
theorem sizes_walk (a : Option Addr) (c : Nat) (l : List LT) (w : World) (hS : Spot w.heap.size a l.length c) (hL : LiesR w w.heap.size l (blk a) (ofs a)) :
    Calls Try.prog 6 #[.slice a l.length c] w fun e w' => e = .returned (.bool true) ∧ Below w.heap.size w w' := by
  by_cases h10 : l.length ≤ 10
  · have q0 : decide (10 < (l.length : Int)) = false := by simp; omega
    obtain ⟨B, O, hA, hL2⟩ : ∃ B O, (0 < l.length → a = some ⟨B, O, none⟩ ∧ B < w.heap.size) ∧ LiesR w w.heap.size l B O := ⟨blk a, ofs a, hS.2.2.1, hL⟩
    have HS := Lib.hid (And.intro hS (And.intro hL hL2))
    have HA := Lib.hid hA
    clear hS hL hA hL2
    go_enter Try.func6, Try.ntmps6
    go_wp2_with fail
    go_loopw [3, 4, 15] (fun n d i wr => SzRel l w n d i wr) (fun _ _ i _ => l.length - (intOf i).toNat)
    case atStart => exact ⟨0, Nat.zero_le _, rfl, by simp [sizes], by simp [depths], Lib.hid (by simp), Below.refl _ _⟩
    case round =>
      obtain ⟨k, hk, rfl, rfl, rfl, HK, hb⟩ := hrel
      by_cases hlt : k < l.length
      · obtain ⟨rfl, hBw⟩ := HA.out (by omega)
        obtain ⟨_, hcell, hheld⟩ := lies_held.1 ((liesR_iff _ _ _).1 HS.out.2.2 k hlt)
        obtain ⟨x, hx⟩ : ∃ x, l[k] = x := ⟨_, rfl⟩
        rw [hx] at hcell hheld
        rw [Nat.mul_comm 7 k] at hcell
        have hc : ∀ j v, x.cells[j]? = some v → wr.cell? ⟨B, O + k * 7 + j, none⟩ = some v := fun j v hj => (hb.cell (p := ⟨B, O + k * 7 + j, none⟩) hBw).trans (hcell j v hj)
        have d0 : wr.cell? ⟨B, O + k * 7, none⟩ = some (.int .i64 x.k) := hc 0 _ rfl
        have d1 : wr.cell? ⟨B, O + k * 7 + 1, none⟩ = some (.bool x.g) := hc 1 _ rfl
        have d2 : wr.cell? ⟨B, O + k * 7 + 2, none⟩ = some (.slice x.la x.ln x.lc) := hc 2 _ rfl
        have d3 : wr.cell? ⟨B, O + k * 7 + 3, none⟩ = some (.bool x.bb) := hc 3 _ rfl
        have d4 : wr.cell? ⟨B, O + k * 7 + 4, none⟩ = some (.string x.s) := hc 4 _ rfl
        have d5 : wr.cell? ⟨B, O + k * 7 + 5, none⟩ = some (.slice x.ia x.items.length x.ic) := hc 5 _ rfl
        have d6 : wr.cell? ⟨B, O + k * 7 + 6, none⟩ = some (.slice x.ta x.tail.length x.tc) := hc 6 _ rfl
        have hzr := hb.size
        have HX := Lib.hid (And.intro hx (And.intro hheld hb))
        have hR := World.alloc_heap_new wr (Obj.cells #[.int .i64 x.k, .bool x.g, .slice x.la x.ln x.lc, .bool x.bb, .string x.s, .slice x.ia x.items.length x.ic, .slice x.ta x.tail.length x.tc] 27)
        obtain ⟨W1, hW1⟩ : ∃ W1, wr.alloc (Obj.cells #[.int .i64 x.k, .bool x.g, .slice x.la x.ln x.lc, .bool x.bb, .string x.s, .slice x.ia x.items.length x.ic, .slice x.ta x.tail.length x.tc] 27) = W1 := ⟨_, rfl⟩
        rw [hW1] at hR
        have hb1 : Below wr.heap.size wr W1 := by rw [← hW1]; exact (Below.refl _ wr).alloc (Nat.le_refl _) _
        have hz1 : W1.heap.size = wr.heap.size + 1 := by rw [← hW1, World.size_alloc]
        have hds := fun j => Lib.cell_of_heap hR j
        have r0 := hds 0; have r1 := hds 1; have r2 := hds 2; have r3 := hds 3; have r4 := hds 4; have r5 := hds 5; have r6 := hds 6
        simp only [List.getElem?_toArray, List.getElem?_cons_zero, List.getElem?_cons_succ] at r0 r1 r2 r3 r4 r5 r6
        have HR := Lib.hid (And.intro hR (And.intro hb1 hz1))
        clear hcell hheld hc hb hx hds hR hb1 hz1
        go_wp2_with fail
        clear hW1 d0 d1 d2 d3 d4 d5 d6 r0 r1 r2 r3 r4 r5 r6
        have hH1 : Held W1 w.heap.size x := (HX.out.2.1.below (Nat.le_refl _) HX.out.2.2).keep HR.out.2.1.size fun q hq => HR.out.2.1.block q (by omega)
        refine (light_any w.heap.size x W1 (Nat.le_trans hzr HR.out.2.1.size) hH1).mono ?_
        rintro e w2 ⟨rfl, b2⟩
        have hR2 := (b2.block wr.heap.size (by rw [HR.out.2.2]; omega)).trans HR.out.1
        have hb2 : Below wr.heap.size wr w2 := HR.out.2.1.trans (b2.mono HR.out.2.1.size)
        have hz2 : wr.heap.size + 1 ≤ w2.heap.size := by have := b2.size; rwa [HR.out.2.2] at this
        have hH2 : Held w2 w.heap.size x := hH1.keep b2.size fun q hq => b2.block q (by rw [HR.out.2.2]; omega)
        by_cases hl : lightB x = true
        · obtain ⟨y1, y2, y3⟩ := light_tells hl
          rw [hl]
          have hds := fun j => Lib.cell_of_heap hR2 j
          have s0 := hds 0; have s1 := hds 1; have s2 := hds 2; have s3 := hds 3; have s4 := hds 4; have s5 := hds 5; have s6 := hds 6
          simp only [List.getElem?_toArray, List.getElem?_cons_zero, List.getElem?_cons_succ] at s0 s1 s2 s3 s4 s5 s6
          have hsk : sizes (l.take k) ≤ 4000 := by
            have := sizes_few (l.take k) HK.out
            rw [List.length_take, Nat.min_eq_left hk] at this
            omega
          have hdk : depths (l.take k) ≤ 60 := depths_few _ HK.out
          have HSz := Lib.hid (size_any x w.heap.size w2 hH2 (by omega) (by omega) (by omega))
          have HQ := Lib.hid (And.intro hR2 (And.intro hb2 (And.intro hH2 (And.intro hl (And.intro (show sizes (l.take (k + 1)) = sizes (l.take k) + x.size by rw [sizes_take hlt, HX.out.1]) (show depths (l.take (k + 1)) = max (depths (l.take k)) x.depth by rw [depths_take hlt, HX.out.1]))))))
          have HK1 : Hid (∀ y ∈ l.take (k + 1), lightB y = true) := Lib.hid fun y hy => by
            rw [List.take_add_one, List.getElem?_eq_getElem hlt, HX.out.1] at hy
            rcases List.mem_append.1 hy with h | h
            · exact HK.out y h
            · simp at h
              rw [h]
              exact hl
          clear hR2 hb2 hH1 hH2 b2 hds hl y3
          generalize sizes (l.take k) = sk at *
          generalize depths (l.take k) = dk at *
          go_wp2_with fail
          refine HSz.out.mono ?_
          rintro e w3 ⟨rfl, b3⟩
          have hR3 := (b3.block wr.heap.size (by omega)).trans HQ.out.1
          have hb3 : Below wr.heap.size wr w3 := HQ.out.2.1.trans (b3.mono (by omega))
          have hz3 : wr.heap.size + 1 ≤ w3.heap.size := by have := b3.size; omega
          have HDp := Lib.hid (depth_any x w.heap.size w3 (HQ.out.2.2.1.keep b3.size fun q hq => b3.block q (by omega)) (by omega) (by omega) (by omega))
          have hds := fun j => Lib.cell_of_heap hR3 j
          have r0 := hds 0; have r1 := hds 1; have r2 := hds 2; have r3 := hds 3; have r4 := hds 4; have r5 := hds 5; have r6 := hds 6
          simp only [List.getElem?_toArray, List.getElem?_cons_zero, List.getElem?_cons_succ] at r0 r1 r2 r3 r4 r5 r6
          have HB3 := Lib.hid hb3
          clear b3 hR3 hb3 hds s0 s1 s2 s3 s4 s5 s6
          go_wp2_with fail
          refine HDp.out.mono ?_
          rintro e w4 ⟨rfl, b4⟩
          have HB4 := Lib.hid (HX.out.2.2.trans ((HB3.out.trans (b4.mono (by omega))).mono hzr))
          clear b4 r0 r1 r2 r3 r4 r5 r6
          by_cases hd : dk < x.depth
          · have q1 : decide ((dk : Int) < (x.depth : Int)) = true := decide_eq_true (by omega)
            go_wp2_with fail
            go_roundw
            case rel => exact ⟨k + 1, by omega, by go_num, by rw [HQ.out.2.2.2.2.1]; exact congrArg (Value.int .i64) (by omega), by rw [HQ.out.2.2.2.2.2]; exact congrArg (Value.int .i64) (by omega), HK1, HB4.out⟩
            case measure => simp [intOf]; omega
          · have q1 : decide ((dk : Int) < (x.depth : Int)) = false := decide_eq_false (by omega)
            go_wp2_with fail
            go_roundw
            case rel => exact ⟨k + 1, by omega, by go_num, by rw [HQ.out.2.2.2.2.1]; exact congrArg (Value.int .i64) (by omega), by rw [HQ.out.2.2.2.2.2]; exact congrArg (Value.int .i64) (by omega), HK1, HB4.out⟩
            case measure => simp [intOf]; omega
        · rw [eq_false_of_ne_true hl]
          have HQ := Lib.hid (HX.out.2.2.trans (hb2.mono hzr))
          clear hR2 hb2 hH1 hH2 b2 hl
          go_wp2_with fail
          refine (lives3_yes w2).mono ?_
          rintro e w3 ⟨rfl, b3⟩
          have hb3 := HQ.out.trans (b3.mono HQ.out.size)
          clear b3
          go_wp2_with fail
          go_ret
          exact ⟨rfl, hb3⟩
      · obtain rfl : k = l.length := by omega
        have hall : ∀ x ∈ l, lightB x = true := by have := HK.out; rwa [List.take_length] at this
        have hss := sizes_few l hall
        have hdd := depths_few l hall
        have hT := tameR_of l fun x hx => (light_tells (hall x hx)).2.2
        have hH0 : Held w w.heap.size (rowL a c l) := ⟨⟨Sl.nil, fun h => absurd h (Nat.lt_irrefl _), empty_le⟩, HS.out.1, ⟨Nat.le_refl _, by show 0 ≤ maxLen; decide, fun h => absurd h (Nat.lt_irrefl _), fun _ => rfl⟩, HS.out.2.1, by show LiesR w w.heap.size [] _ _; simp [LiesR]⟩
        have HI := Lib.hid (items_any w.heap.size a c l (by rw [rowL_size]; omega) (by rw [rowL_depth]; omega) ((rowL_tame a c l).2 hT) wr hb.size (hH0.below (Nat.le_refl _) hb))
        have hsk : sizes (l.take l.length) = sizes l := by rw [List.take_length]
        have hdk : depths (l.take l.length) = depths l := by rw [List.take_length]
        have HB := Lib.hid hb
        generalize sizes (l.take l.length) = sk at *
        generalize depths (l.take l.length) = dk at *
        have HN := Lib.hid (And.intro hsk hdk)
        have hs5 : sk ≤ 4000 := by omega
        have hd5 : dk ≤ 60 := by omega
        clear hall hss hdd hT hH0 hb hsk hdk hlt
        go_wp2_with fail
        refine HI.out.mono ?_
        rintro e w2 hp
        obtain ⟨u, rfl, hu, hsh, b2⟩ := npost_held hp
        obtain ⟨a4, a5⟩ := (list_of hsh).2.2.2
        have hR := World.alloc_heap_new w2 (Obj.cells #[.int .i64 u.k, .bool u.g, .slice u.la u.ln u.lc, .bool u.bb, .string u.s, .slice u.ia u.items.length u.ic, .slice u.ta u.tail.length u.tc] 27)
        obtain ⟨W3, hW3⟩ : ∃ W3, w2.alloc (Obj.cells #[.int .i64 u.k, .bool u.g, .slice u.la u.ln u.lc, .bool u.bb, .string u.s, .slice u.ia u.items.length u.ic, .slice u.ta u.tail.length u.tc] 27) = W3 := ⟨_, rfl⟩
        rw [hW3] at hR
        have hb3 : Below w2.heap.size w2 W3 := by rw [← hW3]; exact (Below.refl _ w2).alloc (Nat.le_refl _) _
        have hz3 : W3.heap.size = w2.heap.size + 1 := by rw [← hW3, World.size_alloc]
        have hsu : u.size = 1 + sk := by rw [a4, HN.out.1]
        have hdu : u.depth = dk + 1 := by rw [a5, HN.out.2]; omega
        have hHu : Held W3 w2.heap.size u := hu.below (Nat.le_refl _) hb3
        have hZ := size_any u w2.heap.size W3 hHu hb3.size (by omega) (by omega)
        rw [hsu] at hZ
        have hD : ∀ w4, Below W3.heap.size W3 w4 → Calls Try.prog 20 #[.agg #[.int .i64 u.k, .bool u.g, .slice u.la u.ln u.lc, .bool u.bb, .string u.s, .slice u.ia u.items.length u.ic, .slice u.ta u.tail.length u.tc]] w4 fun e w' => e = .returned (.int .i64 ((dk : Int) + 1)) ∧ Below w4.heap.size w4 w' := fun w4 b4 => by
          have := depth_any u w2.heap.size w4 (hHu.keep b4.size fun q hq => b4.block q (by omega)) (by have := b4.size; omega) (by omega) (by omega)
          rw [hdu] at this
          exact this
        have HZ := Lib.hid (And.intro hZ (And.intro hD (And.intro hR (And.intro hz3 (HB.out.trans ((b2.trans (hb3.mono b2.size)).mono HB.out.size))))))
        have hds := fun j => Lib.cell_of_heap hR j
        have s0 := hds 0; have s1 := hds 1; have s2 := hds 2; have s3 := hds 3; have s4 := hds 4; have s5 := hds 5; have s6 := hds 6
        simp only [List.getElem?_toArray, List.getElem?_cons_zero, List.getElem?_cons_succ] at s0 s1 s2 s3 s4 s5 s6
        clear hp hu hsh b2 a4 a5 hR hb3 hz3 hsu hdu hHu hZ hD hds
        go_wp2_with fail
        clear hW3 s0 s1 s2 s3 s4 s5 s6
        refine HZ.out.1.mono ?_
        rintro e w4 ⟨rfl, b4⟩
        have hR4 := (b4.block w2.heap.size (by rw [HZ.out.2.2.2.1]; omega)).trans HZ.out.2.2.1
        have hds := fun j => Lib.cell_of_heap hR4 j
        have s0 := hds 0; have s1 := hds 1; have s2 := hds 2; have s3 := hds 3; have s4 := hds 4; have s5 := hds 5; have s6 := hds 6
        simp only [List.getElem?_toArray, List.getElem?_cons_zero, List.getElem?_cons_succ] at s0 s1 s2 s3 s4 s5 s6
        have HW4 := Lib.hid (HZ.out.2.1 w4 b4)
        have HB4 := Lib.hid (HZ.out.2.2.2.2.trans (b4.mono HZ.out.2.2.2.2.size))
        clear b4 hR4 hds
        go_wp2_with fail
        refine HW4.out.mono ?_
        rintro e w5 ⟨rfl, b5⟩
        have HB5 := Lib.hid (HB4.out.trans (b5.mono HB4.out.size))
        clear b5 s0 s1 s2 s3 s4 s5 s6
        go_wp2_with fail
        refine (lives3_yes w5).mono ?_
        rintro e w6 ⟨rfl, b6⟩
        have hb6 := HB5.out.trans (b6.mono HB5.out.size)
        clear b6
        go_wp2_with fail
        go_ret
        exact ⟨rfl, hb6⟩
  · have q0 : decide (10 < (l.length : Int)) = true := by simp; omega
    clear hS hL
    go_enter Try.func6, Try.ntmps6
    go_wp2_with fail
    refine (lives3_yes w).mono ?_
    rintro e w1 ⟨rfl, b1⟩
    go_wp2_with fail
    go_ret
    exact ⟨rfl, b1⟩
end Go.Proofs.Ytgfamihldecmbaa
