/-
  The reader: lists and quotes in one another; a datum behind a dot.
-/
import Derived.Test.YtlohdglhebplfaaGreatDoorRdx7
namespace Go.Proofs.YtlohdglhebplfaaGreatDoor
open Go.RowKit

section

/-- Whoever reads a list with so much text left, at most, behind its begin. -/
def ListC (s : ByteArray) (R L : Nat) : Prop := ∀ (e : UInt8) (p k : Nat) (w : World), p < s.size → s.size - (p + 1) ≤ L → k + (s.size - p) ≤ 40000 → Rdr w R s p 0 k → Tabs w → Calls Tryz.prog 127 #[.pointer (some ⟨R, 0, none⟩), .int .u8 (e.toNat : Int)] w fun E w' => ∃ r, Rdd (.list e []) (rsB s (p + 1)) k r ∧ DatPost s R p k w r E w'
section
variable {w w' : World} {R p q k L : Nat} {s : ByteArray}
theorem fwd_ok {d : DT} {u : LT} (hR : R < w.heap.size) (hk : Kept R (w.alloc (Obj.cells #[.int .i64 0, .bool false, .slice none 0 0, .bool false, .string ⟨#[]⟩, .slice none 0 0, .slice none 0 0] 31)) w') (hpq : p < q) (hq : q ≤ s.size) (hu : HeldP w' (Fresh w' (w.alloc (Obj.cells #[.int .i64 0, .bool false, .slice none 0 0, .bool false, .string ⟨#[]⟩, .slice none 0 0, .slice none 0 0] 31)).heap.size) u) (hd : shape u = d) (ht : Tame u) (hz : u.size + 2 * p ≤ 2 * q) (hr : Rdr w' R s q 0 k) :
    DatPost s R p k w (.ok d (rsB s q)) (.returned (.tuple #[.agg #[.int .i64 u.k, .bool u.g, .slice u.la u.ln u.lc, .bool u.bb, .string u.s, .slice u.ia u.items.length u.ic, .slice u.ta u.tail.length u.tc], .bool true])) (W7 w' w.heap.size (.int .i64 u.k) (.bool u.g) (.slice u.la u.ln u.lc) (.bool u.bb) (.string u.s) (.slice u.ia u.items.length u.ic) (.slice u.ta u.tail.length u.tc)) :=
  datPost_ok rfl hR hk.first hr (by rw [World.size_alloc] at hu; exact hu) hd ht hpq hq hz
theorem fwd_bad {e : Int} (hR : R < w.heap.size) (hk : Kept R (w.alloc (Obj.cells #[.int .i64 0, .bool false, .slice none 0 0, .bool false, .string ⟨#[]⟩, .slice none 0 0, .slice none 0 0] 31)) w') (hq : q ≤ s.size) (hr : Rdr w' R s q e k) :
    DatPost s R p k w (.bad e (rsB s q)) (.returned (.tuple #[.agg #[.int .i64 0, .bool false, .slice none 0 0, .bool false, .string ⟨#[]⟩, .slice none 0 0, .slice none 0 0], .bool false])) (W7 w' w.heap.size (.int .i64 0) (.bool false) (.slice none 0 0) (.bool false) (.string ⟨#[]⟩) (.slice none 0 0) (.slice none 0 0)) :=
  datPost_bad rfl hR hk.first hr hq
set_option maxRecDepth 100000 in
set_option maxHeartbeats 6400000 in
theorem clos1_from (hL : ListC s R L) (hp : p < s.size) (hpL : s.size - (p + 1) ≤ L) (hk : k + (s.size - p) ≤ 40000) (h : Rdr w R s p 0 k) (ht : Tabs w) {B : Nat} (hB : w.cell? ⟨B, 0, none⟩ = some (.pointer (some ⟨R, 0, none⟩))) (hBl : B < w.heap.size) :
    Calls Tryz.prog 126 #[.pointer (some ⟨B, 0, none⟩)] w fun E w' => ∃ r, Rdd (.list 41 []) (rsB s (p + 1)) k r ∧ DatPost s R p k w r E w' := by
  have hRl := h.lt
  have hb1 : Below w.heap.size w (w.alloc (Obj.cells #[.int .i64 0, .bool false, .slice none 0 0, .bool false, .string ⟨#[]⟩, .slice none 0 0, .slice none 0 0] 31)) := (Below.refl _ w).alloc (Nat.le_refl _) _
  have hB1 : (w.alloc (Obj.cells #[.int .i64 0, .bool false, .slice none 0 0, .bool false, .string ⟨#[]⟩, .slice none 0 0, .slice none 0 0] 31)).cell? ⟨B, 0, none⟩ = some (.pointer (some ⟨R, 0, none⟩)) := (hb1.cell (p := ⟨B, 0, none⟩) hBl).trans hB
  have H := Lib.hid (hL 41 p k (w.alloc (Obj.cells #[.int .i64 0, .bool false, .slice none 0 0, .bool false, .string ⟨#[]⟩, .slice none 0 0, .slice none 0 0] 31)) hp hpL hk (h.alloc _) (ht.below hb1))
  clear h ht hL hB hb1
  go_enter Tryz.func126, Tryz.ntmps126
  go_wp2_with fail
  refine H.out.mono ?_
  rintro E w' ⟨r, hr, hkw, hpost⟩
  obtain ⟨⟨d0, d1, d2, d3, d4, d5, d6⟩, g0, g1, g2, g3, g4, g5, g6⟩ := seven (z_kept hRl hkw)
  have HR := Lib.hid (And.intro hr hkw)
  clear hr hkw hB1
  cases r with
  | ok d l =>
    obtain ⟨q, u, hpq, hq, rfl, rfl, hu, hd, htm, hz, hr⟩ := hpost
    have HU := Lib.hid (And.intro hu (And.intro hd (And.intro htm (And.intro hz hr))))
    clear hu hd htm hz hr
    go_wp2_with fail
    exact dt_ret rfl rfl rfl rfl (z_kept hRl HR.out.2) ⟨_, HR.out.1, fwd_ok hRl HR.out.2 hpq hq HU.out.1 HU.out.2.1 HU.out.2.2.1 HU.out.2.2.2.1 HU.out.2.2.2.2⟩
  | bad e l =>
    obtain ⟨q, hq, rfl, rfl, hr⟩ := hpost
    have HU := Lib.hid hr
    clear hr
    go_wp2_with fail
    exact dt_ret rfl rfl rfl rfl (z_kept hRl HR.out.2) ⟨_, HR.out.1, fwd_bad hRl HR.out.2 hq HU.out⟩
set_option maxRecDepth 100000 in
set_option maxHeartbeats 6400000 in
theorem clos2_from (hL : ListC s R L) (hp : p < s.size) (hpL : s.size - (p + 1) ≤ L) (hk : k + (s.size - p) ≤ 40000) (h : Rdr w R s p 0 k) (ht : Tabs w) {B : Nat} (hB : w.cell? ⟨B, 0, none⟩ = some (.pointer (some ⟨R, 0, none⟩))) (hBl : B < w.heap.size) :
    Calls Tryz.prog 128 #[.pointer (some ⟨B, 0, none⟩)] w fun E w' => ∃ r, Rdd (.list 93 []) (rsB s (p + 1)) k r ∧ DatPost s R p k w r E w' := by
  have hRl := h.lt
  have hb1 : Below w.heap.size w (w.alloc (Obj.cells #[.int .i64 0, .bool false, .slice none 0 0, .bool false, .string ⟨#[]⟩, .slice none 0 0, .slice none 0 0] 31)) := (Below.refl _ w).alloc (Nat.le_refl _) _
  have hB1 : (w.alloc (Obj.cells #[.int .i64 0, .bool false, .slice none 0 0, .bool false, .string ⟨#[]⟩, .slice none 0 0, .slice none 0 0] 31)).cell? ⟨B, 0, none⟩ = some (.pointer (some ⟨R, 0, none⟩)) := (hb1.cell (p := ⟨B, 0, none⟩) hBl).trans hB
  have H := Lib.hid (hL 93 p k (w.alloc (Obj.cells #[.int .i64 0, .bool false, .slice none 0 0, .bool false, .string ⟨#[]⟩, .slice none 0 0, .slice none 0 0] 31)) hp hpL hk (h.alloc _) (ht.below hb1))
  clear h ht hL hB hb1
  go_enter Tryz.func128, Tryz.ntmps128
  go_wp2_with fail
  refine H.out.mono ?_
  rintro E w' ⟨r, hr, hkw, hpost⟩
  obtain ⟨⟨d0, d1, d2, d3, d4, d5, d6⟩, g0, g1, g2, g3, g4, g5, g6⟩ := seven (z_kept hRl hkw)
  have HR := Lib.hid (And.intro hr hkw)
  clear hr hkw hB1
  cases r with
  | ok d l =>
    obtain ⟨q, u, hpq, hq, rfl, rfl, hu, hd, htm, hz, hr⟩ := hpost
    have HU := Lib.hid (And.intro hu (And.intro hd (And.intro htm (And.intro hz hr))))
    clear hu hd htm hz hr
    go_wp2_with fail
    exact dt_ret rfl rfl rfl rfl (z_kept hRl HR.out.2) ⟨_, HR.out.1, fwd_ok hRl HR.out.2 hpq hq HU.out.1 HU.out.2.1 HU.out.2.2.1 HU.out.2.2.2.1 HU.out.2.2.2.2⟩
  | bad e l =>
    obtain ⟨q, hq, rfl, rfl, hr⟩ := hpost
    have HU := Lib.hid hr
    clear hr
    go_wp2_with fail
    exact dt_ret rfl rfl rfl rfl (z_kept hRl HR.out.2) ⟨_, HR.out.1, fwd_bad hRl HR.out.2 hq HU.out⟩
end
end

section

section
variable {w w' : World} {R p q k L : Nat} {s : ByteArray}
set_option maxRecDepth 100000 in
set_option maxHeartbeats 6400000 in
theorem inside_deep (h : Rdr w R s p 0 k) (hp : p ≤ s.size) (hk : 200 ≤ k) (hk2 : k ≤ 40000) (v : Value) : Calls Tryz.prog 125 #[.pointer (some ⟨R, 0, none⟩), v] w (DatPost s R p k w (.bad errDeep (rsB s p))) := by
  have hRl := h.lt
  have hr1 := h.alloc (Obj.cells #[.int .i64 0, .bool false, .slice none 0 0, .bool false, .string ⟨#[]⟩, .slice none 0 0, .slice none 0 0] 31)
  obtain ⟨c0, c1, c2, c3⟩ := hr1.c
  have H := Lib.hid (none_any hr1 13 p)
  have hge : decide ((200 : Int) ≤ (k : Int)) = true := by simp; omega
  clear h hr1
  go_enter Tryz.func125, Tryz.ntmps125
  go_wp2_with (go_at_call 124; refine H.out.mono ?_; rintro E w' ⟨rfl, hr, hk⟩; obtain ⟨⟨d0, d1, d2, d3, d4, d5, d6⟩, g0, g1, g2, g3, g4, g5, g6⟩ := seven (z_kept hRl hk); have HK := Lib.hid (And.intro hk hr); clear hk hr c0 c1 c2 c3)
  exact dt_ret rfl rfl rfl rfl (z_kept hRl HK.out.1) (fwd_bad hRl HK.out.1 hp HK.out.2)
set_option maxRecDepth 100000 in
set_option maxHeartbeats 6400000 in
theorem inside_list1 {B : Nat} {Q : Res → Prop} (HF : ∀ W, Rdr W R s p 0 (k + 1) → Kept R w W → Calls Tryz.prog 126 #[.pointer (some ⟨B, 0, none⟩)] W fun E w' => ∃ r, Q r ∧ DatPost s R p (k + 1) W r E w') (h : Rdr w R s p 0 k) (hp : p ≤ s.size) (hk : k < 200) :
    Calls Tryz.prog 125 #[.pointer (some ⟨R, 0, none⟩), .func (.func 126) #[] #[.pointer (some ⟨B, 0, none⟩)]] w fun E w' => ∃ r, Q r ∧ DatPost s R p k w r E w' := by
  have hRl := h.lt
  have hne : R ≠ w.heap.size := by omega
  have hne2 : w.heap.size ≠ R := by omega
  have hr1 := h.alloc (Obj.cells #[.int .i64 0, .bool false, .slice none 0 0, .bool false, .string ⟨#[]⟩, .slice none 0 0, .slice none 0 0] 31)
  have hs1 := h.set3 (j := k + 1) ((k : Int) + 1) (by omega)
  obtain ⟨c0, c1, c2, c3⟩ := hr1.c
  obtain ⟨f1, f2, f3⟩ := hr1.f
  have hlt : decide ((200 : Int) ≤ (k : Int)) = false := by simp; omega
  have HW : Hid (Rdr ((w.alloc (Obj.cells #[.int .i64 0, .bool false, .slice none 0 0, .bool false, .string ⟨#[]⟩, .slice none 0 0, .slice none 0 0] 31)).setCell ⟨R, 3, none⟩ (.int .i64 ((k : Int) + 1))) R s p 0 (k + 1) ∧ Rdr ((w.setCell ⟨R, 3, none⟩ (.int .i64 ((k : Int) + 1))).alloc (Obj.cells #[.int .i64 0, .bool false, .slice none 0 0, .bool false, .string ⟨#[]⟩, .slice none 0 0, .slice none 0 0] 31)) R s p 0 (k + 1)) := Lib.hid ⟨hr1.set3 _ (by omega), hs1.alloc _⟩
  have HK : Hid (Kept R (w.alloc (Obj.cells #[.int .i64 0, .bool false, .slice none 0 0, .bool false, .string ⟨#[]⟩, .slice none 0 0, .slice none 0 0] 31)) ((w.alloc (Obj.cells #[.int .i64 0, .bool false, .slice none 0 0, .bool false, .string ⟨#[]⟩, .slice none 0 0, .slice none 0 0] 31)).setCell ⟨R, 3, none⟩ (.int .i64 ((k : Int) + 1)))) := Lib.hid ((Kept.rfl' R _).set _ _ rfl)
  have HK2 : Hid (Kept R (w.alloc (Obj.cells #[.int .i64 0, .bool false, .slice none 0 0, .bool false, .string ⟨#[]⟩, .slice none 0 0, .slice none 0 0] 31)) ((w.setCell ⟨R, 3, none⟩ (.int .i64 ((k : Int) + 1))).alloc (Obj.cells #[.int .i64 0, .bool false, .slice none 0 0, .bool false, .string ⟨#[]⟩, .slice none 0 0, .slice none 0 0] 31))) := Lib.hid ⟨by simp, fun i hi hiR => by
    have hi2 : i < w.heap.size + 1 := by simpa using hi
    by_cases hw : i = w.heap.size
    · subst hw
      have e1 := World.alloc_heap_new w (Obj.cells #[.int .i64 0, .bool false, .slice none 0 0, .bool false, .string ⟨#[]⟩, .slice none 0 0, .slice none 0 0] 31)
      have e2 := World.alloc_heap_new (w.setCell ⟨R, 3, none⟩ (.int .i64 ((k : Int) + 1))) (Obj.cells #[.int .i64 0, .bool false, .slice none 0 0, .bool false, .string ⟨#[]⟩, .slice none 0 0, .slice none 0 0] 31)
      rw [World.size_setCell] at e2
      rw [e1, e2]
    · rw [Below.heap_alloc _ _ _ (by simp; omega), Below.heap_alloc _ _ _ (by omega), Below.heap_setCell _ _ _ _ hiR], rfl, rfl, rfl⟩
  have HH := Lib.hid HF
  clear h hr1 hs1 HF
  go_enter Tryz.func125, Tryz.ntmps125
  go_wp2_with fail
  obtain ⟨W, hW⟩ : ∃ W, W = (w.setCell ⟨R, 3, none⟩ (.int .i64 ((k : Int) + 1))).alloc (Obj.cells #[.int .i64 0, .bool false, .slice none 0 0, .bool false, .string ⟨#[]⟩, .slice none 0 0, .slice none 0 0] 31) := ⟨_, rfl⟩
  first | rw [← hW] | skip
  have hrW : Rdr W R s p 0 (k + 1) := hW ▸ HW.out.2
  have hkW : Kept R (w.alloc (Obj.cells #[.int .i64 0, .bool false, .slice none 0 0, .bool false, .string ⟨#[]⟩, .slice none 0 0, .slice none 0 0] 31)) W := hW ▸ HK2.out
  clear hW c0 c1 c2 c3 f1 f2 f3
  refine (HH.out W hrW (Kept.first hkW)).mono ?_
  rintro E w' ⟨r, hr, hkw, hpost⟩
  have hkk := hkW.trans hkw
  have hWz : W.heap.size = w.heap.size + 1 ∨ True := .inr trivial
  obtain ⟨⟨d0, d1, d2, d3, d4, d5, d6⟩, g0, g1, g2, g3, g4, g5, g6⟩ := seven (z_kept hRl hkk)
  have HR := Lib.hid (And.intro hr hkk)
  have hWs : w.heap.size + 1 ≤ W.heap.size := by have := hkW.1; rw [World.size_alloc] at this; exact this
  clear hr hkw hkk
  cases r with
  | ok d l =>
    obtain ⟨q, u, hpq, hq, rfl, rfl, hu, hd, htm, hz, hr⟩ := hpost
    have hz' := z_kept hRl HR.out.2
    have hDl := (Array.getElem?_eq_some_iff.1 hz').1
    have hra := hr.alloc (Obj.cells #[.int .i64 u.k, .bool u.g, .slice u.la u.ln u.lc, .bool u.bb, .string u.s, .slice u.ia u.items.length u.ic, .slice u.ta u.tail.length u.tc] 31)
    obtain ⟨c0, c1, c2, c3⟩ := hra.c
    obtain ⟨f1, f2, f3⟩ := hra.f
    have hXR : Rdr ((w'.alloc (Obj.cells #[.int .i64 u.k, .bool u.g, .slice u.la u.ln u.lc, .bool u.bb, .string u.s, .slice u.ia u.items.length u.ic, .slice u.ta u.tail.length u.tc] 31)).setCell ⟨R, 3, none⟩ (.int .i64 (k : Int))) R s q 0 k := hra.set3 _ rfl
    have hXz : ((w'.alloc (Obj.cells #[.int .i64 u.k, .bool u.g, .slice u.la u.ln u.lc, .bool u.bb, .string u.s, .slice u.ia u.items.length u.ic, .slice u.ta u.tail.length u.tc] 31)).setCell ⟨R, 3, none⟩ (.int .i64 (k : Int))).heap[w.heap.size]? = some (Obj.cells #[.int .i64 0, .bool false, .slice none 0 0, .bool false, .string ⟨#[]⟩, .slice none 0 0, .slice none 0 0] 31) := (Below.heap_setCell _ _ _ _ hne2).trans ((Below.heap_alloc _ _ _ hDl).trans hz')
    have hXd : ((w'.alloc (Obj.cells #[.int .i64 u.k, .bool u.g, .slice u.la u.ln u.lc, .bool u.bb, .string u.s, .slice u.ia u.items.length u.ic, .slice u.ta u.tail.length u.tc] 31)).setCell ⟨R, 3, none⟩ (.int .i64 (k : Int))).heap[w'.heap.size]? = some (Obj.cells #[.int .i64 u.k, .bool u.g, .slice u.la u.ln u.lc, .bool u.bb, .string u.s, .slice u.ia u.items.length u.ic, .slice u.ta u.tail.length u.tc] 31) := (Below.heap_setCell _ _ _ _ (by have := HR.out.2.1; have := hra.lt; show w'.heap.size ≠ R; omega)).trans (World.alloc_heap_new w' (Obj.cells #[.int .i64 u.k, .bool u.g, .slice u.la u.ln u.lc, .bool u.bb, .string u.s, .slice u.ia u.items.length u.ic, .slice u.ta u.tail.length u.tc] 31))
    have hXk : Kept R w ((w'.alloc (Obj.cells #[.int .i64 u.k, .bool u.g, .slice u.la u.ln u.lc, .bool u.bb, .string u.s, .slice u.ia u.items.length u.ic, .slice u.ta u.tail.length u.tc] 31)).setCell ⟨R, 3, none⟩ (.int .i64 (k : Int))) := Kept.set (Kept.onto (Kept.first HR.out.2) ((Below.refl _ _).alloc (Nat.le_refl _) _)) _ _ rfl
    have hXu : HeldP ((w'.alloc (Obj.cells #[.int .i64 u.k, .bool u.g, .slice u.la u.ln u.lc, .bool u.bb, .string u.s, .slice u.ia u.items.length u.ic, .slice u.ta u.tail.length u.tc] 31)).setCell ⟨R, 3, none⟩ (.int .i64 (k : Int))) (Fresh ((w'.alloc (Obj.cells #[.int .i64 u.k, .bool u.g, .slice u.la u.ln u.lc, .bool u.bb, .string u.s, .slice u.ia u.items.length u.ic, .slice u.ta u.tail.length u.tc] 31)).setCell ⟨R, 3, none⟩ (.int .i64 (k : Int))) (w.heap.size + 1)) u := hu.keep (by simp) fun i hi => by
      have e1 : ((w'.alloc (Obj.cells #[.int .i64 u.k, .bool u.g, .slice u.la u.ln u.lc, .bool u.bb, .string u.s, .slice u.ia u.items.length u.ic, .slice u.ta u.tail.length u.tc] 31)).setCell ⟨R, 3, none⟩ (.int .i64 (k : Int))).heap[i]? = w'.heap[i]? := (Below.heap_setCell _ _ _ _ (by have := hi.1; show i ≠ R; omega)).trans (Below.heap_alloc _ _ _ hi.lt)
      exact ⟨(hi.same e1).low (by omega), e1⟩
    have HU := Lib.hid (And.intro hXu (And.intro hd (And.intro htm (And.intro hz (And.intro hXR (And.intro hXz hXk))))))
    obtain ⟨⟨i0, i1, i2, i3, i4, i5, i6⟩, j0, j1, j2, j3, j4, j5, j6⟩ := seven hXz
    obtain ⟨⟨x0, x1, x2, x3, x4, x5, x6⟩, y0, y1, y2, y3, y4, y5, y6⟩ := seven hXd
    clear hu hd htm hz hr hra hXR hXz hXd hXk hXu hz'
    go_wp2_with fail
    exact dt_ret rfl rfl rfl rfl HU.out.2.2.2.2.2.1 ⟨_, HR.out.1, datPost_ok rfl hRl HU.out.2.2.2.2.2.2 HU.out.2.2.2.2.1 HU.out.1 HU.out.2.1 HU.out.2.2.1 hpq hq HU.out.2.2.2.1⟩
  | bad e l =>
    obtain ⟨q, hq, rfl, rfl, hr⟩ := hpost
    have hz' := z_kept hRl HR.out.2
    have hDl := (Array.getElem?_eq_some_iff.1 hz').1
    have hra := hr.alloc (Obj.cells #[.int .i64 0, .bool false, .slice none 0 0, .bool false, .string ⟨#[]⟩, .slice none 0 0, .slice none 0 0] 31)
    obtain ⟨c0, c1, c2, c3⟩ := hra.c
    obtain ⟨f1, f2, f3⟩ := hra.f
    have hXR : Rdr ((w'.alloc (Obj.cells #[.int .i64 0, .bool false, .slice none 0 0, .bool false, .string ⟨#[]⟩, .slice none 0 0, .slice none 0 0] 31)).setCell ⟨R, 3, none⟩ (.int .i64 (k : Int))) R s q e k := hra.set3 _ rfl
    have hXz : ((w'.alloc (Obj.cells #[.int .i64 0, .bool false, .slice none 0 0, .bool false, .string ⟨#[]⟩, .slice none 0 0, .slice none 0 0] 31)).setCell ⟨R, 3, none⟩ (.int .i64 (k : Int))).heap[w.heap.size]? = some (Obj.cells #[.int .i64 0, .bool false, .slice none 0 0, .bool false, .string ⟨#[]⟩, .slice none 0 0, .slice none 0 0] 31) := (Below.heap_setCell _ _ _ _ hne2).trans ((Below.heap_alloc _ _ _ hDl).trans hz')
    have hXd : ((w'.alloc (Obj.cells #[.int .i64 0, .bool false, .slice none 0 0, .bool false, .string ⟨#[]⟩, .slice none 0 0, .slice none 0 0] 31)).setCell ⟨R, 3, none⟩ (.int .i64 (k : Int))).heap[w'.heap.size]? = some (Obj.cells #[.int .i64 0, .bool false, .slice none 0 0, .bool false, .string ⟨#[]⟩, .slice none 0 0, .slice none 0 0] 31) := (Below.heap_setCell _ _ _ _ (by have := HR.out.2.1; have := hra.lt; show w'.heap.size ≠ R; omega)).trans (World.alloc_heap_new w' (Obj.cells #[.int .i64 0, .bool false, .slice none 0 0, .bool false, .string ⟨#[]⟩, .slice none 0 0, .slice none 0 0] 31))
    have hXk : Kept R w ((w'.alloc (Obj.cells #[.int .i64 0, .bool false, .slice none 0 0, .bool false, .string ⟨#[]⟩, .slice none 0 0, .slice none 0 0] 31)).setCell ⟨R, 3, none⟩ (.int .i64 (k : Int))) := Kept.set (Kept.onto (Kept.first HR.out.2) ((Below.refl _ _).alloc (Nat.le_refl _) _)) _ _ rfl
    have HU := Lib.hid (And.intro hXR (And.intro hXz hXk))
    obtain ⟨⟨i0, i1, i2, i3, i4, i5, i6⟩, j0, j1, j2, j3, j4, j5, j6⟩ := seven hXz
    obtain ⟨⟨x0, x1, x2, x3, x4, x5, x6⟩, y0, y1, y2, y3, y4, y5, y6⟩ := seven hXd
    clear hr hra hXR hXz hXd hXk hz'
    go_wp2_with fail
    exact dt_ret rfl rfl rfl rfl HU.out.2.1 ⟨_, HR.out.1, datPost_bad rfl hRl HU.out.2.2 HU.out.1 hq⟩
set_option maxRecDepth 100000 in
set_option maxHeartbeats 6400000 in
theorem inside_list2 {B : Nat} {Q : Res → Prop} (HF : ∀ W, Rdr W R s p 0 (k + 1) → Kept R w W → Calls Tryz.prog 128 #[.pointer (some ⟨B, 0, none⟩)] W fun E w' => ∃ r, Q r ∧ DatPost s R p (k + 1) W r E w') (h : Rdr w R s p 0 k) (hp : p ≤ s.size) (hk : k < 200) :
    Calls Tryz.prog 125 #[.pointer (some ⟨R, 0, none⟩), .func (.func 128) #[] #[.pointer (some ⟨B, 0, none⟩)]] w fun E w' => ∃ r, Q r ∧ DatPost s R p k w r E w' := by
  have hRl := h.lt
  have hne : R ≠ w.heap.size := by omega
  have hne2 : w.heap.size ≠ R := by omega
  have hr1 := h.alloc (Obj.cells #[.int .i64 0, .bool false, .slice none 0 0, .bool false, .string ⟨#[]⟩, .slice none 0 0, .slice none 0 0] 31)
  have hs1 := h.set3 (j := k + 1) ((k : Int) + 1) (by omega)
  obtain ⟨c0, c1, c2, c3⟩ := hr1.c
  obtain ⟨f1, f2, f3⟩ := hr1.f
  have hlt : decide ((200 : Int) ≤ (k : Int)) = false := by simp; omega
  have HW : Hid (Rdr ((w.alloc (Obj.cells #[.int .i64 0, .bool false, .slice none 0 0, .bool false, .string ⟨#[]⟩, .slice none 0 0, .slice none 0 0] 31)).setCell ⟨R, 3, none⟩ (.int .i64 ((k : Int) + 1))) R s p 0 (k + 1) ∧ Rdr ((w.setCell ⟨R, 3, none⟩ (.int .i64 ((k : Int) + 1))).alloc (Obj.cells #[.int .i64 0, .bool false, .slice none 0 0, .bool false, .string ⟨#[]⟩, .slice none 0 0, .slice none 0 0] 31)) R s p 0 (k + 1)) := Lib.hid ⟨hr1.set3 _ (by omega), hs1.alloc _⟩
  have HK : Hid (Kept R (w.alloc (Obj.cells #[.int .i64 0, .bool false, .slice none 0 0, .bool false, .string ⟨#[]⟩, .slice none 0 0, .slice none 0 0] 31)) ((w.alloc (Obj.cells #[.int .i64 0, .bool false, .slice none 0 0, .bool false, .string ⟨#[]⟩, .slice none 0 0, .slice none 0 0] 31)).setCell ⟨R, 3, none⟩ (.int .i64 ((k : Int) + 1)))) := Lib.hid ((Kept.rfl' R _).set _ _ rfl)
  have HK2 : Hid (Kept R (w.alloc (Obj.cells #[.int .i64 0, .bool false, .slice none 0 0, .bool false, .string ⟨#[]⟩, .slice none 0 0, .slice none 0 0] 31)) ((w.setCell ⟨R, 3, none⟩ (.int .i64 ((k : Int) + 1))).alloc (Obj.cells #[.int .i64 0, .bool false, .slice none 0 0, .bool false, .string ⟨#[]⟩, .slice none 0 0, .slice none 0 0] 31))) := Lib.hid ⟨by simp, fun i hi hiR => by
    have hi2 : i < w.heap.size + 1 := by simpa using hi
    by_cases hw : i = w.heap.size
    · subst hw
      have e1 := World.alloc_heap_new w (Obj.cells #[.int .i64 0, .bool false, .slice none 0 0, .bool false, .string ⟨#[]⟩, .slice none 0 0, .slice none 0 0] 31)
      have e2 := World.alloc_heap_new (w.setCell ⟨R, 3, none⟩ (.int .i64 ((k : Int) + 1))) (Obj.cells #[.int .i64 0, .bool false, .slice none 0 0, .bool false, .string ⟨#[]⟩, .slice none 0 0, .slice none 0 0] 31)
      rw [World.size_setCell] at e2
      rw [e1, e2]
    · rw [Below.heap_alloc _ _ _ (by simp; omega), Below.heap_alloc _ _ _ (by omega), Below.heap_setCell _ _ _ _ hiR], rfl, rfl, rfl⟩
  have HH := Lib.hid HF
  clear h hr1 hs1 HF
  go_enter Tryz.func125, Tryz.ntmps125
  go_wp2_with fail
  obtain ⟨W, hW⟩ : ∃ W, W = (w.setCell ⟨R, 3, none⟩ (.int .i64 ((k : Int) + 1))).alloc (Obj.cells #[.int .i64 0, .bool false, .slice none 0 0, .bool false, .string ⟨#[]⟩, .slice none 0 0, .slice none 0 0] 31) := ⟨_, rfl⟩
  first | rw [← hW] | skip
  have hrW : Rdr W R s p 0 (k + 1) := hW ▸ HW.out.2
  have hkW : Kept R (w.alloc (Obj.cells #[.int .i64 0, .bool false, .slice none 0 0, .bool false, .string ⟨#[]⟩, .slice none 0 0, .slice none 0 0] 31)) W := hW ▸ HK2.out
  clear hW c0 c1 c2 c3 f1 f2 f3
  refine (HH.out W hrW (Kept.first hkW)).mono ?_
  rintro E w' ⟨r, hr, hkw, hpost⟩
  have hkk := hkW.trans hkw
  have hWz : W.heap.size = w.heap.size + 1 ∨ True := .inr trivial
  obtain ⟨⟨d0, d1, d2, d3, d4, d5, d6⟩, g0, g1, g2, g3, g4, g5, g6⟩ := seven (z_kept hRl hkk)
  have HR := Lib.hid (And.intro hr hkk)
  have hWs : w.heap.size + 1 ≤ W.heap.size := by have := hkW.1; rw [World.size_alloc] at this; exact this
  clear hr hkw hkk
  cases r with
  | ok d l =>
    obtain ⟨q, u, hpq, hq, rfl, rfl, hu, hd, htm, hz, hr⟩ := hpost
    have hz' := z_kept hRl HR.out.2
    have hDl := (Array.getElem?_eq_some_iff.1 hz').1
    have hra := hr.alloc (Obj.cells #[.int .i64 u.k, .bool u.g, .slice u.la u.ln u.lc, .bool u.bb, .string u.s, .slice u.ia u.items.length u.ic, .slice u.ta u.tail.length u.tc] 31)
    obtain ⟨c0, c1, c2, c3⟩ := hra.c
    obtain ⟨f1, f2, f3⟩ := hra.f
    have hXR : Rdr ((w'.alloc (Obj.cells #[.int .i64 u.k, .bool u.g, .slice u.la u.ln u.lc, .bool u.bb, .string u.s, .slice u.ia u.items.length u.ic, .slice u.ta u.tail.length u.tc] 31)).setCell ⟨R, 3, none⟩ (.int .i64 (k : Int))) R s q 0 k := hra.set3 _ rfl
    have hXz : ((w'.alloc (Obj.cells #[.int .i64 u.k, .bool u.g, .slice u.la u.ln u.lc, .bool u.bb, .string u.s, .slice u.ia u.items.length u.ic, .slice u.ta u.tail.length u.tc] 31)).setCell ⟨R, 3, none⟩ (.int .i64 (k : Int))).heap[w.heap.size]? = some (Obj.cells #[.int .i64 0, .bool false, .slice none 0 0, .bool false, .string ⟨#[]⟩, .slice none 0 0, .slice none 0 0] 31) := (Below.heap_setCell _ _ _ _ hne2).trans ((Below.heap_alloc _ _ _ hDl).trans hz')
    have hXd : ((w'.alloc (Obj.cells #[.int .i64 u.k, .bool u.g, .slice u.la u.ln u.lc, .bool u.bb, .string u.s, .slice u.ia u.items.length u.ic, .slice u.ta u.tail.length u.tc] 31)).setCell ⟨R, 3, none⟩ (.int .i64 (k : Int))).heap[w'.heap.size]? = some (Obj.cells #[.int .i64 u.k, .bool u.g, .slice u.la u.ln u.lc, .bool u.bb, .string u.s, .slice u.ia u.items.length u.ic, .slice u.ta u.tail.length u.tc] 31) := (Below.heap_setCell _ _ _ _ (by have := HR.out.2.1; have := hra.lt; show w'.heap.size ≠ R; omega)).trans (World.alloc_heap_new w' (Obj.cells #[.int .i64 u.k, .bool u.g, .slice u.la u.ln u.lc, .bool u.bb, .string u.s, .slice u.ia u.items.length u.ic, .slice u.ta u.tail.length u.tc] 31))
    have hXk : Kept R w ((w'.alloc (Obj.cells #[.int .i64 u.k, .bool u.g, .slice u.la u.ln u.lc, .bool u.bb, .string u.s, .slice u.ia u.items.length u.ic, .slice u.ta u.tail.length u.tc] 31)).setCell ⟨R, 3, none⟩ (.int .i64 (k : Int))) := Kept.set (Kept.onto (Kept.first HR.out.2) ((Below.refl _ _).alloc (Nat.le_refl _) _)) _ _ rfl
    have hXu : HeldP ((w'.alloc (Obj.cells #[.int .i64 u.k, .bool u.g, .slice u.la u.ln u.lc, .bool u.bb, .string u.s, .slice u.ia u.items.length u.ic, .slice u.ta u.tail.length u.tc] 31)).setCell ⟨R, 3, none⟩ (.int .i64 (k : Int))) (Fresh ((w'.alloc (Obj.cells #[.int .i64 u.k, .bool u.g, .slice u.la u.ln u.lc, .bool u.bb, .string u.s, .slice u.ia u.items.length u.ic, .slice u.ta u.tail.length u.tc] 31)).setCell ⟨R, 3, none⟩ (.int .i64 (k : Int))) (w.heap.size + 1)) u := hu.keep (by simp) fun i hi => by
      have e1 : ((w'.alloc (Obj.cells #[.int .i64 u.k, .bool u.g, .slice u.la u.ln u.lc, .bool u.bb, .string u.s, .slice u.ia u.items.length u.ic, .slice u.ta u.tail.length u.tc] 31)).setCell ⟨R, 3, none⟩ (.int .i64 (k : Int))).heap[i]? = w'.heap[i]? := (Below.heap_setCell _ _ _ _ (by have := hi.1; show i ≠ R; omega)).trans (Below.heap_alloc _ _ _ hi.lt)
      exact ⟨(hi.same e1).low (by omega), e1⟩
    have HU := Lib.hid (And.intro hXu (And.intro hd (And.intro htm (And.intro hz (And.intro hXR (And.intro hXz hXk))))))
    obtain ⟨⟨i0, i1, i2, i3, i4, i5, i6⟩, j0, j1, j2, j3, j4, j5, j6⟩ := seven hXz
    obtain ⟨⟨x0, x1, x2, x3, x4, x5, x6⟩, y0, y1, y2, y3, y4, y5, y6⟩ := seven hXd
    clear hu hd htm hz hr hra hXR hXz hXd hXk hXu hz'
    go_wp2_with fail
    exact dt_ret rfl rfl rfl rfl HU.out.2.2.2.2.2.1 ⟨_, HR.out.1, datPost_ok rfl hRl HU.out.2.2.2.2.2.2 HU.out.2.2.2.2.1 HU.out.1 HU.out.2.1 HU.out.2.2.1 hpq hq HU.out.2.2.2.1⟩
  | bad e l =>
    obtain ⟨q, hq, rfl, rfl, hr⟩ := hpost
    have hz' := z_kept hRl HR.out.2
    have hDl := (Array.getElem?_eq_some_iff.1 hz').1
    have hra := hr.alloc (Obj.cells #[.int .i64 0, .bool false, .slice none 0 0, .bool false, .string ⟨#[]⟩, .slice none 0 0, .slice none 0 0] 31)
    obtain ⟨c0, c1, c2, c3⟩ := hra.c
    obtain ⟨f1, f2, f3⟩ := hra.f
    have hXR : Rdr ((w'.alloc (Obj.cells #[.int .i64 0, .bool false, .slice none 0 0, .bool false, .string ⟨#[]⟩, .slice none 0 0, .slice none 0 0] 31)).setCell ⟨R, 3, none⟩ (.int .i64 (k : Int))) R s q e k := hra.set3 _ rfl
    have hXz : ((w'.alloc (Obj.cells #[.int .i64 0, .bool false, .slice none 0 0, .bool false, .string ⟨#[]⟩, .slice none 0 0, .slice none 0 0] 31)).setCell ⟨R, 3, none⟩ (.int .i64 (k : Int))).heap[w.heap.size]? = some (Obj.cells #[.int .i64 0, .bool false, .slice none 0 0, .bool false, .string ⟨#[]⟩, .slice none 0 0, .slice none 0 0] 31) := (Below.heap_setCell _ _ _ _ hne2).trans ((Below.heap_alloc _ _ _ hDl).trans hz')
    have hXd : ((w'.alloc (Obj.cells #[.int .i64 0, .bool false, .slice none 0 0, .bool false, .string ⟨#[]⟩, .slice none 0 0, .slice none 0 0] 31)).setCell ⟨R, 3, none⟩ (.int .i64 (k : Int))).heap[w'.heap.size]? = some (Obj.cells #[.int .i64 0, .bool false, .slice none 0 0, .bool false, .string ⟨#[]⟩, .slice none 0 0, .slice none 0 0] 31) := (Below.heap_setCell _ _ _ _ (by have := HR.out.2.1; have := hra.lt; show w'.heap.size ≠ R; omega)).trans (World.alloc_heap_new w' (Obj.cells #[.int .i64 0, .bool false, .slice none 0 0, .bool false, .string ⟨#[]⟩, .slice none 0 0, .slice none 0 0] 31))
    have hXk : Kept R w ((w'.alloc (Obj.cells #[.int .i64 0, .bool false, .slice none 0 0, .bool false, .string ⟨#[]⟩, .slice none 0 0, .slice none 0 0] 31)).setCell ⟨R, 3, none⟩ (.int .i64 (k : Int))) := Kept.set (Kept.onto (Kept.first HR.out.2) ((Below.refl _ _).alloc (Nat.le_refl _) _)) _ _ rfl
    have HU := Lib.hid (And.intro hXR (And.intro hXz hXk))
    obtain ⟨⟨i0, i1, i2, i3, i4, i5, i6⟩, j0, j1, j2, j3, j4, j5, j6⟩ := seven hXz
    obtain ⟨⟨x0, x1, x2, x3, x4, x5, x6⟩, y0, y1, y2, y3, y4, y5, y6⟩ := seven hXd
    clear hr hra hXR hXz hXd hXk hz'
    go_wp2_with fail
    exact dt_ret rfl rfl rfl rfl HU.out.2.1 ⟨_, HR.out.1, datPost_bad rfl hRl HU.out.2.2 HU.out.1 hq⟩
set_option maxRecDepth 100000 in
set_option maxHeartbeats 6400000 in
theorem inside_quote {Q : Res → Prop} (HF : ∀ W, Rdr W R s p 0 (k + 1) → Kept R w W → Calls Tryz.prog 129 #[.pointer (some ⟨R, 0, none⟩)] W fun E w' => ∃ r, Q r ∧ DatPost s R p (k + 1) W r E w') (h : Rdr w R s p 0 k) (hp : p ≤ s.size) (hk : k < 200) :
    Calls Tryz.prog 125 #[.pointer (some ⟨R, 0, none⟩), .func (.func 129) #[.pointer (some ⟨R, 0, none⟩)] #[]] w fun E w' => ∃ r, Q r ∧ DatPost s R p k w r E w' := by
  have hRl := h.lt
  have hne : R ≠ w.heap.size := by omega
  have hne2 : w.heap.size ≠ R := by omega
  have hr1 := h.alloc (Obj.cells #[.int .i64 0, .bool false, .slice none 0 0, .bool false, .string ⟨#[]⟩, .slice none 0 0, .slice none 0 0] 31)
  have hs1 := h.set3 (j := k + 1) ((k : Int) + 1) (by omega)
  obtain ⟨c0, c1, c2, c3⟩ := hr1.c
  obtain ⟨f1, f2, f3⟩ := hr1.f
  have hlt : decide ((200 : Int) ≤ (k : Int)) = false := by simp; omega
  have HW : Hid (Rdr ((w.alloc (Obj.cells #[.int .i64 0, .bool false, .slice none 0 0, .bool false, .string ⟨#[]⟩, .slice none 0 0, .slice none 0 0] 31)).setCell ⟨R, 3, none⟩ (.int .i64 ((k : Int) + 1))) R s p 0 (k + 1) ∧ Rdr ((w.setCell ⟨R, 3, none⟩ (.int .i64 ((k : Int) + 1))).alloc (Obj.cells #[.int .i64 0, .bool false, .slice none 0 0, .bool false, .string ⟨#[]⟩, .slice none 0 0, .slice none 0 0] 31)) R s p 0 (k + 1)) := Lib.hid ⟨hr1.set3 _ (by omega), hs1.alloc _⟩
  have HK : Hid (Kept R (w.alloc (Obj.cells #[.int .i64 0, .bool false, .slice none 0 0, .bool false, .string ⟨#[]⟩, .slice none 0 0, .slice none 0 0] 31)) ((w.alloc (Obj.cells #[.int .i64 0, .bool false, .slice none 0 0, .bool false, .string ⟨#[]⟩, .slice none 0 0, .slice none 0 0] 31)).setCell ⟨R, 3, none⟩ (.int .i64 ((k : Int) + 1)))) := Lib.hid ((Kept.rfl' R _).set _ _ rfl)
  have HK2 : Hid (Kept R (w.alloc (Obj.cells #[.int .i64 0, .bool false, .slice none 0 0, .bool false, .string ⟨#[]⟩, .slice none 0 0, .slice none 0 0] 31)) ((w.setCell ⟨R, 3, none⟩ (.int .i64 ((k : Int) + 1))).alloc (Obj.cells #[.int .i64 0, .bool false, .slice none 0 0, .bool false, .string ⟨#[]⟩, .slice none 0 0, .slice none 0 0] 31))) := Lib.hid ⟨by simp, fun i hi hiR => by
    have hi2 : i < w.heap.size + 1 := by simpa using hi
    by_cases hw : i = w.heap.size
    · subst hw
      have e1 := World.alloc_heap_new w (Obj.cells #[.int .i64 0, .bool false, .slice none 0 0, .bool false, .string ⟨#[]⟩, .slice none 0 0, .slice none 0 0] 31)
      have e2 := World.alloc_heap_new (w.setCell ⟨R, 3, none⟩ (.int .i64 ((k : Int) + 1))) (Obj.cells #[.int .i64 0, .bool false, .slice none 0 0, .bool false, .string ⟨#[]⟩, .slice none 0 0, .slice none 0 0] 31)
      rw [World.size_setCell] at e2
      rw [e1, e2]
    · rw [Below.heap_alloc _ _ _ (by simp; omega), Below.heap_alloc _ _ _ (by omega), Below.heap_setCell _ _ _ _ hiR], rfl, rfl, rfl⟩
  have HH := Lib.hid HF
  clear h hr1 hs1 HF
  go_enter Tryz.func125, Tryz.ntmps125
  go_wp2_with fail
  obtain ⟨W, hW⟩ : ∃ W, W = (w.setCell ⟨R, 3, none⟩ (.int .i64 ((k : Int) + 1))).alloc (Obj.cells #[.int .i64 0, .bool false, .slice none 0 0, .bool false, .string ⟨#[]⟩, .slice none 0 0, .slice none 0 0] 31) := ⟨_, rfl⟩
  first | rw [← hW] | skip
  have hrW : Rdr W R s p 0 (k + 1) := hW ▸ HW.out.2
  have hkW : Kept R (w.alloc (Obj.cells #[.int .i64 0, .bool false, .slice none 0 0, .bool false, .string ⟨#[]⟩, .slice none 0 0, .slice none 0 0] 31)) W := hW ▸ HK2.out
  clear hW c0 c1 c2 c3 f1 f2 f3
  refine (HH.out W hrW (Kept.first hkW)).mono ?_
  rintro E w' ⟨r, hr, hkw, hpost⟩
  have hkk := hkW.trans hkw
  have hWz : W.heap.size = w.heap.size + 1 ∨ True := .inr trivial
  obtain ⟨⟨d0, d1, d2, d3, d4, d5, d6⟩, g0, g1, g2, g3, g4, g5, g6⟩ := seven (z_kept hRl hkk)
  have HR := Lib.hid (And.intro hr hkk)
  have hWs : w.heap.size + 1 ≤ W.heap.size := by have := hkW.1; rw [World.size_alloc] at this; exact this
  clear hr hkw hkk
  cases r with
  | ok d l =>
    obtain ⟨q, u, hpq, hq, rfl, rfl, hu, hd, htm, hz, hr⟩ := hpost
    have hz' := z_kept hRl HR.out.2
    have hDl := (Array.getElem?_eq_some_iff.1 hz').1
    have hra := hr.alloc (Obj.cells #[.int .i64 u.k, .bool u.g, .slice u.la u.ln u.lc, .bool u.bb, .string u.s, .slice u.ia u.items.length u.ic, .slice u.ta u.tail.length u.tc] 31)
    obtain ⟨c0, c1, c2, c3⟩ := hra.c
    obtain ⟨f1, f2, f3⟩ := hra.f
    have hXR : Rdr ((w'.alloc (Obj.cells #[.int .i64 u.k, .bool u.g, .slice u.la u.ln u.lc, .bool u.bb, .string u.s, .slice u.ia u.items.length u.ic, .slice u.ta u.tail.length u.tc] 31)).setCell ⟨R, 3, none⟩ (.int .i64 (k : Int))) R s q 0 k := hra.set3 _ rfl
    have hXz : ((w'.alloc (Obj.cells #[.int .i64 u.k, .bool u.g, .slice u.la u.ln u.lc, .bool u.bb, .string u.s, .slice u.ia u.items.length u.ic, .slice u.ta u.tail.length u.tc] 31)).setCell ⟨R, 3, none⟩ (.int .i64 (k : Int))).heap[w.heap.size]? = some (Obj.cells #[.int .i64 0, .bool false, .slice none 0 0, .bool false, .string ⟨#[]⟩, .slice none 0 0, .slice none 0 0] 31) := (Below.heap_setCell _ _ _ _ hne2).trans ((Below.heap_alloc _ _ _ hDl).trans hz')
    have hXd : ((w'.alloc (Obj.cells #[.int .i64 u.k, .bool u.g, .slice u.la u.ln u.lc, .bool u.bb, .string u.s, .slice u.ia u.items.length u.ic, .slice u.ta u.tail.length u.tc] 31)).setCell ⟨R, 3, none⟩ (.int .i64 (k : Int))).heap[w'.heap.size]? = some (Obj.cells #[.int .i64 u.k, .bool u.g, .slice u.la u.ln u.lc, .bool u.bb, .string u.s, .slice u.ia u.items.length u.ic, .slice u.ta u.tail.length u.tc] 31) := (Below.heap_setCell _ _ _ _ (by have := HR.out.2.1; have := hra.lt; show w'.heap.size ≠ R; omega)).trans (World.alloc_heap_new w' (Obj.cells #[.int .i64 u.k, .bool u.g, .slice u.la u.ln u.lc, .bool u.bb, .string u.s, .slice u.ia u.items.length u.ic, .slice u.ta u.tail.length u.tc] 31))
    have hXk : Kept R w ((w'.alloc (Obj.cells #[.int .i64 u.k, .bool u.g, .slice u.la u.ln u.lc, .bool u.bb, .string u.s, .slice u.ia u.items.length u.ic, .slice u.ta u.tail.length u.tc] 31)).setCell ⟨R, 3, none⟩ (.int .i64 (k : Int))) := Kept.set (Kept.onto (Kept.first HR.out.2) ((Below.refl _ _).alloc (Nat.le_refl _) _)) _ _ rfl
    have hXu : HeldP ((w'.alloc (Obj.cells #[.int .i64 u.k, .bool u.g, .slice u.la u.ln u.lc, .bool u.bb, .string u.s, .slice u.ia u.items.length u.ic, .slice u.ta u.tail.length u.tc] 31)).setCell ⟨R, 3, none⟩ (.int .i64 (k : Int))) (Fresh ((w'.alloc (Obj.cells #[.int .i64 u.k, .bool u.g, .slice u.la u.ln u.lc, .bool u.bb, .string u.s, .slice u.ia u.items.length u.ic, .slice u.ta u.tail.length u.tc] 31)).setCell ⟨R, 3, none⟩ (.int .i64 (k : Int))) (w.heap.size + 1)) u := hu.keep (by simp) fun i hi => by
      have e1 : ((w'.alloc (Obj.cells #[.int .i64 u.k, .bool u.g, .slice u.la u.ln u.lc, .bool u.bb, .string u.s, .slice u.ia u.items.length u.ic, .slice u.ta u.tail.length u.tc] 31)).setCell ⟨R, 3, none⟩ (.int .i64 (k : Int))).heap[i]? = w'.heap[i]? := (Below.heap_setCell _ _ _ _ (by have := hi.1; show i ≠ R; omega)).trans (Below.heap_alloc _ _ _ hi.lt)
      exact ⟨(hi.same e1).low (by omega), e1⟩
    have HU := Lib.hid (And.intro hXu (And.intro hd (And.intro htm (And.intro hz (And.intro hXR (And.intro hXz hXk))))))
    obtain ⟨⟨i0, i1, i2, i3, i4, i5, i6⟩, j0, j1, j2, j3, j4, j5, j6⟩ := seven hXz
    obtain ⟨⟨x0, x1, x2, x3, x4, x5, x6⟩, y0, y1, y2, y3, y4, y5, y6⟩ := seven hXd
    clear hu hd htm hz hr hra hXR hXz hXd hXk hXu hz'
    go_wp2_with fail
    exact dt_ret rfl rfl rfl rfl HU.out.2.2.2.2.2.1 ⟨_, HR.out.1, datPost_ok rfl hRl HU.out.2.2.2.2.2.2 HU.out.2.2.2.2.1 HU.out.1 HU.out.2.1 HU.out.2.2.1 hpq hq HU.out.2.2.2.1⟩
  | bad e l =>
    obtain ⟨q, hq, rfl, rfl, hr⟩ := hpost
    have hz' := z_kept hRl HR.out.2
    have hDl := (Array.getElem?_eq_some_iff.1 hz').1
    have hra := hr.alloc (Obj.cells #[.int .i64 0, .bool false, .slice none 0 0, .bool false, .string ⟨#[]⟩, .slice none 0 0, .slice none 0 0] 31)
    obtain ⟨c0, c1, c2, c3⟩ := hra.c
    obtain ⟨f1, f2, f3⟩ := hra.f
    have hXR : Rdr ((w'.alloc (Obj.cells #[.int .i64 0, .bool false, .slice none 0 0, .bool false, .string ⟨#[]⟩, .slice none 0 0, .slice none 0 0] 31)).setCell ⟨R, 3, none⟩ (.int .i64 (k : Int))) R s q e k := hra.set3 _ rfl
    have hXz : ((w'.alloc (Obj.cells #[.int .i64 0, .bool false, .slice none 0 0, .bool false, .string ⟨#[]⟩, .slice none 0 0, .slice none 0 0] 31)).setCell ⟨R, 3, none⟩ (.int .i64 (k : Int))).heap[w.heap.size]? = some (Obj.cells #[.int .i64 0, .bool false, .slice none 0 0, .bool false, .string ⟨#[]⟩, .slice none 0 0, .slice none 0 0] 31) := (Below.heap_setCell _ _ _ _ hne2).trans ((Below.heap_alloc _ _ _ hDl).trans hz')
    have hXd : ((w'.alloc (Obj.cells #[.int .i64 0, .bool false, .slice none 0 0, .bool false, .string ⟨#[]⟩, .slice none 0 0, .slice none 0 0] 31)).setCell ⟨R, 3, none⟩ (.int .i64 (k : Int))).heap[w'.heap.size]? = some (Obj.cells #[.int .i64 0, .bool false, .slice none 0 0, .bool false, .string ⟨#[]⟩, .slice none 0 0, .slice none 0 0] 31) := (Below.heap_setCell _ _ _ _ (by have := HR.out.2.1; have := hra.lt; show w'.heap.size ≠ R; omega)).trans (World.alloc_heap_new w' (Obj.cells #[.int .i64 0, .bool false, .slice none 0 0, .bool false, .string ⟨#[]⟩, .slice none 0 0, .slice none 0 0] 31))
    have hXk : Kept R w ((w'.alloc (Obj.cells #[.int .i64 0, .bool false, .slice none 0 0, .bool false, .string ⟨#[]⟩, .slice none 0 0, .slice none 0 0] 31)).setCell ⟨R, 3, none⟩ (.int .i64 (k : Int))) := Kept.set (Kept.onto (Kept.first HR.out.2) ((Below.refl _ _).alloc (Nat.le_refl _) _)) _ _ rfl
    have HU := Lib.hid (And.intro hXR (And.intro hXz hXk))
    obtain ⟨⟨i0, i1, i2, i3, i4, i5, i6⟩, j0, j1, j2, j3, j4, j5, j6⟩ := seven hXz
    obtain ⟨⟨x0, x1, x2, x3, x4, x5, x6⟩, y0, y1, y2, y3, y4, y5, y6⟩ := seven hXd
    clear hr hra hXR hXz hXd hXk hz'
    go_wp2_with fail
    exact dt_ret rfl rfl rfl rfl HU.out.2.1 ⟨_, HR.out.1, datPost_bad rfl hRl HU.out.2.2 HU.out.1 hq⟩
end
end

section

theorem wps {s : ByteArray} {p q : Nat} : rsB s (p + q) = (rsB s p).drop q := (rsB_drop ..).symm
section
variable {w w' : World} {R p q k L : Nat} {s : ByteArray}
/-- What a dot and what stands behind it are worth. -/
def DotRes (s : ByteArray) (p k : Nat) (e : UInt8) (acc : List DT) (r : Res) : Prop :=
  (∃ x l, r = .bad x l ∧ Rdd .datum (rsB s (p + 1)) k (.bad x l)) ∨ (∃ d l x m, r = .bad x m ∧ Rdd .datum (rsB s (p + 1)) k (.ok d l) ∧ Rdd .skip l k (.bad x m)) ∨
  (∃ d l m, Rdd .datum (rsB s (p + 1)) k (.ok d l) ∧ Rdd .skip l k (.ok zeroD m) ∧ ((m.head? = some e ∧ r = .ok (listD acc [d]) (m.drop 1)) ∨ (¬ m.head? = some e ∧ r = .bad errRead m)))
theorem dot_list {e : UInt8} {acc : List DT} {l : By} {z : DT} {r : Res} (h : Rdd .skip l k (.ok z (rsB s p))) (hm : ¬ (rsB s p).head? = some e) (ha : acc ≠ [] ∧ aheadL (rsB s p) = [46]) (hr : DotRes s p k e acc r) : Rdd (.list e acc) l k r := by
  obtain rfl := (h.again (j := 0)).1
  rcases hr with ⟨x, l1, rfl, h1⟩ | ⟨d, l1, x, m, rfl, h1, h2⟩ | ⟨d, l1, m, h1, h2, ⟨h3, rfl⟩ | ⟨h3, rfl⟩⟩
  · exact .ldot1 h hm ha (by rw [rsB_drop]; exact h1)
  · exact .ldot2 h hm ha (by rw [rsB_drop]; exact h1) h2
  · exact .ldot h hm ha (by rw [rsB_drop]; exact h1) h2 h3
  · exact .ldot3 h hm ha (by rw [rsB_drop]; exact h1) h2 h3
end
end
end Go.Proofs.YtlohdglhebplfaaGreatDoor
