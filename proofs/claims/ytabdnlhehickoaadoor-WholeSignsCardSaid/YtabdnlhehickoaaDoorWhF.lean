/-
  whole.divisions: both closures' contracts.
-/
import Derived.Test.YtabdnlhehickoaaDoorWhE
namespace Go.Proofs.YtabdnlhehickoaaDoor
open Go.RowKit
/-- The block g holds v first. -/
def At (w : World) (g : Nat) (v : Value) : Prop := w.cell? ⟨g, 0, none⟩ = some v ∧ g < w.heap.size
section
variable {w w' : World} {g : Nat} {v : Value}
theorem At.next (h : At w g v) (hb : Below w.heap.size w w') : At w' g v := ⟨(hb.cell (p := ⟨g, 0, none⟩) h.2).trans h.1, Nat.lt_of_lt_of_le h.2 hb.size⟩
theorem At.drew (h : At w g v) : At w.drew g v := h.next (Below.refl _ _).drew
theorem At.far (h : At w g v) {p : Addr} (hp : g ≠ p.block) (u : Value) : At (w.setCell p u) g v :=
  ⟨(World.cell?_of_block (a := ⟨g, 0, none⟩) (Below.heap_setCell w p u g hp)).trans h.1, Nat.lt_of_lt_of_le h.2 ((Below.refl 0 w).setCell (Nat.zero_le _) u).size⟩
theorem At.of_var {s x : Value} (h : Var w g s x) : At w g s := ⟨h.c0, h.lt⟩
end
/-- Two whole numbers are told. -/
def W2 (base1 base2 : Nat) (w : World) (z1 z2 : Int) (e : Ending) (w' : World) : Prop := ∃ u v, e = .returned (.tuple #[u, v]) ∧ WNew w' base1 u z1 ∧ WNew w' base2 v z2 ∧ Below w.heap.size w w'
theorem WNew.farSet {w : World} {g base : Nat} {s x v : Value} {z : Int} (hv : Var w g s x) (h : WNew w base v z) (i : Nat) (u : Value) : WNew (w.setCell ⟨g, i, none⟩ u) base v z := by
  obtain ⟨y, e, hn⟩ := h
  exact ⟨y, e, New.farSet hv hn i u⟩
theorem wret2_mem {w2 : World} {g1 g2 base1 base2 : Nat} {s1 x1 s2 x2 : Value} {b1 b2 : Bool} {A1 A2 : Option Addr} {n1 c1 n2 c2 : Nat} {z1 z2 : Int}
    (hv1 : Var w2 g1 s1 x1) (hv2 : Var w2 g2 s2 x2) (hne : g1 ≠ g2) (h1 : WNew w2 base1 (.agg #[.bool b1, .slice A1 n1 c1]) z1) (h2 : WNew w2 base2 (.agg #[.bool b2, .slice A2 n2 c2]) z2) (w3 : World)
    (hw : w3 = (((w2.setCell ⟨g1, 0, none⟩ (.bool b1)).setCell ⟨g1, 1, none⟩ (.slice A1 n1 c1)).setCell ⟨g2, 0, none⟩ (.bool b2)).setCell ⟨g2, 1, none⟩ (.slice A2 n2 c2)) :
    Var w3 g1 (.bool b1) (.slice A1 n1 c1) ∧ Var w3 g2 (.bool b2) (.slice A2 n2 c2) ∧ WNew w3 base1 (.agg #[.bool b1, .slice A1 n1 c1]) z1 ∧ WNew w3 base2 (.agg #[.bool b2, .slice A2 n2 c2]) z2 ∧ ∀ {B : Nat} {w : World}, B ≤ g1 → B ≤ g2 → Below B w w2 → Below B w w3 := by
  subst hw
  have k1 := hv1.set0 (.bool b1)
  have k2 := k1.set1 (.slice A1 n1 c1)
  have j1 := hv2.far (p := ⟨g1, 0, none⟩) (Ne.symm hne) (.bool b1)
  have j2 := j1.far (p := ⟨g1, 1, none⟩) (Ne.symm hne) (.slice A1 n1 c1)
  have j3 := j2.set0 (.bool b2)
  have j4 := j3.set1 (.slice A2 n2 c2)
  have k3 := k2.far (p := ⟨g2, 0, none⟩) hne (.bool b2)
  have k4 := k3.far (p := ⟨g2, 1, none⟩) hne (.slice A2 n2 c2)
  exact ⟨k4, j4, WNew.farSet j3 (WNew.farSet j2 (WNew.farSet k1 (WNew.farSet hv1 h1 _ _) _ _) _ _) _ _, WNew.farSet j3 (WNew.farSet j2 (WNew.farSet k1 (WNew.farSet hv1 h2 _ _) _ _) _ _) _ _,
    fun hg1 hg2 hb => (((hb.setCell hg1 _).setCell hg1 _).setCell hg2 _).setCell hg2 _⟩
theorem wret2 {fn : Func} {a : Act} {t1 t2 : Tmp} {w w2 : World} {g1 g2 base1 base2 : Nat} {s1 x1 s2 x2 : Value} {b1 b2 : Bool} {A1 A2 : Option Addr} {n1 c1 n2 c2 : Nat} {z1 z2 : Int}
    (h : fn.results = #[.cell t1 36, .cell t2 36]) (ht : a.tmps.getD t1 undef = .pointer (some ⟨g1, 0, none⟩)) (ht2 : a.tmps.getD t2 undef = .pointer (some ⟨g2, 0, none⟩)) (hd : a.defers = [])
    (hv1 : Var w2 g1 s1 x1) (hv2 : Var w2 g2 s2 x2) (hne : g1 ≠ g2) (h1 : WNew w2 base1 (.agg #[.bool b1, .slice A1 n1 c1]) z1) (h2 : WNew w2 base2 (.agg #[.bool b2, .slice A2 n2 c2]) z2) (hg1 : w.heap.size ≤ g1) (hg2 : w.heap.size ≤ g2) (hb : Below w.heap.size w w2) :
    bodyPost Tryd.prog fn (W2 base1 base2 w z1 z2) .ret a ((((w2.setCell ⟨g1, 0, none⟩ (.bool b1)).setCell ⟨g1, 1, none⟩ (.slice A1 n1 c1)).setCell ⟨g2, 0, none⟩ (.bool b2)).setCell ⟨g2, 1, none⟩ (.slice A2 n2 c2)) := by
  obtain ⟨m1, m2, m3, m4, m5⟩ := wret2_mem hv1 hv2 hne h1 h2 _ rfl
  exact bodyPost_ret (results_ww h ht ht2 m1.c0 m1.c1 m2.c0 m2.c1) hd ⟨_, _, rfl, m3, m4, m5 hg1 hg2 hb⟩
/-- What two stores into two variables ask. -/
theorem Var.room2 {w : World} {g1 g2 : Nat} {s1 x1 s2 x2 : Value} (h1 : Var w g1 s1 x1) (h2 : Var w g2 s2 x2) (hne : g2 ≠ g1) (b y : Value) (c : Value) :
    ((w.setCell ⟨g1, 0, none⟩ b).setCell ⟨g1, 1, none⟩ y).frozen? ⟨g2, 0, none⟩ = false ∧ ((w.setCell ⟨g1, 0, none⟩ b).setCell ⟨g1, 1, none⟩ y).cell? ⟨g2, 0, none⟩ = some s2 ∧ ((w.setCell ⟨g1, 0, none⟩ b).setCell ⟨g1, 1, none⟩ y).frozen? ⟨g2, 1, none⟩ = false ∧ ((w.setCell ⟨g1, 0, none⟩ b).setCell ⟨g1, 1, none⟩ y).cell? ⟨g2, 1, none⟩ = some x2 ∧
    (((w.setCell ⟨g1, 0, none⟩ b).setCell ⟨g1, 1, none⟩ y).setCell ⟨g2, 0, none⟩ c).frozen? ⟨g2, 1, none⟩ = false ∧ (((w.setCell ⟨g1, 0, none⟩ b).setCell ⟨g1, 1, none⟩ y).setCell ⟨g2, 0, none⟩ c).cell? ⟨g2, 1, none⟩ = some x2 := by
  have _ := h1
  have k := (h2.far (p := ⟨g1, 0, none⟩) hne b).far (p := ⟨g1, 1, none⟩) hne y
  exact ⟨k.f0, k.c0, k.f1, k.c1, (k.set0 c).f1, (k.set0 c).c1⟩
theorem enter00r (w : World) : ∃ W, W = (w.alloc (.cells #[.bool false, .slice none 0 0] 36)).alloc (.cells #[.bool false, .slice none 0 0] 36) ∧ Var W w.heap.size (.bool false) (.slice none 0 0) ∧ Var W (w.heap.size + 1) (.bool false) (.slice none 0 0) ∧ Below w.heap.size w W :=
  enter1r w (.bool false) (.slice none 0 0)

/-- Cells of blocks below B. -/
def Cells (w : World) (B : Nat) (l : List (Addr × Value)) : Prop := ∀ p ∈ l, w.cell? p.1 = some p.2 ∧ p.1.block < B
theorem Cells.next {w w' : World} {B : Nat} {l : List (Addr × Value)} (h : Cells w B l) (hB : B ≤ w.heap.size) (hb : Below w.heap.size w w') : Cells w' B l := fun p hp => ⟨(hb.cell (Nat.lt_of_lt_of_le (h p hp).2 hB)).trans (h p hp).1, (h p hp).2⟩
theorem Cells.far {w : World} {B : Nat} {l : List (Addr × Value)} (h : Cells w B l) (g i : Nat) (hg : B ≤ g) (u : Value) : Cells (w.setCell ⟨g, i, none⟩ u) B l := fun p hp =>
  ⟨(World.cell?_of_block (a := p.1) (Below.heap_setCell w ⟨g, i, none⟩ u p.1.block (Nat.ne_of_lt (Nat.lt_of_lt_of_le (h p hp).2 hg)))).trans (h p hp).1, (h p hp).2⟩
theorem Cells.far2 {w : World} {B : Nat} {l : List (Addr × Value)} (h : Cells w B l) (g : Nat) (hg : B ≤ g) (u v : Value) : Cells ((w.setCell ⟨g, 0, none⟩ u).setCell ⟨g, 1, none⟩ v) B l := (h.far g 0 hg u).far g 1 hg v
theorem Cells.four {w : World} {B : Nat} {a b c d : Addr × Value} (h : Cells w B [a, b, c, d]) : w.cell? a.1 = some a.2 ∧ w.cell? b.1 = some b.2 ∧ w.cell? c.1 = some c.2 ∧ w.cell? d.1 = some d.2 :=
  ⟨(h a (by simp)).1, (h b (by simp)).1, (h c (by simp)).1, (h d (by simp)).1⟩
theorem Cells.five {w : World} {B : Nat} {a b c d f : Addr × Value} (h : Cells w B [a, b, c, d, f]) : w.cell? a.1 = some a.2 ∧ w.cell? b.1 = some b.2 ∧ w.cell? c.1 = some c.2 ∧ w.cell? d.1 = some d.2 ∧ w.cell? f.1 = some f.2 :=
  ⟨(h a (by simp)).1, (h b (by simp)).1, (h c (by simp)).1, (h d (by simp)).1, (h f (by simp)).1⟩
theorem enter00s (w : World) : ∃ W, W = (w.alloc (.cells #[.bool false, .slice none 0 0] 36)).alloc (.cells #[.bool false, .slice none 0 0] 36) ∧ Var W w.heap.size (.bool false) (.slice none 0 0) ∧ Var W (w.heap.size + 1) (.bool false) (.slice none 0 0) ∧ Below w.heap.size w W ∧ w.heap.size ≤ W.heap.size := by
  obtain ⟨W, h1, h2, h3, h4⟩ := enter1r w (.bool false) (.slice none 0 0)
  exact ⟨W, h1, h2, h3, h4, h4.size⟩
set_option maxHeartbeats 3200000 in
theorem div1_any {w : World} {gu gq ga gl base1 base2 m1 m2 : Nat} {un s : Bool} {x y : Value} (hS : Cells w w.heap.size [(⟨gu, 0, none⟩, .bool un), (⟨gq, 0, none⟩, x), (⟨ga, 0, none⟩, .bool s), (⟨gl, 0, none⟩, y)]) (n1 : New w base1 x (limbs m1)) (n2 : New w base2 y (limbs m2)) :
    Calls Tryd.prog 95 #[.pointer (some ⟨gu, 0, none⟩), .pointer (some ⟨gq, 0, none⟩), .pointer (some ⟨ga, 0, none⟩), .pointer (some ⟨gl, 0, none⟩)] w (W2 base1 base2 w (zOf un m1) (zOf s m2)) := by
  obtain ⟨W, hW, hr, ht, hb, hsz⟩ := enter00s w
  replace hr := hr.drew
  replace ht := ht.drew
  have hS0 := (hS.next (Nat.le_refl _) hb).next hsz (Below.refl _ _).drew
  replace n1 := (n1.next hb).next (Below.refl _ _).drew
  replace n2 := (n2.next hb).next (Below.refl _ _).drew
  have cS := hS0.four
  obtain ⟨cu, cq, ca, cl⟩ := cS
  replace hb := hb.drew
  clear hS
  go_enter Tryd.func95, Tryd.ntmps95
  go_wp2_with fail
  rw [← hW]
  clear hW
  go_region_held3 (fun w' => w'.cell? ⟨gu, 0, none⟩ = some (.bool un) ∧ w'.cell? ⟨gq, 0, none⟩ = some x ∧ w'.cell? ⟨ga, 0, none⟩ = some (.bool s) ∧ w'.cell? ⟨gl, 0, none⟩ = some y)
    (first | exact hS1.four | exact hS2.four | exact hS3.four | exact hS4.four | go_keep)
    (first
    | (go_at_call 69; (fail_if_success (have hh := hb1)); refine (signed_w un n1).mono ?_; rintro e w1 ⟨b, xa, xn, xc, rfl, hn1, hb1⟩; have hS1 := hS0.next hsz hb1; have hr1 := hr.next hb1; have ht1 := ht.next hb1)
    | (go_at_call 69; refine (signed_w s (n2.next hb1)).mono ?_; rintro e w2 ⟨c, ya, yn, yc, rfl, hn2, hb2⟩; have hS2 := hS1.next (Nat.le_trans hsz hb1.size) hb2; have hr2 := hr1.next hb2; have ht2 := ht1.next hb2;
       obtain ⟨q1, q2, q3, q4, q5, q6⟩ := hr2.room (.bool b); obtain ⟨p1, p2, p3, p4, p5, p6⟩ := hr2.room2 ht2 (Nat.succ_ne_self _) (.bool b) (.slice xa xn xc) (.bool c);
       have hS3 := hS2.far2 w.heap.size (Nat.le_refl _) (.bool b) (.slice xa xn xc);
       have hS4 := hS3.far2 (w.heap.size + 1) (Nat.le_succ _) (.bool c) (.slice ya yn yc)))
  go_wp2_with fail
  obtain ⟨xx, e1, hnn⟩ := hn1.out
  exact wret2 rfl rfl rfl rfl hr2 ht2 (by omega) ⟨xx, e1, hnn.next hb2⟩ hn2.out (Nat.le_refl _) (by omega) (bnext (bnext hb hb1) hb2)
end Go.Proofs.YtabdnlhehickoaaDoor
