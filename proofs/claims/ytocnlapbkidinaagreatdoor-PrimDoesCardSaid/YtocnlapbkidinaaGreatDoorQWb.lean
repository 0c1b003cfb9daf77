/-
  whole.divisions and its closures.
-/
import Derived.Test.YtocnlapbkidinaaGreatDoorQWa
import Derived.Test.YtocnlapbkidinaaGreatDoorPn11
import Derived.Laws.EntriesVeiled
set_option linter.unusedVariables false
set_option linter.unusedSimpArgs false
set_option linter.unusedSectionVars false
set_option linter.unnecessarySimpa false
namespace Go.Proofs.YtocnlapbkidinaaGreatDoor
open Go.RowKit

/-- The block g holds v first. -/
def At (w : World) (g : Nat) (v : Value) : Prop := w.cell? ⟨g, 0, none⟩ = some v ∧ g < w.heap.size
section
variable {w w' : World} {g : Nat} {v : Value}
theorem At.next (h : At w g v) (hb : Below w.heap.size w w') : At w' g v := ⟨(hb.cell (p := ⟨g, 0, none⟩) h.2).trans h.1, Nat.lt_of_lt_of_le h.2 hb.size⟩
theorem At.drew (h : At w g v) : At w.drew g v := h.next (Below.refl _ _).drew
theorem At.far (h : At w g v) {p : Addr} (hp : g ≠ p.block) (u : Value) : At (w.setCell p u) g v :=
  ⟨(World.cell?_of_block (a := ⟨g, 0, none⟩) (Below.heap_setCell w p u g hp)).trans h.1, Nat.lt_of_lt_of_le h.2 ((Below.refl 0 w).setCell (Nat.zero_le _) u).size⟩
theorem At.of_var {s x : Value} (h : Var w g s x) : At w g s := ⟨h.c0, h.lt⟩
end
/-- Two whole numbers are told. -/
def W2 (base1 base2 : Nat) (w : World) (z1 z2 : Int) (e : Ending) (w' : World) : Prop := ∃ u v, e = .returned (.tuple #[u, v]) ∧ WNew w' base1 u z1 ∧ WNew w' base2 v z2 ∧ Below w.heap.size w w'
theorem WNew.farSet {w : World} {g base : Nat} {s x v : Value} {z : Int} (hv : Var w g s x) (h : WNew w base v z) (i : Nat) (u : Value) : WNew (w.setCell ⟨g, i, none⟩ u) base v z := by
  obtain ⟨y, e, hn⟩ := h
  exact ⟨y, e, New.farSet hv hn i u⟩
theorem wret2_mem {w2 : World} {g1 g2 base1 base2 : Nat} {s1 x1 s2 x2 : Value} {b1 b2 : Bool} {A1 A2 : Option Addr} {n1 c1 n2 c2 : Nat} {z1 z2 : Int}
    (hv1 : Var w2 g1 s1 x1) (hv2 : Var w2 g2 s2 x2) (hne : g1 ≠ g2) (h1 : WNew w2 base1 (.agg #[.bool b1, .slice A1 n1 c1]) z1) (h2 : WNew w2 base2 (.agg #[.bool b2, .slice A2 n2 c2]) z2) (w3 : World)
    (hw : w3 = (((w2.setCell ⟨g1, 0, none⟩ (.bool b1)).setCell ⟨g1, 1, none⟩ (.slice A1 n1 c1)).setCell ⟨g2, 0, none⟩ (.bool b2)).setCell ⟨g2, 1, none⟩ (.slice A2 n2 c2)) :
    Var w3 g1 (.bool b1) (.slice A1 n1 c1) ∧ Var w3 g2 (.bool b2) (.slice A2 n2 c2) ∧ WNew w3 base1 (.agg #[.bool b1, .slice A1 n1 c1]) z1 ∧ WNew w3 base2 (.agg #[.bool b2, .slice A2 n2 c2]) z2 ∧ ∀ {B : Nat} {w : World}, B ≤ g1 → B ≤ g2 → Below B w w2 → Below B w w3 := by
  subst hw
  have k1 := hv1.set0 (.bool b1)
  have k2 := k1.set1 (.slice A1 n1 c1)
  have j1 := hv2.far (p := ⟨g1, 0, none⟩) (Ne.symm hne) (.bool b1)
  have j2 := j1.far (p := ⟨g1, 1, none⟩) (Ne.symm hne) (.slice A1 n1 c1)
  have j3 := j2.set0 (.bool b2)
  have j4 := j3.set1 (.slice A2 n2 c2)
  have k3 := k2.far (p := ⟨g2, 0, none⟩) hne (.bool b2)
  have k4 := k3.far (p := ⟨g2, 1, none⟩) hne (.slice A2 n2 c2)
  exact ⟨k4, j4, WNew.farSet j3 (WNew.farSet j2 (WNew.farSet k1 (WNew.farSet hv1 h1 _ _) _ _) _ _) _ _, WNew.farSet j3 (WNew.farSet j2 (WNew.farSet k1 (WNew.farSet hv1 h2 _ _) _ _) _ _) _ _,
    fun hg1 hg2 hb => (((hb.setCell hg1 _).setCell hg1 _).setCell hg2 _).setCell hg2 _⟩
theorem wret2 {fn : Func} {a : Act} {t1 t2 : Tmp} {w w2 : World} {g1 g2 base1 base2 : Nat} {s1 x1 s2 x2 : Value} {b1 b2 : Bool} {A1 A2 : Option Addr} {n1 c1 n2 c2 : Nat} {z1 z2 : Int}
    (h : fn.results = #[.cell t1 27, .cell t2 27]) (ht : a.tmps.getD t1 undef = .pointer (some ⟨g1, 0, none⟩)) (ht2 : a.tmps.getD t2 undef = .pointer (some ⟨g2, 0, none⟩)) (hd : a.defers = [])
    (hv1 : Var w2 g1 s1 x1) (hv2 : Var w2 g2 s2 x2) (hne : g1 ≠ g2) (h1 : WNew w2 base1 (.agg #[.bool b1, .slice A1 n1 c1]) z1) (h2 : WNew w2 base2 (.agg #[.bool b2, .slice A2 n2 c2]) z2) (hg1 : w.heap.size ≤ g1) (hg2 : w.heap.size ≤ g2) (hb : Below w.heap.size w w2) :
    bodyPost Tryz.prog fn (W2 base1 base2 w z1 z2) .ret a ((((w2.setCell ⟨g1, 0, none⟩ (.bool b1)).setCell ⟨g1, 1, none⟩ (.slice A1 n1 c1)).setCell ⟨g2, 0, none⟩ (.bool b2)).setCell ⟨g2, 1, none⟩ (.slice A2 n2 c2)) := by
  obtain ⟨m1, m2, m3, m4, m5⟩ := wret2_mem hv1 hv2 hne h1 h2 _ rfl
  exact bodyPost_ret (results_ww h ht ht2 m1.c0 m1.c1 m2.c0 m2.c1) hd ⟨_, _, rfl, m3, m4, m5 hg1 hg2 hb⟩
/-- What two stores into two variables ask. -/
theorem Var.room2 {w : World} {g1 g2 : Nat} {s1 x1 s2 x2 : Value} (h1 : Var w g1 s1 x1) (h2 : Var w g2 s2 x2) (hne : g2 ≠ g1) (b y : Value) (c : Value) :
    ((w.setCell ⟨g1, 0, none⟩ b).setCell ⟨g1, 1, none⟩ y).frozen? ⟨g2, 0, none⟩ = false ∧ ((w.setCell ⟨g1, 0, none⟩ b).setCell ⟨g1, 1, none⟩ y).cell? ⟨g2, 0, none⟩ = some s2 ∧ ((w.setCell ⟨g1, 0, none⟩ b).setCell ⟨g1, 1, none⟩ y).frozen? ⟨g2, 1, none⟩ = false ∧ ((w.setCell ⟨g1, 0, none⟩ b).setCell ⟨g1, 1, none⟩ y).cell? ⟨g2, 1, none⟩ = some x2 ∧
    (((w.setCell ⟨g1, 0, none⟩ b).setCell ⟨g1, 1, none⟩ y).setCell ⟨g2, 0, none⟩ c).frozen? ⟨g2, 1, none⟩ = false ∧ (((w.setCell ⟨g1, 0, none⟩ b).setCell ⟨g1, 1, none⟩ y).setCell ⟨g2, 0, none⟩ c).cell? ⟨g2, 1, none⟩ = some x2 := by
  have _ := h1
  have k := (h2.far (p := ⟨g1, 0, none⟩) hne b).far (p := ⟨g1, 1, none⟩) hne y
  exact ⟨k.f0, k.c0, k.f1, k.c1, (k.set0 c).f1, (k.set0 c).c1⟩
theorem enter00r (w : World) : ∃ W, W = (w.alloc (.cells #[.bool false, .slice none 0 0] 27)).alloc (.cells #[.bool false, .slice none 0 0] 27) ∧ Var W w.heap.size (.bool false) (.slice none 0 0) ∧ Var W (w.heap.size + 1) (.bool false) (.slice none 0 0) ∧ Below w.heap.size w W :=
  enter1r w (.bool false) (.slice none 0 0)

/-- Cells of blocks below B. -/
def Cells (w : World) (B : Nat) (l : List (Addr × Value)) : Prop := ∀ p ∈ l, w.cell? p.1 = some p.2 ∧ p.1.block < B
theorem Cells.next {w w' : World} {B : Nat} {l : List (Addr × Value)} (h : Cells w B l) (hB : B ≤ w.heap.size) (hb : Below w.heap.size w w') : Cells w' B l := fun p hp => ⟨(hb.cell (Nat.lt_of_lt_of_le (h p hp).2 hB)).trans (h p hp).1, (h p hp).2⟩
theorem Cells.far {w : World} {B : Nat} {l : List (Addr × Value)} (h : Cells w B l) (g i : Nat) (hg : B ≤ g) (u : Value) : Cells (w.setCell ⟨g, i, none⟩ u) B l := fun p hp =>
  ⟨(World.cell?_of_block (a := p.1) (Below.heap_setCell w ⟨g, i, none⟩ u p.1.block (Nat.ne_of_lt (Nat.lt_of_lt_of_le (h p hp).2 hg)))).trans (h p hp).1, (h p hp).2⟩
theorem Cells.far2 {w : World} {B : Nat} {l : List (Addr × Value)} (h : Cells w B l) (g : Nat) (hg : B ≤ g) (u v : Value) : Cells ((w.setCell ⟨g, 0, none⟩ u).setCell ⟨g, 1, none⟩ v) B l := (h.far g 0 hg u).far g 1 hg v
theorem Cells.four {w : World} {B : Nat} {a b c d : Addr × Value} (h : Cells w B [a, b, c, d]) : w.cell? a.1 = some a.2 ∧ w.cell? b.1 = some b.2 ∧ w.cell? c.1 = some c.2 ∧ w.cell? d.1 = some d.2 :=
  ⟨(h a (by simp)).1, (h b (by simp)).1, (h c (by simp)).1, (h d (by simp)).1⟩
theorem Cells.five {w : World} {B : Nat} {a b c d f : Addr × Value} (h : Cells w B [a, b, c, d, f]) : w.cell? a.1 = some a.2 ∧ w.cell? b.1 = some b.2 ∧ w.cell? c.1 = some c.2 ∧ w.cell? d.1 = some d.2 ∧ w.cell? f.1 = some f.2 :=
  ⟨(h a (by simp)).1, (h b (by simp)).1, (h c (by simp)).1, (h d (by simp)).1, (h f (by simp)).1⟩
theorem enter00s (w : World) : ∃ W, W = (w.alloc (.cells #[.bool false, .slice none 0 0] 27)).alloc (.cells #[.bool false, .slice none 0 0] 27) ∧ Var W w.heap.size (.bool false) (.slice none 0 0) ∧ Var W (w.heap.size + 1) (.bool false) (.slice none 0 0) ∧ Below w.heap.size w W ∧ w.heap.size ≤ W.heap.size := by
  obtain ⟨W, h1, h2, h3, h4⟩ := enter1r w (.bool false) (.slice none 0 0)
  exact ⟨W, h1, h2, h3, h4, h4.size⟩
set_option maxHeartbeats 3200000 in
theorem div1_any {w : World} {gu gq ga gl base1 base2 m1 m2 : Nat} {un s : Bool} {x y : Value} (hS : Cells w w.heap.size [(⟨gu, 0, none⟩, .bool un), (⟨gq, 0, none⟩, x), (⟨ga, 0, none⟩, .bool s), (⟨gl, 0, none⟩, y)]) (n1 : New w base1 x (limbs m1)) (n2 : New w base2 y (limbs m2)) :
    Calls Tryz.prog 115 #[.pointer (some ⟨gu, 0, none⟩), .pointer (some ⟨gq, 0, none⟩), .pointer (some ⟨ga, 0, none⟩), .pointer (some ⟨gl, 0, none⟩)] w (W2 base1 base2 w (zOf un m1) (zOf s m2)) := by
  obtain ⟨W, hW, hr, ht, hb, hsz⟩ := enter00s w
  replace hr := hr.drew
  replace ht := ht.drew
  have hS0 := (hS.next (Nat.le_refl _) hb).next hsz (Below.refl _ _).drew
  replace n1 := (n1.next hb).next (Below.refl _ _).drew
  replace n2 := (n2.next hb).next (Below.refl _ _).drew
  have cS := hS0.four
  obtain ⟨cu, cq, ca, cl⟩ := cS
  replace hb := hb.drew
  clear hS
  go_enter Tryz.func115, Tryz.ntmps115
  go_wp2_with fail
  rw [← hW]
  clear hW
  go_region_held3 (fun w' => w'.cell? ⟨gu, 0, none⟩ = some (.bool un) ∧ w'.cell? ⟨gq, 0, none⟩ = some x ∧ w'.cell? ⟨ga, 0, none⟩ = some (.bool s) ∧ w'.cell? ⟨gl, 0, none⟩ = some y)
    (first | exact hS1.four | exact hS2.four | exact hS3.four | exact hS4.four | go_keep)
    (first
    | (go_at_call 82; (fail_if_success (have hh := hb1)); refine (signed_w un n1).mono ?_; rintro e w1 ⟨b, xa, xn, xc, rfl, hn1, hb1⟩; have hS1 := hS0.next hsz hb1; have hr1 := hr.next hb1; have ht1 := ht.next hb1)
    | (go_at_call 82; refine (signed_w s (n2.next hb1)).mono ?_; rintro e w2 ⟨c, ya, yn, yc, rfl, hn2, hb2⟩; have hS2 := hS1.next (Nat.le_trans hsz hb1.size) hb2; have hr2 := hr1.next hb2; have ht2 := ht1.next hb2;
       obtain ⟨q1, q2, q3, q4, q5, q6⟩ := hr2.room (.bool b); obtain ⟨p1, p2, p3, p4, p5, p6⟩ := hr2.room2 ht2 (Nat.succ_ne_self _) (.bool b) (.slice xa xn xc) (.bool c);
       have hS3 := hS2.far2 w.heap.size (Nat.le_refl _) (.bool b) (.slice xa xn xc);
       have hS4 := hS3.far2 (w.heap.size + 1) (Nat.le_succ _) (.bool c) (.slice ya yn yc)))
  go_wp2_with fail
  obtain ⟨xx, e1, hnn⟩ := hn1.out
  exact wret2 rfl rfl rfl rfl hr2 ht2 (by omega) ⟨xx, e1, hnn.next hb2⟩ hn2.out (Nat.le_refl _) (by omega) (bnext (bnext hb hb1) hb2)

set_option maxHeartbeats 1600000 in
theorem div2_same {w : World} {gu gq ga gl gt gb base1 base2 m1 m2 : Nat} {un s : Bool} {x y : Value} (hS : Cells w w.heap.size [(⟨gu, 0, none⟩, .bool un), (⟨gq, 0, none⟩, x), (⟨ga, 0, none⟩, .bool s), (⟨gl, 0, none⟩, y)])
    (hT : w.cell? ⟨gt, 0, none⟩ = some (.func (.func 115) #[] #[.pointer (some ⟨gu, 0, none⟩), .pointer (some ⟨gq, 0, none⟩), .pointer (some ⟨ga, 0, none⟩), .pointer (some ⟨gl, 0, none⟩)]) ∧ gt < w.heap.size)
    (n1 : New w base1 x (limbs m1)) (n2 : New w base2 y (limbs m2)) (hor : un = false ∨ m2 = 0) :
    Calls Tryz.prog 116 #[.pointer (some ⟨gu, 0, none⟩), .pointer (some ⟨gl, 0, none⟩), .pointer (some ⟨gt, 0, none⟩), .pointer (some ⟨gq, 0, none⟩), .pointer (some ⟨gb, 0, none⟩)] w (W2 base1 base2 w (zOf un m1) (zOf s m2)) := by
  obtain ⟨W, hW, hr, ht, hb, hsz⟩ := enter00s w
  have hS0 := hS.next (Nat.le_refl _) hb
  have hT0 := (hb.cell (p := ⟨gt, 0, none⟩) hT.2).trans hT.1
  replace n1 := n1.next hb
  replace n2 := n2.next hb
  obtain ⟨cu, cq, ca, cl⟩ := hS0.four
  have HD := Lib.hid (div1_any (fun p hp => ⟨(hS0 p hp).1, Nat.lt_of_lt_of_le (hS0 p hp).2 hsz⟩) n1 n2)
  obtain ⟨A, n, c, rfl, hmax, hnm⟩ := n2.nought
  have hnil : (un = false) ∨ (n = 0) := hor.imp id hnm.2
  have HR := Lib.hid (And.intro hr (And.intro ht hb))
  dsimp only at cu cl
  clear hS hT hor hnm hS0 hr ht hb n1 n2 ca cq hsz
  have hcase : un = false ∨ un = true ∧ n = 0 := by cases un; exact .inl rfl; exact .inr ⟨rfl, hnil.resolve_left (by decide)⟩
  clear hnil
  rcases hcase with rfl | ⟨rfl, rfl⟩
  all_goals
    subst hW
    go_enter Tryz.func116, Tryz.ntmps116
    go_wp2_with fail
    refine HD.out.mono ?_
    rintro e w1 ⟨u, v, rfl, hu, hv, hb1⟩
    obtain ⟨hr, ht, hb⟩ := HR.out
    obtain ⟨b, xa, xn, xc, rfl, hn1⟩ := hu.opened
    obtain ⟨c, ya, yn, yc, rfl, hn2⟩ := hv.opened
    have hr2 := hr.next hb1
    have ht2 := ht.next hb1
    obtain ⟨q1, q2, q3, q4, q5, q6⟩ := hr2.room (.bool b)
    obtain ⟨p1, p2, p3, p4, p5, p6⟩ := hr2.room2 ht2 (Nat.succ_ne_self _) (.bool b) (.slice xa xn xc) (.bool c)
    clear HD cu cl hT0
    go_wp2_with fail
    exact wret2 rfl rfl rfl rfl hr2 ht2 (by omega) hn1.out hn2.out (Nat.le_refl _) (by omega) (bnext hb hb1)

set_option maxHeartbeats 3200000 in
theorem div2_down {w : World} {gu gq gl gt gb base1 base2 m1 m2 n K L M : Nat} {t : Bool} {x y z : Value} (hS : Cells w w.heap.size [(⟨gu, 0, none⟩, .bool true), (⟨gl, 0, none⟩, y), (⟨gq, 0, none⟩, x), (⟨gb, 0, none⟩, .bool t), (⟨gb, 1, none⟩, z)])
    (n1 : New w base1 x (limbs m1)) (n2 : New w base2 y (limbs m2)) (n3 : Num w z n M) (hm : m2 ≠ 0) (l1 : m1 < 4294967296 ^ K) (l2 : m2 < 4294967296 ^ L) (hK : K ≤ 1000000) (hL : L ≤ 1000000) (hM : M ≤ 1000000) :
    Calls Tryz.prog 116 #[.pointer (some ⟨gu, 0, none⟩), .pointer (some ⟨gl, 0, none⟩), .pointer (some ⟨gt, 0, none⟩), .pointer (some ⟨gq, 0, none⟩), .pointer (some ⟨gb, 0, none⟩)] w (W2 w.heap.size w.heap.size w (zOf true (m1 + 1)) (zOf t (n - m2))) := by
  obtain ⟨W, hW, hr, ht, hb, hsz⟩ := enter00s w
  have hS0 := hS.next (Nat.le_refl _) hb
  replace n1 := ((n1.next hb).num K l1).drew
  obtain ⟨cu, cl, cq, cb, cz⟩ := hS0.five
  obtain ⟨A, k, c, rfl, hmax, hnm⟩ := n2.nought
  replace n2 := ((n2.next hb).num L l2).drew
  replace n3 := (n3.below hb).drew
  have hk : 0 < k := by omega
  replace hS0 := hS0.next hsz (Below.refl _ _).drew
  replace hr := hr.drew
  replace ht := ht.drew
  replace hb := hb.drew
  have HR := Lib.hid (And.intro hr (And.intro ht (And.intro hb (And.intro hsz (And.intro hS0 (And.intro n1 (And.intro n2 n3)))))))
  dsimp only at cu cl cq cb cz
  clear hS hr ht hb hsz hS0 n1 n2 n3 hnm hm
  rw [hW] at cu cl cq cb cz
  go_enter Tryz.func116, Tryz.ntmps116
  go_wp2_with fail
  rw [← hW]
  rw [← hW] at cu cl cq cb cz
  clear hW
  obtain ⟨hr, ht, hb, hsz, hS0, n1, n2, n3⟩ := HR.out
  clear HR
  replace cu := hS0.five
  obtain ⟨cu, cl, cq, cb, cz⟩ := cu
  go_region_held3 (fun w' => w'.cell? ⟨gl, 0, none⟩ = some (.slice A k c) ∧ w'.cell? ⟨gq, 0, none⟩ = some x ∧ w'.cell? ⟨gb, 0, none⟩ = some (.bool t) ∧ w'.cell? ⟨gb, 1, none⟩ = some z)
    (first | exact hS1.five.2 | exact hS2.five.2 | exact hS3.five.2 | exact hS4.five.2 | exact hS5.five.2 | exact hS6.five.2 | exact hS7.five.2 | go_keep)
    (first
    | (go_at_call 117; refine (one_any _).mono ?_; rintro e w1 ⟨v1, rfl, o1, hb1⟩; have hS1 := hS0.next hsz hb1; have z1 := Nat.le_trans hsz hb1.size; have hr1 := hr.next hb1; have ht1 := ht.next hb1; have k1 := o1.num 1 (by decide); have n11 := n1.below hb1; have n21 := n2.below hb1; have n31 := n3.below hb1; clear n1 n2 n3 hr ht o1)
    | (go_at_call 83; refine (add_num n11 k1 (by omega) (by decide)).mono ?_; rintro e w2 ⟨v2, rfl, o2, hb2⟩; have hS2 := hS1.next z1 hb2; have z2 := Nat.le_trans z1 hb2.size; have hr2 := hr1.next hb2; have ht2 := ht1.next hb2; have n22 := n21.below hb2; have n32 := n31.below hb2; clear n11 n21 n31 hr1 ht1 k1)
    | (go_at_call 82; (fail_if_success (have hh := hb3)); refine (signed_w true o2).mono ?_; rintro e w3 ⟨b, xa, xn, xc, rfl, hn1, hb3⟩; have hS3 := hS2.next z2 hb3; have z3 := Nat.le_trans z2 hb3.size; have hr3 := hr2.next hb3; have ht3 := ht2.next hb3; have n23 := n22.below hb3; have n33 := n32.below hb3; clear n22 n32 hr2 ht2 o2)
    | (go_at_call 85; refine (sub_num n33 n23 (by omega) (by omega)).mono ?_; rintro e w4 ⟨v4, rfl, o4, hb4⟩; have hS4 := hS3.next z3 hb4; have z4 := Nat.le_trans z3 hb4.size; have hr4 := hr3.next hb4; have ht4 := ht3.next hb4; clear n23 n33 hr3 ht3)
    | (go_at_call 82; refine (signed_w t o4).mono ?_; rintro e w5 ⟨d, ya, yn, yc, rfl, hn2, hb5⟩; have hS5 := hS4.next z4 hb5; have hr5 := hr4.next hb5; have ht5 := ht4.next hb5; clear hr4 ht4 o4;
       obtain ⟨q1, q2, q3, q4, q5, q6⟩ := hr5.room (.bool b); obtain ⟨p1, p2, p3, p4, p5, p6⟩ := hr5.room2 ht5 (Nat.succ_ne_self _) (.bool b) (.slice xa xn xc) (.bool d);
       have hS6 := hS5.far2 w.heap.size (Nat.le_refl _) (.bool b) (.slice xa xn xc);
       have hS7 := hS6.far2 (w.heap.size + 1) (Nat.le_succ _) (.bool d) (.slice ya yn yc)))
  go_wp2_with fail
  have hn1' := ((hn1.out.next hb4).next hb5).from_ (base' := w.heap.size) z1
  have hn2' := hn2.out.from_ (base' := w.heap.size) z3
  exact wret2 rfl rfl rfl rfl hr5 ht5 (by omega) hn1' hn2' (Nat.le_refl _) (by omega) (bnext (bnext (bnext (bnext (bnext hb hb1) hb2) hb3) hb4) hb5)

theorem New.lowSet {w : World} {g base : Nat} {v : Value} {xs : List Nat} (h : New w base v xs) (hg : g < base) (i : Nat) (u : Value) : New (w.setCell ⟨g, i, none⟩ u) base v xs := by
  obtain ⟨A, n, c, rfl, hs, hor⟩ := h
  have hbl : ∀ k, k ≠ g → (w.setCell ⟨g, i, none⟩ u).heap[k]? = w.heap[k]? := fun k hk => Below.heap_setCell w _ u k hk
  rcases hor with ⟨rfl, rfl⟩ | ⟨b, cur, rfl, hb, hc, hsz⟩
  · have h0 : n = 0 := Nat.le_zero.1 hs.le
    have hx0 := hs.len
    subst h0
    obtain rfl : xs = [] := List.length_eq_zero_iff.1 hx0.symm
    exact ⟨none, 0, 0, rfl, Sl.nil, .inl ⟨rfl, rfl⟩⟩
  · have hne : b ≠ g := by omega
    refine ⟨_, n, c, rfl, ⟨hs.len, hs.le, hs.max, hs.ok, fun hn => ?_, hs.nil_⟩, .inr ⟨b, cur, rfl, hb, (hbl b hne).trans hc, hsz⟩⟩
    obtain ⟨b', o', he, hlt, hcell⟩ := hs.here hn
    cases he
    exact ⟨b, 0, rfl, by rw [(Only.setCell g i w u).size]; exact hlt, fun j hj => by rw [World.cell?_of_block (w := w) (hbl b hne)]; exact hcell j hj⟩
theorem At.set {w : World} {g : Nat} {v : Value} (h : At w g v) (u : Value) : At (w.setCell ⟨g, 0, none⟩ u) g u := by
  refine ⟨?_, Nat.lt_of_lt_of_le h.2 ((Below.refl 0 w).setCell (Nat.zero_le _) u).size⟩
  have := h.1
  simp [World.cell?_setCell_same, this]
theorem At.alloc {w : World} {g : Nat} {v : Value} (h : At w g v) (o : Obj) : At (w.alloc o) g v := h.next ((Below.refl _ _).alloc (Nat.le_refl _) o)
theorem At.mk_ (w : World) (v : Value) (T : TypeId) : At (w.alloc (.cells #[v] T)) w.heap.size v := ⟨by simp, by simp⟩
theorem At.mk1 (w : World) (o : Obj) (v : Value) (T : TypeId) : At ((w.alloc o).alloc (.cells #[v] T)) (w.heap.size + 1) v := by
  have := At.mk_ (w.alloc o) v T
  rw [show (w.alloc o).heap.size = w.heap.size + 1 by simp] at this
  exact this
theorem At.mk2 (w : World) (o o' : Obj) (v : Value) (T : TypeId) : At (((w.alloc o).alloc o').alloc (.cells #[v] T)) (w.heap.size + 1 + 1) v := by
  have := At.mk_ ((w.alloc o).alloc o') v T
  rw [show ((w.alloc o).alloc o').heap.size = w.heap.size + 1 + 1 by simp] at this
  exact this
theorem results_ft {fn : Func} {tmps : Array Value} {t t2 : Tmp} {w : World} {b : Nat} {s : Value} (h : fn.results = #[.cell t 91, .tmp t2]) (ht : tmps.getD t undef = .pointer (some ⟨b, 0, none⟩)) (c0 : w.cell? ⟨b, 0, none⟩ = some s) :
    (results fn tmps).run Tryz.prog w = .ok (.tuple #[s, tmps.getD t2 undef]) w := by
  rw [Array.getD_eq_getD_getElem?] at ht
  simp [results, h, ht, go_sem, c0]
set_option maxHeartbeats 3200000 in
theorem divisions_any {w : World} {s t : Bool} {x y : Value} {m n K L : Nat} (hx : Num w x m K) (hy : Num w y n L) (hK : K ≤ 1000000) :
    Calls Tryz.prog 90 #[.agg #[.bool s, x], .agg #[.bool t, y]] w fun e w' => ∃ gu gq ga gl gt gb X Y,
      e = .returned (.tuple #[.func (.func 115) #[] #[.pointer (some ⟨gu, 0, none⟩), .pointer (some ⟨gq, 0, none⟩), .pointer (some ⟨ga, 0, none⟩), .pointer (some ⟨gl, 0, none⟩)], .func (.func 116) #[] #[.pointer (some ⟨gu, 0, none⟩), .pointer (some ⟨gl, 0, none⟩), .pointer (some ⟨gt, 0, none⟩), .pointer (some ⟨gq, 0, none⟩), .pointer (some ⟨gb, 0, none⟩)]]) ∧
      Cells w' w'.heap.size [(⟨gu, 0, none⟩, .bool (s != t)), (⟨gq, 0, none⟩, X), (⟨ga, 0, none⟩, .bool s), (⟨gl, 0, none⟩, Y), (⟨gb, 0, none⟩, .bool t), (⟨gb, 1, none⟩, y), (⟨gt, 0, none⟩, .func (.func 115) #[] #[.pointer (some ⟨gu, 0, none⟩), .pointer (some ⟨gq, 0, none⟩), .pointer (some ⟨ga, 0, none⟩), .pointer (some ⟨gl, 0, none⟩)])] ∧
      New w' w.heap.size X (limbs (m / n)) ∧ New w' w.heap.size Y (limbs (remZ m n)) ∧ Below w.heap.size w w' := by
  have hmf : ∀ (fn : Fn) (first cap : Array Value) (w : World), (Instr.makeFunc fn first cap).run Tryz.prog w = .ok (.func fn first cap) w := fun _ _ _ _ => rfl
  obtain ⟨W, hW, hp, hq, hb⟩ := enter2 w (.bool s) x (.bool t) y
  replace hx := (hx.below hb).alloc (.cells #[.nilFunc] 91)
  replace hy := (hy.below hb).alloc (.cells #[.nilFunc] 91)
  have HD := Lib.hid (div_num hx hy (by omega))
  have hp2 := hp.alloc (.cells #[.nilFunc] 91)
  have hq2 := hq.alloc (.cells #[.nilFunc] 91)
  clear hp hq
  have hb2 := bnew hb (.cells #[.nilFunc] 91)
  have hg : At (W.alloc (.cells #[.nilFunc] 91)) W.heap.size .nilFunc := ⟨by simp, by simp⟩
  have hgf : (W.alloc (.cells #[.nilFunc] 91)).frozen? ⟨W.heap.size, 0, none⟩ = false := by simp
  have hsz : W.heap.size = w.heap.size + 1 + 1 := by rw [hW]; simp
  have hlt : W.heap.size < (W.alloc (.cells #[.nilFunc] 91)).heap.size := by simp
  rw [hsz] at hg hgf hlt
  rw [hW] at HD hp2 hq2 hb2 hg hgf hlt
  clear hW hb hsz
  generalize hV : ((w.alloc (.cells #[.bool s, x] 27)).alloc (.cells #[.bool t, y] 27)).alloc (.cells #[.nilFunc] 91) = V at HD hp2 hq2 hb2 hg hgf hlt
  have a1 := hp2.c0
  have a2 := hp2.c1
  have a3 := hq2.c0
  have a4 := hq2.c1
  go_enter Tryz.func90, Tryz.ntmps90
  go_wp2_with fail
  refine HD.out.mono ?_
  rintro e w1 ⟨X, Y, rfl, hX, hY, hb1⟩
  replace hgf := (hb1.frozen (p := ⟨w.heap.size + 1 + 1, 0, none⟩) hlt).trans hgf
  replace hg := hg.next hb1
  have hp3 := hp2.next hb1
  have hq3 := hq2.next hb1
  have HV : Hid (w.heap.size + 1 + 1 < V.heap.size) := hlt
  clear hV HD hp2 hq2 hlt a1 a2 a3 a4
  have e1 := hp3.c0
  have e2 := hp3.c1
  have e3 := hq3.c0
  have e4 := hq3.c1
  have e5 := hg.1
  have HX := Lib.hid (And.intro hX hY)
  obtain ⟨XA, XN, XC, hXe, hXX⟩ := hX
  obtain ⟨YA, YN, YC, hYe, hYY⟩ := hY
  subst hXe hYe
  clear hXX hYY
  have A2 : ∀ o1 o2 : Obj, Below w1.heap.size w1 ((w1.alloc o1).alloc o2) := fun o1 o2 => bnew (bnew (Below.refl _ _) _) _
  have A3 : ∀ o1 o2 o3 : Obj, Below w1.heap.size w1 (((w1.alloc o1).alloc o2).alloc o3) := fun o1 o2 o3 => bnew (bnew (bnew (Below.refl _ _) _) _) _
  have f1 := (hp3.next (A2 (.cells #[.slice XA XN XC] 25) (.cells #[.slice YA YN YC] 25))).c0
  have f2 := (hq3.next (A2 (.cells #[.slice XA XN XC] 25) (.cells #[.slice YA YN YC] 25))).c0
  have f3 := (hg.next (A3 (.cells #[.slice XA XN XC] 25) (.cells #[.slice YA YN YC] 25) (.cells #[.bool (!(s == t))] 4))).1
  have f4 := ((A3 (.cells #[.slice XA XN XC] 25) (.cells #[.slice YA YN YC] 25) (.cells #[.bool (!(s == t))] 4)).frozen (p := ⟨w.heap.size + 1 + 1, 0, none⟩) hg.2).trans hgf
  have HA := Lib.hid (And.intro A2 A3)
  clear A2 A3
  go_wp2_with fail
  obtain ⟨A2, A3⟩ := HA.out
  have b3 := A3 (.cells #[.slice XA XN XC] 25) (.cells #[.slice YA YN YC] 25) (.cells #[.bool (!(s == t))] 4)
  have hlt1 : w.heap.size + 1 + 1 < w1.heap.size := hg.2
  have g3 := hg.next b3
  have gU : At (((w1.alloc (.cells #[.slice XA XN XC] 25)).alloc (.cells #[.slice YA YN YC] 25)).alloc (.cells #[.bool (!(s == t))] 4)) (w1.heap.size + 1 + 1) (.bool (!(s == t))) := At.mk2 _ _ _ _ _
  have gL : At (((w1.alloc (.cells #[.slice XA XN XC] 25)).alloc (.cells #[.slice YA YN YC] 25)).alloc (.cells #[.bool (!(s == t))] 4)) (w1.heap.size + 1) (.slice YA YN YC) := (At.mk1 _ _ _ _).alloc _
  have gQ : At (((w1.alloc (.cells #[.slice XA XN XC] 25)).alloc (.cells #[.slice YA YN YC] 25)).alloc (.cells #[.bool (!(s == t))] 4)) (w1.heap.size) (.slice XA XN XC) := ((At.mk_ _ _ _).alloc _).alloc _
  have gA := hp3.next b3
  have gB := hq3.next b3
  have nX := (HX.out.1.next b3).lowSet HV.out
  have nY := (HX.out.2.next b3).lowSet HV.out
  have hbb := bnext (bnext hb2 hb1) b3
  clear e1 e2 e3 e4 e5 f1 f2 f3 f4 hgf HA A2 A3 b3 hmf hp3 hq3 hg
  generalize (((w1.alloc (.cells #[.slice XA XN XC] 25)).alloc (.cells #[.slice YA YN YC] 25)).alloc (.cells #[.bool (!(s == t))] 4)) = Z at *
  generalize hf : (Value.func (Fn.func 115) #[] #[.pointer (some ⟨w1.heap.size + 1 + 1, 0, none⟩), .pointer (some ⟨w1.heap.size, 0, none⟩), .pointer (some ⟨w.heap.size, 0, none⟩), .pointer (some ⟨w1.heap.size + 1, 0, none⟩)]) = f at *
  have k1 := (g3.set f).set f
  refine bodyPost_ret (results_ft rfl rfl k1.1) rfl ?_
  refine ⟨w1.heap.size + 1 + 1, w1.heap.size, w.heap.size, w1.heap.size + 1, w.heap.size + 1 + 1, w.heap.size + 1, .slice XA XN XC, .slice YA YN YC, ?_, ?_, ?_, ?_, ?_⟩
  · rw [hf]; rfl
  · have j1 := (gU.far (p := ⟨w.heap.size + 1 + 1, 0, none⟩) (by dsimp only; omega) f).far (p := ⟨w.heap.size + 1 + 1, 0, none⟩) (by dsimp only; omega) f
    have j2 := (gQ.far (p := ⟨w.heap.size + 1 + 1, 0, none⟩) (by dsimp only; omega) f).far (p := ⟨w.heap.size + 1 + 1, 0, none⟩) (by dsimp only; omega) f
    have j4 := (gL.far (p := ⟨w.heap.size + 1 + 1, 0, none⟩) (by dsimp only; omega) f).far (p := ⟨w.heap.size + 1 + 1, 0, none⟩) (by dsimp only; omega) f
    have j3 := (gA.far (p := ⟨w.heap.size + 1 + 1, 0, none⟩) (by dsimp only; omega) f).far (p := ⟨w.heap.size + 1 + 1, 0, none⟩) (by dsimp only; omega) f
    have j5 := (gB.far (p := ⟨w.heap.size + 1 + 1, 0, none⟩) (by dsimp only; omega) f).far (p := ⟨w.heap.size + 1 + 1, 0, none⟩) (by dsimp only; omega) f
    rw [hf]
    intro p hp
    simp only [List.mem_cons, List.not_mem_nil, or_false] at hp
    rcases hp with rfl | rfl | rfl | rfl | rfl | rfl | rfl
    · exact j1
    · exact j2
    · exact ⟨j3.c0, j3.lt⟩
    · exact j4
    · exact ⟨j5.c0, j5.lt⟩
    · exact ⟨j5.c1, j5.lt⟩
    · exact k1
  · exact ((nX 0 f).lowSet HV.out 0 f).from_ hb2.size
  · exact ((nY 0 f).lowSet HV.out 0 f).from_ hb2.size
  · exact (hbb.setCell (p := ⟨w.heap.size + 1 + 1, 0, none⟩) (by dsimp only; omega) f).setCell (p := ⟨w.heap.size + 1 + 1, 0, none⟩) (by dsimp only; omega) f
end Go.Proofs.YtocnlapbkidinaaGreatDoor
