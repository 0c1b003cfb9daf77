/-
  prim.Do of numbers' primitives. prim.Do of each primitive but eq?, and core.Arity. prim.Do of orders, questions and texts.
-/
import Derived.Test.YtocnlapbkidinaaGreatDoorPp3
import Derived.Test.YtocnlapbkidinaaGreatDoorPp2
import Derived.Test.YtocnlapbkidinaaGreatDoorPp1
set_option linter.unusedVariables false
set_option linter.unusedSimpArgs false
set_option linter.unusedSectionVars false
set_option linter.unnecessarySimpa false
namespace Go.Proofs.YtocnlapbkidinaaGreatDoor
section
open Go.RowKit
set_option maxRecDepth 100000

/-- What Do tells: a datum without items, and an error's number. -/
structure Ans where
  k : Int
  sg : Bool
  xs : List Nat
  b : Bool
  s : ByteArray
  er : Int
def TelA (w : World) (a : Ans) : Ending → World → Prop := TelP w a.k a.sg a.xs a.b a.s a.er
def errA (er : Int) : Ans := ⟨0, false, [], false, ⟨#[]⟩, er⟩
def numA (z : Int) : Ans := ⟨1, decide (z < 0), limbs z.natAbs, false, ⟨#[]⟩, 0⟩
def boolA (b : Bool) : Ans := ⟨2, false, [], b, ⟨#[]⟩, 0⟩
def strA (s : ByteArray) : Ans := ⟨4, false, [], false, s, 0⟩
/-- A number that must not be too long. -/
def rkA (z er : Int) : Ans := if er ≠ 0 then errA er else if 64 < (limbs z.natAbs).length then errA 12 else numA z
theorem rkA_eq (w : World) (z er : Int) : RkAns w z er = TelA w (rkA z er) := by
  unfold RkAns rkA
  split
  · rfl
  · split <;> rfl
def intOfT (x : LT) : Value := .agg #[.bool x.g, .slice x.la x.ln x.lc]
theorem enters_of {F : Nat} (h : ∀ (args : Array Value) (W : World), (callFunc F args).run Tryz.prog W = .ok (.enter F args) W) : Enters F := h
theorem ent_sure : Enters 81 := fun _ _ => by rfl
theorem ent_quo : Enters 88 := fun _ _ => by rfl
theorem ent_left : Enters 91 := fun _ _ => by rfl
theorem ent_only : Enters 97 := fun _ _ => by rfl
theorem ent_told : Enters 96 := fun _ _ => by rfl
theorem ent_asked : Enters 94 := fun _ _ => by rfl
theorem ent_compared : Enters 92 := fun _ _ => by rfl
theorem ent_reckoned : Enters 80 := fun _ _ => by rfl
theorem ent_isOf : Enters 95 := fun _ _ => by rfl
theorem ent_joined : Enters 62 := fun _ _ => by rfl
theorem ent_d1 : Enters 51 := fun _ _ => by rfl
theorem ent_d2 : Enters 52 := fun _ _ => by rfl
theorem ent_d3 : Enters 57 := fun _ _ => by rfl
theorem ent_d4 : Enters 60 := fun _ _ => by rfl
theorem ent_d5 : Enters 63 := fun _ _ => by rfl
theorem ent_d6 : Enters 64 := fun _ _ => by rfl
theorem ent_d7 : Enters 66 := fun _ _ => by rfl
theorem ent_empty : Enters 37 := fun _ _ => by rfl
theorem ent_pair : Enters 54 := fun _ _ => by rfl
theorem ent_false : Enters 35 := fun _ _ => by rfl
theorem ent_add : Enters 43 := fun _ _ => by rfl
theorem ent_sub : Enters 44 := fun _ _ => by rfl
theorem ent_mul : Enters 45 := fun _ _ => by rfl
theorem ent_wquo : Enters 47 := fun _ _ => by rfl
theorem ent_floor : Enters 49 := fun _ _ => by rfl

theorem RowAt.first {w : World} {B o : Nat} {x : LT} {l : List LT} (h : RowAt w B o (x :: l)) : Seven7 w B o x := by
  have := h.2 0 (by simp)
  simpa using this
theorem RowAt.second {w : World} {B o : Nat} {x y : LT} {l : List LT} (h : RowAt w B o (x :: y :: l)) : Seven7 w B (o + 7) y := by
  have := h.2 1 (by simp)
  simpa using this
theorem RowAt.nums {w : World} {B o : Nat} {x y : LT} {l : List LT} (h : RowAt w B o (x :: y :: l)) : Nums w B o x.g x.la x.ln x.lc y.g y.la y.ln y.lc :=
  ⟨h.first.cells.2.1, h.first.cells.2.2.1, h.second.cells.2.1, h.second.cells.2.2.1⟩
/-- A doing that reckons was told. -/
def RkDoing (W : World) (u v : Value) (z er : Int) (e : Ending) (w' : World) : Prop := ∃ gh Fc, RkMk W (.func (.func Fc) #[] #[.pointer (some ⟨gh, 0, none⟩)]) e w' ∧ Enters Fc ∧ ∀ W2, Below w'.heap.size w' W2 → Calls Tryz.prog Fc (#[u, v] ++ #[.pointer (some ⟨gh, 0, none⟩)]) W2 (RkP W2 z er)
/-- The answer of a primitive of two numbers. -/
def arithA (k1 k2 z er : Int) : Ans := if k1 = 1 ∧ k2 = 1 then rkA z er else errA 6
theorem both_kinds {x y : LT} {k : Int} : (∀ t ∈ [x, y], t.k = k) ↔ x.k = k ∧ y.k = k := by simp
theorem reck_doing {W w' : World} {x y : LT} {z er : Int} {e : Ending} {B o c : Nat} (hR : RowAt W B o [x, y]) (h : RkDoing W (intOfT x) (intOfT y) z er e w') :
    DoingP W (some ⟨B, o, none⟩) 2 c (arithA x.k y.k z er).k (arithA x.k y.k z er).sg (arithA x.k y.k z er).xs (arithA x.k y.k z er).b (arithA x.k y.k z er).s (arithA x.k y.k z er).er e w' := by
  obtain ⟨gh, Fc, ⟨gf, ⟨gi, gk, gd, rfl, h1, h2, h3, hb⟩, h5⟩, hF, hC⟩ := h
  refine ⟨_, _, rfl, ent_only, hb, fun W2 hb2 => ?_⟩
  have hR2 := hR.below (hb.trans (hb2.mono hb.size))
  have keep : ∀ {p : Addr} {v : Value}, w'.cell? p = some v → W2.cell? p = some v := fun hp => (hb2.cell (World.block_lt_of_cell? w' _ hp)).trans hp
  have h5lt : gf < W2.heap.size := World.block_lt_of_cell? W2 _ (keep h5)
  refine only1_any gi gk gd _ _ 1 B o c [x, y] W2 (keep h1) (keep h2) (keep h3) ent_reckoned hR2 (by simp) (fun hk W3 hb3 => ?_) (fun hk => ?_)
  · have hR3 := hR2.below hb3
    have h := reckoned1_any gf Fc #[.pointer (some ⟨gh, 0, none⟩)] B o c x.g y.g x.la y.la x.ln x.lc y.ln y.lc z er W3 ((hb3.cell (p := ⟨gf, 0, none⟩) h5lt).trans (keep h5)) (Nat.lt_of_lt_of_le h5lt hb3.size) hF hR3.nums (fun W4 hb4 => hC W4 (hb2.trans ((hb3.mono hb2.size).trans (hb4.mono (Nat.le_trans hb2.size hb3.size)))))
    rw [rkA_eq] at h
    have e : arithA x.k y.k z er = rkA z er := by unfold arithA; rw [if_pos (both_kinds.1 hk)]
    rw [e]
    exact h
  · have e : arithA x.k y.k z er = errA 6 := by unfold arithA; rw [if_neg (fun h => hk (both_kinds.2 h))]
    rw [e]
    exact ⟨rfl, rfl, rfl, rfl, rfl, rfl⟩
end
end Go.Proofs.YtocnlapbkidinaaGreatDoor
namespace Go.Proofs.YtocnlapbkidinaaGreatDoor
section
open Go.RowKit
set_option maxRecDepth 100000

theorem arity_1 (W : World) : Calls Tryz.prog 25 #[.int .i64 1] W fun e w' => e = .returned (.int .i64 ((2 : Nat) : Int)) ∧ Below W.heap.size W w' := by
  go_enter Tryz.func25, Tryz.ntmps25
  go_wp2_with fail
  go_ret
  exact ⟨rfl, Below.refl _ _⟩
theorem arity_2 (W : World) : Calls Tryz.prog 25 #[.int .i64 2] W fun e w' => e = .returned (.int .i64 ((2 : Nat) : Int)) ∧ Below W.heap.size W w' := by
  go_enter Tryz.func25, Tryz.ntmps25
  go_wp2_with fail
  go_ret
  exact ⟨rfl, Below.refl _ _⟩
theorem arity_3 (W : World) : Calls Tryz.prog 25 #[.int .i64 3] W fun e w' => e = .returned (.int .i64 ((2 : Nat) : Int)) ∧ Below W.heap.size W w' := by
  go_enter Tryz.func25, Tryz.ntmps25
  go_wp2_with fail
  go_ret
  exact ⟨rfl, Below.refl _ _⟩
theorem arity_4 (W : World) : Calls Tryz.prog 25 #[.int .i64 4] W fun e w' => e = .returned (.int .i64 ((2 : Nat) : Int)) ∧ Below W.heap.size W w' := by
  go_enter Tryz.func25, Tryz.ntmps25
  go_wp2_with fail
  go_ret
  exact ⟨rfl, Below.refl _ _⟩
theorem arity_5 (W : World) : Calls Tryz.prog 25 #[.int .i64 5] W fun e w' => e = .returned (.int .i64 ((2 : Nat) : Int)) ∧ Below W.heap.size W w' := by
  go_enter Tryz.func25, Tryz.ntmps25
  go_wp2_with fail
  go_ret
  exact ⟨rfl, Below.refl _ _⟩
theorem arity_6 (W : World) : Calls Tryz.prog 25 #[.int .i64 6] W fun e w' => e = .returned (.int .i64 ((2 : Nat) : Int)) ∧ Below W.heap.size W w' := by
  go_enter Tryz.func25, Tryz.ntmps25
  go_wp2_with fail
  go_ret
  exact ⟨rfl, Below.refl _ _⟩
theorem arity_7 (W : World) : Calls Tryz.prog 25 #[.int .i64 7] W fun e w' => e = .returned (.int .i64 ((2 : Nat) : Int)) ∧ Below W.heap.size W w' := by
  go_enter Tryz.func25, Tryz.ntmps25
  go_wp2_with fail
  go_ret
  exact ⟨rfl, Below.refl _ _⟩
theorem arity_8 (W : World) : Calls Tryz.prog 25 #[.int .i64 8] W fun e w' => e = .returned (.int .i64 ((2 : Nat) : Int)) ∧ Below W.heap.size W w' := by
  go_enter Tryz.func25, Tryz.ntmps25
  go_wp2_with fail
  go_ret
  exact ⟨rfl, Below.refl _ _⟩
theorem arity_14 (W : World) : Calls Tryz.prog 25 #[.int .i64 14] W fun e w' => e = .returned (.int .i64 ((1 : Nat) : Int)) ∧ Below W.heap.size W w' := by
  go_enter Tryz.func25, Tryz.ntmps25
  go_wp2_with fail
  go_ret
  exact ⟨rfl, Below.refl _ _⟩
theorem arity_15 (W : World) : Calls Tryz.prog 25 #[.int .i64 15] W fun e w' => e = .returned (.int .i64 ((1 : Nat) : Int)) ∧ Below W.heap.size W w' := by
  go_enter Tryz.func25, Tryz.ntmps25
  go_wp2_with fail
  go_ret
  exact ⟨rfl, Below.refl _ _⟩
theorem arity_16 (W : World) : Calls Tryz.prog 25 #[.int .i64 16] W fun e w' => e = .returned (.int .i64 ((1 : Nat) : Int)) ∧ Below W.heap.size W w' := by
  go_enter Tryz.func25, Tryz.ntmps25
  go_wp2_with fail
  go_ret
  exact ⟨rfl, Below.refl _ _⟩
theorem arity_17 (W : World) : Calls Tryz.prog 25 #[.int .i64 17] W fun e w' => e = .returned (.int .i64 ((1 : Nat) : Int)) ∧ Below W.heap.size W w' := by
  go_enter Tryz.func25, Tryz.ntmps25
  go_wp2_with fail
  go_ret
  exact ⟨rfl, Below.refl _ _⟩
theorem arity_18 (W : World) : Calls Tryz.prog 25 #[.int .i64 18] W fun e w' => e = .returned (.int .i64 ((1 : Nat) : Int)) ∧ Below W.heap.size W w' := by
  go_enter Tryz.func25, Tryz.ntmps25
  go_wp2_with fail
  go_ret
  exact ⟨rfl, Below.refl _ _⟩
theorem arity_19 (W : World) : Calls Tryz.prog 25 #[.int .i64 19] W fun e w' => e = .returned (.int .i64 ((1 : Nat) : Int)) ∧ Below W.heap.size W w' := by
  go_enter Tryz.func25, Tryz.ntmps25
  go_wp2_with fail
  go_ret
  exact ⟨rfl, Below.refl _ _⟩
theorem arity_21 (W : World) : Calls Tryz.prog 25 #[.int .i64 21] W fun e w' => e = .returned (.int .i64 ((2 : Nat) : Int)) ∧ Below W.heap.size W w' := by
  go_enter Tryz.func25, Tryz.ntmps25
  go_wp2_with fail
  go_ret
  exact ⟨rfl, Below.refl _ _⟩
theorem arity_22 (W : World) : Calls Tryz.prog 25 #[.int .i64 22] W fun e w' => e = .returned (.int .i64 ((1 : Nat) : Int)) ∧ Below W.heap.size W w' := by
  go_enter Tryz.func25, Tryz.ntmps25
  go_wp2_with fail
  go_ret
  exact ⟨rfl, Below.refl _ _⟩
theorem arity_23 (W : World) : Calls Tryz.prog 25 #[.int .i64 23] W fun e w' => e = .returned (.int .i64 ((1 : Nat) : Int)) ∧ Below W.heap.size W w' := by
  go_enter Tryz.func25, Tryz.ntmps25
  go_wp2_with fail
  go_ret
  exact ⟨rfl, Below.refl _ _⟩
theorem arity_24 (W : World) : Calls Tryz.prog 25 #[.int .i64 24] W fun e w' => e = .returned (.int .i64 ((2 : Nat) : Int)) ∧ Below W.heap.size W w' := by
  go_enter Tryz.func25, Tryz.ntmps25
  go_wp2_with fail
  go_ret
  exact ⟨rfl, Below.refl _ _⟩
theorem arity_25 (W : World) : Calls Tryz.prog 25 #[.int .i64 25] W fun e w' => e = .returned (.int .i64 ((2 : Nat) : Int)) ∧ Below W.heap.size W w' := by
  go_enter Tryz.func25, Tryz.ntmps25
  go_wp2_with fail
  go_ret
  exact ⟨rfl, Below.refl _ _⟩
theorem arity_26 (W : World) : Calls Tryz.prog 25 #[.int .i64 26] W fun e w' => e = .returned (.int .i64 ((1 : Nat) : Int)) ∧ Below W.heap.size W w' := by
  go_enter Tryz.func25, Tryz.ntmps25
  go_wp2_with fail
  go_ret
  exact ⟨rfl, Below.refl _ _⟩
theorem arity_27 (W : World) : Calls Tryz.prog 25 #[.int .i64 27] W fun e w' => e = .returned (.int .i64 ((1 : Nat) : Int)) ∧ Below W.heap.size W w' := by
  go_enter Tryz.func25, Tryz.ntmps25
  go_wp2_with fail
  go_ret
  exact ⟨rfl, Below.refl _ _⟩
section
variable {w : World} {x y : LT} {a b : Int} {K L B o c : Nat}
theorem do_add (hx : Wh w (intOfT x) a K) (hy : Wh w (intOfT y) b L) (hK : K ≤ 1000) (hL : L ≤ 1000) (hR : RowAt w B o [x, y]) :
    Calls Tryz.prog 8 #[.int .i64 1, .slice (some ⟨B, o, none⟩) 2 c] w (TelA w (arithA x.k y.k (a + b) (0))) := by
  refine do_any 1 _ 2 c w (by decide) (fun W hb => (doing_add W).mono ?_) arity_1
  rintro e w' ⟨gh, hm, hg⟩
  have hbb := hm.choose_spec.1.choose_spec.choose_spec.choose_spec.2.2.2.2
  exact reck_doing (hR.below hb) ⟨gh, _, hm, ent_sure, fun W2 hb2 => sure1_any gh _ _ _ _ _ _ _ _ _ _ (a + b) W2 ((hb2.cell (p := ⟨gh, 0, none⟩) (World.block_lt_of_cell? w' _ hg)).trans hg) (Nat.lt_of_lt_of_le (World.block_lt_of_cell? w' _ hg) hb2.size) ent_add (fun W3 hb3 =>
    have hall := hb.trans ((hbb.trans ((hb2.trans (hb3.mono hb2.size)).mono hbb.size)).mono hb.size)
    wadd_num (hx.below hall) (hy.below hall) (by omega) (by omega))⟩
theorem do_sub (hx : Wh w (intOfT x) a K) (hy : Wh w (intOfT y) b L) (hK : K ≤ 1000) (hL : L ≤ 1000) (hR : RowAt w B o [x, y]) :
    Calls Tryz.prog 8 #[.int .i64 2, .slice (some ⟨B, o, none⟩) 2 c] w (TelA w (arithA x.k y.k (a - b) (0))) := by
  refine do_any 2 _ 2 c w (by decide) (fun W hb => (doing_sub W).mono ?_) arity_2
  rintro e w' ⟨gh, hm, hg⟩
  have hbb := hm.choose_spec.1.choose_spec.choose_spec.choose_spec.2.2.2.2
  exact reck_doing (hR.below hb) ⟨gh, _, hm, ent_sure, fun W2 hb2 => sure1_any gh _ _ _ _ _ _ _ _ _ _ (a - b) W2 ((hb2.cell (p := ⟨gh, 0, none⟩) (World.block_lt_of_cell? w' _ hg)).trans hg) (Nat.lt_of_lt_of_le (World.block_lt_of_cell? w' _ hg) hb2.size) ent_sub (fun W3 hb3 =>
    have hall := hb.trans ((hbb.trans ((hb2.trans (hb3.mono hb2.size)).mono hbb.size)).mono hb.size)
    wsub_num (hx.below hall) (hy.below hall) (by omega) (by omega))⟩
theorem do_mul (hx : Wh w (intOfT x) a K) (hy : Wh w (intOfT y) b L) (hK : K ≤ 1000) (hL : L ≤ 1000) (hR : RowAt w B o [x, y]) :
    Calls Tryz.prog 8 #[.int .i64 3, .slice (some ⟨B, o, none⟩) 2 c] w (TelA w (arithA x.k y.k (a * b) (0))) := by
  refine do_any 3 _ 2 c w (by decide) (fun W hb => (doing_mul W).mono ?_) arity_3
  rintro e w' ⟨gh, hm, hg⟩
  have hbb := hm.choose_spec.1.choose_spec.choose_spec.choose_spec.2.2.2.2
  exact reck_doing (hR.below hb) ⟨gh, _, hm, ent_sure, fun W2 hb2 => sure1_any gh _ _ _ _ _ _ _ _ _ _ (a * b) W2 ((hb2.cell (p := ⟨gh, 0, none⟩) (World.block_lt_of_cell? w' _ hg)).trans hg) (Nat.lt_of_lt_of_le (World.block_lt_of_cell? w' _ hg) hb2.size) ent_mul (fun W3 hb3 =>
    have hall := hb.trans ((hbb.trans ((hb2.trans (hb3.mono hb2.size)).mono hbb.size)).mono hb.size)
    wmul_num (hx.below hall) (hy.below hall) (by omega) (by omega))⟩
theorem do_quo (hx : Wh w (intOfT x) a K) (hy : Wh w (intOfT y) b L) (hK : K ≤ 1000) (hL : L ≤ 1000) (hR : RowAt w B o [x, y]) :
    Calls Tryz.prog 8 #[.int .i64 4, .slice (some ⟨B, o, none⟩) 2 c] w (TelA w (arithA x.k y.k (quoQ a b) (quoE b))) := by
  refine do_any 4 _ 2 c w (by decide) (fun W hb => (doing_quo W).mono ?_) arity_4
  rintro e w' ⟨gh, hm, hg⟩
  have hbb := hm.choose_spec.1.choose_spec.choose_spec.choose_spec.2.2.2.2
  exact reck_doing (hR.below hb) ⟨gh, _, hm, ent_quo, fun W2 hb2 => quotient1_any gh _ _ _ _ _ _ _ _ _ _ (quoQ a b) (quoR a b) (quoE b) W2 ((hb2.cell (p := ⟨gh, 0, none⟩) (World.block_lt_of_cell? w' _ hg)).trans hg) (Nat.lt_of_lt_of_le (World.block_lt_of_cell? w' _ hg) hb2.size) ent_wquo (fun W3 hb3 =>
    have hall := hb.trans ((hbb.trans ((hb2.trans (hb3.mono hb2.size)).mono hbb.size)).mono hb.size)
    wquo_num (hx.below hall) (hy.below hall) (by omega) (by omega))⟩
theorem do_rem (hx : Wh w (intOfT x) a K) (hy : Wh w (intOfT y) b L) (hK : K ≤ 1000) (hL : L ≤ 1000) (hR : RowAt w B o [x, y]) :
    Calls Tryz.prog 8 #[.int .i64 5, .slice (some ⟨B, o, none⟩) 2 c] w (TelA w (arithA x.k y.k (quoR a b) (quoE b))) := by
  refine do_any 5 _ 2 c w (by decide) (fun W hb => (doing_rem W).mono ?_) arity_5
  rintro e w' ⟨gh, hm, hg⟩
  have hbb := hm.choose_spec.1.choose_spec.choose_spec.choose_spec.2.2.2.2
  exact reck_doing (hR.below hb) ⟨gh, _, hm, ent_left, fun W2 hb2 => left1_any gh _ _ _ _ _ _ _ _ _ _ (quoQ a b) (quoR a b) (quoE b) W2 ((hb2.cell (p := ⟨gh, 0, none⟩) (World.block_lt_of_cell? w' _ hg)).trans hg) (Nat.lt_of_lt_of_le (World.block_lt_of_cell? w' _ hg) hb2.size) ent_wquo (fun W3 hb3 =>
    have hall := hb.trans ((hbb.trans ((hb2.trans (hb3.mono hb2.size)).mono hbb.size)).mono hb.size)
    wquo_num (hx.below hall) (hy.below hall) (by omega) (by omega))⟩
theorem do_mod (hx : Wh w (intOfT x) a K) (hy : Wh w (intOfT y) b L) (hK : K ≤ 1000) (hL : L ≤ 1000) (hR : RowAt w B o [x, y]) :
    Calls Tryz.prog 8 #[.int .i64 6, .slice (some ⟨B, o, none⟩) 2 c] w (TelA w (arithA x.k y.k (flR a b) (quoE b))) := by
  refine do_any 6 _ 2 c w (by decide) (fun W hb => (doing_mod W).mono ?_) arity_6
  rintro e w' ⟨gh, hm, hg⟩
  have hbb := hm.choose_spec.1.choose_spec.choose_spec.choose_spec.2.2.2.2
  exact reck_doing (hR.below hb) ⟨gh, _, hm, ent_left, fun W2 hb2 => left1_any gh _ _ _ _ _ _ _ _ _ _ (flQ a b) (flR a b) (quoE b) W2 ((hb2.cell (p := ⟨gh, 0, none⟩) (World.block_lt_of_cell? w' _ hg)).trans hg) (Nat.lt_of_lt_of_le (World.block_lt_of_cell? w' _ hg) hb2.size) ent_floor (fun W3 hb3 =>
    have hall := hb.trans ((hbb.trans ((hb2.trans (hb3.mono hb2.size)).mono hbb.size)).mono hb.size)
    wfloor_num (hx.below hall) (hy.below hall) (by omega) (by omega))⟩
end
end
end Go.Proofs.YtocnlapbkidinaaGreatDoor
namespace Go.Proofs.YtocnlapbkidinaaGreatDoor
section
open Go.RowKit
set_option maxRecDepth 100000

theorem keepc {w w' : World} {p : Addr} {v : Value} (hb : Below w.heap.size w w') (h : w.cell? p = some v) : w'.cell? p = some v := (hb.cell (World.block_lt_of_cell? w _ h)).trans h
theorem ltc {w : World} {b o : Nat} {v : Value} (h : w.cell? ⟨b, o, none⟩ = some v) : b < w.heap.size := World.block_lt_of_cell? w _ h
section
variable {W w w' : World} {x y : LT} {a b : Int} {K L B o c : Nat} {e : Ending}
/-- The answer of a question of two numbers. -/
def orderA (k1 k2 : Int) (r : Bool) : Ans := if k1 = 1 ∧ k2 = 1 then boolA r else errA 6
theorem cmp_doing {F : Nat} {cap : Array Value} {z : Int} {r : Bool} (hR : RowAt W B o [x, y]) (h : CmMk W (.func (.func F) #[] cap) e w') (hF : Enters F)
    (HC : ∀ W2, Below W.heap.size W W2 → Calls Tryz.prog 93 #[intOfT x, intOfT y] W2 fun e W' => e = .returned (.int .i64 z) ∧ Below W2.heap.size W2 W')
    (H : ∀ W2, Calls Tryz.prog F (#[.int .i64 z] ++ cap) W2 fun e W' => e = .returned (.bool r) ∧ Below W2.heap.size W2 W') :
    DoingP W (some ⟨B, o, none⟩) 2 c (orderA x.k y.k r).k (orderA x.k y.k r).sg (orderA x.k y.k r).xs (orderA x.k y.k r).b (orderA x.k y.k r).s (orderA x.k y.k r).er e w' := by
  obtain ⟨gt, gf, ⟨gi, gk, gd, rfl, h1, h2, h3, hb⟩, h5, h6⟩ := h
  refine ⟨_, _, rfl, ent_only, hb, fun W2 hb2 => ?_⟩
  have hR2 := hR.below (hb.trans (hb2.mono hb.size))
  refine only1_any gi gk gd _ _ 1 B o c [x, y] W2 (keepc hb2 h1) (keepc hb2 h2) (keepc hb2 h3) ent_told hR2 (by simp) (fun hk W3 hb3 => ?_) (fun hk => ?_)
  · have hR3 := hR2.below hb3
    have h5' := keepc hb3 (keepc hb2 h5)
    have h6' := keepc hb3 (keepc hb2 h6)
    have hW3 : Below W.heap.size W W3 := hb.trans ((hb2.trans (hb3.mono hb2.size)).mono hb.size)
    have he : orderA x.k y.k r = boolA r := by unfold orderA; rw [if_pos (both_kinds.1 hk)]
    rw [he]
    exact told1_any gt _ _ (some ⟨B, o, none⟩) 2 c W3 h5' (ltc h5') ent_compared (fun W4 hb4 =>
      compared1_any gf F cap B o c x.g y.g x.la y.la x.ln x.lc y.ln y.lc z r W4 (keepc hb4 h6') (ltc (keepc hb4 h6')) hF (hR3.nums.below hb4)
        (fun W5 hb5 => HC W5 (hW3.trans ((hb4.trans (hb5.mono hb4.size)).mono hW3.size))) (fun W5 _ => H W5))
  · have he : orderA x.k y.k r = errA 6 := by unfold orderA; rw [if_neg (fun h => hk (both_kinds.2 h))]
    rw [he]
    exact ⟨rfl, rfl, rfl, rfl, rfl, rfl⟩
theorem do_eq (hx : Wh w (intOfT x) a K) (hy : Wh w (intOfT y) b L) (hK : K ≤ 1000) (hL : L ≤ 1000) (hR : RowAt w B o [x, y]) :
    Calls Tryz.prog 8 #[.int .i64 7, .slice (some ⟨B, o, none⟩) 2 c] w (TelA w (orderA x.k y.k (decide (cmpZ a b = 0)))) := by
  refine do_any 7 _ 2 c w (by decide) (fun W hb => (doing_eq W).mono ?_) arity_7
  intro e w' hm
  exact cmp_doing (hR.below hb) hm ent_d1 (fun W2 hb2 => wcmp_num (hx.below (hb.trans (hb2.mono hb.size))) (hy.below (hb.trans (hb2.mono hb.size))) (by omega) (by omega)) (order_eq _)
theorem do_less (hx : Wh w (intOfT x) a K) (hy : Wh w (intOfT y) b L) (hK : K ≤ 1000) (hL : L ≤ 1000) (hR : RowAt w B o [x, y]) :
    Calls Tryz.prog 8 #[.int .i64 8, .slice (some ⟨B, o, none⟩) 2 c] w (TelA w (orderA x.k y.k (decide (cmpZ a b < 0)))) := by
  refine do_any 8 _ 2 c w (by decide) (fun W hb => (doing_less W).mono ?_) arity_8
  intro e w' hm
  exact cmp_doing (hR.below hb) hm ent_d2 (fun W2 hb2 => wcmp_num (hx.below (hb.trans (hb2.mono hb.size))) (hy.below (hb.trans (hb2.mono hb.size))) (by omega) (by omega)) (order_lt _)
theorem ask_doing {F : Nat} {cap : Array Value} {r : Bool} (hR : RowAt W B o [x]) (h : AsMk W (.func (.func F) #[] cap) e w') (hF : Enters F)
    (H : ∀ W2, Below w'.heap.size w' W2 → Calls Tryz.prog F (#[.agg #[.int .i64 x.k, .bool x.g, .slice x.la x.ln x.lc, .bool x.bb, .string x.s, .slice x.ia x.items.length x.ic, .slice x.ta x.tail.length x.tc]] ++ cap) W2 fun e W' => e = .returned (.bool r) ∧ Below W2.heap.size W2 W') :
    DoingP W (some ⟨B, o, none⟩) 1 c (boolA r).k (boolA r).sg (boolA r).xs (boolA r).b (boolA r).s (boolA r).er e w' := by
  obtain ⟨gt, gf, rfl, h5, h6, hb⟩ := h
  refine ⟨_, _, rfl, ent_told, hb, fun W2 hb2 => ?_⟩
  have hR2 := hR.below (hb.trans (hb2.mono hb.size))
  have h5' := keepc hb2 h5
  have h6' := keepc hb2 h6
  exact told1_any gt _ _ (some ⟨B, o, none⟩) 1 c W2 h5' (ltc h5') ent_asked (fun W4 hb4 =>
      asked1_any gf F cap B o 1 c x r W4 (keepc hb4 h6') (ltc (keepc hb4 h6')) hF (by decide) (hR2.first.below hb4)
        (fun W5 hb5 => H W5 (hb2.trans ((hb4.trans (hb5.mono hb4.size)).mono hb2.size))))
theorem do_nullq (hR : RowAt w B o [x]) : Calls Tryz.prog 8 #[.int .i64 14, .slice (some ⟨B, o, none⟩) 1 c] w (TelA w (boolA (decide (x.k = 5) && decide (x.items.length = 0)))) := by
  refine do_any 14 _ 1 c w (by decide) (fun W hb => (doing_nullq W).mono ?_) arity_14
  intro e w' hm
  exact ask_doing (hR.below hb) hm ent_empty (fun W2 _ => isEmpty_any x W2)
theorem do_pairq (hR : RowAt w B o [x]) : Calls Tryz.prog 8 #[.int .i64 15, .slice (some ⟨B, o, none⟩) 1 c] w (TelA w (boolA (decide (x.k = 5) && decide (0 < x.items.length)))) := by
  refine do_any 15 _ 1 c w (by decide) (fun W hb => (doing_pairq W).mono ?_) arity_15
  intro e w' hm
  exact ask_doing (hR.below hb) hm ent_pair (fun W2 _ => isPair_any x W2)
theorem do_not (hR : RowAt w B o [x]) : Calls Tryz.prog 8 #[.int .i64 22, .slice (some ⟨B, o, none⟩) 1 c] w (TelA w (boolA (decide (x.k = 2) && !x.bb))) := by
  refine do_any 22 _ 1 c w (by decide) (fun W hb => (doing_not W).mono ?_) arity_22
  intro e w' hm
  exact ask_doing (hR.below hb) hm ent_false (fun W2 _ => isFalse_any x W2)
theorem do_numq (hR : RowAt w B o [x]) : Calls Tryz.prog 8 #[.int .i64 16, .slice (some ⟨B, o, none⟩) 1 c] w (TelA w (boolA (decide (x.k = 1)))) := by
  refine do_any 16 _ 1 c w (by decide) (fun W hb => (doing_numq W).mono ?_) arity_16
  rintro e w' ⟨gk, hm, hk⟩
  exact ask_doing (hR.below hb) hm ent_isOf (fun W2 hb2 => isOf1_any gk 1 x W2 (keepc hb2 hk) (ltc (keepc hb2 hk)))
theorem do_symq (hR : RowAt w B o [x]) : Calls Tryz.prog 8 #[.int .i64 17, .slice (some ⟨B, o, none⟩) 1 c] w (TelA w (boolA (decide (x.k = 3)))) := by
  refine do_any 17 _ 1 c w (by decide) (fun W hb => (doing_symq W).mono ?_) arity_17
  rintro e w' ⟨gk, hm, hk⟩
  exact ask_doing (hR.below hb) hm ent_isOf (fun W2 hb2 => isOf1_any gk 3 x W2 (keepc hb2 hk) (ltc (keepc hb2 hk)))
theorem do_strq (hR : RowAt w B o [x]) : Calls Tryz.prog 8 #[.int .i64 18, .slice (some ⟨B, o, none⟩) 1 c] w (TelA w (boolA (decide (x.k = 4)))) := by
  refine do_any 18 _ 1 c w (by decide) (fun W hb => (doing_strq W).mono ?_) arity_18
  rintro e w' ⟨gk, hm, hk⟩
  exact ask_doing (hR.below hb) hm ent_isOf (fun W2 hb2 => isOf1_any gk 4 x W2 (keepc hb2 hk) (ltc (keepc hb2 hk)))
theorem do_boolq (hR : RowAt w B o [x]) : Calls Tryz.prog 8 #[.int .i64 19, .slice (some ⟨B, o, none⟩) 1 c] w (TelA w (boolA (decide (x.k = 2)))) := by
  refine do_any 19 _ 1 c w (by decide) (fun W hb => (doing_boolq W).mono ?_) arity_19
  rintro e w' ⟨gk, hm, hk⟩
  exact ask_doing (hR.below hb) hm ent_isOf (fun W2 hb2 => isOf1_any gk 2 x W2 (keepc hb2 hk) (ltc (keepc hb2 hk)))
/-- A text's primitives: of one or two data of one kind. -/
theorem txt_doing {F : Nat} {ts : List LT} {kk : Int} {ans : Ans} {n : Nat} (hn : n = ts.length) (h1000 : ts.length ≤ 1000) (hR : RowAt W B o ts) (h : ∃ gh, OnlyP W kk (.func (.func 96) #[] #[.pointer (some ⟨gh, 0, none⟩)]) e w' ∧ w'.cell? ⟨gh, 0, none⟩ = some (.func (.func F) #[] #[])) (hF : Enters F)
    (hk : ¬ (∀ t ∈ ts, t.k = kk) → ans = errA 6) (her : (∀ t ∈ ts, t.k = kk) → ans.er = 0)
    (H : (∀ t ∈ ts, t.k = kk) → ∀ W2, RowAt W2 B o ts → Below W.heap.size W W2 → Calls Tryz.prog F #[.slice (some ⟨B, o, none⟩) n c] W2 (DatP W2 ans.k ans.sg ans.xs ans.b ans.s)) :
    DoingP W (some ⟨B, o, none⟩) n c ans.k ans.sg ans.xs ans.b ans.s ans.er e w' := by
  subst hn
  obtain ⟨gt, ⟨gi, gk, gd, rfl, h1, h2, h3, hb⟩, h5⟩ := h
  refine ⟨_, _, rfl, ent_only, hb, fun W2 hb2 => ?_⟩
  have hbW := hb.trans (hb2.mono hb.size)
  have hR2 := hR.below hbW
  refine only1_any gi gk gd _ _ kk B o c ts W2 (keepc hb2 h1) (keepc hb2 h2) (keepc hb2 h3) ent_told hR2 h1000 (fun hk W3 hb3 => ?_) (fun hk' => ?_)
  · have h5' := keepc hb3 (keepc hb2 h5)
    have hW3 := hbW.trans (hb3.mono hbW.size)
    rw [her hk]
    exact told1_any gt F #[] (some ⟨B, o, none⟩) ts.length c W3 h5' (ltc h5') hF (fun W4 hb4 => H hk W4 ((hR2.below hb3).below hb4) (hW3.trans (hb4.mono hW3.size)))
  · rw [hk hk']
    exact ⟨rfl, rfl, rfl, rfl, rfl, rfl⟩
def lenA (k : Int) (s : ByteArray) : Ans := if k = 4 then numA s.size else errA 6
def symA (k : Int) (s : ByteArray) : Ans := if k = 3 then strA s else errA 6
def textA (k : Int) (s : ByteArray) : Ans := if k = 1 then strA s else errA 6
def sameA (k1 k2 : Int) (r : Bool) : Ans := if k1 = 4 ∧ k2 = 4 then boolA r else errA 6
def joinA (k1 k2 : Int) (s t : ByteArray) : Ans := if k1 = 4 ∧ k2 = 4 then (if 1024 < s.size + t.size then errA 12 else strA (s ++ t)) else errA 6
theorem one_kind {k : Int} : (∀ t ∈ [x], t.k = k) ↔ x.k = k := by simp
theorem do_strlen (hs : x.s.size ≤ maxLen) (hR : RowAt w B o [x]) : Calls Tryz.prog 8 #[.int .i64 23, .slice (some ⟨B, o, none⟩) 1 c] w (TelA w (lenA x.k x.s)) := by
  refine do_any 23 _ 1 c w (by decide) (fun W hb => (doing_strlen W).mono ?_) arity_23
  intro e w' hm
  refine txt_doing (ts := [x]) rfl (by simp) (hR.below hb) hm ent_d4 (fun h => by unfold lenA; rw [if_neg (fun h' => h (one_kind.2 h'))]) (fun h => by unfold lenA; rw [if_pos (one_kind.1 h)]; rfl) (fun h W2 hR2 _ => ?_)
  unfold lenA
  rw [if_pos (one_kind.1 h)]
  have e0 : decide ((x.s.size : Int) < 0) = false := decide_eq_false (by omega)
  have := strlen_any B o 1 c x.s W2 (by decide) hR2.first.cells.2.2.2.2.1 (by unfold maxLen at hs; omega)
  show Calls Tryz.prog _ _ W2 (DatP W2 1 (decide ((x.s.size : Int) < 0)) (limbs (x.s.size : Int).natAbs) false ⟨#[]⟩)
  rw [e0]
  exact this
theorem do_symstr (hR : RowAt w B o [x]) : Calls Tryz.prog 8 #[.int .i64 26, .slice (some ⟨B, o, none⟩) 1 c] w (TelA w (symA x.k x.s)) := by
  refine do_any 26 _ 1 c w (by decide) (fun W hb => (doing_symstr W).mono ?_) arity_26
  intro e w' hm
  refine txt_doing (ts := [x]) rfl (by simp) (hR.below hb) hm ent_d6 (fun h => by unfold symA; rw [if_neg (fun h' => h (one_kind.2 h'))]) (fun h => by unfold symA; rw [if_pos (one_kind.1 h)]; rfl) (fun h W2 hR2 _ => ?_)
  unfold symA
  rw [if_pos (one_kind.1 h)]
  exact symstr_any B o 1 c x.s W2 (by decide) hR2.first.cells.2.2.2.2.1
theorem do_numstr {t : ByteArray} (ht : ∀ W u, Wh W u a K → Calls Tryz.prog 67 #[u] W fun e w' => e = .returned (.string t) ∧ Below W.heap.size W w') (hx : Wh w (intOfT x) a K) (hR : RowAt w B o [x]) : Calls Tryz.prog 8 #[.int .i64 27, .slice (some ⟨B, o, none⟩) 1 c] w (TelA w (textA x.k t)) := by
  refine do_any 27 _ 1 c w (by decide) (fun W hb => (doing_numstr W).mono ?_) arity_27
  intro e w' hm
  refine txt_doing (ts := [x]) rfl (by simp) (hR.below hb) hm ent_d7 (fun h => by unfold textA; rw [if_neg (fun h' => h (one_kind.2 h'))]) (fun h => by unfold textA; rw [if_pos (one_kind.1 h)]; rfl) (fun h W2 hR2 hb2 => ?_)
  unfold textA
  rw [if_pos (one_kind.1 h)]
  have hbw := hb.trans (hb2.mono hb.size)
  exact numstr_any B o 1 c x.g x.la x.ln x.lc a t W2 (by decide) hR2.first.cells.2.1 hR2.first.cells.2.2.1 (fun W3 hb3 => ht W3 _ (hx.below (hbw.trans (hb3.mono hbw.size))))
theorem do_streq {r : Bool} (hr : (x.s.toList == y.s.toList) = r) (hR : RowAt w B o [x, y]) : Calls Tryz.prog 8 #[.int .i64 25, .slice (some ⟨B, o, none⟩) 2 c] w (TelA w (sameA x.k y.k r)) := by
  refine do_any 25 _ 2 c w (by decide) (fun W hb => (doing_streq W).mono ?_) arity_25
  intro e w' hm
  refine txt_doing (ts := [x, y]) rfl (by simp) (hR.below hb) hm ent_d5 (fun h => by unfold sameA; rw [if_neg (fun h' => h (both_kinds.2 h'))]) (fun h => by unfold sameA; rw [if_pos (both_kinds.1 h)]; rfl) (fun h W2 hR2 _ => ?_)
  unfold sameA
  rw [if_pos (both_kinds.1 h)]
  exact streq_any B o c x.s y.s r W2 hR2.first.cells.2.2.2.2.1 hR2.second.cells.2.2.2.2.1 hr
theorem do_strapp (hs : x.s.size ≤ 140737488351232) (ht : y.s.size ≤ 140737488351232) (hR : RowAt w B o [x, y]) : Calls Tryz.prog 8 #[.int .i64 24, .slice (some ⟨B, o, none⟩) 2 c] w (TelA w (joinA x.k y.k x.s y.s)) := by
  refine do_any 24 _ 2 c w (by decide) (fun W hb => (doing_strapp W).mono ?_) arity_24
  rintro e w' ⟨gi, gk, gd, rfl, h1, h2, h3, hb'⟩
  refine ⟨_, _, rfl, ent_only, hb', fun W2 hb2 => ?_⟩
  have hR2 := (hR.below hb).below (hb'.trans (hb2.mono hb'.size))
  refine only1_any gi gk gd _ _ 4 B o c [x, y] W2 (keepc hb2 h1) (keepc hb2 h2) (keepc hb2 h3) ent_joined hR2 (by simp) (fun hk W3 hb3 => ?_) (fun hk => ?_)
  · have hR3 := hR2.below hb3
    have hj := joined_any B o c x.s y.s W3 hR3.first.cells.2.2.2.2.1 hR3.second.cells.2.2.2.2.1 hs ht
    unfold joinA
    rw [if_pos (both_kinds.1 hk)]
    unfold JnAns at hj
    by_cases hl : 1024 < x.s.size + y.s.size
    · rw [if_pos hl] at hj ⊢
      exact hj
    · rw [if_neg hl] at hj ⊢
      exact hj
  · unfold joinA
    rw [if_neg (fun h => hk (both_kinds.2 h))]
    exact ⟨rfl, rfl, rfl, rfl, rfl, rfl⟩
end
end
end Go.Proofs.YtocnlapbkidinaaGreatDoor
