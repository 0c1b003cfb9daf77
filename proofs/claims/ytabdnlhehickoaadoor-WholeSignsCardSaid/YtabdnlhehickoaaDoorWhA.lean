/-
  whole.Norm, Neg, Add, Sub, Mul, Cmp: their contracts over values of which the number alone is known.
-/
import Derived.Test.YtabdnlhehickoaaDoorWh2
namespace Go.Proofs.YtabdnlhehickoaaDoor
open Go.RowKit
section
variable {w : World} {u v : Value} {a b : Int} {K L : Nat}

set_option maxHeartbeats 800000 in
theorem wnorm_num (hu : Wh w u a K) (hK : K ≤ 1000000) : Calls Tryd.prog 26 #[u] w (WGives w a) := by
  obtain ⟨s, x, m, rfl, hx, rfl⟩ := hu
  obtain ⟨W, hW, hp, hr, hb⟩ := enter1r w (.bool s) x
  replace hx := (hx.below hb).drew
  go_enter Tryd.func26, Tryd.ntmps26
  go_wp2_with fail
  rw [← hW]
  clear hW
  replace hp := hp.drew
  have hpd0 := hp.c0
  have hpd1 := hp.c1
  replace hr := hr.drew
  go_region_held3 (fun w' => w'.cell? ⟨w.heap.size, 0, none⟩ = some (.bool s) ∧ w'.cell? ⟨w.heap.size, 1, none⟩ = some (x))
    (first | exact ⟨hp1.c0, hp1.c1⟩ | exact ⟨hp2.c0, hp2.c1⟩ | go_keep)
    (first
    | (go_at_call 15; refine (norm_num hx (by omega)).mono ?_; rintro e w1 ⟨v, rfl, hv, hb1⟩; have hp1 := hp.next hb1; have hr1 := hr.next hb1)
    | (go_at_call 69; refine (signed_w s hv).mono ?_; rintro e w2 ⟨b, xa, xn, xc, rfl, hnew, hb2⟩; have hp2 := hp1.next hb2; have hr2 := hr1.next hb2; obtain ⟨q1, q2, q3, q4, q5, q6⟩ := hr2.room (.bool b)))
  go_wp2_with fail
  exact wret rfl rfl rfl hr2 hnew.out hb.drew.size (by omega) (bnext (bnext hb.drew hb1) hb2)

set_option maxHeartbeats 800000 in
theorem wneg_num (hu : Wh w u a K) (hK : K ≤ 1000000) : Calls Tryd.prog 36 #[u] w (WGives w (-a)) := by
  obtain ⟨s, x, m, rfl, hx, rfl⟩ := hu
  have hz : -(zOf s m) = zOf (!s) m := by cases s <;> simp [zOf]
  rw [hz]
  clear hz
  obtain ⟨W, hW, hp, hr, hb⟩ := enter1r w (.bool s) x
  replace hx := (hx.below hb).drew
  go_enter Tryd.func36, Tryd.ntmps36
  go_wp2_with fail
  rw [← hW]
  clear hW
  replace hp := hp.drew
  have hpd0 := hp.c0
  have hpd1 := hp.c1
  replace hr := hr.drew
  go_region_held3 (fun w' => w'.cell? ⟨w.heap.size, 0, none⟩ = some (.bool s) ∧ w'.cell? ⟨w.heap.size, 1, none⟩ = some (x))
    (first | exact ⟨hp1.c0, hp1.c1⟩ | exact ⟨hp2.c0, hp2.c1⟩ | go_keep)
    (first
    | (go_at_call 15; refine (norm_num hx (by omega)).mono ?_; rintro e w1 ⟨v, rfl, hv, hb1⟩; have hp1 := hp.next hb1; have hr1 := hr.next hb1)
    | (go_at_call 69; refine (signed_w (!s) hv).mono ?_; rintro e w2 ⟨b, xa, xn, xc, rfl, hnew, hb2⟩; have hp2 := hp1.next hb2; have hr2 := hr1.next hb2; obtain ⟨q1, q2, q3, q4, q5, q6⟩ := hr2.room (.bool b)))
  go_wp2_with fail
  exact wret rfl rfl rfl hr2 hnew.out hb.drew.size (by omega) (bnext (bnext hb.drew hb1) hb2)
end
end Go.Proofs.YtabdnlhehickoaaDoor
