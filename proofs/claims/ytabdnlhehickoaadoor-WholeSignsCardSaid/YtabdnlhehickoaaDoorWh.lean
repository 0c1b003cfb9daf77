/-
  Whole numbers: what a value says, and the contracts of whole's smallest functions.
-/
import Derived.Test.YtabdnlhehickoaaDoorSmallN
namespace Go.Proofs.YtabdnlhehickoaaDoor
open Go.RowKit

/-- The whole number of a sign and a number. -/
def zOf (s : Bool) (m : Nat) : Int := if s then -(m : Int) else (m : Int)
theorem zOf_true (m : Nat) : zOf true m = -(m : Int) := rfl
theorem zOf_false (m : Nat) : zOf false m = (m : Int) := rfl
theorem zOf_abs (s : Bool) (m : Nat) : (zOf s m).natAbs = m := by cases s <;> simp [zOf]
theorem zOf_neg (s : Bool) (m : Nat) : decide (zOf s m < 0) = (s && decide (0 < m)) := by
  cases s
  · simp [zOf]
  · simp only [zOf, if_true, Bool.true_and]
    exact decide_eq_decide.2 (by omega)
/-- The value v is a whole number's: a sign s, and a slice of at most K limbs that has the number m. -/
def Wh (w : World) (v : Value) (z : Int) (K : Nat) : Prop := ∃ s x m, v = .agg #[.bool s, x] ∧ Num w x m K ∧ z = zOf s m
/-- A call's own: without limbs of 0 at its end, nought without a sign. -/
def WNew (w : World) (base : Nat) (v : Value) (z : Int) : Prop := ∃ x, v = .agg #[.bool (decide (z < 0)), x] ∧ New w base x (limbs z.natAbs)
def WGives (w : World) (z : Int) (e : Ending) (w' : World) : Prop := ∃ v, e = .returned v ∧ WNew w' w.heap.size v z ∧ Below w.heap.size w w'
theorem Wh.below {w w' : World} {v : Value} {z : Int} {K : Nat} (h : Wh w v z K) (hb : Below w.heap.size w w') : Wh w' v z K := by
  obtain ⟨s, x, m, e, hn, hz⟩ := h
  exact ⟨s, x, m, e, hn.below hb, hz⟩
theorem Wh.lt {w : World} {v : Value} {z : Int} {K : Nat} (h : Wh w v z K) : z.natAbs < 4294967296 ^ K := by
  obtain ⟨s, x, m, e, hn, rfl⟩ := h
  rw [zOf_abs]; exact hn.lt
theorem WNew.next {w w' : World} {base : Nat} {v : Value} {z : Int} (h : WNew w base v z) (hb : Below w.heap.size w w') : WNew w' base v z := by
  obtain ⟨x, e, hn⟩ := h
  exact ⟨x, e, hn.next hb⟩
theorem WNew.from_ {w : World} {base base' : Nat} {v : Value} {z : Int} (h : WNew w base v z) (hb : base' ≤ base) : WNew w base' v z := by
  obtain ⟨x, e, hn⟩ := h
  exact ⟨x, e, hn.from_ hb⟩
theorem zOf_self (z : Int) : z = zOf (decide (z < 0)) z.natAbs := by
  unfold zOf
  by_cases h : z < 0
  · rw [decide_eq_true h, if_pos rfl]; omega
  · rw [decide_eq_false h, if_neg (by decide)]; omega
theorem WNew.wh {w : World} {base : Nat} {v : Value} {z : Int} (h : WNew w base v z) (K : Nat) (hz : z.natAbs < 4294967296 ^ K) : Wh w v z K := by
  obtain ⟨x, rfl, hn⟩ := h
  exact ⟨_, x, z.natAbs, rfl, hn.num K hz, zOf_self z⟩
theorem WNew.of {w : World} {base : Nat} {x : Value} (s : Bool) (m : Nat) (h : New w base x (limbs m)) {b : Bool} (hb : b = (s && decide (0 < m))) : WNew w base (.agg #[.bool b, x]) (zOf s m) :=
  ⟨x, by rw [zOf_neg, hb], by rw [zOf_abs]; exact h⟩


theorem load_w {w : World} {b : Nat} {s x : Value} (c0 : w.cell? ⟨b, 0, none⟩ = some s) (c1 : w.cell? ⟨b, 1, none⟩ = some x) : (loadVar 36 ⟨b, 0, none⟩).run Tryd.prog w = .ok (.agg #[s, x]) w := by
  simp [go_sem, c0, c1]
theorem asAddr_ptr (w : World) (a : Addr) : (asAddr (.pointer (some a))).run Tryd.prog w = .ok a w := by simp [go_sem]
theorem results_w {fn : Func} {tmps : Array Value} {t : Tmp} {w : World} {b : Nat} {s x : Value} (h : fn.results = #[.cell t 36]) (ht : tmps.getD t undef = .pointer (some ⟨b, 0, none⟩)) (c0 : w.cell? ⟨b, 0, none⟩ = some s) (c1 : w.cell? ⟨b, 1, none⟩ = some x) :
    (results fn tmps).run Tryd.prog w = .ok (.agg #[s, x]) w := by
  rw [Array.getD_eq_getD_getElem?] at ht
  simp [results, h, ht, go_sem, c0, c1]
theorem results_wt {fn : Func} {tmps : Array Value} {t t2 : Tmp} {w : World} {b : Nat} {s x : Value} (h : fn.results = #[.cell t 36, .tmp t2]) (ht : tmps.getD t undef = .pointer (some ⟨b, 0, none⟩)) (c0 : w.cell? ⟨b, 0, none⟩ = some s) (c1 : w.cell? ⟨b, 1, none⟩ = some x) :
    (results fn tmps).run Tryd.prog w = .ok (.tuple #[.agg #[s, x], tmps.getD t2 undef]) w := by
  rw [Array.getD_eq_getD_getElem?] at ht
  simp [results, h, ht, go_sem, c0, c1]
theorem results_ww {fn : Func} {tmps : Array Value} {t t2 : Tmp} {w : World} {b b2 : Nat} {s x s2 x2 : Value} (h : fn.results = #[.cell t 36, .cell t2 36]) (ht : tmps.getD t undef = .pointer (some ⟨b, 0, none⟩)) (ht2 : tmps.getD t2 undef = .pointer (some ⟨b2, 0, none⟩)) (c0 : w.cell? ⟨b, 0, none⟩ = some s) (c1 : w.cell? ⟨b, 1, none⟩ = some x) (d0 : w.cell? ⟨b2, 0, none⟩ = some s2) (d1 : w.cell? ⟨b2, 1, none⟩ = some x2) :
    (results fn tmps).run Tryd.prog w = .ok (.tuple #[.agg #[s, x], .agg #[s2, x2]]) w := by
  rw [Array.getD_eq_getD_getElem?] at ht ht2
  simp [results, h, ht, ht2, go_sem, c0, c1, d0, d1]
theorem results_wwt {fn : Func} {tmps : Array Value} {t t2 t3 : Tmp} {w : World} {b b2 : Nat} {s x s2 x2 : Value} (h : fn.results = #[.cell t 36, .cell t2 36, .tmp t3]) (ht : tmps.getD t undef = .pointer (some ⟨b, 0, none⟩)) (ht2 : tmps.getD t2 undef = .pointer (some ⟨b2, 0, none⟩)) (c0 : w.cell? ⟨b, 0, none⟩ = some s) (c1 : w.cell? ⟨b, 1, none⟩ = some x) (d0 : w.cell? ⟨b2, 0, none⟩ = some s2) (d1 : w.cell? ⟨b2, 1, none⟩ = some x2) :
    (results fn tmps).run Tryd.prog w = .ok (.tuple #[.agg #[s, x], .agg #[s2, x2], tmps.getD t3 undef]) w := by
  rw [Array.getD_eq_getD_getElem?] at ht ht2
  simp [results, h, ht, ht2, go_sem, c0, c1, d0, d1]

theorem New.nought {w : World} {base : Nat} {x : Value} {m : Nat} (h : New w base x (limbs m)) : ∃ A n c, x = .slice A n c ∧ n ≤ 2 ^ 63 - 1 ∧ (n = 0 ↔ m = 0) := by
  obtain ⟨A, n, c, rfl, hs, _⟩ := h
  have hlen := hs.len
  have hmax := Nat.le_trans hs.le hs.max
  unfold maxLen at hmax
  refine ⟨A, n, c, rfl, hmax, ?_⟩
  rw [hlen]
  constructor
  · intro h0; exact (limbs_nil_iff m).1 (List.length_eq_zero_iff.1 h0)
  · intro h0; rw [h0]; rfl

set_option maxHeartbeats 400000 in
theorem signed_any (s : Bool) (x : Value) (m base : Nat) (w : World) (h : New w base x (limbs m)) :
    Calls Tryd.prog 69 #[.bool s, x] w fun e w' => e = .returned (.agg #[.bool (s && decide (0 < m)), x]) ∧ Below w.heap.size w w' := by
  obtain ⟨A, n, c, rfl, hmax, hnm⟩ := h.nought
  clear h
  have hb : ∀ o, Below w.heap.size w (w.alloc o) := fun o => (Below.refl _ _).alloc (Nat.le_refl _) o
  cases s
  · go_enter Tryd.func69, Tryd.ntmps69
    go_wp2_with fail
    (try simp only [Exit.inBlock, Exit.then]); refine bodyPost_ret (results_w rfl rfl (by simp; rfl) (by simp; rfl)) rfl ?_
    exact ⟨rfl, hb _⟩
  · by_cases h0 : m = 0
    · obtain rfl : n = 0 := hnm.2 h0
      subst h0
      clear hnm
      go_enter Tryd.func69, Tryd.ntmps69
      go_wp2_with fail
      (try simp only [Exit.inBlock, Exit.then]); refine bodyPost_ret (results_w rfl rfl (by simp; rfl) (by simp; rfl)) rfl ?_
      exact ⟨rfl, hb _⟩
    · have hn0 : 0 < n := by omega
      have hm0 : decide (0 < m) = true := decide_eq_true (by omega)
      rw [hm0]
      clear hnm h0
      go_enter Tryd.func69, Tryd.ntmps69
      go_wp2_with fail
      (try simp only [Exit.inBlock, Exit.then]); refine bodyPost_ret (results_w rfl rfl (by simp; rfl) (by simp; rfl)) rfl ?_
      exact ⟨rfl, hb _⟩

theorem signed_new {w : World} {x : Value} {m base : Nat} (s : Bool) (h : New w base x (limbs m)) :
    Calls Tryd.prog 69 #[.bool s, x] w fun e w' => ∃ v, e = .returned v ∧ WNew w' base v (zOf s m) ∧ Below w.heap.size w w' := by
  refine (signed_any s x m base w h).mono ?_
  rintro e w' ⟨rfl, hb⟩
  exact ⟨_, rfl, WNew.of s m (h.next hb) rfl, hb⟩

set_option maxHeartbeats 400000 in
theorem isNought_any {w : World} {x : Value} {s : Bool} {m K : Nat} (hx : Num w x m K) (hK : K ≤ 1000000) :
    Calls Tryd.prog 76 #[.agg #[.bool s, x]] w fun e w' => e = .returned (.bool (decide (m = 0))) ∧ Below w.heap.size w w' := by
  have hbl := bl_bd hx.lt
  have hz : m = 0 ↔ bl m = 0 := ⟨fun h => by rw [h]; rfl, fun h => by rcases Nat.eq_zero_or_pos m with h1 | h1; exact h1; exact absurd h (by have := bl_pos m (by omega); omega)⟩
  have HB := bits_num (hx.alloc (.cells #[.bool s, x] 36)) (by omega)
  obtain ⟨k, hk⟩ : ∃ k, k = bl m := ⟨_, rfl⟩
  rw [← hk] at hz hbl HB
  replace HB := Lib.hid HB
  have hd : decide (m = 0) = decide ((k : Int) = 0) := decide_eq_decide.2 (by omega)
  rw [hd]
  clear hk hd
  clear hz hx
  go_enter Tryd.func76, Tryd.ntmps76
  go_wp2_with fail
  refine HB.out.mono ?_
  rintro e w1 ⟨rfl, rfl⟩
  go_wp2_with fail
  go_ret
  exact ⟨rfl, (Below.refl _ _).alloc (Nat.le_refl _) _⟩

set_option maxHeartbeats 400000 in
theorem below_any {w : World} {x : Value} {s : Bool} {m K : Nat} (hx : Num w x m K) (hK : K ≤ 1000000) :
    Calls Tryd.prog 64 #[.agg #[.bool s, x]] w fun e w' => e = .returned (.bool (decide (zOf s m < 0))) ∧ Below w.heap.size w w' := by
  have hb0 : Below w.heap.size w (w.alloc (.cells #[.bool s, x] 36)) := (Below.refl _ _).alloc (Nat.le_refl _) _
  rw [zOf_neg]
  cases s
  · go_enter Tryd.func64, Tryd.ntmps64
    go_wp2_with fail
    go_ret
    exact ⟨rfl, hb0⟩
  · have h2 := Lib.hid (isNought_any (s := true) (hx.below hb0) hK)
    have hd : (true && decide (0 < m)) = !(decide (m = 0)) := by by_cases h : m = 0 <;> simp [h] <;> omega
    rw [hd]
    go_enter Tryd.func64, Tryd.ntmps64
    go_wp2_with fail
    refine h2.out.mono ?_
    rintro e w1 ⟨rfl, hb1⟩
    go_wp2_with fail
    go_ret
    exact ⟨rfl, bnext hb0 hb1⟩
end Go.Proofs.YtabdnlhehickoaaDoor
