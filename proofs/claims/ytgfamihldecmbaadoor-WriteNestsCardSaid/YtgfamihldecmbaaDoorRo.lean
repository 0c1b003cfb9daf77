/-
  pavaneref03.norm and Norm of any tree; that what Norm leaves has one Tail at most.
-/
import Derived.Test.YtgfamihldecmbaaDoorRn
namespace Go.Proofs.YtgfamihldecmbaaDoor
open Go.RowKit

theorem rnorm_tree (M : Nat) : ∀ N : Nat, N ≤ 100000 → ∀ t : LT, t.size ≤ N → Tame t → ∀ w : World, M ≤ w.heap.size → Held w M t → Calls Tryd.prog 41 #[.agg #[.int .i64 t.k, .bool t.g, .slice t.la t.ln t.lc, .bool t.bb, .string t.s, .slice t.ia t.items.length t.ic, .slice t.ta t.tail.length t.tc]] w (NPost (normT t) w)
  | 0, _, t, ht, _, _, _, _ => by rw [t.size_eq] at ht; omega
  | N + 1, hN, t, ht, hT, w, hM, hH => by
    by_cases hk : t.k = 5
    · exact rnorm_list_tree M N (fun u hu hTu w hM hH => rnorm_tree M N (by omega) u hu hTu w hM hH) hN t ht hk hT w hM hH
    · exact rnorm_nl t hk ((tame_eq t).1 hT).1 hH.1.2.2 w hH.1.1

mutual
theorem budT_ge : ∀ (t : LT) (left deep : Int), (t.size : Int) ≤ left → (t.depth : Int) ≤ deep → budT t left deep = left - t.size
  | .mk k g la ln lc ys bb s ia ic items ta tc tail, left, deep, h1, h2 => by
    have e1 : LT.size (.mk k g la ln lc ys bb s ia ic items ta tc tail) = 1 + (sizes items + sizes tail) := by simp [LT.size]
    have e2 : LT.depth (.mk k g la ln lc ys bb s ia ic items ta tc tail) = 1 + max (depths items) (depths tail) := by simp [LT.depth]
    rw [e1] at h1
    rw [e2] at h2
    rw [budT_eq, if_neg (by omega), e1]
    have h3 := budR_ge items (left - 1) (deep - 1) (by omega) (by omega)
    have h4 := budR_ge tail (budR items (left - 1) (deep - 1)) (deep - 1) (by omega) (by omega)
    simp only [LT.items, LT.tail]
    rw [h4, h3]
    omega
theorem budR_ge : ∀ (l : List LT) (left deep : Int), (sizes l : Int) ≤ left → (depths l : Int) ≤ deep → budR l left deep = left - sizes l
  | [], left, deep, _, _ => by rw [budR_nil]; simp [sizes]
  | t :: l, left, deep, h1, h2 => by
    simp only [sizes, depths] at h1 h2 ⊢
    have h3 := budT_ge t left deep (by omega) (by omega)
    rw [budR_cons, if_neg (by omega)]
    have h4 := budR_ge l (budT t left deep) deep (by omega) (by omega)
    rw [h4, h3]
    omega
end

set_option maxRecDepth 100000 in
set_option maxHeartbeats 3200000 in
theorem rNorm_tree (M : Nat) (t : LT) (h1 : t.size ≤ 100000) (h2 : t.depth ≤ 10000) (hT : Tame t) (w : World) (hM : M ≤ w.heap.size) (hH : Held w M t) :
    Calls Tryd.prog 23 #[.agg #[.int .i64 t.k, .bool t.g, .slice t.la t.ln t.lc, .bool t.bb, .string t.s, .slice t.ia t.items.length t.ic, .slice t.ta t.tail.length t.tc]] w (NPost (normT t) w) := by
  have hl := fun W (hb : Below w.heap.size w W) => few_any M t W (Nat.le_trans hM hb.size) (hH.below hM hb)
  have hn := fun W (hb : Below w.heap.size w W) => rnorm_tree M 100000 (Nat.le_refl _) t h1 hT W (Nat.le_trans hM hb.size) (hH.below hM hb)
  have hbu : decide (0 ≤ budT t 100000 10000) = true := decide_eq_true (by rw [budT_ge t 100000 10000 (by omega) (by omega)]; omega)
  unfold LT.val at hl
  rw [hbu] at hl
  have HL := Lib.hid (And.intro hl hn)
  clear hl hn hH hT hbu
  generalize normT t = d at *
  go_enter Tryd.func23, Tryd.ntmps23
  go_wp2_with fail
  have hz2 : ((w.alloc (Obj.cells #[.int .i64 t.k, .bool t.g, .slice t.la t.ln t.lc, .bool t.bb, .string t.s, .slice t.ia t.items.length t.ic, .slice t.ta t.tail.length t.tc] 27)).alloc (Obj.cells #[.int .i64 0, .bool false, .slice none 0 0, .bool false, .string ⟨#[]⟩, .slice none 0 0, .slice none 0 0] 27)).heap.size = w.heap.size + 1 + 1 := by rw [World.size_alloc, World.size_alloc]
  refine (HL.out.1 _ (((Below.refl w.heap.size w).alloc (Nat.le_refl _) _).alloc (by simp) _)).mono ?_
  rintro e w1 ⟨rfl, b1⟩
  have hr1 : w1.heap[w.heap.size + 1]? = some (Obj.cells #[.int .i64 0, .bool false, .slice none 0 0, .bool false, .string ⟨#[]⟩, .slice none 0 0, .slice none 0 0] 27) := by
    refine (b1.block _ (by rw [hz2]; omega)).trans ?_
    have := World.alloc_heap_new (w.alloc (Obj.cells #[.int .i64 t.k, .bool t.g, .slice t.la t.ln t.lc, .bool t.bb, .string t.s, .slice t.ia t.items.length t.ic, .slice t.ta t.tail.length t.tc] 27)) (Obj.cells #[.int .i64 0, .bool false, .slice none 0 0, .bool false, .string ⟨#[]⟩, .slice none 0 0, .slice none 0 0] 27)
    rwa [World.size_alloc] at this
  have hr0 : w1.heap[w.heap.size]? = some (Obj.cells #[.int .i64 t.k, .bool t.g, .slice t.la t.ln t.lc, .bool t.bb, .string t.s, .slice t.ia t.items.length t.ic, .slice t.ta t.tail.length t.tc] 27) := (b1.block _ (by rw [hz2]; omega)).trans ((Below.heap_alloc _ _ _ (by simp)).trans (World.alloc_heap_new w _))
  have hb1 : Below w.heap.size w w1 := (((Below.refl w.heap.size w).alloc (Nat.le_refl _) _).alloc (by simp) _).trans (b1.mono (by rw [hz2]; omega))
  have s1 : w.heap.size + 1 + 1 ≤ w1.heap.size := by have := b1.size; rw [hz2] at this; exact this
  clear b1 hz2
  obtain ⟨d0, d1, d2, d3, d4, d5, d6⟩ := cells7 hr0
  have HR1 := Lib.hid (And.intro hr1 hb1)
  clear hr1 hr0 hb1
  go_wp2_with fail
  refine (HL.out.2 w1 HR1.out.2).mono ?_
  rintro e w2 ⟨x', rfl, hP, hsh, b2⟩
  have s2 := b2.size
  have hr := (b2.block (w.heap.size + 1) (by omega)).trans HR1.out.1
  have HY := Lib.hid (And.intro hP (And.intro hsh (HR1.out.2.trans (b2.mono (by omega)))))
  clear b2 d0 d1 d2 d3 d4 d5 d6 hP hsh
  obtain ⟨r0, r1, r2, r3, r4, r5, r6⟩ := cells7 hr
  obtain ⟨f0, f1, f2, f3, f4, f5, f6⟩ := frozen7 hr
  clear hr
  go_wp2_with fail
  (try simp only [Exit.inBlock, Exit.then])
  refine bodyPost_ret (v := .agg #[.int .i64 x'.k, .bool x'.g, .slice x'.la x'.ln x'.lc, .bool x'.bb, .string x'.s, .slice x'.ia x'.items.length x'.ic, .slice x'.ta x'.tail.length x'.tc]) (results_d rfl rfl (by go_simp) (by go_simp) (by go_simp) (by go_simp) (by go_simp) (by go_simp <;> rfl) (by go_simp)) rfl ⟨x', rfl, ?_, HY.out.2.1, ?_⟩
  · exact HeldP.low (U := w.heap.size + 2) (HY.out.1.keep (Nat.le_refl _) fun q hq => ⟨hq.low (by omega), rfl⟩) (set7_low (Low.refl w.heap.size (w.heap.size + 2) _) (by omega) (by omega)) (by omega)
  · exact set7_below HY.out.2.2 (by omega)

mutual
/-- One Tail at most, wherever. -/
def One1 : DT → Prop
  | .mk _ _ _ _ _ items tail => tail.length ≤ 1 ∧ One1R items ∧ One1R tail
def One1R : List DT → Prop
  | [] => True
  | t :: l => One1 t ∧ One1R l
end
theorem one1R_append (l m : List DT) : One1R (l ++ m) ↔ One1R l ∧ One1R m := by
  induction l with
  | nil => simp [One1R]
  | cons t l ih => simp [One1R, ih, and_assoc]
theorem one1_leaf (k : Int) (g : Bool) (ys : List Nat) (bb : Bool) (s : ByteArray) : One1 (leafD k g ys bb s) := by unfold leafD; repeat (first | split | simp [One1, One1R])
theorem one1_close : ∀ (x : List DT × Option DT), One1R x.1 → (∀ e, x.2 = some e → One1 e) → One1 (closeD x)
  | (l, none), h, _ => by simp only [closeD, One1]; exact ⟨by simp, h, by simp [One1R]⟩
  | ([], some e), _, h => h e rfl
  | (x :: l, some e), h, he => by simp only [closeD, One1, One1R, and_true]; exact ⟨by simp, by simpa [One1R] using h, he e rfl⟩
mutual
theorem one1_spine : ∀ t : LT, One1R (spineT t).1 ∧ ∀ e, (spineT t).2 = some e → One1 e
  | .mk k g la ln lc ys bb s ia ic items ta tc tail => by
    simp only [spineT]
    split
    · have h1 := one1_normR items
      have h2 := one1_spineR tail
      exact ⟨(one1R_append _ _).2 ⟨h1, h2.1⟩, h2.2⟩
    · refine ⟨by simp [One1R], fun e he => ?_⟩
      obtain rfl := Option.some.inj he
      exact one1_leaf ..
theorem one1_spineR : ∀ l : List LT, One1R (spineR l).1 ∧ ∀ e, (spineR l).2 = some e → One1 e
  | [] => by simp [spineR, One1R]
  | t :: l => by
    simp only [spineR]
    exact one1_spine t
theorem one1_normR : ∀ l : List LT, One1R (normR l)
  | [] => by simp [normR, One1R]
  | t :: l => by
    simp only [normR, One1R]
    have h1 := one1_spine t
    exact ⟨one1_close _ h1.1 h1.2, one1_normR l⟩
end
theorem one1_norm (t : LT) : One1 (normT t) := one1_close _ (one1_spine t).1 (one1_spine t).2
theorem one1_eq (t : LT) : One1 (shape t) ↔ t.tail.length ≤ 1 ∧ One1R (shapes t.items) ∧ One1R (shapes t.tail) := by rw [shape_eq]; simp only [One1, shapes_length]
theorem one1R_at : ∀ (l : List LT) (k : Nat) (hk : k < l.length), One1R (shapes l) → One1 (shape l[k])
  | t :: l, 0, _, h => by rw [shapes_cons] at h; simp only [One1R] at h; exact h.1
  | t :: l, k + 1, hk, h => by rw [shapes_cons] at h; simp only [One1R] at h; exact one1R_at l k (by simpa using hk) h.2
end Go.Proofs.YtgfamihldecmbaaDoor
