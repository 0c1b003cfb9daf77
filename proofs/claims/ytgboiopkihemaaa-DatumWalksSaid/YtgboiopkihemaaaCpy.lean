/-
  datum.Copy; datum.Split of any tree.
-/
import Derived.Test.YtgboiopkihemaaaSpm
import Derived.Test.YtgboiopkihemaaaSpo
import Derived.Test.YtgboiopkihemaaaExx
namespace Go.Proofs.Ytgboiopkihemaaa
open Go.RowKit

set_option maxRecDepth 100000 in
set_option maxHeartbeats 3200000 in
theorem copy_any (M : Nat) (t : LT) (h1 : t.size ≤ 100000) (h2 : t.depth ≤ 10000) (hT : Tame t) (w : World) (hM : M ≤ w.heap.size) (hH : Held w M t) :
    Calls Try.prog 19 #[.agg #[.int .i64 t.k, .bool t.g, .slice t.la t.ln t.lc, .bool t.bb, .string t.s, .slice t.ia t.items.length t.ic, .slice t.ta t.tail.length t.tc]] w (NPost (shape t) w) := by
  have hC : ∀ W, Below w.heap.size w W → Calls Try.prog 42 #[.agg #[.int .i64 t.k, .bool t.g, .slice t.la t.ln t.lc, .bool t.bb, .string t.s, .slice t.ia t.items.length t.ic, .slice t.ta t.tail.length t.tc], .agg #[.int .i64 100000, .int .i64 10000]] W (NPost (shape t) W) := fun W hb => copied_any M 100000 10000 t h1 (by decide) h2 hT W (Nat.le_trans hM hb.size) (hH.below hM hb)
  have HC := Lib.hid hC
  clear hC hH hT
  generalize shape t = d at *
  have hR := World.alloc_heap_new w (Obj.cells #[.int .i64 t.k, .bool t.g, .slice t.la t.ln t.lc, .bool t.bb, .string t.s, .slice t.ia t.items.length t.ic, .slice t.ta t.tail.length t.tc] 27)
  have hb : Below w.heap.size w (w.alloc (Obj.cells #[.int .i64 t.k, .bool t.g, .slice t.la t.ln t.lc, .bool t.bb, .string t.s, .slice t.ia t.items.length t.ic, .slice t.ta t.tail.length t.tc] 27)) := (Below.refl _ _).alloc (Nat.le_refl _) _
  have hR1 : (w.alloc (Obj.cells #[.int .i64 t.k, .bool t.g, .slice t.la t.ln t.lc, .bool t.bb, .string t.s, .slice t.ia t.items.length t.ic, .slice t.ta t.tail.length t.tc] 27)).heap.size = w.heap.size + 1 := World.size_alloc ..
  have hz := World.size_alloc (w.alloc (Obj.cells #[.int .i64 t.k, .bool t.g, .slice t.la t.ln t.lc, .bool t.bb, .string t.s, .slice t.ia t.items.length t.ic, .slice t.ta t.tail.length t.tc] 27)) (Obj.cells #[.int .i64 0, .bool false, .slice none 0 0, .bool false, .string ⟨#[]⟩, .slice none 0 0, .slice none 0 0] 27)
  have hb2 : Below w.heap.size w ((w.alloc (Obj.cells #[.int .i64 t.k, .bool t.g, .slice t.la t.ln t.lc, .bool t.bb, .string t.s, .slice t.ia t.items.length t.ic, .slice t.ta t.tail.length t.tc] 27)).alloc (Obj.cells #[.int .i64 0, .bool false, .slice none 0 0, .bool false, .string ⟨#[]⟩, .slice none 0 0, .slice none 0 0] 27)) := hb.alloc (by omega) _
  have hRZ := World.alloc_heap_new (w.alloc (Obj.cells #[.int .i64 t.k, .bool t.g, .slice t.la t.ln t.lc, .bool t.bb, .string t.s, .slice t.ia t.items.length t.ic, .slice t.ta t.tail.length t.tc] 27)) (Obj.cells #[.int .i64 0, .bool false, .slice none 0 0, .bool false, .string ⟨#[]⟩, .slice none 0 0, .slice none 0 0] 27)
  have hRT := (Below.heap_alloc (w.alloc (Obj.cells #[.int .i64 t.k, .bool t.g, .slice t.la t.ln t.lc, .bool t.bb, .string t.s, .slice t.ia t.items.length t.ic, .slice t.ta t.tail.length t.tc] 27)) (Obj.cells #[.int .i64 0, .bool false, .slice none 0 0, .bool false, .string ⟨#[]⟩, .slice none 0 0, .slice none 0 0] 27) w.heap.size (by omega)).trans hR
  rw [hR1] at hRZ hz
  have HA := Lib.hid (And.intro hRT (And.intro hRZ (And.intro hz hb2)))
  clear hR hb hR1 hz hb2 hRZ hRT
  go_enter Try.func19, Try.ntmps19
  go_wp2_with fail
  obtain ⟨W2, hW2⟩ : ∃ W2, (w.alloc (Obj.cells #[.int .i64 t.k, .bool t.g, .slice t.la t.ln t.lc, .bool t.bb, .string t.s, .slice t.ia t.items.length t.ic, .slice t.ta t.tail.length t.tc] 27)).alloc (Obj.cells #[.int .i64 0, .bool false, .slice none 0 0, .bool false, .string ⟨#[]⟩, .slice none 0 0, .slice none 0 0] 27) = W2 := ⟨_, rfl⟩
  rw [hW2] at HA ⊢
  clear hW2
  refine wp_region_phases (nA := 3) (by kernel_rfl) (by kernel_rfl) (fun i => 3 + i)
    (fun i W v => match i with
      | 0 => v = .agg #[.int .i64 t.k, .bool t.g, .slice t.la t.ln t.lc, .bool t.bb, .string t.s, .slice t.ia t.items.length t.ic, .slice t.ta t.tail.length t.tc]
      | 1 => v = .agg #[.int .i64 100000, .int .i64 10000]
      | _ => ∃ u : LT, v = .agg #[.int .i64 u.k, .bool u.g, .slice u.la u.ln u.lc, .bool u.bb, .string u.s, .slice u.ia u.items.length u.ic, .slice u.ta u.tail.length u.tc] ∧ HeldP W (Fresh W W2.heap.size) u ∧ shape u = d) (by decide) (by kernel_rfl)
    (fun i j hi hj h => by omega) (fun i hi => by simp only [List.size_toArray, List.length_cons, List.length_nil]; omega) ?_ ?_ ?_
  · intro i hi W W' v h hb
    rcases (show i = 0 ∨ i = 1 ∨ i = 2 by omega) with rfl | rfl | rfl
    · exact h
    · exact h
    · obtain ⟨u, e, h1, h2⟩ := h; exact ⟨u, e, h1.below hb (Nat.le_refl _), h2⟩
  · intro i hi l A W I hdep
    rcases (show i = 0 ∨ i = 1 ∨ i = 2 by omega) with rfl | rfl | rfl
    · have hc : Seven W w.heap.size 0 t := Seven.of ((I.below.block _ (Array.getElem?_eq_some_iff.1 HA.out.1).1).trans HA.out.1)
      exact wpOp_valW rfl (rfl) (exec_loadD rfl ((I.other 1 (by intro j hj; omega)).trans rfl) hc) ⟨_, rfl, rfl, Below.refl _ _⟩
    · refine wpOp_callW rfl (rfl) (exec_call0 rfl) (by simp [go_sem]) (looked_any W) ?_
      rintro e W' ⟨rfl, b⟩
      exact ⟨_, rfl, _, rfl, rfl, b⟩
    · have v0 : A.tmps.getD 3 undef = _ := I.val 0 (by decide) (hdep 0 (by kernel_rfl))
      have v1 : A.tmps.getD 4 undef = _ := I.val 1 (by decide) (hdep 1 (by kernel_rfl))
      refine wpOp_callW rfl (rfl) ((exec_call2 rfl).trans (by rw [v0, v1])) (by simp [go_sem]) (HC.out W (HA.out.2.2.2.trans (I.below.mono HA.out.2.2.2.size))) ?_
      rintro e W' ⟨u', rfl, h1, h2, h3⟩
      exact ⟨_, rfl, _, rfl, ⟨u', rfl, h1.keep (Nat.le_refl _) (fun k hk => ⟨hk.low I.below.size, rfl⟩), h2⟩, h3⟩
  intro A w9 hdf hsz hoth hval hb9
  have v0 : A.tmps.getD 3 undef = _ := hval 0 (by decide)
  have v1 : A.tmps.getD 4 undef = _ := hval 1 (by decide)
  obtain ⟨u, v2, hu, hus⟩ : ∃ u : LT, A.tmps.getD 5 undef = .agg #[.int .i64 u.k, .bool u.g, .slice u.la u.ln u.lc, .bool u.bb, .string u.s, .slice u.ia u.items.length u.ic, .slice u.ta u.tail.length u.tc] ∧ HeldP w9 (Fresh w9 W2.heap.size) u ∧ shape u = d := hval 2 (by decide)
  have hA := tower_pairs (a := A) [(3, .agg #[.int .i64 t.k, .bool t.g, .slice t.la t.ln t.lc, .bool t.bb, .string t.s, .slice t.ia t.items.length t.ic, .slice t.ta t.tail.length t.tc]), (4, .agg #[.int .i64 100000, .int .i64 10000]), (5, .agg #[.int .i64 u.k, .bool u.g, .slice u.la u.ln u.lc, .bool u.bb, .string u.s, .slice u.ia u.items.length u.ic, .slice u.ta u.tail.length u.tc])] ?_ ?_ hdf hsz (fun m hm => hoth m (fun j hj => by
    simp only [List.forall_mem_cons] at hm
    obtain ⟨k0, k1, k2, -⟩ := hm
    rcases (show j = 0 ∨ j = 1 ∨ j = 2 by omega) with rfl | rfl | rfl
    · exact k0
    · exact k1
    · exact k2))
  rotate_left
  · intro p hp
    simp only [List.mem_cons, List.not_mem_nil, or_false] at hp
    rcases hp with rfl | rfl | rfl <;> simp
  · intro p hp
    simp only [List.mem_cons, List.not_mem_nil, or_false] at hp
    rcases hp with rfl | rfl | rfl
    · exact v0
    · exact v1
    · exact v2
  clear v0 v1 v2 hval hoth hsz hdf
  subst hA
  simp only [List.foldl, Act.put, List.setIfInBounds_toArray, List.set_cons_zero, List.set_cons_succ]
  show wpOps _ _ _ [3] _ _
  have hz9 := hb9.size
  have z2 := HA.out.2.2.1
  rw [wpOps_cons]
  refine wpOp_storeD rfl rfl rfl rfl rfl rfl (x := plainT 0 false none 0 0 [] false ⟨#[]⟩) ((hb9.block (w.heap.size + 1) (by omega)).trans HA.out.2.1) ?_
  intro w10 r1 o10 s10 b10
  simp only [wpOps]
  have hu10 : HeldP w10 (Fresh w10 w.heap.size) u := hu.keep (by omega) fun k hk => by
    have e : w10.heap[k]? = w9.heap[k]? := o10 k (by have := hk.1; omega)
    exact ⟨(hk.same e).low (by omega), e⟩
  have hb10 : Below w.heap.size w w10 := (HA.out.2.2.2.trans (hb9.mono HA.out.2.2.2.size)).trans (b10 _ (by omega))
  have HF := Lib.hid (And.intro hu10 hb10)
  have chs := fun j => Lib.cell_of_heap r1 j
  have c0 := chs 0; have c1 := chs 1; have c2 := chs 2; have c3 := chs 3; have c4 := chs 4; have c5 := chs 5; have c6 := chs 6
  simp only [List.getElem?_toArray, List.getElem?_cons_zero, List.getElem?_cons_succ] at c0 c1 c2 c3 c4 c5 c6
  clear chs
  clear hu hu10 hb10 b10 o10 s10 hb9 r1
  go_wp2_with fail
  (try simp only [Exit.inBlock, Exit.then])
  exact bodyPost_ret (v := .agg #[.int .i64 u.k, .bool u.g, .slice u.la u.ln u.lc, .bool u.bb, .string u.s, .slice u.ia u.items.length u.ic, .slice u.ta u.tail.length u.tc]) (results_d rfl rfl c0 c1 c2 c3 c4 c5 c6) rfl ⟨u, rfl, HF.out.1, hus, HF.out.2⟩

set_option maxRecDepth 100000 in
set_option maxHeartbeats 3200000 in
theorem split_none (t : LT) (h : t.k ≠ 5 ∨ t.items.length = 0) (w : World) :
    Calls Try.prog 14 #[.agg #[.int .i64 t.k, .bool t.g, .slice t.la t.ln t.lc, .bool t.bb, .string t.s, .slice t.ia t.items.length t.ic, .slice t.ta t.tail.length t.tc]] w fun e w' => e = .returned (.tuple #[.agg #[.int .i64 0, .bool false, .slice none 0 0, .bool false, .string ⟨#[]⟩, .slice none 0 0, .slice none 0 0], .agg #[.int .i64 0, .bool false, .slice none 0 0, .bool false, .string ⟨#[]⟩, .slice none 0 0, .slice none 0 0], .bool false]) ∧ Below w.heap.size w w' := by
  obtain ⟨w3, hw3, a0, a1, a2, hsz, hbel, _⟩ := three3 w (Obj.cells #[.int .i64 t.k, .bool t.g, .slice t.la t.ln t.lc, .bool t.bb, .string t.s, .slice t.ia t.items.length t.ic, .slice t.ta t.tail.length t.tc] 27) (Obj.cells #[.int .i64 0, .bool false, .slice none 0 0, .bool false, .string ⟨#[]⟩, .slice none 0 0, .slice none 0 0] 27) (Obj.cells #[.int .i64 0, .bool false, .slice none 0 0, .bool false, .string ⟨#[]⟩, .slice none 0 0, .slice none 0 0] 27)
  have HA := Lib.hid (And.intro a0 (And.intro a1 (And.intro a2 (And.intro hsz hbel))))
  have HW := Lib.hid hw3
  clear a0 a1 a2 hsz hbel hw3
  by_cases hk : t.k = 5
  · have hi : t.items.length = 0 := by rcases h with h | h; exact absurd hk h; exact h
    rw [hk, hi]
    rw [hk, hi] at HW HA
    go_enter Try.func14, Try.ntmps14
    go_wp2_with fail
    (try simp only [Exit.inBlock, Exit.then])
    exact bodyPost_ret (v := .tuple #[.agg #[.int .i64 0, .bool false, .slice none 0 0, .bool false, .string ⟨#[]⟩, .slice none 0 0, .slice none 0 0], .agg #[.int .i64 0, .bool false, .slice none 0 0, .bool false, .string ⟨#[]⟩, .slice none 0 0, .slice none 0 0], .bool false]) (results_ddb rfl rfl rfl rfl (by go_simp) (by go_simp) (by go_simp) (by go_simp) (by go_simp) (by go_simp) (by go_simp) (by go_simp) (by go_simp) (by go_simp) (by go_simp) (by go_simp) (by go_simp) (by go_simp)) rfl ⟨rfl, by rw [← HW.out]; exact HA.out.2.2.2.2⟩
  · have q1 : (t.k != 5) = true := by rw [bne, beq_eq_false_iff_ne.2 hk]; rfl
    go_enter Try.func14, Try.ntmps14
    go_wp2_with fail
    (try simp only [Exit.inBlock, Exit.then])
    exact bodyPost_ret (v := .tuple #[.agg #[.int .i64 0, .bool false, .slice none 0 0, .bool false, .string ⟨#[]⟩, .slice none 0 0, .slice none 0 0], .agg #[.int .i64 0, .bool false, .slice none 0 0, .bool false, .string ⟨#[]⟩, .slice none 0 0, .slice none 0 0], .bool false]) (results_ddb rfl rfl rfl rfl (by go_simp) (by go_simp) (by go_simp) (by go_simp) (by go_simp) (by go_simp) (by go_simp) (by go_simp) (by go_simp) (by go_simp) (by go_simp) (by go_simp) (by go_simp) (by go_simp)) rfl ⟨rfl, by rw [← HW.out]; exact HA.out.2.2.2.2⟩
end Go.Proofs.Ytgboiopkihemaaa
