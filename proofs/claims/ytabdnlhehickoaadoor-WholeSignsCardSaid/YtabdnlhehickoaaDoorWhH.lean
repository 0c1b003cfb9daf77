/-
  whole.divisions: its contract.
-/
import Derived.Test.YtabdnlhehickoaaDoorWhG
import Derived.Test.YtabdnlhehickoaaDoorDivAll
import Derived.Laws.EntriesVeiled
namespace Go.Proofs.YtabdnlhehickoaaDoor
open Go.RowKit
theorem New.lowSet {w : World} {g base : Nat} {v : Value} {xs : List Nat} (h : New w base v xs) (hg : g < base) (i : Nat) (u : Value) : New (w.setCell ⟨g, i, none⟩ u) base v xs := by
  obtain ⟨A, n, c, rfl, hs, hor⟩ := h
  have hbl : ∀ k, k ≠ g → (w.setCell ⟨g, i, none⟩ u).heap[k]? = w.heap[k]? := fun k hk => Below.heap_setCell w _ u k hk
  rcases hor with ⟨rfl, rfl⟩ | ⟨b, cur, rfl, hb, hc, hsz⟩
  · have h0 : n = 0 := Nat.le_zero.1 hs.le
    have hx0 := hs.len
    subst h0
    obtain rfl : xs = [] := List.length_eq_zero_iff.1 hx0.symm
    exact ⟨none, 0, 0, rfl, Sl.nil, .inl ⟨rfl, rfl⟩⟩
  · have hne : b ≠ g := by omega
    refine ⟨_, n, c, rfl, ⟨hs.len, hs.le, hs.max, hs.ok, fun hn => ?_, hs.nil_⟩, .inr ⟨b, cur, rfl, hb, (hbl b hne).trans hc, hsz⟩⟩
    obtain ⟨b', o', he, hlt, hcell⟩ := hs.here hn
    cases he
    exact ⟨b, 0, rfl, by rw [(Only.setCell g i w u).size]; exact hlt, fun j hj => by rw [World.cell?_of_block (w := w) (hbl b hne)]; exact hcell j hj⟩
theorem At.set {w : World} {g : Nat} {v : Value} (h : At w g v) (u : Value) : At (w.setCell ⟨g, 0, none⟩ u) g u := by
  refine ⟨?_, Nat.lt_of_lt_of_le h.2 ((Below.refl 0 w).setCell (Nat.zero_le _) u).size⟩
  have := h.1
  simp [World.cell?_setCell_same, this]
theorem At.alloc {w : World} {g : Nat} {v : Value} (h : At w g v) (o : Obj) : At (w.alloc o) g v := h.next ((Below.refl _ _).alloc (Nat.le_refl _) o)
theorem At.mk_ (w : World) (v : Value) (T : TypeId) : At (w.alloc (.cells #[v] T)) w.heap.size v := ⟨by simp, by simp⟩
theorem At.mk1 (w : World) (o : Obj) (v : Value) (T : TypeId) : At ((w.alloc o).alloc (.cells #[v] T)) (w.heap.size + 1) v := by
  have := At.mk_ (w.alloc o) v T
  rw [show (w.alloc o).heap.size = w.heap.size + 1 by simp] at this
  exact this
theorem At.mk2 (w : World) (o o' : Obj) (v : Value) (T : TypeId) : At (((w.alloc o).alloc o').alloc (.cells #[v] T)) (w.heap.size + 1 + 1) v := by
  have := At.mk_ ((w.alloc o).alloc o') v T
  rw [show ((w.alloc o).alloc o').heap.size = w.heap.size + 1 + 1 by simp] at this
  exact this
theorem results_ft {fn : Func} {tmps : Array Value} {t t2 : Tmp} {w : World} {b : Nat} {s : Value} (h : fn.results = #[.cell t 74, .tmp t2]) (ht : tmps.getD t undef = .pointer (some ⟨b, 0, none⟩)) (c0 : w.cell? ⟨b, 0, none⟩ = some s) :
    (results fn tmps).run Tryd.prog w = .ok (.tuple #[s, tmps.getD t2 undef]) w := by
  rw [Array.getD_eq_getD_getElem?] at ht
  simp [results, h, ht, go_sem, c0]
set_option maxHeartbeats 3200000 in
theorem divisions_any {w : World} {s t : Bool} {x y : Value} {m n K L : Nat} (hx : Num w x m K) (hy : Num w y n L) (hK : K ≤ 1000000) :
    Calls Tryd.prog 77 #[.agg #[.bool s, x], .agg #[.bool t, y]] w fun e w' => ∃ gu gq ga gl gt gb X Y,
      e = .returned (.tuple #[.func (.func 95) #[] #[.pointer (some ⟨gu, 0, none⟩), .pointer (some ⟨gq, 0, none⟩), .pointer (some ⟨ga, 0, none⟩), .pointer (some ⟨gl, 0, none⟩)], .func (.func 96) #[] #[.pointer (some ⟨gu, 0, none⟩), .pointer (some ⟨gl, 0, none⟩), .pointer (some ⟨gt, 0, none⟩), .pointer (some ⟨gq, 0, none⟩), .pointer (some ⟨gb, 0, none⟩)]]) ∧
      Cells w' w'.heap.size [(⟨gu, 0, none⟩, .bool (s != t)), (⟨gq, 0, none⟩, X), (⟨ga, 0, none⟩, .bool s), (⟨gl, 0, none⟩, Y), (⟨gb, 0, none⟩, .bool t), (⟨gb, 1, none⟩, y), (⟨gt, 0, none⟩, .func (.func 95) #[] #[.pointer (some ⟨gu, 0, none⟩), .pointer (some ⟨gq, 0, none⟩), .pointer (some ⟨ga, 0, none⟩), .pointer (some ⟨gl, 0, none⟩)])] ∧
      New w' w.heap.size X (limbs (m / n)) ∧ New w' w.heap.size Y (limbs (remZ m n)) ∧ Below w.heap.size w w' := by
  have hmf : ∀ (fn : Fn) (first cap : Array Value) (w : World), (Instr.makeFunc fn first cap).run Tryd.prog w = .ok (.func fn first cap) w := fun _ _ _ _ => rfl
  obtain ⟨W, hW, hp, hq, hb⟩ := enter2 w (.bool s) x (.bool t) y
  replace hx := (hx.below hb).alloc (.cells #[.nilFunc] 74)
  replace hy := (hy.below hb).alloc (.cells #[.nilFunc] 74)
  have HD := Lib.hid (div_num hx hy (by omega))
  have hp2 := hp.alloc (.cells #[.nilFunc] 74)
  have hq2 := hq.alloc (.cells #[.nilFunc] 74)
  clear hp hq
  have hb2 := bnew hb (.cells #[.nilFunc] 74)
  have hg : At (W.alloc (.cells #[.nilFunc] 74)) W.heap.size .nilFunc := ⟨by simp, by simp⟩
  have hgf : (W.alloc (.cells #[.nilFunc] 74)).frozen? ⟨W.heap.size, 0, none⟩ = false := by simp
  have hsz : W.heap.size = w.heap.size + 1 + 1 := by rw [hW]; simp
  have hlt : W.heap.size < (W.alloc (.cells #[.nilFunc] 74)).heap.size := by simp
  rw [hsz] at hg hgf hlt
  rw [hW] at HD hp2 hq2 hb2 hg hgf hlt
  clear hW hb hsz
  generalize hV : ((w.alloc (.cells #[.bool s, x] 36)).alloc (.cells #[.bool t, y] 36)).alloc (.cells #[.nilFunc] 74) = V at HD hp2 hq2 hb2 hg hgf hlt
  have a1 := hp2.c0
  have a2 := hp2.c1
  have a3 := hq2.c0
  have a4 := hq2.c1
  go_enter Tryd.func77, Tryd.ntmps77
  go_wp2_with fail
  refine HD.out.mono ?_
  rintro e w1 ⟨X, Y, rfl, hX, hY, hb1⟩
  replace hgf := (hb1.frozen (p := ⟨w.heap.size + 1 + 1, 0, none⟩) hlt).trans hgf
  replace hg := hg.next hb1
  have hp3 := hp2.next hb1
  have hq3 := hq2.next hb1
  have HV : Hid (w.heap.size + 1 + 1 < V.heap.size) := hlt
  clear hV HD hp2 hq2 hlt a1 a2 a3 a4
  have e1 := hp3.c0
  have e2 := hp3.c1
  have e3 := hq3.c0
  have e4 := hq3.c1
  have e5 := hg.1
  have HX := Lib.hid (And.intro hX hY)
  obtain ⟨XA, XN, XC, hXe, hXX⟩ := hX
  obtain ⟨YA, YN, YC, hYe, hYY⟩ := hY
  subst hXe hYe
  clear hXX hYY
  have A2 : ∀ o1 o2 : Obj, Below w1.heap.size w1 ((w1.alloc o1).alloc o2) := fun o1 o2 => bnew (bnew (Below.refl _ _) _) _
  have A3 : ∀ o1 o2 o3 : Obj, Below w1.heap.size w1 (((w1.alloc o1).alloc o2).alloc o3) := fun o1 o2 o3 => bnew (bnew (bnew (Below.refl _ _) _) _) _
  have f1 := (hp3.next (A2 (.cells #[.slice XA XN XC] 22) (.cells #[.slice YA YN YC] 22))).c0
  have f2 := (hq3.next (A2 (.cells #[.slice XA XN XC] 22) (.cells #[.slice YA YN YC] 22))).c0
  have f3 := (hg.next (A3 (.cells #[.slice XA XN XC] 22) (.cells #[.slice YA YN YC] 22) (.cells #[.bool (!(s == t))] 4))).1
  have f4 := ((A3 (.cells #[.slice XA XN XC] 22) (.cells #[.slice YA YN YC] 22) (.cells #[.bool (!(s == t))] 4)).frozen (p := ⟨w.heap.size + 1 + 1, 0, none⟩) hg.2).trans hgf
  have HA := Lib.hid (And.intro A2 A3)
  clear A2 A3
  go_wp2_with fail
  obtain ⟨A2, A3⟩ := HA.out
  have b3 := A3 (.cells #[.slice XA XN XC] 22) (.cells #[.slice YA YN YC] 22) (.cells #[.bool (!(s == t))] 4)
  have hlt1 : w.heap.size + 1 + 1 < w1.heap.size := hg.2
  have g3 := hg.next b3
  have gU : At (((w1.alloc (.cells #[.slice XA XN XC] 22)).alloc (.cells #[.slice YA YN YC] 22)).alloc (.cells #[.bool (!(s == t))] 4)) (w1.heap.size + 1 + 1) (.bool (!(s == t))) := At.mk2 _ _ _ _ _
  have gL : At (((w1.alloc (.cells #[.slice XA XN XC] 22)).alloc (.cells #[.slice YA YN YC] 22)).alloc (.cells #[.bool (!(s == t))] 4)) (w1.heap.size + 1) (.slice YA YN YC) := (At.mk1 _ _ _ _).alloc _
  have gQ : At (((w1.alloc (.cells #[.slice XA XN XC] 22)).alloc (.cells #[.slice YA YN YC] 22)).alloc (.cells #[.bool (!(s == t))] 4)) (w1.heap.size) (.slice XA XN XC) := ((At.mk_ _ _ _).alloc _).alloc _
  have gA := hp3.next b3
  have gB := hq3.next b3
  have nX := (HX.out.1.next b3).lowSet HV.out
  have nY := (HX.out.2.next b3).lowSet HV.out
  have hbb := bnext (bnext hb2 hb1) b3
  clear e1 e2 e3 e4 e5 f1 f2 f3 f4 hgf HA A2 A3 b3 hmf hp3 hq3 hg
  generalize (((w1.alloc (.cells #[.slice XA XN XC] 22)).alloc (.cells #[.slice YA YN YC] 22)).alloc (.cells #[.bool (!(s == t))] 4)) = Z at *
  generalize hf : (Value.func (Fn.func 95) #[] #[.pointer (some ⟨w1.heap.size + 1 + 1, 0, none⟩), .pointer (some ⟨w1.heap.size, 0, none⟩), .pointer (some ⟨w.heap.size, 0, none⟩), .pointer (some ⟨w1.heap.size + 1, 0, none⟩)]) = f at *
  have k1 := (g3.set f).set f
  refine bodyPost_ret (results_ft rfl rfl k1.1) rfl ?_
  refine ⟨w1.heap.size + 1 + 1, w1.heap.size, w.heap.size, w1.heap.size + 1, w.heap.size + 1 + 1, w.heap.size + 1, .slice XA XN XC, .slice YA YN YC, ?_, ?_, ?_, ?_, ?_⟩
  · rw [hf]; rfl
  · have j1 := (gU.far (p := ⟨w.heap.size + 1 + 1, 0, none⟩) (by dsimp only; omega) f).far (p := ⟨w.heap.size + 1 + 1, 0, none⟩) (by dsimp only; omega) f
    have j2 := (gQ.far (p := ⟨w.heap.size + 1 + 1, 0, none⟩) (by dsimp only; omega) f).far (p := ⟨w.heap.size + 1 + 1, 0, none⟩) (by dsimp only; omega) f
    have j4 := (gL.far (p := ⟨w.heap.size + 1 + 1, 0, none⟩) (by dsimp only; omega) f).far (p := ⟨w.heap.size + 1 + 1, 0, none⟩) (by dsimp only; omega) f
    have j3 := (gA.far (p := ⟨w.heap.size + 1 + 1, 0, none⟩) (by dsimp only; omega) f).far (p := ⟨w.heap.size + 1 + 1, 0, none⟩) (by dsimp only; omega) f
    have j5 := (gB.far (p := ⟨w.heap.size + 1 + 1, 0, none⟩) (by dsimp only; omega) f).far (p := ⟨w.heap.size + 1 + 1, 0, none⟩) (by dsimp only; omega) f
    rw [hf]
    intro p hp
    simp only [List.mem_cons, List.not_mem_nil, or_false] at hp
    rcases hp with rfl | rfl | rfl | rfl | rfl | rfl | rfl
    · exact j1
    · exact j2
    · exact ⟨j3.c0, j3.lt⟩
    · exact j4
    · exact ⟨j5.c0, j5.lt⟩
    · exact ⟨j5.c1, j5.lt⟩
    · exact k1
  · exact ((nX 0 f).lowSet HV.out 0 f).from_ hb2.size
  · exact ((nY 0 f).lowSet HV.out 0 f).from_ hb2.size
  · exact (hbb.setCell (p := ⟨w.heap.size + 1 + 1, 0, none⟩) (by dsimp only; omega) f).setCell (p := ⟨w.heap.size + 1 + 1, 0, none⟩) (by dsimp only; omega) f
end Go.Proofs.YtabdnlhehickoaaDoor
