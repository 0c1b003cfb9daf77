/-
  The law ReaderSkips, walked.
-/
import Derived.Test.YtlohdglhebplfaaDoorRdx3
import Derived.Test.YtlohdglhebplfaaDoorSkz
namespace Go.Proofs.YtlohdglhebplfaaDoor
open Go.RowKit

/-- A slice of integers that came in: nil, or a row of 'cap' cells, the numbers zs. -/
def IsRow (k : IntKind) (w : World) (a : Option Addr) (len cap : Nat) (zs : List Int) : Prop :=
  (a = none ∧ len = 0 ∧ cap = 0 ∧ zs = []) ∨
  ∃ x, a = some x ∧ len ≤ cap ∧ cap ≤ maxLen ∧ zs.length = cap ∧ (∀ i, i < zs.length → w.cell? (x.add i) = some (.int k (zs.getD i 0))) ∧ ∀ n ∈ zs, (Lit.int k n).wf = true
theorem IsRow.cells {w : World} {a : Option Addr} {n c : Nat} {zs : List Int} (h : IsRow .u64 w a n c zs) : n ≤ zs.length ∧ n ≤ maxLen ∧ ∀ i, i < n → ∃ b o, a = some ⟨b, o, none⟩ ∧ b < w.heap.size ∧ w.cell? ⟨b, o + i, none⟩ = some (.int .u64 (zs.getD i 0)) ∧ 0 ≤ zs.getD i 0 ∧ zs.getD i 0 < 18446744073709551616 := by
  rcases h with ⟨rfl, rfl, rfl, rfl⟩ | ⟨x, rfl, hl, hm, hz, hcell, hwz⟩
  · exact ⟨Nat.le_refl _, Nat.zero_le _, fun i hi => absurd hi (Nat.not_lt_zero _)⟩
  · refine ⟨by omega, by omega, fun i hi => ?_⟩
    obtain ⟨b, off, spot⟩ := x
    have hc := hcell 0 (by omega)
    have hspot : spot = none := by simpa [Addr.add] using World.cell?_spot hc
    subst hspot
    have hlt : b < w.heap.size := by
      have := World.block_lt_of_cell? w _ hc
      simpa [Addr.add] using this
    have h1 := hcell i (by omega)
    rw [cell_add] at h1
    have hzi : zs.getD i 0 = zs[i]'(by omega) := by rw [List.getD_eq_getElem?_getD, List.getElem?_eq_getElem (by omega)]; rfl
    have hb := bounds_u64 (hwz (zs[i]'(by omega)) (List.getElem_mem _))
    exact ⟨b, off, rfl, hlt, h1, by rw [hzi]; omega, by rw [hzi]; omega⟩
section
variable {w : World}
theorem run_six (A : Array Value) (j : Nat) (i : Int) (x : ByteArray) (hi : i = (j : Int)) (hj : j < 6) (h : A[j]? = some (.string x)) (w : World) : (Instr.index 31 (.agg A) (.int .u64 i)).run Tryd.prog w = .ok (.string x) w := by
  subst hi
  simp [Instr.index, asIntOf, part, Sem.run_bind, run_underlying Tryd.underlying31, go_sem, h, hj]
theorem parts_next {zs : List Int} {j : Nat} {z : Int} {T : ByteArray} {r : Nat} (hj : j < zs.length) (hz : zs.getD j 0 = z) (h0 : 0 ≤ z) (hr : z % 6 = r) (hT : T.data.toList = partsL ((zs.map Int.toNat).take j)) (X : ByteArray) (hX : X.data.toList = partL r) : (T ++ X).data.toList = partsL ((zs.map Int.toNat).take (j + 1)) := by
  have e : (zs.map Int.toNat).take (j + 1) = (zs.map Int.toNat).take j ++ [z.toNat] := by
    rw [List.take_add_one, List.getElem?_map]
    rw [List.getD_eq_getElem?_getD, List.getElem?_eq_getElem hj] at hz
    rw [List.getElem?_eq_getElem hj]
    simp only [Option.getD_some] at hz
    simp [hz]
  rw [e, partsL_snoc, show z.toNat % 6 = r by omega, ← hX, ← hT]
  simp
/-- What a result tells: the datum, the error, what is left. -/
def resD : Res → DT
  | .ok d _ => if depthD (normD d) ≤ 200 then normD d else zeroD
  | .bad _ _ => zeroD
def resE : Res → Int
  | .ok d _ => if depthD (normD d) ≤ 200 then 0 else 12
  | .bad e _ => e
def resL : Res → By
  | .ok _ l => l
  | .bad _ l => l
theorem zero_trim : trimD zeroD = zeroD := by rw [zeroD, trimD, lv_nil]; simp [trimsD]
theorem resD_trim {l : By} {r : Res} (h : Rdd .datum l 0 r) : trimD (resD r) = resD r := by
  cases r with
  | bad e m => exact zero_trim
  | ok d m =>
    by_cases hd : depthD (normD d) ≤ 200
    · simp only [resD, if_pos hd]; exact h.raw.fine.trim
    · simp only [resD, if_neg hd]; exact zero_trim
theorem read_says (s : ByteArray) {r : Res} (hr : Rdd .datum s.data.toList 0 r) (hs : s.size ≤ 2000) (ht : Tabs w) :
    Calls Tryd.prog 8 #[.string s, .int .i64 0] w fun E w' => ∃ (u : LT) (q : Nat), E = .returned (.tuple #[.agg #[.int .i64 u.k, .bool u.g, .slice u.la u.ln u.lc, .bool u.bb, .string u.s, .slice u.ia u.items.length u.ic, .slice u.ta u.tail.length u.tc], .int .i64 q, .int .i64 (resE r)]) ∧ Held w' w'.heap.size u ∧ Tame u ∧ u.size ≤ 5000 ∧ shape u = resD r ∧ (resE r = 12 ∨ q + (resL r).length = s.size) ∧ q ≤ s.size ∧ Below w.heap.size w w' := by
  have hlen : s.data.toList.length = s.size := by simp
  have hz : ∀ d l, r = .ok d l → sizeD d ≤ 4000 := fun d l e => by
    rw [e] at hr
    have := hr.dsize
    omega
  refine (read_const s r hr (by omega) (fun d l e => by have := hz d l e; omega) ht).mono ?_
  rintro E w' ⟨hb, h⟩
  have hzero : Held w' w'.heap.size (leafT 0 false ⟨#[]⟩) := (leafT_held w' (fun i => i < w'.heap.size) 0 false ⟨#[]⟩ (by decide)).held fun i hi => hi
  cases r with
  | ok d l =>
    obtain ⟨q, _, hq, hl, ⟨hd, u, rfl, hu, hsh, htm⟩ | ⟨hd, rfl⟩⟩ := h
    · refine ⟨u, q, ?_, hu.held fun i hi => hi.lt, htm, ?_, ?_, .inr ?_, hq, hb⟩
      · simp only [resE, if_pos hd]
      · rw [← sizeD_shape, hsh]
        have := (norm_small d).1.1
        have := hz d l rfl
        omega
      · rw [hsh]; simp only [resD, if_pos hd]
      · rw [resL, hl, rsB_len]; omega
    · refine ⟨leafT 0 false ⟨#[]⟩, 0, ?_, hzero, leafT_tame .., by rw [leafT_size]; omega, ?_, .inl ?_, Nat.zero_le _, hb⟩
      · simp only [resE, if_neg hd]; rfl
      · rw [leafT_shape]; simp only [resD, if_neg hd]; rfl
      · simp only [resE, if_neg hd]
  | bad e l =>
    obtain ⟨q, hq, hl, rfl⟩ := h
    refine ⟨leafT 0 false ⟨#[]⟩, q, rfl, hzero, leafT_tame .., by rw [leafT_size]; omega, ?_, .inr ?_, hq, hb⟩
    · rw [leafT_shape]; rfl
    · rw [resL, hl, rsB_len]; omega
/-- What Skip answers, and what it answers there. -/
theorem skip_says (s : ByteArray) (hs : s.size ≤ 2000) (ht : Tabs w) : Calls Tryd.prog 10 #[.string s, .int .i64 0] w fun E w' => ∃ (q : Nat) (e : Int), E = .returned (.tuple #[.int .i64 q, .int .i64 e]) ∧ (e ≠ 0 ∨ e = 0 ∧ q ≤ s.size ∧ Rdd .skip s.data.toList 0 (.ok zeroD (rsB s q))) ∧ Below w.heap.size w w' := by
  refine (skip_any (p := 0) (by omega) (Nat.zero_le _) ht).mono ?_
  rintro E w' ⟨r, hr, hb, h⟩
  cases r with
  | ok z l =>
    obtain ⟨q, hq, rfl, rfl⟩ := h
    obtain ⟨rfl, _⟩ := hr.again (j := 0)
    exact ⟨q, 0, rfl, .inr ⟨rfl, hq, hr⟩, hb⟩
  | bad e l =>
    obtain ⟨q, hq, rfl, rfl⟩ := h
    exact ⟨q, e, rfl, .inl (skip_nz hr), hb⟩
theorem skip_twice (s : ByteArray) (q : Nat) (hs : s.size ≤ 2000) (hq : q ≤ s.size) (h : Rdd .skip s.data.toList 0 (.ok zeroD (rsB s q))) (ht : Tabs w) : Calls Tryd.prog 10 #[.string s, .int .i64 q] w fun E w' => E = .returned (.tuple #[.int .i64 q, .int .i64 0]) ∧ Below w.heap.size w w' := by
  refine (skip_any (p := q) (by omega) hq ht).mono ?_
  rintro E w' ⟨r, hr, hb, g⟩
  have e := (h.again (j := 0)).2.one hr
  subst e
  obtain ⟨q2, hq2, hl, rfl⟩ := g
  have e2 := congrArg List.length hl
  rw [rsB_len, rsB_len] at e2
  rw [show q2 = q by omega]
  exact ⟨rfl, hb⟩
set_option maxRecDepth 100000 in
set_option maxHeartbeats 12800000 in
theorem skips_core (s : ByteArray) (A : Option Addr) (n c : Nat) (zs : List Int) (ht : Tabs w) (hs : s.size ≤ 600) (hn : n ≤ 30) (hnz : n ≤ zs.length)
    (hc : ∀ i, i < n → ∃ b o, A = some ⟨b, o, none⟩ ∧ b < w.heap.size ∧ w.cell? ⟨b, o + i, none⟩ = some (.int .u64 (zs.getD i 0)) ∧ 0 ≤ zs.getD i 0 ∧ zs.getD i 0 < 18446744073709551616) :
    Calls Tryd.prog 4 #[.string s, .slice A n c] w fun E w' => E = .returned (.bool true) ∧ Below w.heap.size w w' := by
  have H := Lib.hid ht
  have HC := Lib.hid hc
  clear ht hc
  have q1 : decide (600 < (s.size : Int)) = false := decide_eq_false (by omega)
  have q2 : decide (30 < (n : Int)) = false := decide_eq_false (by omega)
  go_enter Tryd.func4, Tryd.ntmps4
  go_wp2_with fail
  go_loop [5, 29] (fun t i => ∃ (j : Nat) (T : ByteArray), j ≤ n ∧ i = .int .i64 j ∧ t = .string T ∧ T.size ≤ 15 * j ∧ Hid (T.data.toList = partsL ((zs.map Int.toNat).take j))) (fun _ i => n - (intOf i).toNat)
  case atStart => exact ⟨0, ⟨#[]⟩, by omega, rfl, rfl, Nat.zero_le _, rfl⟩
  case round =>
    obtain ⟨j, T, hj, rfl, rfl, hTs, HTd⟩ := hrel
    have hTb : T.size ≤ 450 := by omega
    by_cases hjn : j < n
    · obtain ⟨b, o, rfl, hb, hc1, hc2, hc3⟩ := HC.out j hjn
      obtain ⟨z, hz⟩ : ∃ z, zs.getD j 0 = z := ⟨_, rfl⟩
      rw [hz] at hc1 hc2 hc3
      have h6 : z % 6 = 0 ∨ z % 6 = 1 ∨ z % 6 = 2 ∨ z % 6 = 3 ∨ z % 6 = 4 ∨ z % 6 = 5 := by omega
      rcases h6 with h6 | h6 | h6 | h6 | h6 | h6
      · have hrun : ∀ w', (Instr.index 31 (.agg #[.string ⟨#[32]⟩, .string ⟨#[10]⟩, .string ⟨#[59, 32, 120, 32, 40, 32, 124, 35, 10]⟩, .string ⟨#[35, 124, 32, 40, 32, 35, 124, 32, 59, 32, 124, 35, 32, 124, 35]⟩, .string ⟨#[35, 59, 40, 97, 32, 46, 32, 98, 41, 32]⟩, .string ⟨#[9, 13]⟩]) (.int .u64 0)).run Tryd.prog w' = .ok (.string ⟨#[32]⟩) w' := run_six _ 0 0 _ (by decide) (by decide) rfl
        go_wp2_with fail
        go_round
        case rel => exact ⟨j + 1, _, by omega, by go_num, rfl, by rw [ByteArray.size_append, show (⟨#[32]⟩ : ByteArray).size = 1 from rfl]; omega, parts_next (by omega) hz hc2 h6 HTd.out _ rfl⟩
        case measure => simp [intOf]; omega
      · have hrun : ∀ w', (Instr.index 31 (.agg #[.string ⟨#[32]⟩, .string ⟨#[10]⟩, .string ⟨#[59, 32, 120, 32, 40, 32, 124, 35, 10]⟩, .string ⟨#[35, 124, 32, 40, 32, 35, 124, 32, 59, 32, 124, 35, 32, 124, 35]⟩, .string ⟨#[35, 59, 40, 97, 32, 46, 32, 98, 41, 32]⟩, .string ⟨#[9, 13]⟩]) (.int .u64 1)).run Tryd.prog w' = .ok (.string ⟨#[10]⟩) w' := run_six _ 1 1 _ (by decide) (by decide) rfl
        go_wp2_with fail
        go_round
        case rel => exact ⟨j + 1, _, by omega, by go_num, rfl, by rw [ByteArray.size_append, show (⟨#[10]⟩ : ByteArray).size = 1 from rfl]; omega, parts_next (by omega) hz hc2 h6 HTd.out _ rfl⟩
        case measure => simp [intOf]; omega
      · have hrun : ∀ w', (Instr.index 31 (.agg #[.string ⟨#[32]⟩, .string ⟨#[10]⟩, .string ⟨#[59, 32, 120, 32, 40, 32, 124, 35, 10]⟩, .string ⟨#[35, 124, 32, 40, 32, 35, 124, 32, 59, 32, 124, 35, 32, 124, 35]⟩, .string ⟨#[35, 59, 40, 97, 32, 46, 32, 98, 41, 32]⟩, .string ⟨#[9, 13]⟩]) (.int .u64 2)).run Tryd.prog w' = .ok (.string ⟨#[59, 32, 120, 32, 40, 32, 124, 35, 10]⟩) w' := run_six _ 2 2 _ (by decide) (by decide) rfl
        go_wp2_with fail
        go_round
        case rel => exact ⟨j + 1, _, by omega, by go_num, rfl, by rw [ByteArray.size_append, show (⟨#[59, 32, 120, 32, 40, 32, 124, 35, 10]⟩ : ByteArray).size = 9 from rfl]; omega, parts_next (by omega) hz hc2 h6 HTd.out _ rfl⟩
        case measure => simp [intOf]; omega
      · have hrun : ∀ w', (Instr.index 31 (.agg #[.string ⟨#[32]⟩, .string ⟨#[10]⟩, .string ⟨#[59, 32, 120, 32, 40, 32, 124, 35, 10]⟩, .string ⟨#[35, 124, 32, 40, 32, 35, 124, 32, 59, 32, 124, 35, 32, 124, 35]⟩, .string ⟨#[35, 59, 40, 97, 32, 46, 32, 98, 41, 32]⟩, .string ⟨#[9, 13]⟩]) (.int .u64 3)).run Tryd.prog w' = .ok (.string ⟨#[35, 124, 32, 40, 32, 35, 124, 32, 59, 32, 124, 35, 32, 124, 35]⟩) w' := run_six _ 3 3 _ (by decide) (by decide) rfl
        go_wp2_with fail
        go_round
        case rel => exact ⟨j + 1, _, by omega, by go_num, rfl, by rw [ByteArray.size_append, show (⟨#[35, 124, 32, 40, 32, 35, 124, 32, 59, 32, 124, 35, 32, 124, 35]⟩ : ByteArray).size = 15 from rfl]; omega, parts_next (by omega) hz hc2 h6 HTd.out _ rfl⟩
        case measure => simp [intOf]; omega
      · have hrun : ∀ w', (Instr.index 31 (.agg #[.string ⟨#[32]⟩, .string ⟨#[10]⟩, .string ⟨#[59, 32, 120, 32, 40, 32, 124, 35, 10]⟩, .string ⟨#[35, 124, 32, 40, 32, 35, 124, 32, 59, 32, 124, 35, 32, 124, 35]⟩, .string ⟨#[35, 59, 40, 97, 32, 46, 32, 98, 41, 32]⟩, .string ⟨#[9, 13]⟩]) (.int .u64 4)).run Tryd.prog w' = .ok (.string ⟨#[35, 59, 40, 97, 32, 46, 32, 98, 41, 32]⟩) w' := run_six _ 4 4 _ (by decide) (by decide) rfl
        go_wp2_with fail
        go_round
        case rel => exact ⟨j + 1, _, by omega, by go_num, rfl, by rw [ByteArray.size_append, show (⟨#[35, 59, 40, 97, 32, 46, 32, 98, 41, 32]⟩ : ByteArray).size = 10 from rfl]; omega, parts_next (by omega) hz hc2 h6 HTd.out _ rfl⟩
        case measure => simp [intOf]; omega
      · have hrun : ∀ w', (Instr.index 31 (.agg #[.string ⟨#[32]⟩, .string ⟨#[10]⟩, .string ⟨#[59, 32, 120, 32, 40, 32, 124, 35, 10]⟩, .string ⟨#[35, 124, 32, 40, 32, 35, 124, 32, 59, 32, 124, 35, 32, 124, 35]⟩, .string ⟨#[35, 59, 40, 97, 32, 46, 32, 98, 41, 32]⟩, .string ⟨#[9, 13]⟩]) (.int .u64 5)).run Tryd.prog w' = .ok (.string ⟨#[9, 13]⟩) w' := run_six _ 5 5 _ (by decide) (by decide) rfl
        go_wp2_with fail
        go_round
        case rel => exact ⟨j + 1, _, by omega, by go_num, rfl, by rw [ByteArray.size_append, show (⟨#[9, 13]⟩ : ByteArray).size = 2 from rfl]; omega, parts_next (by omega) hz hc2 h6 HTd.out _ rfl⟩
        case measure => simp [intOf]; omega
    · have hjn2 : j = n := by omega
      have HTP := Lib.hid (show T.data.toList = partsL ((zs.map Int.toNat).take n) by rw [HTd.out, hjn2])
      clear HTd hTs
      obtain ⟨r, hr, -⟩ := (rd_total (s.data.toList.length + 1)).2.1 s.data.toList 0 (Nat.lt_succ_self _)
      have hTS : (T ++ s).size ≤ 2000 := by rw [ByteArray.size_append]; omega
      have hTSd : (T ++ s).data.toList = partsL ((zs.map Int.toNat).take n) ++ s.data.toList := by rw [← HTP.out]; simp
      have hr2 : Rdd .datum (T ++ s).data.toList 0 r := by rw [hTSd]; exact parts_datum _ hr
      have htr := resD_trim hr
      obtain ⟨E0, hE0⟩ : ∃ E0, resE r = E0 := ⟨_, rfl⟩
      have HR1 := Lib.hid (read_says s hr (by omega) H.out)
      have HHR := Lib.hid (And.intro hr2 (And.intro hTS (And.intro hTSd htr)))
      rw [hE0] at HR1
      clear hr hr2 hTS hTSd htr
      go_wp2_with fail
      refine HR1.out.mono ?_
      rintro E w1 ⟨u, n1, rfl, hu, htu, hus, hsu, hp1, hq1, b1⟩
      obtain ⟨W1, hW1⟩ : ∃ W, w1.alloc (Obj.cells #[.int .i64 u.k, .bool u.g, .slice u.la u.ln u.lc, .bool u.bb, .string u.s, .slice u.ia u.items.length u.ic, .slice u.ta u.tail.length u.tc] 36) = W := ⟨_, rfl⟩
      have h1s : W1.heap.size = w1.heap.size + 1 := by rw [← hW1]; exact World.size_alloc ..
      have hb1 : Below w.heap.size w W1 := hW1 ▸ b1.alloc b1.size _
      have hbw : Below w1.heap.size w1 W1 := hW1 ▸ (Below.refl _ _).alloc (Nat.le_refl _) _
      have hn1 : W1.heap[w1.heap.size]? = some (Obj.cells #[.int .i64 u.k, .bool u.g, .slice u.la u.ln u.lc, .bool u.bb, .string u.s, .slice u.ia u.items.length u.ic, .slice u.ta u.tail.length u.tc] 36) := hW1 ▸ World.alloc_heap_new _ _
      have hu1 : Held W1 w1.heap.size u := hu.below (Nat.le_refl _) hbw
      have hz1 := b1.size
      have hq1' : n1 ≤ 600 := by omega
      have HS2 := Lib.hid (read_says (T ++ s) HHR.out.1 HHR.out.2.1 (H.out.below hb1))
      rw [hE0] at HS2
      have HB := Lib.hid (And.intro hb1 (And.intro hn1 (And.intro hu1 (And.intro htu (And.intro hus (And.intro hsu hp1))))))
      clear hu b1 hb1 hbw hn1 hu1 htu hus hsu hp1
      go_wp2_with fail
      refine HS2.out.mono ?_
      rintro E w2 ⟨t, n2, rfl, ht, htt, hts, hst, hp2, hq2, b2⟩
      obtain ⟨W2, hW2⟩ : ∃ W, w2.alloc (Obj.cells #[.int .i64 t.k, .bool t.g, .slice t.la t.ln t.lc, .bool t.bb, .string t.s, .slice t.ia t.items.length t.ic, .slice t.ta t.tail.length t.tc] 36) = W := ⟨_, rfl⟩
      have h2s : W2.heap.size = w2.heap.size + 1 := by rw [← hW2]; exact World.size_alloc ..
      have hz2 := b2.size
      have hq2' : n2 ≤ 1050 := by rw [ByteArray.size_append] at hq2; omega
      clear hq2
      have hbc : Below W1.heap.size W1 W2 := hW2 ▸ b2.alloc b2.size _
      have hbv : Below w2.heap.size w2 W2 := hW2 ▸ (Below.refl _ _).alloc (Nat.le_refl _) _
      have hn2 : W2.heap[w2.heap.size]? = some (Obj.cells #[.int .i64 t.k, .bool t.g, .slice t.la t.ln t.lc, .bool t.bb, .string t.s, .slice t.ia t.items.length t.ic, .slice t.ta t.tail.length t.tc] 36) := hW2 ▸ World.alloc_heap_new _ _
      have hn1 := (hbc.block w1.heap.size (by omega)).trans HB.out.2.1
      obtain ⟨⟨x0, x1, x2, x3, x4, x5, x6⟩, -⟩ := seven hn1
      obtain ⟨⟨y0, y1, y2, y3, y4, y5, y6⟩, -⟩ := seven hn2
      have hu2 : Held W2 W2.heap.size u := (HB.out.2.2.1.upP (by omega)).below (Nat.le_refl _) hbc |>.upP (by omega)
      have ht2 : Held W2 W2.heap.size t := (ht.below (Nat.le_refl _) hbv).upP (by omega)
      have hsh : shape u = trimD (shape t) := by rw [hst, HB.out.2.2.2.2.2.1, HHR.out.2.2.2]
      have HSM := Lib.hid (rs_any W2.heap.size 5000 (by omega) u t HB.out.2.2.2.2.1 hsh HB.out.2.2.2.1 htt W2 (Nat.le_refl _) hu2 ht2)
      have hpl : E0 = 12 ∨ (n2 : Int) = (n1 : Int) + (T.size : Int) := by
        rcases hp2 with h | h
        · exact .inl (hE0 ▸ h)
        · rcases HB.out.2.2.2.2.2.2 with h' | h'
          · exact .inl (hE0 ▸ h')
          · rw [ByteArray.size_append] at h
            exact .inr (by omega)
      have HB2 := Lib.hid (HB.out.1.trans (hbc.mono (by omega)))
      clear HB ht b2 hbc hbv hn1 hn2 hu2 ht2 hsh htt hts hst hp2
      by_cases h0 : E0 = 0
      · subst h0
        have hm := hpl.resolve_left (by decide)
        clear hpl
        go_wp2_with fail
        refine HSM.out.mono ?_
        rintro E w3 ⟨rfl, b3⟩
        have hb3 := HB2.out.trans (b3.mono HB2.out.size)
        have hTS := HHR.out.2.1
        have hTSd := HHR.out.2.2.1
        have HS := Lib.hid (skip_says (T ++ s) hTS (H.out.below hb3))
        have HB3 := Lib.hid hb3
        clear b3 hb3
        go_wp2_with fail
        refine HS.out.mono ?_
        rintro E w4 ⟨q, g, rfl, hq, b4⟩
        have hb4 := HB3.out.trans (b4.mono HB3.out.size)
        have HQ := Lib.hid hq
        have HB4 := Lib.hid hb4
        clear hq b4 hb4
        by_cases hg : g = 0
        · subst hg
          have hq := HQ.out.resolve_left (fun h => h rfl)
          have HK := Lib.hid (skip_twice (T ++ s) q hTS hq.2.1 hq.2.2 (H.out.below HB4.out))
          have hqs : q ≤ 1050 := by rw [ByteArray.size_append] at hq; omega
          have hge : T.size ≤ q := by
            have h1 := hq.2.2
            rw [hTSd] at h1
            have h2 := parts_past _ h1
            rw [rsB_len, ByteArray.size_append] at h2
            have h3 : s.data.toList.length = s.size := by simp
            omega
          clear hq HQ
          have q6 : decide ((T.size : Int) ≤ (q : Int)) = true := decide_eq_true (by omega)
          go_wp2_with fail
          refine HK.out.mono ?_
          rintro E w5 ⟨rfl, b5⟩
          have hb5 := HB4.out.trans (b5.mono HB4.out.size)
          have HL := Lib.hid (lives5_yes (H.out.below hb5))
          have HB5 := Lib.hid hb5
          clear b5 hb5
          go_wp2_with fail
          refine HL.out.mono ?_
          rintro E w6 ⟨rfl, b6⟩
          have hb6 := HB5.out.trans (b6.mono HB5.out.size)
          clear b6
          go_wp2_with fail
          go_ret
          exact ⟨rfl, hb6⟩
        · have HL := Lib.hid (lives5_yes (H.out.below HB4.out))
          go_wp2_with fail
          refine HL.out.mono ?_
          rintro E w6 ⟨rfl, b6⟩
          have hb6 := HB4.out.trans (b6.mono HB4.out.size)
          clear b6
          go_wp2_with fail
          go_ret
          exact ⟨rfl, hb6⟩
      · by_cases h12 : E0 = 12
        · subst h12
          clear hpl h0
          go_wp2_with fail
          refine HSM.out.mono ?_
          rintro E w3 ⟨rfl, b3⟩
          have hb3 := HB2.out.trans (b3.mono HB2.out.size)
          have hTS := HHR.out.2.1
          have hTSd := HHR.out.2.2.1
          have HS := Lib.hid (skip_says (T ++ s) hTS (H.out.below hb3))
          have HB3 := Lib.hid hb3
          clear b3 hb3
          go_wp2_with fail
          refine HS.out.mono ?_
          rintro E w4 ⟨q, g, rfl, hq, b4⟩
          have hb4 := HB3.out.trans (b4.mono HB3.out.size)
          have HQ := Lib.hid hq
          have HB4 := Lib.hid hb4
          clear hq b4 hb4
          by_cases hg : g = 0
          · subst hg
            have hq := HQ.out.resolve_left (fun h => h rfl)
            have HK := Lib.hid (skip_twice (T ++ s) q hTS hq.2.1 hq.2.2 (H.out.below HB4.out))
            have hqs : q ≤ 1050 := by rw [ByteArray.size_append] at hq; omega
            have hge : T.size ≤ q := by
              have h1 := hq.2.2
              rw [hTSd] at h1
              have h2 := parts_past _ h1
              rw [rsB_len, ByteArray.size_append] at h2
              have h3 : s.data.toList.length = s.size := by simp
              omega
            clear hq HQ
            have q6 : decide ((T.size : Int) ≤ (q : Int)) = true := decide_eq_true (by omega)
            go_wp2_with fail
            refine HK.out.mono ?_
            rintro E w5 ⟨rfl, b5⟩
            have hb5 := HB4.out.trans (b5.mono HB4.out.size)
            have HL := Lib.hid (lives5_yes (H.out.below hb5))
            have HB5 := Lib.hid hb5
            clear b5 hb5
            go_wp2_with fail
            refine HL.out.mono ?_
            rintro E w6 ⟨rfl, b6⟩
            have hb6 := HB5.out.trans (b6.mono HB5.out.size)
            clear b6
            go_wp2_with fail
            go_ret
            exact ⟨rfl, hb6⟩
          · have HL := Lib.hid (lives5_yes (H.out.below HB4.out))
            go_wp2_with fail
            refine HL.out.mono ?_
            rintro E w6 ⟨rfl, b6⟩
            have hb6 := HB4.out.trans (b6.mono HB4.out.size)
            clear b6
            go_wp2_with fail
            go_ret
            exact ⟨rfl, hb6⟩
        · have hm := hpl.resolve_left h12
          clear hpl
          have e1 : decide (E0 = 0) = false := decide_eq_false h0
          have e2 : decide (E0 = 12) = false := decide_eq_false h12
          go_wp2_with fail
          refine HSM.out.mono ?_
          rintro E w3 ⟨rfl, b3⟩
          have hb3 := HB2.out.trans (b3.mono HB2.out.size)
          have hTS := HHR.out.2.1
          have hTSd := HHR.out.2.2.1
          have HS := Lib.hid (skip_says (T ++ s) hTS (H.out.below hb3))
          have HB3 := Lib.hid hb3
          clear b3 hb3
          go_wp2_with fail
          refine HS.out.mono ?_
          rintro E w4 ⟨q, g, rfl, hq, b4⟩
          have hb4 := HB3.out.trans (b4.mono HB3.out.size)
          have HQ := Lib.hid hq
          have HB4 := Lib.hid hb4
          clear hq b4 hb4
          by_cases hg : g = 0
          · subst hg
            have hq := HQ.out.resolve_left (fun h => h rfl)
            have HK := Lib.hid (skip_twice (T ++ s) q hTS hq.2.1 hq.2.2 (H.out.below HB4.out))
            have hqs : q ≤ 1050 := by rw [ByteArray.size_append] at hq; omega
            have hge : T.size ≤ q := by
              have h1 := hq.2.2
              rw [hTSd] at h1
              have h2 := parts_past _ h1
              rw [rsB_len, ByteArray.size_append] at h2
              have h3 : s.data.toList.length = s.size := by simp
              omega
            clear hq HQ
            have q6 : decide ((T.size : Int) ≤ (q : Int)) = true := decide_eq_true (by omega)
            go_wp2_with fail
            refine HK.out.mono ?_
            rintro E w5 ⟨rfl, b5⟩
            have hb5 := HB4.out.trans (b5.mono HB4.out.size)
            have HL := Lib.hid (lives5_yes (H.out.below hb5))
            have HB5 := Lib.hid hb5
            clear b5 hb5
            go_wp2_with fail
            refine HL.out.mono ?_
            rintro E w6 ⟨rfl, b6⟩
            have hb6 := HB5.out.trans (b6.mono HB5.out.size)
            clear b6
            go_wp2_with fail
            go_ret
            exact ⟨rfl, hb6⟩
          · have HL := Lib.hid (lives5_yes (H.out.below HB4.out))
            go_wp2_with fail
            refine HL.out.mono ?_
            rintro E w6 ⟨rfl, b6⟩
            have hb6 := HB4.out.trans (b6.mono HB4.out.size)
            clear b6
            go_wp2_with fail
            go_ret
            exact ⟨rfl, hb6⟩
set_option maxRecDepth 100000 in
set_option maxHeartbeats 12800000 in
theorem skips_long (s : ByteArray) (A : Option Addr) (n c : Nat) (ht : Tabs w) (hsm : s.size ≤ 9223372036854775807) (hnm : n ≤ 9223372036854775807) (h : 600 < s.size ∨ 30 < n) :
    Calls Tryd.prog 4 #[.string s, .slice A n c] w fun E w' => E = .returned (.bool true) ∧ Below w.heap.size w w' := by
  have HL := Lib.hid (lives5_yes ht)
  clear ht
  by_cases h1 : 600 < s.size
  · have q1 : decide (600 < (s.size : Int)) = true := decide_eq_true (by omega)
    clear h
    go_enter Tryd.func4, Tryd.ntmps4
    go_wp2_with fail
    refine HL.out.mono ?_
    rintro E w6 ⟨rfl, b6⟩
    go_wp2_with fail
    go_ret
    exact ⟨rfl, b6⟩
  · have h2 : 30 < n := by omega
    have q1 : decide (600 < (s.size : Int)) = false := decide_eq_false (by omega)
    have q2 : decide (30 < (n : Int)) = true := decide_eq_true (by omega)
    clear h
    go_enter Tryd.func4, Tryd.ntmps4
    go_wp2_with fail
    refine HL.out.mono ?_
    rintro E w6 ⟨rfl, b6⟩
    go_wp2_with fail
    go_ret
    exact ⟨rfl, b6⟩
theorem readerSkips_walk (s : ByteArray) (A : Option Addr) (n c : Nat) (zs : List Int) (w : World) (hs : s.size ≤ maxLen) (hz : IsRow .u64 w A n c zs) (ht : Tabs w) :
    Calls Tryd.prog 4 #[.string s, .slice A n c] w fun E w' => E = .returned (.bool true) ∧ Below w.heap.size w w' := by
  obtain ⟨h1, h2, h3⟩ := hz.cells
  by_cases h : 600 < s.size ∨ 30 < n
  · exact skips_long s A n c ht (Nat.le_trans hs (by decide)) (Nat.le_trans h2 (by decide)) h
  · exact skips_core s A n c zs ht (by omega) (by omega) h1 h3
end
end Go.Proofs.YtlohdglhebplfaaDoor
