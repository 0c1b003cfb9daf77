/-
  core.copied of any tree. core.hasKid, core.At. slices.Clone of expressions; core.Put: the place that is left open.
-/
import Derived.Test.YthdhdmmlmbkalaaGreatDoorJr10
import Derived.Laws.EntriesVeiled
set_option linter.unusedVariables false
set_option linter.unusedSimpArgs false
set_option linter.unusedSectionVars false
set_option linter.unnecessarySimpa false
namespace Go.Proofs.YthdhdmmlmbkalaaGreatDoor
section
open Go.RowKit

theorem infoExp : (Tryz.prog.info? 31).map (fun i => (i.zero, i.size, decide (i.bytes ≤ 1000))) = some (some (.agg #[.int .i64 0, .int .i64 0, .bool false, .slice none 0 0, .bool false, .string ⟨#[]⟩, .slice none 0 0, .slice none 0 0, .int .i64 0, .slice none 0 0, .bool false, .int .i64 0, .slice none 0 0]), 13, true) := by first | kernel_rfl | decide
theorem makeExp (cap : Nat) (hn : cap ≤ 1000000000) : ∃ cs : Array Value, cs.size = cap * 13 ∧ ∀ w : World,
    (Instr.makeSlice 29 (.int .i64 0) (.int .i64 (cap : Int))).run Tryz.prog w = .ok (.slice (some ⟨w.heap.size, 0, none⟩) 0 cap) (w.alloc (.cells cs 31)) := by
  obtain ⟨i, hi, h2⟩ := Option.map_eq_some_iff.1 infoExp
  have e1 := congrArg Prod.fst h2
  have e2 : i.size = 13 := congrArg (fun q => q.2.1) h2
  have e3 : i.bytes ≤ 1000 := of_decide_eq_true (congrArg (fun q => q.2.2) h2)
  refine ⟨madeCells (Value.agg #[.int .i64 0, .int .i64 0, .bool false, .slice none 0 0, .bool false, .string ⟨#[]⟩, .slice none 0 0, .slice none 0 0, .int .i64 0, .slice none 0 0, .bool false, .int .i64 0, .slice none 0 0]).cells (cap * 13), size_madeCells _ _, fun w => ?_⟩
  have hr := run_make (P := Tryz.prog) w 29 31 i _ Tryz.underlying29 hi e1 .i64 .i64 0 cap (by omega) (by omega) (by have : (i.bytes : Int) * cap ≤ 1000 * 1000000000 := Int.mul_le_mul (by omega) (by omega) (by omega) (by omega); omega) (by omega)
  simp only [Int.toNat_natCast, Int.toNat_zero, e2] at hr
  exact hr
/-- What the loop starts from. -/
theorem cop_first {M cap : Nat} {t : ET} {w w4 w6 : World} {C : Array Value} (hC : C.size = cap * 13) (hcap : cap ≤ 1000000000) (hM : M ≤ w.heap.size) (hT : TameE t) (hH : HeldE w M t) (hb : t.size = cap + 1) (hbel : Below w.heap.size w w4) (x0 : w4.heap[w.heap.size]? = some (Obj.cells #[.int .i64 t.k, .int .i64 t.d.k, .bool t.d.g, .slice t.d.la t.d.ln t.d.lc, .bool t.d.bb, .string t.d.s, .slice t.d.ia t.d.items.length t.d.ic, .slice t.d.ta t.d.tail.length t.d.tc, .int .i64 t.v, .slice t.va t.vs.length t.vc, .bool t.rs, .int .i64 t.p, .slice t.ka t.kids.length t.kc] 31)) (x1 : w4.heap[w.heap.size + 1]? = some ZE)
    (hW : w6 = (w4.alloc (.cells C 31)).alloc (.cells #[.slice (some ⟨w4.heap.size, 0, none⟩) 0 cap] 29)) :
    Calls Tryz.prog 38 #[.pointer (some ⟨w.heap.size, 0, none⟩), .pointer (some ⟨w4.heap.size + 1, 0, none⟩)] w6 fun e w' => e = .returned (.tuple #[]) ∧ CopRel w M w.heap.size w4.heap.size (w4.heap.size + 1) cap t 0 (shapesE t.kids) w' := by
  obtain ⟨y6, rfl, a0, a1, hz, hb6⟩ := two2 w4 (.cells C 31) (.cells #[.slice (some ⟨w4.heap.size, 0, none⟩) 0 cap] 29)
  rw [← hW] at a0 a1 hz hb6
  clear hW
  have hlt := (Array.getElem?_eq_some_iff.1 x1).1
  have hlt0 := (Array.getElem?_eq_some_iff.1 x0).1
  have hse := t.size_eq
  have g1 := sizesE_ge t.kids
  have b0 := (hb6.block _ hlt0).trans x0
  have b1 := (hb6.block _ hlt).trans x1
  have hbw : Below w.heap.size w w6 := hbel.trans (hb6.mono hbel.size)
  have hTT := (tameE_eq t).1 hT
  refine (partE_any w.heap.size 0 (w4.heap.size + 1) w4.heap.size 0 cap M t w6 ?_ (fun j => Lib.frozen_of_heap b0 _) (hH.keep hbw.size fun q hq => hbw.block q (by omega)) hTT.1 hTT.2.1 ?_ hcap (by omega) (by omega) (by omega) (by omega) (by omega) (by omega) hM).mono ?_
  · intro j v hj
    rw [Lib.cell_of_heap b0, Nat.zero_add]
    unfold ET.cells at hj
    simpa using hj
  · exact ⟨by rw [Lib.cell_of_heap a1]; rfl, Lib.frozen_of_heap a1 _, C, a0, hC⟩
  · rintro e w' ⟨rfl, he⟩
    exact ⟨rfl, cop_start rfl hM (by omega) rfl (by unfold maxLen; omega) hb hbw b1 (by omega) hH hT he⟩
/-- A round. -/
theorem cop_round {M D g R cap i : Nat} {t : ET} {w0 w : World} {S : List ES} (hD : D = w0.heap.size) (hMD : M ≤ D) (hDg : D + 2 ≤ g) (hgR : R = g + 1) (hcap : cap ≤ 1000000000) (hi : i < S.length) (h : CopRel w0 M D g R cap t i S w) :
    Calls Tryz.prog 38 #[.pointer (some ⟨g, i * 13, none⟩), .pointer (some ⟨R, 0, none⟩)] w fun e w' => e = .returned (.tuple #[]) ∧ ∃ S', CopRel w0 M D g R cap t (i + 1) S' w' := by
  obtain ⟨u, u1, u2, u3, u4⟩ := h.src i hi (Nat.le_refl _)
  have hroom := cop_room hi h.left u1
  have hT := (tameE_eq u).1 u3
  refine (partE_any g (i * 13) R g S.length cap M u w u4 (fun j => h.room.frz _) (u2.keep h.below.size fun q hq => h.below.block q (by omega)) hT.1 hT.2.1 h.room hcap hroom (by omega) (by omega) (fun _ => by omega) (by omega) (by omega) (by omega)).mono ?_
  rintro e w' ⟨rfl, he⟩
  exact ⟨rfl, _, cop_step hD hMD hDg hgR (by unfold maxLen; omega) hi h u1 u2 u3 he⟩
set_option maxRecDepth 100000 in
set_option maxHeartbeats 3200000 in
theorem copiedE_any (M : Nat) (t : ET) (h1 : t.size ≤ 12000000) (h2 : t.depth ≤ 65536) (hT : TameE t) (w : World) (hM : M ≤ w.heap.size) (hH : HeldE w M t) :
    Calls Tryz.prog 21 #[.agg #[.int .i64 t.k, .int .i64 t.d.k, .bool t.d.g, .slice t.d.la t.d.ln t.d.lc, .bool t.d.bb, .string t.d.s, .slice t.d.ia t.d.items.length t.d.ic, .slice t.d.ta t.d.tail.length t.d.tc, .int .i64 t.v, .slice t.va t.vs.length t.vc, .bool t.rs, .int .i64 t.p, .slice t.ka t.kids.length t.kc]] w (EPost (shapeE t) w) := by
  obtain ⟨w2, hw2, a0, a1, hz, hbel⟩ := two2 w (Obj.cells #[.int .i64 t.k, .int .i64 t.d.k, .bool t.d.g, .slice t.d.la t.d.ln t.d.lc, .bool t.d.bb, .string t.d.s, .slice t.d.ia t.d.items.length t.d.ic, .slice t.d.ta t.d.tail.length t.d.tc, .int .i64 t.v, .slice t.va t.vs.length t.vc, .bool t.rs, .int .i64 t.p, .slice t.ka t.kids.length t.kc] 31) (Obj.cells #[.int .i64 0, .int .i64 0, .bool false, .slice none 0 0, .bool false, .string ⟨#[]⟩, .slice none 0 0, .slice none 0 0, .int .i64 0, .slice none 0 0, .bool false, .int .i64 0, .slice none 0 0] 31)
  have hL2 := hH.boxed hM hM hbel a0
  obtain ⟨cap, hcap⟩ : ∃ cap, t.size = cap + 1 := ⟨t.size - 1, by have := t.size_eq; omega⟩
  obtain ⟨cs, hcs, hmk⟩ := makeExp cap (by omega)
  have HH := Lib.hid (And.intro hw2 (And.intro a0 (And.intro a1 (And.intro hz (And.intro hbel (And.intro hL2 (And.intro hT (And.intro hH (And.intro hcap (And.intro h1 h2))))))))))
  have hc1 : cap ≤ 12000000 := by omega
  clear hT hH hcap hL2 hw2 a0 a1 hz hbel h1 h2
  go_enter Tryz.func21, Tryz.ntmps21
  go_wp2_with fail
  rw [← HH.out.1]
  refine (givenE_any w2).mono ?_
  rintro e w3 ⟨rfl, b3⟩
  have HB3 := Lib.hid b3
  clear b3
  go_wp2_with fail
  refine (measureE_any (w.heap.size + 1) w.heap.size 0 12000000 65536 t w3 (by have := HB3.out.size; have := HH.out.2.2.2.1; omega) (HH.out.2.2.2.2.2.1.keep HB3.out.size (fun q hq => HB3.out.block q (by have := HH.out.2.2.2.1; omega)) _ _ _) HH.out.2.2.2.2.2.2.2.2.2.1 HH.out.2.2.2.2.2.2.2.2.2.2 (by decide)).mono ?_
  rintro e w4 ⟨rfl, b4⟩
  have hz2 := HH.out.2.2.2.1
  have z3 := HB3.out.size
  have z4 := b4.size
  have x0 := (b4.block w.heap.size (by omega)).trans ((HB3.out.block w.heap.size (by omega)).trans HH.out.2.1)
  have x1 := (b4.block (w.heap.size + 1) (by omega)).trans ((HB3.out.block (w.heap.size + 1) (by omega)).trans HH.out.2.2.1)
  have hb4 : Below w.heap.size w w4 := HH.out.2.2.2.2.1.trans ((HB3.out.mono (by omega)).trans (b4.mono (by omega)))
  have hz4 : w.heap.size + 2 ≤ w4.heap.size := by omega
  have HF := Lib.hid (cop_first hcs (by omega) hM HH.out.2.2.2.2.2.2.1 HH.out.2.2.2.2.2.2.2.1 HH.out.2.2.2.2.2.2.2.2.1 hb4 x0 x1 rfl)
  rw [HH.out.2.2.2.2.2.2.2.2.1]
  clear x0 x1 hb4 b4 z3 z4 hz2 hcs
  go_wp2_with fail
  refine HF.out.mono ?_
  rintro e w5 ⟨rfl, hrel5⟩
  have HR := Lib.hid hrel5
  clear hrel5 hmk
  generalize w4.heap.size = g at *
  go_wp2_with fail
  go_loopw [7] (fun i wr => ∃ (k : Nat) (S : List ES), i = .int .i64 k ∧ CopRel w M w.heap.size g (g + 1) cap t k S wr) (fun i _ => cap - (intOf i).toNat)
  case atStart => exact ⟨0, _, rfl, HR.out⟩
  case round =>
    obtain ⟨k, S, rfl, hrel⟩ := hrel
    have q1 : wr.cell? ⟨g + 1, 0, none⟩ = some (.slice (some ⟨g, 0, none⟩) S.length cap) := hrel.room.1
    have hcapS : S.length ≤ cap := by have := hrel.left; have := sizesES_ge (S.drop k); rw [List.length_drop] at this; omega
    by_cases hlt : k < S.length
    · have HS := Lib.hid (cop_round rfl hM hz4 rfl (by omega) hlt hrel)
      clear hrel
      go_wp2_with fail
      refine HS.out.mono ?_
      rintro e w8 ⟨rfl, hR8⟩
      have HR8 := Lib.hid hR8
      clear hR8 q1
      go_wp2_with fail
      go_roundw
      case rel =>
        obtain ⟨S', hS'⟩ := HR8.out
        exact ⟨k + 1, S', by go_num, hS'⟩
      case measure => simp [intOf]; omega
    · obtain ⟨u, hu1, hu2, hu3, hu4⟩ := cop_end hrel (by omega)
      simp only [Nat.zero_add] at hu3
      have d0 : wr.cell? ⟨w.heap.size, 0, none⟩ = some (.int .i64 u.k) := hu3 0 _ rfl
      have d1 : wr.cell? ⟨w.heap.size, 1, none⟩ = some (.int .i64 u.d.k) := hu3 1 _ rfl
      have d2 : wr.cell? ⟨w.heap.size, 2, none⟩ = some (.bool u.d.g) := hu3 2 _ rfl
      have d3 : wr.cell? ⟨w.heap.size, 3, none⟩ = some (.slice u.d.la u.d.ln u.d.lc) := hu3 3 _ rfl
      have d4 : wr.cell? ⟨w.heap.size, 4, none⟩ = some (.bool u.d.bb) := hu3 4 _ rfl
      have d5 : wr.cell? ⟨w.heap.size, 5, none⟩ = some (.string u.d.s) := hu3 5 _ rfl
      have d6 : wr.cell? ⟨w.heap.size, 6, none⟩ = some (.slice u.d.ia u.d.items.length u.d.ic) := hu3 6 _ rfl
      have d7 : wr.cell? ⟨w.heap.size, 7, none⟩ = some (.slice u.d.ta u.d.tail.length u.d.tc) := hu3 7 _ rfl
      have d8 : wr.cell? ⟨w.heap.size, 8, none⟩ = some (.int .i64 u.v) := hu3 8 _ rfl
      have d9 : wr.cell? ⟨w.heap.size, 9, none⟩ = some (.slice u.va u.vs.length u.vc) := hu3 9 _ rfl
      have d10 : wr.cell? ⟨w.heap.size, 10, none⟩ = some (.bool u.rs) := hu3 10 _ rfl
      have d11 : wr.cell? ⟨w.heap.size, 11, none⟩ = some (.int .i64 u.p) := hu3 11 _ rfl
      have d12 : wr.cell? ⟨w.heap.size, 12, none⟩ = some (.slice u.ka u.kids.length u.kc) := hu3 12 _ rfl
      have hres := hrel.res
      unfold ZE at hres
      have r100 : wr.cell? ⟨w.heap.size + 1, 0, none⟩ = some (.int .i64 0) := by rw [Lib.cell_of_heap hres]; rfl
      have f100 : wr.frozen? ⟨w.heap.size + 1, 0, none⟩ = false := Lib.frozen_of_heap hres _
      have r101 : wr.cell? ⟨w.heap.size + 1, 1, none⟩ = some (.int .i64 0) := by rw [Lib.cell_of_heap hres]; rfl
      have f101 : wr.frozen? ⟨w.heap.size + 1, 1, none⟩ = false := Lib.frozen_of_heap hres _
      have r102 : wr.cell? ⟨w.heap.size + 1, 2, none⟩ = some (.bool false) := by rw [Lib.cell_of_heap hres]; rfl
      have f102 : wr.frozen? ⟨w.heap.size + 1, 2, none⟩ = false := Lib.frozen_of_heap hres _
      have r103 : wr.cell? ⟨w.heap.size + 1, 3, none⟩ = some (.slice none 0 0) := by rw [Lib.cell_of_heap hres]; rfl
      have f103 : wr.frozen? ⟨w.heap.size + 1, 3, none⟩ = false := Lib.frozen_of_heap hres _
      have r104 : wr.cell? ⟨w.heap.size + 1, 4, none⟩ = some (.bool false) := by rw [Lib.cell_of_heap hres]; rfl
      have f104 : wr.frozen? ⟨w.heap.size + 1, 4, none⟩ = false := Lib.frozen_of_heap hres _
      have r105 : wr.cell? ⟨w.heap.size + 1, 5, none⟩ = some (.string ⟨#[]⟩) := by rw [Lib.cell_of_heap hres]; rfl
      have f105 : wr.frozen? ⟨w.heap.size + 1, 5, none⟩ = false := Lib.frozen_of_heap hres _
      have r106 : wr.cell? ⟨w.heap.size + 1, 6, none⟩ = some (.slice none 0 0) := by rw [Lib.cell_of_heap hres]; rfl
      have f106 : wr.frozen? ⟨w.heap.size + 1, 6, none⟩ = false := Lib.frozen_of_heap hres _
      have r107 : wr.cell? ⟨w.heap.size + 1, 7, none⟩ = some (.slice none 0 0) := by rw [Lib.cell_of_heap hres]; rfl
      have f107 : wr.frozen? ⟨w.heap.size + 1, 7, none⟩ = false := Lib.frozen_of_heap hres _
      have r108 : wr.cell? ⟨w.heap.size + 1, 8, none⟩ = some (.int .i64 0) := by rw [Lib.cell_of_heap hres]; rfl
      have f108 : wr.frozen? ⟨w.heap.size + 1, 8, none⟩ = false := Lib.frozen_of_heap hres _
      have r109 : wr.cell? ⟨w.heap.size + 1, 9, none⟩ = some (.slice none 0 0) := by rw [Lib.cell_of_heap hres]; rfl
      have f109 : wr.frozen? ⟨w.heap.size + 1, 9, none⟩ = false := Lib.frozen_of_heap hres _
      have r110 : wr.cell? ⟨w.heap.size + 1, 10, none⟩ = some (.bool false) := by rw [Lib.cell_of_heap hres]; rfl
      have f110 : wr.frozen? ⟨w.heap.size + 1, 10, none⟩ = false := Lib.frozen_of_heap hres _
      have r111 : wr.cell? ⟨w.heap.size + 1, 11, none⟩ = some (.int .i64 0) := by rw [Lib.cell_of_heap hres]; rfl
      have f111 : wr.frozen? ⟨w.heap.size + 1, 11, none⟩ = false := Lib.frozen_of_heap hres _
      have r112 : wr.cell? ⟨w.heap.size + 1, 12, none⟩ = some (.slice none 0 0) := by rw [Lib.cell_of_heap hres]; rfl
      have f112 : wr.frozen? ⟨w.heap.size + 1, 12, none⟩ = false := Lib.frozen_of_heap hres _
      have HY := Lib.hid (And.intro hu4 (And.intro hu1 (And.intro hu2 (And.intro hrel.below hres))))
      clear hu1 hu2 hu3 hu4 hrel hres HR
      go_wp2_with fail
      (try simp only [Exit.inBlock, Exit.then])
      obtain ⟨w6, hw6⟩ : ∃ W, (((((((((((((wr.setCell ⟨w.heap.size + 1, 0, none⟩ (.int .i64 u.k)).setCell ⟨w.heap.size + 1, 1, none⟩ (.int .i64 u.d.k)).setCell ⟨w.heap.size + 1, 2, none⟩ (.bool u.d.g)).setCell ⟨w.heap.size + 1, 3, none⟩ (.slice u.d.la u.d.ln u.d.lc)).setCell ⟨w.heap.size + 1, 4, none⟩ (.bool u.d.bb)).setCell ⟨w.heap.size + 1, 5, none⟩ (.string u.d.s)).setCell ⟨w.heap.size + 1, 6, none⟩ (.slice u.d.ia u.d.items.length u.d.ic)).setCell ⟨w.heap.size + 1, 7, none⟩ (.slice u.d.ta u.d.tail.length u.d.tc)).setCell ⟨w.heap.size + 1, 8, none⟩ (.int .i64 u.v)).setCell ⟨w.heap.size + 1, 9, none⟩ (.slice u.va u.vs.length u.vc)).setCell ⟨w.heap.size + 1, 10, none⟩ (.bool u.rs)).setCell ⟨w.heap.size + 1, 11, none⟩ (.int .i64 u.p)).setCell ⟨w.heap.size + 1, 12, none⟩ (.slice u.ka u.kids.length u.kc)) = W := ⟨_, rfl⟩
      have hlow : ∀ k, w.heap.size + 2 ≤ k → w6.heap[k]? = wr.heap[k]? := fun k hk => by rw [← hw6]; simp [World.setCell, Array.getElem?_modify, show ¬ w.heap.size + 1 = k by omega]
      have z6 : w6.heap.size = wr.heap.size := by rw [← hw6]; simp [World.setCell]
      have y6 : w6.heap[w.heap.size + 1]? = some (.cells #[.int .i64 u.k, .int .i64 u.d.k, .bool u.d.g, .slice u.d.la u.d.ln u.d.lc, .bool u.d.bb, .string u.d.s, .slice u.d.ia u.d.items.length u.d.ic, .slice u.d.ta u.d.tail.length u.d.tc, .int .i64 u.v, .slice u.va u.vs.length u.vc, .bool u.rs, .int .i64 u.p, .slice u.ka u.kids.length u.kc] 31 (0, 0)) := by rw [← hw6]; simp [World.setCell, Array.getElem?_modify, HY.out.2.2.2.2]
      have hb6 : Below w.heap.size w w6 := by
        rw [← hw6]
        exact (((((((((((((HY.out.2.2.2.1.setCell (p := ⟨w.heap.size + 1, 0, none⟩) (Nat.le_succ _) _).setCell (p := ⟨w.heap.size + 1, 1, none⟩) (Nat.le_succ _) _).setCell (p := ⟨w.heap.size + 1, 2, none⟩) (Nat.le_succ _) _).setCell (p := ⟨w.heap.size + 1, 3, none⟩) (Nat.le_succ _) _).setCell (p := ⟨w.heap.size + 1, 4, none⟩) (Nat.le_succ _) _).setCell (p := ⟨w.heap.size + 1, 5, none⟩) (Nat.le_succ _) _).setCell (p := ⟨w.heap.size + 1, 6, none⟩) (Nat.le_succ _) _).setCell (p := ⟨w.heap.size + 1, 7, none⟩) (Nat.le_succ _) _).setCell (p := ⟨w.heap.size + 1, 8, none⟩) (Nat.le_succ _) _).setCell (p := ⟨w.heap.size + 1, 9, none⟩) (Nat.le_succ _) _).setCell (p := ⟨w.heap.size + 1, 10, none⟩) (Nat.le_succ _) _).setCell (p := ⟨w.heap.size + 1, 11, none⟩) (Nat.le_succ _) _).setCell (p := ⟨w.heap.size + 1, 12, none⟩) (Nat.le_succ _) _)
      refine bodyPost_ret (v := .agg #[.int .i64 u.k, .int .i64 u.d.k, .bool u.d.g, .slice u.d.la u.d.ln u.d.lc, .bool u.d.bb, .string u.d.s, .slice u.d.ia u.d.items.length u.d.ic, .slice u.d.ta u.d.tail.length u.d.tc, .int .i64 u.v, .slice u.va u.vs.length u.vc, .bool u.rs, .int .i64 u.p, .slice u.ka u.kids.length u.kc]) (results_e rfl rfl (by rw [hw6, Lib.cell_of_heap y6]; rfl) (by rw [hw6, Lib.cell_of_heap y6]; rfl) (by rw [hw6, Lib.cell_of_heap y6]; rfl) (by rw [hw6, Lib.cell_of_heap y6]; rfl) (by rw [hw6, Lib.cell_of_heap y6]; rfl) (by rw [hw6, Lib.cell_of_heap y6]; rfl) (by rw [hw6, Lib.cell_of_heap y6]; rfl) (by rw [hw6, Lib.cell_of_heap y6]; rfl) (by rw [hw6, Lib.cell_of_heap y6]; rfl) (by rw [hw6, Lib.cell_of_heap y6]; rfl) (by rw [hw6, Lib.cell_of_heap y6]; rfl) (by rw [hw6, Lib.cell_of_heap y6]; rfl) (by rw [hw6, Lib.cell_of_heap y6]; rfl)) rfl ?_
      (try rw [hw6])
      have hk6 : ∀ k, Fresh wr (w.heap.size + 2) k → Fresh w6 w.heap.size k ∧ w6.heap[k]? = wr.heap[k]? := fun k hk => ⟨(hk.same (hlow k hk.1)).low (by omega), hlow k hk.1⟩
      exact ⟨u, rfl, HY.out.1.keep (by omega) hk6, HY.out.2.2.1, HY.out.2.1, hb6⟩
end
end Go.Proofs.YthdhdmmlmbkalaaGreatDoor
namespace Go.Proofs.YthdhdmmlmbkalaaGreatDoor
section
open Go.RowKit

theorem results_eb {fn : Func} {tmps : Array Value} {t t2 : Tmp} {r : Value} {w : World} {b : Nat} {v0 v1 v2 v3 v4 v5 v6 v7 v8 v9 v10 v11 v12 : Value} (h : fn.results = #[.cell t 31, .tmp t2]) (ht : tmps.getD t undef = .pointer (some ⟨b, 0, none⟩)) (h2 : tmps.getD t2 undef = r) (c0 : w.cell? ⟨b, 0, none⟩ = some v0) (c1 : w.cell? ⟨b, 1, none⟩ = some v1) (c2 : w.cell? ⟨b, 2, none⟩ = some v2) (c3 : w.cell? ⟨b, 3, none⟩ = some v3) (c4 : w.cell? ⟨b, 4, none⟩ = some v4) (c5 : w.cell? ⟨b, 5, none⟩ = some v5) (c6 : w.cell? ⟨b, 6, none⟩ = some v6) (c7 : w.cell? ⟨b, 7, none⟩ = some v7) (c8 : w.cell? ⟨b, 8, none⟩ = some v8) (c9 : w.cell? ⟨b, 9, none⟩ = some v9) (c10 : w.cell? ⟨b, 10, none⟩ = some v10) (c11 : w.cell? ⟨b, 11, none⟩ = some v11) (c12 : w.cell? ⟨b, 12, none⟩ = some v12) :
    (results fn tmps).run Tryz.prog w = .ok (.tuple #[.agg #[v0, v1, v2, v3, v4, v5, v6, v7, v8, v9, v10, v11, v12], r]) w := by
  rw [Array.getD_eq_getD_getElem?] at ht h2
  simp [results, h, ht, h2, go_sem, c0, c1, c2, c3, c4, c5, c6, c7, c8, c9, c10, c11, c12]
set_option maxRecDepth 100000 in
theorem hasKid_any (b o : Nat) (i : Int) (ka : Option Addr) (n kc : Nat) (w : World) (h : w.cell? ⟨b, o + 12, none⟩ = some (.slice ka n kc)) :
    Calls Tryz.prog 20 #[.pointer (some ⟨b, o, none⟩), .int .i64 i] w fun e w' => e = .returned (.bool (decide (0 ≤ i ∧ i < n))) ∧ w = w' := by
  by_cases hi : 0 ≤ i
  · have q1 : decide (0 ≤ i) = true := decide_eq_true hi
    by_cases hn : i < n
    · have q2 : decide (i < (n : Int)) = true := decide_eq_true hn
      have HE := Lib.hid (show decide (0 ≤ i ∧ i < (n : Int)) = true from decide_eq_true ⟨hi, hn⟩)
      go_enter Tryz.func20, Tryz.ntmps20
      go_wp2_with fail
      go_ret
      exact ⟨by first | rfl | (rw [HE.out]; rfl), rfl⟩
    · have q2 : decide (i < (n : Int)) = false := decide_eq_false hn
      have HE := Lib.hid (show decide (0 ≤ i ∧ i < (n : Int)) = false from decide_eq_false fun h => hn h.2)
      go_enter Tryz.func20, Tryz.ntmps20
      go_wp2_with fail
      go_ret
      exact ⟨by first | rfl | (rw [HE.out]; rfl), rfl⟩
  · have q1 : decide (0 ≤ i) = false := decide_eq_false hi
    have HE := Lib.hid (show decide (0 ≤ i ∧ i < (n : Int)) = false from decide_eq_false fun h => hi h.1)
    go_enter Tryz.func20, Tryz.ntmps20
    go_wp2_with fail
    go_ret
    exact ⟨by first | rfl | (rw [HE.out]; rfl), rfl⟩
/-- What a path leads to. -/
def atE : ET → List Int → Option ET
  | e, [] => some e
  | e, i :: p => if h : 0 ≤ i ∧ i.toNat < e.kids.length then atE (e.kids[i.toNat]'h.2) p else none
def AtPost (t : ET) (path : List Int) (w : World) (e : Ending) (w' : World) : Prop := Below w.heap.size w w' ∧
  ((atE t path = none ∧ e = .returned (.tuple #[(.agg #[.int .i64 0, .int .i64 0, .bool false, .slice none 0 0, .bool false, .string ⟨#[]⟩, .slice none 0 0, .slice none 0 0, .int .i64 0, .slice none 0 0, .bool false, .int .i64 0, .slice none 0 0]), .bool false])) ∨ ∃ x u, atE t path = some x ∧ e = .returned (.tuple #[.agg #[.int .i64 u.k, .int .i64 u.d.k, .bool u.d.g, .slice u.d.la u.d.ln u.d.lc, .bool u.d.bb, .string u.d.s, .slice u.d.ia u.d.items.length u.d.ic, .slice u.d.ta u.d.tail.length u.d.tc, .int .i64 u.v, .slice u.va u.vs.length u.vc, .bool u.rs, .int .i64 u.p, .slice u.ka u.kids.length u.kc], .bool true]) ∧ shapeE u = shapeE x ∧ TameE u ∧ HeldEP w' (Fresh w' w.heap.size) u)
theorem depthsE_mem : ∀ {l : List ET} {k : Nat} (h : k < l.length), l[k].depth ≤ depthsE l
  | e :: l, 0, _ => by simp [depthsE]; omega
  | e :: l, k + 1, h => by
    have := depthsE_mem (l := l) (k := k) (by simpa using h)
    simp only [depthsE, List.getElem_cons_succ]
    omega
theorem atE_kid {u : ET} {i : Int} {p : List Int} {q : Nat} (hi : i = q) (hq : q < u.kids.length) : atE u (i :: p) = atE u.kids[q] p := by
  subst hi
  simp [atE, hq]
theorem atE_no {u : ET} {i : Int} {p : List Int} (h : ¬ (0 ≤ i ∧ i < (u.kids.length : Int))) : atE u (i :: p) = none := by
  rw [atE, dif_neg (fun x => h ⟨x.1, by omega⟩)]
set_option maxRecDepth 100000 in
set_option maxHeartbeats 3200000 in
theorem at_any (M : Nat) (t : ET) (h1 : t.size ≤ 12000000) (h2 : t.depth ≤ 65536) (hT : TameE t) (pa : Option Addr) (pc : Nat) (path : List Int) (w : World) (hM : M ≤ w.heap.size) (hH : HeldE w M t) (hP : IntsAt w M pa pc path) :
    Calls Tryz.prog 8 #[.agg #[.int .i64 t.k, .int .i64 t.d.k, .bool t.d.g, .slice t.d.la t.d.ln t.d.lc, .bool t.d.bb, .string t.d.s, .slice t.d.ia t.d.items.length t.d.ic, .slice t.d.ta t.d.tail.length t.d.tc, .int .i64 t.v, .slice t.va t.vs.length t.vc, .bool t.rs, .int .i64 t.p, .slice t.ka t.kids.length t.kc], .slice pa path.length pc] w (AtPost t path w) := by
  obtain ⟨W2, hW2, a0, hres, hz, hbel⟩ := two2 w (Obj.cells #[.int .i64 t.k, .int .i64 t.d.k, .bool t.d.g, .slice t.d.la t.d.ln t.d.lc, .bool t.d.bb, .string t.d.s, .slice t.d.ia t.d.items.length t.d.ic, .slice t.d.ta t.d.tail.length t.d.tc, .int .i64 t.v, .slice t.va t.vs.length t.vc, .bool t.rs, .int .i64 t.p, .slice t.ka t.kids.length t.kc] 31) (Obj.cells #[.int .i64 0, .int .i64 0, .bool false, .slice none 0 0, .bool false, .string ⟨#[]⟩, .slice none 0 0, .slice none 0 0, .int .i64 0, .slice none 0 0, .bool false, .int .i64 0, .slice none 0 0] 31)
  have hL2 := hH.boxed hM hM hbel a0
  have hP2 := hP.keep (w' := W2) fun q hq => hbel.block q (by omega)
  have hpl := hP2.1.2.1
  have hpn := hP2.1.1
  unfold maxLen at hpl
  have r100 : W2.cell? ⟨w.heap.size + 1, 0, none⟩ = some (.int .i64 0) := by rw [Lib.cell_of_heap hres]; rfl
  have f100 : W2.frozen? ⟨w.heap.size + 1, 0, none⟩ = false := Lib.frozen_of_heap hres _
  have r101 : W2.cell? ⟨w.heap.size + 1, 1, none⟩ = some (.int .i64 0) := by rw [Lib.cell_of_heap hres]; rfl
  have f101 : W2.frozen? ⟨w.heap.size + 1, 1, none⟩ = false := Lib.frozen_of_heap hres _
  have r102 : W2.cell? ⟨w.heap.size + 1, 2, none⟩ = some (.bool false) := by rw [Lib.cell_of_heap hres]; rfl
  have f102 : W2.frozen? ⟨w.heap.size + 1, 2, none⟩ = false := Lib.frozen_of_heap hres _
  have r103 : W2.cell? ⟨w.heap.size + 1, 3, none⟩ = some (.slice none 0 0) := by rw [Lib.cell_of_heap hres]; rfl
  have f103 : W2.frozen? ⟨w.heap.size + 1, 3, none⟩ = false := Lib.frozen_of_heap hres _
  have r104 : W2.cell? ⟨w.heap.size + 1, 4, none⟩ = some (.bool false) := by rw [Lib.cell_of_heap hres]; rfl
  have f104 : W2.frozen? ⟨w.heap.size + 1, 4, none⟩ = false := Lib.frozen_of_heap hres _
  have r105 : W2.cell? ⟨w.heap.size + 1, 5, none⟩ = some (.string ⟨#[]⟩) := by rw [Lib.cell_of_heap hres]; rfl
  have f105 : W2.frozen? ⟨w.heap.size + 1, 5, none⟩ = false := Lib.frozen_of_heap hres _
  have r106 : W2.cell? ⟨w.heap.size + 1, 6, none⟩ = some (.slice none 0 0) := by rw [Lib.cell_of_heap hres]; rfl
  have f106 : W2.frozen? ⟨w.heap.size + 1, 6, none⟩ = false := Lib.frozen_of_heap hres _
  have r107 : W2.cell? ⟨w.heap.size + 1, 7, none⟩ = some (.slice none 0 0) := by rw [Lib.cell_of_heap hres]; rfl
  have f107 : W2.frozen? ⟨w.heap.size + 1, 7, none⟩ = false := Lib.frozen_of_heap hres _
  have r108 : W2.cell? ⟨w.heap.size + 1, 8, none⟩ = some (.int .i64 0) := by rw [Lib.cell_of_heap hres]; rfl
  have f108 : W2.frozen? ⟨w.heap.size + 1, 8, none⟩ = false := Lib.frozen_of_heap hres _
  have r109 : W2.cell? ⟨w.heap.size + 1, 9, none⟩ = some (.slice none 0 0) := by rw [Lib.cell_of_heap hres]; rfl
  have f109 : W2.frozen? ⟨w.heap.size + 1, 9, none⟩ = false := Lib.frozen_of_heap hres _
  have r110 : W2.cell? ⟨w.heap.size + 1, 10, none⟩ = some (.bool false) := by rw [Lib.cell_of_heap hres]; rfl
  have f110 : W2.frozen? ⟨w.heap.size + 1, 10, none⟩ = false := Lib.frozen_of_heap hres _
  have r111 : W2.cell? ⟨w.heap.size + 1, 11, none⟩ = some (.int .i64 0) := by rw [Lib.cell_of_heap hres]; rfl
  have f111 : W2.frozen? ⟨w.heap.size + 1, 11, none⟩ = false := Lib.frozen_of_heap hres _
  have r112 : W2.cell? ⟨w.heap.size + 1, 12, none⟩ = some (.slice none 0 0) := by rw [Lib.cell_of_heap hres]; rfl
  have f112 : W2.frozen? ⟨w.heap.size + 1, 12, none⟩ = false := Lib.frozen_of_heap hres _
  have HH := Lib.hid (And.intro hbel (And.intro hL2 (And.intro hP2 (And.intro hT (And.intro h1 (And.intro h2 hres))))))
  have hW := hW2.symm
  clear hH hP hL2 hP2 hT h1 h2 hbel hW2 a0 hres
  go_enter Tryz.func8, Tryz.ntmps8
  go_wp2_with fail
  go_loopw [6, 11] (fun x i wr => ∃ (k b o : Nat) (u : ET), k ≤ path.length ∧ i = .int .i64 k ∧ x = .pointer (some ⟨b, o, none⟩) ∧ wr = W2 ∧ Hid (atE t path = atE u (path.drop k) ∧ LiesE W2 (w.heap.size + 1) u b o ∧ TameE u ∧ u.size ≤ t.size ∧ u.depth ≤ t.depth)) (fun _ i _ => path.length - (intOf i).toNat)
  case atStart => exact ⟨0, _, _, t, Nat.zero_le _, rfl, rfl, rfl, Lib.hid ⟨by rw [List.drop_zero], HH.out.2.1, HH.out.2.2.2.1, Nat.le_refl _, Nat.le_refl _⟩⟩
  case round =>
    obtain ⟨k, b, o, u, hk, rfl, rfl, rfl, HK⟩ := hrel
    obtain ⟨hbD, hcell, hheld⟩ := liesE_held.1 HK.out.2.1
    by_cases hlk : k < path.length
    · obtain ⟨pb, po, rfl, hpb⟩ : ∃ pb po, pa = some ⟨pb, po, none⟩ ∧ wr.cell? ⟨pb, po + k, none⟩ = some (.int .i64 path[k]) := ⟨_, _, (HH.out.2.2.1.1.2.2.1 (by omega)).1, (HH.out.2.2.1.2 k hlk).1⟩
      have hdr := List.drop_eq_getElem_cons hlk
      obtain ⟨z, hz0⟩ : ∃ z, path[k] = z := ⟨_, rfl⟩
      rw [hz0] at hpb hdr
      have c12 : wr.cell? ⟨b, o + 12, none⟩ = some (.slice u.ka u.kids.length u.kc) := hcell 12 _ rfl
      have HC := Lib.hid (hasKid_any b o z u.ka u.kids.length u.kc wr c12)
      by_cases hz1 : 0 ≤ z ∧ z < (u.kids.length : Int)
      · have hd : decide (0 ≤ z ∧ z < (u.kids.length : Int)) = true := decide_eq_true hz1
        obtain ⟨q, rfl⟩ : ∃ q : Nat, z = q := ⟨z.toNat, by omega⟩
        have hq : q < u.kids.length := by omega
        have hsp := hheld.2.1
        have hkm := hsp.2.1
        unfold maxLen at hkm
        obtain ⟨gb, go, hae, hR⟩ : ∃ gb go, u.ka = some ⟨gb, go, none⟩ ∧ LiesER wr (w.heap.size + 1) u.kids gb go := ⟨_, _, (hsp.2.2.1 (by omega)).1, hheld.2.2⟩
        rw [hae] at c12
        have hli := (liesER_iff _ _ _).1 hR q hq
        have hus := u.size_eq
        have hud := u.depth_eq
        have hs1 := sizesE_mem hq
        have hd1 := depthsE_mem hq
        have HN := Lib.hid (show atE t path = atE u.kids[q] (path.drop (k + 1)) ∧ LiesE wr (w.heap.size + 1) u.kids[q] gb (go + q * 13) ∧ TameE u.kids[q] ∧ u.kids[q].size ≤ t.size ∧ u.kids[q].depth ≤ t.depth from
          ⟨by rw [HK.out.1, hdr, atE_kid rfl hq], by rw [Nat.mul_comm q 13]; exact hli, tameER_at _ _ hq ((tameE_eq u).1 HK.out.2.2.1).2.2, by have := HK.out.2.2.2.1; omega, by have := HK.out.2.2.2.2; omega⟩)
        rw [hd] at HC
        clear hd hz1 hli hus hud hs1 hd1 hR hsp hheld hcell hae hz0 hdr
        go_wp2_with fail
        refine HC.out.mono ?_
        rintro e w6 ⟨rfl, rfl⟩
        go_wp2_with fail
        go_roundw
        case rel => exact ⟨k + 1, gb, go + q * 13, _, by omega, by go_num, by first | rfl | trivial, by first | rfl | trivial, HN⟩
        case measure => simp [intOf]; omega
      · have HN := Lib.hid (show atE t path = none by rw [HK.out.1, hdr, atE_no hz1])
        rw [decide_eq_false hz1] at HC
        clear hz1 hheld hcell hz0 hdr
        go_wp2_with fail
        refine HC.out.mono ?_
        rintro e w6 ⟨rfl, rfl⟩
        go_wp2_with fail
        (try simp only [Exit.inBlock, Exit.then])
        obtain ⟨w6, hw6⟩ : ∃ W, (((((((((((((wr.setCell ⟨w.heap.size + 1, 0, none⟩ (.int .i64 0)).setCell ⟨w.heap.size + 1, 1, none⟩ (.int .i64 0)).setCell ⟨w.heap.size + 1, 2, none⟩ (.bool false)).setCell ⟨w.heap.size + 1, 3, none⟩ (.slice none 0 0)).setCell ⟨w.heap.size + 1, 4, none⟩ (.bool false)).setCell ⟨w.heap.size + 1, 5, none⟩ (.string ⟨#[]⟩)).setCell ⟨w.heap.size + 1, 6, none⟩ (.slice none 0 0)).setCell ⟨w.heap.size + 1, 7, none⟩ (.slice none 0 0)).setCell ⟨w.heap.size + 1, 8, none⟩ (.int .i64 0)).setCell ⟨w.heap.size + 1, 9, none⟩ (.slice none 0 0)).setCell ⟨w.heap.size + 1, 10, none⟩ (.bool false)).setCell ⟨w.heap.size + 1, 11, none⟩ (.int .i64 0)).setCell ⟨w.heap.size + 1, 12, none⟩ (.slice none 0 0)) = W := ⟨_, rfl⟩
        have y6 : w6.heap[w.heap.size + 1]? = some (Obj.cells #[.int .i64 0, .int .i64 0, .bool false, .slice none 0 0, .bool false, .string ⟨#[]⟩, .slice none 0 0, .slice none 0 0, .int .i64 0, .slice none 0 0, .bool false, .int .i64 0, .slice none 0 0] 31) := by rw [← hw6]; simp [World.setCell, Array.getElem?_modify, HH.out.2.2.2.2.2.2]
        have hb6 : Below w.heap.size w w6 := by
          rw [← hw6]
          exact (((((((((((((HH.out.1.setCell (p := ⟨w.heap.size + 1, 0, none⟩) (Nat.le_succ _) _).setCell (p := ⟨w.heap.size + 1, 1, none⟩) (Nat.le_succ _) _).setCell (p := ⟨w.heap.size + 1, 2, none⟩) (Nat.le_succ _) _).setCell (p := ⟨w.heap.size + 1, 3, none⟩) (Nat.le_succ _) _).setCell (p := ⟨w.heap.size + 1, 4, none⟩) (Nat.le_succ _) _).setCell (p := ⟨w.heap.size + 1, 5, none⟩) (Nat.le_succ _) _).setCell (p := ⟨w.heap.size + 1, 6, none⟩) (Nat.le_succ _) _).setCell (p := ⟨w.heap.size + 1, 7, none⟩) (Nat.le_succ _) _).setCell (p := ⟨w.heap.size + 1, 8, none⟩) (Nat.le_succ _) _).setCell (p := ⟨w.heap.size + 1, 9, none⟩) (Nat.le_succ _) _).setCell (p := ⟨w.heap.size + 1, 10, none⟩) (Nat.le_succ _) _).setCell (p := ⟨w.heap.size + 1, 11, none⟩) (Nat.le_succ _) _).setCell (p := ⟨w.heap.size + 1, 12, none⟩) (Nat.le_succ _) _)
        refine bodyPost_ret (v := .tuple #[(.agg #[.int .i64 0, .int .i64 0, .bool false, .slice none 0 0, .bool false, .string ⟨#[]⟩, .slice none 0 0, .slice none 0 0, .int .i64 0, .slice none 0 0, .bool false, .int .i64 0, .slice none 0 0]), .bool false]) (results_eb rfl rfl rfl (by rw [hw6, Lib.cell_of_heap y6]; rfl) (by rw [hw6, Lib.cell_of_heap y6]; rfl) (by rw [hw6, Lib.cell_of_heap y6]; rfl) (by rw [hw6, Lib.cell_of_heap y6]; rfl) (by rw [hw6, Lib.cell_of_heap y6]; rfl) (by rw [hw6, Lib.cell_of_heap y6]; rfl) (by rw [hw6, Lib.cell_of_heap y6]; rfl) (by rw [hw6, Lib.cell_of_heap y6]; rfl) (by rw [hw6, Lib.cell_of_heap y6]; rfl) (by rw [hw6, Lib.cell_of_heap y6]; rfl) (by rw [hw6, Lib.cell_of_heap y6]; rfl) (by rw [hw6, Lib.cell_of_heap y6]; rfl) (by rw [hw6, Lib.cell_of_heap y6]; rfl)) rfl ?_
        (try rw [hw6])
        exact ⟨hb6, .inl ⟨HN.out, rfl⟩⟩
    · obtain rfl : k = path.length := by omega
      have HN := Lib.hid (show atE t path = some u by rw [HK.out.1, List.drop_length]; rfl)
      have d0 : wr.cell? ⟨b, o, none⟩ = some (.int .i64 u.k) := hcell 0 _ rfl
      have d1 : wr.cell? ⟨b, o + 1, none⟩ = some (.int .i64 u.d.k) := hcell 1 _ rfl
      have d2 : wr.cell? ⟨b, o + 2, none⟩ = some (.bool u.d.g) := hcell 2 _ rfl
      have d3 : wr.cell? ⟨b, o + 3, none⟩ = some (.slice u.d.la u.d.ln u.d.lc) := hcell 3 _ rfl
      have d4 : wr.cell? ⟨b, o + 4, none⟩ = some (.bool u.d.bb) := hcell 4 _ rfl
      have d5 : wr.cell? ⟨b, o + 5, none⟩ = some (.string u.d.s) := hcell 5 _ rfl
      have d6 : wr.cell? ⟨b, o + 6, none⟩ = some (.slice u.d.ia u.d.items.length u.d.ic) := hcell 6 _ rfl
      have d7 : wr.cell? ⟨b, o + 7, none⟩ = some (.slice u.d.ta u.d.tail.length u.d.tc) := hcell 7 _ rfl
      have d8 : wr.cell? ⟨b, o + 8, none⟩ = some (.int .i64 u.v) := hcell 8 _ rfl
      have d9 : wr.cell? ⟨b, o + 9, none⟩ = some (.slice u.va u.vs.length u.vc) := hcell 9 _ rfl
      have d10 : wr.cell? ⟨b, o + 10, none⟩ = some (.bool u.rs) := hcell 10 _ rfl
      have d11 : wr.cell? ⟨b, o + 11, none⟩ = some (.int .i64 u.p) := hcell 11 _ rfl
      have d12 : wr.cell? ⟨b, o + 12, none⟩ = some (.slice u.ka u.kids.length u.kc) := hcell 12 _ rfl
      have HC := Lib.hid (copiedE_any (w.heap.size + 1) u (by have := HK.out.2.2.2.1; have := HH.out.2.2.2.2.1; omega) (by have := HK.out.2.2.2.2; have := HH.out.2.2.2.2.2.1; omega) HK.out.2.2.1 wr (by omega) hheld)
      clear hheld hcell
      go_wp2_with fail
      refine HC.out.mono ?_
      rintro e w7 ⟨u', rfl, hh, htm, hsh, b7⟩
      have x7 := (b7.block (w.heap.size + 1) (by omega)).trans HH.out.2.2.2.2.2.2
      have hz7 := b7.size
      have hb7 := HH.out.1.trans (b7.mono (by omega))
      clear d0 d1 d2 d3 d4 d5 d6 d7 d8 d9 d10 d11 d12 r100 f100 r101 f101 r102 f102 r103 f103 r104 f104 r105 f105 r106 f106 r107 f107 r108 f108 r109 f109 r110 f110 r111 f111 r112 f112
      have r200 : w7.cell? ⟨w.heap.size + 1, 0, none⟩ = some (.int .i64 0) := by rw [Lib.cell_of_heap x7]; rfl
      have f200 : w7.frozen? ⟨w.heap.size + 1, 0, none⟩ = false := Lib.frozen_of_heap x7 _
      have r201 : w7.cell? ⟨w.heap.size + 1, 1, none⟩ = some (.int .i64 0) := by rw [Lib.cell_of_heap x7]; rfl
      have f201 : w7.frozen? ⟨w.heap.size + 1, 1, none⟩ = false := Lib.frozen_of_heap x7 _
      have r202 : w7.cell? ⟨w.heap.size + 1, 2, none⟩ = some (.bool false) := by rw [Lib.cell_of_heap x7]; rfl
      have f202 : w7.frozen? ⟨w.heap.size + 1, 2, none⟩ = false := Lib.frozen_of_heap x7 _
      have r203 : w7.cell? ⟨w.heap.size + 1, 3, none⟩ = some (.slice none 0 0) := by rw [Lib.cell_of_heap x7]; rfl
      have f203 : w7.frozen? ⟨w.heap.size + 1, 3, none⟩ = false := Lib.frozen_of_heap x7 _
      have r204 : w7.cell? ⟨w.heap.size + 1, 4, none⟩ = some (.bool false) := by rw [Lib.cell_of_heap x7]; rfl
      have f204 : w7.frozen? ⟨w.heap.size + 1, 4, none⟩ = false := Lib.frozen_of_heap x7 _
      have r205 : w7.cell? ⟨w.heap.size + 1, 5, none⟩ = some (.string ⟨#[]⟩) := by rw [Lib.cell_of_heap x7]; rfl
      have f205 : w7.frozen? ⟨w.heap.size + 1, 5, none⟩ = false := Lib.frozen_of_heap x7 _
      have r206 : w7.cell? ⟨w.heap.size + 1, 6, none⟩ = some (.slice none 0 0) := by rw [Lib.cell_of_heap x7]; rfl
      have f206 : w7.frozen? ⟨w.heap.size + 1, 6, none⟩ = false := Lib.frozen_of_heap x7 _
      have r207 : w7.cell? ⟨w.heap.size + 1, 7, none⟩ = some (.slice none 0 0) := by rw [Lib.cell_of_heap x7]; rfl
      have f207 : w7.frozen? ⟨w.heap.size + 1, 7, none⟩ = false := Lib.frozen_of_heap x7 _
      have r208 : w7.cell? ⟨w.heap.size + 1, 8, none⟩ = some (.int .i64 0) := by rw [Lib.cell_of_heap x7]; rfl
      have f208 : w7.frozen? ⟨w.heap.size + 1, 8, none⟩ = false := Lib.frozen_of_heap x7 _
      have r209 : w7.cell? ⟨w.heap.size + 1, 9, none⟩ = some (.slice none 0 0) := by rw [Lib.cell_of_heap x7]; rfl
      have f209 : w7.frozen? ⟨w.heap.size + 1, 9, none⟩ = false := Lib.frozen_of_heap x7 _
      have r210 : w7.cell? ⟨w.heap.size + 1, 10, none⟩ = some (.bool false) := by rw [Lib.cell_of_heap x7]; rfl
      have f210 : w7.frozen? ⟨w.heap.size + 1, 10, none⟩ = false := Lib.frozen_of_heap x7 _
      have r211 : w7.cell? ⟨w.heap.size + 1, 11, none⟩ = some (.int .i64 0) := by rw [Lib.cell_of_heap x7]; rfl
      have f211 : w7.frozen? ⟨w.heap.size + 1, 11, none⟩ = false := Lib.frozen_of_heap x7 _
      have r212 : w7.cell? ⟨w.heap.size + 1, 12, none⟩ = some (.slice none 0 0) := by rw [Lib.cell_of_heap x7]; rfl
      have f212 : w7.frozen? ⟨w.heap.size + 1, 12, none⟩ = false := Lib.frozen_of_heap x7 _
      have HY := Lib.hid (And.intro hh (And.intro htm (And.intro hsh (And.intro hb7 x7))))
      clear hh htm hsh hb7 b7 x7
      go_wp2_with fail
      (try simp only [Exit.inBlock, Exit.then])
      obtain ⟨w6, hw6⟩ : ∃ W, (((((((((((((w7.setCell ⟨w.heap.size + 1, 0, none⟩ (.int .i64 u'.k)).setCell ⟨w.heap.size + 1, 1, none⟩ (.int .i64 u'.d.k)).setCell ⟨w.heap.size + 1, 2, none⟩ (.bool u'.d.g)).setCell ⟨w.heap.size + 1, 3, none⟩ (.slice u'.d.la u'.d.ln u'.d.lc)).setCell ⟨w.heap.size + 1, 4, none⟩ (.bool u'.d.bb)).setCell ⟨w.heap.size + 1, 5, none⟩ (.string u'.d.s)).setCell ⟨w.heap.size + 1, 6, none⟩ (.slice u'.d.ia u'.d.items.length u'.d.ic)).setCell ⟨w.heap.size + 1, 7, none⟩ (.slice u'.d.ta u'.d.tail.length u'.d.tc)).setCell ⟨w.heap.size + 1, 8, none⟩ (.int .i64 u'.v)).setCell ⟨w.heap.size + 1, 9, none⟩ (.slice u'.va u'.vs.length u'.vc)).setCell ⟨w.heap.size + 1, 10, none⟩ (.bool u'.rs)).setCell ⟨w.heap.size + 1, 11, none⟩ (.int .i64 u'.p)).setCell ⟨w.heap.size + 1, 12, none⟩ (.slice u'.ka u'.kids.length u'.kc)) = W := ⟨_, rfl⟩
      have hlow : ∀ k, w.heap.size + 2 ≤ k → w6.heap[k]? = w7.heap[k]? := fun k hk => by rw [← hw6]; simp [World.setCell, Array.getElem?_modify, show ¬ w.heap.size + 1 = k by omega]
      have z6 : w6.heap.size = w7.heap.size := by rw [← hw6]; simp [World.setCell]
      have y6 : w6.heap[w.heap.size + 1]? = some (.cells #[.int .i64 u'.k, .int .i64 u'.d.k, .bool u'.d.g, .slice u'.d.la u'.d.ln u'.d.lc, .bool u'.d.bb, .string u'.d.s, .slice u'.d.ia u'.d.items.length u'.d.ic, .slice u'.d.ta u'.d.tail.length u'.d.tc, .int .i64 u'.v, .slice u'.va u'.vs.length u'.vc, .bool u'.rs, .int .i64 u'.p, .slice u'.ka u'.kids.length u'.kc] 31 (0, 0)) := by rw [← hw6]; simp [World.setCell, Array.getElem?_modify, HY.out.2.2.2.2]
      have hb6 : Below w.heap.size w w6 := by
        rw [← hw6]
        exact (((((((((((((HY.out.2.2.2.1.setCell (p := ⟨w.heap.size + 1, 0, none⟩) (Nat.le_succ _) _).setCell (p := ⟨w.heap.size + 1, 1, none⟩) (Nat.le_succ _) _).setCell (p := ⟨w.heap.size + 1, 2, none⟩) (Nat.le_succ _) _).setCell (p := ⟨w.heap.size + 1, 3, none⟩) (Nat.le_succ _) _).setCell (p := ⟨w.heap.size + 1, 4, none⟩) (Nat.le_succ _) _).setCell (p := ⟨w.heap.size + 1, 5, none⟩) (Nat.le_succ _) _).setCell (p := ⟨w.heap.size + 1, 6, none⟩) (Nat.le_succ _) _).setCell (p := ⟨w.heap.size + 1, 7, none⟩) (Nat.le_succ _) _).setCell (p := ⟨w.heap.size + 1, 8, none⟩) (Nat.le_succ _) _).setCell (p := ⟨w.heap.size + 1, 9, none⟩) (Nat.le_succ _) _).setCell (p := ⟨w.heap.size + 1, 10, none⟩) (Nat.le_succ _) _).setCell (p := ⟨w.heap.size + 1, 11, none⟩) (Nat.le_succ _) _).setCell (p := ⟨w.heap.size + 1, 12, none⟩) (Nat.le_succ _) _)
      refine bodyPost_ret (v := .tuple #[.agg #[.int .i64 u'.k, .int .i64 u'.d.k, .bool u'.d.g, .slice u'.d.la u'.d.ln u'.d.lc, .bool u'.d.bb, .string u'.d.s, .slice u'.d.ia u'.d.items.length u'.d.ic, .slice u'.d.ta u'.d.tail.length u'.d.tc, .int .i64 u'.v, .slice u'.va u'.vs.length u'.vc, .bool u'.rs, .int .i64 u'.p, .slice u'.ka u'.kids.length u'.kc], .bool true]) (results_eb rfl rfl rfl (by rw [hw6, Lib.cell_of_heap y6]; rfl) (by rw [hw6, Lib.cell_of_heap y6]; rfl) (by rw [hw6, Lib.cell_of_heap y6]; rfl) (by rw [hw6, Lib.cell_of_heap y6]; rfl) (by rw [hw6, Lib.cell_of_heap y6]; rfl) (by rw [hw6, Lib.cell_of_heap y6]; rfl) (by rw [hw6, Lib.cell_of_heap y6]; rfl) (by rw [hw6, Lib.cell_of_heap y6]; rfl) (by rw [hw6, Lib.cell_of_heap y6]; rfl) (by rw [hw6, Lib.cell_of_heap y6]; rfl) (by rw [hw6, Lib.cell_of_heap y6]; rfl) (by rw [hw6, Lib.cell_of_heap y6]; rfl) (by rw [hw6, Lib.cell_of_heap y6]; rfl)) rfl ?_
      (try rw [hw6])
      have hk6 : ∀ k, Fresh w7 wr.heap.size k → Fresh w6 w.heap.size k ∧ w6.heap[k]? = w7.heap[k]? := fun k hk => by
        have := hk.1
        exact ⟨(hk.same (hlow k (by omega))).low (by omega), hlow k (by omega)⟩
      exact ⟨hb6, .inr ⟨u, u', HN.out, rfl, HY.out.2.2.1, HY.out.2.1, HY.out.1.keep (by omega) hk6⟩⟩
end
end Go.Proofs.YthdhdmmlmbkalaaGreatDoor
namespace Go.Proofs.YthdhdmmlmbkalaaGreatDoor
section
open Go.RowKit

theorem ownE_lit0 (w : World) : (w.alloc (.cells #[] 31)).ownsRow w.heap.size 31 13 (.slice (some ⟨w.heap.size, 0, none⟩) 0 0) 0 [] := World.ownsRow_lit (base := w.heap.size) (size := 13) w #[] 0 (Nat.le_refl _) (by unfold maxLen; omega) rfl
set_option maxRecDepth 100000 in
theorem nilE_no (ad : Addr) (n c : Nat) (w : World) : (binOp .eql 29 (.slice (some ad) n c) (.slice none 0 0)).run Tryz.prog w = .ok (.bool false) w := by
  first | rfl | kernel_rfl
set_option maxRecDepth 100000 in
set_option maxHeartbeats 1600000 in
theorem cloneE_any (l : List ET) (gb go cap : Nat) (w : World) (hn : 0 < l.length) (hn2 : l.length ≤ 12000000) (hlt : gb < w.heap.size) (hc : ∀ j v, (cellsE l)[j]? = some v → w.cell? ⟨gb, go + j, none⟩ = some v) :
    Calls Tryz.prog 22 #[.slice (some ⟨gb, go, none⟩) l.length cap] w fun e w' => ∃ g c, e = .returned (.slice (some ⟨g, 0, none⟩) l.length c) ∧ l.length ≤ c ∧ c ≤ maxLen ∧ Fresh w' w.heap.size g ∧ (∀ j v, (cellsE l)[j]? = some v → w'.cell? ⟨g, j, none⟩ = some v) ∧ Below w.heap.size w w' := by
  obtain ⟨i0, hi, h2⟩ := Option.map_eq_some_iff.1 infoExp
  have e1 := congrArg Prod.fst h2
  have e2 : i0.size = 13 := congrArg (fun q => q.2.1) h2
  have e3 : i0.bytes ≤ 1000 := of_decide_eq_true (congrArg (fun q => q.2.2) h2)
  clear h2
  have hb1 : Below w.heap.size w (w.alloc (.cells #[] 31)) := (Below.refl _ _).alloc (Nat.le_refl _) _
  have hnews : ∀ j u, (cellsE l)[j]? = some u → (w.alloc (.cells #[] 31)).cell? ((⟨gb, go, none⟩ : Addr).add j) = some u := fun j u hj => by
    rw [cell_add]
    exact (World.cell?_of_block (w := w) (a := ⟨gb, go + j, none⟩) (hb1.block gb (by omega))).trans (hc j u hj)
  have hby : (0 + l.length) * i0.bytes ≤ 140737488355328 := by
    have : (0 + l.length) * i0.bytes ≤ 12000000 * 1000 := Nat.mul_le_mul (by omega) e3
    omega
  have HH := Lib.hid (And.intro hnews (And.intro (ownE_lit0 w) (And.intro hb1 (And.intro hby (And.intro e1 e2)))))
  clear hnews hb1 hc hby e1 e2 e3
  have hnil := nilE_no ⟨gb, go, none⟩ l.length cap w
  go_enter Tryz.func22, Tryz.ntmps22
  go_wp2_with (at_builtin; refine wpList_append_own _ rfl (.tmp 5) (.tmp 6) 29 rfl w.heap.size 31 i0 _ 13 i0.bytes Tryz.underlying29 hi HH.out.2.2.2.2.1 HH.out.2.2.2.2.2 rfl rfl (by decide) _ 0 [] rfl HH.out.2.1 ⟨gb, go, none⟩ l.length cap (cellsE l) rfl (cellsE_length l) HH.out.1 (cellsE_one l) (by unfold maxLen; omega) HH.out.2.2.2.1 (by simp) ?_; intro v' w1 hown1 hg1 _; have HO := Lib.hid (And.intro hown1 hg1); clear hown1 hg1)
  go_ret
  have h0 := HO.out.1
  rw [Nat.zero_add, List.nil_append] at h0
  have hbel := HH.out.2.2.1.grown HO.out.2 (by simp) (fun j hj => by have h9 : some w.heap.size = some j := hj; injection h9 with h9; omega)
  rcases h0.2 with ⟨hv, h00⟩ | ⟨g, c, cur, hv, hg, hgc, h1, h2, _⟩
  · omega
  · subst hv
    refine ⟨g, c, rfl, h1, h2, Fresh.of hg hgc (by decide), fun j v hj => ?_, hbel⟩
    have h3 := h0.cells (g := g) rfl j v hj
    rw [cell_add, Nat.zero_add] at h3
    exact h3

/-- s with x where that path leads to. -/
def putES : ES → List Int → ES → Option ES
  | _, [], x => some x
  | s, i :: p, x => if h : 0 ≤ i ∧ i.toNat < s.kids.length then (putES (s.kids[i.toNat]'h.2) p x).map fun y => .mk s.k s.d s.v s.vs s.rs s.p (s.kids.set i.toNat y) else none
theorem putES_kid {s : ES} {i : Int} {p : List Int} {q : Nat} {x : ES} (hi : i = q) (hq : q < s.kids.length) : putES s (i :: p) x = (putES s.kids[q] p x).map fun y => .mk s.k s.d s.v s.vs s.rs s.p (s.kids.set q y) := by
  subst hi
  simp [putES, hq]
theorem putES_no {s : ES} {i : Int} {p : List Int} {x : ES} (h : ¬ (0 ≤ i ∧ i < (s.kids.length : Int))) : putES s (i :: p) x = none := by
  rw [putES, dif_neg (fun y => h ⟨y.1, by omega⟩)]
theorem liesEPR_iff {w : World} {P : Nat → Prop} : ∀ (l : List ET) (b o : Nat), LiesEPR w P l b o ↔ ∀ i (h : i < l.length), LiesEP w P l[i] b (o + 13 * i)
  | [], b, o => by simp [liesEPR_nil]
  | t :: l, b, o => by
    rw [liesEPR_cons, liesEPR_iff l b (o + 13)]
    constructor
    · rintro ⟨h1, h2⟩ i hi
      cases i with
      | zero => exact h1
      | succ i =>
        have := h2 i (by simpa using hi)
        rw [show o + 13 * (i + 1) = o + 13 + 13 * i by omega]
        exact this
    · intro h
      refine ⟨h 0 (by simp), fun i hi => ?_⟩
      have := h (i + 1) (by simpa using hi)
      rw [show o + 13 + 13 * i = o + 13 * (i + 1) by omega]
      exact this
theorem shapesE_set (l : List ET) (q : Nat) (x : ET) : shapesE (l.set q x) = (shapesE l).set q (shapeE x) := by
  induction l generalizing q with
  | nil => simp [shapesE_nil]
  | cons t l ih =>
    cases q with
    | zero => simp [shapesE_cons]
    | succ q => simp [shapesE_cons, ih]
theorem tameER_set {l : List ET} {q : Nat} {x : ET} (h : TameER l) (hx : TameE x) : TameER (l.set q x) := by
  induction l generalizing q with
  | nil => simpa using h
  | cons t l ih =>
    simp only [TameER] at h
    cases q with
    | zero => simp only [List.set_cons_zero, TameER]; exact ⟨hx, h.2⟩
    | succ q => simp only [List.set_cons_succ, TameER]; exact ⟨h.1, ih h.2⟩
/-- Old blocks of the call's own: below O. -/
def OldP (w : World) (B O k : Nat) : Prop := Fresh w B k ∧ k < O
/-- All of the tree at O stands but the place b, o: what lies there makes it f of that. -/
def Hole (w : World) (B O b o : Nat) (f : ES → ES) : Prop := ∀ (w' : World) (x : ET), w.heap.size ≤ w'.heap.size → (∀ k, k < w.heap.size → k ≠ b → w'.heap[k]? = w.heap[k]?) → (∀ off, ¬ (o ≤ off ∧ off < o + 13) → w'.cell? ⟨b, off, none⟩ = w.cell? ⟨b, off, none⟩) → Fresh w' B b → TameE x → LiesEP w' (Fresh w' B) x b o →
  ∃ u : ET, LiesEP w' (Fresh w' B) u O 0 ∧ TameE u ∧ shapeE u = f (shapeE x)
theorem Hole.root {w : World} {B O : Nat} : Hole w B O O 0 id := fun _ x _ _ _ _ hT hL => ⟨x, hL, hT, rfl⟩
theorem Hole.step {wr w5 w6 : World} {B O b o g c q : Nat} {f : ES → ES} {v : ET} (hO : O < wr.heap.size) (hb : b < wr.heap.size) (hbO : O ≤ b) (hole : Hole wr B O b o f) (hB : B ≤ O) (hFb : Fresh wr B b) (hc : ∀ j x, v.cells[j]? = some x → wr.cell? ⟨b, o + j, none⟩ = some x) (hv : HeldEP wr (OldP wr B O) v) (hT : TameE v) (hq : q < v.kids.length)
    (b5 : Below wr.heap.size wr w5) (hg : Fresh w5 wr.heap.size g) (h1 : v.kids.length ≤ c) (h2 : c ≤ maxLen) (hcl : ∀ j x, (cellsE v.kids)[j]? = some x → w5.cell? ⟨g, j, none⟩ = some x) (h6 : w5.setCell ⟨b, o + 12, none⟩ (.slice (some ⟨g, 0, none⟩) v.kids.length c) = w6) :
    (Hole w6 B O g (q * 13) fun s => f (.mk (shapeE v).k (shapeE v).d (shapeE v).v (shapeE v).vs (shapeE v).rs (shapeE v).p ((shapeE v).kids.set q s))) ∧ Fresh w6 B g ∧ g < w6.heap.size ∧ wr.heap.size ≤ g ∧ (∀ j x, v.kids[q].cells[j]? = some x → w6.cell? ⟨g, q * 13 + j, none⟩ = some x) ∧ HeldEP w6 (OldP w6 B O) v.kids[q] ∧ Below B wr w6 := by
  have hgs := hg.1
  have hglt := hg.lt
  have z5 := b5.size
  have z6 : w6.heap.size = w5.heap.size := by rw [← h6, setCell_size]
  have hk6 : ∀ k, k ≠ b → w6.heap[k]? = w5.heap[k]? := fun k hk => by rw [← h6]; exact Below.heap_setCell _ _ _ _ (by show k ≠ b; exact hk)
  have hk : ∀ k, k < wr.heap.size → k ≠ b → w6.heap[k]? = wr.heap[k]? := fun k hk hkb => (hk6 k hkb).trans (b5.block k hk)
  have hold : ∀ k, OldP wr B O k → OldP w6 B O k ∧ w6.heap[k]? = wr.heap[k]? := fun k hp => by
    have e := hk k hp.1.lt (by have := hp.2; omega)
    exact ⟨⟨hp.1.same e, hp.2⟩, e⟩
  have hFg6 : Fresh w6 B g := (hg.same (hk6 g (by omega))).low (by omega)
  have hcg : ∀ off, w6.cell? ⟨g, off, none⟩ = w5.cell? ⟨g, off, none⟩ := fun off => World.cell?_of_block (w := w5) (a := ⟨g, off, none⟩) (hk6 g (by omega))
  have hkid : ∀ i (h : i < v.kids.length), (∀ j x, v.kids[i].cells[j]? = some x → w6.cell? ⟨g, i * 13 + j, none⟩ = some x) ∧ HeldEP w6 (OldP w6 B O) v.kids[i] := fun i h => by
    refine ⟨fun j x hj => ?_, ?_⟩
    · have hj13 : j < 13 := (List.getElem?_eq_some_iff.1 hj).1
      rw [hcg]
      exact hcl _ x (by rw [cellsE_at _ i h j hj13]; exact hj)
    · exact (liesEP_held.1 ((liesEPR_iff _ _ _).1 hv.2.2 i h)).2.2.keep (by omega) hold
  have hcb : ∀ j, j < 12 → w6.cell? ⟨b, o + j, none⟩ = wr.cell? ⟨b, o + j, none⟩ := fun j hj => by
    rw [← h6, set_other (fun e => by omega)]
    exact b5.cell (p := ⟨b, o + j, none⟩) hb
  have hc12 : w6.cell? ⟨b, o + 12, none⟩ = some (.slice (some ⟨g, 0, none⟩) v.kids.length c) := by
    rw [← h6]
    exact set_here ((b5.cell (p := ⟨b, o + 12, none⟩) hb).trans (hc 12 _ rfl))
  refine ⟨?_, hFg6, by omega, hgs, (hkid q hq).1, (hkid q hq).2, ?_⟩
  · intro w' x hs hbl hcell hFg hTx hLx
    have hTT := (tameE_eq v).1 hT
    have hk' : ∀ k, k < wr.heap.size → k ≠ b → w'.heap[k]? = wr.heap[k]? := fun k hk1 hk2 => (hbl k (by omega) (by omega)).trans (hk k hk1 hk2)
    have hold' : ∀ k, OldP wr B O k → Fresh w' B k ∧ w'.heap[k]? = wr.heap[k]? := fun k hp => by
      have e := hk' k hp.1.lt (by have := hp.2; omega)
      exact ⟨hp.1.same e, e⟩
    have hold6 : ∀ k, OldP w6 B O k → Fresh w' B k ∧ w'.heap[k]? = w6.heap[k]? := fun k hp => by
      have e := hbl k hp.1.lt (by have := hp.2; omega)
      exact ⟨hp.1.same e, e⟩
    have eb : w'.heap[b]? = w6.heap[b]? := hbl b (by omega) (by omega)
    have hFb6 : Fresh w6 B b := by
      obtain ⟨f1, cs, T, f2, f3⟩ := hFb
      have f5 := (b5.block b hb).trans f2
      refine ⟨f1, cs.setIfInBounds (o + 12) (.slice (some ⟨g, 0, none⟩) v.kids.length c), T, ?_, f3⟩
      rw [← h6]
      simp [World.setCell, Array.getElem?_modify, f5]
    have hFb' : Fresh w' B b := hFb6.same eb
    have hL' : LiesEP w' (Fresh w' B) (.mk v.k v.d v.v v.va v.vc v.vs v.rs v.p (some ⟨g, 0, none⟩) c (v.kids.set q x)) b o := by
      refine liesEP_held.2 ⟨hFb', fun j y hj => ?_, ⟨hv.1.1.keep (by omega) hold', hv.1.2.keep hold'⟩, ?_, ?_⟩
      · have hj13 : j < 13 := (List.getElem?_eq_some_iff.1 hj).1
        rw [World.cell?_of_block (w := w6) (a := ⟨b, o + j, none⟩) eb]
        by_cases h : j = 12
        · subst h
          rw [hc12, ← hj]
          simp [ET.cells, ET.ka, ET.kids, ET.kc]
        · rw [hcb j (by omega)]
          refine hc j y ?_
          rcases (show j = 0 ∨ j = 1 ∨ j = 2 ∨ j = 3 ∨ j = 4 ∨ j = 5 ∨ j = 6 ∨ j = 7 ∨ j = 8 ∨ j = 9 ∨ j = 10 ∨ j = 11 by omega) with rfl | rfl | rfl | rfl | rfl | rfl | rfl | rfl | rfl | rfl | rfl | rfl <;> exact hj
      · refine ⟨by simpa [ET.kids, ET.kc] using h1, h2, fun _ => ⟨rfl, hFg⟩, fun e => by cases e⟩
      · show LiesEPR w' (Fresh w' B) (v.kids.set q x) g 0
        refine (liesEPR_iff _ _ _).2 fun i hi => ?_
        have hi' : i < v.kids.length := by simpa using hi
        rw [Nat.zero_add, Nat.mul_comm 13 i]
        by_cases h : i = q
        · subst h
          simpa using hLx
        · rw [List.getElem_set_ne (by omega)]
          obtain ⟨k1, k2⟩ := hkid i hi'
          refine liesEP_held.2 ⟨hFg, fun j y hj => ?_, k2.keep hs hold6⟩
          have hj13 : j < 13 := (List.getElem?_eq_some_iff.1 hj).1
          rw [hcell _ (by omega)]
          exact k1 j y hj
    obtain ⟨u, u1, u2, u3⟩ := hole w' _ (by omega) hk' (fun off ho => by
      rw [World.cell?_of_block (w := w6) (a := ⟨b, off, none⟩) eb, ← h6, set_other (fun e => by omega)]
      exact b5.cell (p := ⟨b, off, none⟩) hb) hFb' (by simp only [TameE]; exact ⟨hTT.1, hTT.2.1, tameER_set hTT.2.2 hTx⟩) hL'
    refine ⟨u, u1, u2, u3.trans ?_⟩
    congr 1
    simp only [shapeE, shapesE_set]
    rw [shapeE_eq v]
    rfl
  · rw [← h6]
    exact (b5.mono (by omega)).setCell (p := ⟨b, o + 12, none⟩) (by show B ≤ b; omega) _
end
end Go.Proofs.YthdhdmmlmbkalaaGreatDoor
