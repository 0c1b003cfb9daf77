/-
  datum.twin of any tree. datum.Size, datum.copied, datum.Items of any tree. whole.Of of any int datum.Number of any int. What a shape tells: depth, and that words are not too long; a row of data made by a call. datum.Same of two data of one shape. core.copiedDatum.
-/
import Derived.Test.YthdhdmmlmbkalaaGreatDoorJr6
import Derived.Test.YthdhdmmlmbkalaaGreatDoorRTwe
import Derived.Laws.EntriesVeiled
import Derived.Test.YthdhdmmlmbkalaaGreatDoorRNw
import Derived.Test.YthdhdmmlmbkalaaGreatDoorJr0
import Derived.Test.YthdhdmmlmbkalaaGreatDoorChecked
import Derived.Outline
import Derived.Deep.RegionHeld3
import Derived.Test.YthdhdmmlmbkalaaGreatDoorJr5
set_option linter.unusedVariables false
set_option linter.unusedSimpArgs false
set_option linter.unusedSectionVars false
set_option linter.unnecessarySimpa false
namespace Go.Proofs.YthdhdmmlmbkalaaGreatDoor
section
open Go.RowKit

theorem infoDat : (Tryz.prog.info? 27).map (fun i => (i.zero, i.size, decide (i.bytes ≤ 1000))) = some (some (.agg #[.int .i64 0, .bool false, .slice none 0 0, .bool false, .string ⟨#[]⟩, .slice none 0 0, .slice none 0 0]), 7, true) := by kernel_rfl
theorem makeDat (cap : Nat) (hn : cap ≤ 1000000000) : ∃ cs : Array Value, cs.size = cap * 7 ∧ ∀ w : World,
    (Instr.makeSlice 25 (.int .i64 0) (.int .i64 (cap : Int))).run Tryz.prog w = .ok (.slice (some ⟨w.heap.size, 0, none⟩) 0 cap) (w.alloc (.cells cs 27)) := by
  obtain ⟨i, hi, h2⟩ := Option.map_eq_some_iff.1 infoDat
  have e1 := congrArg Prod.fst h2
  have e2 : i.size = 7 := congrArg (fun q => q.2.1) h2
  have e3 : i.bytes ≤ 1000 := of_decide_eq_true (congrArg (fun q => q.2.2) h2)
  refine ⟨madeCells (Value.agg #[.int .i64 0, .bool false, .slice none 0 0, .bool false, .string ⟨#[]⟩, .slice none 0 0, .slice none 0 0]).cells (cap * 7), size_madeCells _ _, fun w => ?_⟩
  have hr := run_make (P := Tryz.prog) w 25 27 i _ Tryz.underlying25 hi e1 .i64 .i64 0 cap (by omega) (by omega) (by have : (i.bytes : Int) * cap ≤ 1000 * 1000000000 := Int.mul_le_mul (by omega) (by omega) (by omega) (by omega); omega) (by omega)
  simp only [Int.toNat_natCast, Int.toNat_zero, e2] at hr
  exact hr

theorem five5 (w : World) (A B C E F : Obj) : ∃ w5, w5 = ((((w.alloc A).alloc B).alloc C).alloc E).alloc F ∧ w5.heap[w.heap.size]? = some A ∧ w5.heap[w.heap.size + 1]? = some B ∧ w5.heap[w.heap.size + 2]? = some C ∧ w5.heap[w.heap.size + 3]? = some E ∧ w5.heap[w.heap.size + 4]? = some F ∧ w5.heap.size = w.heap.size + 5 ∧ Below w.heap.size w w5 := by
  have s1 : (w.alloc A).heap.size = w.heap.size + 1 := World.size_alloc ..
  have s2 : ((w.alloc A).alloc B).heap.size = w.heap.size + 2 := by rw [World.size_alloc, s1]
  have s3 : (((w.alloc A).alloc B).alloc C).heap.size = w.heap.size + 3 := by rw [World.size_alloc, s2]
  have s4 : ((((w.alloc A).alloc B).alloc C).alloc E).heap.size = w.heap.size + 4 := by rw [World.size_alloc, s3]
  refine ⟨_, rfl, ?_, ?_, ?_, ?_, ?_, by rw [World.size_alloc, s4], ?_⟩
  · exact (Below.heap_alloc _ _ _ (by omega)).trans ((Below.heap_alloc _ _ _ (by omega)).trans ((Below.heap_alloc _ _ _ (by omega)).trans ((Below.heap_alloc _ _ _ (by omega)).trans (World.alloc_heap_new w A))))
  · exact (Below.heap_alloc _ _ _ (by omega)).trans ((Below.heap_alloc _ _ _ (by omega)).trans ((Below.heap_alloc _ _ _ (by omega)).trans (by have := World.alloc_heap_new (w.alloc A) B; rwa [s1] at this)))
  · exact (Below.heap_alloc _ _ _ (by omega)).trans ((Below.heap_alloc _ _ _ (by omega)).trans (by have := World.alloc_heap_new ((w.alloc A).alloc B) C; rwa [s2] at this))
  · exact (Below.heap_alloc _ _ _ (by omega)).trans (by have := World.alloc_heap_new (((w.alloc A).alloc B).alloc C) E; rwa [s3] at this)
  · have := World.alloc_heap_new ((((w.alloc A).alloc B).alloc C).alloc E) F; rwa [s4] at this
  · exact (((((Below.refl w.heap.size w).alloc (Nat.le_refl _) _).alloc (by omega) _).alloc (by omega) _).alloc (by omega) _).alloc (by omega) _
theorem tame_ln {t : LT} (h : Tame t) : t.ln ≤ 35184372087808 := by have := ((tame_eq t).1 h).1; omega
/-- What the loop starts from. -/
theorem tw_first (hp : PartAny) {M cap : Nat} {t : LT} {w w5 : World} {C : Array Value} (hC : C.size = cap * 7) (hcap : cap ≤ 1000000000) (hM : M ≤ w.heap.size) (hT : Tame t) (hH : Held w M t) (hb : t.size = cap + 1)
    (hW : w5 = ((((w.alloc (Obj.cells #[.int .i64 t.k, .bool t.g, .slice t.la t.ln t.lc, .bool t.bb, .string t.s, .slice t.ia t.items.length t.ic, .slice t.ta t.tail.length t.tc] 27)).alloc (Obj.cells #[.int .i64 0, .bool false, .slice none 0 0, .bool false, .string ⟨#[]⟩, .slice none 0 0, .slice none 0 0] 27)).alloc (.cells C 27)).alloc (.cells #[.slice (some ⟨w.heap.size + 1 + 1, 0, none⟩) 0 cap] 25)).alloc (.cells #[.func (.func 141) #[] #[.pointer (some ⟨w.heap.size + 1 + 1 + 1, 0, none⟩)]] 179)) :
    Calls Tryz.prog 142 #[.pointer (some ⟨w.heap.size, 0, none⟩), .pointer (some ⟨w.heap.size + 1 + 1 + 1 + 1, 0, none⟩)] w5 fun e w' => e = .returned (.tuple #[]) ∧ TwRel w M w.heap.size (w.heap.size + 2) (w.heap.size + 3) (w.heap.size + 4) cap t 0 w' := by
  obtain ⟨x5, rfl, a0, a1, a2, a3, a4, hz, hbel⟩ := five5 w (Obj.cells #[.int .i64 t.k, .bool t.g, .slice t.la t.ln t.lc, .bool t.bb, .string t.s, .slice t.ia t.items.length t.ic, .slice t.ta t.tail.length t.tc] 27) (Obj.cells #[.int .i64 0, .bool false, .slice none 0 0, .bool false, .string ⟨#[]⟩, .slice none 0 0, .slice none 0 0] 27) (.cells C 27) (.cells #[.slice (some ⟨w.heap.size + 1 + 1, 0, none⟩) 0 cap] 25) (.cells #[.func (.func 141) #[] #[.pointer (some ⟨w.heap.size + 1 + 1 + 1, 0, none⟩)]] 179)
  rw [← hW] at a0 a1 a2 a3 a4 hz hbel
  clear hW
  have hse := t.size_eq
  have g1 := sizes_ge t.items
  have g2 := sizes_ge t.tail
  have hTK : w5.cell? ⟨w.heap.size + 4, 0, none⟩ = some (.func (.func 141) #[] #[.pointer (some ⟨w.heap.size + 3, 0, none⟩)]) := by rw [Lib.cell_of_heap a4]; rfl
  refine (hp w.heap.size 0 (w.heap.size + 3) (w.heap.size + 2) (w.heap.size + 4) 0 cap M t w5 ?_ (fun j => Lib.frozen_of_heap a0 _) (hH.keep hbel.size fun q hq => hbel.block q (by omega)) (tame_ln hT) hTK ?_ hcap (by omega) (by omega) (by omega) (by omega) (by omega) (by omega) (by omega) (by omega) (by omega) hM).mono ?_
  · intro j v hj
    rw [Lib.cell_of_heap a0, Nat.zero_add, List.getElem?_toArray]
    exact hj
  · exact ⟨by rw [Lib.cell_of_heap a3]; rfl, Lib.frozen_of_heap a3 _, C, a2, hC⟩
  · rintro e w' ⟨rfl, he⟩
    exact ⟨rfl, tw_start rfl hM (by unfold maxLen; omega) hTK hb hbel a1 (by omega) hH hT he⟩
/-- A round. -/
theorem tw_round (hp : PartAny) {M D cap i : Nat} {t : LT} {w0 w : World} {S : List DT} (hD : D = w0.heap.size) (hMD : M ≤ D) (hcap : cap ≤ 1000000000) (hi : i < S.length) (hr : RoomAt w (D + 3) (D + 2) S.length cap) (hT : w.cell? ⟨D + 4, 0, none⟩ = some (.func (.func 141) #[] #[.pointer (some ⟨D + 3, 0, none⟩)]))
    (hroot : Parted w (Lmb (D + 5) D (D + 2) (D + 3) w) (D + 2) S 0 (shape t) D 0) (hpar : ∀ j (h : j < S.length), j < i → Parted w (Lmb (D + 5) D (D + 2) (D + 3) w) (D + 2) S (j + 1) S[j] (D + 2) (j * 7)) (hsrc : ∀ j (h : j < S.length), i ≤ j → Src w0 M w S[j] (D + 2) (j * 7))
    (hb : i + sizesD (S.drop i) = cap) (hbel : Below D w0 w) (hres : w.heap[D + 1]? = some (Obj.cells #[.int .i64 0, .bool false, .slice none 0 0, .bool false, .string ⟨#[]⟩, .slice none 0 0, .slice none 0 0] 27)) (hsz : w0.heap.size + 5 ≤ w.heap.size) :
    Calls Tryz.prog 142 #[.pointer (some ⟨D + 2, i * 7, none⟩), .pointer (some ⟨D + 4, 0, none⟩)] w fun e w' => e = .returned (.tuple #[]) ∧ TwRel w0 M D (D + 2) (D + 3) (D + 4) cap t (i + 1) w' := by
  obtain ⟨u, u1, u2, u3, u4⟩ := hsrc i hi (Nat.le_refl _)
  have hroom := tw_room hi hb u1
  have hin : i * 7 + 7 ≤ S.length * 7 := by omega
  refine (hp (D + 2) (i * 7) (D + 3) (D + 2) (D + 4) S.length cap M u w u4 (fun j => room_frozen hr _) (u2.keep hbel.size fun q hq => hbel.block q (by omega)) (tame_ln u3) hT hr hcap hroom (by omega) (by omega) (by omega) (by omega) (by omega) (fun _ => hin) (by omega) (by omega) (by omega)).mono ?_
  rintro e w' ⟨rfl, he⟩
  exact ⟨rfl, tw_step hD hMD (by unfold maxLen; omega) hi hT hroot hpar hsrc hb hbel hres hsz u1 u2 u3 he⟩

set_option maxRecDepth 100000 in
set_option maxHeartbeats 6400000 in
theorem twin_tree (hp : PartAny) (M : Nat) (t : LT) (h1 : t.size ≤ 20000001) (hT : Tame t) (w : World) (hM : M ≤ w.heap.size) (hH : Held w M t) :
    Calls Tryz.prog 126 #[.agg #[.int .i64 t.k, .bool t.g, .slice t.la t.ln t.lc, .bool t.bb, .string t.s, .slice t.ia t.items.length t.ic, .slice t.ta t.tail.length t.tc], .int .i64 (t.size : Nat)] w (NPost (shape t) w) := by
  obtain ⟨cap, hcap⟩ : ∃ cap, t.size = cap + 1 := ⟨t.size - 1, by have := t.size_eq; omega⟩
  rw [hcap] at h1 ⊢
  have HH := Lib.hid (And.intro hp (And.intro hT (And.intro hH hcap)))
  obtain ⟨cs, hcs, hmk⟩ := makeDat cap (by omega)
  clear hp hT hH hcap
  go_enter Tryz.func126, Tryz.ntmps126
  go_wp2_with fail
  refine (tw_first HH.out.1 hcs (by omega) hM HH.out.2.1 HH.out.2.2.1 HH.out.2.2.2 rfl).mono ?_
  rintro e w1 ⟨rfl, hrel1⟩
  have HR := Lib.hid hrel1
  clear hrel1 hmk
  go_wp2_with fail
  go_loopw [8] (fun i wr => ∃ k : Nat, i = .int .i64 k ∧ TwRel w M w.heap.size (w.heap.size + 2) (w.heap.size + 3) (w.heap.size + 4) cap t k wr) (fun i _ => cap - (intOf i).toNat)
  case atStart => exact ⟨0, rfl, HR.out⟩
  case round =>
    obtain ⟨k, rfl, S, hkS, hroom, hTK, hroot, hpar, hsrc, hb, hbel, hres, hfz, hsz⟩ := hrel
    have q1 : wr.cell? ⟨w.heap.size + 1 + 1 + 1, 0, none⟩ = some (.slice (some ⟨w.heap.size + 1 + 1, 0, none⟩) S.length cap) := hroom.1
    have hcapS : S.length ≤ cap := by have := sizesD_ge (S.drop k); rw [List.length_drop] at this; omega
    by_cases hlt : k < S.length
    · have HS := Lib.hid (tw_round HH.out.1 rfl hM (by omega) hlt hroom hTK hroot hpar hsrc hb hbel hres hsz)
      clear hroom hTK hroot hpar hsrc hb hbel hres hfz
      go_wp2_with fail
      refine HS.out.mono ?_
      rintro e w2 ⟨rfl, hR2⟩
      have HR2 := Lib.hid hR2
      clear hR2 q1
      go_wp2_with fail
      go_roundw
      case rel => exact ⟨k + 1, by go_num, HR2.out⟩
      case measure => simp [intOf]; omega
    · have hgF : Fresh wr (w.heap.size + 2) (w.heap.size + 2) := by
        obtain ⟨cur, hc1, _⟩ := hroom.2.2
        exact Fresh.of (Nat.le_refl _) hc1 (by decide)
      obtain ⟨u, hu1, hu2, hu3⟩ := tw_end (by omega) hgF hroot hpar
      simp only [Nat.zero_add] at hu2
      have d0 : wr.cell? ⟨w.heap.size, 0, none⟩ = some (.int .i64 u.k) := hu2 0 _ rfl
      have d1 : wr.cell? ⟨w.heap.size, 1, none⟩ = some (.bool u.g) := hu2 1 _ rfl
      have d2 : wr.cell? ⟨w.heap.size, 2, none⟩ = some (.slice u.la u.ln u.lc) := hu2 2 _ rfl
      have d3 : wr.cell? ⟨w.heap.size, 3, none⟩ = some (.bool u.bb) := hu2 3 _ rfl
      have d4 : wr.cell? ⟨w.heap.size, 4, none⟩ = some (.string u.s) := hu2 4 _ rfl
      have d5 : wr.cell? ⟨w.heap.size, 5, none⟩ = some (.slice u.ia u.items.length u.ic) := hu2 5 _ rfl
      have d6 : wr.cell? ⟨w.heap.size, 6, none⟩ = some (.slice u.ta u.tail.length u.tc) := hu2 6 _ rfl
      have hrs := fun j => Lib.cell_of_heap hres j
      have r0 := hrs 0; have r1 := hrs 1; have r2 := hrs 2; have r3 := hrs 3; have r4 := hrs 4; have r5 := hrs 5; have r6 := hrs 6
      have hrf := fun j => Lib.frozen_of_heap hres j
      have f0 := hrf 0; have f1 := hrf 1; have f2 := hrf 2; have f3 := hrf 3; have f4 := hrf 4; have f5 := hrf 5; have f6 := hrf 6
      simp only [List.getElem?_toArray, List.getElem?_cons_zero, List.getElem?_cons_succ] at r0 r1 r2 r3 r4 r5 r6
      have HY := Lib.hid (And.intro hu3 (And.intro hu1 hbel))
      clear hu1 hu2 hu3 hrs hrf hroom hTK hroot hpar hsrc hb hbel hres hfz hgF HR
      go_wp2_with fail
      (try simp only [Exit.inBlock, Exit.then])
      refine bodyPost_ret (v := .agg #[.int .i64 u.k, .bool u.g, .slice u.la u.ln u.lc, .bool u.bb, .string u.s, .slice u.ia u.items.length u.ic, .slice u.ta u.tail.length u.tc]) (results_d rfl rfl (by go_simp) (by go_simp) (by go_simp) (by go_simp) (by go_simp) (by go_simp <;> rfl) (by go_simp)) rfl ⟨u, rfl, ?_, HY.out.2.1, ?_⟩
      · exact HeldP.low (U := w.heap.size + 2) HY.out.1 (set7_low (Low.refl w.heap.size (w.heap.size + 2) _) (by omega) (by omega)) (by omega)
      · exact set7_below HY.out.2.2 (by omega)
theorem twin_any (M : Nat) (t : LT) (h1 : t.size ≤ 20000001) (hT : Tame t) (w : World) (hM : M ≤ w.heap.size) (hH : Held w M t) :
    Calls Tryz.prog 126 #[.agg #[.int .i64 t.k, .bool t.g, .slice t.la t.ln t.lc, .bool t.bb, .string t.s, .slice t.ia t.items.length t.ic, .slice t.ta t.tail.length t.tc], .int .i64 (t.size : Nat)] w (NPost (shape t) w) := twin_tree part_all M t h1 hT w hM hH
end
end Go.Proofs.YthdhdmmlmbkalaaGreatDoor
namespace Go.Proofs.YthdhdmmlmbkalaaGreatDoor
section
open Go.RowKit

theorem three3 (w : World) (A B C : Obj) : ∃ w3, w3 = ((w.alloc A).alloc B).alloc C ∧ w3.heap[w.heap.size]? = some A ∧ w3.heap[w.heap.size + 1]? = some B ∧ w3.heap[w.heap.size + 2]? = some C ∧ w3.heap.size = w.heap.size + 3 ∧ Below w.heap.size w w3 ∧ Below (w.heap.size + 1) (w.alloc A) w3 := by
  have s1 : (w.alloc A).heap.size = w.heap.size + 1 := World.size_alloc ..
  have s2 : ((w.alloc A).alloc B).heap.size = w.heap.size + 2 := by rw [World.size_alloc, s1]
  refine ⟨_, rfl, ?_, ?_, ?_, by rw [World.size_alloc, s2], ?_, ?_⟩
  · exact (Below.heap_alloc _ _ _ (by omega)).trans ((Below.heap_alloc _ _ _ (by omega)).trans (World.alloc_heap_new w A))
  · exact (Below.heap_alloc _ _ _ (by omega)).trans (by have := World.alloc_heap_new (w.alloc A) B; rwa [s1] at this)
  · have := World.alloc_heap_new ((w.alloc A).alloc B) C; rwa [s2] at this
  · exact (((Below.refl w.heap.size w).alloc (Nat.le_refl _) _).alloc (by omega) _).alloc (by omega) _
  · exact ((Below.refl (w.heap.size + 1) (w.alloc A)).alloc (by omega) _).alloc (by omega) _

set_option maxRecDepth 100000 in
set_option maxHeartbeats 3200000 in
theorem copied_any (M md dd : Nat) (t : LT) (h1 : t.size ≤ md) (hmd : md ≤ 20000000) (h2 : t.depth ≤ dd) (hT : Tame t) (w : World) (hM : M ≤ w.heap.size) (hH : Held w M t) :
    Calls Tryz.prog 105 #[.agg #[.int .i64 t.k, .bool t.g, .slice t.la t.ln t.lc, .bool t.bb, .string t.s, .slice t.ia t.items.length t.ic, .slice t.ta t.tail.length t.tc], .agg #[.int .i64 md, .int .i64 dd]] w (NPost (shape t) w) := by
  have hl := (show DatV w M t from hH).boxed hM
  unfold LT.cells at hl
  obtain ⟨w3, hw3, a0, a1, a2, hz, hbel, hbel1⟩ := three3 w (Obj.cells #[.int .i64 t.k, .bool t.g, .slice t.la t.ln t.lc, .bool t.bb, .string t.s, .slice t.ia t.items.length t.ic, .slice t.ta t.tail.length t.tc] 27) (.cells #[.int .i64 md, .int .i64 dd] 117) (Obj.cells #[.int .i64 0, .bool false, .slice none 0 0, .bool false, .string ⟨#[]⟩, .slice none 0 0, .slice none 0 0] 27)
  have hl3 : Lies w3 (w.heap.size + 1) t w.heap.size 0 := hl.keep (by rw [hz, World.size_alloc]; omega) (fun k hk => hbel1.block k hk) _ _ _
  have htw := fun W (hb : Below w.heap.size w W) => twin_any M t (by omega) hT W (Nat.le_trans hM hb.size) (hH.below hM hb)
  have HL := Lib.hid (And.intro hl3 (And.intro a0 (And.intro a2 (And.intro hz (And.intro hbel (And.intro htw hw3))))))
  clear hl hH hT hl3 a0 a1 a2 hz hbel hbel1 htw hw3
  generalize shape t = d at *
  go_enter Tryz.func105, Tryz.ntmps105
  go_wp2_with fail
  rw [← HL.out.2.2.2.2.2.2]
  refine (measure_any (w.heap.size + 1) w.heap.size 0 md dd t w3 (by rw [HL.out.2.2.2.1]; omega) HL.out.1 h1 h2 (by omega)).mono ?_
  rintro e w4 ⟨rfl, b4⟩
  have z4 : w.heap.size + 3 ≤ w4.heap.size := by have := b4.size; rw [HL.out.2.2.2.1] at this; exact this
  have hd := (b4.block w.heap.size (by rw [HL.out.2.2.2.1]; omega)).trans HL.out.2.1
  have hr := (b4.block (w.heap.size + 2) (by rw [HL.out.2.2.2.1]; omega)).trans HL.out.2.2.1
  have hb4 : Below w.heap.size w w4 := HL.out.2.2.2.2.1.trans (b4.mono (by rw [HL.out.2.2.2.1]; omega))
  have hd5 : (w4.alloc (.cells #[.int .i64 (t.size : Nat), .int .i64 (t.depth : Nat)] 117)).heap[w.heap.size]? = some (Obj.cells #[.int .i64 t.k, .bool t.g, .slice t.la t.ln t.lc, .bool t.bb, .string t.s, .slice t.ia t.items.length t.ic, .slice t.ta t.tail.length t.tc] 27) := (Below.heap_alloc _ _ _ (by omega)).trans hd
  have hds := fun j => Lib.cell_of_heap hd5 j
  have d0 := hds 0; have d1 := hds 1; have d2 := hds 2; have d3 := hds 3; have d4 := hds 4; have d5 := hds 5; have d6 := hds 6
  simp only [List.getElem?_toArray, List.getElem?_cons_zero, List.getElem?_cons_succ] at d0 d1 d2 d3 d4 d5 d6
  have H5 := Lib.hid (And.intro hr hb4)
  clear b4 hd hr hb4 hds hd5
  go_wp2_with fail
  refine (HL.out.2.2.2.2.2.1 _ (H5.out.2.alloc H5.out.2.size _)).mono ?_
  rintro e w6 ⟨u, rfl, hP, hsh, b6⟩
  have z6 : w4.heap.size + 1 ≤ w6.heap.size := by have := b6.size; rwa [World.size_alloc] at this
  have hr6 : w6.heap[w.heap.size + 2]? = some (Obj.cells #[.int .i64 0, .bool false, .slice none 0 0, .bool false, .string ⟨#[]⟩, .slice none 0 0, .slice none 0 0] 27) := (b6.block _ (by rw [World.size_alloc]; omega)).trans ((Below.heap_alloc _ _ _ (by omega)).trans H5.out.1)
  have hrs := fun j => Lib.cell_of_heap hr6 j
  have r0 : w6.cell? ⟨w.heap.size + 1 + 1, 0, none⟩ = _ := hrs 0
  have r1 : w6.cell? ⟨w.heap.size + 1 + 1, 1, none⟩ = _ := hrs 1
  have r2 : w6.cell? ⟨w.heap.size + 1 + 1, 2, none⟩ = _ := hrs 2
  have r3 : w6.cell? ⟨w.heap.size + 1 + 1, 3, none⟩ = _ := hrs 3
  have r4 : w6.cell? ⟨w.heap.size + 1 + 1, 4, none⟩ = _ := hrs 4
  have r5 : w6.cell? ⟨w.heap.size + 1 + 1, 5, none⟩ = _ := hrs 5
  have r6 : w6.cell? ⟨w.heap.size + 1 + 1, 6, none⟩ = _ := hrs 6
  have hrf := fun j => Lib.frozen_of_heap hr6 j
  have f0 : w6.frozen? ⟨w.heap.size + 1 + 1, 0, none⟩ = _ := hrf 0
  have f1 : w6.frozen? ⟨w.heap.size + 1 + 1, 1, none⟩ = _ := hrf 1
  have f2 : w6.frozen? ⟨w.heap.size + 1 + 1, 2, none⟩ = _ := hrf 2
  have f3 : w6.frozen? ⟨w.heap.size + 1 + 1, 3, none⟩ = _ := hrf 3
  have f4 : w6.frozen? ⟨w.heap.size + 1 + 1, 4, none⟩ = _ := hrf 4
  have f5 : w6.frozen? ⟨w.heap.size + 1 + 1, 5, none⟩ = _ := hrf 5
  have f6 : w6.frozen? ⟨w.heap.size + 1 + 1, 6, none⟩ = _ := hrf 6
  simp only [List.getElem?_toArray, List.getElem?_cons_zero, List.getElem?_cons_succ] at r0 r1 r2 r3 r4 r5 r6
  rw [World.size_alloc] at hP
  have HY := Lib.hid (And.intro hP (And.intro hsh ((H5.out.2.alloc H5.out.2.size _).trans (b6.mono (by rw [World.size_alloc]; omega)))))
  clear b6 hrs hrf hr6 hP hsh d0 d1 d2 d3 d4 d5 d6
  go_wp2_with fail
  (try simp only [Exit.inBlock, Exit.then])
  refine bodyPost_ret (v := .agg #[.int .i64 u.k, .bool u.g, .slice u.la u.ln u.lc, .bool u.bb, .string u.s, .slice u.ia u.items.length u.ic, .slice u.ta u.tail.length u.tc]) (results_d rfl rfl (by go_simp) (by go_simp) (by go_simp) (by go_simp) (by go_simp) (by go_simp <;> rfl) (by go_simp)) rfl ⟨u, rfl, ?_, HY.out.2.1, ?_⟩
  · exact HeldP.low (U := w.heap.size + 3) (HY.out.1.keep (Nat.le_refl _) fun q hq => ⟨hq.low (by omega), rfl⟩) (set7_low (Low.refl w.heap.size (w.heap.size + 3) _) (by omega) (by omega)) (by omega)
  · exact set7_below HY.out.2.2 (by omega)

set_option maxRecDepth 100000 in
theorem given_any (w : World) : Calls Tryz.prog 106 #[] w fun e w' => e = .returned (.agg #[.int .i64 20000000, .int .i64 65537]) ∧ Below w.heap.size w w' := by
  go_enter Tryz.func106, Tryz.ntmps106
  go_wp2_with fail
  (try simp only [Exit.inBlock, Exit.then])
  refine bodyPost_ret (v := .agg #[.int .i64 20000000, .int .i64 65537]) (by simp [results, Tryz.results106, go_sem]) rfl ⟨rfl, ?_⟩
  repeat (first | exact Below.refl _ _ | refine Below.setCell (hp := by simp) ?_ _ | refine Below.alloc ?_ (by simp) _)
/-- The list of l, as Items makes it up. -/
def rowL (a : Option Addr) (c : Nat) (l : List LT) : LT := .mk 5 false none 0 0 [] false ⟨#[]⟩ a c l none 0 []

set_option maxRecDepth 100000 in
set_option maxHeartbeats 3200000 in
theorem items_any (M : Nat) (a : Option Addr) (c : Nat) (l : List LT) (h1 : (rowL a c l).size ≤ 20000000) (h2 : (rowL a c l).depth ≤ 65537) (hT : Tame (rowL a c l)) (w : World) (hM : M ≤ w.heap.size) (hH : Held w M (rowL a c l)) :
    Calls Tryz.prog 81 #[.slice a l.length c] w (NPost (shape (rowL a c l)) w) := by
  have hcp : ∀ W, Below w.heap.size w W → Calls Tryz.prog 105 #[.agg #[.int .i64 5, .bool false, .slice none 0 0, .bool false, .string ⟨#[]⟩, .slice a l.length c, .slice none 0 0], .agg #[.int .i64 20000000, .int .i64 65537]] W (NPost (shape (rowL a c l)) W) := fun W hb => copied_any M 20000000 65537 (rowL a c l) h1 (Nat.le_refl _) h2 hT W (Nat.le_trans hM hb.size) (hH.below hM hb)
  have HL := Lib.hid hcp
  clear hH hT hcp h1 h2
  generalize shape (rowL a c l) = d at *
  generalize l.length = n at *
  go_enter Tryz.func81, Tryz.ntmps81
  go_wp2_with fail
  have hR := World.alloc_heap_new w (Obj.cells #[.int .i64 0, .bool false, .slice none 0 0, .bool false, .string ⟨#[]⟩, .slice none 0 0, .slice none 0 0] 27)
  have hb1 : Below w.heap.size w (w.alloc (Obj.cells #[.int .i64 0, .bool false, .slice none 0 0, .bool false, .string ⟨#[]⟩, .slice none 0 0, .slice none 0 0] 27)) := (Below.refl w.heap.size w).alloc (Nat.le_refl _) _
  have HA := Lib.hid (And.intro hR hb1)
  clear hR hb1
  refine (given_any _).mono ?_
  rintro e w2 ⟨rfl, b2⟩
  have z2 : w.heap.size + 1 ≤ w2.heap.size := by have := b2.size; rwa [World.size_alloc] at this
  have HB := Lib.hid (And.intro ((b2.block w.heap.size (by rw [World.size_alloc]; omega)).trans HA.out.1) (HA.out.2.trans (b2.mono (by rw [World.size_alloc]; omega))))
  clear b2
  go_wp2_with fail
  refine (HL.out w2 HB.out.2).mono ?_
  rintro e w6 ⟨u, rfl, hP, hsh, b6⟩
  have z6 := b6.size
  have hr6 := (b6.block w.heap.size (by omega)).trans HB.out.1
  have hrs := fun j => Lib.cell_of_heap hr6 j
  have r0 := hrs 0; have r1 := hrs 1; have r2 := hrs 2; have r3 := hrs 3; have r4 := hrs 4; have r5 := hrs 5; have r6 := hrs 6
  have hrf := fun j => Lib.frozen_of_heap hr6 j
  have f0 := hrf 0; have f1 := hrf 1; have f2 := hrf 2; have f3 := hrf 3; have f4 := hrf 4; have f5 := hrf 5; have f6 := hrf 6
  simp only [List.getElem?_toArray, List.getElem?_cons_zero, List.getElem?_cons_succ] at r0 r1 r2 r3 r4 r5 r6
  have HY := Lib.hid (And.intro hP (And.intro hsh (HB.out.2.trans (b6.mono (by omega)))))
  clear b6 hrs hrf hr6 hP hsh
  go_wp2_with fail
  (try simp only [Exit.inBlock, Exit.then])
  refine bodyPost_ret (v := .agg #[.int .i64 u.k, .bool u.g, .slice u.la u.ln u.lc, .bool u.bb, .string u.s, .slice u.ia u.items.length u.ic, .slice u.ta u.tail.length u.tc]) (results_d rfl rfl (by go_simp) (by go_simp) (by go_simp) (by go_simp) (by go_simp) (by go_simp <;> rfl) (by go_simp)) rfl ⟨u, rfl, ?_, HY.out.2.1, ?_⟩
  · exact HeldP.low (U := w.heap.size + 1) (HY.out.1.keep (Nat.le_refl _) fun q hq => ⟨hq.low (by omega), rfl⟩) (set7_low (Low.refl w.heap.size (w.heap.size + 1) _) (by omega) (by omega)) (by omega)
  · exact set7_below HY.out.2.2 (by omega)
end
end Go.Proofs.YthdhdmmlmbkalaaGreatDoor
namespace Go.Proofs.YthdhdmmlmbkalaaGreatDoor
section
open Go.RowKit

section
variable {w w' : World} {g : Nat} {s x : Value}
end
section
variable {w : World} {u v : Value} {a b : Int} {K L : Nat}
end
section
variable {w : World} {u v : Value} {a b : Int} {K L : Nat}
end
section
variable {w : World} {u v : Value} {a b : Int} {K L : Nat}
end
section
variable {w : World} {u v : Value} {a b : Int} {K L : Nat}
end
section
variable {w : World} {u v : Value} {a b : Int} {K L : Nat}
end
end
end Go.Proofs.YthdhdmmlmbkalaaGreatDoor
namespace Go.Proofs.YthdhdmmlmbkalaaGreatDoor
section
open Go.RowKit

theorem Spot.upM {M N : Nat} {a : Option Addr} {n c : Nat} (h : Spot M a n c) (hMN : M ≤ N) : Spot N a n c := ⟨h.1, h.2.1, fun hp => ⟨(h.2.2.1 hp).1, Nat.lt_of_lt_of_le (h.2.2.1 hp).2 hMN⟩, h.2.2.2⟩
mutual
theorem Lies.upM {w : World} {M N : Nat} (hMN : M ≤ N) : ∀ (t : LT) (b o : Nat), Lies w M t b o → Lies w N t b o
  | .mk k g la ln lc ys bb s ia ic items ta tc tail, b, o, h => by
    simp only [Lies] at h ⊢
    obtain ⟨h1, h2, h3, h4, h5, h6, h7⟩ := h
    exact ⟨by omega, h2, ⟨h3.1, fun hp => Nat.lt_of_lt_of_le (h3.2.1 hp) hMN, h3.2.2⟩, h4.upM hMN, h5.upM hMN, LiesR.upM hMN _ _ _ h6, LiesR.upM hMN _ _ _ h7⟩
theorem LiesR.upM {w : World} {M N : Nat} (hMN : M ≤ N) : ∀ (l : List LT) (b o : Nat), LiesR w M l b o → LiesR w N l b o
  | [], _, _, _ => by simp [LiesR]
  | t :: l, b, o, h => by
    simp only [LiesR] at h ⊢
    exact ⟨Lies.upM hMN t b o h.1, LiesR.upM hMN l b (o + 7) h.2⟩
end
theorem Held.upP {w : World} {M N : Nat} {t : LT} (h : Held w M t) (hMN : M ≤ N) : Held w N t := ⟨⟨h.1.1, fun hp => Nat.lt_of_lt_of_le (h.1.2.1 hp) hMN, h.1.2.2⟩, h.2.1.upM hMN, h.2.2.1.upM hMN, LiesR.upM hMN _ _ _ h.2.2.2.1, LiesR.upM hMN _ _ _ h.2.2.2.2⟩
end
end Go.Proofs.YthdhdmmlmbkalaaGreatDoor
namespace Go.Proofs.YthdhdmmlmbkalaaGreatDoor
section
open Go.RowKit

mutual
def depthD : DT → Nat
  | .mk _ _ _ _ _ items tail => 1 + max (depthsD items) (depthsD tail)
def depthsD : List DT → Nat
  | [] => 0
  | t :: l => max (depthD t) (depthsD l)
end
mutual
theorem depthD_shape : ∀ t : LT, depthD (shape t) = t.depth
  | .mk k g la ln lc ys bb s ia ic items ta tc tail => by
    have h1 := depthsD_shapes items
    have h2 := depthsD_shapes tail
    simp only [shape, depthD, LT.depth, h1, h2]
theorem depthsD_shapes : ∀ l : List LT, depthsD (shapes l) = depths l
  | [] => by simp [shapes, depthsD, depths]
  | t :: l => by
    have h1 := depthD_shape t
    have h2 := depthsD_shapes l
    simp only [shapes, depthsD, depths, h1, h2]
end
mutual
def tameD : DT → Prop
  | .mk _ _ ys _ _ items tail => ys.length ≤ 35184372087808 ∧ tamesD items ∧ tamesD tail
def tamesD : List DT → Prop
  | [] => True
  | t :: l => tameD t ∧ tamesD l
end
mutual
theorem tame_lies {w : World} {M : Nat} : ∀ (t : LT) (b o : Nat), Lies w M t b o → (Tame t ↔ tameD (shape t))
  | .mk k g la ln lc ys bb s ia ic items ta tc tail, b, o, h => by
    simp only [Lies] at h
    obtain ⟨h1, h2, h3, h4, h5, h6, h7⟩ := h
    have e1 := tames_lies items _ _ h6
    have e2 := tames_lies tail _ _ h7
    have e3 := h3.1.len
    simp only [Tame, shape, tameD, e1, e2, e3]
theorem tames_lies {w : World} {M : Nat} : ∀ (l : List LT) (b o : Nat), LiesR w M l b o → (TameR l ↔ tamesD (shapes l))
  | [], _, _, _ => by simp [TameR, shapes, tamesD]
  | t :: l, b, o, h => by
    simp only [LiesR] at h
    have e1 := tame_lies t b o h.1
    have e2 := tames_lies l b (o + 7) h.2
    simp only [TameR, shapes, tamesD, e1, e2]
end
theorem tame_held {w : World} {M : Nat} {t : LT} (h : Held w M t) : Tame t ↔ tameD (shape t) := by
  have e1 := tames_lies t.items _ _ h.2.2.2.1
  have e2 := tames_lies t.tail _ _ h.2.2.2.2
  have e3 := h.1.1.len
  rw [tame_eq, shape_eq]
  simp only [tameD, e1, e2, e3]
/-- What has the shape of one that is not too long is not too long either. -/
theorem tame_same {w w' : World} {M N : Nat} {t u : LT} (h : Held w M t) (h' : Held w' N u) (hs : shape u = shape t) (hT : Tame t) : Tame u := by
  rw [tame_held h', hs, ← tame_held h]
  exact hT
theorem size_same {t u : LT} (hs : shape u = shape t) : u.size = t.size := by rw [← sizeD_shape, hs, sizeD_shape]
theorem depth_same {t u : LT} (hs : shape u = shape t) : u.depth = t.depth := by rw [← depthD_shape, hs, depthD_shape]
theorem rowL_size (a : Option Addr) (c : Nat) (l : List LT) : (rowL a c l).size = 1 + sizes l := by simp [rowL, LT.size, sizes]
theorem rowL_depth (a : Option Addr) (c : Nat) (l : List LT) : (rowL a c l).depth = 1 + depths l := by simp [rowL, LT.depth, depths]
theorem rowL_tame (a : Option Addr) (c : Nat) (l : List LT) : Tame (rowL a c l) ↔ TameR l := by simp [rowL, Tame, TameR]
/-- A row that a call wrote out. -/
theorem rowL_held {M D : Nat} {l : List LT} {W : World} {T : TypeId} {fr : Nat × Nat} (hD : M ≤ D) (h : W.heap[D]? = some (.cells (cellsAll l).toArray T fr)) (hn : l.length ≤ 100) (hl : ∀ x ∈ l, Held W M x) : Held W (D + 1) (rowL (some ⟨D, 0, none⟩) l.length l) := by
  refine ⟨⟨Sl.nil, fun h => absurd h (Nat.lt_irrefl _), empty_le⟩, ⟨Nat.le_refl _, by show l.length ≤ maxLen; unfold maxLen; omega, fun _ => ⟨rfl, by show D < D + 1; omega⟩, fun h => by cases h⟩, ⟨Nat.le_refl _, by show 0 ≤ maxLen; decide, fun h => absurd h (Nat.lt_irrefl _), fun _ => rfl⟩, ?_, ?_⟩
  · show LiesR W (D + 1) l D 0
    refine (liesR_iff _ _ _).2 fun i hi => lies_held.2 ⟨by omega, fun j v hj => ?_, (hl _ (List.getElem_mem hi)).upP (by omega)⟩
    have hj7 : j < 7 := (List.getElem?_eq_some_iff.1 hj).1
    rw [Lib.cell_of_heap h, List.getElem?_toArray, show 0 + 7 * i + j = i * 7 + j by omega, cellsAll_at' l i hi j hj7]
    exact hj
  · show LiesR W (D + 1) [] _ _
    simp [LiesR]
end
end Go.Proofs.YthdhdmmlmbkalaaGreatDoor
namespace Go.Proofs.YthdhdmmlmbkalaaGreatDoor
section
open Go.RowKit

set_option maxRecDepth 100000 in
set_option maxHeartbeats 6400000 in
theorem same_yes (M : Nat) (a b : LT) (hs : shape a = shape b) (h1 : a.size ≤ 100000) (h2 : a.depth ≤ 10000) (hTa : Tame a) (hTb : Tame b) (w : World) (hM : M ≤ w.heap.size) (hA : Held w M a) (hB : Held w M b) :
    Calls Tryz.prog 44 #[.agg #[.int .i64 a.k, .bool a.g, .slice a.la a.ln a.lc, .bool a.bb, .string a.s, .slice a.ia a.items.length a.ic, .slice a.ta a.tail.length a.tc], .agg #[.int .i64 b.k, .bool b.g, .slice b.la b.ln b.lc, .bool b.bb, .string b.s, .slice b.ia b.items.length b.ic, .slice b.ta b.tail.length b.tc]] w fun e w' => e = .returned (.bool true) ∧ Below w.heap.size w w' := by
  obtain ⟨w2, hw2, a0, a1, hz, hbel⟩ := two2 w (Obj.cells #[.int .i64 a.k, .bool a.g, .slice a.la a.ln a.lc, .bool a.bb, .string a.s, .slice a.ia a.items.length a.ic, .slice a.ta a.tail.length a.tc] 27) (Obj.cells #[.int .i64 b.k, .bool b.g, .slice b.la b.ln b.lc, .bool b.bb, .string b.s, .slice b.ia b.items.length b.ic, .slice b.ta b.tail.length b.tc] 27)
  have hla := fun W (hb : Below w.heap.size w W) => isLooked_any a M W (hA.below hM hb) (Nat.le_trans hM hb.size) h1 h2
  have hlb := fun W (hb : Below w.heap.size w W) => isLooked_any b M W (hB.below hM hb) (Nat.le_trans hM hb.size) (by rw [← size_same hs]; exact h1) (by rw [← depth_same hs]; exact h2)
  have hal := fun W (hb : Below w.heap.size w W) => alike_same M 100000 (by decide) a b h1 hs hTa hTb W (Nat.le_trans hM hb.size) (hA.below hM hb) (hB.below hM hb)
  unfold LT.cells at hla hlb
  have HL := Lib.hid (And.intro hla (And.intro hlb hal))
  have HW := Lib.hid (And.intro hw2 (And.intro a0 (And.intro a1 (And.intro hz hbel))))
  clear hla hlb hal hw2 a0 a1 hz hbel hA hB hTa hTb hs
  go_enter Tryz.func44, Tryz.ntmps44
  go_wp2_with fail
  rw [← HW.out.1]
  refine (HL.out.1 w2 HW.out.2.2.2.2).mono ?_
  rintro e w3 ⟨rfl, b3⟩
  have x0 := (b3.block w.heap.size (by rw [HW.out.2.2.2.1]; omega)).trans HW.out.2.1
  have x1 := (b3.block (w.heap.size + 1) (by rw [HW.out.2.2.2.1]; omega)).trans HW.out.2.2.1
  have hb3 := HW.out.2.2.2.2.trans (b3.mono HW.out.2.2.2.2.size)
  have hz3 : w.heap.size + 2 ≤ w3.heap.size := by have := b3.size; rwa [HW.out.2.2.2.1] at this
  have hes := fun j => Lib.cell_of_heap x1 j
  have s0 := hes 0; have s1 := hes 1; have s2 := hes 2; have s3 := hes 3; have s4 := hes 4; have s5 := hes 5; have s6 := hes 6
  simp only [List.getElem?_toArray, List.getElem?_cons_zero, List.getElem?_cons_succ] at s0 s1 s2 s3 s4 s5 s6
  have H3 := Lib.hid (And.intro x0 (And.intro x1 (And.intro hb3 hz3)))
  clear x0 x1 hb3 hz3 b3 hes
  go_wp2_with fail
  refine (HL.out.2.1 w3 H3.out.2.2.1).mono ?_
  rintro e w4 ⟨rfl, b4⟩
  clear s0 s1 s2 s3 s4 s5 s6
  have x0 := (b4.block w.heap.size (by have := H3.out.2.2.2; omega)).trans H3.out.1
  have x1 := (b4.block (w.heap.size + 1) (by have := H3.out.2.2.2; omega)).trans H3.out.2.1
  have hb4 := H3.out.2.2.1.trans (b4.mono H3.out.2.2.1.size)
  have hds := fun j => Lib.cell_of_heap x0 j
  have r0 := hds 0; have r1 := hds 1; have r2 := hds 2; have r3 := hds 3; have r4 := hds 4; have r5 := hds 5; have r6 := hds 6
  have hes := fun j => Lib.cell_of_heap x1 j
  have s0 := hes 0; have s1 := hes 1; have s2 := hes 2; have s3 := hes 3; have s4 := hes 4; have s5 := hes 5; have s6 := hes 6
  simp only [List.getElem?_toArray, List.getElem?_cons_zero, List.getElem?_cons_succ] at r0 r1 r2 r3 r4 r5 r6 s0 s1 s2 s3 s4 s5 s6
  have H4 := Lib.hid hb4
  clear x0 x1 hb4 b4 hds hes
  go_wp2_with fail
  refine (HL.out.2.2 w4 H4.out).mono ?_
  rintro e w5 ⟨rfl, b5⟩
  have hb5 := H4.out.trans (b5.mono H4.out.size)
  clear b5
  go_wp2_with fail
  go_ret
  exact ⟨rfl, hb5⟩
end
end Go.Proofs.YthdhdmmlmbkalaaGreatDoor
namespace Go.Proofs.YthdhdmmlmbkalaaGreatDoor
section
open Go.RowKit

/-- A datum with no lists. -/
theorem bare_few {t : LT} {w : World} {M : Nat} (h0 : t.ln = 0) (h1 : t.items = []) (h2 : t.tail = []) (hF : FewD t) (hH : Held w M t) :
    shape (plainT t.k t.g none 0 0 [] t.bb t.s) = shape t ∧ FewD (plainT t.k t.g none 0 0 [] t.bb t.s) ∧ ∀ (P : Nat → Prop) (W : World), HeldP W P (plainT t.k t.g none 0 0 [] t.bb t.s) := by
  have hy : t.ys = [] := List.eq_nil_of_length_eq_zero (by rw [← hH.1.1.len]; exact h0)
  have hs : shape (plainT t.k t.g none 0 0 [] t.bb t.s) = shape t := by rw [plainT_shape, shape_eq t, h1, h2, hy, shapes_nil]
  refine ⟨hs, ⟨?_, by rw [size_same hs]; exact hF.2.1, by rw [depth_same hs]; exact hF.2.2⟩, fun P W => plainT_held ⟨⟨rfl, Nat.le_refl _, Nat.zero_le _, Ok.nil, fun h => absurd h (by decide), fun _ => rfl⟩, fun h => absurd h (by decide), hH.1.2.2⟩⟩
  simp [plainT, Tame, TameR]
set_option maxRecDepth 100000 in
set_option maxHeartbeats 6400000 in
theorem copiedD_any (M : Nat) (t : LT) (hF : FewD t) (w : World) (hM : M ≤ w.heap.size) (hH : Held w M t) :
    Calls Tryz.prog 65 #[.agg #[.int .i64 t.k, .bool t.g, .slice t.la t.ln t.lc, .bool t.bb, .string t.s, .slice t.ia t.items.length t.ic, .slice t.ta t.tail.length t.tc]] w fun e w' => ∃ u : LT, e = .returned (.agg #[.int .i64 u.k, .bool u.g, .slice u.la u.ln u.lc, .bool u.bb, .string u.s, .slice u.ia u.items.length u.ic, .slice u.ta u.tail.length u.tc]) ∧ HeldP w' (Fresh w' w.heap.size) u ∧ shape u = shape t ∧ FewD u ∧ Below w.heap.size w w' := by
  by_cases hbare : t.ln = 0 ∧ t.items = [] ∧ t.tail = []
  · obtain ⟨h0, h1, h2⟩ := hbare
    obtain ⟨g1, g2, g3⟩ := bare_few h0 h1 h2 hF hH
    have HG := Lib.hid (And.intro g1 (And.intro g2 g3))
    clear g1 g2 g3 hH hF
    rw [h0, h1, h2]
    simp only [List.length_nil]
    clear h0 h1 h2
    go_enter Tryz.func65, Tryz.ntmps65
    go_wp2_with fail
    (try simp only [Exit.inBlock, Exit.then])
    refine bodyPost_ret (v := .agg #[.int .i64 t.k, .bool t.g, .slice none 0 0, .bool t.bb, .string t.s, .slice none 0 0, .slice none 0 0]) (results_d rfl rfl (by go_simp) (by go_simp) (by go_simp) (by go_simp) (by go_simp) (by go_simp <;> rfl) (by go_simp)) rfl ⟨plainT t.k t.g none 0 0 [] t.bb t.s, rfl, HG.out.2.2 _ _, HG.out.1, HG.out.2.1, ?_⟩
    repeat (first | exact Below.refl _ _ | refine Below.setCell (hp := by simp) ?_ _ | refine Below.alloc ?_ (by simp) _)
  · have hse := t.size_eq
    have g1 := sizes_ge t.items
    have g2 := sizes_ge t.tail
    have hF2 := hF.2.1
    have hln := ((tame_eq t).1 hF.1).1
    have hne : t.ln + t.items.length + t.tail.length ≠ 0 := fun h => hbare ⟨by omega, List.length_eq_zero_iff.1 (by omega), List.length_eq_zero_iff.1 (by omega)⟩
    have e1 : wrap64 (((t.ln : Nat) : Int) + ((t.items.length : Nat) : Int)) = ((t.ln : Nat) : Int) + ((t.items.length : Nat) : Int) := by unfold wrap64; omega
    have e2 : wrap64 (((t.ln : Nat) : Int) + ((t.items.length : Nat) : Int) + ((t.tail.length : Nat) : Int)) = ((t.ln : Nat) : Int) + ((t.items.length : Nat) : Int) + ((t.tail.length : Nat) : Int) := by unfold wrap64; omega
    have q1 : (wrap64 (wrap64 (((t.ln : Nat) : Int) + ((t.items.length : Nat) : Int)) + ((t.tail.length : Nat) : Int)) == 0) = false := by rw [e1, e2]; exact beq_eq_false_iff_ne.2 (by omega)
    clear e1 e2
    obtain ⟨w2, hw2, a0, a1, hz, hbel⟩ := two2 w (Obj.cells #[.int .i64 t.k, .bool t.g, .slice t.la t.ln t.lc, .bool t.bb, .string t.s, .slice t.ia t.items.length t.ic, .slice t.ta t.tail.length t.tc] 27) (Obj.cells #[.int .i64 0, .bool false, .slice none 0 0, .bool false, .string ⟨#[]⟩, .slice none 0 0, .slice none 0 0] 27)
    have hb3 : Below w.heap.size w (w2.alloc (Obj.cells #[.int .i64 t.k, .bool t.g, .slice t.la t.ln t.lc, .bool t.bb, .string t.s, .slice t.ia t.items.length t.ic, .slice t.ta t.tail.length t.tc] 27)) := hbel.alloc hbel.size _
    have hz3 : (w2.alloc (Obj.cells #[.int .i64 t.k, .bool t.g, .slice t.la t.ln t.lc, .bool t.bb, .string t.s, .slice t.ia t.items.length t.ic, .slice t.ta t.tail.length t.tc] 27)).heap.size = w.heap.size + 3 := by rw [World.size_alloc, hz]
    have hnew : (w2.alloc (Obj.cells #[.int .i64 t.k, .bool t.g, .slice t.la t.ln t.lc, .bool t.bb, .string t.s, .slice t.ia t.items.length t.ic, .slice t.ta t.tail.length t.tc] 27)).heap[w.heap.size + 2]? = some (Obj.cells #[.int .i64 t.k, .bool t.g, .slice t.la t.ln t.lc, .bool t.bb, .string t.s, .slice t.ia t.items.length t.ic, .slice t.ta t.tail.length t.tc] 27) := by have := World.alloc_heap_new w2 (Obj.cells #[.int .i64 t.k, .bool t.g, .slice t.la t.ln t.lc, .bool t.bb, .string t.s, .slice t.ia t.items.length t.ic, .slice t.ta t.tail.length t.tc] 27); rwa [hz] at this
    have hrow : Held (w2.alloc (Obj.cells #[.int .i64 t.k, .bool t.g, .slice t.la t.ln t.lc, .bool t.bb, .string t.s, .slice t.ia t.items.length t.ic, .slice t.ta t.tail.length t.tc] 27)) (w.heap.size + 2 + 1) (rowL (some ⟨w.heap.size + 2, 0, none⟩) 1 [t]) := rowL_held (M := M) (D := w.heap.size + 2) (l := [t]) (by omega) (by simpa [cellsAll, LT.cells] using hnew) (by simp) (fun x hx => by rw [List.mem_singleton.1 hx]; exact hH.below hM hb3)
    have hit := items_any (w.heap.size + 2 + 1) (some ⟨w.heap.size + 2, 0, none⟩) 1 [t] (by rw [rowL_size]; simp only [sizes]; omega) (by rw [rowL_depth]; simp only [depths]; have := hF.2.2; omega) ((rowL_tame _ _ _).2 (by simp only [TameR]; exact ⟨hF.1, trivial⟩)) (w2.alloc (Obj.cells #[.int .i64 t.k, .bool t.g, .slice t.la t.ln t.lc, .bool t.bb, .string t.s, .slice t.ia t.items.length t.ic, .slice t.ta t.tail.length t.tc] 27)) (by omega) hrow
    have hsr : shape (rowL (some ⟨w.heap.size + 2, 0, none⟩) 1 [t]) = .mk 5 false [] false ⟨#[]⟩ [shape t] [] := by simp [rowL, shape, shapes]
    rw [hsr] at hit
    have hr3 : (w2.alloc (Obj.cells #[.int .i64 t.k, .bool t.g, .slice t.la t.ln t.lc, .bool t.bb, .string t.s, .slice t.ia t.items.length t.ic, .slice t.ta t.tail.length t.tc] 27)).heap[w.heap.size + 1]? = some (Obj.cells #[.int .i64 0, .bool false, .slice none 0 0, .bool false, .string ⟨#[]⟩, .slice none 0 0, .slice none 0 0] 27) := (Below.heap_alloc _ _ _ (by omega)).trans a1
    have HI := Lib.hid (And.intro hit (And.intro hw2 (And.intro hz3 (And.intro hb3 (And.intro hr3 (And.intro hF hH))))))
    have hf0 : w2.frozen? ⟨w.heap.size, 0, none⟩ = false := Lib.frozen_of_heap a0 _
    clear hit hrow hnew hbel hH hF hse g1 g2 hF2 hne hb3 hr3 hsr a0 a1 hbare hf0
    go_enter Tryz.func65, Tryz.ntmps65
    go_wp2_with fail
    rw [← HI.out.2.1]
    refine HI.out.1.mono ?_
    rintro e w6 ⟨x, rfl, hP, hsh, b6⟩
    obtain ⟨u, hu⟩ : ∃ u, x.items = [u] := by
      rw [shape_eq] at hsh
      injection hsh with _ _ _ _ _ h6 _
      rcases hx : x.items with _ | ⟨u, l⟩
      · rw [hx, shapes_nil] at h6; cases h6
      · rw [hx, shapes_cons] at h6
        injection h6 with _ h7
        have : l = [] := by have := congrArg List.length h7; rw [shapes_length] at this; exact List.length_eq_zero_iff.1 this
        exact ⟨u, by rw [this]⟩
    have hus : shape u = shape t := by
      rw [shape_eq] at hsh
      injection hsh with _ _ _ _ _ h6 _
      rw [hu, shapes_cons] at h6
      injection h6
    have hsp := hP.2.1
    have hlr := hP.2.2.2.1
    rw [hu] at hsp hlr
    obtain ⟨hia, hPg⟩ := hsp.2.2.1 (by simp)
    rw [liesPR_cons] at hlr
    obtain ⟨_, hcl, hHu⟩ := liesP_held.1 hlr.1
    rw [hu]
    generalize blk x.ia = gb at *
    generalize ofs x.ia = go at *
    rw [hia]
    have d0 : w6.cell? ⟨gb, go, none⟩ = some (.int .i64 u.k) := hcl 0 _ rfl
    have d1 : w6.cell? ⟨gb, go + 1, none⟩ = some (.bool u.g) := hcl 1 _ rfl
    have d2 : w6.cell? ⟨gb, go + 2, none⟩ = some (.slice u.la u.ln u.lc) := hcl 2 _ rfl
    have d3 : w6.cell? ⟨gb, go + 3, none⟩ = some (.bool u.bb) := hcl 3 _ rfl
    have d4 : w6.cell? ⟨gb, go + 4, none⟩ = some (.string u.s) := hcl 4 _ rfl
    have d5 : w6.cell? ⟨gb, go + 5, none⟩ = some (.slice u.ia u.items.length u.ic) := hcl 5 _ rfl
    have d6 : w6.cell? ⟨gb, go + 6, none⟩ = some (.slice u.ta u.tail.length u.tc) := hcl 6 _ rfl
    have hr6 : w6.heap[w.heap.size + 1]? = some (Obj.cells #[.int .i64 0, .bool false, .slice none 0 0, .bool false, .string ⟨#[]⟩, .slice none 0 0, .slice none 0 0] 27) := (b6.block _ (by rw [HI.out.2.2.1]; omega)).trans HI.out.2.2.2.2.1
    have hrs := fun j => Lib.cell_of_heap hr6 j
    have r0 := hrs 0; have r1 := hrs 1; have r2 := hrs 2; have r3 := hrs 3; have r4 := hrs 4; have r5 := hrs 5; have r6 := hrs 6
    have hrf := fun j => Lib.frozen_of_heap hr6 j
    have f0 := hrf 0; have f1 := hrf 1; have f2 := hrf 2; have f3 := hrf 3; have f4 := hrf 4; have f5 := hrf 5; have f6 := hrf 6
    simp only [List.getElem?_toArray, List.getElem?_cons_zero, List.getElem?_cons_succ] at r0 r1 r2 r3 r4 r5 r6
    have z6 : w.heap.size + 3 ≤ w6.heap.size := by have := b6.size; rw [HI.out.2.2.1] at this; exact this
    have hfu : FewD u := ⟨tame_same HI.out.2.2.2.2.2.2 (hHu.held (M := w6.heap.size) fun k hk => hk.lt) hus HI.out.2.2.2.2.2.1.1, by rw [size_same hus]; exact HI.out.2.2.2.2.2.1.2.1, by rw [depth_same hus]; exact HI.out.2.2.2.2.2.1.2.2⟩
    have hgb : w.heap.size + 3 ≤ gb := by have := hPg.1; rw [HI.out.2.2.1] at this; exact this
    have hb6 := HI.out.2.2.2.1.trans (b6.mono (by rw [HI.out.2.2.1]; omega))
    rw [HI.out.2.2.1] at hHu
    have HY := Lib.hid (And.intro hHu (And.intro hus (And.intro hfu hb6)))
    have hfd : (Instr.field 27 (.agg #[.int .i64 x.k, .bool x.g, .slice x.la x.ln x.lc, .bool x.bb, .string x.s, .slice (some ⟨gb, go, none⟩) 1 x.ic, .slice x.ta x.tail.length x.tc]) 4).run Tryz.prog w6 = .ok (.slice (some ⟨gb, go, none⟩) 1 x.ic) w6 := by first | rfl | kernel_rfl
    clear hHu hus hfu hb6 hrs hrf hr6 hcl hlr hPg hia hP hsh hu b6
    go_wp2_with fail
    (try simp only [Exit.inBlock, Exit.then])
    refine bodyPost_ret (v := .agg #[.int .i64 u.k, .bool u.g, .slice u.la u.ln u.lc, .bool u.bb, .string u.s, .slice u.ia u.items.length u.ic, .slice u.ta u.tail.length u.tc]) (results_d rfl rfl (by go_simp) (by go_simp) (by go_simp) (by go_simp) (by go_simp) (by go_simp <;> rfl) (by go_simp)) rfl ⟨u, rfl, ?_, HY.out.2.1, HY.out.2.2.1, ?_⟩
    · exact HeldP.low (U := w.heap.size + 3) HY.out.1 (set7_low (Low.refl w.heap.size (w.heap.size + 3) _) (by omega) (by omega)) (by omega)
    · exact set7_below HY.out.2.2.2 (by omega)
end
end Go.Proofs.YthdhdmmlmbkalaaGreatDoor
