/-
  core.told's iterator, walked. datum.told: its iterator tells a datum and all that is in it, in the order of the tree. A region that draws its order, within a round of a range over a function.
-/
import Derived.Test.YthdhdmmlmbkalaaGreatDoorJp2
import Derived.Test.YthdhdmmlmbkalaaGreatDoorJp1
import Derived.WalkKit
import Derived.OwnWalkIn
import Derived.TacticsInMore
import Derived.LoopNIn
import Derived.LoopIn
import Derived.Laws.OwnMore
import Derived.Deep.LoopGhost
import Derived.Shelf.RegionOpen
import Derived.RangeFuncCalls
import Derived.TacticsIn
import Derived.OrdersIn
import Derived.StillTailTactics
set_option linter.unusedVariables false
set_option linter.unusedSimpArgs false
set_option linter.unusedSectionVars false
set_option linter.unnecessarySimpa false
namespace Go.Proofs.YthdhdmmlmbkalaaGreatDoor
section
open Go.RowKit
attribute [local go_sem] Oper.semAt_some

theorem toldE_node {full : List NodeE} {k c : Nat} {a : Option Addr} {t : ET} {r : List ET} {st : List EntE} (h : full.drop k = flatE (⟨a, c, t :: r⟩ :: st)) : k < full.length ∧ full[k]? = some ⟨st.length + 2, blk a, ofs a, t⟩ := by
  have hlt : k < full.length := by
    rcases Nat.lt_or_ge k full.length with h1 | h1
    · exact h1
    · rw [List.drop_eq_nil_of_le h1] at h
      simp [flatE, seqER_cons, seqE_eq] at h
  refine ⟨hlt, ?_⟩
  have h1 : (full.drop k)[0]? = full[k]? := by rw [List.getElem?_drop]; simp
  rw [← h1, h]
  simp [flatE, seqER_cons, seqE_eq]
theorem toldE_next {M N base : Nat} {full : List NodeE} {J : Nat → World → Prop} {k eb eo ec c' p : Nat} {a' : Option Addr} {t : ET} {r : List ET} {st : List EntE} {wr w8 : World} {v8 : Value}
    (hd : full.drop k = flatE (⟨some ⟨eb, eo, none⟩, ec, t :: r⟩ :: st)) (hg : GoodE wr M N (⟨some ⟨eb, eo, none⟩, ec, t :: r⟩ :: st)) (ha : r = [] ∨ a' = some ⟨eb, eo + 13, none⟩) (hs : Spot M a' r.length c') (hp : st.length = p)
    (hsz : wr.heap.size ≤ w8.heap.size) (hlow : ∀ q, q < M → w8.heap[q]? = wr.heap[q]?) (own : w8.ownsRow base 29 1 v8 (p + 1 + 1) (stE (⟨a', c', r⟩ :: st) ++ [.slice t.ka t.kids.length t.kc])) (hb : base ≤ w8.heap.size) (hj : J (k + 1) w8) :
    ToldE M N base full J v8 w8 (2 * (full.length - (k + 1)) + (p + 1 + 1)) := by
  obtain ⟨hlt, hat⟩ := toldE_node hd
  obtain ⟨⟨h1, h2, h3⟩, h4⟩ := hg
  simp only [liesER_cons] at h2
  simp only [sizesE] at h3
  have hts := t.size_eq
  subst hp
  refine ⟨k + 1, ⟨t.ka, t.kc, t.kids⟩ :: ⟨a', c', r⟩ :: st, hlt, rfl, ?_, ?_, own, hb, hj⟩
  · have e1 : full.drop (k + 1) = (full.drop k).drop 1 := by rw [List.drop_drop]
    rw [e1, hd]
    simp only [flatE, seqER_cons, seqE_eq, List.cons_append, List.drop_succ_cons, List.drop_zero, List.length_cons, List.append_assoc]
    rcases ha with rfl | rfl
    · simp [seqER_nil]
    · rfl
  · refine goodE_push (LiesE.keep hsz hlow _ _ _ h2.1) ⟨⟨hs, ?_, by show st.length + sizesE r ≤ N; omega⟩, h4.keep hsz hlow⟩ (by simp only [List.length_cons]; omega)
    rcases ha with rfl | rfl
    · rw [liesER_nil]; trivial
    · exact LiesER.keep hsz hlow _ _ _ h2.2
set_option maxRecDepth 100000 in
set_option maxHeartbeats 3200000 in
theorem told1E_in (n l bd M N b o Bs : Nat) (root : ET) (X : Nat → Prop) (J Jx : Nat → World → Prop) (W : World) (hBs : M ≤ Bs) (hbt : bd < Bs) (hX : ∀ r, X r → M ≤ r ∧ r ≠ bd ∧ r < W.heap.size)
    (hJ : ∀ k A B, FineE W.heap.size A B → J k A → J k B) (full : List NodeE) (hfull : full = seqE root 1 b o)
    (hY : ∀ k W1, k < full.length → J k W1 → YieldAt Fence.wide (n - 1) Tryz.prog l (toldE full k) W1 fun e W' =>
      (e = .returned (.bool true) ∧ J (k + 1) W' ∧ ButE Bs X W1 W') ∨ (e = .returned (.bool false) ∧ Jx k W'))
    (hbd : W.cell? ⟨bd, 0, none⟩ = some (.pointer (some ⟨b, o, none⟩))) (hMW : M ≤ W.heap.size) (hL : LiesE W M root b o) (hN : root.size + 1 ≤ N) (hN9 : N ≤ 1000000000) (h0 : J 0 W) :
    CallsIn Fence.wide n Tryz.prog 47 #[.func (.yield l) #[] #[], .pointer (some ⟨bd, 0, none⟩)] W fun e W' => (∃ v, e = .returned v) ∧ (J full.length W' ∨ ∃ k, k < full.length ∧ Jx k W') := by
  obtain ⟨i0, hi, hz0, hz1, hz2⟩ := info_parts infoS
  have hbW : bd < W.heap.size := World.block_lt_of_cell? W _ hbd
  have hlen : full.length = root.size := by rw [hfull, seqE_length]
  have hsz := root.size_eq
  have hat0 : full[0]? = some ⟨1, b, o, root⟩ := by rw [hfull, seqE_eq]; rfl
  have hdrop1 : full.drop 1 = flatE [⟨root.ka, root.kc, root.kids⟩] := by rw [hfull, seqE_eq]; simp [flatE]
  obtain ⟨fn, tmps, assign, body, hy, hR⟩ := hY 0 W (by omega) h0
  rw [toldE_eq hat0] at hy
  have hy' : (Instr.yield l #[Value.int .i64 1, .pointer (some ⟨b, o, none⟩)]).run Tryz.prog W = _ := hy
  clear hy
  have HL := Lib.hid (And.intro hlen (And.intro hfull hat0))
  have HD := Lib.hid hdrop1
  clear hlen hfull hdrop1 hat0
  refine callsIn_of_wp Tryz.func47 rfl trivial ?_ rfl
  simp only [Tryz.ntmps47, List.size_toArray, List.length_cons, List.length_nil, Nat.reduceAdd, Nat.reduceSub, Array.replicate_succ, Array.replicate_zero, List.push_toArray, List.append_toArray, List.nil_append, List.cons_append]
  gi_wp2
  refine ⟨fun h => absurd h (by decide), hR.mono ?_⟩
  rintro e W3 (⟨rfl, hJ3, hk3⟩ | ⟨rfl, hJx3⟩)
  · have hbd3 : W3.cell? ⟨bd, 0, none⟩ = some (.pointer (some ⟨b, o, none⟩)) := (World.cell?_of_block (w := W) (a := ⟨bd, 0, none⟩) (hk3.low hbW hbt (fun h => (hX _ h).2.1 rfl))).trans hbd
    have hL3 : LiesE W3 M root b o := LiesE.keep hk3.1 (fun k hk => hk3.low (by omega) (by omega) (fun h => by have := (hX _ h).1; omega)) _ _ _ hL
    have hs3 := hk3.1
    have c12 : W3.cell? ⟨b, o + 12, none⟩ = some (.slice root.ka root.kids.length root.kc) := (liesE_held.1 hL3).2.1 12 _ rfl
    have own4 : (W3.alloc (.cells #[.slice root.ka root.kids.length root.kc] 29)).ownsRow W.heap.size 29 1 (.slice (some ⟨W3.heap.size, 0, none⟩) 1 1) 1 [.slice root.ka root.kids.length root.kc] :=
      World.ownsRow_lit (base := W.heap.size) (size := 1) W3 #[.slice root.ka root.kids.length root.kc] 1 hs3 (by decide) rfl
    have f4 : FineE W.heap.size W3 (W3.alloc (.cells #[.slice root.ka root.kids.length root.kc] 29)) := FineE.new ((Below.refl _ _).alloc (Nat.le_refl _) _) hs3
    have hJ4 := hJ 1 _ _ f4 hJ3
    have hL4 := LiesE.keep f4.size (fun q hq => f4.block q (by omega)) _ _ _ hL3
    have HI := Lib.hid (show ToldE M N W.heap.size full J (.slice (some ⟨W3.heap.size, 0, none⟩) 1 1) (W3.alloc (.cells #[.slice root.ka root.kids.length root.kc] 29)) (2 * (full.length - 1) + 1) from
      ⟨1, [⟨root.ka, root.kc, root.kids⟩], by rw [HL.out.1]; omega, rfl, HD.out, goodE_push hL4 trivial (by show 0 + sizesE root.kids ≤ N; omega), own4, by have := f4.size; omega, hJ4⟩)
    clear own4 f4 hJ4 hL4 hL3 hJ3 hk3
    gi_wp2
    clear c12 hbd3
    gi_loopw [3] (fun v w => ∃ m, ToldE M N W.heap.size full J v w m) (fun v w => leastOf (fun m => ToldE M N W.heap.size full J v w m))
    case atStart => exact ⟨_, HI.out⟩
    case round =>
      clear HI
      obtain ⟨k, st, hkN, hmk, hdrop, hgood, hown, hbase, hJk⟩ := (leastOf_spec hrel).1
      generalize hm0 : leastOf (fun m => ToldE M N W.heap.size full J u3 wr m) = m0 at hmk
      have HM := Lib.hid (And.intro hm0 hmk)
      clear hm0 hrel hmk
      cases st with
      | nil =>
        have hkL : k = full.length := by
          have := congrArg List.length hdrop
          simp only [List.length_drop, flatE, List.length_nil] at this
          omega
        have hJN := Lib.hid (hkL ▸ hJk)
        rcases hown.2 with ⟨rfl, _⟩ | ⟨g, cap, cur, rfl, _⟩
        · clear hown hgood hJk hdrop hkL
          gi_wp2
          go_end0
          exact ⟨⟨_, rfl⟩, .inl hJN.out⟩
        · clear hown hgood hJk hdrop hkL
          gi_wp2
          go_end0
          exact ⟨⟨_, rfl⟩, .inl hJN.out⟩
      | cons e st =>
        obtain ⟨g, cap, rfl, hg1, hg2, hpc, hc0, hfz⟩ := ownsRow_one hown
        have hpN : st.length ≤ N := by have := hgood.1.2.2; omega
        generalize hp : st.length = p at *
        obtain ⟨ea, ec, el⟩ := e
        have hcl : cap ≤ 9223372036854775807 := by
          rcases hown.2 with ⟨h, _⟩ | ⟨_, _, _, h, _, _, _, h3, _⟩
          · cases h
          · cases h; unfold maxLen at h3; omega
        cases el with
        | nil =>
          have hO := rowE_less (n := p) (xs := stE st) (by have h1 := hown; rw [List.length_cons, hp] at h1; exact h1) ((stE_length st).trans hp)
          have HR := Lib.hid (show ToldE M N W.heap.size full J (.slice (some ⟨g, 0, none⟩) p cap) wr (2 * (full.length - k) + p) from
            ⟨k, st, hkN, by rw [hp], by rw [hdrop]; simp [flatE, seqER_nil], hgood.2, by rw [hp]; exact hO, hbase, hJk⟩)
          have HM2 := Lib.hid (show 2 * (full.length - k) + p < m0 by have := HM.out.2; simp only [List.length_cons] at this; omega)
          have hc1 : wr.cell? ⟨g, p, none⟩ = some (.slice ea 0 ec) := hc0
          clear hO hgood hown hdrop hJk hc0 hp
          gi_wp2
          go_roundw
          case rel => exact ⟨_, HR.out⟩
          case measure => exact toldE_less HM.out.1 HM2.out HR.out
        | cons t r =>
          have hsp := hgood.1.1
          have hli := hgood.1.2.1
          obtain ⟨hea, heb⟩ := hsp.2.2.1 (by simp)
          obtain ⟨eb, hebb⟩ : ∃ x, blk ea = x := ⟨_, rfl⟩
          obtain ⟨eo, heoo⟩ : ∃ x, ofs ea = x := ⟨_, rfl⟩
          rw [hebb, heoo] at hea
          rw [hebb] at heb
          subst hea
          clear hebb heoo
          obtain ⟨hkl, hat⟩ := toldE_node hdrop
          have hlt0 : LiesE wr M t eb eo := (liesER_cons ▸ hli : _ ∧ _).1
          have hcE : r.length + 1 ≤ ec := by have := hsp.1; simpa using this
          have hcM : ec ≤ 9223372036854775807 := by have := hsp.2.1; unfold maxLen at this; omega
          have hrw : ∃ c, wr.heap[g]? = some (.cells c 29 (0, 0)) := rowE_at hown rfl
          have hrowS : ∀ z, (wr.setCell ⟨g, p, none⟩ z).ownsRow W.heap.size 29 1 (.slice (some ⟨g, 0, none⟩) (p + 1) cap) (p + 1) (stE st ++ [z]) := fun z => by
            exact rowE_set (n := p) (xs := stE st) z (by have h1 := hown; rw [List.length_cons, hp] at h1; exact h1) ((stE_length st).trans hp)
          have hfin : ∀ z, FineE W.heap.size wr (wr.setCell ⟨g, p, none⟩ z) := fun z => by
            obtain ⟨c, hc⟩ := hrw
            exact FineE.at_ ((Below.refl _ _).setCell (p := ⟨g, p, none⟩) hg1 z) hc (.stack c _) fun i _ hne => Below.heap_setCell _ _ _ _ hne
          have hJs : ∀ z, J k (wr.setCell ⟨g, p, none⟩ z) := fun z => hJ k _ _ (hfin z) hJk
          have HO := Lib.hid (And.intro hdrop (And.intro hgood (And.intro hrowS (And.intro hfin hlt0))))
          have HM2 := Lib.hid (show 2 * (full.length - (k + 1)) + (p + 1 + 1) < m0 by have := HM.out.2; simp only [List.length_cons] at this; omega)
          have HP := Lib.hid hp
          rw [hp] at hat
          have hc1 : wr.cell? ⟨g, p, none⟩ = some (.slice (some ⟨eb, eo, none⟩) (r.length + 1) ec) := hc0
          have hsr := hsp
          clear hdrop hgood hown hrowS hfin hlt0 hli hJk hrw hc0 hp hsp
          obtain ⟨q, hq⟩ : ∃ q, r.length = q := ⟨_, rfl⟩
          have HQ := Lib.hid (And.intro hq hsr)
          rw [hq] at hc1 hcE
          clear hq hsr
          by_cases hec : ec = 1
          · have hq0 : q = 0 := by omega
            subst hec hq0
            obtain ⟨fn2, tmps2, assign2, body2, hy2, hR2⟩ := hY k _ hkl (hJs (.slice (some ⟨eb, eo, none⟩) 0 0))
            rw [toldE_eq hat] at hy2
            dsimp only [blk, ofs] at hy2
            have hy3 := hy2
            rw [show ((p + 2 : Nat) : Int) = (p : Int) + 1 + 1 by omega] at hy3
            clear hy2
            have hss : (wr.setCell ⟨g, p, none⟩ (.slice (some ⟨eb, eo, none⟩) 0 0)).heap.size = wr.heap.size := World.size_setCell ..
            gi_wp2
            refine ⟨fun h => absurd h (by decide), hR2.mono ?_⟩
            rintro e W5 (⟨rfl, hJ5, hk5⟩ | ⟨rfl, hJx5⟩)
            · have hs5 : wr.heap.size ≤ W5.heap.size := by have := hk5.1; omega
              have own5 := rowE_but (HO.out.2.2.1 (.slice (some ⟨eb, eo, none⟩) 0 0)) hk5 (fun i h1 h2 hx => by have := (hX i hx).2.2; omega)
              have hlow5 : ∀ i, i < M → W5.heap[i]? = wr.heap[i]? := fun i hi => (hk5.low (by omega) (by omega) (fun h => by have := (hX _ h).1; omega)).trans ((HO.out.2.2.2.1 (.slice (some ⟨eb, eo, none⟩) 0 0)).block i (by omega))
              have hL5 := LiesE.keep hs5 hlow5 _ _ _ HO.out.2.2.2.2
              have c12 : W5.cell? ⟨eb, eo + 12, none⟩ = some (.slice t.ka t.kids.length t.kc) := (liesE_held.1 hL5).2.1 12 _ rfl
              have H5 := Lib.hid (And.intro own5 (And.intro hlow5 hJ5))
              clear own5 hlow5 hL5 hk5 hy3 hR2 hJ5 hJs
              gi_wp2_with (gi_at_builtin; refine wpListIn_append_own _ rfl (.tmp 50) (.tmp 55) 82 rfl W.heap.size 29 i0 (.slice none 0 0) 1 24 Tryz.underlying82 hi hz0 hz1 hz2 rfl (by decide) _ (p + 1) (stE st ++ [.slice (some ⟨eb, eo, none⟩) 0 0]) rfl (H5.out.1.alloc _) ⟨W5.heap.size, 0, none⟩ 1 1 [.slice t.ka t.kids.length t.kc] rfl rfl (cellS (World.alloc_heap_new W5 (.cells #[.slice t.ka t.kids.length t.kc] 29))) (by intro u hu; rw [List.mem_singleton.1 hu]; rfl) (by unfold maxLen; omega) (by omega) (by rw [World.size_alloc]; omega) ?_; intro v8 w8 own8 grow8 _)
              have f8 := fineE_grown (o := .cells #[.slice t.ka t.kids.length t.kc] 29) H5.out.1 (by omega) grow8
              have HN8 := Lib.hid (toldE_next (J := J) (w8 := w8) (v8 := v8) (base := W.heap.size) HO.out.1 HO.out.2.1 (a' := some ⟨eb, eo, none⟩) (c' := 0) (.inl (List.length_eq_zero_iff.1 HQ.out.1)) (by rw [HQ.out.1]; exact ⟨Nat.le_refl _, Nat.zero_le _, fun h => absurd h (by decide), fun e => by cases e⟩) HP.out (by have := f8.size; omega) (fun i hi => (f8.block i (by omega)).trans (H5.out.2.1 i hi)) (by have h1 := own8; rw [show stE (⟨some ⟨eb, eo, none⟩, 0, r⟩ :: st) = stE st ++ [.slice (some ⟨eb, eo, none⟩) 0 0] by simp only [stE, EntE.cell, HQ.out.1]]; exact h1) (by have := f8.size; omega) (hJ _ _ _ f8 H5.out.2.2))
              clear own8 grow8 f8 c12
              gi_wp2
              go_roundw
              case rel => exact ⟨_, HN8.out⟩
              case measure => exact toldE_less HM.out.1 HM2.out HN8.out
            · gi_wp2
              refine bodyPost_ret (results_none rfl _ _ _) rfl ?_
              exact ⟨⟨_, rfl⟩, .inr ⟨k, hkl, hJx5⟩⟩
          · have hec2 : 2 ≤ ec := by omega
            obtain ⟨fn2, tmps2, assign2, body2, hy2, hR2⟩ := hY k _ hkl (hJs (.slice (some ⟨eb, eo + 13, none⟩) q (ec - 1)))
            rw [toldE_eq hat] at hy2
            dsimp only [blk, ofs] at hy2
            have hy3 := hy2
            rw [show ((p + 2 : Nat) : Int) = (p : Int) + 1 + 1 by omega] at hy3
            clear hy2
            have hss : (wr.setCell ⟨g, p, none⟩ (.slice (some ⟨eb, eo + 13, none⟩) q (ec - 1))).heap.size = wr.heap.size := World.size_setCell ..
            gi_wp2
            refine ⟨fun h => absurd h (by decide), hR2.mono ?_⟩
            rintro e W5 (⟨rfl, hJ5, hk5⟩ | ⟨rfl, hJx5⟩)
            · have hs5 : wr.heap.size ≤ W5.heap.size := by have := hk5.1; omega
              have own5 := rowE_but (HO.out.2.2.1 (.slice (some ⟨eb, eo + 13, none⟩) q (ec - 1))) hk5 (fun i h1 h2 hx => by have := (hX i hx).2.2; omega)
              have hlow5 : ∀ i, i < M → W5.heap[i]? = wr.heap[i]? := fun i hi => (hk5.low (by omega) (by omega) (fun h => by have := (hX _ h).1; omega)).trans ((HO.out.2.2.2.1 (.slice (some ⟨eb, eo + 13, none⟩) q (ec - 1))).block i (by omega))
              have hL5 := LiesE.keep hs5 hlow5 _ _ _ HO.out.2.2.2.2
              have c12 : W5.cell? ⟨eb, eo + 12, none⟩ = some (.slice t.ka t.kids.length t.kc) := (liesE_held.1 hL5).2.1 12 _ rfl
              have H5 := Lib.hid (And.intro own5 (And.intro hlow5 hJ5))
              clear own5 hlow5 hL5 hk5 hy3 hR2 hJ5 hJs
              gi_wp2_with (gi_at_builtin; refine wpListIn_append_own _ rfl (.tmp 50) (.tmp 55) 82 rfl W.heap.size 29 i0 (.slice none 0 0) 1 24 Tryz.underlying82 hi hz0 hz1 hz2 rfl (by decide) _ (p + 1) (stE st ++ [.slice (some ⟨eb, eo + 13, none⟩) q (ec - 1)]) rfl (H5.out.1.alloc _) ⟨W5.heap.size, 0, none⟩ 1 1 [.slice t.ka t.kids.length t.kc] rfl rfl (cellS (World.alloc_heap_new W5 (.cells #[.slice t.ka t.kids.length t.kc] 29))) (by intro u hu; rw [List.mem_singleton.1 hu]; rfl) (by unfold maxLen; omega) (by omega) (by rw [World.size_alloc]; omega) ?_; intro v8 w8 own8 grow8 _)
              have f8 := fineE_grown (o := .cells #[.slice t.ka t.kids.length t.kc] 29) H5.out.1 (by omega) grow8
              have HN8 := Lib.hid (toldE_next (J := J) (w8 := w8) (v8 := v8) (base := W.heap.size) HO.out.1 HO.out.2.1 (a' := some ⟨eb, eo + 13, none⟩) (c' := (ec - 1)) (.inr rfl) (by rw [HQ.out.1]; exact ⟨by omega, by unfold maxLen; omega, fun _ => ⟨rfl, heb⟩, fun e => by cases e⟩) HP.out (by have := f8.size; omega) (fun i hi => (f8.block i (by omega)).trans (H5.out.2.1 i hi)) (by have h1 := own8; rw [show stE (⟨some ⟨eb, eo + 13, none⟩, (ec - 1), r⟩ :: st) = stE st ++ [.slice (some ⟨eb, eo + 13, none⟩) q (ec - 1)] by simp only [stE, EntE.cell, HQ.out.1]]; exact h1) (by have := f8.size; omega) (hJ _ _ _ f8 H5.out.2.2))
              clear own8 grow8 f8 c12
              gi_wp2
              go_roundw
              case rel => exact ⟨_, HN8.out⟩
              case measure => exact toldE_less HM.out.1 HM2.out HN8.out
            · gi_wp2
              refine bodyPost_ret (results_none rfl _ _ _) rfl ?_
              exact ⟨⟨_, rfl⟩, .inr ⟨k, hkl, hJx5⟩⟩
  · gi_wp2
    refine bodyPost_ret (results_none rfl _ _ _) rfl ?_
    exact ⟨⟨_, rfl⟩, .inr ⟨0, by rw [HL.out.1]; omega, hJx3⟩⟩
end
end Go.Proofs.YthdhdmmlmbkalaaGreatDoor
namespace Go.Proofs.YthdhdmmlmbkalaaGreatDoor
section
open Go.RowKit
attribute [local go_sem] Oper.semAt_some

/-- The k-th that is told. -/
def nd (full : List Node) (k : Nat) : Node := (full[k]?).getD ⟨0, 0, 0, .mk 0 false none 0 0 [] false ⟨#[]⟩ none 0 [] none 0 []⟩
def toldAt (full : List Node) (k : Nat) : Array Value := #[.int .i64 ((nd full k).lev : Nat), .pointer (some ⟨(nd full k).b, (nd full k).o, none⟩)]
theorem nd_eq {full : List Node} {k : Nat} {x : Node} (h : full[k]? = some x) : nd full k = x := by simp only [nd, h, Option.getD_some]
theorem toldAt_eq {full : List Node} {k : Nat} {x : Node} (h : full[k]? = some x) : toldAt full k = #[.int .i64 (x.lev : Nat), .pointer (some ⟨x.b, x.o, none⟩)] := by simp only [toldAt, nd_eq h]

/-- The stack's top is taken: the rest of it. -/
def popped (e : Ent) (r : List LT) (st : List Ent) : List Ent := if r.length = 0 then st else ⟨e.b, e.o + 7, e.c - 1, r, e.lev⟩ :: st
theorem flat_popped {e : Ent} {t : LT} {r : List LT} (he : e.l = t :: r) (st : List Ent) : flat (e :: st) = ⟨e.lev, e.b, e.o, t⟩ :: flat (pushed t (e.lev + 1) (popped e r st)) := by
  rw [← flat_pushed]
  by_cases h : r.length = 0
  · rw [popped, if_pos h]
    simp only [flat, he, List.length_eq_zero_iff.1 h, seqR_cons, seqR_nil, List.append_nil]
  · rw [popped, if_neg h]
    simp only [flat, he, seqR_cons, List.append_assoc]
theorem good_popped {w : World} {M N : Nat} {e : Ent} {t : LT} {r : List LT} {st : List Ent} (he : e.l = t :: r) (hst : ∀ x ∈ e :: st, x.good w M N) : ∀ x ∈ popped e r st, x.good w M N := by
  have h := hst e (List.mem_cons_self ..)
  have hs : ∀ x ∈ st, x.good w M N := fun x hx => hst x (List.mem_cons_of_mem _ hx)
  by_cases h0 : r.length = 0
  · rw [popped, if_pos h0]; exact hs
  · rw [popped, if_neg h0]
    intro x hx
    rcases List.mem_cons.1 hx with rfl | hx
    · obtain ⟨_, h2, h3, h4, h5, h6⟩ := h
      rw [he] at h2 h4 h6
      simp only [List.length_cons] at h2
      simp only [sizes] at h6
      refine ⟨by show 0 < r.length; omega, by show r.length ≤ e.c - 1; omega, by show e.c - 1 ≤ maxLen; omega, (liesR_cons ▸ h4 : _ ∧ _).2, h5, by show e.lev + sizes r ≤ N; omega⟩
    · exact hs x hx

/-- What the loop's head knows, with m data still to be told. -/
def ToldRel (M N base : Nat) (full : List Node) (J : Nat → World → Prop) (v : Value) (w : World) (m : Nat) : Prop :=
  ∃ (k : Nat) (st : List Ent), m + k = full.length ∧ full.drop k = flat st ∧ (∀ e ∈ st, e.good w M N) ∧ w.ownsRow base 128 2 v st.length (stCells st) ∧ base ≤ w.heap.size ∧ J k w

/-- The row's last element is cut off. -/
theorem ownRow_less {w : World} {base g n cap : Nat} {xs ys : List Value} (h : w.ownsRow base 128 2 (.slice (some ⟨g, 0, none⟩) (n + 1) cap) (n + 1) (xs ++ ys)) (hx : xs.length = n * 2) :
    w.ownsRow base 128 2 (.slice (some ⟨g, 0, none⟩) n cap) n xs := by
  obtain ⟨hl, hr⟩ := h
  refine ⟨hx, ?_⟩
  rcases hr with ⟨hv, _⟩ | ⟨g', cap', cur, hv, hb, hg, hn, hm, hs, ht⟩
  · cases hv
  · cases hv
    refine .inr ⟨g, cap, cur, rfl, hb, hg, by omega, hm, hs, ?_⟩
    have : cur.toList.take (n * 2) = (cur.toList.take ((n + 1) * 2)).take (n * 2) := by rw [List.take_take, Nat.min_eq_left (by omega)]
    rw [this, ht, ← hx, List.take_left]
theorem held_at (z : Int) (v : Value) (st : List Ent) (t : LT) (b o lev M base : Nat) (w : World) (hz : z = (lev : Nat)) (hown : w.ownsRow base 128 2 v st.length (stCells st)) (ht : Lies w M t b o) (hM : M ≤ base) (hb : base ≤ w.heap.size)
    (hlen : st.length ≤ 1000000000) :
    Calls Tryz.prog 89 #[v, .pointer (some ⟨b, o, none⟩), .int .i64 z] w (HeldPost base (pushed t lev st) w) := by
  subst hz; exact held_any v st t b o lev M base w hown ht hM hb hlen
theorem popped_own {w : World} {base g cap eb eo ec ev p : Nat} {t : LT} {r : List LT} {st : List Ent} (hp : st.length = p) (hr : 0 < r.length)
    (h : w.ownsRow base 128 2 (.slice (some ⟨g, 0, none⟩) (p + 1) cap) (p + 1) (stCells (⟨eb, eo, ec, t :: r, ev⟩ :: st))) :
    (w.setCell ⟨g, p * 2, none⟩ (.slice (some ⟨eb, eo + 7, none⟩) r.length (ec - 1))).drew.ownsRow base 128 2 (.slice (some ⟨g, 0, none⟩) (p + 1) cap) (popped ⟨eb, eo, ec, t :: r, ev⟩ r st).length (stCells (popped ⟨eb, eo, ec, t :: r, ev⟩ r st)) := by
  have h1 := (h.stored (p * 2) (.slice (some ⟨eb, eo + 7, none⟩) r.length (ec - 1))).1.drew
  rw [popped, if_neg (by omega), List.length_cons, hp]
  have h2 := stCells_length st
  rw [hp] at h2
  have e : (stCells (⟨eb, eo, ec, t :: r, ev⟩ :: st)).set (p * 2) (.slice (some ⟨eb, eo + 7, none⟩) r.length (ec - 1)) = stCells (⟨eb, eo + 7, ec - 1, r, ev⟩ :: st) := by
    simp only [stCells, Ent.cells]
    rw [List.set_append, if_neg (by omega), h2, Nat.sub_self]
    rfl
  rw [e] at h1
  exact h1
theorem popped_own0 {w : World} {base g cap eb eo ec ev p : Nat} {t : LT} {r : List LT} {st : List Ent} (V : Value) (hp : st.length = p) (hr : r.length = 0)
    (h : w.ownsRow base 128 2 (.slice (some ⟨g, 0, none⟩) (p + 1) cap) (p + 1) (stCells (⟨eb, eo, ec, t :: r, ev⟩ :: st))) :
    (w.setCell ⟨g, p * 2, none⟩ V).drew.ownsRow base 128 2 (.slice (some ⟨g, 0, none⟩) p cap) (popped ⟨eb, eo, ec, t :: r, ev⟩ r st).length (stCells (popped ⟨eb, eo, ec, t :: r, ev⟩ r st)) := by
  have h1 := (h.stored (p * 2) V).1.drew
  rw [popped, if_pos hr, hp]
  have h2 := stCells_length st
  rw [hp] at h2
  have e : (stCells (⟨eb, eo, ec, t :: r, ev⟩ :: st)).set (p * 2) V = stCells st ++ [V, .int .i64 (ev : Nat)] := by
    simp only [stCells, Ent.cells]
    rw [List.set_append, if_neg (by omega), h2, Nat.sub_self]
    rfl
  rw [e] at h1
  exact ownRow_less h1 h2

/-- One round: what it needs ahead of the call of yield, and what it leaves. -/
structure Round (M N base : Nat) (full : List Node) (J : Nat → World → Prop) (k m0 eb eo ev : Nat) (t : LT) (st : List Ent) (w w' : World) : Prop where
  at_ : full[k]? = some ⟨ev, eb, eo, t⟩
  lt : k < full.length
  m : m0 + k = full.length
  drop : full.drop (k + 1) = flat (pushed t (ev + 1) st)
  j : J k w'
  here : Lies w' M t eb eo
  good : ∀ e ∈ st, e.good w' M N
  lev : ev + t.size ≤ N
  below : Below base w w'
  len : st.length ≤ 1000000000

theorem round_of {M N base : Nat} {full : List Node} {J : Nat → World → Prop} {k m0 eb eo ec ev g off : Nat} {t : LT} {r : List LT} {st : List Ent} {w : World} (V : Value) (hJ : ∀ k A B, Fine base A B → J k A → J k B)
    (hMb : M ≤ base) (hN : full.length + 1 ≤ N) (hN9 : N ≤ 1000000000) (hg : base ≤ g) (hrow : ∃ c, w.heap[g]? = some (.cells c 128 (0, 0)))
    (hdrop : full.drop k = flat (⟨eb, eo, ec, t :: r, ev⟩ :: st)) (hgood : ∀ e ∈ (⟨eb, eo, ec, t :: r, ev⟩ :: st : List Ent), e.good w M N) (hmk : m0 + k = full.length) (hj : J k w) :
    Round M N base full J k m0 eb eo ev t (popped ⟨eb, eo, ec, t :: r, ev⟩ r st) w (w.setCell ⟨g, off, none⟩ V).drew := by
  have hb : Below base w (w.setCell ⟨g, off, none⟩ V).drew := ((Below.refl base w).setCell (p := ⟨g, off, none⟩) hg V).drew
  have hfl := hdrop
  rw [flat_popped rfl st] at hfl
  have hlt : k < full.length := by
    rcases Nat.lt_or_ge k full.length with h | h
    · exact h
    · rw [List.drop_eq_nil_of_le h] at hfl; simp at hfl
  have hat : full[k]? = some ⟨ev, eb, eo, t⟩ := by
    have h1 : (full.drop k)[0]? = full[k]? := by rw [List.getElem?_drop]; simp
    rw [← h1, hfl]; rfl
  have he := hgood _ (List.mem_cons_self ..)
  obtain ⟨_, _, _, h4, _, h6⟩ := he
  simp only [sizes] at h6
  have hgp := good_popped (e := ⟨eb, eo, ec, t :: r, ev⟩) rfl hgood
  have hd1 : full.drop (k + 1) = flat (pushed t (ev + 1) (popped ⟨eb, eo, ec, t :: r, ev⟩ r st)) := by
    have h1 : full.drop (k + 1) = (full.drop k).drop 1 := by rw [List.drop_drop]
    rw [h1, hfl]; rfl
  refine ⟨hat, hlt, hmk, hd1, hJ k _ _ (by obtain ⟨c, hc⟩ := hrow; exact Fine.at_ hb hc (.inl ⟨c, _, rfl⟩) fun i hi hne => Below.heap_setCell _ _ _ _ hne) hj, (liesR_cons ▸ h4 : Lies w M t eb eo ∧ _).1.keep hb.size (fun i hi => hb.block i (by omega)) _ _ _, fun e he => (hgp e he).keep hb.size (fun i hi => hb.block i (by omega)), by omega, hb, ?_⟩
  have h1 := flat_length_ge hgp
  have h2 : (flat (popped ⟨eb, eo, ec, t :: r, ev⟩ r st)).length ≤ (full.drop k).length := by
    rw [hdrop]
    by_cases h0 : r.length = 0
    · rw [popped, if_pos h0]; simp only [flat, List.length_append]; omega
    · rw [popped, if_neg h0]; simp only [flat, List.length_append, seqR_cons]; omega
  rw [List.length_drop] at h2
  omega
theorem Round.next {M N base Bs : Nat} {full : List Node} {J : Nat → World → Prop} {k m0 eb eo ev : Nat} {t : LT} {st : List Ent} {w w' w5 w6 : World} {X : Nat → Prop} {v : Value} (h : Round M N base full J k m0 eb eo ev t st w w') (hJ : ∀ k A B, Fine base A B → J k A → J k B)
    (hMb : M ≤ base) (hBs : M ≤ Bs) (hX : ∀ r, X r → M ≤ r) (hb : base ≤ w6.heap.size) (h5 : ButU Bs X w' w5) (hw' : M ≤ w'.heap.size) (hj : J (k + 1) w5) (h6 : Fine base w5 w6) (own : w6.ownsRow base 128 2 v (pushed t (ev + 1) st).length (stCells (pushed t (ev + 1) st))) :
    ToldRel M N base full J v w6 (m0 - 1) := by
  have hk : ∀ i, i < M → w6.heap[i]? = w'.heap[i]? := fun i hi => (h6.block i (by omega)).trans (h5.low (by omega) (by omega) (fun hx => by have := hX _ hx; omega))
  have hs : w'.heap.size ≤ w6.heap.size := Nat.le_trans h5.1 h6.size
  exact ⟨k + 1, pushed t (ev + 1) st, by have := h.m; have := h.lt; omega, h.drop, good_pushed (h.here.keep hs hk _ _ _) h.lev (fun e he => (h.good e he).keep hs hk), own, hb, hJ _ _ _ h6 hj⟩

theorem told_less {M N base : Nat} {full : List Node} {J : Nat → World → Prop} {v v' : Value} {w w' : World} {m0 : Nat} (h : leastOf (fun m => ToldRel M N base full J v w m) = m0) (hm : 0 < m0) (hr : ToldRel M N base full J v' w' (m0 - 1)) :
    leastOf (fun m => ToldRel M N base full J v' w' m) < leastOf (fun m => ToldRel M N base full J v w m) := by
  have := (leastOf_spec (p := fun m => ToldRel M N base full J v' w' m) ⟨_, hr⟩).2 _ hr
  omega

set_option maxRecDepth 100000 in
set_option maxHeartbeats 3200000 in
theorem told1_in (n l bd M N b o Bs : Nat) (root : LT) (X : Nat → Prop) (J Jx : Nat → World → Prop) (W : World) (hBs : M ≤ Bs) (hbt : bd < Bs ∨ ∃ c fr, W.heap[bd]? = some (.cells c 107 fr)) (hX : ∀ r, X r → M ≤ r ∧ r ≠ bd ∧ r < W.heap.size)
    (hJ : ∀ k A B, Fine W.heap.size A B → J k A → J k B) (full : List Node) (hfull : full = seqT root 1 b o)
    (hY : ∀ k W1, k < full.length → J k W1 → YieldAt Fence.wide (n - 1) Tryz.prog l (toldAt full k) W1 fun e W' =>
      (e = .returned (.bool true) ∧ J (k + 1) W' ∧ ButU Bs X W1 W') ∨ (e = .returned (.bool false) ∧ Jx k W'))
    (hbd : W.cell? ⟨bd, 0, none⟩ = some (.pointer (some ⟨b, o, none⟩))) (hMW : M ≤ W.heap.size) (hL : Lies W M root b o) (hN : root.size + 1 ≤ N) (hN9 : N ≤ 1000000000) (h0 : J 0 W) :
    CallsIn Fence.wide n Tryz.prog 88 #[.func (.yield l) #[] #[], .pointer (some ⟨bd, 0, none⟩)] W fun e W' => (∃ v, e = .returned v) ∧ (J full.length W' ∨ ∃ k, k < full.length ∧ Jx k W') := by
  have hbW : bd < W.heap.size := World.block_lt_of_cell? W _ hbd
  have hlen : full.length = root.size := by rw [hfull, seqT_length]
  have hsz := root.size_eq
  have hat0 : full[0]? = some ⟨1, b, o, root⟩ := by rw [hfull, seqT_eq]; rfl
  have hdrop1 : full.drop 1 = flat (pushed root 2 []) := by
    have := flat_pushed root 1 b o []
    simp only [flat, List.append_nil] at this
    rw [hfull, this]; rfl
  obtain ⟨fn, tmps, assign, body, hy, hR⟩ := hY 0 W (by omega) h0
  rw [toldAt_eq hat0] at hy
  have hy' : (Instr.yield l #[Value.int .i64 1, .pointer (some ⟨b, o, none⟩)]).run Tryz.prog W = _ := hy
  clear hy
  have HL := Lib.hid (And.intro hlen (And.intro hfull hat0))
  have HD := Lib.hid hdrop1
  clear hlen hfull hdrop1 hat0
  refine callsIn_of_wp Tryz.func88 rfl trivial ?_ rfl
  simp only [Tryz.ntmps88, List.size_toArray, List.length_cons, List.length_nil, Nat.reduceAdd, Nat.reduceSub, Array.replicate_succ, Array.replicate_zero, List.push_toArray, List.append_toArray, List.nil_append, List.cons_append]
  gi_wp2
  refine ⟨fun h => absurd h (by decide), hR.mono ?_⟩
  rintro e W3 (⟨rfl, hJ3, hk3⟩ | ⟨rfl, hJx3⟩)
  · have hbd3 : W3.cell? ⟨bd, 0, none⟩ = some (.pointer (some ⟨b, o, none⟩)) := (World.cell?_of_block (hk3.still hbW (fun h => (hX _ h).2.1 rfl) hbt)).trans hbd
    have hL3 : Lies W3 M root b o := Lies.keep hk3.1 (fun k hk => hk3.low (by omega) (by omega) (fun h => by have := (hX _ h).1; omega)) _ _ _ hL
    have H3 := Lib.hid hL3
    have hs3 := hk3.1
    gi_wp2_with (refine ⟨trivial, fun h => absurd h (by decide), ?_⟩; gi_at_call 89; refine (callsIn_wide.2 (held_any (.slice none 0 0) [] root b o 2 M W.heap.size W3 (World.ownsRow_nil _ _ _ _) H3.out hMW hs3 (by simp))).mono ?_; rintro e W4 ⟨v4, rfl, own4, b4⟩)
    have hJ4 : J 1 W4 := hJ 1 W3 W4 b4 hJ3
    have hg4 : ∀ e ∈ pushed root 2 [], e.good W4 M N := good_pushed (v := 1) (hL3.keep (Nat.le_trans (Nat.le_refl _) b4.size) (fun k hk => b4.block k (by omega)) _ _ _) (by omega) (by simp)
    gi_loopw [3] (fun v w => ∃ m, ToldRel M N W.heap.size full J v w m) (fun v w => leastOf (fun m => ToldRel M N W.heap.size full J v w m))
    case atStart => exact ⟨full.length - 1, 1, pushed root 2 [], by rw [HL.out.1]; omega, HD.out, hg4, own4, by have := b4.size; omega, hJ4⟩
    case round =>
      obtain ⟨k, st, hmk, hdrop, hgood, hown, hbase, hJk⟩ := (leastOf_spec hrel).1
      generalize hm0 : leastOf (fun m => ToldRel M N W.heap.size full J u3 wr m) = m0 at hmk
      have HM := Lib.hid hm0
      clear hm0 hrel
      cases st with
      | nil =>
        have hkN : k = full.length := by
          have := congrArg List.length hdrop
          simp only [List.length_drop, flat, List.length_nil] at this
          omega
        have HK := Lib.hid hkN
        clear hkN hdrop hmk
        have hJN := Lib.hid (HK.out ▸ hJk)
        rcases hown.2 with ⟨rfl, _⟩ | ⟨g, cap, cur, rfl, _⟩
        · clear hown hgood hJk
          gi_wp2
          go_end0
          exact ⟨⟨_, rfl⟩, .inl hJN.out⟩
        · clear hown hgood hJk
          gi_wp2
          go_end0
          exact ⟨⟨_, rfl⟩, .inl hJN.out⟩
      | cons e st =>
        have he := hgood e (List.mem_cons_self ..)
        obtain ⟨g, cap, hv⟩ := ownsRow_succ hown
        have hv : u3 = .slice (some ⟨g, 0, none⟩) (st.length + 1) cap := hv
        subst hv
        have hnN : st.length ≤ 1000000000 := by
          have h1 := flat_length_ge hgood
          rw [← hdrop, List.length_drop, HL.out.1] at h1
          simp only [List.length_cons] at h1
          omega
        obtain ⟨eb, eo, ec, el, ev⟩ := e
        obtain ⟨hl1, hl2, hl3, hl4, hl5, hl6⟩ := he
        simp only at hl1 hl2 hl3 hl4 hl5 hl6
        obtain ⟨t, r, rfl⟩ : ∃ t r, el = t :: r := by cases el with | nil => simp at hl1 | cons t r => exact ⟨t, r, rfl⟩
        have hstC := stCells_length st
        have hc0 : wr.cell? ⟨g, st.length * 2, none⟩ = some (.slice (some ⟨eb, eo, none⟩) (r.length + 1) ec) := by
          have := hown.cells (g := g) rfl (st.length * 2) (.slice (some ⟨eb, eo, none⟩) (r.length + 1) ec) (by simp [stCells, Ent.cells, hstC])
          rwa [cell_add, Nat.zero_add] at this
        have hc1 : wr.cell? ⟨g, st.length * 2 + 1, none⟩ = some (.int .i64 (ev : Nat)) := by
          have := hown.cells (g := g) rfl (st.length * 2 + 1) (.int .i64 (ev : Nat)) (by simp [stCells, Ent.cells, hstC])
          rwa [cell_add, Nat.zero_add] at this
        have hfz : wr.frozen? ⟨g, st.length * 2, none⟩ = false := hown.frozenAt _
        have hgb := (hown.lt g rfl)
        have hpc : st.length + 1 ≤ cap := by
          rcases hown.2 with ⟨h, _⟩ | ⟨_, _, _, h, _, _, h2, _⟩
          · cases h
          · cases h; exact h2
        generalize hn : st.length = p at *
        have HN := Lib.hid hn
        have hlf : full.length = root.size := HL.out.1
        have HO := Lib.hid (And.intro hown (And.intro hdrop (And.intro hgood (And.intro hmk hJk))))
        clear hn hown hdrop hgood hstC hmk hJk
        unfold maxLen at hl3
        simp only [List.length_cons] at hl2
        clear hl1 hl4 hl6 hv
        by_cases h0 : r.length = 0
        · by_cases hec : ec = 1
          · subst hec
            have hrd := round_of (g := g) (off := p * 2) (.slice (some ⟨eb, eo, none⟩) 0 0) hJ hMW (by rw [hlf]; exact hN) hN9 hgb.1 (ownRow_row HO.out.1 rfl) HO.out.2.1 HO.out.2.2.1 HO.out.2.2.2.1 HO.out.2.2.2.2
            have hpo := popped_own0 (.slice (some ⟨eb, eo, none⟩) 0 0) HN.out h0 (by have h1 := HO.out.1; rw [List.length_cons, HN.out] at h1; exact h1)
            obtain ⟨fn2, tmps2, assign2, body2, hy2, hR2⟩ := hY k _ hrd.lt hrd.j
            rw [toldAt_eq hrd.at_] at hy2
            have hev : ev ≤ 1000000000 := by have := hrd.lev; omega
            have hsz5 : wr.heap.size ≤ (wr.setCell ⟨g, p * 2, none⟩ (.slice (some ⟨eb, eo, none⟩) 0 0)).drew.heap.size := hrd.below.size
            have HQ := Lib.hid (And.intro h0 (And.intro hrd hpo))
            rw [h0] at hc0 hl2
            clear h0 hrd hpo hlf
            gi_wp2
            gi_region
            gi_wp2
            refine ⟨fun h => absurd h (by decide), hR2.mono ?_⟩
            rintro e W5 (⟨rfl, hJ5, hk5⟩ | ⟨rfl, hJx5⟩)
            · have hs5 : W.heap.size ≤ W5.heap.size := by have := hk5.1; omega
              have own5 := own_butU HQ.out.2.2 hk5 (fun i h1 h2 hx => by have := (hX i hx).2.2; omega)
              have hL5 := HQ.out.2.1.here.keep hk5.1 (fun i hi => hk5.low (by omega) (by omega) (fun h => by have := (hX _ h).1; omega)) _ _ _
              have H5 := Lib.hid (And.intro own5 (And.intro hL5 HQ.out.2.1.len))
              have HX5 := Lib.hid hk5
              clear own5 hL5 hk5 hy2 hR2
              gi_wp2_with (refine ⟨trivial, fun h => absurd h (by decide), ?_⟩; gi_at_call 89; refine (callsIn_wide.2 (held_at _ _ _ t eb eo (ev + 1) M W.heap.size W5 (by omega) H5.out.1 H5.out.2.1 hMW hs5 H5.out.2.2)).mono ?_; rintro e W6 ⟨v6, rfl, own6, b6⟩)
              have hnx := HQ.out.2.1.next hJ hMW hBs (fun r h => (hX r h).1) (by have := b6.size; omega) HX5.out (by omega) hJ5 b6 own6
              have HNX := Lib.hid hnx
              clear hnx
              go_roundw
              case rel => exact ⟨_, HNX.out⟩
              case measure => exact told_less HM.out (by have := HQ.out.2.1.m; have := HQ.out.2.1.lt; omega) HNX.out
            · gi_wp2
              refine bodyPost_ret (results_none rfl _ _ _) rfl ?_
              exact ⟨⟨_, rfl⟩, .inr ⟨k, HQ.out.2.1.lt, hJx5⟩⟩
          · have hec2 : 2 ≤ ec := by omega
            clear hec
            have hrd := round_of (g := g) (off := p * 2) (.slice (some ⟨eb, eo + 7, none⟩) 0 (ec - 1)) hJ hMW (by rw [hlf]; exact hN) hN9 hgb.1 (ownRow_row HO.out.1 rfl) HO.out.2.1 HO.out.2.2.1 HO.out.2.2.2.1 HO.out.2.2.2.2
            have hpo := popped_own0 (.slice (some ⟨eb, eo + 7, none⟩) 0 (ec - 1)) HN.out h0 (by have h1 := HO.out.1; rw [List.length_cons, HN.out] at h1; exact h1)
            obtain ⟨fn2, tmps2, assign2, body2, hy2, hR2⟩ := hY k _ hrd.lt hrd.j
            rw [toldAt_eq hrd.at_] at hy2
            have hev : ev ≤ 1000000000 := by have := hrd.lev; omega
            have hsz5 : wr.heap.size ≤ (wr.setCell ⟨g, p * 2, none⟩ (.slice (some ⟨eb, eo + 7, none⟩) 0 (ec - 1))).drew.heap.size := hrd.below.size
            have HQ := Lib.hid (And.intro h0 (And.intro hrd hpo))
            rw [h0] at hc0 hl2
            clear h0 hrd hpo hlf
            gi_wp2
            gi_region
            gi_wp2
            refine ⟨fun h => absurd h (by decide), hR2.mono ?_⟩
            rintro e W5 (⟨rfl, hJ5, hk5⟩ | ⟨rfl, hJx5⟩)
            · have hs5 : W.heap.size ≤ W5.heap.size := by have := hk5.1; omega
              have own5 := own_butU HQ.out.2.2 hk5 (fun i h1 h2 hx => by have := (hX i hx).2.2; omega)
              have hL5 := HQ.out.2.1.here.keep hk5.1 (fun i hi => hk5.low (by omega) (by omega) (fun h => by have := (hX _ h).1; omega)) _ _ _
              have H5 := Lib.hid (And.intro own5 (And.intro hL5 HQ.out.2.1.len))
              have HX5 := Lib.hid hk5
              clear own5 hL5 hk5 hy2 hR2
              gi_wp2_with (refine ⟨trivial, fun h => absurd h (by decide), ?_⟩; gi_at_call 89; refine (callsIn_wide.2 (held_at _ _ _ t eb eo (ev + 1) M W.heap.size W5 (by omega) H5.out.1 H5.out.2.1 hMW hs5 H5.out.2.2)).mono ?_; rintro e W6 ⟨v6, rfl, own6, b6⟩)
              have hnx := HQ.out.2.1.next hJ hMW hBs (fun r h => (hX r h).1) (by have := b6.size; omega) HX5.out (by omega) hJ5 b6 own6
              have HNX := Lib.hid hnx
              clear hnx
              go_roundw
              case rel => exact ⟨_, HNX.out⟩
              case measure => exact told_less HM.out (by have := HQ.out.2.1.m; have := HQ.out.2.1.lt; omega) HNX.out
            · gi_wp2
              refine bodyPost_ret (results_none rfl _ _ _) rfl ?_
              exact ⟨⟨_, rfl⟩, .inr ⟨k, HQ.out.2.1.lt, hJx5⟩⟩
        · obtain ⟨q, hq⟩ : ∃ q, r.length = q + 1 := ⟨r.length - 1, by omega⟩
          clear h0
          have hrd := round_of (g := g) (off := p * 2) (.slice (some ⟨eb, eo + 7, none⟩) (q + 1) (ec - 1)) hJ hMW (by rw [hlf]; exact hN) hN9 hgb.1 (ownRow_row HO.out.1 rfl) HO.out.2.1 HO.out.2.2.1 HO.out.2.2.2.1 HO.out.2.2.2.2
          have hpo := popped_own HN.out (by rw [hq]; exact Nat.succ_pos q) (by have h1 := HO.out.1; rw [List.length_cons, HN.out] at h1; exact h1)
          rw [hq] at hpo
          obtain ⟨fn2, tmps2, assign2, body2, hy2, hR2⟩ := hY k _ hrd.lt hrd.j
          rw [toldAt_eq hrd.at_] at hy2
          have hev : ev ≤ 1000000000 := by have := hrd.lev; omega
          have hsz5 : wr.heap.size ≤ (wr.setCell ⟨g, p * 2, none⟩ (.slice (some ⟨eb, eo + 7, none⟩) (q + 1) (ec - 1))).drew.heap.size := hrd.below.size
          have HQ := Lib.hid (And.intro hq (And.intro hrd hpo))
          rw [hq] at hc0 hl2
          clear hq hrd hpo hlf
          have hec : 2 ≤ ec := by omega
          gi_wp2
          gi_region
          gi_wp2
          refine ⟨fun h => absurd h (by decide), hR2.mono ?_⟩
          rintro e W5 (⟨rfl, hJ5, hk5⟩ | ⟨rfl, hJx5⟩)
          · have hs5 : W.heap.size ≤ W5.heap.size := by have := hk5.1; omega
            have own5 := own_butU HQ.out.2.2 hk5 (fun i h1 h2 hx => by have := (hX i hx).2.2; omega)
            have hL5 := HQ.out.2.1.here.keep hk5.1 (fun i hi => hk5.low (by omega) (by omega) (fun h => by have := (hX _ h).1; omega)) _ _ _
            have H5 := Lib.hid (And.intro own5 (And.intro hL5 HQ.out.2.1.len))
            have HX5 := Lib.hid hk5
            clear own5 hL5 hk5 hy2 hR2
            gi_wp2_with (refine ⟨trivial, fun h => absurd h (by decide), ?_⟩; gi_at_call 89; refine (callsIn_wide.2 (held_at _ _ _ t eb eo (ev + 1) M W.heap.size W5 (by omega) H5.out.1 H5.out.2.1 hMW hs5 H5.out.2.2)).mono ?_; rintro e W6 ⟨v6, rfl, own6, b6⟩)
            have hnx := HQ.out.2.1.next hJ hMW hBs (fun r h => (hX r h).1) (by have := b6.size; omega) HX5.out (by omega) hJ5 b6 own6
            have HNX := Lib.hid hnx
            clear hnx
            go_roundw
            case rel => exact ⟨_, HNX.out⟩
            case measure => exact told_less HM.out (by have := HQ.out.2.1.m; have := HQ.out.2.1.lt; omega) HNX.out
          · gi_wp2
            refine bodyPost_ret (results_none rfl _ _ _) rfl ?_
            exact ⟨⟨_, rfl⟩, .inr ⟨k, HQ.out.2.1.lt, hJx5⟩⟩
  · gi_wp2
    refine bodyPost_ret (results_none rfl _ _ _) rfl ?_
    exact ⟨⟨_, rfl⟩, .inr ⟨0, by rw [HL.out.1]; omega, hJx3⟩⟩
end
end Go.Proofs.YthdhdmmlmbkalaaGreatDoor
namespace Go.Proofs.YthdhdmmlmbkalaaGreatDoor
section
open Go.RowKit
variable {P : Program} {ops : Array Oper} {n l : Nat}

/-- The region ends as regions do. -/
def only (Q : Exit → Act → World → Prop) (e : Exit) (a : Act) (w : World) : Prop := e = .normal ∧ Q .normal a w
theorem only.no (Q : Exit → Act → World → Prop) : ¬ LetsOut (only Q) := fun ⟨_, _, h, _⟩ => by cases h

theorem op_in_round {o : Oper} {a : Act} {w : World} {K K' : Act → World → Prop} {Q : Exit → Act → World → Prop} (hd : ∀ c, o.op ≠ .defer c) (hK : ∀ a w, K a w → K' a w) (h : o.wp P a w K (only Q)) :
    o.wpIn (Fence.wide.inRound l) n P a w K' Q := by
  refine ⟨fun f _ => trivial, ?_⟩
  show o.uponIn _ n P a K' Q ((o.semAt (some l) a.eval).run P w)
  rw [Oper.semAt_some l a.eval o hd]
  unfold Oper.wp at h
  generalize (execOp a.eval o).run P w = r at h
  match r, h with
  | .ok (.value v) w', h => exact hK _ _ h
  | .ok .skip w', h => exact hK _ _ h
  | .ok (.defer d) w', h => exact hK _ _ h
  | .ok (.enter f args) w', h =>
    refine ⟨fun hx => absurd (show (Option.none : Option Nat).isSome = true from hx) (by decide), (callsIn_wide.2 h).mono ?_⟩
    intro e w'' he
    match e, he with
    | .returned v, he => exact hK _ _ he
    | .panicked ch, he => exact absurd he.1 (by intro h; cases h)
    | .outgrown, he => exact absurd he (only.no Q)
  | .ok (.row row args) w', h =>
    refine ⟨fun hx => absurd (show (Option.none : Option Nat).isSome = true from hx) (by decide), fun c cs _ => ?_⟩
    obtain ⟨v, w'', hr, hs⟩ := h c cs
    exact ⟨v, w'', hK _ _ hr, stepsIn_wide.2 hs⟩
  | .halt (.panic v) w', h => exact absurd h.1 (by intro h; cases h)

theorem any_in_round (hd : ∀ (i : Nat) (o : Oper) (c : Call), ops[i]? = some o → o.op ≠ .defer c) {md : Region.Mode} {Q : Exit → Act → World → Prop} : ∀ (fuel : Nat) (listed : Array Bool) (a : Act) (w : World),
    wpAny P md ops (only Q) fuel listed a w → wpAnyIn (Fence.wide.inRound l) n P md ops Q fuel listed a w
  | 0, _, _, _, h => ⟨h.1, h.2.2⟩
  | fuel + 1, listed, a, w, h => by
    refine ⟨fun hr => (h.1 hr).2, fun i hi => ?_⟩
    have hi' := h.2 i hi
    unfold wpOp at hi'
    unfold wpOpIn
    cases ho : ops[i]? with
    | none =>
      simp only [ho] at hi' ⊢
      exact any_in_round hd fuel _ _ _ hi'
    | some o =>
      simp only [ho] at hi' ⊢
      by_cases hw : Region.wanted o (yielded ops a.tmps) = true
      · rw [if_pos hw] at hi' ⊢
        rcases hi' with h1 | ⟨_, h1⟩
        · exact op_in_round (hd i o · ho) (fun a w h2 => any_in_round hd fuel _ a w h2) h1
        · exact absurd h1 (only.no Q)
      · rw [if_neg hw] at hi' ⊢
        exact ⟨fun _ _ => trivial, any_in_round hd fuel _ _ _ hi'⟩

/-- Reads in whatever order, and then what stands behind them all, in a round. -/
theorem region_round_tail {id : Nat} {Q : Exit → Act → World → Prop} {a : Act} {w : World} {l0 : List Oper} (m : Nat) (hm : P.follows .mixedOrders = true) (hd : l0.all (fun o => match o.op with | .defer _ => false | _ => true) = true) (hB : Region.lexTailB .any l0.toArray m = true)
    (h : wpStill P l0.toArray w.drew (fun a' => wpList P l0.toArray (only Q) (l0.drop m) a' w.drew) (l0.take m) a) : (Code.region id l0.toArray true).wpIn (Fence.wide.inRound l) n P Q a w := by
  have hd' : ∀ (i : Nat) (o : Oper) (c : Call), l0.toArray[i]? = some o → o.op ≠ .defer c := by
    intro i o c ho hc
    have h1 := List.all_eq_true.1 hd o (List.mem_of_getElem? (by simpa using ho))
    rw [hc] at h1
    cases h1
  refine wpIn_region_any hm (any_in_round hd' _ _ _ _ ?_)
  simp only [Region.lexTailB, Bool.and_eq_true, decide_eq_true_eq] at hB
  obtain ⟨⟨⟨⟨hsel, hn⟩, hs⟩, hc⟩, hlex⟩ := hB
  have hn' : m < l0.length := by simpa using hn
  have htl : (l0.take m).length = m := by rw [List.length_take]; omega
  have hdl : (l0.drop m).length = l0.toArray.size - m := by simp
  have hhead := wpAnyL_lex (md := .any) (g := l0.toArray.size - m) hsel hs hc hn (l0.take m) 0 (Array.replicate l0.toArray.size false) a
    (fun j hj => by rw [htl] at hj; simp [hj]) (by simp [htl])
    ⟨by simp, fun j oj _ hl => (by rw [getD_replicate_false] at hl; cases hl), fun t _ ht => getD_in (by simpa using ht) (getD_replicate_false _ _)⟩ (by rw [htl]; exact hlex) h
  have hall := wpAny_of_head (Q' := only Q) (g := l0.toArray.size - m) (fun listed a' hL => by
    have h2 := wpAny_of_seq (md := .any) (Q' := only Q) (l0.drop m) m listed a' w.drew (fun j => by simp [List.getElem?_drop]) (by rw [hdl]; exact hL.1) hL.2
    rwa [hdl] at h2) _ _ _ hhead
  rw [htl, show m + (l0.toArray.size - m) = l0.toArray.size by omega] at hall
  exact hall
end
end Go.Proofs.YthdhdmmlmbkalaaGreatDoor
