/-
  core.told's iterator, walked. core.told, core.measure, core.isLookedAt: how many expressions there are in one. What calls look at: core.looked, core.given, core.isLookedAt, core.Size; pavanelaw08.light of a row.
-/
import Derived.Test.YthdhdmmlmbkalaaGreatDoorJc11
import Derived.Test.YthdhdmmlmbkalaaGreatDoorJc3
import Derived.Test.YthdhdmmlmbkalaaGreatDoorJc9
set_option linter.unusedVariables false
set_option linter.unusedSimpArgs false
set_option linter.unusedSectionVars false
set_option linter.unnecessarySimpa false
namespace Go.Proofs.YthdhdmmlmbkalaaGreatDoor
section
open Go.RowKit
attribute [local go_sem] Oper.semAt_some

theorem toldE_node {full : List NodeE} {k c : Nat} {a : Option Addr} {t : ET} {r : List ET} {st : List EntE} (h : full.drop k = flatE (⟨a, c, t :: r⟩ :: st)) : k < full.length ∧ full[k]? = some ⟨st.length + 2, blk a, ofs a, t⟩ := by
  have hlt : k < full.length := by
    rcases Nat.lt_or_ge k full.length with h1 | h1
    · exact h1
    · rw [List.drop_eq_nil_of_le h1] at h
      simp [flatE, seqER_cons, seqE_eq] at h
  refine ⟨hlt, ?_⟩
  have h1 : (full.drop k)[0]? = full[k]? := by rw [List.getElem?_drop]; simp
  rw [← h1, h]
  simp [flatE, seqER_cons, seqE_eq]
theorem toldE_next {M N base : Nat} {full : List NodeE} {J : Nat → World → Prop} {k eb eo ec c' p : Nat} {a' : Option Addr} {t : ET} {r : List ET} {st : List EntE} {wr w8 : World} {v8 : Value}
    (hd : full.drop k = flatE (⟨some ⟨eb, eo, none⟩, ec, t :: r⟩ :: st)) (hg : GoodE wr M N (⟨some ⟨eb, eo, none⟩, ec, t :: r⟩ :: st)) (ha : r = [] ∨ a' = some ⟨eb, eo + 13, none⟩) (hs : Spot M a' r.length c') (hp : st.length = p)
    (hsz : wr.heap.size ≤ w8.heap.size) (hlow : ∀ q, q < M → w8.heap[q]? = wr.heap[q]?) (own : w8.ownsRow base 29 1 v8 (p + 1 + 1) (stE (⟨a', c', r⟩ :: st) ++ [.slice t.ka t.kids.length t.kc])) (hb : base ≤ w8.heap.size) (hj : J (k + 1) w8) :
    ToldE M N base full J v8 w8 (2 * (full.length - (k + 1)) + (p + 1 + 1)) := by
  obtain ⟨hlt, hat⟩ := toldE_node hd
  obtain ⟨⟨h1, h2, h3⟩, h4⟩ := hg
  simp only [liesER_cons] at h2
  simp only [sizesE] at h3
  have hts := t.size_eq
  subst hp
  refine ⟨k + 1, ⟨t.ka, t.kc, t.kids⟩ :: ⟨a', c', r⟩ :: st, hlt, rfl, ?_, ?_, own, hb, hj⟩
  · have e1 : full.drop (k + 1) = (full.drop k).drop 1 := by rw [List.drop_drop]
    rw [e1, hd]
    simp only [flatE, seqER_cons, seqE_eq, List.cons_append, List.drop_succ_cons, List.drop_zero, List.length_cons, List.append_assoc]
    rcases ha with rfl | rfl
    · simp [seqER_nil]
    · rfl
  · refine goodE_push (LiesE.keep hsz hlow _ _ _ h2.1) ⟨⟨hs, ?_, by show st.length + sizesE r ≤ N; omega⟩, h4.keep hsz hlow⟩ (by simp only [List.length_cons]; omega)
    rcases ha with rfl | rfl
    · rw [liesER_nil]; trivial
    · exact LiesER.keep hsz hlow _ _ _ h2.2
set_option maxRecDepth 100000 in
set_option maxHeartbeats 3200000 in
theorem told1E_in (n l bd M N b o Bs : Nat) (root : ET) (X : Nat → Prop) (J Jx : Nat → World → Prop) (W : World) (hBs : M ≤ Bs) (hbt : bd < Bs) (hX : ∀ r, X r → M ≤ r ∧ r ≠ bd ∧ r < W.heap.size)
    (hJ : ∀ k A B, FineE W.heap.size A B → J k A → J k B) (full : List NodeE) (hfull : full = seqE root 1 b o)
    (hY : ∀ k W1, k < full.length → J k W1 → YieldAt Fence.wide (n - 1) Tryz.prog l (toldE full k) W1 fun e W' =>
      (e = .returned (.bool true) ∧ J (k + 1) W' ∧ ButE Bs X W1 W') ∨ (e = .returned (.bool false) ∧ Jx k W'))
    (hbd : W.cell? ⟨bd, 0, none⟩ = some (.pointer (some ⟨b, o, none⟩))) (hMW : M ≤ W.heap.size) (hL : LiesE W M root b o) (hN : root.size + 1 ≤ N) (hN9 : N ≤ 1000000000) (h0 : J 0 W) :
    CallsIn Fence.wide n Tryz.prog 47 #[.func (.yield l) #[] #[], .pointer (some ⟨bd, 0, none⟩)] W fun e W' => (∃ v, e = .returned v) ∧ (J full.length W' ∨ ∃ k, k < full.length ∧ Jx k W') := by
  obtain ⟨i0, hi, hz0, hz1, hz2⟩ := info_parts infoS
  have hbW : bd < W.heap.size := World.block_lt_of_cell? W _ hbd
  have hlen : full.length = root.size := by rw [hfull, seqE_length]
  have hsz := root.size_eq
  have hat0 : full[0]? = some ⟨1, b, o, root⟩ := by rw [hfull, seqE_eq]; rfl
  have hdrop1 : full.drop 1 = flatE [⟨root.ka, root.kc, root.kids⟩] := by rw [hfull, seqE_eq]; simp [flatE]
  obtain ⟨fn, tmps, assign, body, hy, hR⟩ := hY 0 W (by omega) h0
  rw [toldE_eq hat0] at hy
  have hy' : (Instr.yield l #[Value.int .i64 1, .pointer (some ⟨b, o, none⟩)]).run Tryz.prog W = _ := hy
  clear hy
  have HL := Lib.hid (And.intro hlen (And.intro hfull hat0))
  have HD := Lib.hid hdrop1
  clear hlen hfull hdrop1 hat0
  refine callsIn_of_wp Tryz.func47 rfl trivial ?_ rfl
  simp only [Tryz.ntmps47, List.size_toArray, List.length_cons, List.length_nil, Nat.reduceAdd, Nat.reduceSub, Array.replicate_succ, Array.replicate_zero, List.push_toArray, List.append_toArray, List.nil_append, List.cons_append]
  gi_wp2
  refine ⟨fun h => absurd h (by decide), hR.mono ?_⟩
  rintro e W3 (⟨rfl, hJ3, hk3⟩ | ⟨rfl, hJx3⟩)
  · have hbd3 : W3.cell? ⟨bd, 0, none⟩ = some (.pointer (some ⟨b, o, none⟩)) := (World.cell?_of_block (w := W) (a := ⟨bd, 0, none⟩) (hk3.low hbW hbt (fun h => (hX _ h).2.1 rfl))).trans hbd
    have hL3 : LiesE W3 M root b o := LiesE.keep hk3.1 (fun k hk => hk3.low (by omega) (by omega) (fun h => by have := (hX _ h).1; omega)) _ _ _ hL
    have hs3 := hk3.1
    have c12 : W3.cell? ⟨b, o + 12, none⟩ = some (.slice root.ka root.kids.length root.kc) := (liesE_held.1 hL3).2.1 12 _ rfl
    have own4 : (W3.alloc (.cells #[.slice root.ka root.kids.length root.kc] 29)).ownsRow W.heap.size 29 1 (.slice (some ⟨W3.heap.size, 0, none⟩) 1 1) 1 [.slice root.ka root.kids.length root.kc] :=
      World.ownsRow_lit (base := W.heap.size) (size := 1) W3 #[.slice root.ka root.kids.length root.kc] 1 hs3 (by decide) rfl
    have f4 : FineE W.heap.size W3 (W3.alloc (.cells #[.slice root.ka root.kids.length root.kc] 29)) := FineE.new ((Below.refl _ _).alloc (Nat.le_refl _) _) hs3
    have hJ4 := hJ 1 _ _ f4 hJ3
    have hL4 := LiesE.keep f4.size (fun q hq => f4.block q (by omega)) _ _ _ hL3
    have HI := Lib.hid (show ToldE M N W.heap.size full J (.slice (some ⟨W3.heap.size, 0, none⟩) 1 1) (W3.alloc (.cells #[.slice root.ka root.kids.length root.kc] 29)) (2 * (full.length - 1) + 1) from
      ⟨1, [⟨root.ka, root.kc, root.kids⟩], by rw [HL.out.1]; omega, rfl, HD.out, goodE_push hL4 trivial (by show 0 + sizesE root.kids ≤ N; omega), own4, by have := f4.size; omega, hJ4⟩)
    clear own4 f4 hJ4 hL4 hL3 hJ3 hk3
    gi_wp2
    clear c12 hbd3
    gi_loopw [3] (fun v w => ∃ m, ToldE M N W.heap.size full J v w m) (fun v w => leastOf (fun m => ToldE M N W.heap.size full J v w m))
    case atStart => exact ⟨_, HI.out⟩
    case round =>
      clear HI
      obtain ⟨k, st, hkN, hmk, hdrop, hgood, hown, hbase, hJk⟩ := (leastOf_spec hrel).1
      generalize hm0 : leastOf (fun m => ToldE M N W.heap.size full J u3 wr m) = m0 at hmk
      have HM := Lib.hid (And.intro hm0 hmk)
      clear hm0 hrel hmk
      cases st with
      | nil =>
        have hkL : k = full.length := by
          have := congrArg List.length hdrop
          simp only [List.length_drop, flatE, List.length_nil] at this
          omega
        have hJN := Lib.hid (hkL ▸ hJk)
        rcases hown.2 with ⟨rfl, _⟩ | ⟨g, cap, cur, rfl, _⟩
        · clear hown hgood hJk hdrop hkL
          gi_wp2
          go_end0
          exact ⟨⟨_, rfl⟩, .inl hJN.out⟩
        · clear hown hgood hJk hdrop hkL
          gi_wp2
          go_end0
          exact ⟨⟨_, rfl⟩, .inl hJN.out⟩
      | cons e st =>
        obtain ⟨g, cap, rfl, hg1, hg2, hpc, hc0, hfz⟩ := ownsRow_one hown
        have hpN : st.length ≤ N := by have := hgood.1.2.2; omega
        generalize hp : st.length = p at *
        obtain ⟨ea, ec, el⟩ := e
        have hcl : cap ≤ 9223372036854775807 := by
          rcases hown.2 with ⟨h, _⟩ | ⟨_, _, _, h, _, _, _, h3, _⟩
          · cases h
          · cases h; unfold maxLen at h3; omega
        cases el with
        | nil =>
          have hO := rowE_less (n := p) (xs := stE st) (by have h1 := hown; rw [List.length_cons, hp] at h1; exact h1) ((stE_length st).trans hp)
          have HR := Lib.hid (show ToldE M N W.heap.size full J (.slice (some ⟨g, 0, none⟩) p cap) wr (2 * (full.length - k) + p) from
            ⟨k, st, hkN, by rw [hp], by rw [hdrop]; simp [flatE, seqER_nil], hgood.2, by rw [hp]; exact hO, hbase, hJk⟩)
          have HM2 := Lib.hid (show 2 * (full.length - k) + p < m0 by have := HM.out.2; simp only [List.length_cons] at this; omega)
          have hc1 : wr.cell? ⟨g, p, none⟩ = some (.slice ea 0 ec) := hc0
          clear hO hgood hown hdrop hJk hc0 hp
          gi_wp2
          go_roundw
          case rel => exact ⟨_, HR.out⟩
          case measure => exact toldE_less HM.out.1 HM2.out HR.out
        | cons t r =>
          have hsp := hgood.1.1
          have hli := hgood.1.2.1
          obtain ⟨hea, heb⟩ := hsp.2.2.1 (by simp)
          obtain ⟨eb, hebb⟩ : ∃ x, blk ea = x := ⟨_, rfl⟩
          obtain ⟨eo, heoo⟩ : ∃ x, ofs ea = x := ⟨_, rfl⟩
          rw [hebb, heoo] at hea
          rw [hebb] at heb
          subst hea
          clear hebb heoo
          obtain ⟨hkl, hat⟩ := toldE_node hdrop
          have hlt0 : LiesE wr M t eb eo := (liesER_cons ▸ hli : _ ∧ _).1
          have hcE : r.length + 1 ≤ ec := by have := hsp.1; simpa using this
          have hcM : ec ≤ 9223372036854775807 := by have := hsp.2.1; unfold maxLen at this; omega
          have hrw : ∃ c, wr.heap[g]? = some (.cells c 29 (0, 0)) := rowE_at hown rfl
          have hrowS : ∀ z, (wr.setCell ⟨g, p, none⟩ z).ownsRow W.heap.size 29 1 (.slice (some ⟨g, 0, none⟩) (p + 1) cap) (p + 1) (stE st ++ [z]) := fun z => by
            exact rowE_set (n := p) (xs := stE st) z (by have h1 := hown; rw [List.length_cons, hp] at h1; exact h1) ((stE_length st).trans hp)
          have hfin : ∀ z, FineE W.heap.size wr (wr.setCell ⟨g, p, none⟩ z) := fun z => by
            obtain ⟨c, hc⟩ := hrw
            exact FineE.at_ ((Below.refl _ _).setCell (p := ⟨g, p, none⟩) hg1 z) hc (.stack c _) fun i _ hne => Below.heap_setCell _ _ _ _ hne
          have hJs : ∀ z, J k (wr.setCell ⟨g, p, none⟩ z) := fun z => hJ k _ _ (hfin z) hJk
          have HO := Lib.hid (And.intro hdrop (And.intro hgood (And.intro hrowS (And.intro hfin hlt0))))
          have HM2 := Lib.hid (show 2 * (full.length - (k + 1)) + (p + 1 + 1) < m0 by have := HM.out.2; simp only [List.length_cons] at this; omega)
          have HP := Lib.hid hp
          rw [hp] at hat
          have hc1 : wr.cell? ⟨g, p, none⟩ = some (.slice (some ⟨eb, eo, none⟩) (r.length + 1) ec) := hc0
          have hsr := hsp
          clear hdrop hgood hown hrowS hfin hlt0 hli hJk hrw hc0 hp hsp
          obtain ⟨q, hq⟩ : ∃ q, r.length = q := ⟨_, rfl⟩
          have HQ := Lib.hid (And.intro hq hsr)
          rw [hq] at hc1 hcE
          clear hq hsr
          by_cases hec : ec = 1
          · have hq0 : q = 0 := by omega
            subst hec hq0
            obtain ⟨fn2, tmps2, assign2, body2, hy2, hR2⟩ := hY k _ hkl (hJs (.slice (some ⟨eb, eo, none⟩) 0 0))
            rw [toldE_eq hat] at hy2
            dsimp only [blk, ofs] at hy2
            have hy3 := hy2
            rw [show ((p + 2 : Nat) : Int) = (p : Int) + 1 + 1 by omega] at hy3
            clear hy2
            have hss : (wr.setCell ⟨g, p, none⟩ (.slice (some ⟨eb, eo, none⟩) 0 0)).heap.size = wr.heap.size := World.size_setCell ..
            gi_wp2
            refine ⟨fun h => absurd h (by decide), hR2.mono ?_⟩
            rintro e W5 (⟨rfl, hJ5, hk5⟩ | ⟨rfl, hJx5⟩)
            · have hs5 : wr.heap.size ≤ W5.heap.size := by have := hk5.1; omega
              have own5 := rowE_but (HO.out.2.2.1 (.slice (some ⟨eb, eo, none⟩) 0 0)) hk5 (fun i h1 h2 hx => by have := (hX i hx).2.2; omega)
              have hlow5 : ∀ i, i < M → W5.heap[i]? = wr.heap[i]? := fun i hi => (hk5.low (by omega) (by omega) (fun h => by have := (hX _ h).1; omega)).trans ((HO.out.2.2.2.1 (.slice (some ⟨eb, eo, none⟩) 0 0)).block i (by omega))
              have hL5 := LiesE.keep hs5 hlow5 _ _ _ HO.out.2.2.2.2
              have c12 : W5.cell? ⟨eb, eo + 12, none⟩ = some (.slice t.ka t.kids.length t.kc) := (liesE_held.1 hL5).2.1 12 _ rfl
              have H5 := Lib.hid (And.intro own5 (And.intro hlow5 hJ5))
              clear own5 hlow5 hL5 hk5 hy3 hR2 hJ5 hJs
              gi_wp2_with (gi_at_builtin; refine wpListIn_append_own _ rfl (.tmp 50) (.tmp 55) 82 rfl W.heap.size 29 i0 (.slice none 0 0) 1 24 Tryz.underlying82 hi hz0 hz1 hz2 rfl (by decide) _ (p + 1) (stE st ++ [.slice (some ⟨eb, eo, none⟩) 0 0]) rfl (H5.out.1.alloc _) ⟨W5.heap.size, 0, none⟩ 1 1 [.slice t.ka t.kids.length t.kc] rfl rfl (cellS (World.alloc_heap_new W5 (.cells #[.slice t.ka t.kids.length t.kc] 29))) (by intro u hu; rw [List.mem_singleton.1 hu]; rfl) (by unfold maxLen; omega) (by omega) (by rw [World.size_alloc]; omega) ?_; intro v8 w8 own8 grow8 _)
              have f8 := fineE_grown (o := .cells #[.slice t.ka t.kids.length t.kc] 29) H5.out.1 (by omega) grow8
              have HN8 := Lib.hid (toldE_next (J := J) (w8 := w8) (v8 := v8) (base := W.heap.size) HO.out.1 HO.out.2.1 (a' := some ⟨eb, eo, none⟩) (c' := 0) (.inl (List.length_eq_zero_iff.1 HQ.out.1)) (by rw [HQ.out.1]; exact ⟨Nat.le_refl _, Nat.zero_le _, fun h => absurd h (by decide), fun e => by cases e⟩) HP.out (by have := f8.size; omega) (fun i hi => (f8.block i (by omega)).trans (H5.out.2.1 i hi)) (by have h1 := own8; rw [show stE (⟨some ⟨eb, eo, none⟩, 0, r⟩ :: st) = stE st ++ [.slice (some ⟨eb, eo, none⟩) 0 0] by simp only [stE, EntE.cell, HQ.out.1]]; exact h1) (by have := f8.size; omega) (hJ _ _ _ f8 H5.out.2.2))
              clear own8 grow8 f8 c12
              gi_wp2
              go_roundw
              case rel => exact ⟨_, HN8.out⟩
              case measure => exact toldE_less HM.out.1 HM2.out HN8.out
            · gi_wp2
              refine bodyPost_ret (results_none rfl _ _ _) rfl ?_
              exact ⟨⟨_, rfl⟩, .inr ⟨k, hkl, hJx5⟩⟩
          · have hec2 : 2 ≤ ec := by omega
            obtain ⟨fn2, tmps2, assign2, body2, hy2, hR2⟩ := hY k _ hkl (hJs (.slice (some ⟨eb, eo + 13, none⟩) q (ec - 1)))
            rw [toldE_eq hat] at hy2
            dsimp only [blk, ofs] at hy2
            have hy3 := hy2
            rw [show ((p + 2 : Nat) : Int) = (p : Int) + 1 + 1 by omega] at hy3
            clear hy2
            have hss : (wr.setCell ⟨g, p, none⟩ (.slice (some ⟨eb, eo + 13, none⟩) q (ec - 1))).heap.size = wr.heap.size := World.size_setCell ..
            gi_wp2
            refine ⟨fun h => absurd h (by decide), hR2.mono ?_⟩
            rintro e W5 (⟨rfl, hJ5, hk5⟩ | ⟨rfl, hJx5⟩)
            · have hs5 : wr.heap.size ≤ W5.heap.size := by have := hk5.1; omega
              have own5 := rowE_but (HO.out.2.2.1 (.slice (some ⟨eb, eo + 13, none⟩) q (ec - 1))) hk5 (fun i h1 h2 hx => by have := (hX i hx).2.2; omega)
              have hlow5 : ∀ i, i < M → W5.heap[i]? = wr.heap[i]? := fun i hi => (hk5.low (by omega) (by omega) (fun h => by have := (hX _ h).1; omega)).trans ((HO.out.2.2.2.1 (.slice (some ⟨eb, eo + 13, none⟩) q (ec - 1))).block i (by omega))
              have hL5 := LiesE.keep hs5 hlow5 _ _ _ HO.out.2.2.2.2
              have c12 : W5.cell? ⟨eb, eo + 12, none⟩ = some (.slice t.ka t.kids.length t.kc) := (liesE_held.1 hL5).2.1 12 _ rfl
              have H5 := Lib.hid (And.intro own5 (And.intro hlow5 hJ5))
              clear own5 hlow5 hL5 hk5 hy3 hR2 hJ5 hJs
              gi_wp2_with (gi_at_builtin; refine wpListIn_append_own _ rfl (.tmp 50) (.tmp 55) 82 rfl W.heap.size 29 i0 (.slice none 0 0) 1 24 Tryz.underlying82 hi hz0 hz1 hz2 rfl (by decide) _ (p + 1) (stE st ++ [.slice (some ⟨eb, eo + 13, none⟩) q (ec - 1)]) rfl (H5.out.1.alloc _) ⟨W5.heap.size, 0, none⟩ 1 1 [.slice t.ka t.kids.length t.kc] rfl rfl (cellS (World.alloc_heap_new W5 (.cells #[.slice t.ka t.kids.length t.kc] 29))) (by intro u hu; rw [List.mem_singleton.1 hu]; rfl) (by unfold maxLen; omega) (by omega) (by rw [World.size_alloc]; omega) ?_; intro v8 w8 own8 grow8 _)
              have f8 := fineE_grown (o := .cells #[.slice t.ka t.kids.length t.kc] 29) H5.out.1 (by omega) grow8
              have HN8 := Lib.hid (toldE_next (J := J) (w8 := w8) (v8 := v8) (base := W.heap.size) HO.out.1 HO.out.2.1 (a' := some ⟨eb, eo + 13, none⟩) (c' := (ec - 1)) (.inr rfl) (by rw [HQ.out.1]; exact ⟨by omega, by unfold maxLen; omega, fun _ => ⟨rfl, heb⟩, fun e => by cases e⟩) HP.out (by have := f8.size; omega) (fun i hi => (f8.block i (by omega)).trans (H5.out.2.1 i hi)) (by have h1 := own8; rw [show stE (⟨some ⟨eb, eo + 13, none⟩, (ec - 1), r⟩ :: st) = stE st ++ [.slice (some ⟨eb, eo + 13, none⟩) q (ec - 1)] by simp only [stE, EntE.cell, HQ.out.1]]; exact h1) (by have := f8.size; omega) (hJ _ _ _ f8 H5.out.2.2))
              clear own8 grow8 f8 c12
              gi_wp2
              go_roundw
              case rel => exact ⟨_, HN8.out⟩
              case measure => exact toldE_less HM.out.1 HM2.out HN8.out
            · gi_wp2
              refine bodyPost_ret (results_none rfl _ _ _) rfl ?_
              exact ⟨⟨_, rfl⟩, .inr ⟨k, hkl, hJx5⟩⟩
  · gi_wp2
    refine bodyPost_ret (results_none rfl _ _ _) rfl ?_
    exact ⟨⟨_, rfl⟩, .inr ⟨0, by rw [HL.out.1]; omega, hJx3⟩⟩
end
end Go.Proofs.YthdhdmmlmbkalaaGreatDoor
namespace Go.Proofs.YthdhdmmlmbkalaaGreatDoor
section
open Go.RowKit
attribute [local go_sem] Oper.semAt_some

theorem toldE_any (p : Option Addr) (w : World) : Calls Tryz.prog 27 #[.pointer p] w fun e w' => e = .returned (.func (.func 47) #[] #[.pointer (some ⟨w.heap.size, 0, none⟩)]) ∧ w' = w.alloc (.cells #[.pointer p] 46) := by
  go_enter Tryz.func27, Tryz.ntmps27
  go_wp2
  go_ret
  exact ⟨rfl, rfl⟩
theorem toldE_runs (n bd M b o : Nat) (root : ET) (X : Nat → Prop) (w : World) (hX : ∀ r, X r → M ≤ r ∧ r ≠ bd) (hbd : w.cell? ⟨bd, 0, none⟩ = some (.pointer (some ⟨b, o, none⟩))) (hM : M ≤ w.heap.size) (hL : LiesE w M root b o) (hN : root.size < 1000000000) :
    Runs Fence.wide n Tryz.prog 47 #[.pointer (some ⟨bd, 0, none⟩)] (toldE (seqE root 1 b o)) (seqE root 1 b o).length X w := by
  intro l J Jx W hW hXW hJ hJx hY h0
  have hbw : bd < w.heap.size := World.block_lt_of_cell? w _ hbd
  exact told1E_in n l bd M (root.size + 1) b o W.heap.size root X J Jx W (Nat.le_trans hM hW.size) (World.block_lt_of_cell? W _ ((hW.cell (p := ⟨bd, 0, none⟩) hbw).trans hbd)) (fun r hr => ⟨(hX r hr).1, (hX r hr).2, hXW r hr⟩) (fun k A B h => hJ k A B h.toBelow) _ rfl
    (fun k W1 hk hj => by
      obtain ⟨fn, tmps, asg, bo, hy, hR⟩ := hY k W1 hk hj
      exact ⟨fn, tmps, asg, bo, hy, hR.mono fun e W' h => h.imp (fun h => ⟨h.1, h.2.1, h.2.2.e⟩) id⟩) ((hW.cell (p := ⟨bd, 0, none⟩) hbw).trans hbd) (Nat.le_trans hM hW.size)
    (hL.keep hW.size (fun i hi => hW.block i (by omega)) _ _ _) (Nat.le_refl _) (by omega) h0
/-- What is told lies there; how deep. -/
theorem levE : ∀ (N : Nat) (e : ET), e.size ≤ N → ∀ (lv b o : Nat) (x : NodeE), x ∈ seqE e lv b o → lv ≤ x.lev ∧ x.lev + x.e.depth ≤ lv + e.depth ∧ ∀ (w : World) (M : Nat), LiesE w M e b o → LiesE w M x.e x.b x.o
  | 0, e, h, _, _, _, _, _ => by rw [e.size_eq] at h; omega
  | N + 1, e, h, lv, b, o, x, hx => by
    rw [seqE_eq] at hx
    rcases List.mem_cons.1 hx with rfl | hx
    · exact ⟨Nat.le_refl _, Nat.le_refl _, fun _ _ h => h⟩
    · have hs := e.size_eq
      have hd := e.depth_eq
      have key : ∀ (l : List ET) (b o : Nat), sizesE l ≤ N → x ∈ seqER l (lv + 1) b o → lv + 1 ≤ x.lev ∧ x.lev + x.e.depth ≤ lv + 1 + depthsE l ∧ ∀ (w : World) (M : Nat), LiesER w M l b o → LiesE w M x.e x.b x.o := by
        intro l
        induction l with
        | nil => intro b o _ hx; rw [seqER_nil] at hx; cases hx
        | cons t l ih =>
          intro b o hl hx
          simp only [sizesE] at hl
          rw [seqER_cons] at hx
          simp only [depthsE, liesER_cons]
          rcases List.mem_append.1 hx with hx | hx
          · obtain ⟨h1, h2, h3⟩ := levE N t (by omega) (lv + 1) b o x hx
            exact ⟨h1, by omega, fun w M h => h3 w M h.1⟩
          · obtain ⟨h1, h2, h3⟩ := ih b (o + 13) (by omega) hx
            exact ⟨h1, by omega, fun w M h => h3 w M h.2⟩
      obtain ⟨h1, h2, h3⟩ := key e.kids (blk e.ka) (ofs e.ka) (by omega) hx
      exact ⟨by omega, by omega, fun w M h => h3 w M (liesE_held.1 h).2.2.2.2⟩
def MeasE (M b o B md dd : Nat) (root : ET) (w : World) (k : Nat) (W : World) : Prop :=
  W.heap[B]? = some (.cells #[.int .i64 (md : Nat), .int .i64 (dd : Nat)] 75 (0, 0)) ∧ W.heap[B + 1]? = some (.cells #[.int .i64 0] 3 (0, 0)) ∧ W.heap[B + 1 + 1]? = some (.cells #[.bool false] 4 (0, 0)) ∧
  W.heap[B + 1 + 1 + 1]? = some (.cells #[.int .i64 (k : Nat)] 3 (0, 0)) ∧ LiesE W M root b o ∧ Below B w W
theorem MeasE.below {M b o B md dd C : Nat} {root : ET} {w A W : World} {k : Nat} (hM : M ≤ B) (hC : B + 4 ≤ C) (h : MeasE M b o B md dd root w k A) (hb : Below C A W) : MeasE M b o B md dd root w k W :=
  ⟨(hb.block _ (by omega)).trans h.1, (hb.block _ (by omega)).trans h.2.1, (hb.block _ (by omega)).trans h.2.2.1, (hb.block _ (by omega)).trans h.2.2.2.1,
    h.2.2.2.2.1.keep hb.size (fun i hi => hb.block i (by omega)) _ _ _, h.2.2.2.2.2.trans (hb.mono (by omega))⟩
theorem one_cell {w : World} {B : Nat} {x : Value} {t : TypeId} (h : w.heap[B]? = some (.cells #[x] t (0, 0))) : w.cell? ⟨B, 0, none⟩ = some x ∧ w.frozen? ⟨B, 0, none⟩ = false := ⟨by simp [World.cell?, h], by simp [World.frozen?, h]⟩
theorem MeasE.step {M b o B md dd k : Nat} {root : ET} {w W : World} (hM : M ≤ B) (h : MeasE M b o B md dd root w k W) (z : Int) (hz : z = ((k + 1 : Nat) : Int)) :
    But (fun r => r = B + 1 + 1 + 1) W (W.setCell ⟨B + 1 + 1 + 1, 0, none⟩ (.int .i64 z)) ∧ MeasE M b o B md dd root w (k + 1) (W.setCell ⟨B + 1 + 1 + 1, 0, none⟩ (.int .i64 z)) := by
  subst hz
  have hbut : But (fun r => r = B + 1 + 1 + 1) W (W.setCell ⟨B + 1 + 1 + 1, 0, none⟩ (.int .i64 ((k + 1 : Nat) : Int))) := But.setCell (fun r => r = B + 1 + 1 + 1) W ⟨B + 1 + 1 + 1, 0, none⟩ _ rfl
  have hlt : B + 1 + 1 + 1 < W.heap.size := (Array.getElem?_eq_some_iff.1 h.2.2.2.1).1
  refine ⟨hbut, (hbut.2 _ (by omega) (by omega)).trans h.1, (hbut.2 _ (by omega) (by omega)).trans h.2.1, (hbut.2 _ (by omega) (by omega)).trans h.2.2.1, ?_, h.2.2.2.2.1.keep hbut.1 (fun i hi => hbut.2 i (by omega) (by omega)) _ _ _, ?_⟩
  · simp [World.setCell, Array.getElem?_modify, h.2.2.2.1]
  · exact h.2.2.2.2.2.trans ((Below.refl B W).setCell (p := ⟨B + 1 + 1 + 1, 0, none⟩) (by show B ≤ B + 1 + 1 + 1; omega) _)
set_option maxRecDepth 100000 in
set_option maxHeartbeats 3200000 in
theorem measureE_in (M b o md dd : Nat) (root : ET) (w : World) (hM : M ≤ w.heap.size) (hL : LiesE w M root b o) (hN : root.size < 1000000000) (h1 : root.size ≤ md) (h2 : root.depth ≤ dd) :
    CallsIn Fence.wide 5 Tryz.prog 36 #[.pointer (some ⟨b, o, none⟩), .agg #[.int .i64 md, .int .i64 dd]] w fun e w' => e = .returned (.tuple #[.int .i64 root.size, .bool true]) ∧ Below w.heap.size w w' := by
  obtain ⟨W0, hW0⟩ : ∃ W0, (((((w.alloc (Obj.cells #[.int .i64 md, .int .i64 dd] 75)).alloc (Obj.cells #[.int .i64 0] 3)).alloc (Obj.cells #[.bool false] 4)).alloc (Obj.cells #[.int .i64 0] 3)).alloc (.cells #[.pointer (some ⟨b, o, none⟩)] 46)) = W0 := ⟨_, rfl⟩
  have hbl : Below w.heap.size w W0 := hW0 ▸ (((((Below.refl _ w).alloc (Nat.le_refl _) _).alloc (by simp) _).alloc (by simp; omega) _).alloc (by simp; omega) _).alloc (by simp; omega) _
  have hz0 : W0.heap.size = w.heap.size + 5 := by rw [← hW0]; simp
  have h5 := five w (Obj.cells #[.int .i64 md, .int .i64 dd] 75) (Obj.cells #[.int .i64 0] 3) (Obj.cells #[.bool false] 4) (Obj.cells #[.int .i64 0] 3) (.cells #[.pointer (some ⟨b, o, none⟩)] 46)
  rw [hW0] at h5
  have hL0 : LiesE W0 M root b o := hL.keep hbl.size (fun i hi => hbl.block i (by omega)) _ _ _
  have hI0 : MeasE M b o w.heap.size md dd root w 0 W0 := ⟨h5.1, h5.2.1, h5.2.2.1, h5.2.2.2.1, hL0, hbl⟩
  have hbd0 : W0.cell? ⟨w.heap.size + 4, 0, none⟩ = some (.pointer (some ⟨b, o, none⟩)) := Lib.cell_of_heap h5.2.2.2.2 0
  obtain ⟨full, hfull⟩ : ∃ full, full = seqE root 1 b o := ⟨_, rfl⟩
  have hlen : full.length = root.size := by rw [hfull, seqE_length]
  have hlev : ∀ x ∈ full, 1 ≤ x.lev ∧ x.lev ≤ root.depth := fun x hx => by
    have h := levE root.size root (Nat.le_refl _) 1 b o x (hfull ▸ hx)
    have := x.e.depth_eq
    exact ⟨h.1, by omega⟩
  have HF := Lib.hid (And.intro hlen hlev)
  have HW := Lib.hid hW0
  have hruns := toldE_runs 4 (w.heap.size + 4) M b o root (fun r => r = w.heap.size + 1 + 1 + 1 ∨ r = W0.heap.size + 1) W0 (fun r hr => by rcases hr with rfl | rfl <;> omega) hbd0 (by omega) hL0 hN
  rw [← hfull] at hruns
  have HI0 := Lib.hid (And.intro hI0 hruns)
  clear hfull hlen hlev hW0 h5 hbd0 hI0 hL0 hbl hL hruns
  refine callsIn_of_wp_marks Tryz.func36 rfl trivial ?_ rfl
  simp only [Tryz.ntmps36, List.size_toArray, List.length_cons, List.length_nil, Nat.reduceAdd, Nat.reduceSub, Array.replicate_succ, Array.replicate_zero, List.push_toArray, List.append_toArray, List.nil_append, List.cons_append]
  gi_wp2_with (refine ⟨trivial, ?_⟩; gi_at_call 27; refine (callsIn_wide.2 (toldE_any _ _)).mono ?_; rintro e w' ⟨rfl, rfl⟩)
  rw [HW.out]
  refine wpIn_runs (X := fun r => r = w.heap.size + 1 + 1 + 1) (w0 := W0) rfl (by decide) (gf := 47) (lb := #[.pointer (some ⟨w.heap.size + 4, 0, none⟩)]) rfl trivial (enters_of Tryz.func47 (by kernel_rfl) rfl)
    HI0.out.2 (fun r hr => by omega) (Below.refl _ _) (fun k => rfl) (fun k W => MeasE M b o w.heap.size md dd root w k W) (fun _ _ _ => False)
    (fun k A B hAB h => h.below hM (by omega) hAB) (fun _ _ _ _ _ h => h) HI0.out.1
    (fun k => { tmps := #[.pointer (some ⟨b, o, none⟩), .agg #[.int .i64 md, .int .i64 dd], undef, .pointer (some ⟨w.heap.size, 0, none⟩), .pointer (some ⟨w.heap.size + 1, 0, none⟩), .pointer (some ⟨w.heap.size + 1 + 1, 0, none⟩), .pointer (some ⟨w.heap.size + 1 + 1 + 1, 0, none⟩),
      .int .i64 ((ndE full k).lev : Nat), .pointer (some ⟨b, o, none⟩), .func (.func 47) #[] #[.pointer (some ⟨w.heap.size + 4, 0, none⟩)],
      .int .i64 ((ndE full k).lev : Nat), .pointer (some ⟨(ndE full k).b, (ndE full k).o, none⟩), undef, undef, undef, undef, undef, undef, undef, undef, undef, undef, undef, undef, undef, undef], defers := [] })
    ?assign ?body ?done ?stop
  case assign =>
    intro l k W K _ hK
    simp only [toldE]
    gi_wp2
    exact hK
  case body =>
    rintro l k W hkN hI
    obtain ⟨x, hat⟩ : ∃ x, full[k]? = some x := ⟨full[k], List.getElem?_eq_getElem hkN⟩
    have hx := HF.out.2 x (List.mem_of_getElem? hat)
    have hkl : k < root.size := by rw [← HF.out.1]; exact hkN
    obtain ⟨p0, p1, -⟩ := two_cells hI.1
    obtain ⟨c0, f0⟩ := one_cell hI.2.2.2.1
    have HI := Lib.hid (hI.step hM ((k : Int) + 1) (by omega))
    simp only [ndE_eq hat]
    obtain ⟨lv, hlv⟩ : ∃ lv, x.lev = lv := ⟨_, rfl⟩
    rw [hlv] at hx ⊢
    have g1 : decide ((md : Int) < (k : Int) + 1) = false := decide_eq_false (by omega)
    have g2 : decide ((dd : Int) < (lv : Int)) = false := decide_eq_false (by omega)
    clear hI hat hlv
    gi_wp2
    exact HI.out
  case done =>
    rintro D W hD hI hK
    obtain ⟨c0, f0⟩ := one_cell hI.2.2.2.1
    obtain ⟨r0, rf⟩ := one_cell hI.2.1
    obtain ⟨s0, sf⟩ := one_cell hI.2.2.1
    rw [HF.out.1] at c0
    have hbw := Lib.hid hI.2.2.2.2.2
    have HKD := Lib.hid hK
    clear hI hK
    gi_wp2
    have g0 : ((W.setCell ⟨w.heap.size + 1, 0, none⟩ (.int .i64 root.size)).setCell ⟨w.heap.size + 1 + 1, 0, none⟩ (.bool true)).cell? ⟨w.heap.size + 1, 0, none⟩ = some (.int .i64 root.size) := by go_simp
    have g2 : ((W.setCell ⟨w.heap.size + 1, 0, none⟩ (.int .i64 root.size)).setCell ⟨w.heap.size + 1 + 1, 0, none⟩ (.bool true)).cell? ⟨w.heap.size + 1 + 1, 0, none⟩ = some (.bool true) := by go_simp
    generalize hV : ((W.setCell ⟨w.heap.size + 1, 0, none⟩ (.int .i64 root.size)).setCell ⟨w.heap.size + 1 + 1, 0, none⟩ (.bool true)) = V at g0 g2 ⊢
    have hVD : V.heap[D]? = some (.deferred (some [])) := by
      rw [← hV]
      exact ((KeepsOthers.setCell _ _ _).trans (KeepsOthers.setCell _ _ _)).same D _ HKD.out rfl
    have hVb : Below w.heap.size w V := by
      rw [← hV]
      exact (hbw.out.setCell (p := ⟨w.heap.size + 1, 0, none⟩) (by show w.heap.size ≤ w.heap.size + 1; omega) _).setCell (p := ⟨w.heap.size + 1 + 1, 0, none⟩) (by show w.heap.size ≤ w.heap.size + 1 + 1; omega) _
    have hp : ∀ b j, b ≠ D → (V.putObj D (.deferred none)).cell? ⟨b, j, none⟩ = V.cell? ⟨b, j, none⟩ := fun b j hb => World.cell?_of_block (World.putObj_heap_other hb)
    have k0 := (hp (w.heap.size + 1) 0 (by omega)).trans g0
    have k2 := (hp (w.heap.size + 1 + 1) 0 (by omega)).trans g2
    refine ⟨by simp, .inl ⟨_, _, rfl, run_takeDeferred hVD, ?_⟩⟩
    refine ⟨.tuple #[.int .i64 root.size, .bool true], by simp [results, Tryz.results36, k0, k2, go_sem], rfl, hVb.trans ⟨rfl, rfl, rfl, by simp, fun k hk => World.putObj_heap_other (by omega)⟩⟩
  case stop => exact fun _ _ _ _ _ _ h => h.elim
theorem measureE_any (M b o md dd : Nat) (root : ET) (w : World) (hM : M ≤ w.heap.size) (hL : LiesE w M root b o) (h1 : root.size ≤ md) (h2 : root.depth ≤ dd) (hmd : md < 1000000000) :
    Calls Tryz.prog 36 #[.pointer (some ⟨b, o, none⟩), .agg #[.int .i64 md, .int .i64 dd]] w fun e w' => e = .returned (.tuple #[.int .i64 root.size, .bool true]) ∧ Below w.heap.size w w' :=
  callsIn_wide.1 (measureE_in M b o md dd root w hM hL (by omega) h1 h2)
end
end Go.Proofs.YthdhdmmlmbkalaaGreatDoor
namespace Go.Proofs.YthdhdmmlmbkalaaGreatDoor
section
open Go.RowKit

theorem IntsAt.upM {w : World} {M N : Nat} {a : Option Addr} {c : Nat} {zs : List Int} (h : IntsAt w M a c zs) (hMN : M ≤ N) : IntsAt w N a c zs := ⟨h.1.upM hMN, h.2⟩
mutual
theorem LiesE.upM {w : World} {M N : Nat} (hMN : M ≤ N) : ∀ (e : ET) (b o : Nat), LiesE w M e b o → LiesE w N e b o
  | .mk k d v va vc vs rs p ka kc kids, b, o, h => by
    simp only [LiesE] at h ⊢
    obtain ⟨h1, h2, ⟨h3, h4⟩, h5, h6⟩ := h
    exact ⟨Nat.lt_of_lt_of_le h1 hMN, h2, ⟨h3.upP hMN, h4.upM hMN⟩, h5.upM hMN, LiesER.upM hMN kids _ _ h6⟩
theorem LiesER.upM {w : World} {M N : Nat} (hMN : M ≤ N) : ∀ (l : List ET) (b o : Nat), LiesER w M l b o → LiesER w N l b o
  | [], _, _, _ => by simp [LiesER]
  | e :: l, b, o, h => by
    simp only [LiesER] at h ⊢
    exact ⟨LiesE.upM hMN e b o h.1, LiesER.upM hMN l b (o + 13) h.2⟩
end
theorem HeldE.upM {w : World} {M N : Nat} {e : ET} (h : HeldE w M e) (hMN : M ≤ N) : HeldE w N e := ⟨⟨h.1.1.upP hMN, h.1.2.upM hMN⟩, h.2.1.upM hMN, LiesER.upM hMN _ _ _ h.2.2⟩
/-- An expression that was put into a block of its own. -/
theorem HeldE.boxed {w W : World} {M B : Nat} {e : ET} (h : HeldE w M e) (hM : M ≤ w.heap.size) (hMB : M ≤ B) (hb : Below w.heap.size w W) (hB : W.heap[B]? = some (Obj.cells #[.int .i64 e.k, .int .i64 e.d.k, .bool e.d.g, .slice e.d.la e.d.ln e.d.lc, .bool e.d.bb, .string e.d.s, .slice e.d.ia e.d.items.length e.d.ic, .slice e.d.ta e.d.tail.length e.d.tc, .int .i64 e.v, .slice e.va e.vs.length e.vc, .bool e.rs, .int .i64 e.p, .slice e.ka e.kids.length e.kc] 31)) : LiesE W (B + 1) e B 0 := by
  refine liesE_held.2 ⟨Nat.lt_succ_self _, fun j x hj => ?_, (h.keep hb.size (fun q hq => hb.block q (by omega))).upM (by omega)⟩
  rw [Lib.cell_of_heap hB, Nat.zero_add]
  have hj2 := hj
  unfold ET.cells at hj2
  simpa using hj2
section
set_option maxRecDepth 100000 in
theorem lookedE_any (w : World) : Calls Tryz.prog 43 #[] w fun e w' => e = .returned (.agg #[.int .i64 100000, .int .i64 10000]) ∧ Below w.heap.size w w' := by
  go_enter Tryz.func43, Tryz.ntmps43
  go_wp2_with fail
  refine bodyPost_ret (v := .agg #[.int .i64 100000, .int .i64 10000]) (by simp [results, Tryz.results43, go_sem]) rfl ⟨rfl, ?_⟩
  exact (Below.refl _ w).alloc (Nat.le_refl _) _
set_option maxRecDepth 100000 in
theorem givenE_any (w : World) : Calls Tryz.prog 37 #[] w fun e w' => e = .returned (.agg #[.int .i64 12000000, .int .i64 65536]) ∧ Below w.heap.size w w' := by
  go_enter Tryz.func37, Tryz.ntmps37
  go_wp2_with fail
  refine bodyPost_ret (v := .agg #[.int .i64 12000000, .int .i64 65536]) (by simp [results, Tryz.results37, go_sem]) rfl ⟨rfl, ?_⟩
  exact (Below.refl _ w).alloc (Nat.le_refl _) _
set_option maxRecDepth 100000 in
theorem isLookedE_any (M : Nat) (t : ET) (w : World) (hM : M ≤ w.heap.size) (hH : HeldE w M t) (h1 : t.size ≤ 100000) (h2 : t.depth ≤ 10000) :
    Calls Tryz.prog 25 #[.agg #[.int .i64 t.k, .int .i64 t.d.k, .bool t.d.g, .slice t.d.la t.d.ln t.d.lc, .bool t.d.bb, .string t.d.s, .slice t.d.ia t.d.items.length t.d.ic, .slice t.d.ta t.d.tail.length t.d.tc, .int .i64 t.v, .slice t.va t.vs.length t.vc, .bool t.rs, .int .i64 t.p, .slice t.ka t.kids.length t.kc]] w fun e w' => e = .returned (.bool true) ∧ Below w.heap.size w w' := by
  obtain ⟨W0, hW0⟩ : ∃ W, w.alloc (Obj.cells #[.int .i64 t.k, .int .i64 t.d.k, .bool t.d.g, .slice t.d.la t.d.ln t.d.lc, .bool t.d.bb, .string t.d.s, .slice t.d.ia t.d.items.length t.d.ic, .slice t.d.ta t.d.tail.length t.d.tc, .int .i64 t.v, .slice t.va t.vs.length t.vc, .bool t.rs, .int .i64 t.p, .slice t.ka t.kids.length t.kc] 31) = W := ⟨_, rfl⟩
  have h0s : W0.heap.size = w.heap.size + 1 := by rw [← hW0]; exact World.size_alloc ..
  have hb0 : Below w.heap.size w W0 := hW0 ▸ (Below.refl _ w).alloc (Nat.le_refl _) _
  have HL := Lib.hid (hH.boxed hM hM hb0 (hW0 ▸ World.alloc_heap_new _ _))
  have HW := Lib.hid (And.intro hW0 (And.intro h0s hb0))
  clear hH hW0 hb0
  go_enter Tryz.func25, Tryz.ntmps25
  go_wp2_with fail
  rw [HW.out.1]
  refine (lookedE_any W0).mono ?_
  rintro e w1 ⟨rfl, b1⟩
  have HB := Lib.hid b1
  clear b1
  go_wp2_with fail
  refine (measureE_any (w.heap.size + 1) w.heap.size 0 100000 10000 t w1 (by have := HB.out.size; omega) (HL.out.keep HB.out.size (fun q hq => HB.out.block q (by omega)) _ _ _) h1 h2 (by decide)).mono ?_
  rintro e w2 ⟨rfl, b2⟩
  have hb2 := Lib.hid (bnext (bnext HW.out.2.2 HB.out) b2)
  clear b2
  go_wp2_with fail
  go_ret
  exact ⟨rfl, hb2.out⟩
/-- What pavanelaw08.light answers. -/
def lightE (l : List ET) : Bool := l.all fun e => decide (0 ≤ budE e 300 300) && shortE e
theorem lightE_drop {l : List ET} {k : Nat} (h : k < l.length) : lightE (l.drop k) = ((decide (0 ≤ budE l[k] 300 300) && shortE l[k]) && lightE (l.drop (k + 1))) := by rw [List.drop_eq_getElem_cons h]; rfl
set_option maxRecDepth 100000 in
set_option maxHeartbeats 6400000 in
theorem lightE_any (M : Nat) (l : List ET) (ka : Option Addr) (kc : Nat) (w : World) (hM : M ≤ w.heap.size) (hsp : Spot M ka l.length kc) (hL : LiesER w M l (blk ka) (ofs ka)) :
    Calls Tryz.prog 6 #[.slice ka l.length kc] w fun e w' => e = .returned (.bool (lightE l)) ∧ Below w.heap.size w w' := by
  have HLI := Lib.hid hL
  have hb0 := Below.refl w.heap.size w
  have hs1 := hsp.2.1
  have hsc := hsp.1
  unfold maxLen at hs1
  clear hL
  go_enter Tryz.func6, Tryz.ntmps6
  go_wp2_with fail
  go_loopw [7] (fun i wr => ∃ (k : Nat), k ≤ l.length ∧ i = .int .i64 k ∧ Hid (lightE l = lightE (l.drop k)) ∧ Below w.heap.size w wr) (fun i _ => l.length - (intOf i).toNat)
  case atStart => exact ⟨0, Nat.zero_le _, rfl, Lib.hid (by rw [List.drop_zero]), hb0⟩
  case round =>
    obtain ⟨k, hk, rfl, HK, hbs⟩ := hrel
    clear hb0
    by_cases hlk : k < l.length
    · obtain ⟨gb, go, hae, hR⟩ : ∃ gb go, ka = some ⟨gb, go, none⟩ ∧ LiesER w M l gb go := ⟨_, _, (hsp.2.2.1 (by omega)).1, HLI.out⟩
      have hli := ((liesER_iff _ _ _).1 hR k hlk).keep hbs.size (fun q hq => hbs.block q (by omega))
      obtain ⟨hgbM, hcell, hheld⟩ := liesE_held.1 hli
      have hdr := lightE_drop hlk
      clear hsp
      subst hae
      obtain ⟨u, hu⟩ : ∃ u, l[k] = u := ⟨_, rfl⟩
      rw [hu] at hcell hheld hdr
      rw [Nat.mul_comm 13 k] at hcell
      have d0 : wr.cell? ⟨gb, go + k * 13, none⟩ = some (.int .i64 u.k) := hcell 0 _ rfl
      have d1 : wr.cell? ⟨gb, go + k * 13 + 1, none⟩ = some (.int .i64 u.d.k) := hcell 1 _ rfl
      have d2 : wr.cell? ⟨gb, go + k * 13 + 2, none⟩ = some (.bool u.d.g) := hcell 2 _ rfl
      have d3 : wr.cell? ⟨gb, go + k * 13 + 3, none⟩ = some (.slice u.d.la u.d.ln u.d.lc) := hcell 3 _ rfl
      have d4 : wr.cell? ⟨gb, go + k * 13 + 4, none⟩ = some (.bool u.d.bb) := hcell 4 _ rfl
      have d5 : wr.cell? ⟨gb, go + k * 13 + 5, none⟩ = some (.string u.d.s) := hcell 5 _ rfl
      have d6 : wr.cell? ⟨gb, go + k * 13 + 6, none⟩ = some (.slice u.d.ia u.d.items.length u.d.ic) := hcell 6 _ rfl
      have d7 : wr.cell? ⟨gb, go + k * 13 + 7, none⟩ = some (.slice u.d.ta u.d.tail.length u.d.tc) := hcell 7 _ rfl
      have d8 : wr.cell? ⟨gb, go + k * 13 + 8, none⟩ = some (.int .i64 u.v) := hcell 8 _ rfl
      have d9 : wr.cell? ⟨gb, go + k * 13 + 9, none⟩ = some (.slice u.va u.vs.length u.vc) := hcell 9 _ rfl
      have d10 : wr.cell? ⟨gb, go + k * 13 + 10, none⟩ = some (.bool u.rs) := hcell 10 _ rfl
      have d11 : wr.cell? ⟨gb, go + k * 13 + 11, none⟩ = some (.int .i64 u.p) := hcell 11 _ rfl
      have d12 : wr.cell? ⟨gb, go + k * 13 + 12, none⟩ = some (.slice u.ka u.kids.length u.kc) := hcell 12 _ rfl
      obtain ⟨W0, hW0⟩ : ∃ W, wr.alloc (Obj.cells #[.int .i64 u.k, .int .i64 u.d.k, .bool u.d.g, .slice u.d.la u.d.ln u.d.lc, .bool u.d.bb, .string u.d.s, .slice u.d.ia u.d.items.length u.d.ic, .slice u.d.ta u.d.tail.length u.d.tc, .int .i64 u.v, .slice u.va u.vs.length u.vc, .bool u.rs, .int .i64 u.p, .slice u.ka u.kids.length u.kc] 31) = W := ⟨_, rfl⟩
      have hba : Below wr.heap.size wr W0 := hW0 ▸ (Below.refl _ _).alloc (Nat.le_refl _) _
      have h0n : W0.heap[wr.heap.size]? = some (Obj.cells #[.int .i64 u.k, .int .i64 u.d.k, .bool u.d.g, .slice u.d.la u.d.ln u.d.lc, .bool u.d.bb, .string u.d.s, .slice u.d.ia u.d.items.length u.d.ic, .slice u.d.ta u.d.tail.length u.d.tc, .int .i64 u.v, .slice u.va u.vs.length u.vc, .bool u.rs, .int .i64 u.p, .slice u.ka u.kids.length u.kc] 31) := hW0 ▸ World.alloc_heap_new _ _
      have h0s : W0.heap.size = wr.heap.size + 1 := by rw [← hW0]; exact World.size_alloc ..
      have hMs : M ≤ wr.heap.size := Nat.le_trans hM hbs.size
      have HN := Lib.hid (And.intro h0n (And.intro hW0 hba))
      have hheld0 := hheld.keep hba.size (fun q hq => hba.block q (by omega))
      have HS := Lib.hid (smallE_any M u 300 W0 (by omega) hheld0 (by decide) (by decide))
      have HT := Lib.hid (fun (hq : decide (0 ≤ budE u 300 300) = true) W (hb : Below W0.heap.size W0 W) => shortE_any M u.size (by have h0 := of_decide_eq_true hq; have := budE_few u 300 300 h0; omega) u (Nat.le_refl _) W (by have := hb.size; omega) (hheld0.keep hb.size (fun q hq => hb.block q (by omega))))
      have HBA := Lib.hid (bnext hbs hba)
      have HK2 := Lib.hid (show lightE l = ((decide (0 ≤ budE u 300 300) && shortE u) && lightE (l.drop (k + 1))) by rw [HK.out, hdr])
      clear hli hcell hheld hdr hba hR h0n hW0 hheld0
      generalize shortE u = r at *
      generalize decide (0 ≤ budE u 300 300) = q at *
      go_wp2_with fail
      rw [HN.out.2.1]
      refine HS.out.mono ?_
      rintro e w6 ⟨rfl, b6⟩
      have h6n := (b6.block wr.heap.size (by omega)).trans HN.out.1
      have HB6 := Lib.hid b6
      have hb6 := Lib.hid (bnext HBA.out b6)
      clear b6
      cases q
      · have HF := Lib.hid (show lightE l = false by rw [HK2.out]; rfl)
        go_wp2_with fail
        go_ret
        exact ⟨by rw [HF.out]; rfl, hb6.out⟩
      · clear d0 d1 d2 d3 d4 d5 d6 d7 d8 d9 d10 d11 d12
        have e0 : w6.cell? ⟨wr.heap.size, 0, none⟩ = some (.int .i64 u.k) := by rw [Lib.cell_of_heap h6n]; rfl
        have e1 : w6.cell? ⟨wr.heap.size, 1, none⟩ = some (.int .i64 u.d.k) := by rw [Lib.cell_of_heap h6n]; rfl
        have e2 : w6.cell? ⟨wr.heap.size, 2, none⟩ = some (.bool u.d.g) := by rw [Lib.cell_of_heap h6n]; rfl
        have e3 : w6.cell? ⟨wr.heap.size, 3, none⟩ = some (.slice u.d.la u.d.ln u.d.lc) := by rw [Lib.cell_of_heap h6n]; rfl
        have e4 : w6.cell? ⟨wr.heap.size, 4, none⟩ = some (.bool u.d.bb) := by rw [Lib.cell_of_heap h6n]; rfl
        have e5 : w6.cell? ⟨wr.heap.size, 5, none⟩ = some (.string u.d.s) := by rw [Lib.cell_of_heap h6n]; rfl
        have e6 : w6.cell? ⟨wr.heap.size, 6, none⟩ = some (.slice u.d.ia u.d.items.length u.d.ic) := by rw [Lib.cell_of_heap h6n]; rfl
        have e7 : w6.cell? ⟨wr.heap.size, 7, none⟩ = some (.slice u.d.ta u.d.tail.length u.d.tc) := by rw [Lib.cell_of_heap h6n]; rfl
        have e8 : w6.cell? ⟨wr.heap.size, 8, none⟩ = some (.int .i64 u.v) := by rw [Lib.cell_of_heap h6n]; rfl
        have e9 : w6.cell? ⟨wr.heap.size, 9, none⟩ = some (.slice u.va u.vs.length u.vc) := by rw [Lib.cell_of_heap h6n]; rfl
        have e10 : w6.cell? ⟨wr.heap.size, 10, none⟩ = some (.bool u.rs) := by rw [Lib.cell_of_heap h6n]; rfl
        have e11 : w6.cell? ⟨wr.heap.size, 11, none⟩ = some (.int .i64 u.p) := by rw [Lib.cell_of_heap h6n]; rfl
        have e12 : w6.cell? ⟨wr.heap.size, 12, none⟩ = some (.slice u.ka u.kids.length u.kc) := by rw [Lib.cell_of_heap h6n]; rfl
        clear h6n
        go_wp2_with fail
        refine (HT.out (by first | exact rfl | trivial) w6 HB6.out).mono ?_
        rintro e w7 ⟨rfl, b7⟩
        have hb7 := Lib.hid (bnext hb6.out b7)
        clear b7
        cases r
        · have HF := Lib.hid (show lightE l = false by rw [HK2.out]; rfl)
          go_wp2_with fail
          go_ret
          exact ⟨by rw [HF.out]; rfl, hb7.out⟩
        · have HG := Lib.hid (show lightE l = lightE (l.drop (k + 1)) by rw [HK2.out]; rfl)
          go_wp2_with fail
          go_roundw
          case rel => exact ⟨k + 1, by omega, by go_num, HG, hb7.out⟩
          case measure => simp [intOf]; omega
    · obtain rfl : k = l.length := by omega
      have HE := Lib.hid (show lightE l = true by rw [HK.out, List.drop_length]; rfl)
      go_wp2_with fail
      go_ret
      exact ⟨by rw [HE.out]; rfl, hbs⟩
end
end
end Go.Proofs.YthdhdmmlmbkalaaGreatDoor
