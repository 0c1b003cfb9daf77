/-
  datum.told: its iterator tells a datum and all that is in it, in the order of the tree. A region that draws its order, within a round of a range over a function. datum.told, datum.measure: how many data there are in one, and how deep.
-/
import Derived.Test.YthdhdmmlmbkalaaGreatDoorJc1
import Derived.Test.YthdhdmmlmbkalaaGreatDoorJc2
import Derived.WalkKit
import Derived.OwnWalkIn
import Derived.TacticsInMore
import Derived.LoopNIn
import Derived.LoopIn
import Derived.Laws.OwnMore
import Derived.Deep.LoopGhost
import Derived.Shelf.RegionOpen
import Derived.RangeFuncCalls
import Derived.TacticsIn
import Derived.OrdersIn
import Derived.StillTailTactics
import Derived.Lib.Builder
import Derived.IntWalk
set_option linter.unusedVariables false
set_option linter.unusedSimpArgs false
set_option linter.unusedSectionVars false
set_option linter.unnecessarySimpa false
namespace Go.Proofs.YthdhdmmlmbkalaaGreatDoor
section
open Go.RowKit
attribute [local go_sem] Oper.semAt_some

/-- The k-th that is told. -/
def nd (full : List Node) (k : Nat) : Node := (full[k]?).getD ⟨0, 0, 0, .mk 0 false none 0 0 [] false ⟨#[]⟩ none 0 [] none 0 []⟩
def toldAt (full : List Node) (k : Nat) : Array Value := #[.int .i64 ((nd full k).lev : Nat), .pointer (some ⟨(nd full k).b, (nd full k).o, none⟩)]
theorem nd_eq {full : List Node} {k : Nat} {x : Node} (h : full[k]? = some x) : nd full k = x := by simp only [nd, h, Option.getD_some]
theorem toldAt_eq {full : List Node} {k : Nat} {x : Node} (h : full[k]? = some x) : toldAt full k = #[.int .i64 (x.lev : Nat), .pointer (some ⟨x.b, x.o, none⟩)] := by simp only [toldAt, nd_eq h]

/-- The stack's top is taken: the rest of it. -/
def popped (e : Ent) (r : List LT) (st : List Ent) : List Ent := if r.length = 0 then st else ⟨e.b, e.o + 7, e.c - 1, r, e.lev⟩ :: st
theorem flat_popped {e : Ent} {t : LT} {r : List LT} (he : e.l = t :: r) (st : List Ent) : flat (e :: st) = ⟨e.lev, e.b, e.o, t⟩ :: flat (pushed t (e.lev + 1) (popped e r st)) := by
  rw [← flat_pushed]
  by_cases h : r.length = 0
  · rw [popped, if_pos h]
    simp only [flat, he, List.length_eq_zero_iff.1 h, seqR_cons, seqR_nil, List.append_nil]
  · rw [popped, if_neg h]
    simp only [flat, he, seqR_cons, List.append_assoc]
theorem good_popped {w : World} {M N : Nat} {e : Ent} {t : LT} {r : List LT} {st : List Ent} (he : e.l = t :: r) (hst : ∀ x ∈ e :: st, x.good w M N) : ∀ x ∈ popped e r st, x.good w M N := by
  have h := hst e (List.mem_cons_self ..)
  have hs : ∀ x ∈ st, x.good w M N := fun x hx => hst x (List.mem_cons_of_mem _ hx)
  by_cases h0 : r.length = 0
  · rw [popped, if_pos h0]; exact hs
  · rw [popped, if_neg h0]
    intro x hx
    rcases List.mem_cons.1 hx with rfl | hx
    · obtain ⟨_, h2, h3, h4, h5, h6⟩ := h
      rw [he] at h2 h4 h6
      simp only [List.length_cons] at h2
      simp only [sizes] at h6
      refine ⟨by show 0 < r.length; omega, by show r.length ≤ e.c - 1; omega, by show e.c - 1 ≤ maxLen; omega, (liesR_cons ▸ h4 : _ ∧ _).2, h5, by show e.lev + sizes r ≤ N; omega⟩
    · exact hs x hx

/-- What the loop's head knows, with m data still to be told. -/
def ToldRel (M N base : Nat) (full : List Node) (J : Nat → World → Prop) (v : Value) (w : World) (m : Nat) : Prop :=
  ∃ (k : Nat) (st : List Ent), m + k = full.length ∧ full.drop k = flat st ∧ (∀ e ∈ st, e.good w M N) ∧ w.ownsRow base 128 2 v st.length (stCells st) ∧ base ≤ w.heap.size ∧ J k w

/-- The row's last element is cut off. -/
theorem ownRow_less {w : World} {base g n cap : Nat} {xs ys : List Value} (h : w.ownsRow base 128 2 (.slice (some ⟨g, 0, none⟩) (n + 1) cap) (n + 1) (xs ++ ys)) (hx : xs.length = n * 2) :
    w.ownsRow base 128 2 (.slice (some ⟨g, 0, none⟩) n cap) n xs := by
  obtain ⟨hl, hr⟩ := h
  refine ⟨hx, ?_⟩
  rcases hr with ⟨hv, _⟩ | ⟨g', cap', cur, hv, hb, hg, hn, hm, hs, ht⟩
  · cases hv
  · cases hv
    refine .inr ⟨g, cap, cur, rfl, hb, hg, by omega, hm, hs, ?_⟩
    have : cur.toList.take (n * 2) = (cur.toList.take ((n + 1) * 2)).take (n * 2) := by rw [List.take_take, Nat.min_eq_left (by omega)]
    rw [this, ht, ← hx, List.take_left]
theorem flat_nil_of {w : World} {M N : Nat} {st : List Ent} (hst : ∀ e ∈ st, e.good w M N) (h : flat st = []) : st = [] := by
  have := flat_length_ge hst
  rw [h] at this
  exact List.length_eq_zero_iff.1 (by simpa using this)

theorem own_but {w w' : World} {base : Nat} {v : Value} {n : Nat} {xs : List Value} (h : w.ownsRow base 128 2 v n xs) (hk : ∀ k, base ≤ k → k < w.heap.size → w'.heap[k]? = w.heap[k]?) : w'.ownsRow base 128 2 v n xs := by
  refine ⟨h.1, ?_⟩
  rcases h.2 with hn | ⟨g, cap, cur, hv, hb, hg, rest⟩
  · exact .inl hn
  · exact .inr ⟨g, cap, cur, hv, hb, (hk g hb (Array.getElem?_eq_some_iff.1 hg).1).trans hg, rest⟩
theorem held_at (z : Int) (v : Value) (st : List Ent) (t : LT) (b o lev M base : Nat) (w : World) (hz : z = (lev : Nat)) (hown : w.ownsRow base 128 2 v st.length (stCells st)) (ht : Lies w M t b o) (hM : M ≤ base) (hb : base ≤ w.heap.size)
    (hlen : st.length ≤ 1000000000) :
    Calls Tryz.prog 89 #[v, .pointer (some ⟨b, o, none⟩), .int .i64 z] w (HeldPost base (pushed t lev st) w) := by
  subst hz; exact held_any v st t b o lev M base w hown ht hM hb hlen
theorem popped_own {w : World} {base g cap eb eo ec ev p : Nat} {t : LT} {r : List LT} {st : List Ent} (hp : st.length = p) (hr : 0 < r.length)
    (h : w.ownsRow base 128 2 (.slice (some ⟨g, 0, none⟩) (p + 1) cap) (p + 1) (stCells (⟨eb, eo, ec, t :: r, ev⟩ :: st))) :
    (w.setCell ⟨g, p * 2, none⟩ (.slice (some ⟨eb, eo + 7, none⟩) r.length (ec - 1))).drew.ownsRow base 128 2 (.slice (some ⟨g, 0, none⟩) (p + 1) cap) (popped ⟨eb, eo, ec, t :: r, ev⟩ r st).length (stCells (popped ⟨eb, eo, ec, t :: r, ev⟩ r st)) := by
  have h1 := (h.stored (p * 2) (.slice (some ⟨eb, eo + 7, none⟩) r.length (ec - 1))).1.drew
  rw [popped, if_neg (by omega), List.length_cons, hp]
  have h2 := stCells_length st
  rw [hp] at h2
  have e : (stCells (⟨eb, eo, ec, t :: r, ev⟩ :: st)).set (p * 2) (.slice (some ⟨eb, eo + 7, none⟩) r.length (ec - 1)) = stCells (⟨eb, eo + 7, ec - 1, r, ev⟩ :: st) := by
    simp only [stCells, Ent.cells]
    rw [List.set_append, if_neg (by omega), h2, Nat.sub_self]
    rfl
  rw [e] at h1
  exact h1
theorem popped_own0 {w : World} {base g cap eb eo ec ev p : Nat} {t : LT} {r : List LT} {st : List Ent} (V : Value) (hp : st.length = p) (hr : r.length = 0)
    (h : w.ownsRow base 128 2 (.slice (some ⟨g, 0, none⟩) (p + 1) cap) (p + 1) (stCells (⟨eb, eo, ec, t :: r, ev⟩ :: st))) :
    (w.setCell ⟨g, p * 2, none⟩ V).drew.ownsRow base 128 2 (.slice (some ⟨g, 0, none⟩) p cap) (popped ⟨eb, eo, ec, t :: r, ev⟩ r st).length (stCells (popped ⟨eb, eo, ec, t :: r, ev⟩ r st)) := by
  have h1 := (h.stored (p * 2) V).1.drew
  rw [popped, if_pos hr, hp]
  have h2 := stCells_length st
  rw [hp] at h2
  have e : (stCells (⟨eb, eo, ec, t :: r, ev⟩ :: st)).set (p * 2) V = stCells st ++ [V, .int .i64 (ev : Nat)] := by
    simp only [stCells, Ent.cells]
    rw [List.set_append, if_neg (by omega), h2, Nat.sub_self]
    rfl
  rw [e] at h1
  exact ownRow_less h1 h2

/-- One round: what it needs ahead of the call of yield, and what it leaves. -/
structure Round (M N base : Nat) (full : List Node) (J : Nat → World → Prop) (k m0 eb eo ev : Nat) (t : LT) (st : List Ent) (w w' : World) : Prop where
  at_ : full[k]? = some ⟨ev, eb, eo, t⟩
  lt : k < full.length
  m : m0 + k = full.length
  drop : full.drop (k + 1) = flat (pushed t (ev + 1) st)
  j : J k w'
  here : Lies w' M t eb eo
  good : ∀ e ∈ st, e.good w' M N
  lev : ev + t.size ≤ N
  below : Below base w w'
  len : st.length ≤ 1000000000

theorem round_of {M N base : Nat} {full : List Node} {J : Nat → World → Prop} {k m0 eb eo ec ev g off : Nat} {t : LT} {r : List LT} {st : List Ent} {w : World} (V : Value) (hJ : ∀ k A B, Fine base A B → J k A → J k B)
    (hMb : M ≤ base) (hN : full.length + 1 ≤ N) (hN9 : N ≤ 1000000000) (hg : base ≤ g) (hrow : ∃ c, w.heap[g]? = some (.cells c 128 (0, 0)))
    (hdrop : full.drop k = flat (⟨eb, eo, ec, t :: r, ev⟩ :: st)) (hgood : ∀ e ∈ (⟨eb, eo, ec, t :: r, ev⟩ :: st : List Ent), e.good w M N) (hmk : m0 + k = full.length) (hj : J k w) :
    Round M N base full J k m0 eb eo ev t (popped ⟨eb, eo, ec, t :: r, ev⟩ r st) w (w.setCell ⟨g, off, none⟩ V).drew := by
  have hb : Below base w (w.setCell ⟨g, off, none⟩ V).drew := ((Below.refl base w).setCell (p := ⟨g, off, none⟩) hg V).drew
  have hfl := hdrop
  rw [flat_popped rfl st] at hfl
  have hlt : k < full.length := by
    rcases Nat.lt_or_ge k full.length with h | h
    · exact h
    · rw [List.drop_eq_nil_of_le h] at hfl; simp at hfl
  have hat : full[k]? = some ⟨ev, eb, eo, t⟩ := by
    have h1 : (full.drop k)[0]? = full[k]? := by rw [List.getElem?_drop]; simp
    rw [← h1, hfl]; rfl
  have he := hgood _ (List.mem_cons_self ..)
  obtain ⟨_, _, _, h4, _, h6⟩ := he
  simp only [sizes] at h6
  have hgp := good_popped (e := ⟨eb, eo, ec, t :: r, ev⟩) rfl hgood
  have hd1 : full.drop (k + 1) = flat (pushed t (ev + 1) (popped ⟨eb, eo, ec, t :: r, ev⟩ r st)) := by
    have h1 : full.drop (k + 1) = (full.drop k).drop 1 := by rw [List.drop_drop]
    rw [h1, hfl]; rfl
  refine ⟨hat, hlt, hmk, hd1, hJ k _ _ (by obtain ⟨c, hc⟩ := hrow; exact Fine.at_ hb hc (.inl ⟨c, _, rfl⟩) fun i hi hne => Below.heap_setCell _ _ _ _ hne) hj, (liesR_cons ▸ h4 : Lies w M t eb eo ∧ _).1.keep hb.size (fun i hi => hb.block i (by omega)) _ _ _, fun e he => (hgp e he).keep hb.size (fun i hi => hb.block i (by omega)), by omega, hb, ?_⟩
  have h1 := flat_length_ge hgp
  have h2 : (flat (popped ⟨eb, eo, ec, t :: r, ev⟩ r st)).length ≤ (full.drop k).length := by
    rw [hdrop]
    by_cases h0 : r.length = 0
    · rw [popped, if_pos h0]; simp only [flat, List.length_append]; omega
    · rw [popped, if_neg h0]; simp only [flat, List.length_append, seqR_cons]; omega
  rw [List.length_drop] at h2
  omega
theorem Round.next {M N base Bs : Nat} {full : List Node} {J : Nat → World → Prop} {k m0 eb eo ev : Nat} {t : LT} {st : List Ent} {w w' w5 w6 : World} {X : Nat → Prop} {v : Value} (h : Round M N base full J k m0 eb eo ev t st w w') (hJ : ∀ k A B, Fine base A B → J k A → J k B)
    (hMb : M ≤ base) (hBs : M ≤ Bs) (hX : ∀ r, X r → M ≤ r) (hb : base ≤ w6.heap.size) (h5 : ButU Bs X w' w5) (hw' : M ≤ w'.heap.size) (hj : J (k + 1) w5) (h6 : Fine base w5 w6) (own : w6.ownsRow base 128 2 v (pushed t (ev + 1) st).length (stCells (pushed t (ev + 1) st))) :
    ToldRel M N base full J v w6 (m0 - 1) := by
  have hk : ∀ i, i < M → w6.heap[i]? = w'.heap[i]? := fun i hi => (h6.block i (by omega)).trans (h5.low (by omega) (by omega) (fun hx => by have := hX _ hx; omega))
  have hs : w'.heap.size ≤ w6.heap.size := Nat.le_trans h5.1 h6.size
  exact ⟨k + 1, pushed t (ev + 1) st, by have := h.m; have := h.lt; omega, h.drop, good_pushed (h.here.keep hs hk _ _ _) h.lev (fun e he => (h.good e he).keep hs hk), own, hb, hJ _ _ _ h6 hj⟩

theorem told_less {M N base : Nat} {full : List Node} {J : Nat → World → Prop} {v v' : Value} {w w' : World} {m0 : Nat} (h : leastOf (fun m => ToldRel M N base full J v w m) = m0) (hm : 0 < m0) (hr : ToldRel M N base full J v' w' (m0 - 1)) :
    leastOf (fun m => ToldRel M N base full J v' w' m) < leastOf (fun m => ToldRel M N base full J v w m) := by
  have := (leastOf_spec (p := fun m => ToldRel M N base full J v' w' m) ⟨_, hr⟩).2 _ hr
  omega

set_option maxRecDepth 100000 in
set_option maxHeartbeats 3200000 in
theorem told1_in (n l bd M N b o Bs : Nat) (root : LT) (X : Nat → Prop) (J Jx : Nat → World → Prop) (W : World) (hBs : M ≤ Bs) (hbt : bd < Bs ∨ ∃ c fr, W.heap[bd]? = some (.cells c 107 fr)) (hX : ∀ r, X r → M ≤ r ∧ r ≠ bd ∧ r < W.heap.size)
    (hJ : ∀ k A B, Fine W.heap.size A B → J k A → J k B) (full : List Node) (hfull : full = seqT root 1 b o)
    (hY : ∀ k W1, k < full.length → J k W1 → YieldAt Fence.wide (n - 1) Tryz.prog l (toldAt full k) W1 fun e W' =>
      (e = .returned (.bool true) ∧ J (k + 1) W' ∧ ButU Bs X W1 W') ∨ (e = .returned (.bool false) ∧ Jx k W'))
    (hbd : W.cell? ⟨bd, 0, none⟩ = some (.pointer (some ⟨b, o, none⟩))) (hMW : M ≤ W.heap.size) (hL : Lies W M root b o) (hN : root.size + 1 ≤ N) (hN9 : N ≤ 1000000000) (h0 : J 0 W) :
    CallsIn Fence.wide n Tryz.prog 88 #[.func (.yield l) #[] #[], .pointer (some ⟨bd, 0, none⟩)] W fun e W' => (∃ v, e = .returned v) ∧ (J full.length W' ∨ ∃ k, k < full.length ∧ Jx k W') := by
  have hbW : bd < W.heap.size := World.block_lt_of_cell? W _ hbd
  have hlen : full.length = root.size := by rw [hfull, seqT_length]
  have hsz := root.size_eq
  have hat0 : full[0]? = some ⟨1, b, o, root⟩ := by rw [hfull, seqT_eq]; rfl
  have hdrop1 : full.drop 1 = flat (pushed root 2 []) := by
    have := flat_pushed root 1 b o []
    simp only [flat, List.append_nil] at this
    rw [hfull, this]; rfl
  obtain ⟨fn, tmps, assign, body, hy, hR⟩ := hY 0 W (by omega) h0
  rw [toldAt_eq hat0] at hy
  have hy' : (Instr.yield l #[Value.int .i64 1, .pointer (some ⟨b, o, none⟩)]).run Tryz.prog W = _ := hy
  clear hy
  have HL := Lib.hid (And.intro hlen (And.intro hfull hat0))
  have HD := Lib.hid hdrop1
  clear hlen hfull hdrop1 hat0
  refine callsIn_of_wp Tryz.func88 rfl trivial ?_ rfl
  simp only [Tryz.ntmps88, List.size_toArray, List.length_cons, List.length_nil, Nat.reduceAdd, Nat.reduceSub, Array.replicate_succ, Array.replicate_zero, List.push_toArray, List.append_toArray, List.nil_append, List.cons_append]
  gi_wp2
  refine ⟨fun h => absurd h (by decide), hR.mono ?_⟩
  rintro e W3 (⟨rfl, hJ3, hk3⟩ | ⟨rfl, hJx3⟩)
  · have hbd3 : W3.cell? ⟨bd, 0, none⟩ = some (.pointer (some ⟨b, o, none⟩)) := (World.cell?_of_block (hk3.still hbW (fun h => (hX _ h).2.1 rfl) hbt)).trans hbd
    have hL3 : Lies W3 M root b o := Lies.keep hk3.1 (fun k hk => hk3.low (by omega) (by omega) (fun h => by have := (hX _ h).1; omega)) _ _ _ hL
    have H3 := Lib.hid hL3
    have hs3 := hk3.1
    gi_wp2_with (refine ⟨trivial, fun h => absurd h (by decide), ?_⟩; gi_at_call 89; refine (callsIn_wide.2 (held_any (.slice none 0 0) [] root b o 2 M W.heap.size W3 (World.ownsRow_nil _ _ _ _) H3.out hMW hs3 (by simp))).mono ?_; rintro e W4 ⟨v4, rfl, own4, b4⟩)
    have hJ4 : J 1 W4 := hJ 1 W3 W4 b4 hJ3
    have hg4 : ∀ e ∈ pushed root 2 [], e.good W4 M N := good_pushed (v := 1) (hL3.keep (Nat.le_trans (Nat.le_refl _) b4.size) (fun k hk => b4.block k (by omega)) _ _ _) (by omega) (by simp)
    gi_loopw [3] (fun v w => ∃ m, ToldRel M N W.heap.size full J v w m) (fun v w => leastOf (fun m => ToldRel M N W.heap.size full J v w m))
    case atStart => exact ⟨full.length - 1, 1, pushed root 2 [], by rw [HL.out.1]; omega, HD.out, hg4, own4, by have := b4.size; omega, hJ4⟩
    case round =>
      obtain ⟨k, st, hmk, hdrop, hgood, hown, hbase, hJk⟩ := (leastOf_spec hrel).1
      generalize hm0 : leastOf (fun m => ToldRel M N W.heap.size full J u3 wr m) = m0 at hmk
      have HM := Lib.hid hm0
      clear hm0 hrel
      cases st with
      | nil =>
        have hkN : k = full.length := by
          have := congrArg List.length hdrop
          simp only [List.length_drop, flat, List.length_nil] at this
          omega
        have HK := Lib.hid hkN
        clear hkN hdrop hmk
        have hJN := Lib.hid (HK.out ▸ hJk)
        rcases hown.2 with ⟨rfl, _⟩ | ⟨g, cap, cur, rfl, _⟩
        · clear hown hgood hJk
          gi_wp2
          go_end0
          exact ⟨⟨_, rfl⟩, .inl hJN.out⟩
        · clear hown hgood hJk
          gi_wp2
          go_end0
          exact ⟨⟨_, rfl⟩, .inl hJN.out⟩
      | cons e st =>
        have he := hgood e (List.mem_cons_self ..)
        obtain ⟨g, cap, hv⟩ := ownsRow_succ hown
        have hv : u3 = .slice (some ⟨g, 0, none⟩) (st.length + 1) cap := hv
        subst hv
        have hnN : st.length ≤ 1000000000 := by
          have h1 := flat_length_ge hgood
          rw [← hdrop, List.length_drop, HL.out.1] at h1
          simp only [List.length_cons] at h1
          omega
        obtain ⟨eb, eo, ec, el, ev⟩ := e
        obtain ⟨hl1, hl2, hl3, hl4, hl5, hl6⟩ := he
        simp only at hl1 hl2 hl3 hl4 hl5 hl6
        obtain ⟨t, r, rfl⟩ : ∃ t r, el = t :: r := by cases el with | nil => simp at hl1 | cons t r => exact ⟨t, r, rfl⟩
        have hstC := stCells_length st
        have hc0 : wr.cell? ⟨g, st.length * 2, none⟩ = some (.slice (some ⟨eb, eo, none⟩) (r.length + 1) ec) := by
          have := hown.cells (g := g) rfl (st.length * 2) (.slice (some ⟨eb, eo, none⟩) (r.length + 1) ec) (by simp [stCells, Ent.cells, hstC])
          rwa [cell_add, Nat.zero_add] at this
        have hc1 : wr.cell? ⟨g, st.length * 2 + 1, none⟩ = some (.int .i64 (ev : Nat)) := by
          have := hown.cells (g := g) rfl (st.length * 2 + 1) (.int .i64 (ev : Nat)) (by simp [stCells, Ent.cells, hstC])
          rwa [cell_add, Nat.zero_add] at this
        have hfz : wr.frozen? ⟨g, st.length * 2, none⟩ = false := hown.frozenAt _
        have hgb := (hown.lt g rfl)
        have hpc : st.length + 1 ≤ cap := by
          rcases hown.2 with ⟨h, _⟩ | ⟨_, _, _, h, _, _, h2, _⟩
          · cases h
          · cases h; exact h2
        generalize hn : st.length = p at *
        have HN := Lib.hid hn
        have hlf : full.length = root.size := HL.out.1
        have HO := Lib.hid (And.intro hown (And.intro hdrop (And.intro hgood (And.intro hmk hJk))))
        clear hn hown hdrop hgood hstC hmk hJk
        unfold maxLen at hl3
        simp only [List.length_cons] at hl2
        clear hl1 hl4 hl6 hv
        by_cases h0 : r.length = 0
        · by_cases hec : ec = 1
          · subst hec
            have hrd := round_of (g := g) (off := p * 2) (.slice (some ⟨eb, eo, none⟩) 0 0) hJ hMW (by rw [hlf]; exact hN) hN9 hgb.1 (ownRow_row HO.out.1 rfl) HO.out.2.1 HO.out.2.2.1 HO.out.2.2.2.1 HO.out.2.2.2.2
            have hpo := popped_own0 (.slice (some ⟨eb, eo, none⟩) 0 0) HN.out h0 (by have h1 := HO.out.1; rw [List.length_cons, HN.out] at h1; exact h1)
            obtain ⟨fn2, tmps2, assign2, body2, hy2, hR2⟩ := hY k _ hrd.lt hrd.j
            rw [toldAt_eq hrd.at_] at hy2
            have hev : ev ≤ 1000000000 := by have := hrd.lev; omega
            have hsz5 : wr.heap.size ≤ (wr.setCell ⟨g, p * 2, none⟩ (.slice (some ⟨eb, eo, none⟩) 0 0)).drew.heap.size := hrd.below.size
            have HQ := Lib.hid (And.intro h0 (And.intro hrd hpo))
            rw [h0] at hc0 hl2
            clear h0 hrd hpo hlf
            gi_wp2
            gi_region
            gi_wp2
            refine ⟨fun h => absurd h (by decide), hR2.mono ?_⟩
            rintro e W5 (⟨rfl, hJ5, hk5⟩ | ⟨rfl, hJx5⟩)
            · have hs5 : W.heap.size ≤ W5.heap.size := by have := hk5.1; omega
              have own5 := own_butU HQ.out.2.2 hk5 (fun i h1 h2 hx => by have := (hX i hx).2.2; omega)
              have hL5 := HQ.out.2.1.here.keep hk5.1 (fun i hi => hk5.low (by omega) (by omega) (fun h => by have := (hX _ h).1; omega)) _ _ _
              have H5 := Lib.hid (And.intro own5 (And.intro hL5 HQ.out.2.1.len))
              have HX5 := Lib.hid hk5
              clear own5 hL5 hk5 hy2 hR2
              gi_wp2_with (refine ⟨trivial, fun h => absurd h (by decide), ?_⟩; gi_at_call 89; refine (callsIn_wide.2 (held_at _ _ _ t eb eo (ev + 1) M W.heap.size W5 (by omega) H5.out.1 H5.out.2.1 hMW hs5 H5.out.2.2)).mono ?_; rintro e W6 ⟨v6, rfl, own6, b6⟩)
              have hnx := HQ.out.2.1.next hJ hMW hBs (fun r h => (hX r h).1) (by have := b6.size; omega) HX5.out (by omega) hJ5 b6 own6
              have HNX := Lib.hid hnx
              clear hnx
              go_roundw
              case rel => exact ⟨_, HNX.out⟩
              case measure => exact told_less HM.out (by have := HQ.out.2.1.m; have := HQ.out.2.1.lt; omega) HNX.out
            · gi_wp2
              refine bodyPost_ret (results_none rfl _ _ _) rfl ?_
              exact ⟨⟨_, rfl⟩, .inr ⟨k, HQ.out.2.1.lt, hJx5⟩⟩
          · have hec2 : 2 ≤ ec := by omega
            clear hec
            have hrd := round_of (g := g) (off := p * 2) (.slice (some ⟨eb, eo + 7, none⟩) 0 (ec - 1)) hJ hMW (by rw [hlf]; exact hN) hN9 hgb.1 (ownRow_row HO.out.1 rfl) HO.out.2.1 HO.out.2.2.1 HO.out.2.2.2.1 HO.out.2.2.2.2
            have hpo := popped_own0 (.slice (some ⟨eb, eo + 7, none⟩) 0 (ec - 1)) HN.out h0 (by have h1 := HO.out.1; rw [List.length_cons, HN.out] at h1; exact h1)
            obtain ⟨fn2, tmps2, assign2, body2, hy2, hR2⟩ := hY k _ hrd.lt hrd.j
            rw [toldAt_eq hrd.at_] at hy2
            have hev : ev ≤ 1000000000 := by have := hrd.lev; omega
            have hsz5 : wr.heap.size ≤ (wr.setCell ⟨g, p * 2, none⟩ (.slice (some ⟨eb, eo + 7, none⟩) 0 (ec - 1))).drew.heap.size := hrd.below.size
            have HQ := Lib.hid (And.intro h0 (And.intro hrd hpo))
            rw [h0] at hc0 hl2
            clear h0 hrd hpo hlf
            gi_wp2
            gi_region
            gi_wp2
            refine ⟨fun h => absurd h (by decide), hR2.mono ?_⟩
            rintro e W5 (⟨rfl, hJ5, hk5⟩ | ⟨rfl, hJx5⟩)
            · have hs5 : W.heap.size ≤ W5.heap.size := by have := hk5.1; omega
              have own5 := own_butU HQ.out.2.2 hk5 (fun i h1 h2 hx => by have := (hX i hx).2.2; omega)
              have hL5 := HQ.out.2.1.here.keep hk5.1 (fun i hi => hk5.low (by omega) (by omega) (fun h => by have := (hX _ h).1; omega)) _ _ _
              have H5 := Lib.hid (And.intro own5 (And.intro hL5 HQ.out.2.1.len))
              have HX5 := Lib.hid hk5
              clear own5 hL5 hk5 hy2 hR2
              gi_wp2_with (refine ⟨trivial, fun h => absurd h (by decide), ?_⟩; gi_at_call 89; refine (callsIn_wide.2 (held_at _ _ _ t eb eo (ev + 1) M W.heap.size W5 (by omega) H5.out.1 H5.out.2.1 hMW hs5 H5.out.2.2)).mono ?_; rintro e W6 ⟨v6, rfl, own6, b6⟩)
              have hnx := HQ.out.2.1.next hJ hMW hBs (fun r h => (hX r h).1) (by have := b6.size; omega) HX5.out (by omega) hJ5 b6 own6
              have HNX := Lib.hid hnx
              clear hnx
              go_roundw
              case rel => exact ⟨_, HNX.out⟩
              case measure => exact told_less HM.out (by have := HQ.out.2.1.m; have := HQ.out.2.1.lt; omega) HNX.out
            · gi_wp2
              refine bodyPost_ret (results_none rfl _ _ _) rfl ?_
              exact ⟨⟨_, rfl⟩, .inr ⟨k, HQ.out.2.1.lt, hJx5⟩⟩
        · obtain ⟨q, hq⟩ : ∃ q, r.length = q + 1 := ⟨r.length - 1, by omega⟩
          clear h0
          have hrd := round_of (g := g) (off := p * 2) (.slice (some ⟨eb, eo + 7, none⟩) (q + 1) (ec - 1)) hJ hMW (by rw [hlf]; exact hN) hN9 hgb.1 (ownRow_row HO.out.1 rfl) HO.out.2.1 HO.out.2.2.1 HO.out.2.2.2.1 HO.out.2.2.2.2
          have hpo := popped_own HN.out (by rw [hq]; exact Nat.succ_pos q) (by have h1 := HO.out.1; rw [List.length_cons, HN.out] at h1; exact h1)
          rw [hq] at hpo
          obtain ⟨fn2, tmps2, assign2, body2, hy2, hR2⟩ := hY k _ hrd.lt hrd.j
          rw [toldAt_eq hrd.at_] at hy2
          have hev : ev ≤ 1000000000 := by have := hrd.lev; omega
          have hsz5 : wr.heap.size ≤ (wr.setCell ⟨g, p * 2, none⟩ (.slice (some ⟨eb, eo + 7, none⟩) (q + 1) (ec - 1))).drew.heap.size := hrd.below.size
          have HQ := Lib.hid (And.intro hq (And.intro hrd hpo))
          rw [hq] at hc0 hl2
          clear hq hrd hpo hlf
          have hec : 2 ≤ ec := by omega
          gi_wp2
          gi_region
          gi_wp2
          refine ⟨fun h => absurd h (by decide), hR2.mono ?_⟩
          rintro e W5 (⟨rfl, hJ5, hk5⟩ | ⟨rfl, hJx5⟩)
          · have hs5 : W.heap.size ≤ W5.heap.size := by have := hk5.1; omega
            have own5 := own_butU HQ.out.2.2 hk5 (fun i h1 h2 hx => by have := (hX i hx).2.2; omega)
            have hL5 := HQ.out.2.1.here.keep hk5.1 (fun i hi => hk5.low (by omega) (by omega) (fun h => by have := (hX _ h).1; omega)) _ _ _
            have H5 := Lib.hid (And.intro own5 (And.intro hL5 HQ.out.2.1.len))
            have HX5 := Lib.hid hk5
            clear own5 hL5 hk5 hy2 hR2
            gi_wp2_with (refine ⟨trivial, fun h => absurd h (by decide), ?_⟩; gi_at_call 89; refine (callsIn_wide.2 (held_at _ _ _ t eb eo (ev + 1) M W.heap.size W5 (by omega) H5.out.1 H5.out.2.1 hMW hs5 H5.out.2.2)).mono ?_; rintro e W6 ⟨v6, rfl, own6, b6⟩)
            have hnx := HQ.out.2.1.next hJ hMW hBs (fun r h => (hX r h).1) (by have := b6.size; omega) HX5.out (by omega) hJ5 b6 own6
            have HNX := Lib.hid hnx
            clear hnx
            go_roundw
            case rel => exact ⟨_, HNX.out⟩
            case measure => exact told_less HM.out (by have := HQ.out.2.1.m; have := HQ.out.2.1.lt; omega) HNX.out
          · gi_wp2
            refine bodyPost_ret (results_none rfl _ _ _) rfl ?_
            exact ⟨⟨_, rfl⟩, .inr ⟨k, HQ.out.2.1.lt, hJx5⟩⟩
  · gi_wp2
    refine bodyPost_ret (results_none rfl _ _ _) rfl ?_
    exact ⟨⟨_, rfl⟩, .inr ⟨0, by rw [HL.out.1]; omega, hJx3⟩⟩
end
end Go.Proofs.YthdhdmmlmbkalaaGreatDoor
namespace Go.Proofs.YthdhdmmlmbkalaaGreatDoor
section
open Go.RowKit
variable {P : Program} {ops : Array Oper} {n l : Nat}

/-- The region ends as regions do. -/
def only (Q : Exit → Act → World → Prop) (e : Exit) (a : Act) (w : World) : Prop := e = .normal ∧ Q .normal a w
theorem only.no (Q : Exit → Act → World → Prop) : ¬ LetsOut (only Q) := fun ⟨_, _, h, _⟩ => by cases h

theorem op_in_round {o : Oper} {a : Act} {w : World} {K K' : Act → World → Prop} {Q : Exit → Act → World → Prop} (hd : ∀ c, o.op ≠ .defer c) (hK : ∀ a w, K a w → K' a w) (h : o.wp P a w K (only Q)) :
    o.wpIn (Fence.wide.inRound l) n P a w K' Q := by
  refine ⟨fun f _ => trivial, ?_⟩
  show o.uponIn _ n P a K' Q ((o.semAt (some l) a.eval).run P w)
  rw [Oper.semAt_some l a.eval o hd]
  unfold Oper.wp at h
  generalize (execOp a.eval o).run P w = r at h
  match r, h with
  | .ok (.value v) w', h => exact hK _ _ h
  | .ok .skip w', h => exact hK _ _ h
  | .ok (.defer d) w', h => exact hK _ _ h
  | .ok (.enter f args) w', h =>
    refine ⟨fun hx => absurd (show (Option.none : Option Nat).isSome = true from hx) (by decide), (callsIn_wide.2 h).mono ?_⟩
    intro e w'' he
    match e, he with
    | .returned v, he => exact hK _ _ he
    | .panicked ch, he => exact absurd he.1 (by intro h; cases h)
    | .outgrown, he => exact absurd he (only.no Q)
  | .ok (.row row args) w', h =>
    refine ⟨fun hx => absurd (show (Option.none : Option Nat).isSome = true from hx) (by decide), fun c cs _ => ?_⟩
    obtain ⟨v, w'', hr, hs⟩ := h c cs
    exact ⟨v, w'', hK _ _ hr, stepsIn_wide.2 hs⟩
  | .halt (.panic v) w', h => exact absurd h.1 (by intro h; cases h)

theorem any_in_round (hd : ∀ (i : Nat) (o : Oper) (c : Call), ops[i]? = some o → o.op ≠ .defer c) {md : Region.Mode} {Q : Exit → Act → World → Prop} : ∀ (fuel : Nat) (listed : Array Bool) (a : Act) (w : World),
    wpAny P md ops (only Q) fuel listed a w → wpAnyIn (Fence.wide.inRound l) n P md ops Q fuel listed a w
  | 0, _, _, _, h => ⟨h.1, h.2.2⟩
  | fuel + 1, listed, a, w, h => by
    refine ⟨fun hr => (h.1 hr).2, fun i hi => ?_⟩
    have hi' := h.2 i hi
    unfold wpOp at hi'
    unfold wpOpIn
    cases ho : ops[i]? with
    | none =>
      simp only [ho] at hi' ⊢
      exact any_in_round hd fuel _ _ _ hi'
    | some o =>
      simp only [ho] at hi' ⊢
      by_cases hw : Region.wanted o (yielded ops a.tmps) = true
      · rw [if_pos hw] at hi' ⊢
        rcases hi' with h1 | ⟨_, h1⟩
        · exact op_in_round (hd i o · ho) (fun a w h2 => any_in_round hd fuel _ a w h2) h1
        · exact absurd h1 (only.no Q)
      · rw [if_neg hw] at hi' ⊢
        exact ⟨fun _ _ => trivial, any_in_round hd fuel _ _ _ hi'⟩

/-- Reads in whatever order, and then what stands behind them all, in a round. -/
theorem region_round_tail {id : Nat} {Q : Exit → Act → World → Prop} {a : Act} {w : World} {l0 : List Oper} (m : Nat) (hm : P.follows .mixedOrders = true) (hd : l0.all (fun o => match o.op with | .defer _ => false | _ => true) = true) (hB : Region.lexTailB .any l0.toArray m = true)
    (h : wpStill P l0.toArray w.drew (fun a' => wpList P l0.toArray (only Q) (l0.drop m) a' w.drew) (l0.take m) a) : (Code.region id l0.toArray true).wpIn (Fence.wide.inRound l) n P Q a w := by
  have hd' : ∀ (i : Nat) (o : Oper) (c : Call), l0.toArray[i]? = some o → o.op ≠ .defer c := by
    intro i o c ho hc
    have h1 := List.all_eq_true.1 hd o (List.mem_of_getElem? (by simpa using ho))
    rw [hc] at h1
    cases h1
  refine wpIn_region_any hm (any_in_round hd' _ _ _ _ ?_)
  simp only [Region.lexTailB, Bool.and_eq_true, decide_eq_true_eq] at hB
  obtain ⟨⟨⟨⟨hsel, hn⟩, hs⟩, hc⟩, hlex⟩ := hB
  have hn' : m < l0.length := by simpa using hn
  have htl : (l0.take m).length = m := by rw [List.length_take]; omega
  have hdl : (l0.drop m).length = l0.toArray.size - m := by simp
  have hhead := wpAnyL_lex (md := .any) (g := l0.toArray.size - m) hsel hs hc hn (l0.take m) 0 (Array.replicate l0.toArray.size false) a
    (fun j hj => by rw [htl] at hj; simp [hj]) (by simp [htl])
    ⟨by simp, fun j oj _ hl => (by rw [getD_replicate_false] at hl; cases hl), fun t _ ht => getD_in (by simpa using ht) (getD_replicate_false _ _)⟩ (by rw [htl]; exact hlex) h
  have hall := wpAny_of_head (Q' := only Q) (g := l0.toArray.size - m) (fun listed a' hL => by
    have h2 := wpAny_of_seq (md := .any) (Q' := only Q) (l0.drop m) m listed a' w.drew (fun j => by simp [List.getElem?_drop]) (by rw [hdl]; exact hL.1) hL.2
    rwa [hdl] at h2) _ _ _ hhead
  rw [htl, show m + (l0.toArray.size - m) = l0.toArray.size by omega] at hall
  exact hall
end
end Go.Proofs.YthdhdmmlmbkalaaGreatDoor
namespace Go.Proofs.YthdhdmmlmbkalaaGreatDoor
section
open Go.RowKit
attribute [local go_sem] Oper.semAt_some

theorem told_any (p : Option Addr) (w : World) : Calls Tryz.prog 71 #[.pointer p] w fun e w' => e = .returned (.func (.func 88) #[] #[.pointer (some ⟨w.heap.size, 0, none⟩)]) ∧ w' = w.alloc (.cells #[.pointer p] 107) := by
  go_enter Tryz.func71, Tryz.ntmps71
  go_wp2
  go_ret
  exact ⟨rfl, rfl⟩

theorem told_runs (n bd M b o : Nat) (root : LT) (X : Nat → Prop) (w : World) (hX : ∀ r, X r → M ≤ r ∧ r ≠ bd) (hbd : w.cell? ⟨bd, 0, none⟩ = some (.pointer (some ⟨b, o, none⟩))) (hM : M ≤ w.heap.size) (hL : Lies w M root b o) (hN : root.size < 1000000000) :
    Runs Fence.wide n Tryz.prog 88 #[.pointer (some ⟨bd, 0, none⟩)] (toldAt (seqT root 1 b o)) (seqT root 1 b o).length X w := by
  intro l J Jx W hW hXW hJ hJx hY h0
  have hbw : bd < w.heap.size := World.block_lt_of_cell? w _ hbd
  exact told1_in n l bd M (root.size + 1) b o W.heap.size root X J Jx W (Nat.le_trans hM hW.size) (.inl (World.block_lt_of_cell? W _ ((hW.cell (p := ⟨bd, 0, none⟩) hbw).trans hbd))) (fun r hr => ⟨(hX r hr).1, (hX r hr).2, hXW r hr⟩) (fun k A B h => hJ k A B h.toBelow) _ rfl
    (fun k W1 hk hj => by
      obtain ⟨fn, tmps, asg, bo, hy, hR⟩ := hY k W1 hk hj
      exact ⟨fn, tmps, asg, bo, hy, hR.mono fun e W' h => h.imp (fun h => ⟨h.1, h.2.1, h.2.2.1, fun k hk hx => .inl (h.2.2.2 k hk hx)⟩) id⟩) ((hW.cell (p := ⟨bd, 0, none⟩) hbw).trans hbd) (Nat.le_trans hM hW.size)
    (hL.keep hW.size (fun i hi => hW.block i (by omega)) _ _ _) (Nat.le_refl _) (by omega) h0

/-- What measure's blocks hold: what is looked at at most; the results; what has been counted. -/
def MeasI (M b o B md dd : Nat) (root : LT) (full : List Node) (w : World) (k : Nat) (W : World) : Prop :=
  W.heap[B]? = some (.cells #[.int .i64 (md : Nat), .int .i64 (dd : Nat)] 117 (0, 0)) ∧ W.heap[B + 1]? = some (.cells #[.int .i64 0, .int .i64 0] 117 (0, 0)) ∧ W.heap[B + 1 + 1]? = some (.cells #[.bool false] 4 (0, 0)) ∧
  W.heap[B + 1 + 1 + 1]? = some (.cells #[.int .i64 ((1 + sumK (full.take k) : Nat) : Int), .int .i64 ((maxL (full.take k) : Nat) : Int)] 117 (0, 0)) ∧ Lies W M root b o ∧ Below B w W
theorem MeasI.below {M b o B md dd C : Nat} {root : LT} {full : List Node} {w A W : World} {k : Nat} (hM : M ≤ B) (hC : B + 4 ≤ C) (h : MeasI M b o B md dd root full w k A) (hb : Below C A W) : MeasI M b o B md dd root full w k W :=
  ⟨(hb.block _ (by omega)).trans h.1, (hb.block _ (by omega)).trans h.2.1, (hb.block _ (by omega)).trans h.2.2.1, (hb.block _ (by omega)).trans h.2.2.2.1,
    h.2.2.2.2.1.keep hb.size (fun i hi => hb.block i (by omega)) _ _ _, h.2.2.2.2.2.trans (hb.mono (by omega))⟩
theorem take_succ_of {full : List Node} {k : Nat} {x : Node} (h : full[k]? = some x) : full.take (k + 1) = full.take k ++ [x] := by
  rw [List.take_add_one, h]; rfl
theorem sumK_take_le (full : List Node) (k : Nat) : sumK (full.take k) ≤ sumK full := by
  have := sumK_append (full.take k) (full.drop k)
  rw [List.take_append_drop] at this
  omega
theorem maxL_take_le (full : List Node) (k : Nat) : maxL (full.take k) ≤ maxL full := by
  have := maxL_append (full.take k) (full.drop k)
  rw [List.take_append_drop] at this
  omega
theorem five (w : World) (o0 o1 o2 o3 o4 : Obj) : (((((w.alloc o0).alloc o1).alloc o2).alloc o3).alloc o4).heap[w.heap.size]? = some o0 ∧ (((((w.alloc o0).alloc o1).alloc o2).alloc o3).alloc o4).heap[w.heap.size + 1]? = some o1 ∧
    (((((w.alloc o0).alloc o1).alloc o2).alloc o3).alloc o4).heap[w.heap.size + 1 + 1]? = some o2 ∧ (((((w.alloc o0).alloc o1).alloc o2).alloc o3).alloc o4).heap[w.heap.size + 1 + 1 + 1]? = some o3 ∧ (((((w.alloc o0).alloc o1).alloc o2).alloc o3).alloc o4).heap[w.heap.size + 4]? = some o4 := by
  have n0 := World.alloc_heap_new w o0
  have n1 := World.alloc_heap_new (w.alloc o0) o1
  have n2 := World.alloc_heap_new ((w.alloc o0).alloc o1) o2
  have n3 := World.alloc_heap_new (((w.alloc o0).alloc o1).alloc o2) o3
  have n4 := World.alloc_heap_new ((((w.alloc o0).alloc o1).alloc o2).alloc o3) o4
  have s1 : (w.alloc o0).heap.size = w.heap.size + 1 := World.size_alloc ..
  have s2 : ((w.alloc o0).alloc o1).heap.size = w.heap.size + 1 + 1 := by rw [World.size_alloc, s1]
  have s3 : (((w.alloc o0).alloc o1).alloc o2).heap.size = w.heap.size + 1 + 1 + 1 := by rw [World.size_alloc, s2]
  have s4 : ((((w.alloc o0).alloc o1).alloc o2).alloc o3).heap.size = w.heap.size + 1 + 1 + 1 + 1 := by rw [World.size_alloc, s3]
  rw [s1] at n1; rw [s2] at n2; rw [s3] at n3; rw [s4] at n4
  exact ⟨(Below.heap_alloc _ _ _ (by omega)).trans ((Below.heap_alloc _ _ _ (by omega)).trans ((Below.heap_alloc _ _ _ (by omega)).trans ((Below.heap_alloc _ _ _ (by omega)).trans n0))),
    (Below.heap_alloc _ _ _ (by omega)).trans ((Below.heap_alloc _ _ _ (by omega)).trans ((Below.heap_alloc _ _ _ (by omega)).trans n1)), (Below.heap_alloc _ _ _ (by omega)).trans ((Below.heap_alloc _ _ _ (by omega)).trans n2), (Below.heap_alloc _ _ _ (by omega)).trans n3, n4⟩
/-- Two cells of a block. -/
theorem two_cells {w : World} {B : Nat} {x y : Value} {t : TypeId} (h : w.heap[B]? = some (.cells #[x, y] t (0, 0))) : w.cell? ⟨B, 0, none⟩ = some x ∧ w.cell? ⟨B, 1, none⟩ = some y ∧ ∀ j, w.frozen? ⟨B, j, none⟩ = false := by
  refine ⟨by simp [World.cell?, h], by simp [World.cell?, h], fun j => by simp [World.frozen?, h]⟩
theorem two_set {w : World} {B : Nat} {x y u v : Value} {t : TypeId} (h : w.heap[B]? = some (.cells #[x, y] t (0, 0))) : ((w.setCell ⟨B, 1, none⟩ v).setCell ⟨B, 0, none⟩ u).heap[B]? = some (.cells #[u, v] t (0, 0)) := by
  simp [World.setCell, Array.getElem?_modify, h]

theorem MeasI.step {M b o B md dd k S D c : Nat} {root : LT} {full : List Node} {w W : World} (hM : M ≤ B) (h : MeasI M b o B md dd root full w k W) (hs : sumK (full.take (k + 1)) = S + c) (hd : maxL (full.take (k + 1)) = D) (z : Int) (hz : z = ((1 + (S + c) : Nat) : Int)) :
    But (fun r => r = B + 1 + 1 + 1) W ((W.setCell ⟨B + 1 + 1 + 1, 1, none⟩ (.int .i64 (D : Nat))).setCell ⟨B + 1 + 1 + 1, 0, none⟩ (.int .i64 z)).drew ∧ MeasI M b o B md dd root full w (k + 1) ((W.setCell ⟨B + 1 + 1 + 1, 1, none⟩ (.int .i64 (D : Nat))).setCell ⟨B + 1 + 1 + 1, 0, none⟩ (.int .i64 z)).drew := by
  subst hz
  have hbut : But (fun r => r = B + 1 + 1 + 1) W ((W.setCell ⟨B + 1 + 1 + 1, 1, none⟩ (.int .i64 (D : Nat))).setCell ⟨B + 1 + 1 + 1, 0, none⟩ (.int .i64 ((1 + (S + c) : Nat) : Int))).drew :=
    ((But.setCell (fun r => r = B + 1 + 1 + 1) W ⟨B + 1 + 1 + 1, 1, none⟩ _ rfl).trans (But.setCell (fun r => r = B + 1 + 1 + 1) _ ⟨B + 1 + 1 + 1, 0, none⟩ _ rfl)).drew
  have hlt : B + 1 + 1 + 1 < W.heap.size := (Array.getElem?_eq_some_iff.1 h.2.2.2.1).1
  refine ⟨hbut, (hbut.2 _ (by omega) (by omega)).trans h.1, (hbut.2 _ (by omega) (by omega)).trans h.2.1, (hbut.2 _ (by omega) (by omega)).trans h.2.2.1, ?_, h.2.2.2.2.1.keep hbut.1 (fun i hi => hbut.2 i (by omega) (by omega)) _ _ _, ?_⟩
  · rw [hs, hd]
    exact two_set h.2.2.2.1
  · exact h.2.2.2.2.2.trans ((((Below.refl B W).setCell (p := ⟨B + 1 + 1 + 1, 1, none⟩) (by show B ≤ B + 1 + 1 + 1; omega) _).setCell (p := ⟨B + 1 + 1 + 1, 0, none⟩) (by show B ≤ B + 1 + 1 + 1; omega) _).drew)

set_option maxRecDepth 100000 in
set_option maxHeartbeats 3200000 in
theorem measure_in (M b o md dd : Nat) (root : LT) (w : World) (hM : M ≤ w.heap.size) (hL : Lies w M root b o) (hN : root.size < 1000000000) (h1 : root.size ≤ md) (h2 : root.depth ≤ dd) :
    CallsIn Fence.wide 5 Tryz.prog 84 #[.pointer (some ⟨b, o, none⟩), .agg #[.int .i64 md, .int .i64 dd]] w fun e w' => e = .returned (.tuple #[.agg #[.int .i64 root.size, .int .i64 root.depth], .bool true]) ∧ Below w.heap.size w w' := by
  have hbl : Below w.heap.size w (((((w.alloc (Obj.cells #[Value.int IntKind.i64 md, Value.int IntKind.i64 dd] 117)).alloc (Obj.cells #[Value.int IntKind.i64 0, Value.int IntKind.i64 0] 117)).alloc (Obj.cells #[Value.bool false] 4)).alloc (Obj.cells #[Value.int IntKind.i64 1, Value.int IntKind.i64 0] 117)).alloc (.cells #[.pointer (some ⟨b, o, none⟩)] 107)) :=
    (((((Below.refl _ w).alloc (Nat.le_refl _) _).alloc (by simp) _).alloc (by simp; omega) _).alloc (by simp; omega) _).alloc (by simp; omega) _
  obtain ⟨full, hfull⟩ : ∃ full, full = seqT root 1 b o := ⟨_, rfl⟩
  have hs0 := seqT_sum root 1 b o
  have hm0 := seqT_max root 1 b o
  have hl0 : ∀ W, Lies W M root b o → ∀ x ∈ full, Lies W M x.t x.b x.o ∧ 1 ≤ x.lev ∧ x.lev + x.t.size ≤ 1 + root.size := fun W h => hfull ▸ seqT_lies root 1 b o h
  rw [← hfull] at hs0 hm0
  have HF := Lib.hid (And.intro hfull (And.intro hl0 (And.intro hs0 hm0)))
  clear hfull hl0 hs0 hm0
  refine callsIn_of_wp_marks Tryz.func84 rfl trivial ?_ rfl
  simp only [Tryz.ntmps84, List.size_toArray, List.length_cons, List.length_nil, Nat.reduceAdd, Nat.reduceSub, Array.replicate_succ, Array.replicate_zero, List.push_toArray, List.append_toArray, List.nil_append, List.cons_append]
  gi_wp2_with (refine ⟨trivial, ?_⟩; gi_at_call 71; refine (callsIn_wide.2 (told_any _ _)).mono ?_; rintro e w' ⟨rfl, rfl⟩)
  have hI0 : MeasI M b o w.heap.size md dd root full w 0 (((((w.alloc (Obj.cells #[Value.int IntKind.i64 md, Value.int IntKind.i64 dd] 117)).alloc (Obj.cells #[Value.int IntKind.i64 0, Value.int IntKind.i64 0] 117)).alloc (Obj.cells #[Value.bool false] 4)).alloc (Obj.cells #[Value.int IntKind.i64 1, Value.int IntKind.i64 0] 117)).alloc (.cells #[.pointer (some ⟨b, o, none⟩)] 107)) := by
    refine ⟨?_, ?_, ?_, ?_, hL.keep hbl.size (fun i hi => hbl.block i (by omega)) _ _ _, hbl⟩
    · exact (five _ _ _ _ _ _).1
    · exact (five _ _ _ _ _ _).2.1
    · exact (five _ _ _ _ _ _).2.2.1
    · exact (five _ _ _ _ _ _).2.2.2.1
  have hbd0 : (((((w.alloc (Obj.cells #[Value.int IntKind.i64 md, Value.int IntKind.i64 dd] 117)).alloc (Obj.cells #[Value.int IntKind.i64 0, Value.int IntKind.i64 0] 117)).alloc (Obj.cells #[Value.bool false] 4)).alloc (Obj.cells #[Value.int IntKind.i64 1, Value.int IntKind.i64 0] 117)).alloc (.cells #[.pointer (some ⟨b, o, none⟩)] 107)).cell? ⟨w.heap.size + 4, 0, none⟩ = some (.pointer (some ⟨b, o, none⟩)) := by
    exact Lib.cell_of_heap (five _ _ _ _ _ _).2.2.2.2 0
  generalize hW0 : (((((w.alloc (Obj.cells #[Value.int IntKind.i64 md, Value.int IntKind.i64 dd] 117)).alloc (Obj.cells #[Value.int IntKind.i64 0, Value.int IntKind.i64 0] 117)).alloc (Obj.cells #[Value.bool false] 4)).alloc (Obj.cells #[Value.int IntKind.i64 1, Value.int IntKind.i64 0] 117)).alloc (.cells #[.pointer (some ⟨b, o, none⟩)] 107)) = W0 at *
  have hz0 : W0.heap.size = w.heap.size + 5 := by rw [← hW0]; simp
  have hL0 := hI0.2.2.2.2.1
  clear hW0
  have hruns := told_runs 4 (w.heap.size + 4) M b o root (fun r => r = w.heap.size + 1 + 1 + 1 ∨ r = W0.heap.size + 1) W0 (fun r hr => by rcases hr with rfl | rfl <;> omega) hbd0 (by omega) hL0 hN
  rw [← HF.out.1] at hruns
  refine wpIn_runs (X := fun r => r = w.heap.size + 1 + 1 + 1) (w0 := W0) rfl (by decide) (gf := 88) (lb := #[.pointer (some ⟨w.heap.size + 4, 0, none⟩)]) rfl trivial (enters_of Tryz.func88 (by kernel_rfl) rfl)
    hruns (fun r hr => by omega) (Below.refl _ _) (fun k => rfl) (fun k W => MeasI M b o w.heap.size md dd root full w k W) (fun _ _ _ => False)
    (fun k A B hAB h => h.below hM (by omega) hAB) (fun _ _ _ _ _ h => h) hI0
    (fun k => { tmps := #[.pointer (some ⟨b, o, none⟩), .agg #[.int .i64 md, .int .i64 dd], undef, .pointer (some ⟨w.heap.size, 0, none⟩), .pointer (some ⟨w.heap.size + 1, 0, none⟩), .pointer (some ⟨w.heap.size + 1 + 1, 0, none⟩), .pointer (some ⟨w.heap.size + 1 + 1 + 1, 0, none⟩),
      .int .i64 ((nd full k).lev : Nat), .pointer (some ⟨(nd full k).b, (nd full k).o, none⟩), .agg #[.int .i64 1, .int .i64 0], .pointer (some ⟨b, o, none⟩), .func (.func 88) #[] #[.pointer (some ⟨w.heap.size + 4, 0, none⟩)],
      .int .i64 ((nd full k).lev : Nat), .pointer (some ⟨(nd full k).b, (nd full k).o, none⟩), undef, undef, undef, undef, undef, undef, undef, undef, undef, undef, undef, undef, undef, undef, undef, undef, undef, undef, undef, undef, undef, undef, undef, undef, undef, undef, undef, undef, undef, undef, undef, undef, undef, undef], defers := [] })
    ?assign ?body ?done ?stop
  case assign =>
    intro l k W K _ hK
    simp only [toldAt]
    gi_wp2
    exact hK
  case body =>
    rintro l k W hkN hI
    obtain ⟨⟨lv, xb, xo, t⟩, hat⟩ : ∃ x, full[k]? = some x := ⟨full[k], List.getElem?_eq_getElem hkN⟩
    have hnode := HF.out.2.1 W hI.2.2.2.2.1 _ (List.mem_of_getElem? hat)
    obtain ⟨_, hcell, _, h4, h5, _, _⟩ := lies_eq.1 hnode.1
    have c5 : W.cell? ⟨xb, xo + 5, none⟩ = some (.slice t.ia t.items.length t.ic) := hcell 5 _ rfl
    have c6 : W.cell? ⟨xb, xo + 6, none⟩ = some (.slice t.ta t.tail.length t.tc) := hcell 6 _ rfl
    have hxb : xb < M := (lies_eq.1 hnode.1).1
    have hmix : Tryz.prog.follows .mixedOrders = true := by kernel_rfl
    have hsum : sumK (full.take (k + 1)) = sumK (full.take k) + (t.items.length + t.tail.length) := by rw [take_succ_of hat, sumK_append]; rfl
    have hmax : maxL (full.take (k + 1)) = max (maxL (full.take k)) lv := by rw [take_succ_of hat, maxL_append]; simp [maxL]
    have hsle := sumK_take_le full (k + 1)
    have hmle := maxL_take_le full (k + 1)
    have ht1 := HF.out.2.2.1
    have ht2 := HF.out.2.2.2
    rw [hsum] at hsle
    rw [hmax] at hmle
    obtain ⟨p0, p1, pf⟩ := two_cells hI.1
    obtain ⟨q0, q1, qf⟩ := two_cells hI.2.2.2.1
    have hf0 := qf 0
    have hf1 := qf 1
    have HI := Lib.hid (And.intro hI (And.intro hsum hmax))
    simp only [nd_eq hat]
    generalize sumK (full.take k) = S at *
    generalize maxL (full.take k) = D at *
    clear hI hsum hmax hcell hnode h4 h5 qf pf hat
    have far : ∀ (v : Value) (j : Nat), (W.setCell ⟨w.heap.size + 1 + 1 + 1, 1, none⟩ v).cell? ⟨xb, j, none⟩ = W.cell? ⟨xb, j, none⟩ := fun v j => World.cell?_of_block (Below.heap_setCell _ _ _ _ (by show xb ≠ w.heap.size + 1 + 1 + 1; omega))
    by_cases hle : lv ≤ D
    · rw [Nat.max_eq_left hle] at hmle HI
      have c5' := (far (.int .i64 (D : Nat)) (xo + 5)).trans c5
      have c6' := (far (.int .i64 (D : Nat)) (xo + 6)).trans c6
      clear far
      have hw1 : IntKind.i64.wrap ((t.items.length : Int) + t.tail.length) = (t.items.length : Int) + t.tail.length := IntWalk.i64_in _ (by omega)
      have hw2 : IntKind.i64.wrap (1 + (S : Int) + ((t.items.length : Int) + t.tail.length)) = 1 + (S : Int) + ((t.items.length : Int) + t.tail.length) := IntWalk.i64_in _ (by omega)
      gi_wp2
      refine region_round_tail 15 hmix (by kernel_rfl) (by kernel_rfl) ?_
      simp only [List.take_succ_cons, List.take_zero, List.drop_succ_cons, List.drop_zero]
      repeat still_step
      try refine wpStill_nil ?_
      clear hw1 hw2
      go_wp2_with fail
      refine ⟨rfl, ?_⟩
      gi_wp2
      exact HI.out.1.step hM HI.out.2.1 HI.out.2.2 _ (by omega)
    · have hlt : D < lv := by omega
      rw [Nat.max_eq_right (Nat.le_of_lt hlt)] at hmle HI
      clear hle
      have c5' := (far (.int .i64 (lv : Nat)) (xo + 5)).trans c5
      have c6' := (far (.int .i64 (lv : Nat)) (xo + 6)).trans c6
      clear far
      have hw1 : IntKind.i64.wrap ((t.items.length : Int) + t.tail.length) = (t.items.length : Int) + t.tail.length := IntWalk.i64_in _ (by omega)
      have hw2 : IntKind.i64.wrap (1 + (S : Int) + ((t.items.length : Int) + t.tail.length)) = 1 + (S : Int) + ((t.items.length : Int) + t.tail.length) := IntWalk.i64_in _ (by omega)
      gi_wp2
      refine region_round_tail 15 hmix (by kernel_rfl) (by kernel_rfl) ?_
      simp only [List.take_succ_cons, List.take_zero, List.drop_succ_cons, List.drop_zero]
      repeat still_step
      try refine wpStill_nil ?_
      clear hw1 hw2
      go_wp2_with fail
      refine ⟨rfl, ?_⟩
      gi_wp2
      exact HI.out.1.step hM HI.out.2.1 HI.out.2.2 _ (by omega)
  case done =>
    rintro D W hD hI hK
    have e1 : 1 + sumK (full.take full.length) = root.size := by rw [List.take_length]; exact HF.out.2.2.1
    have e2 : maxL (full.take full.length) = root.depth := by have := HF.out.2.2.2; rw [List.take_length]; omega
    obtain ⟨q0, q1, _⟩ := two_cells hI.2.2.2.1
    obtain ⟨r0, r1, rf⟩ := two_cells hI.2.1
    have rf0 := rf 0
    have rf1 := rf 1
    have s0 : W.cell? ⟨w.heap.size + 1 + 1, 0, none⟩ = some (.bool false) := by simp [World.cell?, hI.2.2.1]
    have sf : W.frozen? ⟨w.heap.size + 1 + 1, 0, none⟩ = false := by simp [World.frozen?, hI.2.2.1]
    rw [e1] at q0
    rw [e2] at q1
    have hbw := Lib.hid hI.2.2.2.2.2
    have HKD := Lib.hid hK
    clear hI rf hK e1 e2
    gi_wp2
    have g0 : (((W.setCell ⟨w.heap.size + 1, 0, none⟩ (.int .i64 root.size)).setCell ⟨w.heap.size + 1, 1, none⟩ (.int .i64 root.depth)).setCell ⟨w.heap.size + 1 + 1, 0, none⟩ (.bool true)).cell? ⟨w.heap.size + 1, 0, none⟩ = some (.int .i64 root.size) := by go_simp
    have g1 : (((W.setCell ⟨w.heap.size + 1, 0, none⟩ (.int .i64 root.size)).setCell ⟨w.heap.size + 1, 1, none⟩ (.int .i64 root.depth)).setCell ⟨w.heap.size + 1 + 1, 0, none⟩ (.bool true)).cell? ⟨w.heap.size + 1, 1, none⟩ = some (.int .i64 root.depth) := by go_simp
    have g2 : (((W.setCell ⟨w.heap.size + 1, 0, none⟩ (.int .i64 root.size)).setCell ⟨w.heap.size + 1, 1, none⟩ (.int .i64 root.depth)).setCell ⟨w.heap.size + 1 + 1, 0, none⟩ (.bool true)).cell? ⟨w.heap.size + 1 + 1, 0, none⟩ = some (.bool true) := by go_simp
    generalize hV : (((W.setCell ⟨w.heap.size + 1, 0, none⟩ (.int .i64 root.size)).setCell ⟨w.heap.size + 1, 1, none⟩ (.int .i64 root.depth)).setCell ⟨w.heap.size + 1 + 1, 0, none⟩ (.bool true)) = V at g0 g1 g2 ⊢
    have hVD : V.heap[D]? = some (.deferred (some [])) := by
      rw [← hV]
      exact (((KeepsOthers.setCell _ _ _).trans (KeepsOthers.setCell _ _ _)).trans (KeepsOthers.setCell _ _ _)).same D _ HKD.out rfl
    have hVb : Below w.heap.size w V := by
      rw [← hV]
      exact ((hbw.out.setCell (p := ⟨w.heap.size + 1, 0, none⟩) (by show w.heap.size ≤ w.heap.size + 1; omega) _).setCell (p := ⟨w.heap.size + 1, 1, none⟩) (by show w.heap.size ≤ w.heap.size + 1; omega) _).setCell (p := ⟨w.heap.size + 1 + 1, 0, none⟩) (by show w.heap.size ≤ w.heap.size + 1 + 1; omega) _
    have hp : ∀ b j, b ≠ D → (V.putObj D (.deferred none)).cell? ⟨b, j, none⟩ = V.cell? ⟨b, j, none⟩ := fun b j hb => World.cell?_of_block (World.putObj_heap_other hb)
    have k0 := (hp (w.heap.size + 1) 0 (by omega)).trans g0
    have k1 := (hp (w.heap.size + 1) 1 (by omega)).trans g1
    have k2 := (hp (w.heap.size + 1 + 1) 0 (by omega)).trans g2
    refine ⟨by simp, .inl ⟨_, _, rfl, run_takeDeferred hVD, ?_⟩⟩
    refine ⟨.tuple #[.agg #[.int .i64 root.size, .int .i64 root.depth], .bool true], by simp [results, Tryz.results84, k0, k1, k2, go_sem], rfl, hVb.trans ⟨rfl, rfl, rfl, by simp, fun k hk => World.putObj_heap_other (by omega)⟩⟩
  case stop => exact fun _ _ _ _ _ _ h => h.elim

/-- measure, of what is within most. -/
theorem measure_any (M b o md dd : Nat) (root : LT) (w : World) (hM : M ≤ w.heap.size) (hL : Lies w M root b o) (h1 : root.size ≤ md) (h2 : root.depth ≤ dd) (hmd : md < 1000000000) :
    Calls Tryz.prog 84 #[.pointer (some ⟨b, o, none⟩), .agg #[.int .i64 md, .int .i64 dd]] w fun e w' => e = .returned (.tuple #[.agg #[.int .i64 root.size, .int .i64 root.depth], .bool true]) ∧ Below w.heap.size w w' :=
  callsIn_wide.1 (measure_in M b o md dd root w hM hL (by omega) h1 h2)
end
end Go.Proofs.YthdhdmmlmbkalaaGreatDoor
