/-
  datum.twin's parts: slices.Clone of limbs; take.
-/
import Derived.Test.YtgboiopkihemaaaNgm
namespace Go.Proofs.Ytgboiopkihemaaa
open Go.RowKit

theorem own_lit0' (w : World) (base : Nat) (hb : base ≤ w.heap.size) : Own (w.alloc (.cells #[] 65)) base (.slice (some ⟨w.heap.size, 0, none⟩) 0 0) [] :=
  ⟨Ok.nil, World.ownsRow_lit (base := base) (size := 1) w #[] 0 hb (by unfold maxLen; omega) rfl⟩
set_option maxRecDepth 100000 in
theorem nil_yes (w : World) : (binOp .eql 22 (.slice none 0 0) (.slice none 0 0)).run Try.prog w = .ok (.bool true) w := by
  first | rfl | kernel_rfl
set_option maxRecDepth 100000 in
theorem nil_no (ad : Addr) (n c : Nat) (w : World) : (binOp .eql 22 (.slice (some ad) n c) (.slice none 0 0)).run Try.prog w = .ok (.bool false) w := by
  first | rfl | kernel_rfl
/-- What Clone leaves. -/
def CPost (n : Nat) (xs : List Nat) (w : World) (e : Ending) (w' : World) : Prop := ∃ A c, e = .returned (.slice A n c) ∧ Sl w' A n c xs ∧ (0 < n → Fresh w' w.heap.size (blk A)) ∧ Below w.heap.size w w'
set_option maxHeartbeats 800000 in
theorem clone_any (A : Option Addr) (n cap : Nat) (xs : List Nat) (w : World) (h : Sl w A n cap xs) (hn : n ≤ 1000000000) :
    Calls Try.prog 100 #[.slice A n cap] w (CPost n xs w) := by
  have hm := h.max
  have hl := h.le
  unfold maxLen at hm
  obtain ⟨i0, hi, hz0, hz1, hz2⟩ := info_parts info32
  cases A with
  | none =>
    have hc0 := h.nil_ rfl
    subst hc0
    obtain rfl : n = 0 := by omega
    have H := Lib.hid h
    clear h
    have hnil := nil_yes w
    go_enter Try.func100, Try.ntmps100
    go_wp2_with fail
    go_ret
    exact ⟨none, 0, rfl, H.out, fun h => absurd h (by decide), Below.refl _ _⟩
  | some ad =>
    have H := Lib.hid h
    have H2 := Lib.hid (h.alloc (.cells #[] 65))
    clear h
    have ho := own_lit0' w w.heap.size (Nat.le_refl _)
    have hnil := nil_no ad n cap w
    go_enter Try.func100, Try.ntmps100
    go_wp2_with (at_builtin; refine wpList_append_limbs rfl (.tmp 5) (.tmp 6) rfl i0 Try.underlying22 hi hz0 hz1 hz2 w.heap.size _ [] rfl ho _ _ _ _ rfl H2.out (by simp; omega) (by simp) ?_; intro v' w1 hown1 hg1; have HO := Lib.hid (And.intro hown1 hg1); clear hown1 hg1)
    go_ret
    have hnew := HO.out.1.new
    rw [List.nil_append] at hnew
    obtain ⟨A', n', c', rfl, hs, hf⟩ := hnew
    obtain rfl : n' = n := by rw [hs.len, H.out.len]
    refine ⟨A', c', rfl, hs, fun hp => ?_, ((Below.refl _ _).alloc (Nat.le_refl _) _).grown HO.out.2 (by simp) (fun j hj => by have h9 : some w.heap.size = some j := hj; injection h9 with h9; omega)⟩
    rcases hf with ⟨_, h0⟩ | ⟨g, cur, rfl, hg, hgc, _⟩
    · have := hs.le; omega
    · exact Fresh.of hg hgc (by decide)

theorem wpList_append_room {P : Program} {w : World} {ops : Array Oper} {rest : List Oper} {o : Oper} {a : Act} {Q : Exit → Act → World → Prop} (hgd : o.guard = none) (s x : Operand) (t : TypeId)
    (ho : o.op = .call { callee := .builtin .append, args := #[s, x], argTypes := #[t, t] }) (e : TypeId) (i : TypeInfo) (ht : P.underlying t = some (.slice e)) (hi : P.info? e = some i)
    (g sLen sCap : Nat) (cur : Array Value) (hg : w.heap[g]? = some (.cells cur e (0, 0))) (hs : a.eval s = .slice (some ⟨g, 0, none⟩) sLen sCap)
    (ad : Addr) (m c : Nat) (news : List Value) (hx : a.eval x = .slice (some ad) m c) (hl : news.length = m * i.size) (hnews : ∀ j u, news[j]? = some u → w.cell? (ad.add j) = some u) (h1 : ∀ u ∈ news, u.oneCell' = true)
    (hroom : sLen + m ≤ sCap) (hfit : sLen * i.size + news.length ≤ cur.size)
    (h : ∀ w', w' = w.setRow g (cur.toList.take (sLen * i.size) ++ news ++ cur.toList.drop (sLen * i.size + news.length)).toArray → wpList P ops Q rest (a.put o.dst (.slice (some ⟨g, 0, none⟩) (sLen + m) sCap)) w') : wpList P ops Q (o :: rest) a w := by
  refine wpList_plain hgd fun K hK => ?_
  have hrun := run_append_room (P := P) w t o.type e i ht hi g sLen sCap cur hg ad m c news hl hnews h1 hroom hfit
  unfold Oper.wp
  generalize (w.setRow g (cur.toList.take (sLen * i.size) ++ news ++ cur.toList.drop (sLen * i.size + news.length)).toArray) = w9 at h hrun
  simp [execOp, ho, resolve, invoke, builtin, hs, hx, hrun, Result.andThen]
  exact hK _ _ (h w9 rfl)

theorem setRow_other (w : World) (g k : Nat) (X : Array Value) (h : k ≠ g) : (w.setRow g X).heap[k]? = w.heap[k]? := by
  simp [World.setRow, Array.getElem?_modify, Ne.symm h]
/-- The block g with these cells from the n-th datum on. -/
def fillAt (cur : Array Value) (n : Nat) (news : List Value) : Array Value := (cur.toList.take (n * 7) ++ news ++ cur.toList.drop (n * 7 + news.length)).toArray
set_option maxRecDepth 100000 in
set_option maxHeartbeats 1600000 in
theorem take_some (R g n cap m c : Nat) (ad : Addr) (cur : Array Value) (news : List Value) (w : World) (hm : 0 < m) (hR : w.cell? ⟨R, 0, none⟩ = some (.slice (some ⟨g, 0, none⟩) n cap)) (hf : w.frozen? ⟨R, 0, none⟩ = false) (hRg : R ≠ g)
    (hg : w.heap[g]? = some (.cells cur 27 (0, 0))) (hcur : cur.size = cap * 7) (hroom : n + m ≤ cap) (hcap : cap ≤ 1000000000) (hl : news.length = m * 7) (hnews : ∀ j u, news[j]? = some u → w.cell? (ad.add j) = some u) (h1 : ∀ u ∈ news, u.oneCell' = true) :
    Calls Try.prog 98 #[.slice (some ad) m c, .pointer (some ⟨R, 0, none⟩)] w fun e w' => e = .returned (.slice (some ⟨g, n * 7, none⟩) m m) ∧ w' = (w.setRow g (fillAt cur n news)).setCell ⟨R, 0, none⟩ (.slice (some ⟨g, 0, none⟩) (n + m) cap) := by
  obtain ⟨i0, hi0, hz0, hz1, hz2⟩ := info_parts infoD
  have hmz : (((m : Nat) : Int) == 0) = false := beq_eq_false_iff_ne.2 (by omega)
  have hRc : ∀ X, (w.setRow g X).cell? ⟨R, 0, none⟩ = some (.slice (some ⟨g, 0, none⟩) n cap) := fun X => (World.cell?_of_block (w := w) (a := ⟨R, 0, none⟩) (setRow_other w g R X hRg)).trans hR
  have hRf : ∀ X, (w.setRow g X).frozen? ⟨R, 0, none⟩ = false := fun X => (World.frozen?_of_block (w := w) (a := ⟨R, 0, none⟩) (setRow_other w g R X hRg)).trans hf
  have HR := Lib.hid (And.intro hRc hRf)
  unfold fillAt
  clear hRc hRf
  have HH := Lib.hid (And.intro hg (And.intro hcur (And.intro hl (And.intro hnews h1))))
  clear hg hcur hl hnews h1
  go_enter Try.func98, Try.ntmps98
  go_wp2_with (at_builtin; refine wpList_append_room rfl (.tmp 10) (.tmp 11) 25 rfl 27 i0 Try.underlying25 hi0 g n cap cur HH.out.1 rfl ad m c news rfl (by rw [hz1]; exact HH.out.2.2.1) HH.out.2.2.2.1 HH.out.2.2.2.2 hroom (by rw [hz1, HH.out.2.1, HH.out.2.2.1]; omega) ?_; intro w9 hw9; have hRc : w9.cell? ⟨R, 0, none⟩ = some (.slice (some ⟨g, 0, none⟩) n cap) := (by rw [hw9]; exact HR.out.1 _); have hRf : w9.frozen? ⟨R, 0, none⟩ = false := (by rw [hw9]; exact HR.out.2 _); have HW9 := Lib.hid hw9; clear hw9)
  go_ret
  refine ⟨?_, ?_⟩
  · simp
  · rw [HW9.out, hz1]

set_option maxRecDepth 100000 in
theorem take_none (R c : Nat) (a : Option Addr) (w : World) : Calls Try.prog 98 #[.slice a 0 c, .pointer (some ⟨R, 0, none⟩)] w fun e w' => e = .returned (.slice none 0 0) ∧ w' = w := by
  go_enter Try.func98, Try.ntmps98
  go_wp2_with fail
  go_ret
  exact ⟨rfl, rfl⟩
end Go.Proofs.Ytgboiopkihemaaa
