/-
  DatumBack's region that makes Norm of both.
-/
import Derived.Test.YtgboiopkihemaaaSpm
import Derived.Test.YtgboiopkihemaaaPha
import Derived.Test.YtgboiopkihemaaaGdc
import Derived.Test.YtgboiopkihemaaaLgt
namespace Go.Proofs.Ytgboiopkihemaaa
open Go.RowKit

def NoPtr (a : Act) (k : Nat) : Prop := a.tmps.getD 5 undef ≠ .pointer (some ⟨k, 0, none⟩) ∧ a.tmps.getD 6 undef ≠ .pointer (some ⟨k, 0, none⟩)
def BkA (ta tb : LT) (B : Nat) (i : Nat) (a : Act) (w : World) (v : Value) : Prop := match i with
  | 0 => v = .agg #[.int .i64 ta.k, .bool ta.g, .slice ta.la ta.ln ta.lc, .bool ta.bb, .string ta.s, .slice ta.ia ta.items.length ta.ic, .slice ta.ta ta.tail.length ta.tc]
  | 1 => ∃ u : LT, v = .agg #[.int .i64 u.k, .bool u.g, .slice u.la u.ln u.lc, .bool u.bb, .string u.s, .slice u.ia u.items.length u.ic, .slice u.ta u.tail.length u.tc] ∧ HeldP w (fun k => Fresh w B k ∧ NoPtr a k) u ∧ shape u = normT ta
  | 2 => v = .agg #[.int .i64 tb.k, .bool tb.g, .slice tb.la tb.ln tb.lc, .bool tb.bb, .string tb.s, .slice tb.ia tb.items.length tb.ic, .slice tb.ta tb.tail.length tb.tc]
  | 3 => ∃ u : LT, v = .agg #[.int .i64 u.k, .bool u.g, .slice u.la u.ln u.lc, .bool u.bb, .string u.s, .slice u.ia u.items.length u.ic, .slice u.ta u.tail.length u.tc] ∧ HeldP w (fun k => Fresh w B k ∧ NoPtr a k) u ∧ shape u = normT tb
  | 4 => ∃ P, v = .pointer (some ⟨P, 0, none⟩) ∧ B ≤ P ∧ w.heap[P]? = some (Obj.cells #[.int .i64 0, .bool false, .slice none 0 0, .bool false, .string ⟨#[]⟩, .slice none 0 0, .slice none 0 0] 27) ∧ a.tmps.getD 6 undef ≠ v
  | _ => ∃ P, v = .pointer (some ⟨P, 0, none⟩) ∧ B ≤ P ∧ w.heap[P]? = some (Obj.cells #[.int .i64 0, .bool false, .slice none 0 0, .bool false, .string ⟨#[]⟩, .slice none 0 0, .slice none 0 0] 27) ∧ a.tmps.getD 5 undef ≠ v
theorem put_other {a : Act} {d n : Nat} {v : Value} (h : n ≠ d) : (a.put (some d) v).tmps.getD n undef = a.tmps.getD n undef := by
  unfold Act.put
  simp only [Array.getD_eq_getD_getElem?, Array.getElem?_setIfInBounds]
  rw [if_neg (fun e => h e.symm)]
theorem put_here {a : Act} {d : Nat} {v : Value} (h : d < a.tmps.size) : (a.put (some d) v).tmps.getD d undef = v := by rw [put_get h, if_pos rfl]
theorem NoPtr.put {a : Act} {k d : Nat} {v : Value} (h : NoPtr a k) (h5 : d ≠ 5) (h6 : d ≠ 6) : NoPtr (a.put (some d) v) k := by
  unfold NoPtr
  rw [put_other (Ne.symm h5), put_other (Ne.symm h6)]
  exact h
theorem BkA.keep {ta tb : LT} {B i d : Nat} {a : Act} {w w' : World} {v v' : Value} (h : BkA ta tb B i a w v) (hb : Below w.heap.size w w') (h5 : d ≠ 5) (h6 : d ≠ 6) (hi : i < 6) : BkA ta tb B i (a.put (some d) v') w' v := by
  rcases (show i = 0 ∨ i = 1 ∨ i = 2 ∨ i = 3 ∨ i = 4 ∨ i = 5 by omega) with rfl | rfl | rfl | rfl | rfl | rfl
  · exact h
  · obtain ⟨u, e, h1, h2⟩ := h
    exact ⟨u, e, h1.keep hb.size (fun k hk => ⟨⟨hk.1.same (hb.block k hk.1.lt), hk.2.put h5 h6⟩, hb.block k hk.1.lt⟩), h2⟩
  · exact h
  · obtain ⟨u, e, h1, h2⟩ := h
    exact ⟨u, e, h1.keep hb.size (fun k hk => ⟨⟨hk.1.same (hb.block k hk.1.lt), hk.2.put h5 h6⟩, hb.block k hk.1.lt⟩), h2⟩
  · obtain ⟨P, e, h1, h2, h3⟩ := h
    exact ⟨P, e, h1, (hb.block P (Array.getElem?_eq_some_iff.1 h2).1).trans h2, by rw [put_other (Ne.symm h6)]; exact h3⟩
  · obtain ⟨P, e, h1, h2, h3⟩ := h
    exact ⟨P, e, h1, (hb.block P (Array.getElem?_eq_some_iff.1 h2).1).trans h2, by rw [put_other (Ne.symm h5)]; exact h3⟩
theorem ptr_ne {a b : Nat} (h : a ≠ b) : (Value.pointer (some ⟨a, 0, none⟩) : Value) ≠ .pointer (some ⟨b, 0, none⟩) := fun e => by
  injection e with e
  injection e with e
  injection e with e1 e2 e3
  exact h e1
theorem NoPtr.alloc {a : Act} {w : World} {k d : Nat} (h : NoPtr a k) (hk : k < w.heap.size) (hd : d = 5 ∨ d = 6) (hs : 6 < a.tmps.size) : NoPtr (a.put (some d) (.pointer (some ⟨w.heap.size, 0, none⟩))) k := by
  have hn : w.heap.size ≠ k := by omega
  rcases hd with rfl | rfl
  · refine ⟨by rw [put_here (by omega)]; exact ptr_ne hn, by rw [put_other (by decide)]; exact h.2⟩
  · refine ⟨by rw [put_other (by decide)]; exact h.1, by rw [put_here (by omega)]; exact ptr_ne hn⟩
theorem BkA.alloc {ta tb : LT} {B i d : Nat} {a : Act} {w : World} {v : Value} (h : BkA ta tb B i a w v) (hd : d = 5 ∨ d = 6) (hs : 6 < a.tmps.size) (h4 : i = 4 → d = 6) (h5 : i = 5 → d = 5) (hi : i < 6) : BkA ta tb B i (a.put (some d) (.pointer (some ⟨w.heap.size, 0, none⟩))) (w.alloc (Obj.cells #[.int .i64 0, .bool false, .slice none 0 0, .bool false, .string ⟨#[]⟩, .slice none 0 0, .slice none 0 0] 27)) v := by
  have hb : Below w.heap.size w (w.alloc (Obj.cells #[.int .i64 0, .bool false, .slice none 0 0, .bool false, .string ⟨#[]⟩, .slice none 0 0, .slice none 0 0] 27)) := (Below.refl _ _).alloc (Nat.le_refl _) _
  rcases (show i = 0 ∨ i = 1 ∨ i = 2 ∨ i = 3 ∨ i = 4 ∨ i = 5 by omega) with rfl | rfl | rfl | rfl | rfl | rfl
  · exact h
  · obtain ⟨u, e, h1, h2⟩ := h
    exact ⟨u, e, h1.keep hb.size (fun k hk => ⟨⟨hk.1.same (hb.block k hk.1.lt), hk.2.alloc hk.1.lt hd hs⟩, hb.block k hk.1.lt⟩), h2⟩
  · exact h
  · obtain ⟨u, e, h1, h2⟩ := h
    exact ⟨u, e, h1.keep hb.size (fun k hk => ⟨⟨hk.1.same (hb.block k hk.1.lt), hk.2.alloc hk.1.lt hd hs⟩, hb.block k hk.1.lt⟩), h2⟩
  · obtain ⟨P, e, h1, h2, h3⟩ := h
    have hlt := (Array.getElem?_eq_some_iff.1 h2).1
    obtain rfl := h4 rfl
    exact ⟨P, e, h1, (hb.block P hlt).trans h2, by rw [put_here hs, e]; exact ptr_ne (by omega)⟩
  · obtain ⟨P, e, h1, h2, h3⟩ := h
    have hlt := (Array.getElem?_eq_some_iff.1 h2).1
    obtain rfl := h5 rfl
    exact ⟨P, e, h1, (hb.block P hlt).trans h2, by rw [put_here (by omega), e]; exact ptr_ne (by omega)⟩
/-- The slot of a variable that is not made yet, or of one that is. -/
theorem slot_lt {ta tb : LT} {B i : Nat} {dst : Nat → Nat} {a a0 : Act} {w w0 : World} {l : Nat → Bool} (I : PhaseA 6 dst (BkA ta tb B) a0 w0 l a w) (hi : i = 4 ∨ i = 5) (h0 : a0.tmps.getD (dst i) undef = undef) {k : Nat} (hk : w.heap.size ≤ k) : a.tmps.getD (dst i) undef ≠ .pointer (some ⟨k, 0, none⟩) := by
  cases hl : l i with
  | false =>
    rw [I.rest i (by omega) hl, h0]
    intro e
    cases e
  | true =>
    have h := I.val i (by omega) hl
    rcases hi with rfl | rfl
    · obtain ⟨P, e, h1, h2, h3⟩ := h
      rw [e]
      have hlt := (Array.getElem?_eq_some_iff.1 h2).1
      exact ptr_ne (by omega)
    · obtain ⟨P, e, h1, h2, h3⟩ := h
      rw [e]
      have hlt := (Array.getElem?_eq_some_iff.1 h2).1
      exact ptr_ne (by omega)
theorem pair_shape (D : Nat) (a b : LT) : normT (pairT D a b) = .mk 5 false [] false ⟨#[]⟩ (normT a :: (spineT b).1) (spineT b).2.toList := by
  rw [normT_list _ (by rfl)]
  show closeD (normR [a] ++ (spineR [b]).1, (spineR [b]).2) = _
  rw [normR_cons, normR_nil, spineR_cons]
  cases (spineT b).2 <;> rfl
theorem rest_norm (b : LT) : restS (spineT b).1 (spineT b).2.toList = normT b := by
  show _ = closeD (spineT b)
  generalize spineT b = q
  obtain ⟨l, o⟩ := q
  cases o <;> cases l <;> rfl
theorem norm_within {w' : World} {N : Nat} {t u : LT} (hO : okD (shape t)) (hT : tameD (shape t)) (h' : Held w' N u) (hs : shape u = normT t) : u.size ≤ t.size ∧ u.depth ≤ t.depth ∧ Tame u := by
  have hb := norm_small (shape t)
  rw [normD_shape, ← hs, sizeD_shape, sizeD_shape, depthD_shape, depthD_shape] at hb
  exact ⟨hb.1.1, hb.2.1.1, (tame_held h').2 (hb.2.2 hO hT).1⟩
theorem pair_within {w w' : World} {M N D : Nat} {a b u : LT} (ha : Held w M a) (hb : Held w M b) (ta : Tame a) (tb : Tame b) (h' : Held w' N u) (hs : shape u = normT (pairT D a b)) : u.size ≤ 1 + (a.size + b.size) ∧ u.depth ≤ 1 + max a.depth b.depth ∧ Tame u := by
  have e : shape (pairT D a b) = .mk 5 false [] false ⟨#[]⟩ [shape a] [shape b] := by simp [pairT, shape, shapes]
  have h := norm_within (t := pairT D a b) (by rw [e]; simp only [okD, oksD]; exact ⟨Ok.nil, ⟨ok_held ha, trivial⟩, ok_held hb, trivial⟩) (by rw [e]; simp only [tameD, tamesD]; exact ⟨by simp, ⟨(tame_held ha).1 ta, trivial⟩, (tame_held hb).1 tb, trivial⟩) h' hs
  have h1 : (pairT D a b).size = 1 + (a.size + b.size) := by simp [pairT, LT.size, sizes]
  have h2 : (pairT D a b).depth = 1 + max a.depth b.depth := by simp [pairT, LT.depth, depths]
  rw [h1, h2] at h
  exact h
theorem same_at {W0 : World} {s t : LT} (hs : shape s = shape t) (h1 : s.size ≤ 100000) (h2 : s.depth ≤ 10000) (Ts : Tame s) (Tt : Tame t) (Hs : Held W0 W0.heap.size s) (Ht : Held W0 W0.heap.size t) (W : World) (hb : Below W0.heap.size W0 W) :
    Calls Try.prog 15 #[.agg #[.int .i64 s.k, .bool s.g, .slice s.la s.ln s.lc, .bool s.bb, .string s.s, .slice s.ia s.items.length s.ic, .slice s.ta s.tail.length s.tc], .agg #[.int .i64 t.k, .bool t.g, .slice t.la t.ln t.lc, .bool t.bb, .string t.s, .slice t.ia t.items.length t.ic, .slice t.ta t.tail.length t.tc]] W fun e w' => e = .returned (.bool true) ∧ Below W.heap.size W w' := same_yes W0.heap.size s t hs h1 h2 Ts Tt W hb.size (Hs.below (Nat.le_refl _) hb) (Ht.below (Nat.le_refl _) hb)
/-- More data are in a pair than in its first one. -/
theorem pair_more {D : Nat} {a b x p : LT} (hx : shape x = normT a) (hp : shape p = normT (pairT D a b)) : x.size < p.size := by
  rw [pair_shape] at hp
  rw [← sizeD_shape x, ← sizeD_shape p, hx, hp]
  simp only [sizeD, sizesD]
  omega
theorem exec_not {P : Program} {a : Act} {w : World} {o : Oper} {p : Nat} {T : TypeId} {b : Bool} (ho : o.op = .unOp .not T (.tmp p)) (hp : a.tmps.getD p undef = .bool b) : (execOp a.eval o).run P w = .ok (.value (.bool (!b))) w := by
  rw [Array.getD_eq_getD_getElem?] at hp
  simp [execOp, ho, Act.eval, hp, go_sem]
theorem exec_moveV {P : Program} {a : Act} {w : World} {o : Oper} {p : Nat} {v : Value} (ho : o.op = .move (.tmp p)) (hp : a.tmps.getD p undef = v) : (execOp a.eval o).run P w = .ok (.value v) w := by
  rw [exec_move ho, hp]
/-- ..|| y, where what stands ahead is false. -/
theorem exec_pickF {P : Program} {a : Act} {w : World} {o : Oper} {p q : Nat} {c v : Value} (ho : o.op = .pick (.tmp p) (.const c) (.tmp q)) (hp : a.tmps.getD p undef = .bool false) (hq : a.tmps.getD q undef = v) : (execOp a.eval o).run P w = .ok (.value v) w := by
  rw [Array.getD_eq_getD_getElem?] at hp hq
  simp [execOp, ho, Act.eval, hp, hq, go_sem]
/-- ..&& y, where what stands ahead is true. -/
theorem exec_pickT {P : Program} {a : Act} {w : World} {o : Oper} {p q : Nat} {c v : Value} (ho : o.op = .pick (.tmp p) (.tmp q) (.const c)) (hp : a.tmps.getD p undef = .bool true) (hq : a.tmps.getD q undef = v) : (execOp a.eval o).run P w = .ok (.value v) w := by
  rw [Array.getD_eq_getD_getElem?] at hp hq
  simp [execOp, ho, Act.eval, hp, hq, go_sem]
theorem exec_gtr {a : Act} {w : World} {o : Oper} {p q : Nat} {x y : Int} (ho : o.op = .binOp .gtr 3 (.tmp p) (.tmp q) 3) (hp : a.tmps.getD p undef = .int .i64 x) (hq : a.tmps.getD q undef = .int .i64 y) (h : y < x) : (execOp a.eval o).run Try.prog w = .ok (.value (.bool true)) w := by
  rw [Array.getD_eq_getD_getElem?] at hp hq
  simp [execOp, ho, Act.eval, hp, hq, go_sem, h]
theorem exec_assignV {P : Program} {a : Act} {w : World} {o : Oper} {p : Nat} {v : Value} (ho : o.op = .assign (.tmp p)) (hp : a.tmps.getD p undef = v) : (execOp a.eval o).run P w = .ok (.value v) w := by
  rw [Array.getD_eq_getD_getElem?] at hp
  simp [execOp, ho, Act.eval, hp, go_sem]
theorem norm_again (M : Nat) (x a : LT) (hx : shape x = normT a) (h1 : x.size ≤ 100000) (h2 : x.depth ≤ 10000) (hT : Tame x) (w : World) (hM : M ≤ w.heap.size) (hH : Held w M x) : Calls Try.prog 12 #[.agg #[.int .i64 x.k, .bool x.g, .slice x.la x.ln x.lc, .bool x.bb, .string x.s, .slice x.ia x.items.length x.ic, .slice x.ta x.tail.length x.tc]] w (NPost (normT a) w) := by
  have := norm_tree M x h1 h2 hT w hM hH
  rwa [normT_again hx] at this
theorem pair_again {p a b : LT} (h : shape p = .mk 5 false [] false ⟨#[]⟩ (normT a :: (spineT b).1) (spineT b).2.toList) : normT p = shape p := by
  have h' : shape p = normT (pairT 0 a b) := by rw [pair_shape]; exact h
  rw [normT_again h', h']
/-- What the law's last line asks for. -/
theorem back_tail {w0 : World} {x p a b : LT} (hx : Held w0 w0.heap.size x) (hp : Held w0 w0.heap.size p) (bx : x.size ≤ a.size ∧ x.depth ≤ a.depth ∧ Tame x) (bp : p.size ≤ 1 + (a.size + b.size) ∧ p.depth ≤ 1 + max a.depth b.depth ∧ Tame p) (sa : a.size ≤ 400) (sb : b.size ≤ 400) (da : a.depth ≤ 60) (db : b.depth ≤ 60) (hm : x.size < p.size) (hn : normT p = shape p) :
    (∀ W, Below w0.heap.size w0 W → Calls Try.prog 12 #[.agg #[.int .i64 p.k, .bool p.g, .slice p.la p.ln p.lc, .bool p.bb, .string p.s, .slice p.ia p.items.length p.ic, .slice p.ta p.tail.length p.tc]] W (NPost (normT p) W)) ∧
    (∀ W, Below w0.heap.size w0 W → ∀ z : LT, Held W W.heap.size z → shape z = normT p → Calls Try.prog 15 #[.agg #[.int .i64 z.k, .bool z.g, .slice z.la z.ln z.lc, .bool z.bb, .string z.s, .slice z.ia z.items.length z.ic, .slice z.ta z.tail.length z.tc], .agg #[.int .i64 p.k, .bool p.g, .slice p.la p.ln p.lc, .bool p.bb, .string p.s, .slice p.ia p.items.length p.ic, .slice p.ta p.tail.length p.tc]] W fun e W' => e = .returned (.bool true) ∧ Below W.heap.size W W') ∧
    (∀ W, Below w0.heap.size w0 W → Calls Try.prog 17 #[.agg #[.int .i64 p.k, .bool p.g, .slice p.la p.ln p.lc, .bool p.bb, .string p.s, .slice p.ia p.items.length p.ic, .slice p.ta p.tail.length p.tc]] W fun e W' => e = .returned (.int .i64 p.size) ∧ Below W.heap.size W W') ∧
    (∀ W, Below w0.heap.size w0 W → Calls Try.prog 17 #[.agg #[.int .i64 x.k, .bool x.g, .slice x.la x.ln x.lc, .bool x.bb, .string x.s, .slice x.ia x.items.length x.ic, .slice x.ta x.tail.length x.tc]] W fun e W' => e = .returned (.int .i64 x.size) ∧ Below W.heap.size W W') ∧ x.size < p.size := by
  refine ⟨fun W hb => norm_tree w0.heap.size p (by omega) (by omega) bp.2.2 W hb.size (hp.below (Nat.le_refl _) hb), fun W hb z hz hzs => ?_, fun W hb => size_any p w0.heap.size W (hp.below (Nat.le_refl _) hb) hb.size (by omega) (by omega), fun W hb => size_any x w0.heap.size W (hx.below (Nat.le_refl _) hb) hb.size (by omega) (by omega), hm⟩
  have e : shape z = shape p := hzs.trans hn
  exact same_yes W.heap.size z p e (by rw [size_same e]; omega) (by rw [depth_same e]; omega) (tame_same (hp.below (Nat.le_refl _) hb) hz e bp.2.2) bp.2.2 W (Nat.le_refl _) hz ((hp.below (Nat.le_refl _) hb).upP hb.size)
end Go.Proofs.Ytgboiopkihemaaa
