/-
  write.pen: a list of symbols and strings is written.
-/
import Derived.Test.YtgfamihldecmbaaDoorOne
namespace Go.Proofs.YtgfamihldecmbaaDoor
open Go.RowKit

/-- What is written of one, by f a symbol, by g a string. -/
def leafW (tf tg : ByteArray → ByteArray) (x : Int × ByteArray) : List UInt8 := if x.1 = 3 then (tf x.2).data.toList else (tg x.2).data.toList
/-- The items with blanks between. -/
def rowW (tf tg : ByteArray → ByteArray) : List (Int × ByteArray) → List UInt8
  | [] => []
  | [x] => leafW tf tg x
  | x :: y :: l => leafW tf tg x ++ by8 32 :: rowW tf tg (y :: l)
theorem rowW_snoc (tf tg : ByteArray → ByteArray) (l : List (Int × ByteArray)) (x : Int × ByteArray) (h : l ≠ []) : rowW tf tg (l ++ [x]) = rowW tf tg l ++ by8 32 :: leafW tf tg x := by
  induction l with
  | nil => exact absurd rfl h
  | cons y l ih =>
    cases l with
    | nil => simp [rowW]
    | cons z l => simp only [List.cons_append, rowW]; rw [← List.cons_append, ih (by simp)]; simp

/-- A leaf is written. -/
theorem one_leaf (base b f g : Nat) (hff : ∀ args w, (callFunc f args).run Tryd.prog w = .ok (.enter f args) w) (hgg : ∀ args w, (callFunc g args).run Tryd.prog w = .ok (.enter g args) w) (tf tg : ByteArray → ByteArray) (x : Int × ByteArray) (hx : x.1 = 3 ∨ x.1 = 4) (hf : Tells f x.2 (tf x.2)) (hg : Tells g x.2 (tg x.2))
    (l : List UInt8) (w : World) (ht : Tab w) (h : Bl base b l w) (hl : l.length + (leafW tf tg x).length < 100000000000) (hb : base ≤ w.heap.size) :
    Calls Tryd.prog 48 #[penV b f g, .agg #[.int .i64 x.1, .bool false, .slice none 0 0, .bool false, .string x.2, .slice none 0 0, .slice none 0 0]] w fun e w' => e = .returned (.tuple #[]) ∧ Wrote base b (l ++ leafW tf tg x) w w' := by
  rcases hx with hx | hx
  · have e : leafW tf tg x = (tf x.2).data.toList := by simp [leafW, hx]
    rw [e, hx]
    exact one_sym base b f g hff x.2 (tf x.2) hf l w ht h (by rw [e] at hl; simpa using hl) hb
  · have e : leafW tf tg x = (tg x.2).data.toList := by simp [leafW, hx]
    rw [e, hx]
    exact one_str base b f g hgg x.2 (tg x.2) hg l w ht h (by rw [e] at hl; simpa using hl) hb

/-- What list's loop knows. -/
def LsRel (base b f g P gb n : Nat) (V : Value) (cs : Array Value) (fr : Nat × Nat) (tf tg : ByteArray → ByteArray) (l : List UInt8) (its : List (Int × ByteArray)) (w : World) (i : Value) (wr : World) : Prop :=
  ∃ k : Nat, k ≤ n ∧ i = .int .i64 k ∧ wr.heap[P]? = some (.cells (penC b f g) 64 (0, 0)) ∧ wr.heap[P + 1]? = some (.cells #[.int .i64 5, .bool false, .slice none 0 0, .bool false, .string ⟨#[]⟩, V, .slice none 0 0] 27 (0, 0)) ∧
    wr.heap[gb]? = some (.cells cs 27 fr) ∧ Wrote base b (l ++ by8 40 :: rowW tf tg (its.take k)) w wr ∧ P + 2 ≤ wr.heap.size
theorem Tab.low {base : Nat} {w w' : World} (h : Tab w) (hb : Below base w w') (h0 : 0 < base) : Tab w' := by
  obtain ⟨t, h⟩ := h
  exact ⟨t, (hb.block _ h0).trans h⟩
theorem Tab.lt {w : World} (h : Tab w) : 0 < w.heap.size := by
  obtain ⟨t, h⟩ := h
  exact (Array.getElem?_eq_some_iff.1 h).1
theorem Wrote.alloc {base b : Nat} {l : List UInt8} {w w' : World} (h : Wrote base b l w w') (hb : base ≤ w'.heap.size) (o : Obj) : Wrote base b l w (w'.alloc o) := by
  have hbl : Below w'.heap.size w' (w'.alloc o) := (Below.refl _ _).alloc (Nat.le_refl _) o
  exact ⟨h.1.below hbl, h.2.1.trans (hbl.mono hb), h.2.2.trans (kept_below hbl)⟩
theorem Bl.wrote {base b : Nat} {l : List UInt8} {w : World} (h : Bl base b l w) : Wrote base b l w w := ⟨h, Below.refl _ _, Lib.OthersKept.refl _ _ _⟩
theorem leafRow_own {w : World} {base gb n c : Nat} {its : List (Int × ByteArray)} (h : w.ownsRow base 27 7 (.slice (some ⟨gb, 0, none⟩) n c) n (leafAll its)) (hk : ∀ x ∈ its, x.1 = 3 ∨ x.1 = 4) : LeafRow w gb 0 its := by
  intro i x hx
  refine ⟨hk x (List.mem_of_getElem? hx), fun j v hj => ?_⟩
  have hjl : j < 7 := by
    have := (List.getElem?_eq_some_iff.1 hj).1
    simpa [leafC] using this
  have key : ∀ (l : List (Int × ByteArray)) (i : Nat), l[i]? = some x → (leafAll l)[i * 7 + j]? = some v := by
    intro l
    induction l with
    | nil => intro i h; simp at h
    | cons y l ih =>
      intro i h
      cases i with
      | zero =>
        simp at h; subst h
        rw [leafAll, List.getElem?_append_left (by simp [leafC]; omega)]
        simpa using hj
      | succ i =>
        rw [leafAll, List.getElem?_append_right (by simp [leafC]; omega)]
        have := ih i (by simpa using h)
        rwa [show (i + 1) * 7 + j - (leafC y.1 y.2).length = i * 7 + j by simp [leafC]; omega]
  have h1 := h.cells (g := gb) rfl (i * 7 + j) v (key its i hx)
  rw [cell_add] at h1
  rwa [Nat.zero_add] at h1 ⊢
theorem leafRow_at {gb : Nat} {w w' : World} {its : List (Int × ByteArray)} (h : LeafRow w gb 0 its) (e : w'.heap[gb]? = w.heap[gb]?) : LeafRow w' gb 0 its := by
  intro i x hx
  exact ⟨(h i x hx).1, fun j v hj => (World.cell?_of_block (w := w) (a := ⟨gb, 0 + i * 7 + j, none⟩) e).trans ((h i x hx).2 j v hj)⟩
theorem rowW_length_take (tf tg : ByteArray → ByteArray) (its : List (Int × ByteArray)) (k : Nat) : (rowW tf tg (its.take k)).length ≤ (rowW tf tg its).length := by
  have key : ∀ (l m : List (Int × ByteArray)), (rowW tf tg l).length ≤ (rowW tf tg (l ++ m)).length := by
    intro l
    induction l with
    | nil => intro m; simp [rowW]
    | cons x l ih =>
      intro m
      cases l with
      | nil =>
        cases m with
        | nil => simp
        | cons y m => simp [rowW]
      | cons y l =>
        have := ih m
        simp only [List.cons_append, rowW, List.length_append, List.length_cons] at this ⊢
        omega
  have h := key (its.take k) (its.drop k)
  rwa [List.take_append_drop] at h

theorem ls_ne {its : List (Int × ByteArray)} {k : Nat} (hk : 0 < k) (hn : k < its.length) : its.take k ≠ [] := by
  intro h
  have := congrArg List.length h
  rw [List.length_take, Nat.min_eq_left (by omega)] at this
  simp at this
  omega

set_option maxRecDepth 100000 in
set_option maxHeartbeats 6400000 in
theorem list_any (base b f g gb n c : Nat) (cs : Array Value) (fr : Nat × Nat) (hff : ∀ args w, (callFunc f args).run Tryd.prog w = .ok (.enter f args) w) (hgg : ∀ args w, (callFunc g args).run Tryd.prog w = .ok (.enter g args) w) (tf tg : ByteArray → ByteArray) (its : List (Int × ByteArray)) (hn : its.length = n) (hn9 : n ≤ 1000) (hc : n ≤ c) (hc9 : c ≤ maxLen)
    (hf : ∀ x ∈ its, Tells f x.2 (tf x.2)) (hg : ∀ x ∈ its, Tells g x.2 (tg x.2)) (l : List UInt8) (w : World) (ht : Tab w) (h : Bl base b l w) (hl : l.length + (rowW tf tg its).length < 10000000000) (hb : base ≤ w.heap.size) (h0 : 0 < base)
    (hrow : LeafRow w gb 0 its) (hgb : w.heap[gb]? = some (.cells cs 27 fr)) (hne : gb ≠ b) :
    Calls Tryd.prog 65 #[penV b f g, .agg #[.int .i64 5, .bool false, .slice none 0 0, .bool false, .string ⟨#[]⟩, .slice (some ⟨gb, 0, none⟩) n c, .slice none 0 0]] w fun e w' => e = .returned (.tuple #[]) ∧ Wrote base b (l ++ by8 40 :: (rowW tf tg its ++ [by8 41])) w w' := by
  unfold penV maxLen at *
  have hbw : Below w.heap.size w ((w.alloc (Obj.cells (penC b f g) 64)).alloc (Obj.cells #[.int .i64 5, .bool false, .slice none 0 0, .bool false, .string ⟨#[]⟩, .slice (some ⟨gb, 0, none⟩) n c, .slice none 0 0] 27)) := ((Below.refl w.heap.size w).alloc (Nat.le_refl _) _).alloc (by simp) _
  have hP := (Below.heap_alloc (w.alloc (Obj.cells (penC b f g) 64)) (Obj.cells #[.int .i64 5, .bool false, .slice none 0 0, .bool false, .string ⟨#[]⟩, .slice (some ⟨gb, 0, none⟩) n c, .slice none 0 0] 27) w.heap.size (by simp)).trans (World.alloc_heap_new w _)
  have hD := World.alloc_heap_new (w.alloc (Obj.cells (penC b f g) 64)) (Obj.cells #[.int .i64 5, .bool false, .slice none 0 0, .bool false, .string ⟨#[]⟩, .slice (some ⟨gb, 0, none⟩) n c, .slice none 0 0] 27)
  rw [World.size_alloc] at hD
  have hz : ((w.alloc (Obj.cells (penC b f g) 64)).alloc (Obj.cells #[.int .i64 5, .bool false, .slice none 0 0, .bool false, .string ⟨#[]⟩, .slice (some ⟨gb, 0, none⟩) n c, .slice none 0 0] 27)).heap.size = w.heap.size + 1 + 1 := by rw [World.size_alloc, World.size_alloc]
  have hblt := h.lt
  have hglt : gb < w.heap.size := (Array.getElem?_eq_some_iff.1 hgb).1
  have h2 := h.wrote.alloc hb (Obj.cells (penC b f g) 64)
  have h2 := h2.alloc (by simp; omega) (Obj.cells #[.int .i64 5, .bool false, .slice none 0 0, .bool false, .string ⟨#[]⟩, .slice (some ⟨gb, 0, none⟩) n c, .slice none 0 0] 27)
  have hg2 := (hbw.block gb hglt).trans hgb
  unfold penC at hbw hP hD hz h2 hg2
  go_enter Tryd.func65, Tryd.ntmps65
  go_wp2_with fail
  generalize hW : ((w.alloc (Obj.cells #[.func (.func 46) #[.pointer (some ⟨b, 0, none⟩)] #[], .func (.func 47) #[.pointer (some ⟨b, 0, none⟩)] #[], .func (.func f) #[] #[], .func (.func g) #[] #[]] 64)).alloc (Obj.cells #[.int .i64 5, .bool false, .slice none 0 0, .bool false, .string ⟨#[]⟩, .slice (some ⟨gb, 0, none⟩) n c, .slice none 0 0] 27)) = W2 at *
  refine (putZ base b l _ _ h2.1 (by omega) (by omega) (by omega) (by omega)).mono ?_
  rintro e w3 ⟨rfl, h3⟩
  have P3 := h3.block hP (by omega) (by decide)
  have D3 := h3.block hD (by omega) (by decide)
  have G3 := h3.block hg2 hne (by decide)
  have z3 := h3.size
  have H3 := Lib.hid (h2.trans h3)
  have HH := Lib.hid (And.intro hf (And.intro hg (And.intro hrow (And.intro hgb (And.intro ht hn)))))
  clear hW hP hD hg2 hbw h2 h3 hf hg hrow hgb ht hn h
  have q5 : w3.cell? ⟨w.heap.size + 1, 5, none⟩ = some (.slice (some ⟨gb, 0, none⟩) n c) := by rw [Lib.cell_of_heap D3]; rfl
  go_wp2_with fail
  clear q5
  go_loopw [12] (fun i wr => LsRel base b f g w.heap.size gb n (.slice (some ⟨gb, 0, none⟩) n c) cs fr tf tg l its w i wr) (fun i _ => n - (intOf i).toNat)
  case atStart =>
    refine ⟨0, Nat.zero_le _, rfl, P3, D3, G3, ?_, by omega⟩
    have := H3.out
    simpa [rowW, by8] using this
  case round =>
    obtain ⟨k, hk, rfl, rP, rD, rG, rW, rz⟩ := hrel
    clear P3 D3 G3 z3
    unfold penC at rP
    have hlen := rowW_length_take tf tg its k
    have p0 : wr.cell? ⟨w.heap.size, 0, none⟩ = some (.func (.func 46) #[.pointer (some ⟨b, 0, none⟩)] #[]) := by rw [Lib.cell_of_heap rP]; rfl
    have hbr : base ≤ wr.heap.size := by omega
    by_cases hlt : k < n
    · obtain ⟨x, hx⟩ : ∃ x, its[k]? = some x := ⟨its[k]'(by rw [HH.out.2.2.2.2.2]; exact hlt), List.getElem?_eq_getElem _⟩
      have hrw := leafRow_at HH.out.2.2.1 (rG.trans HH.out.2.2.2.1.symm)
      obtain ⟨hki, hcell⟩ := hrw k x hx
      obtain ⟨ki, s⟩ := x
      have d0 : wr.cell? ⟨gb, 0 + k * 7, none⟩ = some (.int .i64 ki) := hcell 0 _ rfl
      have d1 : wr.cell? ⟨gb, 0 + k * 7 + 1, none⟩ = some (.bool false) := hcell 1 _ rfl
      have d2 : wr.cell? ⟨gb, 0 + k * 7 + 2, none⟩ = some (.slice none 0 0) := hcell 2 _ rfl
      have d3 : wr.cell? ⟨gb, 0 + k * 7 + 3, none⟩ = some (.bool false) := hcell 3 _ rfl
      have d4 : wr.cell? ⟨gb, 0 + k * 7 + 4, none⟩ = some (.string s) := hcell 4 _ rfl
      have d5 : wr.cell? ⟨gb, 0 + k * 7 + 5, none⟩ = some (.slice none 0 0) := hcell 5 _ rfl
      have d6 : wr.cell? ⟨gb, 0 + k * 7 + 6, none⟩ = some (.slice none 0 0) := hcell 6 _ rfl
      rw [Nat.zero_add] at d0 d1 d2 d3 d4 d5 d6
      have hxm := List.mem_of_getElem? hx
      have tk : its.take (k + 1) = its.take k ++ [(ki, s)] := by rw [List.take_add_one, hx]; rfl
      have hlen1 := rowW_length_take tf tg its (k + 1)
      have rWa := rW.alloc hbr (Obj.cells #[.int .i64 ki, .bool false, .slice none 0 0, .bool false, .string s, .slice none 0 0, .slice none 0 0] 27)
      have hba : Below wr.heap.size wr (wr.alloc (Obj.cells #[.int .i64 ki, .bool false, .slice none 0 0, .bool false, .string s, .slice none 0 0, .slice none 0 0] 27)) := (Below.refl _ _).alloc (Nat.le_refl _) _
      have aP := (hba.block w.heap.size (by omega)).trans rP
      have aD := (hba.block (w.heap.size + 1) (by omega)).trans rD
      have aG := (hba.block gb (by omega)).trans rG
      have aI := World.alloc_heap_new wr (Obj.cells #[.int .i64 ki, .bool false, .slice none 0 0, .bool false, .string s, .slice none 0 0, .slice none 0 0] 27)
      have hza : (wr.alloc (Obj.cells #[.int .i64 ki, .bool false, .slice none 0 0, .bool false, .string s, .slice none 0 0, .slice none 0 0] 27)).heap.size = wr.heap.size + 1 := World.size_alloc ..
      have ap0 := (hba.cell (p := ⟨w.heap.size, 0, none⟩) (by show w.heap.size < wr.heap.size; omega)).trans p0
      have hbB : b < wr.heap.size := by omega
      clear hba rP rD rG hcell
      by_cases hk0 : k = 0
      · subst hk0
        have HA := Lib.hid (And.intro aP (And.intro aD (And.intro aG (And.intro aI (And.intro rWa (And.intro tk (And.intro hki hxm)))))))
        have c0 : (wr.alloc (Obj.cells #[.int .i64 ki, .bool false, .slice none 0 0, .bool false, .string s, .slice none 0 0, .slice none 0 0] 27)).cell? ⟨w.heap.size, 1, none⟩ = some (.func (.func 47) #[.pointer (some ⟨b, 0, none⟩)] #[]) := by rw [Lib.cell_of_heap aP]; rfl
        have c2 : (wr.alloc (Obj.cells #[.int .i64 ki, .bool false, .slice none 0 0, .bool false, .string s, .slice none 0 0, .slice none 0 0] 27)).cell? ⟨w.heap.size, 2, none⟩ = some (.func (.func f) #[] #[]) := by rw [Lib.cell_of_heap aP]; rfl
        have c3 : (wr.alloc (Obj.cells #[.int .i64 ki, .bool false, .slice none 0 0, .bool false, .string s, .slice none 0 0, .slice none 0 0] 27)).cell? ⟨w.heap.size, 3, none⟩ = some (.func (.func g) #[] #[]) := by rw [Lib.cell_of_heap aP]; rfl
        clear aP aD aG aI rWa tk rW hx hxm hki
        go_wp2_with fail
        refine (one_leaf base b f g hff hgg tf tg (ki, s) HA.out.2.2.2.2.2.2.1 (HH.out.1 _ HA.out.2.2.2.2.2.2.2) (HH.out.2.1 _ HA.out.2.2.2.2.2.2.2) _ _ (HH.out.2.2.2.2.1.low HA.out.2.2.2.2.1.2.1 h0) HA.out.2.2.2.2.1.1 (by rw [HA.out.2.2.2.2.2.1] at hlen1; simp [rowW] at hlen1 ⊢; omega) (by omega)).mono ?_
        rintro e w4 ⟨rfl, h4⟩
        have hnx : LsRel base b f g w.heap.size gb n (.slice (some ⟨gb, 0, none⟩) n c) cs fr tf tg l its w (.int .i64 1) w4 := by
          refine ⟨1, by omega, rfl, h4.block HA.out.1 (by omega) (by decide), h4.block HA.out.2.1 (by omega) (by decide), h4.block HA.out.2.2.1 hne (by decide), ?_, by have := h4.size; omega⟩
          have := HA.out.2.2.2.2.1.trans h4
          rw [show its.take 1 = its.take (0 + 1) from rfl, HA.out.2.2.2.2.2.1]
          simpa [rowW] using this
        have HN := Lib.hid hnx
        clear hnx c0 c2 c3
        go_wp2_with fail
        go_roundw
        case rel => exact HN.out
        case measure => simp [intOf]; omega
      · have hkp : 0 < k := by omega
        have HA := Lib.hid (And.intro aP (And.intro aD (And.intro aG (And.intro aI (And.intro rWa (And.intro tk (And.intro hki hxm)))))))
        clear aP aD aG aI rWa tk rW hx hxm hki hk0
        go_wp2_with fail
        refine (putZ base b _ _ _ HA.out.2.2.2.2.1.1 (by simp only [List.length_append, List.length_cons]; omega) (by omega) (by omega) (by omega)).mono ?_
        rintro e w5 ⟨rfl, h5⟩
        have z5 := h5.size
        have bP := h5.block HA.out.1 (by omega) (by decide)
        have bI := h5.block HA.out.2.2.2.1 (by omega) (by decide)
        have hps := fun j => Lib.cell_of_heap bP j
        have y0 := hps 0; have y1 := hps 1; have y2 := hps 2; have y3 := hps 3
        have his := fun j => Lib.cell_of_heap bI j
        have i0 := his 0; have i1 := his 1; have i2 := his 2; have i3 := his 3; have i4 := his 4; have i5 := his 5; have i6 := his 6
        simp only [List.getElem?_toArray, List.getElem?_cons_zero, List.getElem?_cons_succ] at y0 y1 y2 y3 i0 i1 i2 i3 i4 i5 i6
        have H5 := Lib.hid h5
        clear hps his bP bI h5
        go_wp2_with fail
        refine (one_leaf base b f g hff hgg tf tg (ki, s) HA.out.2.2.2.2.2.2.1 (HH.out.1 _ HA.out.2.2.2.2.2.2.2) (HH.out.2.1 _ HA.out.2.2.2.2.2.2.2) _ _ (HH.out.2.2.2.2.1.low (HA.out.2.2.2.2.1.trans H5.out).2.1 h0) H5.out.1 (by rw [HA.out.2.2.2.2.2.1, rowW_snoc _ _ _ _ (ls_ne hkp (by rw [HH.out.2.2.2.2.2]; exact hlt))] at hlen1; simp only [List.length_append, List.length_cons, List.length_nil] at hlen1 ⊢; omega) (by omega)).mono ?_
        rintro e w4 ⟨rfl, h4⟩
        have hnx : LsRel base b f g w.heap.size gb n (.slice (some ⟨gb, 0, none⟩) n c) cs fr tf tg l its w (.int .i64 (k + 1)) w4 := by
          refine ⟨k + 1, by omega, by simp, h4.block (H5.out.block HA.out.1 (by omega) (by decide)) (by omega) (by decide), h4.block (H5.out.block HA.out.2.1 (by omega) (by decide)) (by omega) (by decide), h4.block (H5.out.block HA.out.2.2.1 hne (by decide)) hne (by decide), ?_, by have := h4.size; omega⟩
          have := (HA.out.2.2.2.2.1.trans H5.out).trans h4
          rw [HA.out.2.2.2.2.2.1, rowW_snoc _ _ _ _ (ls_ne hkp (by rw [HH.out.2.2.2.2.2]; exact hlt))]
          simpa [by8] using this
        have HN := Lib.hid hnx
        clear hnx y0 y1 y2 y3 i0 i1 i2 i3 i4 i5 i6
        go_wp2_with fail
        go_roundw
        case rel => exact HN.out
        case measure => simp [intOf]; omega
    · obtain rfl : k = n := by omega
      have q6 : wr.cell? ⟨w.heap.size + 1, 6, none⟩ = some (.slice none 0 0) := by rw [Lib.cell_of_heap rD]; rfl
      have HW := Lib.hid rW
      clear rP rD rG rW
      go_wp2_with fail
      refine (putZ base b _ _ _ HW.out.1 (by simp only [List.length_append, List.length_cons]; omega) (by omega) (by omega) (by omega)).mono ?_
      rintro e w4 ⟨rfl, h4⟩
      go_wp2_with fail
      go_end0
      refine ⟨rfl, ?_⟩
      have := HW.out.trans h4
      rw [List.take_of_length_le (by rw [HH.out.2.2.2.2.2]; exact Nat.le_refl _)] at this
      simpa [by8] using this
end Go.Proofs.YtgfamihldecmbaaDoor
