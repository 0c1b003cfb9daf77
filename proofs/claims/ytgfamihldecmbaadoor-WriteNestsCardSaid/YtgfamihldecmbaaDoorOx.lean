/-
  write.Write and write.Display of any light tree; what light says.
-/
import Derived.Test.YtgfamihldecmbaaDoorOw
import Derived.Test.YtgfamihldecmbaaDoorLight
import Derived.Test.YtgfamihldecmbaaDoorFrameS
namespace Go.Proofs.YtgfamihldecmbaaDoor
open Go.RowKit

theorem nm_size (s : ByteArray) : (nameS s).size ≤ 5 * s.size + 2 := by
  unfold nameS
  have h := escs_length 124 s.data.toList
  have e : s.data.toList.length = s.size := Array.length_toList
  split
  · omega
  · show (betw 124 s.data.toList).toArray.size ≤ _
    rw [List.size_toArray]
    simp only [betw, List.length_cons, List.length_append, List.length_nil]; omega
theorem qu_size (s : ByteArray) : (quoS s).size ≤ 5 * s.size + 2 := by
  have h := escs_length 34 s.data.toList
  have e : s.data.toList.length = s.size := Array.length_toList
  show (betw 34 s.data.toList).toArray.size ≤ _
  rw [List.size_toArray]
  simp only [betw, List.length_cons, List.length_append, List.length_nil]; omega

mutual
theorem allL_lies {w : World} {M : Nat} {p : Int → List Nat → ByteArray → Prop} : ∀ (t : LT) (b o : Nat), Lies w M t b o → (∀ x ∈ allT t, Ok x.ys → x.ln = x.ys.length → p x.k x.ys x.s) → AllL p t
  | .mk k g la ln lc ys bb s ia ic items ta tc tail, b, o, h, hp => by
    simp only [Lies] at h
    simp only [AllL]
    have h0 := hp (.mk k g la ln lc ys bb s ia ic items ta tc tail) (by simp [allT]) h.2.2.1.1.ok h.2.2.1.1.len
    exact ⟨⟨h.2.2.1.1.ok, h0⟩, allLR_lies items _ _ h.2.2.2.2.2.1 (fun x hx => hp x (by simp [allT, hx])), allLR_lies tail _ _ h.2.2.2.2.2.2 (fun x hx => hp x (by simp [allT, hx]))⟩
theorem allLR_lies {w : World} {M : Nat} {p : Int → List Nat → ByteArray → Prop} : ∀ (l : List LT) (b o : Nat), LiesR w M l b o → (∀ x ∈ allR l, Ok x.ys → x.ln = x.ys.length → p x.k x.ys x.s) → AllLR p l
  | [], _, _, _, _ => by simp [AllLR]
  | t :: l, b, o, h, hp => by
    simp only [LiesR] at h
    simp only [AllLR]
    exact ⟨allL_lies t _ _ h.1 (fun x hx => hp x (by simp [allR, hx])), allLR_lies l _ _ h.2 (fun x hx => hp x (by simp [allR, hx]))⟩
end
theorem allL_held {w : World} {M : Nat} {p : Int → List Nat → ByteArray → Prop} (t : LT) (h : Held w M t) (hp : ∀ x ∈ allT t, Ok x.ys → x.ln = x.ys.length → p x.k x.ys x.s) : AllL p t := by
  cases t with
  | mk k g la ln lc ys bb s ia ic items ta tc tail =>
    simp only [AllL]
    have h0 := hp (.mk k g la ln lc ys bb s ia ic items ta tc tail) (by simp [allT]) h.1.1.ok h.1.1.len
    exact ⟨⟨h.1.1.ok, h0⟩, allLR_lies items _ _ h.2.2.2.1 (fun x hx => hp x (by simp [allT, hx])), allLR_lies tail _ _ h.2.2.2.2 (fun x hx => hp x (by simp [allT, hx]))⟩
mutual
theorem tame_all : ∀ t : LT, (∀ x ∈ allT t, x.ln ≤ 1000) → Tame t
  | .mk k g la ln lc ys bb s ia ic items ta tc tail, h => by
    simp only [Tame]
    exact ⟨h (.mk k g la ln lc ys bb s ia ic items ta tc tail) (by simp [allT]), tameR_all items (fun x hx => h x (by simp [allT, hx])), tameR_all tail (fun x hx => h x (by simp [allT, hx]))⟩
theorem tameR_all : ∀ l : List LT, (∀ x ∈ allR l, x.ln ≤ 1000) → TameR l
  | [], _ => by simp [TameR]
  | t :: l, h => by
    simp only [TameR]
    exact ⟨tame_all t (fun x hx => h x (by simp [allR, hx])), tameR_all l (fun x hx => h x (by simp [allR, hx]))⟩
end
/-- What light of pavanelaw04 says. -/
theorem light_says {w : World} {M : Nat} (t : LT) (hH : Held w M t) (h : lightB t = true) : t.size ≤ 400 ∧ t.depth ≤ 60 ∧ Tame t ∧ AllL pB t ∧ ∀ x ∈ allT t, x.ln ≤ 80 ∧ x.s.size ≤ 1100 := by
  unfold lightB at h
  simp only [Bool.and_eq_true, decide_eq_true_eq, List.all_eq_true] at h
  have h1 := budT_few t 400 60 (by decide) h.1
  have h2 := h.2
  have h3 : ∀ x ∈ allT t, x.ln ≤ 80 ∧ x.s.size ≤ 1100 := fun x hx => by
    have := h2 x hx
    simpa [lightX] using this
  have h4 := h.1
  refine ⟨by omega, by omega, tame_all t (fun x hx => by have := (h3 x hx).1; omega), allL_held t hH (fun x hx ok hl => ⟨ok, by have := (h3 x hx).1; omega, (h3 x hx).2⟩), h3⟩

set_option maxRecDepth 100000 in
set_option maxHeartbeats 1600000 in
theorem write_tree (M : Nat) (t : LT) (h1 : t.size ≤ 1000) (h2 : t.depth ≤ 10000) (hT : Tame t) (hA : AllL pB t) (w : World) (ht : Tab w) (hM : M ≤ w.heap.size) (hH : Held w M t) :
    Calls Tryd.prog 12 #[.agg #[.int .i64 t.k, .bool t.g, .slice t.la t.ln t.lc, .bool t.bb, .string t.s, .slice t.ia t.items.length t.ic, .slice t.ta t.tail.length t.tc]] w fun e w' => e = .returned (.string ⟨(wD nameS quoS (normT t)).toArray⟩) ∧ Below w.heap.size w w' := by
  have hb : ∀ o, Below w.heap.size w (w.alloc o) := fun o => (Below.refl _ _).alloc (Nat.le_refl _) o
  have hw := fun o => written_tree M 18 20 (enters_of Tryd.func18 (by kernel_rfl) rfl) (enters_of Tryd.func20 (by kernel_rfl) rfl) nameS quoS (fun s hs => tells_name s (by omega)) (fun s hs => tells_quote s (by omega)) (fun s hs => by have := nm_size s; show (nameS s).data.toList.length ≤ _; rw [Array.length_toList]; show (nameS s).size ≤ _; omega) (fun s hs => by have := qu_size s; show (quoS s).data.toList.length ≤ _; rw [Array.length_toList]; show (quoS s).size ≤ _; omega) t h1 h2 hT hA (w.alloc o) (ht.below (hb o)) (by simp; omega) (hH.below hM (hb o))
  have HW := Lib.hid (And.intro hw hb)
  clear hw hb ht hH hT hA
  generalize wD nameS quoS (normT t) = out at *
  go_enter Tryd.func12, Tryd.ntmps12
  go_wp2_with fail
  refine (HW.out.1 _).mono ?_
  rintro e w1 ⟨rfl, b1⟩
  go_wp2_with fail
  go_ret
  exact ⟨rfl, (HW.out.2 _).trans (b1.mono (by simp))⟩

set_option maxRecDepth 100000 in
set_option maxHeartbeats 1600000 in
theorem display_tree (M : Nat) (t : LT) (h1 : t.size ≤ 1000) (h2 : t.depth ≤ 10000) (hT : Tame t) (hA : AllL pB t) (w : World) (ht : Tab w) (hM : M ≤ w.heap.size) (hH : Held w M t) :
    Calls Tryd.prog 14 #[.agg #[.int .i64 t.k, .bool t.g, .slice t.la t.ln t.lc, .bool t.bb, .string t.s, .slice t.ia t.items.length t.ic, .slice t.ta t.tail.length t.tc]] w fun e w' => e = .returned (.string ⟨(wD id id (normT t)).toArray⟩) ∧ Below w.heap.size w w' := by
  have hb : ∀ o, Below w.heap.size w (w.alloc o) := fun o => (Below.refl _ _).alloc (Nat.le_refl _) o
  have hi : ∀ s : ByteArray, s.size ≤ 1100 → (id s).data.toList.length ≤ 30000 := fun s hs => by show s.data.toList.length ≤ _; rw [Array.length_toList]; show s.size ≤ _; omega
  have hw := fun o => written_tree M 31 31 (enters_of Tryd.func31 (by kernel_rfl) rfl) (enters_of Tryd.func31 (by kernel_rfl) rfl) id id (fun s _ => tells_as s) (fun s _ => tells_as s) hi hi t h1 h2 hT hA (w.alloc o) (ht.below (hb o)) (by simp; omega) (hH.below hM (hb o))
  have HW := Lib.hid (And.intro hw hb)
  clear hw hb ht hH hT hA hi
  generalize wD id id (normT t) = out at *
  go_enter Tryd.func14, Tryd.ntmps14
  go_wp2_with fail
  refine (HW.out.1 _).mono ?_
  rintro e w1 ⟨rfl, b1⟩
  go_wp2_with fail
  go_ret
  exact ⟨rfl, (HW.out.2 _).trans (b1.mono (by simp))⟩

/-- A variable's block holds the datum. -/
structure VarD (w : World) (g : Nat) (t : LT) : Prop where
  at_ : w.heap[g]? = some (Obj.cells #[.int .i64 t.k, .bool t.g, .slice t.la t.ln t.lc, .bool t.bb, .string t.s, .slice t.ia t.items.length t.ic, .slice t.ta t.tail.length t.tc] 27)
theorem VarD.next {w w' : World} {g : Nat} {t : LT} (h : VarD w g t) (hb : Below w.heap.size w w') : VarD w' g t := ⟨(hb.block g (Array.getElem?_eq_some_iff.1 h.at_).1).trans h.at_⟩
theorem VarD.drew {w : World} {g : Nat} {t : LT} (h : VarD w g t) : VarD w.drew g t := ⟨h.at_⟩
theorem VarD.c {w : World} {g : Nat} {t : LT} (h : VarD w g t) : w.cell? ⟨g, 0, none⟩ = some (.int .i64 t.k) ∧ w.cell? ⟨g, 1, none⟩ = some (.bool t.g) ∧ w.cell? ⟨g, 2, none⟩ = some (.slice t.la t.ln t.lc) ∧ w.cell? ⟨g, 3, none⟩ = some (.bool t.bb) ∧ w.cell? ⟨g, 4, none⟩ = some (.string t.s) ∧ w.cell? ⟨g, 5, none⟩ = some (.slice t.ia t.items.length t.ic) ∧ w.cell? ⟨g, 6, none⟩ = some (.slice t.ta t.tail.length t.tc) := by
  refine ⟨?_, ?_, ?_, ?_, ?_, ?_, ?_⟩ <;> (rw [Lib.cell_of_heap h.at_]; rfl)
theorem VarD.new (w : World) (t : LT) : VarD (w.alloc (Obj.cells #[.int .i64 t.k, .bool t.g, .slice t.la t.ln t.lc, .bool t.bb, .string t.s, .slice t.ia t.items.length t.ic, .slice t.ta t.tail.length t.tc] 27)) w.heap.size t := ⟨World.alloc_heap_new w _⟩
theorem Held.up {w w' : World} {t : LT} (h : Held w w.heap.size t) (hb : Below w.heap.size w w') : Held w' w.heap.size t := h.below (Nat.le_refl _) hb
end Go.Proofs.YtgfamihldecmbaaDoor
