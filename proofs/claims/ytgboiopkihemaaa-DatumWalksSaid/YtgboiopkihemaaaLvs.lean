/-
  lives of pavanelaw03.
-/
import Derived.Test.YtgboiopkihemaaaTmd
namespace Go.Proofs.Ytgboiopkihemaaa
open Go.RowKit

theorem npost_held {d : DT} {w w' : World} {e : Ending} (h : NPost d w e w') : ∃ u : LT, e = .returned (.agg #[.int .i64 u.k, .bool u.g, .slice u.la u.ln u.lc, .bool u.bb, .string u.s, .slice u.ia u.items.length u.ic, .slice u.ta u.tail.length u.tc]) ∧ Held w' w'.heap.size u ∧ shape u = d ∧ Below w.heap.size w w' := by
  obtain ⟨u, h1, h2, h3, h4⟩ := h
  exact ⟨u, h1, h2.held fun k hk => hk.lt, h3, h4⟩
/-- A number's datum: nothing in it. -/
def NumT (u : LT) : Prop := u.k = 1 ∧ u.items = [] ∧ u.tail = [] ∧ u.ln ≤ 1000
theorem numT_of {u : LT} {g bb : Bool} {ys : List Nat} {s : ByteArray} {w : World} {M : Nat} (h : shape u = .mk 1 g ys bb s [] []) (hy : ys.length ≤ 1000) (hH : Held w M u) : NumT u := by
  rw [shape_eq] at h
  injection h with a1 a2 a3 a4 a5 a6 a7
  refine ⟨a1, List.length_eq_zero_iff.1 (by rw [← shapes_length, a6]; rfl), List.length_eq_zero_iff.1 (by rw [← shapes_length, a7]; rfl), ?_⟩
  have := hH.1.1.len
  rw [a3] at this
  omega
theorem NumT.size {u : LT} (h : NumT u) : u.size = 1 := by rw [u.size_eq, h.2.1, h.2.2.1]; rfl
theorem NumT.depth {u : LT} (h : NumT u) : u.depth = 1 := by rw [u.depth_eq, h.2.1, h.2.2.1]; rfl
theorem NumT.tame {u : LT} (h : NumT u) : Tame u := (tame_eq u).2 ⟨h.2.2.2, by rw [h.2.1]; simp [TameR], by rw [h.2.2.1]; simp [TameR]⟩
theorem num_lives (i : Int) (w : World) (h0 : 0 ≤ i) (h1 : i ≤ 3) : Calls Try.prog 38 #[.int .i64 i] w fun e w' => ∃ u : LT, e = .returned (.agg #[.int .i64 u.k, .bool u.g, .slice u.la u.ln u.lc, .bool u.bb, .string u.s, .slice u.ia u.items.length u.ic, .slice u.ta u.tail.length u.tc]) ∧ Held w' w'.heap.size u ∧ NumT u ∧ Below w.heap.size w w' := by
  refine (number_any i w (by omega) (by omega)).mono ?_
  rintro e w' h
  obtain ⟨u, h1, h2, h3, h4⟩ := npost_held h
  refine ⟨u, h1, h2, numT_of h3 ?_ h2, h4⟩
  rcases (show i = 0 ∨ i = 1 ∨ i = 2 ∨ i = 3 by omega) with rfl | rfl | rfl | rfl <;> decide

theorem items_row (D : Nat) (l : List LT) (W : World) {T : TypeId} {fr : Nat × Nat} (h : W.heap[D]? = some (.cells (cellsAll l).toArray T fr)) (hn : l.length ≤ 100) (hl : ∀ x ∈ l, Held W D x) (hT : TameR l) (hs : sizes l ≤ 10000) (hd : depths l ≤ 10000) :
    Calls Try.prog 39 #[.slice (some ⟨D, 0, none⟩) l.length l.length] W fun e w' => ∃ u : LT, e = .returned (.agg #[.int .i64 u.k, .bool u.g, .slice u.la u.ln u.lc, .bool u.bb, .string u.s, .slice u.ia u.items.length u.ic, .slice u.ta u.tail.length u.tc]) ∧ Held w' w'.heap.size u ∧ shape u = shape (rowL (some ⟨D, 0, none⟩) l.length l) ∧ Tame u ∧ Below W.heap.size W w' := by
  have hz : D + 1 ≤ W.heap.size := (Array.getElem?_eq_some_iff.1 h).1
  have hH := rowL_held (Nat.le_refl D) h hn hl
  have hTm := (rowL_tame (some ⟨D, 0, none⟩) l.length l).2 hT
  refine (items_any (D + 1) (some ⟨D, 0, none⟩) l.length l (by rw [rowL_size]; omega) (by rw [rowL_depth]; omega) hTm W hz hH).mono ?_
  rintro e w' hp
  obtain ⟨u, h1, h2, h3, h4⟩ := npost_held hp
  exact ⟨u, h1, h2, h3, tame_same hH h2 h3 hTm, h4⟩
/-- Of a made list: what is known of it. -/
theorem list_of {u : LT} {a : Option Addr} {c : Nat} {l : List LT} (h : shape u = shape (rowL a c l)) : u.k = 5 ∧ u.items.length = l.length ∧ u.tail = [] ∧ u.size = 1 + sizes l ∧ u.depth = 1 + depths l := by
  have h1 := size_same h
  have h2 := depth_same h
  rw [rowL_size] at h1
  rw [rowL_depth] at h2
  rw [shape_eq, shape_eq] at h
  injection h with a1 a2 a3 a4 a5 a6 a7
  refine ⟨a1, by rw [← shapes_length, a6, shapes_length]; rfl, List.length_eq_zero_iff.1 (by rw [← shapes_length, a7, shapes_length]; rfl), h1, h2⟩
theorem norm_len {u t : LT} {d : DT} {k : Int} {g bb : Bool} {ys : List Nat} {s : ByteArray} {m n : List DT} (h : shape u = d) (hd : d = .mk k g ys bb s m n) : u.items.length = m.length ∧ u.tail.length = n.length := by
  rw [hd, shape_eq] at h
  injection h with a1 a2 a3 a4 a5 a6 a7
  exact ⟨by rw [← shapes_length, a6], by rw [← shapes_length, a7]⟩
theorem normR_length (l : List LT) : (normR l).length = l.length := by
  induction l with
  | nil => simp [normR_nil]
  | cons t l ih => simp [normR_cons, ih]
/-- A number ahead of a list of so many. -/
theorem pair_list {D : Nat} {a b u : LT} (hb : b.k = 5) (ht : b.tail = []) (h : shape u = normT (pairT D a b)) : u.items.length = b.items.length + 1 ∧ u.tail.length = 0 := by
  have e : normT (pairT D a b) = .mk 5 false [] false ⟨#[]⟩ (normT a :: normR b.items) [] := by
    rw [normT_list _ (by rfl)]
    show closeD (normR [a] ++ (spineR [b]).1, (spineR [b]).2) = _
    rw [normR_cons, normR_nil, spineR_cons, spineT_eq, if_pos hb, ht, spineR_nil]
    simp [closeD]
  have h2 := norm_len (t := u) h e
  refine ⟨by rw [h2.1, List.length_cons, normR_length], h2.2⟩
theorem pair_num {D : Nat} {a b u : LT} (hb : b.k = 1) (h : shape u = normT (pairT D a b)) : u.items.length = 1 ∧ u.tail.length = 1 := by
  have e : normT (pairT D a b) = .mk 5 false [] false ⟨#[]⟩ [normT a] [leafD b.k b.g b.ys b.bb b.s] := by
    rw [normT_list _ (by rfl)]
    show closeD (normR [a] ++ (spineR [b]).1, (spineR [b]).2) = _
    rw [normR_cons, normR_nil, spineR_cons, spineT_eq, if_neg (by omega)]
    simp [closeD]
  exact norm_len (t := u) h e
theorem pair_lives (a b : LT) (w : World) (ha : Held w w.heap.size a) (hb : Held w w.heap.size b) (hs : a.size + b.size ≤ 9000) (da : a.depth ≤ 9000) (db : b.depth ≤ 9000) (ta : Tame a) (tb : Tame b) :
    Calls Try.prog 13 #[.agg #[.int .i64 a.k, .bool a.g, .slice a.la a.ln a.lc, .bool a.bb, .string a.s, .slice a.ia a.items.length a.ic, .slice a.ta a.tail.length a.tc], .agg #[.int .i64 b.k, .bool b.g, .slice b.la b.ln b.lc, .bool b.bb, .string b.s, .slice b.ia b.items.length b.ic, .slice b.ta b.tail.length b.tc]] w fun e w' => ∃ u : LT, e = .returned (.agg #[.int .i64 u.k, .bool u.g, .slice u.la u.ln u.lc, .bool u.bb, .string u.s, .slice u.ia u.items.length u.ic, .slice u.ta u.tail.length u.tc]) ∧ shape u = normT (pairT w.heap.size a b) ∧ Below w.heap.size w w' := by
  refine (pair_any w.heap.size a b w (Nat.le_refl _) ha hb (by omega) da db ta tb).mono ?_
  rintro e w' hp
  obtain ⟨u, h1, _, h3, h4⟩ := npost_held hp
  exact ⟨u, h1, h3, h4⟩

theorem pair_three (a b : LT) (w : World) (ha : Held w w.heap.size a) (hb : Held w w.heap.size b) (na : NumT a) (kb : b.k = 5) (lb : b.items.length = 2) (eb : b.tail = []) (hs : b.size ≤ 100) (db : b.depth ≤ 100) (tb : Tame b) :
    Calls Try.prog 13 #[.agg #[.int .i64 a.k, .bool a.g, .slice a.la a.ln a.lc, .bool a.bb, .string a.s, .slice a.ia a.items.length a.ic, .slice a.ta a.tail.length a.tc], .agg #[.int .i64 b.k, .bool b.g, .slice b.la b.ln b.lc, .bool b.bb, .string b.s, .slice b.ia b.items.length b.ic, .slice b.ta b.tail.length b.tc]] w fun e w' => ∃ k g la ln lc bb s ia ic ta tc, e = .returned (.agg #[.int .i64 k, .bool g, .slice la ln lc, .bool bb, .string s, .slice ia 3 ic, .slice ta 0 tc]) ∧ Below w.heap.size w w' := by
  refine (pair_lives a b w ha hb (by rw [na.size]; omega) (by rw [na.depth]; omega) (by omega) na.tame tb).mono ?_
  rintro e w' ⟨u, rfl, h, hb'⟩
  obtain ⟨h1, h2⟩ := pair_list kb eb h
  rw [lb] at h1
  exact ⟨_, _, _, _, _, _, _, _, _, _, _, by rw [h1, h2], hb'⟩
theorem pair_one (a b : LT) (w : World) (ha : Held w w.heap.size a) (hb : Held w w.heap.size b) (na : NumT a) (nb : NumT b) :
    Calls Try.prog 13 #[.agg #[.int .i64 a.k, .bool a.g, .slice a.la a.ln a.lc, .bool a.bb, .string a.s, .slice a.ia a.items.length a.ic, .slice a.ta a.tail.length a.tc], .agg #[.int .i64 b.k, .bool b.g, .slice b.la b.ln b.lc, .bool b.bb, .string b.s, .slice b.ia b.items.length b.ic, .slice b.ta b.tail.length b.tc]] w fun e w' => ∃ k g la ln lc bb s ia ic ta tc, e = .returned (.agg #[.int .i64 k, .bool g, .slice la ln lc, .bool bb, .string s, .slice ia 1 ic, .slice ta 1 tc]) ∧ Below w.heap.size w w' := by
  refine (pair_lives a b w ha hb (by rw [na.size, nb.size]; omega) (by rw [na.depth]; omega) (by rw [nb.depth]; omega) na.tame nb.tame).mono ?_
  rintro e w' ⟨u, rfl, h, hb'⟩
  obtain ⟨h1, h2⟩ := pair_num nb.1 h
  exact ⟨_, _, _, _, _, _, _, _, _, _, _, by rw [h1, h2], hb'⟩
theorem items_two (x y : LT) (w : World) (hx : Held w w.heap.size x) (hy : Held w w.heap.size y) (tx : Tame x) (ty : Tame y) (hs : x.size + y.size ≤ 100) (dx : x.depth ≤ 100) (dy : y.depth ≤ 100) :
    Calls Try.prog 39 #[.slice (some ⟨w.heap.size, 0, none⟩) 2 2] (w.alloc (.cells #[.int .i64 x.k, .bool x.g, .slice x.la x.ln x.lc, .bool x.bb, .string x.s, .slice x.ia x.items.length x.ic, .slice x.ta x.tail.length x.tc, .int .i64 y.k, .bool y.g, .slice y.la y.ln y.lc, .bool y.bb, .string y.s, .slice y.ia y.items.length y.ic, .slice y.ta y.tail.length y.tc] 27)) fun e w' =>
      ∃ u : LT, e = .returned (.agg #[.int .i64 u.k, .bool u.g, .slice u.la u.ln u.lc, .bool u.bb, .string u.s, .slice u.ia u.items.length u.ic, .slice u.ta u.tail.length u.tc]) ∧ Held w' w'.heap.size u ∧ u.k = 5 ∧ u.items.length = 2 ∧ u.tail = [] ∧ u.size = 1 + (x.size + y.size) ∧ u.depth ≤ 1 + max x.depth y.depth ∧ Tame u ∧ Below w.heap.size w w' := by
  have hb : Below w.heap.size w (w.alloc (.cells #[.int .i64 x.k, .bool x.g, .slice x.la x.ln x.lc, .bool x.bb, .string x.s, .slice x.ia x.items.length x.ic, .slice x.ta x.tail.length x.tc, .int .i64 y.k, .bool y.g, .slice y.la y.ln y.lc, .bool y.bb, .string y.s, .slice y.ia y.items.length y.ic, .slice y.ta y.tail.length y.tc] 27)) := (Below.refl _ w).alloc (Nat.le_refl _) _
  refine (items_row w.heap.size [x, y] _ (World.alloc_heap_new w _) (by simp) (fun z hz => ?_) (by simp [TameR, tx, ty]) (by simp only [sizes]; omega) (by simp only [depths]; omega)).mono ?_
  · simp only [List.mem_cons, List.not_mem_nil, or_false] at hz
    rcases hz with rfl | rfl
    · exact hx.below (Nat.le_refl _) hb
    · exact hy.below (Nat.le_refl _) hb
  · rintro e w' ⟨u, rfl, h1, h2, h3, h4⟩
    obtain ⟨a1, a2, a3, a4, a5⟩ := list_of h2
    exact ⟨u, rfl, h1, a1, a2, a3, by rw [a4]; simp [sizes], by rw [a5]; simp only [depths]; omega, h3, hb.trans (h4.mono hb.size)⟩
theorem items_one (x : LT) (w : World) (hx : Held w w.heap.size x) (tx : Tame x) (hs : x.size ≤ 100) (dx : x.depth ≤ 50) :
    Calls Try.prog 39 #[.slice (some ⟨w.heap.size, 0, none⟩) 1 1] (w.alloc (Obj.cells #[.int .i64 x.k, .bool x.g, .slice x.la x.ln x.lc, .bool x.bb, .string x.s, .slice x.ia x.items.length x.ic, .slice x.ta x.tail.length x.tc] 27)) fun e w' =>
      ∃ u : LT, e = .returned (.agg #[.int .i64 u.k, .bool u.g, .slice u.la u.ln u.lc, .bool u.bb, .string u.s, .slice u.ia u.items.length u.ic, .slice u.ta u.tail.length u.tc]) ∧ Held w' w'.heap.size u ∧ u.size = 1 + x.size ∧ u.depth ≤ 51 ∧ Tame u ∧ Below w.heap.size w w' := by
  have hb : Below w.heap.size w (w.alloc (Obj.cells #[.int .i64 x.k, .bool x.g, .slice x.la x.ln x.lc, .bool x.bb, .string x.s, .slice x.ia x.items.length x.ic, .slice x.ta x.tail.length x.tc] 27)) := (Below.refl _ w).alloc (Nat.le_refl _) _
  refine (items_row w.heap.size [x] _ (World.alloc_heap_new w _) (by simp) (fun z hz => ?_) (by simp [TameR, tx]) (by simp only [sizes]; omega) (by simp only [depths]; omega)).mono ?_
  · simp only [List.mem_cons, List.not_mem_nil, or_false] at hz
    rw [hz]
    exact hx.below (Nat.le_refl _) hb
  · rintro e w' ⟨u, rfl, h1, h2, h3, h4⟩
    obtain ⟨a1, a2, a3, a4, a5⟩ := list_of h2
    exact ⟨u, rfl, h1, by rw [a4]; simp [sizes], by rw [a5]; simp only [depths]; omega, h3, hb.trans (h4.mono hb.size)⟩
theorem size_four (t : LT) (w : World) (h : Held w w.heap.size t) (h4 : t.size = 4) (hd : t.depth ≤ 101) : Calls Try.prog 17 #[.agg #[.int .i64 t.k, .bool t.g, .slice t.la t.ln t.lc, .bool t.bb, .string t.s, .slice t.ia t.items.length t.ic, .slice t.ta t.tail.length t.tc]] w fun e w' => e = .returned (.int .i64 4) ∧ Below w.heap.size w w' := by
  have := size_any t w.heap.size w h (Nat.le_refl _) (by omega) (by omega)
  rw [h4] at this
  exact this
/-- It lies there still. -/
theorem Held.on {w w' : World} {t : LT} (h : Held w w.heap.size t) (hb : Below w.heap.size w w') : Held w' w'.heap.size t := (h.below (Nat.le_refl _) hb).upP hb.size

set_option maxRecDepth 100000 in
set_option maxHeartbeats 6400000 in
theorem lives3_yes (w : World) : Calls Try.prog 11 #[] w fun e w' => e = .returned (.bool true) ∧ Below w.heap.size w w' := by
  have HN := Lib.hid num_lives
  go_enter Try.func11, Try.ntmps11
  go_wp2_with fail
  refine (HN.out 1 w (by decide) (by decide)).mono ?_
  rintro e w1 ⟨u1, rfl, hu1, hn1, b1⟩
  have H1 := Lib.hid (And.intro hu1 (And.intro hn1 b1))
  clear hu1 hn1 b1
  go_wp2_with fail
  refine (HN.out 2 w1 (by decide) (by decide)).mono ?_
  rintro e w2 ⟨u2, rfl, hu2, hn2, b2⟩
  have H2 := Lib.hid (And.intro hu2 (And.intro hn2 b2))
  clear hu2 hn2 b2
  go_wp2_with fail
  refine (HN.out 3 w2 (by decide) (by decide)).mono ?_
  rintro e w3 ⟨u3, rfl, hu3, hn3, b3⟩
  have H3 := Lib.hid (And.intro hu3 (And.intro hn3 b3))
  clear hu3 hn3 b3
  go_wp2_with fail
  refine (items_two u2 u3 w3 (H2.out.1.on H3.out.2.2) H3.out.1 H2.out.2.1.tame H3.out.2.1.tame (by rw [H2.out.2.1.size, H3.out.2.1.size]; decide) (by rw [H2.out.2.1.depth]; decide) (by rw [H3.out.2.1.depth]; decide)).mono ?_
  rintro e w4 ⟨u4, rfl, hu4, hk4, hl4, ht4, hs4, hd4, htm4, b4⟩
  have hsz4 : u4.size = 3 := by rw [hs4, H2.out.2.1.size, H3.out.2.1.size]
  have b14 : Below w1.heap.size w1 w4 := H2.out.2.2.trans ((H3.out.2.2.trans (b4.mono H3.out.2.2.size)).mono H2.out.2.2.size)
  have hsd : u4.size ≤ 100 ∧ u4.depth ≤ 100 := by
    refine ⟨by omega, ?_⟩
    have h2 := H2.out.2.1.depth
    have h3 := H3.out.2.1.depth
    omega
  have HP := Lib.hid (pair_three u1 u4 w4 (H1.out.1.on b14) hu4 H1.out.2.1 hk4 hl4 ht4 hsd.1 hsd.2 htm4)
  have HB4 := Lib.hid (H1.out.2.2.trans (b14.mono H1.out.2.2.size))
  clear hu4 hk4 hl4 ht4 hs4 hd4 htm4 b4 b14 hsz4 hsd
  go_wp2_with fail
  refine HP.out.mono ?_
  rintro e w5 ⟨k5, g5, la5, ln5, lc5, bb5, s5, ia5, ic5, ta5, tc5, rfl, b5⟩
  have hb5 := HB4.out.trans (b5.mono HB4.out.size)
  have HB5 := Lib.hid hb5
  have hR5 := World.alloc_heap_new w5 (.cells #[.int .i64 k5, .bool g5, .slice la5 ln5 lc5, .bool bb5, .string s5, .slice ia5 3 ic5, .slice ta5 0 tc5] 27)
  obtain ⟨W5, hW5⟩ : ∃ W5, w5.alloc (.cells #[.int .i64 k5, .bool g5, .slice la5 ln5 lc5, .bool bb5, .string s5, .slice ia5 3 ic5, .slice ta5 0 tc5] 27) = W5 := ⟨_, rfl⟩
  rw [hW5] at hR5
  have hz5 : W5.heap.size = w5.heap.size + 1 := by rw [← hW5, World.size_alloc]
  have HR5 := Lib.hid (And.intro hR5 (And.intro hz5 (show Below w.heap.size w W5 by rw [← hW5]; exact hb5.alloc hb5.size _)))
  clear HP hb5 b5 hR5 hz5
  go_wp2_with fail
  clear hW5
  refine (HN.out 1 W5 (by decide) (by decide)).mono ?_
  rintro e w6 ⟨u6, rfl, hu6, hn6, b6⟩
  have H6 := Lib.hid (And.intro hu6 (And.intro hn6 b6))
  clear hu6 hn6 b6
  go_wp2_with fail
  refine (HN.out 2 w6 (by decide) (by decide)).mono ?_
  rintro e w7 ⟨u7, rfl, hu7, hn7, b7⟩
  have H7 := Lib.hid (And.intro hu7 (And.intro hn7 b7))
  clear hu7 hn7 b7
  go_wp2_with fail
  refine (pair_one u6 u7 w7 (H6.out.1.on H7.out.2.2) H7.out.1 H6.out.2.1 H7.out.2.1).mono ?_
  rintro e w8 ⟨k8, g8, la8, ln8, lc8, bb8, s8, ia8, ic8, ta8, tc8, rfl, b8⟩
  have b58 : Below W5.heap.size W5 w8 := H6.out.2.2.trans ((H7.out.2.2.trans (b8.mono H7.out.2.2.size)).mono H6.out.2.2.size)
  have hR8 := (b58.block w5.heap.size (by rw [HR5.out.2.1]; omega)).trans HR5.out.1
  have hz8 : w5.heap.size + 1 ≤ w8.heap.size := by have := b58.size; rwa [HR5.out.2.1] at this
  have hb8 : Below w.heap.size w w8 := HR5.out.2.2.trans (b58.mono HR5.out.2.2.size)
  obtain ⟨W8, hW8⟩ : ∃ W8, w8.alloc (.cells #[.int .i64 k8, .bool g8, .slice la8 ln8 lc8, .bool bb8, .string s8, .slice ia8 1 ic8, .slice ta8 1 tc8] 27) = W8 := ⟨_, rfl⟩
  have hR9 := (Below.heap_alloc w8 (.cells #[.int .i64 k8, .bool g8, .slice la8 ln8 lc8, .bool bb8, .string s8, .slice ia8 1 ic8, .slice ta8 1 tc8] 27) w5.heap.size (by omega)).trans hR8
  have hR10 := World.alloc_heap_new w8 (.cells #[.int .i64 k8, .bool g8, .slice la8 ln8 lc8, .bool bb8, .string s8, .slice ia8 1 ic8, .slice ta8 1 tc8] 27)
  rw [hW8] at hR9 hR10
  have d5 := Lib.cell_of_heap hR9 5
  have d6 := Lib.cell_of_heap hR9 6
  have d7 := Lib.cell_of_heap hR10 5
  have d8 := Lib.cell_of_heap hR10 6
  simp only [List.getElem?_toArray, List.getElem?_cons_zero, List.getElem?_cons_succ] at d5 d6 d7 d8
  have HB9 : Hid (Below w.heap.size w W8) := Lib.hid (by rw [← hW8]; exact hb8.alloc hb8.size _)
  clear b8 b58 hR8 hR9 hR10 hb8
  go_wp2_with fail
  clear hW8 d5 d6 d7 d8
  refine (HN.out 1 W8 (by decide) (by decide)).mono ?_
  rintro e w9 ⟨u9, rfl, hu9, hn9, b9⟩
  have H9 := Lib.hid (And.intro hu9 (And.intro hn9 b9))
  clear hu9 hn9 b9
  go_wp2_with fail
  refine (HN.out 2 w9 (by decide) (by decide)).mono ?_
  rintro e w10 ⟨u10, rfl, hu10, hn10, b10⟩
  have H10 := Lib.hid (And.intro hu10 (And.intro hn10 b10))
  clear hu10 hn10 b10
  go_wp2_with fail
  refine (items_one u10 w10 H10.out.1 H10.out.2.1.tame (by rw [H10.out.2.1.size]; decide) (by rw [H10.out.2.1.depth]; decide)).mono ?_
  rintro e w11 ⟨u11, rfl, hu11, hs11, hd11, ht11, b11⟩
  have b911 : Below w9.heap.size w9 w11 := H10.out.2.2.trans (b11.mono H10.out.2.2.size)
  have hs11' : u11.size = 2 := by rw [hs11, H10.out.2.1.size]
  have H11 := Lib.hid (And.intro hu11 (And.intro hs11' (And.intro hd11 (And.intro ht11 b911))))
  clear hu11 hs11 hs11' hd11 ht11 b11 b911
  go_wp2_with fail
  refine (items_two u9 u11 w11 (H9.out.1.on H11.out.2.2.2.2) H11.out.1 H9.out.2.1.tame H11.out.2.2.2.1 (by rw [H9.out.2.1.size, H11.out.2.1]; decide) (by rw [H9.out.2.1.depth]; decide) (Nat.le_trans H11.out.2.2.1 (by decide))).mono ?_
  rintro e w12 ⟨u12, rfl, hu12, hq1, hq2, hq3, hs12, hd12, hq4, b12⟩
  clear hq1 hq2 hq3 hq4
  have H12 := Lib.hid (size_four u12 w12 hu12 (by rw [hs12, H9.out.2.1.size, H11.out.2.1]) (by have h1 := H9.out.2.1.depth; have h2 := H11.out.2.2.1; omega))
  have HB12 := Lib.hid (HB9.out.trans ((H9.out.2.2.trans ((H11.out.2.2.2.2.trans (b12.mono H11.out.2.2.2.2.size)).mono H9.out.2.2.size)).mono HB9.out.size))
  clear hu12 hs12 hd12 b12
  go_wp2_with fail
  refine H12.out.mono ?_
  rintro e w13 ⟨rfl, b13⟩
  have hb13 := HB12.out.trans (b13.mono HB12.out.size)
  clear b13
  go_wp2_with fail
  go_ret
  exact ⟨rfl, hb13⟩
end Go.Proofs.Ytgboiopkihemaaa
