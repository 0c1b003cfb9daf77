/-
  write.pen: any list is written, where what it holds is.
-/
import Derived.Test.YtgfamihldecmbaaDoorOgl
import Derived.Test.YtgfamihldecmbaaDoorOgn
namespace Go.Proofs.YtgfamihldecmbaaDoor
open Go.RowKit

/-- A block that no writer of the builder in block b touches. -/
def Solid (w : World) (b k : Nat) : Prop := k ≠ b ∧ ∃ o, w.heap[k]? = some o ∧ ∀ c fz, o ≠ .cells c 5 fz
theorem Solid.lt {w : World} {b k : Nat} (h : Solid w b k) : k < w.heap.size := by
  obtain ⟨_, o, ho, _⟩ := h
  exact (Array.getElem?_eq_some_iff.1 ho).1
theorem Solid.same {w w' : World} {b k : Nat} (h : Solid w b k) (e : w'.heap[k]? = w.heap[k]?) : Solid w' b k := ⟨h.1, by rw [e]; exact h.2⟩
theorem HeldP.wrote {base b : Nat} {l : List UInt8} {w w' : World} {t : LT} (h : HeldP w (Solid w b) t) (hw : Wrote base b l w w') : HeldP w' (Solid w' b) t :=
  h.keep hw.size fun k hk => by
    obtain ⟨h1, o, h2, h3⟩ := hk
    have e := hw.2.2 k o h2 (fun e => h1 (Option.some.inj e)) (fun c fz e => h3 c fz e)
    exact ⟨⟨h1, o, e, h3⟩, by rw [e, h2]⟩
theorem HeldP.solid_below {b : Nat} {w w' : World} {t : LT} (h : HeldP w (Solid w b) t) (hb : Below w.heap.size w w') : HeldP w' (Solid w' b) t :=
  h.keep hb.size fun k hk => ⟨hk.same (hb.block k hk.lt), hb.block k hk.lt⟩
theorem HeldP.solid {b B : Nat} {w : World} {t : LT} (h : HeldP w (Fresh w B) t) (hb : b < B) : HeldP w (Solid w b) t :=
  h.keep (Nat.le_refl _) fun k hk => ⟨⟨by have := hk.1; omega, hk.2⟩, rfl⟩
theorem liesPR_at {w : World} {P : Nat → Prop} {b : Nat} : ∀ (l : List LT) (o k : Nat) (hk : k < l.length), LiesPR w P l b o → LiesP w P l[k] b (o + k * 7)
  | t :: l, o, 0, _, h => by rw [liesPR_cons] at h; simpa using h.1
  | t :: l, o, k + 1, hk, h => by
    rw [liesPR_cons] at h
    have := liesPR_at l (o + 7) k (by simpa using hk) h.2
    rw [show o + (k + 1) * 7 = o + 7 + k * 7 by omega]
    exact this
theorem allDR_at {p : Int → List Nat → ByteArray → Prop} : ∀ (l : List LT) (k : Nat) (hk : k < l.length), AllDR p (shapes l) → AllD p (shape l[k])
  | t :: l, 0, _, h => by rw [shapes_cons] at h; simp only [AllDR] at h; exact h.1
  | t :: l, k + 1, hk, h => by rw [shapes_cons] at h; simp only [AllDR] at h; exact allDR_at l k (by simpa using hk) h.2
theorem allD_eq {p : Int → List Nat → ByteArray → Prop} (t : LT) : AllD p (shape t) ↔ p t.k t.ys t.s ∧ AllDR p (shapes t.items) ∧ AllDR p (shapes t.tail) := by rw [shape_eq]; simp only [AllD]
theorem shapes_at (l : List LT) (k : Nat) (hk : k < l.length) : (shapes l)[k]? = some (shape l[k]) := by
  induction l generalizing k with
  | nil => cases hk
  | cons t l ih =>
    rw [shapes_cons]
    cases k with
    | zero => rfl
    | succ k => simpa using ih k (by simpa using hk)
theorem shapes_take (l : List LT) (k : Nat) (hk : k < l.length) : (shapes l).take (k + 1) = (shapes l).take k ++ [shape l[k]] := by rw [List.take_add_one, shapes_at l k hk]; rfl
theorem take_ne {l : List LT} {k : Nat} (hk : 0 < k) (hn : k < l.length) : (shapes l).take k ≠ [] := by
  intro h
  have := congrArg List.length h
  rw [List.length_take, shapes_length, Nat.min_eq_left (by omega)] at this
  simp at this
  omega
theorem Wrote.undrew {base b : Nat} {l : List UInt8} {w w' : World} (h : Wrote base b l w.drew w') : Wrote base b l w w' := ⟨h.1, (Below.refl base w).drew.trans h.2.1, fun k o hk => h.2.2 k o hk⟩
/-- What a writer's call leaves. -/
def OPost (base b : Nat) (l : List UInt8) (w : World) (e : Ending) (w' : World) : Prop := e = .returned (.tuple #[]) ∧ Wrote base b l w w'
/-- What list's loop knows. -/
def LgRel (base b f g P : Nat) (t : LT) (tf tg : ByteArray → ByteArray) (l : List UInt8) (w : World) (i : Value) (wr : World) : Prop :=
  ∃ k : Nat, k ≤ t.items.length ∧ i = .int .i64 k ∧ wr.heap[P]? = some (.cells (penC b f g) 64 (0, 0)) ∧ wr.heap[P + 1]? = some (Obj.cells #[.int .i64 t.k, .bool t.g, .slice t.la t.ln t.lc, .bool t.bb, .string t.s, .slice t.ia t.items.length t.ic, .slice t.ta t.tail.length t.tc] 27) ∧ Hid (HeldP wr (Solid wr b) t) ∧ Wrote base b (l ++ 40 :: wR tf tg ((shapes t.items).take k)) w wr ∧ P + 2 ≤ wr.heap.size

set_option maxRecDepth 100000 in
set_option maxHeartbeats 12800000 in
theorem list_tree (base b f g N : Nat) (tf tg : ByteArray → ByteArray)
    (ih : ∀ u : LT, u.size ≤ N → ∀ (l : List UInt8) (w : World), Tab w → Bl base b l w → HeldP w (Solid w b) u → AllD pB (shape u) → l.length + (wD tf tg (shape u)).length < 100000000 → base ≤ w.heap.size → Calls Tryd.prog 48 #[penV b f g, .agg #[.int .i64 u.k, .bool u.g, .slice u.la u.ln u.lc, .bool u.bb, .string u.s, .slice u.ia u.items.length u.ic, .slice u.ta u.tail.length u.tc]] w (OPost base b (l ++ wD tf tg (shape u)) w))
    (h0 : 0 < base) (t : LT) (hsz : t.size ≤ N + 1) (hk : t.k = 5) (l : List UInt8) (w : World) (ht : Tab w) (h : Bl base b l w) (hH : HeldP w (Solid w b) t) (hA : AllD pB (shape t)) (hl : l.length + (wD tf tg (shape t)).length < 100000000) (hb : base ≤ w.heap.size) :
    Calls Tryd.prog 65 #[penV b f g, .agg #[.int .i64 t.k, .bool t.g, .slice t.la t.ln t.lc, .bool t.bb, .string t.s, .slice t.ia t.items.length t.ic, .slice t.ta t.tail.length t.tc]] w (OPost base b (l ++ wD tf tg (shape t)) w) := by
  unfold penV at *
  rw [wD_list tf tg t hk] at hl ⊢
  have hls : l.length + (wR tf tg (shapes t.items)).length + (wTl tf tg (shapes t.tail)).length + 2 < 100000000 := by simp only [List.length_cons, List.length_append, List.length_nil] at hl; omega
  clear hl
  have hbw : Below w.heap.size w ((w.alloc (Obj.cells (penC b f g) 64)).alloc (Obj.cells #[.int .i64 t.k, .bool t.g, .slice t.la t.ln t.lc, .bool t.bb, .string t.s, .slice t.ia t.items.length t.ic, .slice t.ta t.tail.length t.tc] 27)) := ((Below.refl w.heap.size w).alloc (Nat.le_refl _) _).alloc (by simp) _
  have hP := (Below.heap_alloc (w.alloc (Obj.cells (penC b f g) 64)) (Obj.cells #[.int .i64 t.k, .bool t.g, .slice t.la t.ln t.lc, .bool t.bb, .string t.s, .slice t.ia t.items.length t.ic, .slice t.ta t.tail.length t.tc] 27) w.heap.size (by simp)).trans (World.alloc_heap_new w _)
  have hD := World.alloc_heap_new (w.alloc (Obj.cells (penC b f g) 64)) (Obj.cells #[.int .i64 t.k, .bool t.g, .slice t.la t.ln t.lc, .bool t.bb, .string t.s, .slice t.ia t.items.length t.ic, .slice t.ta t.tail.length t.tc] 27)
  rw [World.size_alloc] at hD
  have hz : ((w.alloc (Obj.cells (penC b f g) 64)).alloc (Obj.cells #[.int .i64 t.k, .bool t.g, .slice t.la t.ln t.lc, .bool t.bb, .string t.s, .slice t.ia t.items.length t.ic, .slice t.ta t.tail.length t.tc] 27)).heap.size = w.heap.size + 1 + 1 := by rw [World.size_alloc, World.size_alloc]
  have hblt := h.lt
  have h2 := h.wrote.alloc hb (Obj.cells (penC b f g) 64)
  have h2 := h2.alloc (by simp; omega) (Obj.cells #[.int .i64 t.k, .bool t.g, .slice t.la t.ln t.lc, .bool t.bb, .string t.s, .slice t.ia t.items.length t.ic, .slice t.ta t.tail.length t.tc] 27)
  have hH2 := hH.solid_below hbw
  unfold penC at hbw hP hD hz h2 hH2
  have HS := Lib.hid (And.intro hsz (And.intro hA hk))
  have HIH := Lib.hid ih
  clear hsz hA hk ih hH
  generalize hwD : l ++ 40 :: (wR tf tg (shapes t.items) ++ (wTl tf tg (shapes t.tail) ++ [41])) = out at *
  have HWD := Lib.hid hwD
  clear hwD
  go_enter Tryd.func65, Tryd.ntmps65
  go_wp2_with fail
  generalize hW : ((w.alloc (Obj.cells #[.func (.func 46) #[.pointer (some ⟨b, 0, none⟩)] #[], .func (.func 47) #[.pointer (some ⟨b, 0, none⟩)] #[], .func (.func f) #[] #[], .func (.func g) #[] #[]] 64)).alloc (Obj.cells #[.int .i64 t.k, .bool t.g, .slice t.la t.ln t.lc, .bool t.bb, .string t.s, .slice t.ia t.items.length t.ic, .slice t.ta t.tail.length t.tc] 27)) = W2 at *
  refine (putZ base b l _ _ h2.1 (by omega) (by omega) (by omega) (by omega)).mono ?_
  rintro e w3 ⟨rfl, h3⟩
  have P3 := h3.block hP (by omega) (by decide)
  have D3 := h3.block hD (by omega) (by decide)
  have z3 := h3.size
  have H3 := Lib.hid (And.intro (h2.trans h3) (hH2.wrote h3))
  have HH := Lib.hid ht
  clear hW hP hD hbw h2 h3 ht h hH2
  have q5 : w3.cell? ⟨w.heap.size + 1, 5, none⟩ = some (.slice t.ia t.items.length t.ic) := by rw [Lib.cell_of_heap D3]; rfl
  by_cases hn : 0 < t.items.length
  · have haa : t.ia = some ⟨blk t.ia, ofs t.ia, none⟩ := (H3.out.2.2.1.2.2.1 hn).1
    have hcap := H3.out.2.2.1.2.1
    have hcl := H3.out.2.2.1.1
    unfold maxLen at hcap
    rw [haa] at q5
    clear haa
    go_wp2_with fail
    clear q5
    go_loopw [12] (fun i wr => LgRel base b f g w.heap.size t tf tg l w i wr) (fun i _ => t.items.length - (intOf i).toNat)
    case atStart =>
      refine ⟨0, Nat.zero_le _, rfl, P3, D3, Lib.hid H3.out.2, ?_, by omega⟩
      have := H3.out.1
      simpa [wR_nil, by8] using this
    case round =>
      obtain ⟨k, hk, rfl, rP, rD, rH, rW, rz⟩ := hrel
      clear P3 D3 z3
      unfold penC at rP
      have hlen := wR_take tf tg (shapes t.items) k
      by_cases hlt : k < t.items.length
      · have hbr : base ≤ wr.heap.size := by omega
        have hbB : b < wr.heap.size := by omega
        have p0 : wr.cell? ⟨w.heap.size, 0, none⟩ = some (.func (.func 46) #[.pointer (some ⟨b, 0, none⟩)] #[]) := by rw [Lib.cell_of_heap rP]; rfl
        have tk := shapes_take t.items k hlt
        have hlen1 := wR_take tf tg (shapes t.items) (k + 1)
        have hli := liesPR_at t.items _ k hlt rH.out.2.2.2.1
        have hAx := allDR_at t.items k hlt ((allD_eq t).1 HS.out.2.1).2.1
        have hszx := sizes_mem hlt
        have hszs := t.size_eq
        generalize t.items[k] = x at *
        obtain ⟨hsx, hcell, hheld⟩ := liesP_held.1 hli
        have hsxl := hsx.lt
        have d0 : wr.cell? ⟨blk t.ia, ofs t.ia + k * 7, none⟩ = some (.int .i64 x.k) := hcell 0 _ rfl
        have d1 : wr.cell? ⟨blk t.ia, ofs t.ia + k * 7 + 1, none⟩ = some (.bool x.g) := hcell 1 _ rfl
        have d2 : wr.cell? ⟨blk t.ia, ofs t.ia + k * 7 + 2, none⟩ = some (.slice x.la x.ln x.lc) := hcell 2 _ rfl
        have d3 : wr.cell? ⟨blk t.ia, ofs t.ia + k * 7 + 3, none⟩ = some (.bool x.bb) := hcell 3 _ rfl
        have d4 : wr.cell? ⟨blk t.ia, ofs t.ia + k * 7 + 4, none⟩ = some (.string x.s) := hcell 4 _ rfl
        have d5 : wr.cell? ⟨blk t.ia, ofs t.ia + k * 7 + 5, none⟩ = some (.slice x.ia x.items.length x.ic) := hcell 5 _ rfl
        have d6 : wr.cell? ⟨blk t.ia, ofs t.ia + k * 7 + 6, none⟩ = some (.slice x.ta x.tail.length x.tc) := hcell 6 _ rfl
        generalize blk t.ia = gb at *
        generalize ofs t.ia = go at *
        generalize hnn : t.items.length = n at *
        have rWa := rW.alloc hbr (Obj.cells #[.int .i64 x.k, .bool x.g, .slice x.la x.ln x.lc, .bool x.bb, .string x.s, .slice x.ia x.items.length x.ic, .slice x.ta x.tail.length x.tc] 27)
        have hba : Below wr.heap.size wr (wr.alloc (Obj.cells #[.int .i64 x.k, .bool x.g, .slice x.la x.ln x.lc, .bool x.bb, .string x.s, .slice x.ia x.items.length x.ic, .slice x.ta x.tail.length x.tc] 27)) := (Below.refl _ _).alloc (Nat.le_refl _) _
        have hHa := rH.out.solid_below hba
        have hXa := hheld.solid_below hba
        have aP := (hba.block w.heap.size (by omega)).trans rP
        have aD := (hba.block (w.heap.size + 1) (by omega)).trans rD
        have aI := World.alloc_heap_new wr (Obj.cells #[.int .i64 x.k, .bool x.g, .slice x.la x.ln x.lc, .bool x.bb, .string x.s, .slice x.ia x.items.length x.ic, .slice x.ta x.tail.length x.tc] 27)
        have hza : (wr.alloc (Obj.cells #[.int .i64 x.k, .bool x.g, .slice x.la x.ln x.lc, .bool x.bb, .string x.s, .slice x.ia x.items.length x.ic, .slice x.ta x.tail.length x.tc] 27)).heap.size = wr.heap.size + 1 := World.size_alloc ..
        have ap0 := (hba.cell (p := ⟨w.heap.size, 0, none⟩) (by show w.heap.size < wr.heap.size; omega)).trans p0
        have HA := Lib.hid (And.intro aP (And.intro aD (And.intro aI (And.intro rWa (And.intro tk (And.intro hHa (And.intro hXa (And.intro hAx (And.intro (show x.size ≤ N by have := HS.out.1; omega) hnn)))))))))
        clear hba rP rD hcell hheld hli hsx hszx hszs rH rW hHa hXa hAx tk hnn
        by_cases hk0 : k = 0
        · subst hk0
          simp only [Nat.zero_mul, Nat.add_zero] at d0 d1 d2 d3 d4 d5 d6
          have c1 : (wr.alloc (Obj.cells #[.int .i64 x.k, .bool x.g, .slice x.la x.ln x.lc, .bool x.bb, .string x.s, .slice x.ia x.items.length x.ic, .slice x.ta x.tail.length x.tc] 27)).cell? ⟨w.heap.size, 1, none⟩ = some (.func (.func 47) #[.pointer (some ⟨b, 0, none⟩)] #[]) := by rw [Lib.cell_of_heap aP]; rfl
          have c2 : (wr.alloc (Obj.cells #[.int .i64 x.k, .bool x.g, .slice x.la x.ln x.lc, .bool x.bb, .string x.s, .slice x.ia x.items.length x.ic, .slice x.ta x.tail.length x.tc] 27)).cell? ⟨w.heap.size, 2, none⟩ = some (.func (.func f) #[] #[]) := by rw [Lib.cell_of_heap aP]; rfl
          have c3 : (wr.alloc (Obj.cells #[.int .i64 x.k, .bool x.g, .slice x.la x.ln x.lc, .bool x.bb, .string x.s, .slice x.ia x.items.length x.ic, .slice x.ta x.tail.length x.tc] 27)).cell? ⟨w.heap.size, 3, none⟩ = some (.func (.func g) #[] #[]) := by rw [Lib.cell_of_heap aP]; rfl
          clear aP aD aI rWa
          have htk1 : (shapes t.items).take (0 + 1) = [shape x] := by rw [HA.out.2.2.2.2.1]; simp
          have hlx : (wD tf tg (shape x)).length ≤ (wR tf tg (shapes t.items)).length := by rw [htk1, wR_one] at hlen1; exact hlen1
          have HTK := Lib.hid htk1
          clear htk1 hlen1
          go_wp2_with fail
          refine (HIH.out x HA.out.2.2.2.2.2.2.2.2.1 _ _ (HH.out.low HA.out.2.2.2.1.2.1 h0) HA.out.2.2.2.1.1 HA.out.2.2.2.2.2.2.1 HA.out.2.2.2.2.2.2.2.1 (by simp only [List.length_append, List.length_cons, List.take_zero, wR_nil, List.length_nil]; omega) (by omega)).mono ?_
          rintro e w4 ⟨rfl, h4⟩
          have hnx : LgRel base b f g w.heap.size t tf tg l w (.int .i64 1) w4 := by
            refine ⟨1, by rw [HA.out.2.2.2.2.2.2.2.2.2]; omega, rfl, h4.block HA.out.1 (by omega) (by decide), h4.block (by have h := HA.out.2.1; rw [← HA.out.2.2.2.2.2.2.2.2.2] at h; exact h) (by omega) (by decide), Lib.hid (HA.out.2.2.2.2.2.1.wrote h4), ?_, by have := h4.size; omega⟩
            have := HA.out.2.2.2.1.trans h4
            rw [show (1 : Nat) = 0 + 1 from rfl, HTK.out, wR_one]
            simpa [wR_nil] using this
          have HN := Lib.hid hnx
          clear hnx c1 c2 c3 h4
          go_wp2_with fail
          go_roundw
          case rel => exact HN.out
          case measure => simp [intOf]; omega
        · have hkp : 0 < k := by omega
          have hkd : decide ((0 : Int) < (k : Nat)) = true := decide_eq_true (by omega)
          clear aP aD aI rWa hk0
          have htk1 : wR tf tg ((shapes t.items).take (k + 1)) = wR tf tg ((shapes t.items).take k) ++ 32 :: wD tf tg (shape x) := by rw [HA.out.2.2.2.2.1, wR_snoc _ _ _ _ (take_ne hkp (by rw [HA.out.2.2.2.2.2.2.2.2.2]; exact hlt))]
          have hlx : (wR tf tg ((shapes t.items).take k)).length + 1 + (wD tf tg (shape x)).length ≤ (wR tf tg (shapes t.items)).length := by rw [htk1] at hlen1; simp only [List.length_append, List.length_cons] at hlen1; omega
          have HTK := Lib.hid htk1
          clear htk1 hlen1
          go_wp2_with fail
          refine (putZ base b _ _ _ HA.out.2.2.2.1.1 (by simp only [List.length_append, List.length_cons]; omega) (by omega) (by omega) (by omega)).mono ?_
          rintro e w5 ⟨rfl, h5⟩
          have z5 := h5.size
          have bP := h5.block HA.out.1 (by omega) (by decide)
          have bI := h5.block HA.out.2.2.1 (by omega) (by decide)
          have hps := fun j => Lib.cell_of_heap bP j
          have y0 := hps 0; have y1 := hps 1; have y2 := hps 2; have y3 := hps 3
          have his := fun j => Lib.cell_of_heap bI j
          have i0 := his 0; have i1 := his 1; have i2 := his 2; have i3 := his 3; have i4 := his 4; have i5 := his 5; have i6 := his 6
          simp only [List.getElem?_toArray, List.getElem?_cons_zero, List.getElem?_cons_succ] at y0 y1 y2 y3 i0 i1 i2 i3 i4 i5 i6
          have H5 := Lib.hid h5
          clear hps his bP bI h5
          go_wp2_with fail
          refine (HIH.out x HA.out.2.2.2.2.2.2.2.2.1 _ _ (HH.out.low (HA.out.2.2.2.1.trans H5.out).2.1 h0) H5.out.1 (HA.out.2.2.2.2.2.2.1.wrote H5.out) HA.out.2.2.2.2.2.2.2.1 (by simp only [List.length_append, List.length_cons, List.length_nil]; omega) (by omega)).mono ?_
          rintro e w4 ⟨rfl, h4⟩
          have hnx : LgRel base b f g w.heap.size t tf tg l w (.int .i64 (k + 1)) w4 := by
            refine ⟨k + 1, by rw [HA.out.2.2.2.2.2.2.2.2.2]; omega, by simp, h4.block (H5.out.block HA.out.1 (by omega) (by decide)) (by omega) (by decide), h4.block (H5.out.block (by have h := HA.out.2.1; rw [← HA.out.2.2.2.2.2.2.2.2.2] at h; exact h) (by omega) (by decide)) (by omega) (by decide), Lib.hid ((HA.out.2.2.2.2.2.1.wrote H5.out).wrote h4), ?_, by have := h4.size; omega⟩
            have := (HA.out.2.2.2.1.trans H5.out).trans h4
            rw [HTK.out]
            simpa [by8] using this
          have HN := Lib.hid hnx
          clear hnx y0 y1 y2 y3 i0 i1 i2 i3 i4 i5 i6 h4
          go_wp2_with fail
          go_roundw
          case rel => exact HN.out
          case measure => simp [intOf]; omega
      · obtain rfl : k = t.items.length := by omega
        rw [List.take_of_length_le (by rw [shapes_length]; exact Nat.le_refl _)] at rW
        clear hlt hlen
        have q6 : wr.cell? ⟨w.heap.size + 1, 6, none⟩ = some (.slice t.ta t.tail.length t.tc) := by rw [Lib.cell_of_heap rD]; rfl
        have p0 : wr.cell? ⟨w.heap.size, 0, none⟩ = some (.func (.func 46) #[.pointer (some ⟨b, 0, none⟩)] #[]) := by rw [Lib.cell_of_heap rP]; rfl
        have p1 : wr.cell? ⟨w.heap.size, 1, none⟩ = some (.func (.func 47) #[.pointer (some ⟨b, 0, none⟩)] #[]) := by rw [Lib.cell_of_heap rP]; rfl
        have hbr : base ≤ wr.heap.size := by omega
        have hbB : b < wr.heap.size := by omega
        by_cases ht0 : t.tail.length = 0
        · rw [ht0] at q6
          have htn : t.tail = [] := List.length_eq_zero_iff.1 ht0
          have HW := Lib.hid rW
          clear rP rD rW
          go_wp2_with fail
          refine (putZ base b _ _ _ HW.out.1 (by simp only [List.length_append, List.length_cons]; omega) (by omega) (by omega) (by omega)).mono ?_
          rintro e w4 ⟨rfl, h4⟩
          go_wp2_with fail
          go_end0
          refine ⟨rfl, ?_⟩
          have := HW.out.trans h4
          rw [← HWD.out, htn, shapes_nil, wTl_nil]
          simpa [by8] using this
        · obtain ⟨y, ys, hy0⟩ : ∃ y ys, t.tail = y :: ys := by
            cases hc : t.tail with
            | nil => exact absurd (by rw [hc]; rfl) ht0
            | cons y ys => exact ⟨y, ys, rfl⟩
          have HYY := Lib.hid hy0
          have hta : t.ta = some ⟨blk t.ta, ofs t.ta, none⟩ := (rH.out.2.2.1.2.2.1 (by omega)).1
          have htc := rH.out.2.2.1.2.1
          have htl := rH.out.2.2.1.1
          unfold maxLen at htc
          rw [hta] at q6
          have HTA := Lib.hid hta
          clear hta
          have htp : 0 < t.tail.length := by omega
          clear hy0 ht0
          generalize t.tail.length = m at *
          have htg : decide ((0 : Int) < (m : Nat)) = true := decide_eq_true (by omega)
          have HW := Lib.hid (And.intro rW (And.intro rP rD))
          have hlt2 : (wTl tf tg (shapes t.tail)).length = 3 + (wD tf tg (shape y)).length := by rw [HYY.out, shapes_cons, wTl_cons]; simp only [List.length_cons]; omega
          clear rP rD rW
          go_wp2_with fail
          refine (putText base b _ ⟨#[32, 46, 32]⟩ _ HW.out.1.1 (by show _ + 3 < _; simp only [List.length_append, List.length_cons]; omega) (by omega)).mono ?_
          rintro e w5 ⟨rfl, h5⟩
          have z5 := h5.size
          have bP := h5.block HW.out.2.1 (by omega) (by decide)
          have bD := h5.block HW.out.2.2 (by omega) (by decide)
          have hH5 := rH.out.wrote h5
          have hW5 := HW.out.1.trans h5
          have hli5 := hH5.2.2.2.2
          rw [HYY.out, liesPR_cons] at hli5
          obtain ⟨hsy, hyc, hyh⟩ := liesP_held.1 hli5.1
          have hsyl := hsy.lt
          have y0 : w5.cell? ⟨blk t.ta, ofs t.ta, none⟩ = some (.int .i64 y.k) := hyc 0 _ rfl
          have y1 : w5.cell? ⟨blk t.ta, ofs t.ta + 1, none⟩ = some (.bool y.g) := hyc 1 _ rfl
          have y2 : w5.cell? ⟨blk t.ta, ofs t.ta + 2, none⟩ = some (.slice y.la y.ln y.lc) := hyc 2 _ rfl
          have y3 : w5.cell? ⟨blk t.ta, ofs t.ta + 3, none⟩ = some (.bool y.bb) := hyc 3 _ rfl
          have y4 : w5.cell? ⟨blk t.ta, ofs t.ta + 4, none⟩ = some (.string y.s) := hyc 4 _ rfl
          have y5 : w5.cell? ⟨blk t.ta, ofs t.ta + 5, none⟩ = some (.slice y.ia y.items.length y.ic) := hyc 5 _ rfl
          have y6 : w5.cell? ⟨blk t.ta, ofs t.ta + 6, none⟩ = some (.slice y.ta y.tail.length y.tc) := hyc 6 _ rfl
          have hps := fun j => Lib.cell_of_heap bP j
          have v0 := hps 0; have v1 := hps 1; have v2 := hps 2; have v3 := hps 3
          simp only [List.getElem?_toArray, List.getElem?_cons_zero, List.getElem?_cons_succ] at v0 v1 v2 v3
          have s6 : w5.cell? ⟨w.heap.size + 1, 6, none⟩ = some (.slice (some ⟨blk t.ta, ofs t.ta, none⟩) m t.tc) := by rw [← HTA.out, Lib.cell_of_heap bD]; rfl
          have hsz1 := t.size_eq
          have hsz2 : sizes t.tail = y.size + sizes ys := by rw [HYY.out]; rfl
          have hAy : AllD pB (shape y) := by
            have h := ((allD_eq t).1 HS.out.2.1).2.2
            rw [HYY.out, shapes_cons] at h
            simp only [AllDR] at h
            exact h.1
          have hHy := HIH.out y (by have := HS.out.1; omega) _ w5.drew (HH.out.low (hW5.2.1.drew) h0) (hW5.1.below (Below.refl w5.heap.size w5).drew) (hyh.solid_below (Below.refl w5.heap.size w5).drew) hAy (by simp only [List.length_append, List.length_cons]; show _ + 3 + _ < _; omega) (by show base ≤ w5.heap.size; omega)
          have HY := Lib.hid hHy
          have H5 := Lib.hid (And.intro hW5 bP)
          clear hps bP bD hH5 hW5 hli5 hsy hyc hyh hAy hHy h5 p0 p1 q6 HTA
          have d0 := show w5.drew.cell? ⟨blk t.ta, ofs t.ta, none⟩ = _ from y0
          have d1 := show w5.drew.cell? ⟨blk t.ta, ofs t.ta + 1, none⟩ = _ from y1
          have d2 := show w5.drew.cell? ⟨blk t.ta, ofs t.ta + 2, none⟩ = _ from y2
          have d3 := show w5.drew.cell? ⟨blk t.ta, ofs t.ta + 3, none⟩ = _ from y3
          have d4 := show w5.drew.cell? ⟨blk t.ta, ofs t.ta + 4, none⟩ = _ from y4
          have d5 := show w5.drew.cell? ⟨blk t.ta, ofs t.ta + 5, none⟩ = _ from y5
          have d6 := show w5.drew.cell? ⟨blk t.ta, ofs t.ta + 6, none⟩ = _ from y6
          have u0 := show w5.drew.cell? ⟨w.heap.size, 0, none⟩ = _ from v0
          have u1 := show w5.drew.cell? ⟨w.heap.size, 1, none⟩ = _ from v1
          have u2 := show w5.drew.cell? ⟨w.heap.size, 2, none⟩ = _ from v2
          have u3 := show w5.drew.cell? ⟨w.heap.size, 3, none⟩ = _ from v3
          have x6 := show w5.drew.cell? ⟨w.heap.size + 1, 6, none⟩ = _ from s6
          generalize blk t.ta = tb at *
          generalize ofs t.ta = to at *
          have hmix : Tryd.prog.follows .mixedOrders = true := by kernel_rfl
          go_wp2_with fail
          go_region_law
            (first
              | (refine step_call 48 #[penV b f g, .agg #[.int .i64 y.k, .bool y.g, .slice y.la y.ln y.lc, .bool y.bb, .string y.s, .slice y.ia y.items.length y.ic, .slice y.ta y.tail.length y.tc]] (by rfl) (by simp [execOp, Act.eval, go_sem, penV]) (HY.out.mono ?_); rintro e w6 ⟨rfl, h6⟩; refine ⟨_, rfl, ?_⟩)
              | fail)
          all_goals
            have bP6 := h6.block (show w5.drew.heap[w.heap.size]? = _ from H5.out.2) (by omega) (by decide)
            have z6 := h6.size
            have z6' : w5.heap.size ≤ w6.heap.size := z6
            have p6 : w6.cell? ⟨w.heap.size, 0, none⟩ = some (.func (.func 46) #[.pointer (some ⟨b, 0, none⟩)] #[]) := by rw [Lib.cell_of_heap bP6]; rfl
            go_wp2_with fail
            refine (putZ base b _ _ _ h6.1 (by simp only [List.length_append, List.length_cons]; show _ + 3 + _ < _; omega) (by omega) (by omega) (by omega)).mono ?_
            rintro e w7 ⟨rfl, h7⟩
            go_wp2_with fail
            go_end0
            refine ⟨rfl, ?_⟩
            have := (H5.out.1.trans h6.undrew).trans h7
            rw [← HWD.out, HYY.out, shapes_cons, wTl_cons]
            simpa [by8] using this
  · have hn0 : t.items.length = 0 := by omega
    have hit : t.items = [] := List.length_eq_zero_iff.1 hn0
    have hW3 : Wrote base b (l ++ 40 :: wR tf tg (shapes t.items)) w w3 := by
      have := H3.out.1
      rw [hit, shapes_nil, wR_nil]
      simpa [by8] using this
    rw [hn0] at q5
    clear hn0
    have HS3 := Lib.hid (And.intro P3 (And.intro D3 (And.intro (Lib.hid H3.out.2) (And.intro hW3 hit))))
    clear P3 D3 hW3 hit
    obtain ⟨wo, hwo⟩ : ∃ wo, wo = w3 := ⟨_, rfl⟩
    rw [← hwo] at q5 HS3 z3 ⊢
    clear hwo H3
    go_wp2_with fail
    go_loopw [12] (fun i ws => i = .int .i64 0 ∧ ws = wo) (fun _ _ => 0)
    case atStart => exact ⟨rfl, rfl⟩
    case round =>
      clear q5
      obtain ⟨rfl, rfl⟩ := hrel
      obtain ⟨rP, rD, rH, rW, hit⟩ := HS3.out
      have rz := z3
      have HIT := Lib.hid hit
      clear hit HS3
      have q6 : wr.cell? ⟨w.heap.size + 1, 6, none⟩ = some (.slice t.ta t.tail.length t.tc) := by rw [Lib.cell_of_heap rD]; rfl
      have p0 : wr.cell? ⟨w.heap.size, 0, none⟩ = some (.func (.func 46) #[.pointer (some ⟨b, 0, none⟩)] #[]) := by rw [Lib.cell_of_heap rP]; rfl
      have p1 : wr.cell? ⟨w.heap.size, 1, none⟩ = some (.func (.func 47) #[.pointer (some ⟨b, 0, none⟩)] #[]) := by rw [Lib.cell_of_heap rP]; rfl
      have hbr : base ≤ wr.heap.size := by omega
      have hbB : b < wr.heap.size := by omega
      by_cases ht0 : t.tail.length = 0
      · rw [ht0] at q6
        have htn : t.tail = [] := List.length_eq_zero_iff.1 ht0
        have HW := Lib.hid rW
        clear rP rD rW
        go_wp2_with fail
        refine (putZ base b _ _ _ HW.out.1 (by simp only [List.length_append, List.length_cons]; omega) (by omega) (by omega) (by omega)).mono ?_
        rintro e w4 ⟨rfl, h4⟩
        go_wp2_with fail
        go_end0
        refine ⟨rfl, ?_⟩
        have := HW.out.trans h4
        rw [← HWD.out, htn, shapes_nil, wTl_nil]
        simpa [by8] using this
      · obtain ⟨y, ys, hy0⟩ : ∃ y ys, t.tail = y :: ys := by
          cases hc : t.tail with
          | nil => exact absurd (by rw [hc]; rfl) ht0
          | cons y ys => exact ⟨y, ys, rfl⟩
        have HYY := Lib.hid hy0
        have hta : t.ta = some ⟨blk t.ta, ofs t.ta, none⟩ := (rH.out.2.2.1.2.2.1 (by omega)).1
        have htc := rH.out.2.2.1.2.1
        have htl := rH.out.2.2.1.1
        unfold maxLen at htc
        rw [hta] at q6
        have HTA := Lib.hid hta
        clear hta
        have htp : 0 < t.tail.length := by omega
        clear hy0 ht0
        generalize t.tail.length = m at *
        have htg : decide ((0 : Int) < (m : Nat)) = true := decide_eq_true (by omega)
        have HW := Lib.hid (And.intro rW (And.intro rP rD))
        have hlt2 : (wTl tf tg (shapes t.tail)).length = 3 + (wD tf tg (shape y)).length := by rw [HYY.out, shapes_cons, wTl_cons]; simp only [List.length_cons]; omega
        clear rP rD rW
        go_wp2_with fail
        refine (putText base b _ ⟨#[32, 46, 32]⟩ _ HW.out.1.1 (by show _ + 3 < _; simp only [List.length_append, List.length_cons]; omega) (by omega)).mono ?_
        rintro e w5 ⟨rfl, h5⟩
        have z5 := h5.size
        have bP := h5.block HW.out.2.1 (by omega) (by decide)
        have bD := h5.block HW.out.2.2 (by omega) (by decide)
        have hH5 := rH.out.wrote h5
        have hW5 := HW.out.1.trans h5
        have hli5 := hH5.2.2.2.2
        rw [HYY.out, liesPR_cons] at hli5
        obtain ⟨hsy, hyc, hyh⟩ := liesP_held.1 hli5.1
        have hsyl := hsy.lt
        have y0 : w5.cell? ⟨blk t.ta, ofs t.ta, none⟩ = some (.int .i64 y.k) := hyc 0 _ rfl
        have y1 : w5.cell? ⟨blk t.ta, ofs t.ta + 1, none⟩ = some (.bool y.g) := hyc 1 _ rfl
        have y2 : w5.cell? ⟨blk t.ta, ofs t.ta + 2, none⟩ = some (.slice y.la y.ln y.lc) := hyc 2 _ rfl
        have y3 : w5.cell? ⟨blk t.ta, ofs t.ta + 3, none⟩ = some (.bool y.bb) := hyc 3 _ rfl
        have y4 : w5.cell? ⟨blk t.ta, ofs t.ta + 4, none⟩ = some (.string y.s) := hyc 4 _ rfl
        have y5 : w5.cell? ⟨blk t.ta, ofs t.ta + 5, none⟩ = some (.slice y.ia y.items.length y.ic) := hyc 5 _ rfl
        have y6 : w5.cell? ⟨blk t.ta, ofs t.ta + 6, none⟩ = some (.slice y.ta y.tail.length y.tc) := hyc 6 _ rfl
        have hps := fun j => Lib.cell_of_heap bP j
        have v0 := hps 0; have v1 := hps 1; have v2 := hps 2; have v3 := hps 3
        simp only [List.getElem?_toArray, List.getElem?_cons_zero, List.getElem?_cons_succ] at v0 v1 v2 v3
        have s6 : w5.cell? ⟨w.heap.size + 1, 6, none⟩ = some (.slice (some ⟨blk t.ta, ofs t.ta, none⟩) m t.tc) := by rw [← HTA.out, Lib.cell_of_heap bD]; rfl
        have hsz1 := t.size_eq
        have hsz2 : sizes t.tail = y.size + sizes ys := by rw [HYY.out]; rfl
        have hAy : AllD pB (shape y) := by
          have h := ((allD_eq t).1 HS.out.2.1).2.2
          rw [HYY.out, shapes_cons] at h
          simp only [AllDR] at h
          exact h.1
        have hHy := HIH.out y (by have := HS.out.1; omega) _ w5.drew (HH.out.low (hW5.2.1.drew) h0) (hW5.1.below (Below.refl w5.heap.size w5).drew) (hyh.solid_below (Below.refl w5.heap.size w5).drew) hAy (by simp only [List.length_append, List.length_cons]; show _ + 3 + _ < _; omega) (by show base ≤ w5.heap.size; omega)
        have HY := Lib.hid hHy
        have H5 := Lib.hid (And.intro hW5 bP)
        clear hps bP bD hH5 hW5 hli5 hsy hyc hyh hAy hHy h5 p0 p1 q6 HTA
        have d0 := show w5.drew.cell? ⟨blk t.ta, ofs t.ta, none⟩ = _ from y0
        have d1 := show w5.drew.cell? ⟨blk t.ta, ofs t.ta + 1, none⟩ = _ from y1
        have d2 := show w5.drew.cell? ⟨blk t.ta, ofs t.ta + 2, none⟩ = _ from y2
        have d3 := show w5.drew.cell? ⟨blk t.ta, ofs t.ta + 3, none⟩ = _ from y3
        have d4 := show w5.drew.cell? ⟨blk t.ta, ofs t.ta + 4, none⟩ = _ from y4
        have d5 := show w5.drew.cell? ⟨blk t.ta, ofs t.ta + 5, none⟩ = _ from y5
        have d6 := show w5.drew.cell? ⟨blk t.ta, ofs t.ta + 6, none⟩ = _ from y6
        have u0 := show w5.drew.cell? ⟨w.heap.size, 0, none⟩ = _ from v0
        have u1 := show w5.drew.cell? ⟨w.heap.size, 1, none⟩ = _ from v1
        have u2 := show w5.drew.cell? ⟨w.heap.size, 2, none⟩ = _ from v2
        have u3 := show w5.drew.cell? ⟨w.heap.size, 3, none⟩ = _ from v3
        have x6 := show w5.drew.cell? ⟨w.heap.size + 1, 6, none⟩ = _ from s6
        generalize blk t.ta = tb at *
        generalize ofs t.ta = to at *
        have hmix : Tryd.prog.follows .mixedOrders = true := by kernel_rfl
        go_wp2_with fail
        go_region_law
          (first
            | (refine step_call 48 #[penV b f g, .agg #[.int .i64 y.k, .bool y.g, .slice y.la y.ln y.lc, .bool y.bb, .string y.s, .slice y.ia y.items.length y.ic, .slice y.ta y.tail.length y.tc]] (by rfl) (by simp [execOp, Act.eval, go_sem, penV]) (HY.out.mono ?_); rintro e w6 ⟨rfl, h6⟩; refine ⟨_, rfl, ?_⟩)
            | fail)
        all_goals
          have bP6 := h6.block (show w5.drew.heap[w.heap.size]? = _ from H5.out.2) (by omega) (by decide)
          have z6 := h6.size
          have z6' : w5.heap.size ≤ w6.heap.size := z6
          have p6 : w6.cell? ⟨w.heap.size, 0, none⟩ = some (.func (.func 46) #[.pointer (some ⟨b, 0, none⟩)] #[]) := by rw [Lib.cell_of_heap bP6]; rfl
          go_wp2_with fail
          refine (putZ base b _ _ _ h6.1 (by simp only [List.length_append, List.length_cons]; show _ + 3 + _ < _; omega) (by omega) (by omega) (by omega)).mono ?_
          rintro e w7 ⟨rfl, h7⟩
          go_wp2_with fail
          go_end0
          refine ⟨rfl, ?_⟩
          have := (H5.out.1.trans h6.undrew).trans h7
          rw [← HWD.out, HYY.out, shapes_cons, wTl_cons]
          simpa [by8] using this
end Go.Proofs.YtgfamihldecmbaaDoor
