/-
  pavaneref04.text of any datum that Norm left.
-/
import Derived.Test.YtgfamihldecmbaaDoorRo
import Derived.Test.YtgfamihldecmbaaDoorWriteNames
import Derived.Test.YtgfamihldecmbaaDoorOx
import Derived.Test.YtgfamihldecmbaaDoorOg
namespace Go.Proofs.YtgfamihldecmbaaDoor
open Go.RowKit

/-- What text tells. -/
def TPost (l : List UInt8) (w : World) (e : Ending) (w' : World) : Prop := ∃ s : ByteArray, e = .returned (.string s) ∧ s.data.toList = l ∧ Below w.heap.size w w'
theorem bsize {s : ByteArray} {l : List UInt8} (h : s.data.toList = l) : s.size = l.length := by rw [← h]; exact (Array.length_toList (xs := s.data)).symm

set_option maxRecDepth 100000 in
set_option maxHeartbeats 6400000 in
theorem rtext_numT (t : LT) (show_ : Bool) (w : World) (hk : t.k = 1) (hl : t.ln ≤ 1000) (hs : Sl w t.la t.ln t.lc t.ys) :
    Calls Tryd.prog 30 #[.agg #[.int .i64 t.k, .bool t.g, .slice t.la t.ln t.lc, .bool t.bb, .string t.s, .slice t.ia t.items.length t.ic, .slice t.ta t.tail.length t.tc], .bool show_] w (TPost (wtxt (zOf t.g (val t.ys))) w) := by
  have hb : Below w.heap.size w (w.alloc (Obj.cells #[.int .i64 1, .bool t.g, .slice t.la t.ln t.lc, .bool t.bb, .string t.s, .slice t.ia t.items.length t.ic, .slice t.ta t.tail.length t.tc] 27)) := (Below.refl _ w).alloc (Nat.le_refl _) _
  have HT := Lib.hid (rwtext_num (w := w.alloc (Obj.cells #[.int .i64 1, .bool t.g, .slice t.la t.ln t.lc, .bool t.bb, .string t.s, .slice t.ia t.items.length t.ic, .slice t.ta t.tail.length t.tc] 27)) (u := .agg #[.bool t.g, .slice t.la t.ln t.lc]) (a := zOf t.g (val t.ys)) (K := 1000) ⟨t.g, _, val t.ys, rfl, ⟨t.la, t.ln, t.lc, t.ys, rfl, hs.below hb, rfl, hl⟩, rfl⟩ (by decide))
  have HB := Lib.hid hb
  rw [hk]
  clear hk hb hs
  go_enter Tryd.func30, Tryd.ntmps30
  go_wp2_with fail
  refine HT.out.mono ?_
  rintro e w3 ⟨s, rfl, hs, b3⟩
  have HS := Lib.hid (And.intro hs (bnext HB.out b3))
  clear hs b3
  go_wp2_with fail
  go_ret
  exact ⟨s, rfl, HS.out⟩

set_option maxRecDepth 100000 in
set_option maxHeartbeats 6400000 in
theorem rtext_boolT (t : LT) (show_ : Bool) (w : World) (hk : t.k = 2) :
    Calls Tryd.prog 30 #[.agg #[.int .i64 t.k, .bool t.g, .slice t.la t.ln t.lc, .bool t.bb, .string t.s, .slice t.ia t.items.length t.ic, .slice t.ta t.tail.length t.tc], .bool show_] w (TPost (if t.bb then [35, 116] else [35, 102]) w) := by
  have HB := Lib.hid ((Below.refl w.heap.size w).alloc (Nat.le_refl _) (Obj.cells #[.int .i64 2, .bool t.g, .slice t.la t.ln t.lc, .bool t.bb, .string t.s, .slice t.ia t.items.length t.ic, .slice t.ta t.tail.length t.tc] 27))
  rw [hk]
  clear hk
  generalize t.bb = x at *
  cases x
  all_goals
    go_enter Tryd.func30, Tryd.ntmps30
    go_wp2_with fail
    go_ret
    exact ⟨_, rfl, rfl, HB.out⟩

set_option maxRecDepth 100000 in
set_option maxHeartbeats 6400000 in
theorem rtext_symT (t : LT) (show_ : Bool) (w : World) (hk : t.k = 3) (hs : t.s.size ≤ 1100) :
    Calls Tryd.prog 30 #[.agg #[.int .i64 t.k, .bool t.g, .slice t.la t.ln t.lc, .bool t.bb, .string t.s, .slice t.ia t.items.length t.ic, .slice t.ta t.tail.length t.tc], .bool show_] w (TPost ((if show_ then t.s else nameS t.s).data.toList) w) := by
  have HB := Lib.hid ((Below.refl w.heap.size w).alloc (Nat.le_refl _) (Obj.cells #[.int .i64 3, .bool t.g, .slice t.la t.ln t.lc, .bool t.bb, .string t.s, .slice t.ia t.items.length t.ic, .slice t.ta t.tail.length t.tc] 27))
  have HT := Lib.hid (rname_any t.s (w.alloc (Obj.cells #[.int .i64 3, .bool t.g, .slice t.la t.ln t.lc, .bool t.bb, .string t.s, .slice t.ia t.items.length t.ic, .slice t.ta t.tail.length t.tc] 27)) hs)
  rw [hk]
  clear hk
  cases show_ with
  | true =>
    go_enter Tryd.func30, Tryd.ntmps30
    go_wp2_with fail
    go_ret
    exact ⟨_, rfl, rfl, HB.out⟩
  | false =>
    go_enter Tryd.func30, Tryd.ntmps30
    go_wp2_with fail
    refine HT.out.mono ?_
    rintro e w3 ⟨rfl, b3⟩
    go_wp2_with fail
    go_ret
    exact ⟨_, rfl, rfl, bnext HB.out b3⟩

set_option maxRecDepth 100000 in
set_option maxHeartbeats 6400000 in
theorem rtext_strT (t : LT) (show_ : Bool) (w : World) (hk : t.k = 4) (hs : t.s.size ≤ 1100) :
    Calls Tryd.prog 30 #[.agg #[.int .i64 t.k, .bool t.g, .slice t.la t.ln t.lc, .bool t.bb, .string t.s, .slice t.ia t.items.length t.ic, .slice t.ta t.tail.length t.tc], .bool show_] w (TPost ((if show_ then t.s else quoS t.s).data.toList) w) := by
  have HB := Lib.hid ((Below.refl w.heap.size w).alloc (Nat.le_refl _) (Obj.cells #[.int .i64 4, .bool t.g, .slice t.la t.ln t.lc, .bool t.bb, .string t.s, .slice t.ia t.items.length t.ic, .slice t.ta t.tail.length t.tc] 27))
  have HT := Lib.hid (rquote_any t.s (w.alloc (Obj.cells #[.int .i64 4, .bool t.g, .slice t.la t.ln t.lc, .bool t.bb, .string t.s, .slice t.ia t.items.length t.ic, .slice t.ta t.tail.length t.tc] 27)) hs)
  rw [hk]
  clear hk
  cases show_ with
  | true =>
    go_enter Tryd.func30, Tryd.ntmps30
    go_wp2_with fail
    go_ret
    exact ⟨_, rfl, rfl, HB.out⟩
  | false =>
    go_enter Tryd.func30, Tryd.ntmps30
    go_wp2_with fail
    refine HT.out.mono ?_
    rintro e w3 ⟨rfl, b3⟩
    go_wp2_with fail
    go_ret
    exact ⟨_, rfl, rfl, bnext HB.out b3⟩

set_option maxRecDepth 100000 in
set_option maxHeartbeats 6400000 in
theorem rtext_otherT (t : LT) (show_ : Bool) (w : World) (h1 : t.k ≠ 1) (h2 : t.k ≠ 2) (h3 : t.k ≠ 3) (h4 : t.k ≠ 4) (h5 : t.k ≠ 5) :
    Calls Tryd.prog 30 #[.agg #[.int .i64 t.k, .bool t.g, .slice t.la t.ln t.lc, .bool t.bb, .string t.s, .slice t.ia t.items.length t.ic, .slice t.ta t.tail.length t.tc], .bool show_] w (TPost [35, 118] w) := by
  have HB := Lib.hid ((Below.refl w.heap.size w).alloc (Nat.le_refl _) (Obj.cells #[.int .i64 t.k, .bool t.g, .slice t.la t.ln t.lc, .bool t.bb, .string t.s, .slice t.ia t.items.length t.ic, .slice t.ta t.tail.length t.tc] 27))
  have q1 : (t.k == 1) = false := beq_eq_false_iff_ne.2 h1
  have q2 : (t.k == 2) = false := beq_eq_false_iff_ne.2 h2
  have q3 : (t.k == 3) = false := beq_eq_false_iff_ne.2 h3
  have q4 : (t.k == 4) = false := beq_eq_false_iff_ne.2 h4
  have q5 : (t.k == 5) = false := beq_eq_false_iff_ne.2 h5
  go_enter Tryd.func30, Tryd.ntmps30
  go_wp2_with fail
  go_ret
  exact ⟨_, rfl, rfl, HB.out⟩

def RtRel (t : LT) (tf tg : ByteArray → ByteArray) (w : World) (s i : Value) (wr : World) : Prop :=
  ∃ (k : Nat) (sb : ByteArray), k ≤ t.items.length ∧ i = .int .i64 k ∧ s = .string sb ∧ Hid (sb.data.toList = wR tf tg ((shapes t.items).take k)) ∧ sb.size ≤ 100000000 ∧ Below w.heap.size w wr ∧ Hid (VarD wr w.heap.size t)
theorem cat3 (a b c : ByteArray) : (a ++ b ++ c).data.toList = a.data.toList ++ b.data.toList ++ c.data.toList := by rw [ByteArray.data_append, ByteArray.data_append, Array.toList_append, Array.toList_append]
theorem cat2 (a b : ByteArray) : (a ++ b).data.toList = a.data.toList ++ b.data.toList := by rw [ByteArray.data_append, Array.toList_append]

set_option maxRecDepth 100000 in
set_option maxHeartbeats 12800000 in
theorem rtext_listT (M N : Nat) (show_ : Bool) (tf tg : ByteArray → ByteArray)
    (ih : ∀ u : LT, u.size ≤ N → ∀ w : World, M ≤ w.heap.size → Held w M u → AllD pB (shape u) → One1 (shape u) → (wD tf tg (shape u)).length < 100000000 → Calls Tryd.prog 30 #[.agg #[.int .i64 u.k, .bool u.g, .slice u.la u.ln u.lc, .bool u.bb, .string u.s, .slice u.ia u.items.length u.ic, .slice u.ta u.tail.length u.tc], .bool show_] w (TPost (wD tf tg (shape u)) w))
    (t : LT) (hsz : t.size ≤ N + 1) (hk : t.k = 5) (w : World) (hM : M ≤ w.heap.size) (hH : Held w M t) (hA : AllD pB (shape t)) (hO : One1 (shape t)) (hl : (wD tf tg (shape t)).length < 100000000) :
    Calls Tryd.prog 30 #[.agg #[.int .i64 t.k, .bool t.g, .slice t.la t.ln t.lc, .bool t.bb, .string t.s, .slice t.ia t.items.length t.ic, .slice t.ta t.tail.length t.tc], .bool show_] w (TPost (wD tf tg (shape t)) w) := by
  rw [wD_list tf tg t hk] at hl ⊢
  have hls : (wR tf tg (shapes t.items)).length + (wTl tf tg (shapes t.tail)).length + 2 < 100000000 := by simp only [List.length_cons, List.length_append, List.length_nil] at hl; omega
  have hb0 : Below w.heap.size w (w.alloc (Obj.cells #[.int .i64 t.k, .bool t.g, .slice t.la t.ln t.lc, .bool t.bb, .string t.s, .slice t.ia t.items.length t.ic, .slice t.ta t.tail.length t.tc] 27)) := (Below.refl _ w).alloc (Nat.le_refl _) _
  have q1 : (t.k == 1) = false := beq_eq_false_iff_ne.2 (by omega)
  have q2 : (t.k == 2) = false := beq_eq_false_iff_ne.2 (by omega)
  have q3 : (t.k == 3) = false := beq_eq_false_iff_ne.2 (by omega)
  have q4 : (t.k == 4) = false := beq_eq_false_iff_ne.2 (by omega)
  have q5 : (t.k == 5) = true := beq_iff_eq.2 hk
  have HS := Lib.hid (And.intro hsz (And.intro hA ((one1_eq t).1 hO)))
  have HIH := Lib.hid ih
  have HH := Lib.hid hH
  have HB0 := Lib.hid hb0
  have ht1 := ((one1_eq t).1 hO).1
  have D := VarD.new w t
  clear hsz hA hk ih hH hl hO hb0
  generalize hwD : 40 :: (wR tf tg (shapes t.items) ++ (wTl tf tg (shapes t.tail) ++ [41])) = out at *
  have HWD := Lib.hid hwD
  clear hwD
  by_cases hn : 0 < t.items.length
  · have haa := (HH.out.2.1.2.2.1 hn).1
    have hgM := (HH.out.2.1.2.2.1 hn).2
    have hcap := HH.out.2.1.2.1
    have hcl := HH.out.2.1.1
    unfold maxLen at hcap
    have HV0 := Lib.hid D
    clear D
    generalize hgb : blk t.ia = gb at *
    generalize hgo : ofs t.ia = go at *
    rw [haa] at HV0 HB0 ⊢
    have HA := Lib.hid haa
    have HGB := Lib.hid (And.intro hgb hgo)
    clear haa hgb hgo
    go_enter Tryd.func30, Tryd.ntmps30
    go_wp2_with fail
    go_loopw [5, 42] (fun s i wr => RtRel t tf tg w s i wr) (fun _ i _ => t.items.length - (intOf i).toNat)
    case atStart => exact ⟨0, ⟨#[]⟩, Nat.zero_le _, rfl, rfl, Lib.hid (by simp [wR_nil]), by decide, HB0.out, HV0⟩
    case round =>
      obtain ⟨k, sb, hk, rfl, rfl, HT, hsb8, hbel, HV⟩ := hrel
      by_cases hlt : k < t.items.length
      · have hHw := HH.out.below hM hbel
        have hli := (liesR_iff _ _ _).1 hHw.2.2.2.1 k hlt
        rw [HGB.out.1, HGB.out.2] at hli
        obtain ⟨_, hcell, hheld⟩ := lies_held.1 hli
        have hszx := sizes_mem hlt
        have hszs := t.size_eq
        have tk := shapes_take t.items k hlt
        have hlen1 := wR_take tf tg (shapes t.items) (k + 1)
        have hAx := allDR_at t.items k hlt ((allD_eq t).1 HS.out.2.1).2.1
        have hOx := one1R_at t.items k hlt HS.out.2.2.2.1
        generalize t.items[k] = x at *
        rw [Nat.mul_comm 7 k] at hcell
        have d0 : wr.cell? ⟨gb, go + k * 7, none⟩ = some (.int .i64 x.k) := hcell 0 _ rfl
        have d1 : wr.cell? ⟨gb, go + k * 7 + 1, none⟩ = some (.bool x.g) := hcell 1 _ rfl
        have d2 : wr.cell? ⟨gb, go + k * 7 + 2, none⟩ = some (.slice x.la x.ln x.lc) := hcell 2 _ rfl
        have d3 : wr.cell? ⟨gb, go + k * 7 + 3, none⟩ = some (.bool x.bb) := hcell 3 _ rfl
        have d4 : wr.cell? ⟨gb, go + k * 7 + 4, none⟩ = some (.string x.s) := hcell 4 _ rfl
        have d5 : wr.cell? ⟨gb, go + k * 7 + 5, none⟩ = some (.slice x.ia x.items.length x.ic) := hcell 5 _ rfl
        have d6 : wr.cell? ⟨gb, go + k * 7 + 6, none⟩ = some (.slice x.ta x.tail.length x.tc) := hcell 6 _ rfl
        generalize hnn : t.items.length = n at *
        have hba := (Below.refl wr.heap.size wr).alloc (Nat.le_refl _) (Obj.cells #[.int .i64 x.k, .bool x.g, .slice x.la x.ln x.lc, .bool x.bb, .string x.s, .slice x.ia x.items.length x.ic, .slice x.ta x.tail.length x.tc] 27)
        have hsbk := bsize HT.out
        have hbs := hbel.size
        have hlk := wR_take tf tg (shapes t.items) k
        have hwx : (wD tf tg (shape x)).length ≤ (wR tf tg (shapes t.items)).length := by
          by_cases hk0 : k = 0
          · subst hk0
            rw [tk, List.take_zero, List.nil_append, wR_one] at hlen1
            exact hlen1
          · rw [tk, wR_snoc _ _ _ _ (take_ne (by omega) (by rw [hnn]; exact hlt))] at hlen1
            simp only [List.length_append, List.length_cons] at hlen1
            omega
        have HC := Lib.hid (HIH.out x (by have := HS.out.1; omega) (wr.alloc (Obj.cells #[.int .i64 x.k, .bool x.g, .slice x.la x.ln x.lc, .bool x.bb, .string x.s, .slice x.ia x.items.length x.ic, .slice x.ta x.tail.length x.tc] 27)) (by have := hba.size; omega) (hheld.below (by omega) hba) hAx hOx (by omega))
        have HX := Lib.hid (And.intro tk (And.intro hnn (And.intro (hbel.trans (hba.mono hbs)) (HV.out.next hba))))
        clear hba hcell hheld hli hHw hszx hszs hAx hOx tk hnn hbel
        by_cases hk0 : k = 0
        · subst hk0
          simp only [Nat.zero_mul, Nat.add_zero] at d0 d1 d2 d3 d4 d5 d6
          have htk : wR tf tg ((shapes t.items).take (0 + 1)) = wD tf tg (shape x) := by rw [HX.out.1, List.take_zero, List.nil_append, wR_one]
          have hsb0 : sb.data.toList = [] := by rw [HT.out, List.take_zero, wR_nil]
          have HTK := Lib.hid (And.intro htk hsb0)
          clear htk hsb0 hlen1
          go_wp2_with fail
          refine HC.out.mono ?_
          rintro e w5 ⟨s2, rfl, hs2, b5⟩
          have hs2s := bsize hs2
          have HN := Lib.hid (show RtRel t tf tg w (.string (sb ++ s2)) (.int .i64 1) w5 from by
            refine ⟨1, sb ++ s2, by rw [HX.out.2.1]; omega, rfl, rfl, Lib.hid ?_, ?_, bnext HX.out.2.2.1 b5, Lib.hid (HX.out.2.2.2.next b5)⟩
            · rw [cat2, HTK.out.2, hs2, List.nil_append, show (1 : Nat) = 0 + 1 from rfl, HTK.out.1]
            · rw [ByteArray.size_append, hs2s, bsize HTK.out.2]; simp only [List.length_nil]; omega)
          clear hs2 b5 d0 d1 d2 d3 d4 d5 d6
          go_wp2_with fail
          go_roundw
          case rel => exact HN.out
          case measure => simp [intOf]; omega
        · have hkp : 0 < k := by omega
          have hkd : decide ((0 : Int) < (k : Nat)) = true := decide_eq_true (by omega)
          have htk : wR tf tg ((shapes t.items).take (k + 1)) = wR tf tg ((shapes t.items).take k) ++ 32 :: wD tf tg (shape x) := by rw [HX.out.1, wR_snoc _ _ _ _ (take_ne (by omega) (by rw [HX.out.2.1]; exact hlt))]
          have hlx : (wR tf tg ((shapes t.items).take k)).length + 1 + (wD tf tg (shape x)).length ≤ (wR tf tg (shapes t.items)).length := by rw [htk] at hlen1; simp only [List.length_append, List.length_cons] at hlen1; omega
          have HTK := Lib.hid htk
          clear htk hlen1 hk0
          go_wp2_with fail
          refine HC.out.mono ?_
          rintro e w5 ⟨s2, rfl, hs2, b5⟩
          have hs2s := bsize hs2
          have HN := Lib.hid (show RtRel t tf tg w (.string (sb ++ ⟨#[32]⟩ ++ s2)) (.int .i64 (k + 1)) w5 from by
            refine ⟨k + 1, sb ++ ⟨#[32]⟩ ++ s2, by rw [HX.out.2.1]; omega, by simp, rfl, Lib.hid ?_, ?_, bnext HX.out.2.2.1 b5, Lib.hid (HX.out.2.2.2.next b5)⟩
            · rw [cat3, HT.out, hs2, HTK.out]
              simp
            · rw [ByteArray.size_append, ByteArray.size_append, hs2s, hsbk, show (⟨#[32]⟩ : ByteArray).size = 1 from rfl]; omega)
          have hsb9 : sb.size ≤ 100000000 := hsb8
          clear hs2 b5 d0 d1 d2 d3 d4 d5 d6 hkd
          go_wp2_with fail
          go_roundw
          case rel => exact HN.out
          case measure => simp [intOf]; omega
      · obtain rfl : k = t.items.length := by omega
        have hsb : sb.data.toList = wR tf tg (shapes t.items) := by have h := HT.out; rwa [List.take_of_length_le (by rw [shapes_length]; exact Nat.le_refl _)] at h
        clear hlt hgM hcap hcl HT
        have hD6 := (HV.out.c).2.2.2.2.2.2
        have hbs := hbel.size
        have HSB := Lib.hid hsb
        clear hsb
        by_cases hm : t.tail.length = 0
        · rw [hm] at hD6
          have HTN := Lib.hid (List.length_eq_zero_iff.1 hm)
          have hbw := hbel
          obtain ⟨wo, hwo⟩ : ∃ wo, wo = wr := ⟨_, rfl⟩
          rw [← hwo] at hD6 hbw ⊢
          clear hwo hbel
          go_wp2_with fail
          go_loopw [5, 60] (fun s j ws => s = .string sb ∧ j = .int .i64 0 ∧ ws = wo) (fun _ _ _ => 0)
          case atStart => exact ⟨rfl, rfl, rfl⟩
          case round =>
            clear hD6
            obtain ⟨rfl, rfl, rfl⟩ := hrel
            go_wp2_with fail
            go_ret
            refine ⟨_, rfl, ?_, hbw⟩
            rw [← HWD.out, HTN.out, shapes_nil, wTl_nil, cat3, HSB.out]
            rfl
        · obtain ⟨y, hy⟩ : ∃ y, t.tail = [y] := by
            have hl1 : t.tail.length = 1 := by omega
            cases hc : t.tail with
            | nil => rw [hc] at hl1; cases hl1
            | cons y ys =>
              rw [hc] at hl1
              obtain rfl : ys = [] := List.length_eq_zero_iff.1 (by simpa using hl1)
              exact ⟨y, rfl⟩
          have HY := Lib.hid hy
          have hm1 : t.tail.length = 1 := by rw [hy]; rfl
          have hHw := HH.out.below hM hbel
          have hta := (hHw.2.2.1.2.2.1 (by omega)).1
          have htM := (hHw.2.2.1.2.2.1 (by omega)).2
          have htc := hHw.2.2.1.2.1
          have htl := hHw.2.2.1.1
          unfold maxLen at htc
          rw [hm1] at hD6 htl
          rw [hta] at hD6
          have htR := hHw.2.2.2.2
          rw [hy, liesR_cons] at htR
          obtain ⟨_, hyc0, hyh0⟩ := lies_held.1 htR.1
          have HYC := Lib.hid (And.intro hyc0 hyh0)
          have hsy := t.size_eq
          have hsy2 : sizes t.tail = y.size := by rw [hy]; simp [sizes]
          have hAy : AllD pB (shape y) := by
            have h := ((allD_eq t).1 HS.out.2.1).2.2
            rw [hy, shapes_cons] at h
            simp only [AllDR] at h
            exact h.1
          have hOy : One1 (shape y) := by
            have h := HS.out.2.2.2.2
            rw [hy, shapes_cons] at h
            simp only [One1R] at h
            exact h.1
          have hlw : (wTl tf tg (shapes t.tail)).length = 3 + (wD tf tg (shape y)).length := by rw [hy, shapes_cons, wTl_cons]; simp only [List.length_cons]; omega
          have HIY := Lib.hid (fun W (hW : Below wr.heap.size wr W) => HIH.out y (by have := HS.out.1; omega) W (by have := hW.size; omega) (hyh0.below (by omega) hW) hAy hOy (by omega))
          have hsbs : sb.size = (wR tf tg (shapes t.items)).length := bsize HSB.out
          have hbw := Lib.hid hbel
          generalize blk t.ta = tb at *
          generalize ofs t.ta = to at *
          clear hta htR hyc0 hyh0 hHw hAy hOy hm hy hm1
          obtain ⟨wo, rfl⟩ : ∃ wo : World, wo = wr := ⟨_, rfl⟩
          go_wp2_with fail
          clear hD6
          go_loopw [5, 60] (fun s j ws => ∃ (q : Nat) (sc : ByteArray), q ≤ 1 ∧ j = .int .i64 q ∧ s = .string sc ∧ Hid (sc.data.toList = wR tf tg (shapes t.items) ++ (if q = 0 then [] else wTl tf tg (shapes t.tail))) ∧ sc.size ≤ 100000000 ∧ Below wo.heap.size wo ws) (fun _ j _ => 1 - (intOf j).toNat)
          case atStart => exact ⟨0, sb, by decide, rfl, rfl, Lib.hid (by rw [HSB.out, if_pos rfl, List.append_nil]), hsb8, Below.refl _ _⟩
          case round =>
            obtain ⟨q, sc, hq, rfl, rfl, HQ, hsc8, hws⟩ := hrel
            by_cases hq0 : q = 0
            · subst hq0
              have hws9 := hws.size
              have hyc : ∀ j v, y.cells[j]? = some v → wr.cell? ⟨tb, to + j, none⟩ = some v := fun j v hj => (hws.cell (p := ⟨tb, to + j, none⟩) (by show tb < wo.heap.size; omega)).trans (HYC.out.1 j v hj)
              have y0 : wr.cell? ⟨tb, to, none⟩ = some (.int .i64 y.k) := hyc 0 _ rfl
              have y1 : wr.cell? ⟨tb, to + 1, none⟩ = some (.bool y.g) := hyc 1 _ rfl
              have y2 : wr.cell? ⟨tb, to + 2, none⟩ = some (.slice y.la y.ln y.lc) := hyc 2 _ rfl
              have y3 : wr.cell? ⟨tb, to + 3, none⟩ = some (.bool y.bb) := hyc 3 _ rfl
              have y4 : wr.cell? ⟨tb, to + 4, none⟩ = some (.string y.s) := hyc 4 _ rfl
              have y5 : wr.cell? ⟨tb, to + 5, none⟩ = some (.slice y.ia y.items.length y.ic) := hyc 5 _ rfl
              have y6 : wr.cell? ⟨tb, to + 6, none⟩ = some (.slice y.ta y.tail.length y.tc) := hyc 6 _ rfl
              have hQ0 : sc.data.toList = wR tf tg (shapes t.items) := by have h := HQ.out; simpa using h
              have hscs : sc.size = (wR tf tg (shapes t.items)).length := bsize hQ0
              have hba := Lib.hid (hws.trans (((Below.refl wr.heap.size wr).alloc (Nat.le_refl _) (Obj.cells #[.int .i64 y.k, .bool y.g, .slice y.la y.ln y.lc, .bool y.bb, .string y.s, .slice y.ia y.items.length y.ic, .slice y.ta y.tail.length y.tc] 27)).mono hws.size))
              clear hyc hws
              go_wp2_with fail
              refine (HIY.out _ hba.out).mono ?_
              rintro e w5 ⟨s2, rfl, hs2, b5⟩
              have hs2s := bsize hs2
              have HN := Lib.hid (And.intro (show (sc ++ (⟨#[32, 46, 32]⟩ ++ s2)).data.toList = wR tf tg (shapes t.items) ++ (if (1 : Nat) = 0 then [] else wTl tf tg (shapes t.tail)) by
                rw [cat2, cat2, hQ0, HY.out, shapes_cons, wTl_cons, hs2]
                simp) (bnext hba.out b5))
              have hsz5 : (sc ++ (⟨#[32, 46, 32]⟩ ++ s2)).size ≤ 100000000 := by rw [ByteArray.size_append, ByteArray.size_append, hs2s, hscs, show (⟨#[32, 46, 32]⟩ : ByteArray).size = 3 from rfl]; omega
              clear hs2 b5 y0 y1 y2 y3 y4 y5 y6
              go_wp2_with fail
              go_roundw
              case rel => exact ⟨1, _, by decide, rfl, rfl, HN.out.1 |> Lib.hid, hsz5, HN.out.2⟩
              case measure => simp [intOf]
            · obtain rfl : q = 1 := by omega
              go_wp2_with fail
              go_ret
              refine ⟨_, rfl, ?_, hbw.out.trans (hws.mono hbs)⟩
              rw [← HWD.out, cat3, HQ.out, if_neg (by decide)]
              simp
  · have hn0 : t.items.length = 0 := by omega
    have HV0 := Lib.hid D
    rw [hn0] at HV0 HB0 ⊢
    have HX := Lib.hid hn0
    clear D hn hn0
    go_enter Tryd.func30, Tryd.ntmps30
    go_wp2_with fail
    go_loopw [5, 42] (fun s i wr => RtRel t tf tg w s i wr) (fun _ _ _ => 0)
    case atStart => exact ⟨0, ⟨#[]⟩, Nat.zero_le _, rfl, rfl, Lib.hid (by simp [wR_nil]), by decide, HB0.out, HV0⟩
    case round =>
      obtain ⟨k, sb, hk, rfl, rfl, HT, hsb8, hbel, HV⟩ := hrel
      rw [HX.out] at hk
      have hk0 : k = 0 := by omega
      have hkf : decide ((k : Int) < 0) = false := decide_eq_false (by omega)
      have hsb : sb.data.toList = wR tf tg (shapes t.items) := by have h := HT.out; rw [List.length_eq_zero_iff.1 HX.out, shapes_nil] at h ⊢; simpa using h
      clear HT hk0 hk
      have hD6 := (HV.out.c).2.2.2.2.2.2
      have hbs := hbel.size
      have HSB := Lib.hid hsb
      clear hsb
      by_cases hm : t.tail.length = 0
      · rw [hm] at hD6
        have HTN := Lib.hid (List.length_eq_zero_iff.1 hm)
        have hbw := hbel
        obtain ⟨wo, hwo⟩ : ∃ wo, wo = wr := ⟨_, rfl⟩
        rw [← hwo] at hD6 hbw ⊢
        clear hwo hbel
        go_wp2_with fail
        go_loopw [5, 60] (fun s j ws => s = .string sb ∧ j = .int .i64 0 ∧ ws = wo) (fun _ _ _ => 0)
        case atStart => exact ⟨rfl, rfl, rfl⟩
        case round =>
          clear hD6
          obtain ⟨rfl, rfl, rfl⟩ := hrel
          go_wp2_with fail
          go_ret
          refine ⟨_, rfl, ?_, hbw⟩
          rw [← HWD.out, HTN.out, shapes_nil, wTl_nil, cat3, HSB.out]
          rfl
      · obtain ⟨y, hy⟩ : ∃ y, t.tail = [y] := by
          have hl1 : t.tail.length = 1 := by omega
          cases hc : t.tail with
          | nil => rw [hc] at hl1; cases hl1
          | cons y ys =>
            rw [hc] at hl1
            obtain rfl : ys = [] := List.length_eq_zero_iff.1 (by simpa using hl1)
            exact ⟨y, rfl⟩
        have HY := Lib.hid hy
        have hm1 : t.tail.length = 1 := by rw [hy]; rfl
        have hHw := HH.out.below hM hbel
        have hta := (hHw.2.2.1.2.2.1 (by omega)).1
        have htM := (hHw.2.2.1.2.2.1 (by omega)).2
        have htc := hHw.2.2.1.2.1
        have htl := hHw.2.2.1.1
        unfold maxLen at htc
        rw [hm1] at hD6 htl
        rw [hta] at hD6
        have htR := hHw.2.2.2.2
        rw [hy, liesR_cons] at htR
        obtain ⟨_, hyc0, hyh0⟩ := lies_held.1 htR.1
        have HYC := Lib.hid (And.intro hyc0 hyh0)
        have hsy := t.size_eq
        have hsy2 : sizes t.tail = y.size := by rw [hy]; simp [sizes]
        have hAy : AllD pB (shape y) := by
          have h := ((allD_eq t).1 HS.out.2.1).2.2
          rw [hy, shapes_cons] at h
          simp only [AllDR] at h
          exact h.1
        have hOy : One1 (shape y) := by
          have h := HS.out.2.2.2.2
          rw [hy, shapes_cons] at h
          simp only [One1R] at h
          exact h.1
        have hlw : (wTl tf tg (shapes t.tail)).length = 3 + (wD tf tg (shape y)).length := by rw [hy, shapes_cons, wTl_cons]; simp only [List.length_cons]; omega
        have HIY := Lib.hid (fun W (hW : Below wr.heap.size wr W) => HIH.out y (by have := HS.out.1; omega) W (by have := hW.size; omega) (hyh0.below (by omega) hW) hAy hOy (by omega))
        have hsbs : sb.size = (wR tf tg (shapes t.items)).length := bsize HSB.out
        have hbw := Lib.hid hbel
        generalize blk t.ta = tb at *
        generalize ofs t.ta = to at *
        clear hta htR hyc0 hyh0 hHw hAy hOy hm hy hm1
        obtain ⟨wo, rfl⟩ : ∃ wo : World, wo = wr := ⟨_, rfl⟩
        go_wp2_with fail
        clear hD6
        go_loopw [5, 60] (fun s j ws => ∃ (q : Nat) (sc : ByteArray), q ≤ 1 ∧ j = .int .i64 q ∧ s = .string sc ∧ Hid (sc.data.toList = wR tf tg (shapes t.items) ++ (if q = 0 then [] else wTl tf tg (shapes t.tail))) ∧ sc.size ≤ 100000000 ∧ Below wo.heap.size wo ws) (fun _ j _ => 1 - (intOf j).toNat)
        case atStart => exact ⟨0, sb, by decide, rfl, rfl, Lib.hid (by rw [HSB.out, if_pos rfl, List.append_nil]), hsb8, Below.refl _ _⟩
        case round =>
          obtain ⟨q, sc, hq, rfl, rfl, HQ, hsc8, hws⟩ := hrel
          by_cases hq0 : q = 0
          · subst hq0
            have hws9 := hws.size
            have hyc : ∀ j v, y.cells[j]? = some v → wr.cell? ⟨tb, to + j, none⟩ = some v := fun j v hj => (hws.cell (p := ⟨tb, to + j, none⟩) (by show tb < wo.heap.size; omega)).trans (HYC.out.1 j v hj)
            have y0 : wr.cell? ⟨tb, to, none⟩ = some (.int .i64 y.k) := hyc 0 _ rfl
            have y1 : wr.cell? ⟨tb, to + 1, none⟩ = some (.bool y.g) := hyc 1 _ rfl
            have y2 : wr.cell? ⟨tb, to + 2, none⟩ = some (.slice y.la y.ln y.lc) := hyc 2 _ rfl
            have y3 : wr.cell? ⟨tb, to + 3, none⟩ = some (.bool y.bb) := hyc 3 _ rfl
            have y4 : wr.cell? ⟨tb, to + 4, none⟩ = some (.string y.s) := hyc 4 _ rfl
            have y5 : wr.cell? ⟨tb, to + 5, none⟩ = some (.slice y.ia y.items.length y.ic) := hyc 5 _ rfl
            have y6 : wr.cell? ⟨tb, to + 6, none⟩ = some (.slice y.ta y.tail.length y.tc) := hyc 6 _ rfl
            have hQ0 : sc.data.toList = wR tf tg (shapes t.items) := by have h := HQ.out; simpa using h
            have hscs : sc.size = (wR tf tg (shapes t.items)).length := bsize hQ0
            have hba := Lib.hid (hws.trans (((Below.refl wr.heap.size wr).alloc (Nat.le_refl _) (Obj.cells #[.int .i64 y.k, .bool y.g, .slice y.la y.ln y.lc, .bool y.bb, .string y.s, .slice y.ia y.items.length y.ic, .slice y.ta y.tail.length y.tc] 27)).mono hws.size))
            clear hyc hws
            go_wp2_with fail
            refine (HIY.out _ hba.out).mono ?_
            rintro e w5 ⟨s2, rfl, hs2, b5⟩
            have hs2s := bsize hs2
            have HN := Lib.hid (And.intro (show (sc ++ (⟨#[32, 46, 32]⟩ ++ s2)).data.toList = wR tf tg (shapes t.items) ++ (if (1 : Nat) = 0 then [] else wTl tf tg (shapes t.tail)) by
              rw [cat2, cat2, hQ0, HY.out, shapes_cons, wTl_cons, hs2]
              simp) (bnext hba.out b5))
            have hsz5 : (sc ++ (⟨#[32, 46, 32]⟩ ++ s2)).size ≤ 100000000 := by rw [ByteArray.size_append, ByteArray.size_append, hs2s, hscs, show (⟨#[32, 46, 32]⟩ : ByteArray).size = 3 from rfl]; omega
            clear hs2 b5 y0 y1 y2 y3 y4 y5 y6
            go_wp2_with fail
            go_roundw
            case rel => exact ⟨1, _, by decide, rfl, rfl, HN.out.1 |> Lib.hid, hsz5, HN.out.2⟩
            case measure => simp [intOf]
          · obtain rfl : q = 1 := by omega
            go_wp2_with fail
            go_ret
            refine ⟨_, rfl, ?_, hbw.out.trans (hws.mono hbs)⟩
            rw [← HWD.out, cat3, HQ.out, if_neg (by decide)]
            simp

theorem rtext_tree (M : Nat) (show_ : Bool) (tf tg : ByteArray → ByteArray) (hs : (show_ = true ∧ tf = id ∧ tg = id) ∨ (show_ = false ∧ tf = nameS ∧ tg = quoS)) :
    ∀ (N : Nat) (t : LT), t.size ≤ N → ∀ w : World, M ≤ w.heap.size → Held w M t → AllD pB (shape t) → One1 (shape t) → (wD tf tg (shape t)).length < 100000000 → Calls Tryd.prog 30 #[.agg #[.int .i64 t.k, .bool t.g, .slice t.la t.ln t.lc, .bool t.bb, .string t.s, .slice t.ia t.items.length t.ic, .slice t.ta t.tail.length t.tc], .bool show_] w (TPost (wD tf tg (shape t)) w)
  | 0, t, ht, _, _, _, _, _, _ => by rw [t.size_eq] at ht; omega
  | N + 1, t, hsz, w, hM, hH, hA, hO, hl => by
    have hp := ((allD_eq t).1 hA).1
    by_cases h1 : t.k = 1
    · rw [wD_num tf tg t h1]
      exact rtext_numT t show_ w h1 (by rw [hH.1.1.len]; exact hp.2.1) hH.1.1
    · by_cases h2 : t.k = 2
      · rw [wD_bool tf tg t h2]
        exact rtext_boolT t show_ w h2
      · by_cases h3 : t.k = 3
        · rw [wD_sym tf tg t h3]
          have h := rtext_symT t show_ w h3 hp.2.2
          rcases hs with ⟨rfl, rfl, rfl⟩ | ⟨rfl, rfl, rfl⟩ <;> simpa using h
        · by_cases h4 : t.k = 4
          · rw [wD_str tf tg t h4]
            have h := rtext_strT t show_ w h4 hp.2.2
            rcases hs with ⟨rfl, rfl, rfl⟩ | ⟨rfl, rfl, rfl⟩ <;> simpa using h
          · by_cases h5 : t.k = 5
            · exact rtext_listT M N show_ tf tg (fun u hu w hM hH hA hO hl => rtext_tree M show_ tf tg hs N u hu w hM hH hA hO hl) t hsz h5 w hM hH hA hO hl
            · rw [wD_other tf tg t h1 h2 h3 h4 h5]
              exact rtext_otherT t show_ w h1 h2 h3 h4 h5
end Go.Proofs.YtgfamihldecmbaaDoor
