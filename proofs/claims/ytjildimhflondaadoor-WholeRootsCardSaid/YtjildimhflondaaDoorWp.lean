/-
  whole.Parse: its contracts; whole.Good of a number that is good.
-/
import Derived.Test.YtjildimhflondaaDoorWc
import Derived.Test.YtjildimhflondaaDoorOwnMem
namespace Go.Proofs.YtjildimhflondaaDoor
open Go.RowKit
/-- What nat's Parse tells. -/
def PG (w : World) (ok : Bool) (m : Nat) (e : Ending) (w' : World) : Prop := ∃ v, e = .returned (.tuple #[v, .bool ok]) ∧ New w' w.heap.size v (limbs m) ∧ Below w.heap.size w w'
def WP (w : World) (ok : Bool) (z : Int) (e : Ending) (w' : World) : Prop := ∃ v, e = .returned (.tuple #[v, .bool ok]) ∧ WNew w' w.heap.size v z ∧ Below w.heap.size w w'
theorem wretp {fn : Func} {a : Act} {t t2 : Tmp} {w w2 : World} {g base : Nat} {s0 x0 : Value} {b ok : Bool} {A : Option Addr} {n c : Nat} {z : Int} (h : fn.results = #[.cell t 36, .tmp t2]) (ht : a.tmps.getD t undef = .pointer (some ⟨g, 0, none⟩)) (ht2 : a.tmps.getD t2 undef = .bool ok) (hd : a.defers = [])
    (hv : Var w2 g s0 x0) (hn : WNew w2 base (.agg #[.bool b, .slice A n c]) z) (hbase : w.heap.size ≤ base) (hg : w.heap.size ≤ g) (hb : Below w.heap.size w w2) :
    bodyPost Tryd.prog fn (WP w ok z) .ret a ((w2.setCell ⟨g, 0, none⟩ (.bool b)).setCell ⟨g, 1, none⟩ (.slice A n c)) := by
  have h1 := (hv.set0 (.bool b)).set1 (.slice A n c)
  refine bodyPost_ret (results_wt h ht h1.c0 h1.c1) hd ⟨_, by rw [ht2], ?_, (hb.setCell hg _).setCell hg _⟩
  exact (WNew.farSet (hv.set0 (.bool b)) (WNew.farSet hv hn 0 (.bool b)) 1 (.slice A n c)).from_ hbase

set_option maxHeartbeats 1600000 in
theorem wparse_minus {w : World} (s : ByteArray) (h0 : 0 < s.size) (hc : s[0] = 45) (hsz : s.size ≤ 100000) (ok : Bool) (m : Nat) (hok : ok = false → m = 0)
    (HP : ∀ w, Calls Tryd.prog 49 #[.string (s.extract 1 s.size), .int .i64 10] w (PG w ok m)) : Calls Tryd.prog 45 #[.string s] w (WP w ok (zOf true m)) := by
  obtain ⟨W, hW, hr, hb⟩ := enter0r w
  have h45 : (((s[0].toNat : Nat) : Int) == 45) = true := by simp [hc]
  have HC := Lib.hid hc
  clear hc
  have HP' := Lib.hid (HP W)
  clear HP
  cases ok
  · obtain rfl := hok rfl
    have HZ : Hid (zOf true 0 = 0) := Lib.hid (zOf_zero.2 rfl)
    clear hok
    go_enter Tryd.func45, Tryd.ntmps45
    go_wp2_with fail
    rw [← hW]
    refine HP'.out.mono ?_
    rintro e w1 ⟨v, rfl, hv, hb1⟩
    have hr2 := hr.next hb1
    obtain ⟨q1, q2, q3, q4, q5, q6⟩ := hr2.room (.bool false)
    go_wp2_with fail
    rw [HZ.out]
    exact wretp rfl rfl rfl rfl hr2 (nil_wnew _ w.heap.size) (Nat.le_refl _) (Nat.le_refl _) (bnext hb hb1)
  · clear hok
    go_enter Tryd.func45, Tryd.ntmps45
    go_wp2_with fail
    rw [← hW]
    refine HP'.out.mono ?_
    rintro e w1 ⟨v, rfl, hv, hb1⟩
    go_wp2_with fail
    refine (signed_w true hv).mono ?_
    rintro e w2 ⟨b, xa, xn, xc, rfl, hnew, hb2⟩
    have hr2 := (hr.next hb1).next hb2
    obtain ⟨q1, q2, q3, q4, q5, q6⟩ := hr2.room (.bool b)
    go_wp2_with fail
    exact wretp rfl rfl rfl rfl hr2 hnew.out hb.size (Nat.le_refl _) (bnext (bnext hb hb1) hb2)

set_option maxHeartbeats 1600000 in
theorem wparse_plus {w : World} (s : ByteArray) (h0 : 0 < s.size) (hc : s[0] = 43) (hsz : s.size ≤ 100000) (ok : Bool) (m : Nat) (hok : ok = false → m = 0)
    (HP : ∀ w, Calls Tryd.prog 49 #[.string (s.extract 1 s.size), .int .i64 10] w (PG w ok m)) : Calls Tryd.prog 45 #[.string s] w (WP w ok (zOf false m)) := by
  obtain ⟨W, hW, hr, hb⟩ := enter0r w
  have h45 : (((s[0].toNat : Nat) : Int) == 45) = false := by simp [hc]
  have h43 : (((s[0].toNat : Nat) : Int) == 43) = true := by simp [hc]
  have HC := Lib.hid hc
  clear hc
  have HP' := Lib.hid (HP W)
  clear HP
  cases ok
  · obtain rfl := hok rfl
    have HZ : Hid (zOf false 0 = 0) := Lib.hid (zOf_zero.2 rfl)
    clear hok
    go_enter Tryd.func45, Tryd.ntmps45
    go_wp2_with fail
    rw [← hW]
    refine HP'.out.mono ?_
    rintro e w1 ⟨v, rfl, hv, hb1⟩
    have hr2 := hr.next hb1
    obtain ⟨q1, q2, q3, q4, q5, q6⟩ := hr2.room (.bool false)
    go_wp2_with fail
    rw [HZ.out]
    exact wretp rfl rfl rfl rfl hr2 (nil_wnew _ w.heap.size) (Nat.le_refl _) (Nat.le_refl _) (bnext hb hb1)
  · clear hok
    go_enter Tryd.func45, Tryd.ntmps45
    go_wp2_with fail
    rw [← hW]
    refine HP'.out.mono ?_
    rintro e w1 ⟨v, rfl, hv, hb1⟩
    go_wp2_with fail
    refine (signed_w false hv).mono ?_
    rintro e w2 ⟨b, xa, xn, xc, rfl, hnew, hb2⟩
    have hr2 := (hr.next hb1).next hb2
    obtain ⟨q1, q2, q3, q4, q5, q6⟩ := hr2.room (.bool b)
    go_wp2_with fail
    exact wretp rfl rfl rfl rfl hr2 hnew.out hb.size (Nat.le_refl _) (bnext (bnext hb hb1) hb2)

set_option maxHeartbeats 1600000 in
theorem wparse_none {w : World} (s : ByteArray) (h0 : 0 < s.size) (hc : s[0] ≠ 45) (hc2 : s[0] ≠ 43) (_hsz : s.size ≤ 100000) (ok : Bool) (m : Nat) (hok : ok = false → m = 0)
    (HP : ∀ w, Calls Tryd.prog 49 #[.string s, .int .i64 10] w (PG w ok m)) : Calls Tryd.prog 45 #[.string s] w (WP w ok (zOf false m)) := by
  obtain ⟨W, hW, hr, hb⟩ := enter0r w
  have h45 : (((s[0].toNat : Nat) : Int) == 45) = false := by
    rw [beq_eq_false_iff_ne]
    intro h
    exact hc (UInt8.toNat_inj.1 (show s[0].toNat = 45 by omega))
  have h43 : (((s[0].toNat : Nat) : Int) == 43) = false := by
    rw [beq_eq_false_iff_ne]
    intro h
    exact hc2 (UInt8.toNat_inj.1 (show s[0].toNat = 43 by omega))
  clear hc hc2
  have HP' := Lib.hid (HP W)
  clear HP
  cases ok
  · obtain rfl := hok rfl
    have HZ : Hid (zOf false 0 = 0) := Lib.hid (zOf_zero.2 rfl)
    clear hok
    go_enter Tryd.func45, Tryd.ntmps45
    go_wp2_with fail
    rw [← hW]
    refine HP'.out.mono ?_
    rintro e w1 ⟨v, rfl, hv, hb1⟩
    have hr2 := hr.next hb1
    obtain ⟨q1, q2, q3, q4, q5, q6⟩ := hr2.room (.bool false)
    go_wp2_with fail
    rw [HZ.out]
    exact wretp rfl rfl rfl rfl hr2 (nil_wnew _ w.heap.size) (Nat.le_refl _) (Nat.le_refl _) (bnext hb hb1)
  · clear hok
    go_enter Tryd.func45, Tryd.ntmps45
    go_wp2_with fail
    rw [← hW]
    refine HP'.out.mono ?_
    rintro e w1 ⟨v, rfl, hv, hb1⟩
    go_wp2_with fail
    refine (signed_w false hv).mono ?_
    rintro e w2 ⟨b, xa, xn, xc, rfl, hnew, hb2⟩
    have hr2 := (hr.next hb1).next hb2
    obtain ⟨q1, q2, q3, q4, q5, q6⟩ := hr2.room (.bool b)
    go_wp2_with fail
    exact wretp rfl rfl rfl rfl hr2 hnew.out hb.size (Nat.le_refl _) (bnext (bnext hb hb1) hb2)

theorem zero_first {t : ByteArray} {c : UInt8} {r : List UInt8} (h : t.data.toList = c :: r) : ∃ h0 : 0 < t.size, t[0] = c ∧ (t.extract 1 t.size).data.toList = r ∧ t.size = r.length + 1 := by
  have hs : t.size = r.length + 1 := by
    have : t.size = t.data.toList.length := (Array.length_toList (xs := t.data)).symm
    rw [this, h]; rfl
  have h0 : 0 < t.size := by omega
  refine ⟨h0, ?_, ?_, hs⟩
  · have := head_drop t h0
    rw [h] at this
    exact (List.cons.inj this).1.symm
  · rw [extract_one, h]; rfl
theorem nparse_txt (t : ByteArray) (m K : Nat) (hK : m < 4294967296 ^ K) (hK1 : K ≤ 30) (h : t.data.toList = txt 10 m) (w : World) : Calls Tryd.prog 49 #[.string t, .int .i64 10] w (PG w true m) := by
  have hl := txt_len 10 m K (by decide) hK
  have hp := txt_pos 10 m (by decide)
  have hs : t.size = (txt 10 m).length := by
    have : t.size = t.data.toList.length := (Array.length_toList (xs := t.data)).symm
    rw [this, h]
  have hy := parse_yes t 10 w (by omega) (by omega) (by omega) (by omega) (good_of_list (by rw [h]; exact good_txt 10 m (by decide) (by decide)))
  rw [h, numB_txt 10 m (by decide) (by decide)] at hy
  exact hy
theorem nparse_bad (t : ByteArray) (r : List UInt8) (h : t.data.toList = 45 :: r) (hr : r.length ≤ 999) (w : World) : Calls Tryd.prog 49 #[.string t, .int .i64 10] w (PG w false 0) := by
  obtain ⟨h0, hc, _, hs⟩ := zero_first h
  refine (parse_bad t 10 w (by omega) (by omega) (by omega) (by omega) 0 h0 (by rw [hc]; decide)).mono ?_
  rintro e w' ⟨rfl, hb⟩
  exact ⟨_, rfl, New.nil _ _, hb⟩
theorem first_digit (m : Nat) : ∃ c r, txt 10 m = c :: r ∧ c ≠ 45 ∧ c ≠ 43 := by
  have hp := txt_pos 10 m (by decide)
  have hg := good_txt 10 m (by decide) (by decide)
  cases ht : txt 10 m with
  | nil => rw [ht] at hp; simp at hp
  | cons c r =>
    have h1 := hg c (by rw [ht]; simp)
    refine ⟨c, r, rfl, ?_, ?_⟩
    · rintro rfl; exact absurd h1 (by decide)
    · rintro rfl; exact absurd h1 (by decide)
/-- Parse of Text is the number. -/
theorem wparse_txt {w : World} (s : ByteArray) (a : Int) (K : Nat) (ha : a.natAbs < 4294967296 ^ K) (hK : K ≤ 30) (hs : s.data.toList = wtxt a) : Calls Tryd.prog 45 #[.string s] w (WP w true a) := by
  have hl := txt_len 10 a.natAbs K (by decide) ha
  unfold wtxt at hs
  by_cases hn : a < 0
  · rw [if_pos hn] at hs
    obtain ⟨h0, hc, hx, hz⟩ := zero_first hs
    have e : a = zOf true a.natAbs := by simp only [zOf, if_true]; omega
    have := wparse_minus (w := w) s h0 hc (by omega) true a.natAbs (fun h => by cases h) (nparse_txt _ _ K ha hK hx)
    rw [← e] at this
    exact this
  · rw [if_neg hn] at hs
    obtain ⟨c, r, ht, h1, h2⟩ := first_digit a.natAbs
    obtain ⟨h0, hc, hx, hz⟩ := zero_first (hs.trans ht)
    have e : a = zOf false a.natAbs := by simp only [zOf, if_false, Bool.false_eq_true]; omega
    have hz2 : s.size = (txt 10 a.natAbs).length := by
      have : s.size = s.data.toList.length := (Array.length_toList (xs := s.data)).symm
      rw [this, hs]
    have := wparse_none (w := w) s h0 (by rw [hc]; exact h1) (by rw [hc]; exact h2) (by omega) true a.natAbs (fun h => by cases h) (nparse_txt _ _ K ha hK hs)
    rw [← e] at this
    exact this
/-- With a + ahead: a number that is not below 0; else nothing. -/
theorem wparse_plus_txt {w : World} (s : ByteArray) (a : Int) (K : Nat) (ha : a.natAbs < 4294967296 ^ K) (hK : K ≤ 30) (hs : s.data.toList = 43 :: wtxt a) : Calls Tryd.prog 45 #[.string s] w (WP w (decide (0 ≤ a)) (if a < 0 then 0 else a)) := by
  have hl := txt_len 10 a.natAbs K (by decide) ha
  obtain ⟨h0, hc, hx, hz⟩ := zero_first hs
  unfold wtxt at hx hz
  by_cases hn : a < 0
  · rw [if_pos hn] at hx hz ⊢
    rw [decide_eq_false (by omega)]
    have := wparse_plus (w := w) s h0 hc (by simp at hz; omega) false 0 (fun _ => rfl) (nparse_bad _ _ hx (by omega))
    exact this
  · rw [if_neg hn] at hx hz ⊢
    rw [decide_eq_true (by omega)]
    have e : a = zOf false a.natAbs := by simp only [zOf, if_false, Bool.false_eq_true]; omega
    have := wparse_plus (w := w) s h0 hc (by omega) true a.natAbs (fun h => by cases h) (nparse_txt _ _ K ha hK hx)
    rw [← e] at this
    exact this

set_option maxHeartbeats 800000 in
theorem wgood_new {w : World} {base : Nat} {v : Value} {z : Int} (h : WNew w base v z) : Calls Tryd.prog 23 #[v] w fun e w' => e = .returned (.bool true) ∧ Below w.heap.size w w' := by
  obtain ⟨x, rfl, A, n, c, rfl, hs, _⟩ := h
  obtain ⟨W, hW, hp, hb⟩ := enter1 w (.bool (decide (z < 0))) (.slice A n c)
  have hmax := Nat.le_trans hs.le hs.max
  unfold maxLen at hmax
  have e0 := hp.c0
  have e1 := hp.c1
  rw [hW] at e0 e1
  by_cases h0 : n = 0
  · have hz : z.natAbs = 0 := by
      have hl := hs.len
      rw [h0] at hl
      exact (limbs_nil_iff _).1 (List.length_eq_zero_iff.1 hl.symm)
    have hd : decide (z < 0) = false := decide_eq_false (by omega)
    rw [hd] at e0 e1 hW ⊢
    subst h0
    clear hz hd hs
    go_enter Tryd.func23, Tryd.ntmps23
    go_wp2_with fail
    rw [← hW]
    go_ret
    exact ⟨rfl, hb⟩
  · obtain ⟨k, hk⟩ : ∃ k, n = k + 1 := ⟨n - 1, by omega⟩
    subst hk
    have hl := hs.len
    have ht := limbs_top _ k hl.symm
    obtain ⟨b, off, rfl, hlt, hc⟩ := hs.here (by omega)
    have hck := hc k (by omega)
    have g := (hb.cell (p := ⟨b, off + k, none⟩) hlt).trans hck
    rw [hW] at g
    have hx : ((((lim (limbs z.natAbs) k : Nat)) : Int) == 0) = false := beq_eq_false_iff_ne.2 (by omega)
    have hx2 : (((lim (limbs z.natAbs) k : Nat) : Int) != 0) = true := by simp only [bne, hx, Bool.not_false]
    generalize ((lim (limbs z.natAbs) k : Nat) : Int) = q at *
    generalize decide (z < 0) = d at *
    clear hc hck hs h0 ht hl
    have i1 : (k : Int) < (k : Int) + 1 := by omega
    go_enter Tryd.func23, Tryd.ntmps23
    go_wp2_with fail
    rw [← hW]
    go_ret
    exact ⟨rfl, hb⟩
end Go.Proofs.YtjildimhflondaaDoor
