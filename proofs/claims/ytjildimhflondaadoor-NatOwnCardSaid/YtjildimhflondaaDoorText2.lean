/-
  nat.Text: what it answers.
-/
import Derived.Test.YtjildimhflondaaDoorText
import Derived.Laws.IdiomStrings
import Derived.Lib.BufferRead
namespace Go.Proofs.YtjildimhflondaaDoor
open Go.RowKit

theorem info8 : (Tryd.prog.info? 5).map (fun i => (i.zero, i.size, i.bytes)) = some (some (.int .u8 0), 1, 1) := by kernel_rfl

/-- A letter of the constant text of digits. -/
theorem digit_at (k : Nat) (hk : k < 36) (w : World) : (Instr.index 9 (.string ⟨#[48, 49, 50, 51, 52, 53, 54, 55, 56, 57, 97, 98, 99, 100, 101, 102, 103, 104, 105, 106, 107, 108, 109, 110, 111, 112, 113, 114, 115, 116, 117, 118, 119, 120, 121, 122]⟩) (.int .u32 (k : Int))).run Tryd.prog w = .ok (.int .u8 (((chr k).toNat : Nat) : Int)) w := by
  rcases (show k = 0 ∨ k = 1 ∨ k = 2 ∨ k = 3 ∨ k = 4 ∨ k = 5 ∨ k = 6 ∨ k = 7 ∨ k = 8 ∨ k = 9 ∨ k = 10 ∨ k = 11 ∨ k = 12 ∨ k = 13 ∨ k = 14 ∨ k = 15 ∨ k = 16 ∨ k = 17 ∨ k = 18 ∨ k = 19 ∨ k = 20 ∨ k = 21 ∨ k = 22 ∨ k = 23 ∨ k = 24 ∨ k = 25 ∨ k = 26 ∨ k = 27 ∨ k = 28 ∨ k = 29 ∨ k = 30 ∨ k = 31 ∨ k = 32 ∨ k = 33 ∨ k = 34 ∨ k = 35 by omega) with rfl | rfl | rfl | rfl | rfl | rfl | rfl | rfl | rfl | rfl | rfl | rfl | rfl | rfl | rfl | rfl | rfl | rfl | rfl | rfl | rfl | rfl | rfl | rfl | rfl | rfl | rfl | rfl | rfl | rfl | rfl | rfl | rfl | rfl | rfl | rfl
  all_goals kernel_rfl

/-- A row of bytes of the call's own. -/
def BOwn (w : World) (base : Nat) (v : Value) (l : List UInt8) : Prop := w.ownsRow base 5 1 v l.length (bcells l)
theorem Only.grown {g : Nat} {w w' : World} (h : Only g w w') : w.grownBy w' (some g) := ⟨h.os, h.tape, h.output, by rw [h.size]; exact Nat.le_refl _, fun k _ hne => h.block k (fun e => hne (by rw [e]))⟩
/-- A row of bytes is no block of limbs. -/
theorem BOwn.ne {w : World} {base g : Nat} {v : Value} {l : List UInt8} {L : List Nat} (h : BOwn w base v l) (hb : Blk w g L) : v.ownBlock ≠ some g := by
  rcases h.2 with ⟨rfl, _⟩ | ⟨g', cap, cur, rfl, _, hh, _⟩
  · simp [Value.ownBlock]
  · intro he
    have : g' = g := by simpa [Value.ownBlock] using he
    subst this
    unfold Blk at hb
    rw [hb] at hh
    simp at hh
theorem BOwn.only {w w' : World} {base g : Nat} {v : Value} {l : List UInt8} {L : List Nat} (h : BOwn w base v l) (hb : Blk w g L) (ho : Only g w w') : BOwn w' base v l :=
  World.ownsRow.kept h ho.grown (.inr (h.ne hb))
theorem Blk.grownB {w w' : World} {g : Nat} {L : List Nat} {row : Option Nat} (hb : Blk w g L) (hg : w.grownBy w' row) (hne : row ≠ some g) : Blk w' g L := (hg.block g hb.lt (fun e => hne e.symm)).trans hb

/-- What Text has made so far of the number n: digits, and what is left to be told. -/
structure TextInv (w : World) (b n n0 r m : Nat) (v : Value) (wr : World) (O : List Nat) (L : List Nat) : Prop where
  len : m = (limbs r).length
  lenL : L.length = n0
  take : L.take m = limbs r
  okL : Ok L
  blk : Blk wr w.heap.size L
  own : BOwn wr w.heap.size v (O.map chr)
  okO : Okb b O
  num : n = valb b O + b ^ O.length * r
  bel : Below w.heap.size w wr
  lenO : O.length ≤ 50000000000

/-- ... and inside a round: the digits of what divInto left. -/
structure TextIn (w : World) (b low j lo : Nat) (v : Value) (wr : World) (O D L : List Nat) : Prop where
  lenD : D.length = j
  okD : Okb b D
  num : low = valb b D + b ^ j * lo
  blk : Blk wr w.heap.size L
  own : BOwn wr w.heap.size v ((O ++ D).map chr)
  bel : Below w.heap.size w wr

/-- There are not more digits than bits. -/
theorem text_len {w : World} {b n0 r m : Nat} {xs : List Nat} {v : Value} {wr : World} {O L : List Nat} {n1 : Nat} (h : TextInv w b (val xs) n0 r m v wr O L) (hb : 2 ≤ b) (ok : Ok xs) (hl : n1 = xs.length) (hn : n1 ≤ 1000000000) (hr : r ≠ 0) : O.length ≤ 40000000000 := by
  have h1 := val_lt ok
  have h2 : b ^ O.length ≤ b ^ O.length * r := Nat.le_mul_of_pos_right _ (by omega)
  have h3 : 2 ^ O.length ≤ b ^ O.length := Nat.pow_le_pow_left hb _
  have h4 := h.num
  have h5 : 2 ^ O.length < 2 ^ (32 * xs.length) := by
    rw [Nat.pow_mul]
    show _ < 4294967296 ^ xs.length
    omega
  have h6 := (Nat.pow_lt_pow_iff_right (by decide : 1 < 2)).1 h5
  omega

theorem low_num (lo b : Nat) (h : lo < 4294967296) : Value.int .u32 ((lo : Int) / (b : Int) % 4294967296) = Value.int .u32 ((lo / b : Nat) : Int) := by
  have : lo / b ≤ lo := Nat.div_le_self _ _
  rw [← Int.natCast_ediv]
  generalize lo / b = q at this ⊢
  exact congrArg _ (by omega)
theorem bcells_snoc (l : List UInt8) (c : UInt8) : bcells l ++ [Value.int .u8 ((c.toNat : Nat) : Int)] = bcells (l ++ [c]) := by simp [bcells]
theorem text_in_step {w : World} {b low j lo : Nat} {v v' : Value} {wr w3 : World} {O D L : List Nat} {o : Obj} (h : TextIn w b low j lo v wr O D L) (hb : 2 ≤ b)
    (hown : w3.ownsRow w.heap.size 5 1 v' (((O ++ D).map chr).length + 1) (bcells ((O ++ D).map chr) ++ [Value.int .u8 (((chr (lo % b)).toNat : Nat) : Int)])) (hg : (wr.alloc o).grownBy w3 v.ownBlock) :
    TextIn w b low (j + 1) (lo / b) v' w3 O (D ++ [lo % b]) L := by
  have hsz := h.bel.size
  have e : (O ++ (D ++ [lo % b])).map chr = (O ++ D).map chr ++ [chr (lo % b)] := by simp
  refine ⟨by simp [h.lenD], h.okD.append (Okb.cons (Nat.mod_lt _ (by omega)) Okb.nil), ?_, (h.blk.alloc o).grownB hg (h.own.ne h.blk), ?_, ?_⟩
  · rw [valb_snoc, h.lenD, h.num, Nat.pow_succ, Nat.mul_assoc, Nat.add_assoc, ← Nat.mul_add, Nat.mod_add_div]
  · unfold BOwn
    rw [e, ← bcells_snoc, List.length_append]
    exact hown
  · refine (h.bel.alloc (by omega) o).grown hg (by simp; omega) (fun k hk => ?_)
    exact (World.ownsRow.lt h.own k hk).1
theorem text_low_zero {b low t lo : Nat} {D : List Nat} (h : low = valb b D + b ^ t * lo) (hl : low < b ^ t) : lo = 0 := by
  rcases Nat.eq_zero_or_pos lo with h0 | h0
  · exact h0
  · have : b ^ t ≤ b ^ t * lo := Nat.le_mul_of_pos_right _ h0
    omega
theorem text_out_step {w : World} {b n n0 r m t low lo : Nat} {v v' : Value} {wr wr' : World} {O D L Q : List Nat} {m' : Nat} (h : TextInv w b n n0 r m v wr O L) (hin : TextIn w b low t lo v' wr' O D (Q ++ List.drop m L))
    (hnum : low = valb b D) (hlow : low = r % b ^ t) (hQ : val Q = r / b ^ t) (hOD : O.length + t ≤ 50000000000) (hQo : Ok Q) (hm' : m' = (limbs (val Q)).length) (hlen : (Q ++ List.drop m L).length = n0) (okL : Ok (Q ++ List.drop m L)) :
    TextInv w b n n0 (r / b ^ t) m' v' wr' (O ++ D) (Q ++ List.drop m L) := by
  refine ⟨by rw [hm', hQ], hlen, ?_, okL, hin.blk, hin.own, h.okO.append hin.okD, ?_, hin.bel, by rw [List.length_append, hin.lenD]; exact hOD⟩
  · have hle : m' ≤ Q.length := by rw [hm']; exact limbs_len_val hQo
    rw [List.take_append_of_le_length hle, ← hQ, hm', ← trimL_limbs hQo]
    exact (trimL_take Q).symm
  · rw [h.num, valb_append, List.length_append, Nat.pow_add, ← hnum, hin.lenD, hlow, Nat.add_assoc, Nat.mul_assoc, ← Nat.mul_add, Nat.mod_add_div]

set_option maxHeartbeats 1600000 in
theorem text_any (A : Option Addr) (n1 c1 : Nat) (xs : List Nat) (b : Nat) (w : World) (h : Sl w A n1 c1 xs) (hb : 2 ≤ b) (hb2 : b ≤ 36) (hn1 : n1 ≤ 1000000000) :
    Calls Tryd.prog 50 #[.slice A n1 c1, .int .i64 (b : Int)] w fun e w' => ∃ t : ByteArray, e = .returned (.string t) ∧ t.data.toList = txt b (val xs) ∧ Below w.heap.size w w' := by
  obtain ⟨n0, HN⟩ : ∃ n, Hid (n = (limbs (val xs)).length) := ⟨_, rfl⟩
  have hn0 : n0 ≤ 1000000000 := by have := HN.out; have := limbs_len_val h.ok; have := h.len; omega
  obtain ⟨i0, hi, hz0, hz1, hz2⟩ := info_parts info8
  go_enter Tryd.func50, Tryd.ntmps50
  go_wp2_with (first | (go_at_call 79; refine (isBase_yes _ (by omega) (by omega) _).mono ?_; rintro e w' ⟨rfl, rfl⟩) | (go_at_call 82; refine (pieceOf_any b hb hb2 _).mono ?_; rintro e w' ⟨t, pc, ht1, ht2, ht3, HPC, rfl, rfl⟩) | (go_at_call 10; refine (norm_exact _ _ _ _ _ h hn1 n0 HN).mono ?_; rintro e w1 ⟨rfl, hB1, hbel1⟩))
  go_loopg [7, 8] (val xs) (fun r v rs wr => ∃ (O : List Nat) (m : Nat) (L : List Nat), rs = .slice (some ⟨w.heap.size, 0, none⟩) m n0 ∧ m ≤ n0 ∧ TextInv w b (val xs) n0 r m v wr O L)
  case atStart =>
    refine ⟨[], n0, limbs (val xs), rfl, Nat.le_refl _, HN.out, HN.out.symm, by rw [HN.out, List.take_length], limbs_ok _, hB1, World.ownsRow_nil _ _ _ _, Okb.nil, by simp [valb], hbel1, by simp⟩
  case round =>
    obtain ⟨O, m, L, rfl, hm0, hinv⟩ := hrel
    by_cases hm : 0 < m
    · obtain ⟨r, HR⟩ : ∃ r, r = gk := ⟨_, rfl⟩
      subst HR
      have hpc1 : 0 < pc := by rw [HPC.out]; exact Nat.pow_pos (by omega)
      have hsl : Sl wr (some ⟨w.heap.size, 0, none⟩) m n0 (limbs r) := by
        have := hinv.blk.sl hinv.okL (by rw [hinv.lenL]; unfold maxLen; omega) m (by rw [hinv.lenL]; exact hm0)
        rwa [hinv.lenL, hinv.take] at this
      have hLm : m ≤ L.length := by rw [hinv.lenL]; exact hm0
      obtain ⟨low, HLOW⟩ : ∃ q, Hid (q = val (limbs r) % pc) := ⟨_, rfl⟩
      have hlow : low < pc := by rw [HLOW.out]; exact Nat.mod_lt _ hpc1
      have hOl := text_len hinv hb h.ok h.len hn1 (by have := hinv.len; intro h0; rw [h0, limbs_zero] at this; simp at this; omega)
      go_wp2_with (go_at_call 83; refine (divInto_at w.heap.size m n0 _ n0 (limbs r) L pc _ hinv.blk hLm hsl (fun b off e _ => by simp at e; exact .inr e.2.symm) hpc1 ht3 (by omega) hm0 low HLOW).mono ?_; rintro e w2 ⟨rfl, ⟨Q, hQl, hQo, hQv, hQb⟩, ho2⟩)
      have HQ := Lib.hid (And.intro hQl hQv)
      have hbel2 := hinv.bel.trans (ho2.below (Nat.le_refl _))
      have hown2 := hinv.own.only hinv.blk ho2
      clear hQl hQv
      go_loopw [7, 9, 31] (fun v lw i ws => ∃ (j lo : Nat) (D : List Nat), j ≤ t ∧ i = .int .i64 j ∧ lw = .int .u32 lo ∧ lo < 4294967296 ∧ TextIn w b low j lo v ws O D (Q ++ List.drop m L)) (fun _ _ i _ => t - (intOf i).toNat)
      case atStart => exact ⟨0, low, [], by omega, rfl, rfl, by omega, rfl, Okb.nil, by simp [valb], hQb, by simpa using hown2, hbel2⟩
      case round =>
        obtain ⟨j, lo, D, hj, rfl, rfl, hlo, hin⟩ := hrel
        by_cases hjt : j < t
        · have hmod : lo % b < b := Nat.mod_lt _ (by omega)
          have hix : ∀ W, (Instr.index 9 (.string ⟨#[48, 49, 50, 51, 52, 53, 54, 55, 56, 57, 97, 98, 99, 100, 101, 102, 103, 104, 105, 106, 107, 108, 109, 110, 111, 112, 113, 114, 115, 116, 117, 118, 119, 120, 121, 122]⟩) (.int .u32 ((lo : Int) % (b : Int)))).run Tryd.prog W = .ok (.int .u8 (((chr (lo % b)).toNat : Nat) : Int)) W := by
            intro W
            rw [← Int.natCast_emod]
            exact digit_at _ (by omega) W
          have hown := hin.own
          have hsz := hin.bel.size
          have hDl : ((O ++ D).map chr).length ≤ 50000000000 := by have := hin.lenD; simp; omega
          go_wp2_with (at_builtin; refine wpList_append_own _ rfl (.tmp 33) (.tmp 39) 82 rfl w.heap.size 5 i0 (.int .u8 0) 1 1 Tryd.underlying82 hi hz0 hz1 hz2 rfl (by decide) _ _ _ rfl (World.ownsRow.alloc hown _) ⟨_, 0, none⟩ 1 1 [.int .u8 (((chr (lo % b)).toNat : Nat) : Int)] rfl rfl (cell_one_new _ _ _) (fun u hu => by simp at hu; subst hu; rfl) (by unfold maxLen; omega) (by omega) (by simp; omega) ?_; intro v' w3 hown3 hgrow3 _)
          have hstep := text_in_step (v := u7) hin hb hown3 hgrow3
          clear hown3 hgrow3 hix
          go_wp2_with fail
          go_roundw
          case rel => exact ⟨j + 1, lo / b, _, by omega, by go_num, low_num lo b hlo, Nat.lt_of_le_of_lt (Nat.div_le_self _ _) hlo, hstep⟩
          case measure => simp [intOf]; omega
        · obtain rfl : j = t := by omega
          have hlo0 : lo = 0 := text_low_zero hin.num (by rw [← HPC.out]; exact hlow)
          subst hlo0
          have hnum := hin.num
          rw [Nat.mul_zero, Nat.add_zero] at hnum
          obtain ⟨m', HM'⟩ : ∃ m', Hid (m' = (limbs (val Q)).length) := ⟨_, rfl⟩
          have hm' : m' ≤ m := by rw [HM'.out, ← HQ.out.1]; exact limbs_len_val hQo
          have hLlen : (Q ++ List.drop m L).length = n0 := by have h1 := HQ.out.1; have h2 := hinv.lenL; simp; omega
          have okL1 : Ok (Q ++ List.drop m L) := hQo.append (hinv.okL.drop m)
          have hsl2 : Sl wr (some ⟨w.heap.size, 0, none⟩) m n0 Q := by
            have := hin.blk.sl okL1 (by rw [hLlen]; unfold maxLen; omega) m (by rw [hLlen]; exact hm0)
            rwa [hLlen, List.take_left' HQ.out.1] at this
          have HNUM := Lib.hid hnum
          clear hnum
          have hfin := text_out_step hinv hin HNUM.out (by rw [HLOW.out, limbs_val, HPC.out]) (by rw [HQ.out.2, limbs_val, HPC.out]) (by omega) hQo HM'.out hLlen okL1
          have hrlt : r / b ^ j < r := by
            have hr0 : 0 < r := by
              rcases Nat.eq_zero_or_pos r with h0 | h0
              · have := hinv.len; rw [h0, limbs_zero] at this; simp at this; omega
              · exact h0
            exact Nat.div_lt_self hr0 (Nat.lt_of_lt_of_le (by omega) (Nat.le_self_pow (by omega) b))
          have HF := Lib.hid (And.intro hfin hrlt)
          clear hfin hrlt hLlen
          go_wp2_with (go_at_call 51; refine (trim_at _ _ _ _ _ hsl2 m' HM').mono ?_; rintro e w' ⟨rfl, rfl⟩)
          go_roundg (r / b ^ j)
          case measure => exact HF.out.2
          case rel => exact ⟨_, m', _, rfl, by omega, HF.out.1⟩
    · have hm00 : m = 0 := by omega
      have hr0 : gk = 0 := by
        have := hinv.len
        rw [hm00] at this
        exact (limbs_nil_iff gk).1 (List.eq_nil_of_length_eq_zero this.symm)
      have hv : val xs = valb b O := by
        have := hinv.num
        rw [hr0, Nat.mul_zero, Nat.add_zero] at this
        exact this
      have htx := txt_of b hb hb2 O hinv.okO
      rw [← hv] at htx
      have hl50 := hinv.lenO
      have hown := hinv.own
      have hbel := hinv.bel
      have HT := Lib.hid htx
      clear htx hv hr0 hinv
      subst hm00
      rcases id hown.2 with ⟨hvn, h0⟩ | ⟨g', cap, cur, hvn, hg, hh, hnc, hcm, hcs, htk⟩
      · have hO : O = [] := by
          have := List.eq_nil_of_length_eq_zero h0
          simpa using this
        subst hO
        rw [hvn]
        have hcv := fun W => Lib.run_convert_nil_bytes (P := Tryd.prog) W 82 9 5 0 Tryd.underlying82 Tryd.underlying5 Tryd.underlying9
        clear hown hvn h0
        go_wp2_with (first | (go_at_call 84; refine (bytes_nil_rev _).mono ?_; rintro e w' ⟨rfl, rfl⟩) | (go_at_call 85; refine (trimLeft_any _ _).mono ?_; rintro e w' ⟨t', rfl, ht', rfl⟩; have het : t'.toList.isEmpty = true := (by rw [ByteArray.toList_eq, ht']; rfl); clear ht'))
        go_ret
        exact ⟨_, rfl, by rw [HT.out]; rfl, hbel⟩
      · rw [hvn] at hown ⊢
        clear hh hcs htk hvn
        obtain ⟨n, HNL⟩ : ∃ n, Hid (n = (O.map chr).length) := ⟨_, rfl⟩
        have hnl : n ≤ 1000000000000 := by have := HNL.out; simp at this; omega
        have hown' : wr.ownsRow w.heap.size 5 1 (.slice (some ⟨g', 0, none⟩) n cap) n (bcells (O.map chr)) := by rw [HNL.out]; exact hown
        rw [← HNL.out]
        clear hown
        go_wp2_with fail
        refine (reverse_any w.heap.size g' n cap _ HNL.out _ hown' hnl).mono ?_
        rintro e w4 ⟨rfl, hown4, hg4⟩
        have hbel4 : Below w.heap.size w w4 := hbel.grown hg4 hbel.size (fun k hk => by injection hk with hk; omega)
        have hcv : (convert 82 9 (.slice (some ⟨g', 0, none⟩) n cap)).run Tryd.prog w4 = .ok (.string ⟨(O.map chr).reverse.toArray⟩) w4 := by
          have hnr : n = (O.map chr).reverse.length := by rw [List.length_reverse]; exact HNL.out
          have := run_convert_bytes_back (P := Tryd.prog) w4 82 9 5 ⟨g', 0, none⟩ cap (O.map chr).reverse Tryd.underlying82 Tryd.underlying5 Tryd.underlying9 (fun j hj => by
            rw [cell_add, Nat.zero_add, hown4.cellAt j (by omega), bcells_getElem? _ j hj, List.getD_eq_getElem?_getD, List.getElem?_eq_getElem hj]; rfl)
          rw [← hnr] at this
          exact this
        generalize hS : (⟨(O.map chr).reverse.toArray⟩ : ByteArray) = S at hcv
        have hSl : S.data.toList = O.reverse.map chr := by rw [← hS]; simp
        have HSL := Lib.hid hSl
        clear hSl hS hown4 hg4
        go_wp2_with fail
        refine (trimLeft_any _ _).mono ?_
        rintro e w' ⟨t', rfl, ht', rfl⟩
        rw [HSL.out] at ht'
        clear hcv
        by_cases hE : (O.reverse.map chr).dropWhile (· == 48) = []
        · have het : t'.toList.isEmpty = true := by rw [ByteArray.toList_eq, ht', hE]; rfl
          have HT2 := Lib.hid (HT.out.trans (if_pos hE))
          clear ht' hE
          go_wp2_with fail
          go_ret
          exact ⟨_, rfl, by rw [HT2.out], hbel4⟩
        · have het : t'.toList.isEmpty = false := by rw [ByteArray.toList_eq, ht']; simpa using hE
          have HT2 := Lib.hid ((HT.out.trans (if_neg hE)).trans ht'.symm)
          clear ht' hE
          go_wp2_with fail
          go_ret
          exact ⟨_, rfl, HT2.out.symm, hbel4⟩

set_option maxHeartbeats 400000 in
theorem text_no (A : Option Addr) (n1 c1 : Nat) (b : Int) (w : World) (hb : b < 2 ∨ 36 < b) :
    Calls Tryd.prog 50 #[.slice A n1 c1, .int .i64 b] w fun e w' => e = .returned (.string ⟨#[]⟩) ∧ w = w' := by
  go_enter Tryd.func50, Tryd.ntmps50
  go_wp2_with (go_at_call 79; refine (isBase_no _ hb _).mono ?_; rintro e w' ⟨rfl, rfl⟩)
  go_ret
  exact ⟨rfl, rfl⟩
end Go.Proofs.YtjildimhflondaaDoor
