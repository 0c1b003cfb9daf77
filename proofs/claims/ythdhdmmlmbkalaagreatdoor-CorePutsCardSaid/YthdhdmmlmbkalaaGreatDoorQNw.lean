/-
  Numbers, as far as writing wants them: Norm and Text of whole numbers.
-/
import Derived.Test.YthdhdmmlmbkalaaGreatDoorJc0
import Derived.Test.YthdhdmmlmbkalaaGreatDoorChecked
import Derived.Outline
import Derived.Laws.BitsAllLaws
import Derived.Deep.LoopGhost
import Derived.BigRegion
import Derived.Laws.IdiomStrings
import Derived.Lib.BufferRead
import Derived.Deep.QuietTactic
import Derived.BigQuiet
import Derived.Shelf.Small.Bits
import Derived.WalkMore
import Derived.Deep.RegionHeld3
set_option linter.unusedVariables false
set_option linter.unusedSimpArgs false
set_option linter.unusedSectionVars false
set_option linter.unnecessarySimpa false
namespace Go.Proofs.YthdhdmmlmbkalaaGreatDoor
open Go.RowKit

theorem trimL_take_zero (xs : List Nat) (n : Nat) (h : n + 1 ≤ xs.length) (h0 : lim xs n = 0) : trimL (xs.take (n + 1)) = trimL (xs.take n) := by
  rw [take_snoc xs n (by omega), h0, trimL_snoc_zero]
theorem trimL_take_stop (xs : List Nat) (n : Nat) (h : n + 1 ≤ xs.length) (h0 : lim xs n ≠ 0) : trimL (xs.take (n + 1)) = xs.take (n + 1) := by
  rw [take_snoc xs n (by omega), trimL_snoc _ _ h0]
set_option maxHeartbeats 400000 in
theorem trim_any (A : Option Addr) (n cap : Nat) (xs : List Nat) (w : World) (h : Sl w A n cap xs) :
    Calls Tryz.prog 148 #[.slice A n cap] w fun e w' => e = .returned (.slice A (limbs (val xs)).length cap) ∧ w = w' := by
  have hm := h.max
  have hl := h.le
  unfold maxLen at hm
  have H := Lib.hid h
  clear h
  go_enter Tryz.func148, Tryz.ntmps148
  go_wp2
  go_loop [3] (fun t => ∃ k : Nat, k ≤ n ∧ t = .int .i64 k ∧ Hid (trimL (xs.take k) = trimL xs)) (fun t => (intOf t).toNat)
  case atStart => exact ⟨n, Nat.le_refl _, rfl, by rw [H.out.len, List.take_length]; exact rfl⟩
  case round =>
    obtain ⟨k, hk, rfl, hr⟩ := hrel
    rcases k with _ | k
    · go_wp2
      go_ret
      refine ⟨?_, rfl⟩
      have : limbs (val xs) = [] := by rw [← trimL_limbs H.out.ok, ← hr.out]; rfl
      rw [this]; rfl
    · obtain ⟨b, off, rfl, hb, hc⟩ := H.out.here (by omega)
      have hck := hc k (by omega)
      have hx := H.out.ok.getD k
      by_cases h0 : lim xs k = 0
      · rw [h0] at hck
        clear hc
        go_wp2
        go_round
        case rel => exact ⟨k, by omega, by go_num, by rw [← hr.out, trimL_take_zero xs k (by have := H.out.len; omega) h0]; exact rfl⟩
        case measure => simp [intOf]
      · have hs := Lib.hid (trimL_take_stop xs k (by have := H.out.len; omega) h0)
        generalize lim xs k = x at *
        clear hc
        go_wp2
        go_ret
        refine ⟨?_, rfl⟩
        have : limbs (val xs) = xs.take (k + 1) := by rw [← trimL_limbs H.out.ok, ← hr.out, hs.out]
        rw [this, List.length_take, Nat.min_eq_left (by have := H.out.len; omega)]
        simp
/-- The same, the length under a name of one's own. -/
theorem trim_at (A : Option Addr) (n cap : Nat) (xs : List Nat) (w : World) (h : Sl w A n cap xs) (m : Nat) (hm : Hid (m = (limbs (val xs)).length)) :
    Calls Tryz.prog 148 #[.slice A n cap] w fun e w' => e = .returned (.slice A m cap) ∧ w = w' := by
  rw [hm.out]; exact trim_any A n cap xs w h
theorem info32 : (Tryz.prog.info? 149).map (fun i => (i.zero, i.size, i.bytes)) = some (some (.int .u32 0), 1, 4) := by kernel_rfl
theorem make32 (c : Int) (n : Nat) (hc : c = (n : Int)) (hn : n ≤ 35184372087808) (w : World) :
    (Instr.makeSlice 22 (.int .i64 c) (.int .i64 c)).run Tryz.prog w = .ok (.slice (some ⟨w.heap.size, 0, none⟩) n n) (w.alloc (.cells (madeCells #[Value.int .u32 0] n) 149)) := by
  obtain ⟨i, hi, hz, hs, hb⟩ := info_parts info32
  subst hc
  exact run_make_limbs Tryz.underlying22 hi hz hs hb n hn w
set_option maxHeartbeats 400000 in
theorem norm_exact (A1 : Option Addr) (n1 c1 : Nat) (xs : List Nat) (w : World) (h1 : Sl w A1 n1 c1 xs) (b1 : n1 ≤ 35184372087808) (n : Nat) (HN : Hid (n = (limbs (val xs)).length)) :
    Calls Tryz.prog 147 #[.slice A1 n1 c1] w fun e w' => e = .returned (.slice (some ⟨w.heap.size, 0, none⟩) n n) ∧ Blk w' w.heap.size (limbs (val xs)) ∧ Below w.heap.size w w' := by
  have ht := h1.trim
  have hl := limbs_len_val h1.ok
  have hlen := h1.len
  rw [← HN.out] at ht hl
  have hmk := fun W => make32 (n : Int) n rfl (by omega) W
  have HLen := Lib.hid hlen
  clear hlen
  go_enter Tryz.func147, Tryz.ntmps147
  have HB := Lib.hid (Blk.made w n)
  have hs := ht.alloc (.cells (madeCells #[Value.int .u32 0] n) 149)
  go_wp2_with (first | (go_at_call 148; refine (trim_at _ _ _ _ _ h1 n HN).mono ?_; rintro e w' ⟨rfl, rfl⟩) | (with_reducible refine wpList_copy_limbs rfl (.tmp 9) (.tmp 10) rfl Tryz.underlying22 (by kernel_rfl) _ _ _ _ _ _ rfl rfl w.heap.size 0 (List.replicate n 0) _ HB.out hs (fun _ => rfl) (Nat.le_refl _) (by simp) ?_; intro w2 hg2 ho2))
  go_ret
  rw [splice_all _ _ (by simp [← HN.out])] at hg2
  exact ⟨rfl, hg2, ((Below.refl _ _).alloc (Nat.le_refl _) _).trans (ho2.below (Nat.le_refl _))⟩
theorem norm_any (A1 : Option Addr) (n1 c1 : Nat) (xs : List Nat) (w : World) (h1 : Sl w A1 n1 c1 xs) (b1 : n1 ≤ 35184372087808) :
    Calls Tryz.prog 147 #[.slice A1 n1 c1] w (Gives w (val xs)) := by
  refine (norm_exact A1 n1 c1 xs w h1 b1 _ rfl).mono fun e w' ⟨he, hb, hbel⟩ => ⟨_, he, ?_, hbel⟩
  have := hb.newAll (base := w.heap.size) (limbs_ok _) (limbs_trim _) (by have := limbs_len_val h1.ok; have := h1.len; unfold maxLen; omega) (Nat.le_refl _)
  rwa [limbs_val] at this
/-- 'r << 32 | x': both side by side. -/
theorem or_join (r x : Nat) (hr : r < 4294967296) (hx : x < 4294967296) : bits .or .u64 ((r : Int) * 4294967296) (x : Int) = (r : Int) * 4294967296 + (x : Int) := by
  have e : ((r : Int) * 4294967296) = ((r * 4294967296 : Nat) : Int) := by omega
  rw [e, u64_or_nat _ _ (by omega) (by omega), nat_join 32 _ _ (by omega) (by omega)]
  omega
/-- What holds at the head of divInto's round: the limbs from k on are divided. -/
def DivIn (w : World) (g : Nat) (xs L : List Nat) (d k r : Nat) (wr : World) : Prop :=
  ∃ Q : List Nat, Q.length + k = xs.length ∧ Ok Q ∧ val (xs.drop k) = val Q * d + r ∧ Blk wr g (L.take k ++ Q ++ L.drop xs.length) ∧ Only g w wr
theorem div_sum (x q r r' d v B t : Nat) (ht : t = r * B + x) (hq : q = t / d) (hr : r' = t % d) : x + B * (v * d + r) = (q + B * v) * d + r' := by
  have e := Nat.div_add_mod t d
  rw [Nat.add_mul, Nat.mul_add, Nat.mul_assoc, hq, hr]
  rw [Nat.mul_comm (t / d) d, Nat.mul_comm B r]
  omega
theorem div_lt_base (r x d : Nat) (hd : 0 < d) (hr : r < d) (hx : x < 4294967296) : (r * 4294967296 + x) / d < 4294967296 := by
  rw [Nat.div_lt_iff_lt_mul hd]
  have : (r + 1) * 4294967296 ≤ d * 4294967296 := Nat.mul_le_mul_right _ hr
  rw [Nat.mul_comm 4294967296 d]
  omega
theorem div_step {w : World} {g : Nat} {xs L : List Nat} {d k r : Nat} {wr : World} (h : DivIn w g xs L d (k + 1) r wr) (hL : xs.length ≤ L.length) (hd : 0 < d) (hr : r < d) (hx : lim xs k < 4294967296) {z : Int}
    (hz : z = (((r * 4294967296 + lim xs k) / d : Nat) : Int)) :
    DivIn w g xs L d k ((r * 4294967296 + lim xs k) % d) (wr.setCell ⟨g, k, none⟩ (.int .u32 z)) := by
  obtain ⟨Q, hl, ok, hv, hb, ho⟩ := h
  have hq := div_lt_base r _ d hd hr hx
  refine ⟨(r * 4294967296 + lim xs k) / d :: Q, by simp; omega, Ok.cons hq ok, ?_, ?_, ho.trans (Only.setCell g k wr _)⟩
  · rw [val_drop xs k (by omega), hv, val_cons]
    exact div_sum _ _ _ _ _ _ _ _ rfl rfl rfl
  · subst hz
    have := hb.set_ k ((r * 4294967296 + lim xs k) / d)
    have e : (L.take (k + 1) ++ Q ++ L.drop xs.length).set k ((r * 4294967296 + lim xs k) / d) = L.take k ++ ((r * 4294967296 + lim xs k) / d :: Q) ++ L.drop xs.length := by
      rw [take_snoc L k (by omega)]
      rw [List.append_assoc, List.append_assoc, List.set_append_right _ _ (by rw [List.length_take]; omega), List.length_take, Nat.min_eq_left (by omega), Nat.sub_self]
      simp
    rwa [e] at this
theorem two_cast (r x : Nat) : ((r : Int) * 4294967296 + (x : Int)) = ((r * 4294967296 + x : Nat) : Int) := by omega
theorem quo_num (r x d : Nat) (hd : 0 < d) (hr : r < d) (hx : x < 4294967296) : ((r : Int) * 4294967296 + (x : Int)) / (d : Int) % 4294967296 = (((r * 4294967296 + x) / d : Nat) : Int) := by
  have h := div_lt_base r x d hd hr hx
  rw [two_cast, ← Int.natCast_ediv]
  generalize (r * 4294967296 + x) / d = q at h ⊢
  omega
theorem rem_num (r x d : Nat) : Value.int .u64 (((r : Int) * 4294967296 + (x : Int)) % (d : Int)) = Value.int .u64 (((r * 4294967296 + x) % d : Nat) : Int) := by
  rw [two_cast, ← Int.natCast_emod]
set_option maxHeartbeats 800000 in
/-- divInto: what stands in block g from its head on becomes the quotient; the rest of the block stays. What is divided may lie at that very place. -/
theorem divInto_any (g n cq : Nat) (A : Option Addr) (ca : Nat) (xs L : List Nat) (d : Nat) (w : World) (hB : Blk w g L) (hL : n ≤ L.length) (h : Sl w A n ca xs) (hal : ∀ b off, A = some ⟨b, off, none⟩ → 0 < n → b ≠ g ∨ off = 0) (hd : 0 < d) (hd2 : d < 4294967296) (hn : n ≤ 1000000000) (_hcq : n ≤ cq) :
    Calls Tryz.prog 149 #[.slice (some ⟨g, 0, none⟩) n cq, .slice A n ca, .int .u32 (d : Int)] w fun e w' =>
      e = .returned (.int .u32 ((val xs % d : Nat) : Int)) ∧ (∃ Q : List Nat, Q.length = n ∧ Ok Q ∧ val Q = val xs / d ∧ Blk w' g (Q ++ L.drop n)) ∧ Only g w w' := by
  have HN := Lib.hid h.len
  go_enter Tryz.func149, Tryz.ntmps149
  go_wp2_with fail
  go_loopw [7, 8] (fun l i wr => ∃ k r : Nat, k ≤ n ∧ i = .int .i64 ((k : Int) - 1) ∧ l = .int .u64 r ∧ r < d ∧ DivIn w g xs L d k r wr) (fun _ i _ => (intOf i + 1).toNat)
  case atStart =>
    refine ⟨n, 0, Nat.le_refl _, rfl, rfl, hd, [], by simp [HN.out], Ok.nil, ?_, ?_, Only.refl g w⟩
    · rw [HN.out, List.drop_length]; simp [val]
    · rw [← HN.out]; simpa using hB
  case round =>
    obtain ⟨k, r, hk, rfl, rfl, hr, hinv⟩ := hrel
    rcases k with _ | k
    · have HI := Lib.hid hinv
      clear hinv
      go_wp2_with fail
      go_ret
      obtain ⟨Q, hl, ok, hv, hb, ho⟩ := HI.out
      rw [List.drop_zero] at hv
      have e1 : val xs % d = r := by rw [hv, Nat.add_comm, Nat.mul_comm, Nat.add_mul_mod_self_left, Nat.mod_eq_of_lt hr]
      have e2 : val xs / d = val Q := by rw [hv, Nat.add_comm, Nat.mul_comm, Nat.add_mul_div_left _ _ hd, Nat.div_eq_of_lt hr, Nat.zero_add]
      refine ⟨?_, ⟨Q, by have := HN.out; omega, ok, e2.symm, ?_⟩, ho⟩
      · rw [e1]; rfl
      · rw [List.take_zero, List.nil_append, ← HN.out] at hb; exact hb
    · rw [show (((k + 1 : Nat) : Int) - 1) = (k : Int) by omega]
      obtain ⟨Q, hl, ok, hv, hb, ho⟩ := id hinv
      obtain ⟨b, off, rfl, hbl, hc⟩ := h.here (by omega)
      have hf := hb.frozen k
      have hcl := hb.cell k (by have := HN.out; simp; omega)
      have hck : wr.cell? ⟨b, off + k, none⟩ = some (.int .u32 ((lim xs k : Nat) : Int)) := by
        rcases hal b off rfl (by omega) with hne | h0
        · exact (World.cell?_of_block (w := w) (a := ⟨b, off + k, none⟩) (ho.block b hne)).trans (hc k (by omega))
        · by_cases hbg : b = g
          · subst hbg; subst h0
            have h1 := hc k (by omega)
            rw [Nat.zero_add, hB.cell k (by omega)] at h1
            rw [Nat.zero_add, ← h1, hcl]
            congr 2
            rw [lim_eq, lim_eq, List.append_assoc, List.getElem?_append_left (by rw [List.length_take]; omega), List.getElem?_take_of_lt (by omega)]
          · exact (World.cell?_of_block (w := w) (a := ⟨b, off + k, none⟩) (ho.block b hbg)).trans (hc k (by omega))
      have x1 := h.ok.getD k
      have hor := or_join r (lim xs k) (by omega) x1
      clear hc hl hv
      go_wp2_with fail
      go_roundw
      case rel => exact ⟨k, _, by omega, by go_num, rem_num _ _ _, Nat.mod_lt _ hd, div_step hinv (by have := HN.out; omega) hd hr x1 (quo_num _ _ _ hd hr x1)⟩
      case measure => simp [intOf]
/-- The same, what is left under a name of one's own. -/
theorem divInto_at (g n cq : Nat) (A : Option Addr) (ca : Nat) (xs L : List Nat) (d : Nat) (w : World) (hB : Blk w g L) (hL : n ≤ L.length) (h : Sl w A n ca xs) (hal : ∀ b off, A = some ⟨b, off, none⟩ → 0 < n → b ≠ g ∨ off = 0) (hd : 0 < d) (hd2 : d < 4294967296) (hn : n ≤ 1000000000) (hcq : n ≤ cq)
    (r : Nat) (hr : Hid (r = val xs % d)) :
    Calls Tryz.prog 149 #[.slice (some ⟨g, 0, none⟩) n cq, .slice A n ca, .int .u32 (d : Int)] w fun e w' =>
      e = .returned (.int .u32 (r : Int)) ∧ (∃ Q : List Nat, Q.length = n ∧ Ok Q ∧ val Q = val xs / d ∧ Blk w' g (Q ++ L.drop n)) ∧ Only g w w' := by
  rw [hr.out]; exact divInto_any g n cq A ca xs L d w hB hL h hal hd hd2 hn hcq
theorem isBase_yes (b : Int) (h1 : 2 ≤ b) (h2 : b ≤ 36) (w : World) : Calls Tryz.prog 145 #[.int .i64 b] w fun e w' => e = .returned (.bool true) ∧ w = w' := by
  go_enter Tryz.func145, Tryz.ntmps145
  go_wp2_with fail
  go_ret
  exact ⟨rfl, rfl⟩
theorem extract_one (t : ByteArray) : (t.extract 1 t.size).data.toList = t.data.toList.drop 1 := by
  simp [ByteArray.data_extract, List.take_of_length_le]
theorem head_drop (t : ByteArray) (h : 0 < t.size) : t.data.toList = t[0] :: t.data.toList.drop 1 := by
  have := List.drop_eq_getElem_cons (i := 0) (l := t.data.toList) (by simpa using h)
  rw [List.drop_zero] at this
  exact this
set_option maxHeartbeats 800000 in
theorem trimLeftByte_any (s : ByteArray) (w : World) :
    Calls Tryz.prog 166 #[.string s, .int .u8 48] w fun e w' => ∃ t : ByteArray, e = .returned (.string t) ∧ t.data.toList = s.data.toList.dropWhile (· == 48) ∧ w = w' := by
  go_enter Tryz.func166, Tryz.ntmps166
  go_wp2_with fail
  go_loopg [0] s.size (fun k v wr => ∃ t : ByteArray, v = .string t ∧ t.size = k ∧ k ≤ s.size ∧ Hid (t.data.toList.dropWhile (· == 48) = s.data.toList.dropWhile (· == 48)) ∧ wr = w)
  case atStart => exact ⟨s, rfl, rfl, Nat.le_refl _, rfl, rfl⟩
  case round =>
    obtain ⟨t, rfl, hk, hle, hd, rfl⟩ := hrel
    subst hk
    by_cases h0 : 0 < t.size
    · by_cases hc : t[0] = 48
      · have hcc : (((t[0].toNat : Nat) : Int) == 48) = true := by simp [hc]
        have hz : (t.extract 1 t.size).size < t.size := by simp; omega
        have HD := Lib.hid (show (t.extract 1 t.size).data.toList.dropWhile (· == 48) = s.data.toList.dropWhile (· == 48) by
          rw [← hd.out, extract_one t, head_drop t h0, List.dropWhile_cons_of_pos (by simp [hc])]; simp)
        have HC := Lib.hid hc
        clear hc
        go_wp2_with fail
        go_roundg (t.extract 1 t.size).size
        case measure => exact hz
        case rel => exact ⟨_, rfl, rfl, by omega, HD, rfl⟩
      · have hcc : (((t[0].toNat : Nat) : Int) == 48) = false := by
          rw [beq_eq_false_iff_ne]
          intro h
          exact hc (by
            have : t[0].toNat = 48 := by omega
            exact UInt8.toNat_inj.1 this)
        have HC := Lib.hid hc
        clear hc
        go_wp2_with fail
        go_ret
        refine ⟨t, rfl, ?_, rfl⟩
        rw [← hd.out, head_drop t h0, List.dropWhile_cons_of_neg (by simpa using HC.out)]
    · have he : t.size = 0 := by omega
      have H0 := Lib.hid he
      have h0' : ¬ (0 : Int) < (t.size : Int) := by omega
      clear he
      go_wp2_with fail
      go_ret
      refine ⟨t, rfl, ?_, rfl⟩
      have : t.data.toList = [] := by apply List.eq_nil_of_length_eq_zero; simpa using H0.out
      rw [← hd.out, this]; rfl
set_option maxRecDepth 100000 in
set_option maxHeartbeats 800000 in
theorem trimLeft_any (s : ByteArray) (w : World) :
    Calls Tryz.prog 151 #[.string s, .string ⟨#[48]⟩] w fun e w' => ∃ t : ByteArray, e = .returned (.string t) ∧ t.data.toList = s.data.toList.dropWhile (· == 48) ∧ w = w' := by
  by_cases h0 : s.size = 0
  · have hl : s.data.toList = [] := by apply List.eq_nil_of_length_eq_zero; simpa using h0
    have he : s.toList.isEmpty = true := by
      rw [ByteArray.toList_eq]; simp [hl]
    have HL := Lib.hid hl
    clear h0 hl
    go_enter Tryz.func151, Tryz.ntmps151
    go_wp2_with fail
    go_ret
    exact ⟨s, rfl, by rw [HL.out]; rfl, rfl⟩
  · have hl : s.data.toList ≠ [] := by
      intro h; apply h0; have := congrArg List.length h; simpa using this
    have he : s.toList.isEmpty = false := by
      rw [ByteArray.toList_eq]; simpa using hl
    clear h0 hl
    go_enter Tryz.func151, Tryz.ntmps151
    go_wp2_with (go_at_call 166; refine (trimLeftByte_any s _).mono ?_; rintro e w' ⟨t, rfl, ht, rfl⟩)
    go_ret
    exact ⟨t, rfl, ht, rfl⟩
/-- The number of a list of digits, the lowest first. -/
def valb (b : Nat) : List Nat → Nat
  | [] => 0
  | x :: xs => x + b * valb b xs
def Okb (b : Nat) (xs : List Nat) : Prop := ∀ x ∈ xs, x < b
section
variable {b : Nat}
theorem Okb.nil : Okb b [] := fun _ h => by cases h
theorem Okb.cons {x : Nat} {xs : List Nat} (h : x < b) (hx : Okb b xs) : Okb b (x :: xs) := by
  intro y hy
  rcases List.mem_cons.1 hy with rfl | hy
  · exact h
  · exact hx y hy
theorem Okb.head {x : Nat} {xs : List Nat} (h : Okb b (x :: xs)) : x < b := h x (List.mem_cons_self ..)
theorem Okb.tail {x : Nat} {xs : List Nat} (h : Okb b (x :: xs)) : Okb b xs := fun y hy => h y (List.mem_cons_of_mem _ hy)
theorem Okb.append {xs ys : List Nat} (h : Okb b xs) (k : Okb b ys) : Okb b (xs ++ ys) := by
  intro y hy
  rcases List.mem_append.1 hy with hy | hy
  · exact h y hy
  · exact k y hy
theorem Okb.take {xs : List Nat} (h : Okb b xs) (k : Nat) : Okb b (xs.take k) := fun y hy => h y (List.mem_of_mem_take hy)
theorem Okb.trim {xs : List Nat} (h : Okb b xs) : Okb b (trimL xs) := by rw [trimL_take]; exact h.take _
theorem valb_cons (x : Nat) (xs : List Nat) : valb b (x :: xs) = x + b * valb b xs := rfl
theorem valb_append (xs ys : List Nat) : valb b (xs ++ ys) = valb b xs + b ^ xs.length * valb b ys := by
  induction xs with
  | nil => simp [valb]
  | cons x xs ih =>
    rw [List.cons_append, valb_cons, valb_cons, ih, List.length_cons, Nat.pow_succ, Nat.mul_add, Nat.mul_comm (b ^ xs.length) b, Nat.mul_assoc]
    omega
theorem valb_snoc (xs : List Nat) (x : Nat) : valb b (xs ++ [x]) = valb b xs + b ^ xs.length * x := by
  rw [valb_append, valb_cons, valb, Nat.mul_zero, Nat.add_zero]
theorem valb_trimL (xs : List Nat) : valb b (trimL xs) = valb b xs := by
  induction xs with
  | nil => rfl
  | cons x xs ih =>
    unfold trimL
    split
    · rename_i h
      rw [h.2] at ih
      rw [valb_cons, ← ih, h.1]
      simp [valb]
    · rw [valb_cons, valb_cons, ih]
theorem split_unique {x y u v : Nat} (hx : x < b) (hy : y < b) (h : x + b * u = y + b * v) : x = y ∧ u = v := by
  have h1 : (x + b * u) % b = (y + b * v) % b := by rw [h]
  rw [Nat.add_mul_mod_self_left, Nat.add_mul_mod_self_left, Nat.mod_eq_of_lt hx, Nat.mod_eq_of_lt hy] at h1
  have h2 : (x + b * u) / b = (y + b * v) / b := by rw [h]
  rw [Nat.add_mul_div_left _ _ (by omega), Nat.add_mul_div_left _ _ (by omega), Nat.div_eq_of_lt hx, Nat.div_eq_of_lt hy] at h2
  omega
theorem valb_zero_trim (hb : 0 < b) (zs : List Nat) : valb b zs = 0 → trimL zs = [] := by
  induction zs with
  | nil => intro _; rfl
  | cons z zs ih =>
    intro hz
    rw [valb_cons] at hz
    have h2 : b * valb b zs = 0 := by omega
    have h3 : valb b zs = 0 := by
      rcases Nat.mul_eq_zero.1 h2 with h | h
      · omega
      · exact h
    rw [trimL, if_pos ⟨by omega, ih h3⟩]
theorem valb_inj (hb : 0 < b) {xs ys : List Nat} (hx : Okb b xs) (hy : Okb b ys) (tx : trimL xs = xs) (ty : trimL ys = ys) (h : valb b xs = valb b ys) : xs = ys := by
  induction xs generalizing ys with
  | nil =>
    have := valb_zero_trim hb ys (by rw [← h]; rfl)
    rw [← ty, this]
  | cons x xs ih =>
    cases ys with
    | nil =>
      have := valb_zero_trim hb (x :: xs) (by rw [h]; rfl)
      rw [← tx, this]
    | cons y ys =>
      rw [valb_cons, valb_cons] at h
      obtain ⟨e0, e1⟩ := split_unique hx.head hy.head h
      have txs : trimL xs = xs := by
        rw [trimL] at tx
        split at tx
        · cases tx
        · injection tx
      have tys : trimL ys = ys := by
        rw [trimL] at ty
        split at ty
        · cases ty
        · injection ty
      rw [e0, ih hx.tail hy.tail txs tys e1]
end
def digsF : Nat → Nat → Nat → List Nat
  | 0, _, _ => []
  | f + 1, b, n => n % b :: digsF f b (n / b)
/-- A number's digits, the lowest first, without noughts at their end. -/
def digs (b n : Nat) : List Nat := trimL (digsF n b n)
theorem digsF_ok (b f n : Nat) (hb : 0 < b) : Okb b (digsF f b n) := by
  induction f generalizing n with
  | zero => exact Okb.nil
  | succ f ih => exact Okb.cons (Nat.mod_lt _ hb) (ih _)
theorem digsF_val (b f n : Nat) (hb : 2 ≤ b) (h : n ≤ f) : valb b (digsF f b n) = n := by
  induction f generalizing n with
  | zero => rw [digsF, valb]; omega
  | succ f ih =>
    have h1 : n / b ≤ f := by
      rcases Nat.eq_zero_or_pos n with h0 | h0
      · subst h0; simp
      · have := Nat.div_lt_self h0 hb; omega
    rw [digsF, valb_cons, ih _ h1]
    exact Nat.mod_add_div n b
theorem digs_ok (b n : Nat) (hb : 0 < b) : Okb b (digs b n) := (digsF_ok b n n hb).trim
theorem digs_val (b n : Nat) (hb : 2 ≤ b) : valb b (digs b n) = n := by rw [digs, valb_trimL, digsF_val b n n hb (Nat.le_refl _)]
theorem trimL_digs {b : Nat} (hb : 2 ≤ b) {xs : List Nat} (h : Okb b xs) : trimL xs = digs b (valb b xs) :=
  valb_inj (by omega) h.trim (digs_ok b _ (by omega)) (trimL_idem _) (trimL_idem _) (by rw [valb_trimL, digs_val b _ hb])
theorem digs_zero (b : Nat) : digs b 0 = [] := rfl
theorem digs_nil_iff (b n : Nat) (hb : 2 ≤ b) : digs b n = [] ↔ n = 0 := by
  constructor
  · intro h; rw [← digs_val b n hb, h]; rfl
  · rintro rfl; rfl
/-- A digit's letter. -/
def chr (d : Nat) : UInt8 := if d < 10 then UInt8.ofNat (48 + d) else UInt8.ofNat (87 + d)
/-- A number's text. -/
def txt (b n : Nat) : List UInt8 := if n = 0 then [48] else (digs b n).reverse.map chr
theorem chr_zero_iff (d : Nat) (h : d < 36) : chr d = 48 ↔ d = 0 := by
  have : ∀ d : Fin 36, chr d.1 = 48 ↔ d.1 = 0 := by decide
  exact this ⟨d, h⟩
/-- The trimmed reverse: what TrimLeft leaves of digits' letters, the highest first. -/
theorem dropWhile_chr (b : Nat) (hb2 : b ≤ 36) (ds : List Nat) (h : Okb b ds) : (ds.reverse.map chr).dropWhile (· == 48) = (trimL ds).reverse.map chr := by
  generalize hn : ds.length = n
  induction n generalizing ds with
  | zero => obtain rfl := List.eq_nil_of_length_eq_zero hn; rfl
  | succ n ih =>
    obtain ⟨ys, y, rfl⟩ : ∃ ys y, ds = ys ++ [y] := ⟨ds.dropLast, ds.getLast (by intro h0; rw [h0] at hn; cases hn), (List.dropLast_concat_getLast _).symm⟩
    have hy : y < b := h y (by simp)
    have hys : Okb b ys := fun z hz => h z (by simp [hz])
    rw [List.reverse_append, List.reverse_singleton, List.singleton_append, List.map_cons]
    by_cases h0 : y = 0
    · subst h0
      rw [List.dropWhile_cons_of_pos (by simp [chr]), ih ys hys (by simpa using hn), trimL_snoc_zero]
    · rw [List.dropWhile_cons_of_neg (by simp [chr_zero_iff y (by omega), h0]), trimL_snoc _ _ h0, List.reverse_append]
      rfl
/-- ... and with "0" for nothing: the number's text. -/
theorem txt_of (b : Nat) (hb : 2 ≤ b) (hb2 : b ≤ 36) (ds : List Nat) (h : Okb b ds) :
    txt b (valb b ds) = if ((ds.reverse.map chr).dropWhile (· == 48)) = [] then [48] else (ds.reverse.map chr).dropWhile (· == 48) := by
  rw [dropWhile_chr b hb2 ds h, trimL_digs hb h]
  unfold txt
  by_cases h0 : valb b ds = 0
  · rw [if_pos h0, h0, digs_zero]; rfl
  · rw [if_neg h0, if_neg]
    intro he
    rw [List.map_eq_nil_iff, List.reverse_eq_nil_iff] at he
    exact h0 ((digs_nil_iff b _ hb).1 he)
/-- What pieceOf answers: a power of the base that is a limb. -/
def Piece (b : Nat) (w : World) (e : Ending) (w' : World) : Prop := ∃ t q : Nat, 1 ≤ t ∧ t ≤ 32 ∧ q < 4294967296 ∧ Hid (q = b ^ t) ∧ e = .returned (.tuple #[.int .u32 (q : Int), .int .i64 (t : Int)]) ∧ w = w'
set_option maxHeartbeats 800000 in
theorem pieceOf_any (b : Nat) (hb : 2 ≤ b) (hb2 : b ≤ 36) (w : World) : Calls Tryz.prog 146 #[.int .i64 (b : Int)] w (Piece b w) := by
  go_enter Tryz.func146, Tryz.ntmps146
  go_wp2_with fail
  go_loop [4, 5] (fun p t => ∃ k q : Nat, 1 ≤ k ∧ k ≤ 32 ∧ p = .int .u64 q ∧ t = .int .i64 k ∧ q < 4294967296 ∧ Hid (q = b ^ k)) (fun _ t => 33 - (intOf t).toNat)
  case atStart => exact ⟨1, b, by omega, by omega, rfl, rfl, by omega, (Nat.pow_one b).symm⟩
  case round =>
    obtain ⟨k, q, hk1, hk2, rfl, rfl, hq, HQ⟩ := hrel
    have hk3 : k < 32 := by
      rcases Nat.lt_or_ge k 32 with h | h
      · exact h
      · exfalso
        have h1 : 2 ^ 32 ≤ 2 ^ k := Nat.pow_le_pow_right (by decide) h
        have h2 : 2 ^ k ≤ b ^ k := Nat.pow_le_pow_left hb k
        have h3 := HQ.out
        omega
    have hm := Nat.mul_le_mul (show q ≤ 4294967295 by omega) hb2
    have hm' : (q : Int) * (b : Int) ≤ 154618822620 := by rw [← Int.natCast_mul]; omega
    have hm0 : 0 ≤ (q : Int) * (b : Int) := by rw [← Int.natCast_mul]; omega
    clear hm
    by_cases hle : (q : Int) * (b : Int) ≤ 4294967295
    · go_wp2_with fail
      go_round
      case rel => exact ⟨k + 1, q * b, by omega, by omega, by rw [Int.natCast_mul], by go_num, by rw [← Int.natCast_mul] at hle; omega, by rw [HQ.out, ← Nat.pow_succ]; exact rfl⟩
      case measure => simp [intOf]; omega
    · go_wp2_with fail
      go_ret2
      exact ⟨k, q, hk1, hk2, hq, HQ, rfl, rfl⟩
/-- The cells of bytes. -/
def bcells (l : List UInt8) : List Value := l.map fun c : UInt8 => Value.int .u8 ((c.toNat : Nat) : Int)
theorem bcells_getElem? (l : List UInt8) (i : Nat) (h : i < l.length) : (bcells l)[i]? = some (.int .u8 (((l.getD i 0).toNat : Nat) : Int)) := by
  simp [bcells, List.getElem?_eq_getElem h, List.getD_eq_getElem?_getD]
theorem bcells_set (l : List UInt8) (i : Nat) (c : UInt8) : (bcells l).set i (.int .u8 ((c.toNat : Nat) : Int)) = bcells (l.set i c) := by simp [bcells, List.map_set]
/-- The first k and the last k are exchanged. -/
def RevTo (l : List UInt8) (k : Nat) (M : List UInt8) : Prop :=
  M.length = l.length ∧ ∀ t, t < l.length → M.getD t 0 = if t < k ∨ l.length - 1 - t < k then l.getD (l.length - 1 - t) 0 else l.getD t 0
theorem revTo_zero (l : List UInt8) : RevTo l 0 l := ⟨rfl, fun t _ => by simp⟩
theorem revTo_step {l M : List UInt8} {k : Nat} (h : RevTo l k M) (hk : k < l.length - 1 - k) :
    RevTo l (k + 1) ((M.set k (M.getD (l.length - 1 - k) 0)).set (l.length - 1 - k) (M.getD k 0)) := by
  obtain ⟨hl, hm⟩ := h
  refine ⟨by simp [hl], fun t ht => ?_⟩
  have e1 := hm k (by omega)
  have e2 := hm (l.length - 1 - k) (by omega)
  rw [if_neg (by omega)] at e1 e2
  rw [e1, e2]
  by_cases h1 : t = l.length - 1 - k
  · rw [h1, List.getD_eq_getElem?_getD, List.getElem?_set_self (by simp [hl]; omega), if_pos (by omega)]
    rw [show l.length - 1 - (l.length - 1 - k) = k by omega]; rfl
  · by_cases h2 : t = k
    · rw [h2, List.getD_eq_getElem?_getD, List.getElem?_set_ne (by omega), List.getElem?_set_self (by omega), if_pos (by omega)]; rfl
    · rw [List.getD_eq_getElem?_getD, List.getElem?_set_ne (by omega), List.getElem?_set_ne (by omega), ← List.getD_eq_getElem?_getD, hm t ht]
      by_cases h3 : t < k ∨ l.length - 1 - t < k
      · rw [if_pos h3, if_pos (by omega)]
      · rw [if_neg h3, if_neg (by omega)]
theorem revTo_end {l M : List UInt8} {k : Nat} (h : RevTo l k M) (hk : l.length ≤ k + k + 1) : M = l.reverse := by
  obtain ⟨hl, hm⟩ := h
  apply List.ext_getElem?
  intro t
  rcases Nat.lt_or_ge t l.length with ht | ht
  · have e := hm t ht
    have e2 : M.getD t 0 = l.getD (l.length - 1 - t) 0 := by
      rw [e]
      split
      · rfl
      · rw [show l.length - 1 - t = t by omega]
    rw [List.getElem?_reverse ht]
    rw [List.getD_eq_getElem?_getD, List.getD_eq_getElem?_getD, List.getElem?_eq_getElem (by omega), List.getElem?_eq_getElem (by omega)] at e2
    rw [List.getElem?_eq_getElem (by omega), List.getElem?_eq_getElem (by omega)]
    exact congrArg some e2
  · rw [List.getElem?_eq_none (by omega), List.getElem?_eq_none (by simp; omega)]
theorem grown_trans {a b c : World} {r : Option Nat} (h : a.grownBy b r) (k : b.grownBy c r) : a.grownBy c r :=
  ⟨k.os.trans h.os, k.tape.trans h.tape, k.output.trans h.output, Nat.le_trans h.size k.size, fun i hi hne => (k.block i (by have := h.size; omega) hne).trans (h.block i hi hne)⟩
theorem grown_drew {a b : World} {r : Option Nat} (h : a.grownBy b r) : a.grownBy b.drew r := ⟨h.os, h.tape, h.output, h.size, h.block⟩
theorem bytes_nil_rev (w : World) : Calls Tryz.prog 150 #[.slice none 0 0] w fun e w' => e = .returned (.tuple #[]) ∧ w = w' := by
  go_enter Tryz.func150, Tryz.ntmps150
  go_wp2_with fail
  refine wp_loop_rounds 1 ?_
  rw [rounds_succ]
  go_wp2_with fail
  go_end0
  exact ⟨rfl, rfl⟩
set_option maxHeartbeats 800000 in
theorem reverse_any (base g n cap : Nat) (l : List UInt8) (hn : n = l.length) (w : World) (h : w.ownsRow base 5 1 (.slice (some ⟨g, 0, none⟩) n cap) n (bcells l)) (hm : n ≤ 1000000000000) :
    Calls Tryz.prog 150 #[.slice (some ⟨g, 0, none⟩) n cap] w fun e w' =>
      e = .returned (.tuple #[]) ∧ w'.ownsRow base 5 1 (.slice (some ⟨g, 0, none⟩) n cap) n (bcells l.reverse) ∧ w.grownBy w' (some g) := by
  have HN := Lib.hid hn
  have H := Lib.hid h
  clear hn h
  go_enter Tryz.func150, Tryz.ntmps150
  go_wp2_with fail
  go_loopw [2, 3] (fun i j wr => ∃ k : Nat, k ≤ n ∧ i = .int .i64 k ∧ j = .int .i64 ((n : Int) - 1 - k) ∧ ∃ M, Hid (RevTo l k M) ∧ wr.ownsRow base 5 1 (.slice (some ⟨g, 0, none⟩) n cap) n (bcells M) ∧ w.grownBy wr (some g)) (fun i _ _ => n - (intOf i).toNat)
  case atStart => exact ⟨0, by omega, rfl, by go_num, l, revTo_zero l, H.out, World.grownBy.refl _ _⟩
  case round =>
    obtain ⟨k, hk, rfl, rfl, M, HM, ho, hg⟩ := hrel
    by_cases hlt : k + k + 1 < n
    · obtain ⟨j, hj⟩ : ∃ j : Nat, j + k + 1 = n := ⟨n - 1 - k, by omega⟩
      have ej : ((n : Int) - 1 - (k : Int)) = (j : Int) := by omega
      rw [ej]
      have hkj : k < j := by omega
      have hkjI : (k : Int) < (j : Int) := by omega
      have hjn : (j : Int) < (n : Int) := by omega
      have hkn : (k : Int) < (n : Int) := by omega
      have f1 := ho.frozenAt k
      have f2 := ho.frozenAt j
      have c1 := ho.cellAt k (by omega)
      have c2 := ho.cellAt j (by omega)
      have hML := HM.out.1
      rw [bcells_getElem? M k (by have := HN.out; omega)] at c1
      rw [bcells_getElem? M j (by have := HN.out; omega)] at c2
      have HJ := Lib.hid (And.intro hj (And.intro ej hML))
      clear hj ej hML
      generalize hx : M.getD k 0 = x at *
      generalize hy : M.getD j 0 = y at *
      have HXY := Lib.hid (And.intro hx hy)
      clear hx hy
      go_wp2_with fail
      go_region
      all_goals
        go_wp2_with fail
        go_roundw
        case rel =>
          obtain ⟨hj, ej, hML⟩ := HJ.out
          obtain ⟨hx, hy⟩ := HXY.out
          have ejl : l.length - 1 - k = j := by have := HN.out; omega
          obtain ⟨o1, g1⟩ := ho.stored k (.int .u8 ((y.toNat : Nat) : Int))
          obtain ⟨o2, g2⟩ := o1.stored j (.int .u8 ((x.toNat : Nat) : Int))
          rw [bcells_set, bcells_set] at o2
          have hr := revTo_step HM.out (by omega)
          rw [ejl, hx, hy] at hr
          exact ⟨k + 1, by omega, by go_num, by go_num, _, hr, o2.drew, grown_trans hg (grown_trans g1 (grown_drew g2))⟩
        case measure => simp [intOf]; omega
    · have hle : ¬ (k : Int) < (n : Int) - 1 - (k : Int) := by omega
      go_wp2_with fail
      go_end0
      have e := revTo_end HM.out (by have := HN.out; omega)
      rw [← e]
      exact ⟨rfl, ho, hg⟩
theorem info8 : (Tryz.prog.info? 5).map (fun i => (i.zero, i.size, i.bytes)) = some (some (.int .u8 0), 1, 1) := by kernel_rfl
/-- A letter of the constant text of digits. -/
theorem digit_at (k : Nat) (hk : k < 36) (w : World) : (Instr.index 9 (.string ⟨#[48, 49, 50, 51, 52, 53, 54, 55, 56, 57, 97, 98, 99, 100, 101, 102, 103, 104, 105, 106, 107, 108, 109, 110, 111, 112, 113, 114, 115, 116, 117, 118, 119, 120, 121, 122]⟩) (.int .u32 (k : Int))).run Tryz.prog w = .ok (.int .u8 (((chr k).toNat : Nat) : Int)) w := by
  rcases (show k = 0 ∨ k = 1 ∨ k = 2 ∨ k = 3 ∨ k = 4 ∨ k = 5 ∨ k = 6 ∨ k = 7 ∨ k = 8 ∨ k = 9 ∨ k = 10 ∨ k = 11 ∨ k = 12 ∨ k = 13 ∨ k = 14 ∨ k = 15 ∨ k = 16 ∨ k = 17 ∨ k = 18 ∨ k = 19 ∨ k = 20 ∨ k = 21 ∨ k = 22 ∨ k = 23 ∨ k = 24 ∨ k = 25 ∨ k = 26 ∨ k = 27 ∨ k = 28 ∨ k = 29 ∨ k = 30 ∨ k = 31 ∨ k = 32 ∨ k = 33 ∨ k = 34 ∨ k = 35 by omega) with rfl | rfl | rfl | rfl | rfl | rfl | rfl | rfl | rfl | rfl | rfl | rfl | rfl | rfl | rfl | rfl | rfl | rfl | rfl | rfl | rfl | rfl | rfl | rfl | rfl | rfl | rfl | rfl | rfl | rfl | rfl | rfl | rfl | rfl | rfl | rfl
  all_goals kernel_rfl
/-- A row of bytes of the call's own. -/
def BOwn (w : World) (base : Nat) (v : Value) (l : List UInt8) : Prop := w.ownsRow base 5 1 v l.length (bcells l)
theorem Only.grown {g : Nat} {w w' : World} (h : Only g w w') : w.grownBy w' (some g) := ⟨h.os, h.tape, h.output, by rw [h.size]; exact Nat.le_refl _, fun k _ hne => h.block k (fun e => hne (by rw [e]))⟩
/-- A row of bytes is no block of limbs. -/
theorem BOwn.ne {w : World} {base g : Nat} {v : Value} {l : List UInt8} {L : List Nat} (h : BOwn w base v l) (hb : Blk w g L) : v.ownBlock ≠ some g := by
  rcases h.2 with ⟨rfl, _⟩ | ⟨g', cap, cur, rfl, _, hh, _⟩
  · simp [Value.ownBlock]
  · intro he
    have : g' = g := by simpa [Value.ownBlock] using he
    subst this
    unfold Blk at hb
    rw [hb] at hh
    simp at hh
theorem BOwn.only {w w' : World} {base g : Nat} {v : Value} {l : List UInt8} {L : List Nat} (h : BOwn w base v l) (hb : Blk w g L) (ho : Only g w w') : BOwn w' base v l :=
  World.ownsRow.kept h ho.grown (.inr (h.ne hb))
theorem Blk.grownB {w w' : World} {g : Nat} {L : List Nat} {row : Option Nat} (hb : Blk w g L) (hg : w.grownBy w' row) (hne : row ≠ some g) : Blk w' g L := (hg.block g hb.lt (fun e => hne e.symm)).trans hb
/-- What Text has made so far of the number n: digits, and what is left to be told. -/
structure TextInv (w : World) (b n n0 r m : Nat) (v : Value) (wr : World) (O : List Nat) (L : List Nat) : Prop where
  len : m = (limbs r).length
  lenL : L.length = n0
  take : L.take m = limbs r
  okL : Ok L
  blk : Blk wr w.heap.size L
  own : BOwn wr w.heap.size v (O.map chr)
  okO : Okb b O
  num : n = valb b O + b ^ O.length * r
  bel : Below w.heap.size w wr
  lenO : O.length ≤ 50000000000
/-- ... and inside a round: the digits of what divInto left. -/
structure TextIn (w : World) (b low j lo : Nat) (v : Value) (wr : World) (O D L : List Nat) : Prop where
  lenD : D.length = j
  okD : Okb b D
  num : low = valb b D + b ^ j * lo
  blk : Blk wr w.heap.size L
  own : BOwn wr w.heap.size v ((O ++ D).map chr)
  bel : Below w.heap.size w wr
/-- There are not more digits than bits. -/
theorem text_len {w : World} {b n0 r m : Nat} {xs : List Nat} {v : Value} {wr : World} {O L : List Nat} {n1 : Nat} (h : TextInv w b (val xs) n0 r m v wr O L) (hb : 2 ≤ b) (ok : Ok xs) (hl : n1 = xs.length) (hn : n1 ≤ 1000000000) (hr : r ≠ 0) : O.length ≤ 40000000000 := by
  have h1 := val_lt ok
  have h2 : b ^ O.length ≤ b ^ O.length * r := Nat.le_mul_of_pos_right _ (by omega)
  have h3 : 2 ^ O.length ≤ b ^ O.length := Nat.pow_le_pow_left hb _
  have h4 := h.num
  have h5 : 2 ^ O.length < 2 ^ (32 * xs.length) := by
    rw [Nat.pow_mul]
    show _ < 4294967296 ^ xs.length
    omega
  have h6 := (Nat.pow_lt_pow_iff_right (by decide : 1 < 2)).1 h5
  omega
theorem low_num (lo b : Nat) (h : lo < 4294967296) : Value.int .u32 ((lo : Int) / (b : Int) % 4294967296) = Value.int .u32 ((lo / b : Nat) : Int) := by
  have : lo / b ≤ lo := Nat.div_le_self _ _
  rw [← Int.natCast_ediv]
  generalize lo / b = q at this ⊢
  exact congrArg _ (by omega)
theorem bcells_snoc (l : List UInt8) (c : UInt8) : bcells l ++ [Value.int .u8 ((c.toNat : Nat) : Int)] = bcells (l ++ [c]) := by simp [bcells]
theorem text_in_step {w : World} {b low j lo : Nat} {v v' : Value} {wr w3 : World} {O D L : List Nat} {o : Obj} (h : TextIn w b low j lo v wr O D L) (hb : 2 ≤ b)
    (hown : w3.ownsRow w.heap.size 5 1 v' (((O ++ D).map chr).length + 1) (bcells ((O ++ D).map chr) ++ [Value.int .u8 (((chr (lo % b)).toNat : Nat) : Int)])) (hg : (wr.alloc o).grownBy w3 v.ownBlock) :
    TextIn w b low (j + 1) (lo / b) v' w3 O (D ++ [lo % b]) L := by
  have hsz := h.bel.size
  have e : (O ++ (D ++ [lo % b])).map chr = (O ++ D).map chr ++ [chr (lo % b)] := by simp
  refine ⟨by simp [h.lenD], h.okD.append (Okb.cons (Nat.mod_lt _ (by omega)) Okb.nil), ?_, (h.blk.alloc o).grownB hg (h.own.ne h.blk), ?_, ?_⟩
  · rw [valb_snoc, h.lenD, h.num, Nat.pow_succ, Nat.mul_assoc, Nat.add_assoc, ← Nat.mul_add, Nat.mod_add_div]
  · unfold BOwn
    rw [e, ← bcells_snoc, List.length_append]
    exact hown
  · refine (h.bel.alloc (by omega) o).grown hg (by simp; omega) (fun k hk => ?_)
    exact (World.ownsRow.lt h.own k hk).1
theorem text_low_zero {b low t lo : Nat} {D : List Nat} (h : low = valb b D + b ^ t * lo) (hl : low < b ^ t) : lo = 0 := by
  rcases Nat.eq_zero_or_pos lo with h0 | h0
  · exact h0
  · have : b ^ t ≤ b ^ t * lo := Nat.le_mul_of_pos_right _ h0
    omega
theorem text_out_step {w : World} {b n n0 r m t low lo : Nat} {v v' : Value} {wr wr' : World} {O D L Q : List Nat} {m' : Nat} (h : TextInv w b n n0 r m v wr O L) (hin : TextIn w b low t lo v' wr' O D (Q ++ List.drop m L))
    (hnum : low = valb b D) (hlow : low = r % b ^ t) (hQ : val Q = r / b ^ t) (hOD : O.length + t ≤ 50000000000) (hQo : Ok Q) (hm' : m' = (limbs (val Q)).length) (hlen : (Q ++ List.drop m L).length = n0) (okL : Ok (Q ++ List.drop m L)) :
    TextInv w b n n0 (r / b ^ t) m' v' wr' (O ++ D) (Q ++ List.drop m L) := by
  refine ⟨by rw [hm', hQ], hlen, ?_, okL, hin.blk, hin.own, h.okO.append hin.okD, ?_, hin.bel, by rw [List.length_append, hin.lenD]; exact hOD⟩
  · have hle : m' ≤ Q.length := by rw [hm']; exact limbs_len_val hQo
    rw [List.take_append_of_le_length hle, ← hQ, hm', ← trimL_limbs hQo]
    exact (trimL_take Q).symm
  · rw [h.num, valb_append, List.length_append, Nat.pow_add, ← hnum, hin.lenD, hlow, Nat.add_assoc, Nat.mul_assoc, ← Nat.mul_add, Nat.mod_add_div]
set_option maxHeartbeats 1600000 in
theorem text_any (A : Option Addr) (n1 c1 : Nat) (xs : List Nat) (b : Nat) (w : World) (h : Sl w A n1 c1 xs) (hb : 2 ≤ b) (hb2 : b ≤ 36) (hn1 : n1 ≤ 1000000000) :
    Calls Tryz.prog 129 #[.slice A n1 c1, .int .i64 (b : Int)] w fun e w' => ∃ t : ByteArray, e = .returned (.string t) ∧ t.data.toList = txt b (val xs) ∧ Below w.heap.size w w' := by
  obtain ⟨n0, HN⟩ : ∃ n, Hid (n = (limbs (val xs)).length) := ⟨_, rfl⟩
  have hn0 : n0 ≤ 1000000000 := by have := HN.out; have := limbs_len_val h.ok; have := h.len; omega
  obtain ⟨i0, hi, hz0, hz1, hz2⟩ := info_parts info8
  go_enter Tryz.func129, Tryz.ntmps129
  go_wp2_with (first | (go_at_call 145; refine (isBase_yes _ (by omega) (by omega) _).mono ?_; rintro e w' ⟨rfl, rfl⟩) | (go_at_call 146; refine (pieceOf_any b hb hb2 _).mono ?_; rintro e w' ⟨t, pc, ht1, ht2, ht3, HPC, rfl, rfl⟩) | (go_at_call 147; refine (norm_exact _ _ _ _ _ h (by omega) n0 HN).mono ?_; rintro e w1 ⟨rfl, hB1, hbel1⟩))
  go_loopg [7, 8] (val xs) (fun r v rs wr => ∃ (O : List Nat) (m : Nat) (L : List Nat), rs = .slice (some ⟨w.heap.size, 0, none⟩) m n0 ∧ m ≤ n0 ∧ TextInv w b (val xs) n0 r m v wr O L)
  case atStart =>
    refine ⟨[], n0, limbs (val xs), rfl, Nat.le_refl _, HN.out, HN.out.symm, by rw [HN.out, List.take_length], limbs_ok _, hB1, World.ownsRow_nil _ _ _ _, Okb.nil, by simp [valb], hbel1, by simp⟩
  case round =>
    obtain ⟨O, m, L, rfl, hm0, hinv⟩ := hrel
    by_cases hm : 0 < m
    · obtain ⟨r, HR⟩ : ∃ r, r = gk := ⟨_, rfl⟩
      subst HR
      have hpc1 : 0 < pc := by rw [HPC.out]; exact Nat.pow_pos (by omega)
      have hsl : Sl wr (some ⟨w.heap.size, 0, none⟩) m n0 (limbs r) := by
        have := hinv.blk.sl hinv.okL (by rw [hinv.lenL]; unfold maxLen; omega) m (by rw [hinv.lenL]; exact hm0)
        rwa [hinv.lenL, hinv.take] at this
      have hLm : m ≤ L.length := by rw [hinv.lenL]; exact hm0
      obtain ⟨low, HLOW⟩ : ∃ q, Hid (q = val (limbs r) % pc) := ⟨_, rfl⟩
      have hlow : low < pc := by rw [HLOW.out]; exact Nat.mod_lt _ hpc1
      have hOl := text_len hinv hb h.ok h.len hn1 (by have := hinv.len; intro h0; rw [h0, limbs_zero] at this; simp at this; omega)
      go_wp2_with (go_at_call 149; refine (divInto_at w.heap.size m n0 _ n0 (limbs r) L pc _ hinv.blk hLm hsl (fun b off e _ => by simp at e; exact .inr e.2.symm) hpc1 ht3 (by omega) hm0 low HLOW).mono ?_; rintro e w2 ⟨rfl, ⟨Q, hQl, hQo, hQv, hQb⟩, ho2⟩)
      have HQ := Lib.hid (And.intro hQl hQv)
      have hbel2 := hinv.bel.trans (ho2.below (Nat.le_refl _))
      have hown2 := hinv.own.only hinv.blk ho2
      clear hQl hQv
      go_loopw [7, 9, 31] (fun v lw i ws => ∃ (j lo : Nat) (D : List Nat), j ≤ t ∧ i = .int .i64 j ∧ lw = .int .u32 lo ∧ lo < 4294967296 ∧ TextIn w b low j lo v ws O D (Q ++ List.drop m L)) (fun _ _ i _ => t - (intOf i).toNat)
      case atStart => exact ⟨0, low, [], by omega, rfl, rfl, by omega, rfl, Okb.nil, by simp [valb], hQb, by simpa using hown2, hbel2⟩
      case round =>
        obtain ⟨j, lo, D, hj, rfl, rfl, hlo, hin⟩ := hrel
        by_cases hjt : j < t
        · have hmod : lo % b < b := Nat.mod_lt _ (by omega)
          have hix : ∀ W, (Instr.index 9 (.string ⟨#[48, 49, 50, 51, 52, 53, 54, 55, 56, 57, 97, 98, 99, 100, 101, 102, 103, 104, 105, 106, 107, 108, 109, 110, 111, 112, 113, 114, 115, 116, 117, 118, 119, 120, 121, 122]⟩) (.int .u32 ((lo : Int) % (b : Int)))).run Tryz.prog W = .ok (.int .u8 (((chr (lo % b)).toNat : Nat) : Int)) W := by
            intro W
            rw [← Int.natCast_emod]
            exact digit_at _ (by omega) W
          have hown := hin.own
          have hsz := hin.bel.size
          have hDl : ((O ++ D).map chr).length ≤ 50000000000 := by have := hin.lenD; simp; omega
          go_wp2_with (at_builtin; refine wpList_append_own _ rfl (.tmp 33) (.tmp 39) 59 rfl w.heap.size 5 i0 (.int .u8 0) 1 1 Tryz.underlying59 hi hz0 hz1 hz2 rfl (by decide) _ _ _ rfl (World.ownsRow.alloc hown _) ⟨_, 0, none⟩ 1 1 [.int .u8 (((chr (lo % b)).toNat : Nat) : Int)] rfl rfl (cell_one_new _ _ _) (fun u hu => by simp at hu; subst hu; rfl) (by unfold maxLen; omega) (by omega) (by simp; omega) ?_; intro v' w3 hown3 hgrow3 _)
          have hstep := text_in_step (v := u7) hin hb hown3 hgrow3
          clear hown3 hgrow3 hix
          go_wp2_with fail
          go_roundw
          case rel => exact ⟨j + 1, lo / b, _, by omega, by go_num, low_num lo b hlo, Nat.lt_of_le_of_lt (Nat.div_le_self _ _) hlo, hstep⟩
          case measure => simp [intOf]; omega
        · obtain rfl : j = t := by omega
          have hlo0 : lo = 0 := text_low_zero hin.num (by rw [← HPC.out]; exact hlow)
          subst hlo0
          have hnum := hin.num
          rw [Nat.mul_zero, Nat.add_zero] at hnum
          obtain ⟨m', HM'⟩ : ∃ m', Hid (m' = (limbs (val Q)).length) := ⟨_, rfl⟩
          have hm' : m' ≤ m := by rw [HM'.out, ← HQ.out.1]; exact limbs_len_val hQo
          have hLlen : (Q ++ List.drop m L).length = n0 := by have h1 := HQ.out.1; have h2 := hinv.lenL; simp; omega
          have okL1 : Ok (Q ++ List.drop m L) := hQo.append (hinv.okL.drop m)
          have hsl2 : Sl wr (some ⟨w.heap.size, 0, none⟩) m n0 Q := by
            have := hin.blk.sl okL1 (by rw [hLlen]; unfold maxLen; omega) m (by rw [hLlen]; exact hm0)
            rwa [hLlen, List.take_left' HQ.out.1] at this
          have HNUM := Lib.hid hnum
          clear hnum
          have hfin := text_out_step hinv hin HNUM.out (by rw [HLOW.out, limbs_val, HPC.out]) (by rw [HQ.out.2, limbs_val, HPC.out]) (by omega) hQo HM'.out hLlen okL1
          have hrlt : r / b ^ j < r := by
            have hr0 : 0 < r := by
              rcases Nat.eq_zero_or_pos r with h0 | h0
              · have := hinv.len; rw [h0, limbs_zero] at this; simp at this; omega
              · exact h0
            exact Nat.div_lt_self hr0 (Nat.lt_of_lt_of_le (by omega) (Nat.le_self_pow (by omega) b))
          have HF := Lib.hid (And.intro hfin hrlt)
          clear hfin hrlt hLlen
          go_wp2_with (go_at_call 148; refine (trim_at _ _ _ _ _ hsl2 m' HM').mono ?_; rintro e w' ⟨rfl, rfl⟩)
          go_roundg (r / b ^ j)
          case measure => exact HF.out.2
          case rel => exact ⟨_, m', _, rfl, by omega, HF.out.1⟩
    · have hm00 : m = 0 := by omega
      have hr0 : gk = 0 := by
        have := hinv.len
        rw [hm00] at this
        exact (limbs_nil_iff gk).1 (List.eq_nil_of_length_eq_zero this.symm)
      have hv : val xs = valb b O := by
        have := hinv.num
        rw [hr0, Nat.mul_zero, Nat.add_zero] at this
        exact this
      have htx := txt_of b hb hb2 O hinv.okO
      rw [← hv] at htx
      have hl50 := hinv.lenO
      have hown := hinv.own
      have hbel := hinv.bel
      have HT := Lib.hid htx
      clear htx hv hr0 hinv
      subst hm00
      rcases id hown.2 with ⟨hvn, h0⟩ | ⟨g', cap, cur, hvn, hg, hh, hnc, hcm, hcs, htk⟩
      · have hO : O = [] := by
          have := List.eq_nil_of_length_eq_zero h0
          simpa using this
        subst hO
        rw [hvn]
        have hcv := fun W => Lib.run_convert_nil_bytes (P := Tryz.prog) W 59 9 5 0 Tryz.underlying59 Tryz.underlying5 Tryz.underlying9
        clear hown hvn h0
        go_wp2_with (first | (go_at_call 150; refine (bytes_nil_rev _).mono ?_; rintro e w' ⟨rfl, rfl⟩) | (go_at_call 151; refine (trimLeft_any _ _).mono ?_; rintro e w' ⟨t', rfl, ht', rfl⟩; have het : t'.toList.isEmpty = true := (by rw [ByteArray.toList_eq, ht']; rfl); clear ht'))
        go_ret
        exact ⟨_, rfl, by rw [HT.out]; rfl, hbel⟩
      · rw [hvn] at hown ⊢
        clear hh hcs htk hvn
        obtain ⟨n, HNL⟩ : ∃ n, Hid (n = (O.map chr).length) := ⟨_, rfl⟩
        have hnl : n ≤ 1000000000000 := by have := HNL.out; simp at this; omega
        have hown' : wr.ownsRow w.heap.size 5 1 (.slice (some ⟨g', 0, none⟩) n cap) n (bcells (O.map chr)) := by rw [HNL.out]; exact hown
        rw [← HNL.out]
        clear hown
        go_wp2_with fail
        refine (reverse_any w.heap.size g' n cap _ HNL.out _ hown' hnl).mono ?_
        rintro e w4 ⟨rfl, hown4, hg4⟩
        have hbel4 : Below w.heap.size w w4 := hbel.grown hg4 hbel.size (fun k hk => by injection hk with hk; omega)
        have hcv : (convert 59 9 (.slice (some ⟨g', 0, none⟩) n cap)).run Tryz.prog w4 = .ok (.string ⟨(O.map chr).reverse.toArray⟩) w4 := by
          have hnr : n = (O.map chr).reverse.length := by rw [List.length_reverse]; exact HNL.out
          have := run_convert_bytes_back (P := Tryz.prog) w4 59 9 5 ⟨g', 0, none⟩ cap (O.map chr).reverse Tryz.underlying59 Tryz.underlying5 Tryz.underlying9 (fun j hj => by
            rw [cell_add, Nat.zero_add, hown4.cellAt j (by omega), bcells_getElem? _ j hj, List.getD_eq_getElem?_getD, List.getElem?_eq_getElem hj]; rfl)
          rw [← hnr] at this
          exact this
        generalize hS : (⟨(O.map chr).reverse.toArray⟩ : ByteArray) = S at hcv
        have hSl : S.data.toList = O.reverse.map chr := by rw [← hS]; simp
        have HSL := Lib.hid hSl
        clear hSl hS hown4 hg4
        go_wp2_with fail
        refine (trimLeft_any _ _).mono ?_
        rintro e w' ⟨t', rfl, ht', rfl⟩
        rw [HSL.out] at ht'
        clear hcv
        by_cases hE : (O.reverse.map chr).dropWhile (· == 48) = []
        · have het : t'.toList.isEmpty = true := by rw [ByteArray.toList_eq, ht', hE]; rfl
          have HT2 := Lib.hid (HT.out.trans (if_pos hE))
          clear ht' hE
          go_wp2_with fail
          go_ret
          exact ⟨_, rfl, by rw [HT2.out], hbel4⟩
        · have het : t'.toList.isEmpty = false := by rw [ByteArray.toList_eq, ht']; simpa using hE
          have HT2 := Lib.hid ((HT.out.trans (if_neg hE)).trans ht'.symm)
          clear ht' hE
          go_wp2_with fail
          go_ret
          exact ⟨_, rfl, HT2.out.symm, hbel4⟩
theorem New.sl {w : World} {base : Nat} {v : Value} {xs : List Nat} (h : New w base v xs) : ∃ A c, v = .slice A xs.length c ∧ Sl w A xs.length c xs := by
  obtain ⟨A, n, cap, rfl, hs, _⟩ := h
  have := hs.len
  subst this
  exact ⟨A, cap, rfl, hs⟩
/-- The value v is a slice of at most K limbs that has the number m. -/
def Num (w : World) (v : Value) (m K : Nat) : Prop := ∃ A n c xs, v = .slice A n c ∧ Sl w A n c xs ∧ val xs = m ∧ n ≤ K
theorem Num.below {w w' : World} {v : Value} {m K : Nat} (h : Num w v m K) (hb : Below w.heap.size w w') : Num w' v m K := by
  obtain ⟨A, n, c, xs, e, hs, hv, hn⟩ := h
  exact ⟨A, n, c, xs, e, hs.below hb, hv, hn⟩
theorem Num.alloc {w : World} {v : Value} {m K : Nat} (h : Num w v m K) (o : Obj) : Num (w.alloc o) v m K := h.below ((Below.refl _ _).alloc (Nat.le_refl _) o)
theorem Num.lt {w : World} {v : Value} {m K : Nat} (h : Num w v m K) : m < 4294967296 ^ K := by
  obtain ⟨A, n, c, xs, e, hs, hv, hn⟩ := h
  have h1 := val_lt hs.ok
  have h2 : 4294967296 ^ xs.length ≤ 4294967296 ^ K := Nat.pow_le_pow_right (by decide) (by have := hs.len; omega)
  omega
/-- What a call told. -/
theorem New.num {w : World} {base : Nat} {v : Value} {m : Nat} (h : New w base v (limbs m)) (K : Nat) (hm : m < 4294967296 ^ K) : Num w v m K := by
  obtain ⟨A, n, c, rfl, hs, _⟩ := h
  exact ⟨A, n, c, _, rfl, hs, limbs_val m, by have := limbs_len_le hm; have := hs.len; omega⟩
theorem New.next {w w' : World} {base : Nat} {v : Value} {xs : List Nat} (h : New w base v xs) (hb : Below w.heap.size w w') : New w' base v xs := h.below hb (Nat.le_refl _)
theorem New.lim {w : World} {base : Nat} {v : Value} {m K : Nat} (_h : New w base v (limbs m)) (hm : m < 4294967296 ^ K) : (limbs m).length ≤ K := limbs_len_le hm
section
variable {w : World} {u v : Value} {a b K L : Nat}
theorem norm_num (hu : Num w u a K) (hK : K ≤ 35184372087808) : Calls Tryz.prog 147 #[u] w (Gives w a) := by
  obtain ⟨A1, n1, c1, xs, rfl, s1, rfl, k1⟩ := hu
  exact norm_any _ _ _ _ _ s1 (by omega)
end
/-- How many bits a number has. -/
def bl (n : Nat) : Nat := if n = 0 then 0 else n.log2 + 1
theorem bl_zero : bl 0 = 0 := rfl
theorem bl_lt (n : Nat) : n < 2 ^ bl n := by
  unfold bl
  split
  · rename_i h; subst h; decide
  · exact Nat.lt_log2_self
theorem bl_le (n : Nat) (h : n ≠ 0) : 2 ^ (bl n - 1) ≤ n := by
  unfold bl
  rw [if_neg h]
  exact Nat.log2_self_le h
theorem bl_pos (n : Nat) (h : n ≠ 0) : 0 < bl n := by
  unfold bl
  rw [if_neg h]
  omega
theorem bl_unique {n k : Nat} (h0 : n ≠ 0) (h1 : n < 2 ^ k) (h2 : 2 ^ (k - 1) ≤ n) (hk : 0 < k) : k = bl n := by
  have a := bl_lt n
  have b := bl_le n h0
  have c := bl_pos n h0
  have d : k - 1 < bl n := (Nat.pow_lt_pow_iff_right (by decide : 1 < 2)).1 (Nat.lt_of_le_of_lt h2 a)
  have e : bl n - 1 < k := (Nat.pow_lt_pow_iff_right (by decide : 1 < 2)).1 (Nat.lt_of_le_of_lt b h1)
  omega
theorem bl_half (n : Nat) (h : n ≠ 0) : bl n = 1 + bl (n / 2) := by
  have a := bl_lt (n / 2)
  by_cases h1 : n / 2 = 0
  · have : n = 1 := by omega
    subst this
    decide
  · have b := bl_le (n / 2) h1
    have c := bl_pos (n / 2) h1
    refine (bl_unique h ?_ ?_ (by omega)).symm
    · rw [Nat.add_comm, Nat.pow_succ]; omega
    · obtain ⟨j, hj⟩ : ∃ j, bl (n / 2) = j + 1 := ⟨bl (n / 2) - 1, by omega⟩
      rw [hj] at b ⊢
      rw [show 1 + (j + 1) - 1 = j + 1 by omega, Nat.pow_succ]
      rw [show j + 1 - 1 = j by omega] at b
      omega
theorem bitLenAux_bl (f x : Nat) (h : x < 2 ^ f) : Lib.bitLenAux f x = bl x := by
  induction f generalizing x with
  | zero =>
    have : x = 0 := by omega
    subst this; rfl
  | succ f ih =>
    unfold Lib.bitLenAux
    split
    · rename_i h0; subst h0; rfl
    · rename_i h0
      rw [ih (x / 2) (by rw [Nat.pow_succ] at h; omega), bl_half x h0]
theorem bitLen_bl (x : Nat) (h : x < 4294967296) : Lib.bitLen x = bl x := bitLenAux_bl 64 x (Nat.lt_trans h (by decide))
/-- The number of bits of a number, by its limbs. -/
theorem bl_limbs (n m : Nat) (h : (limbs n).length = m + 1) : bl n = m * 32 + bl (lim (limbs n) m) := by
  have hl := limbs_val n
  have ht := limbs_trim n
  have e : limbs n = (limbs n).take m ++ [lim (limbs n) m] := by
    rw [← take_snoc _ _ (by omega), ← h, List.take_length]
  have hne : lim (limbs n) m ≠ 0 := by
    intro h0
    rw [h0] at e
    rw [e, trimL_snoc_zero] at ht
    have := trimL_len ((limbs n).take m)
    rw [ht] at this
    simp [h] at this
    omega
  have hv : n = val ((limbs n).take m) + 4294967296 ^ m * lim (limbs n) m := by
    have := val_snoc ((limbs n).take m) (lim (limbs n) m)
    rw [← e, List.length_take, Nat.min_eq_left (by omega), hl] at this
    exact this
  have hlt := val_take_lt (limbs_ok n) m
  generalize val ((limbs n).take m) = v at hv hlt
  generalize lim (limbs n) m = t at hv hne ⊢
  have a := bl_lt t
  have b := bl_le t hne
  have c := bl_pos t hne
  have hp : 4294967296 ^ m = 2 ^ (m * 32) := by rw [Nat.mul_comm, Nat.pow_mul]
  rw [hp] at hv hlt
  have hn0 : n ≠ 0 := by
    have : 2 ^ (m * 32) ≤ 2 ^ (m * 32) * t := Nat.le_mul_of_pos_right _ (by omega)
    have := Nat.pow_pos (n := m * 32) (show 0 < 2 by decide)
    omega
  refine (bl_unique hn0 ?_ ?_ (by omega)).symm
  · rw [Nat.pow_add]
    have : 2 ^ (m * 32) * (t + 1) ≤ 2 ^ (m * 32) * 2 ^ bl t := Nat.mul_le_mul_left _ a
    rw [Nat.mul_add, Nat.mul_one] at this
    omega
  · rw [show m * 32 + bl t - 1 = m * 32 + (bl t - 1) by omega, Nat.pow_add]
    have : 2 ^ (m * 32) * 2 ^ (bl t - 1) ≤ 2 ^ (m * 32) * t := Nat.mul_le_mul_left _ b
    omega
def ren32 : Go.Shelf.Ren := { f := fun n => if n = 128 then 165 else 0, t := fun n => if n = 3 then 3 else if n = 4 then 4 else if n = 5 then 5 else if n = 9 then 9 else if n = 46 then 170 else if n = 51 then 149 else 0, g := fun _ => 0 }
theorem lays32 : Go.Proofs.Lays.n128 Tryz.prog ren32 where
  mixed := by kernel_rfl
  f128 := by kernel_rfl
  t3 := by kernel_rfl
  a3 := fun _ => by kernel_rfl
  z3 := fun _ => by kernel_rfl
  v3 := fun _ => by kernel_rfl
  t4 := by kernel_rfl
  a4 := fun _ => by kernel_rfl
  z4 := fun _ => by kernel_rfl
  v4 := fun _ => by kernel_rfl
  t5 := by kernel_rfl
  a5 := fun _ => by kernel_rfl
  z5 := fun _ => by kernel_rfl
  v5 := fun _ => by kernel_rfl
  t9 := by kernel_rfl
  a9 := fun _ => by kernel_rfl
  z9 := fun _ => by kernel_rfl
  v9 := fun _ => by kernel_rfl
  t46 := by kernel_rfl
  a46 := fun _ => by kernel_rfl
  z46 := fun _ => by kernel_rfl
  v46 := fun _ => by kernel_rfl
  t51 := by kernel_rfl
  a51 := fun _ => by kernel_rfl
  z51 := fun _ => by kernel_rfl
  v51 := fun _ => by kernel_rfl
theorem len32_any (x : Nat) (hx : x < 4294967296) (w : World) : Calls Tryz.prog 165 #[.int .u32 (x : Int)] w fun e w' => e = .returned (.int .i64 (bl x : Int)) ∧ w = w' := by
  have := Go.Proofs.Any.bits_Len32 lays32 (x : Int) w (by omega) (by omega)
  rw [Int.toNat_natCast, bitLen_bl x hx] at this
  exact this.mono fun e w' ⟨he, hw⟩ => ⟨he, hw.symm⟩
set_option maxHeartbeats 800000 in
theorem bits_any (A : Option Addr) (n c : Nat) (xs : List Nat) (w : World) (h : Sl w A n c xs) (hn : n ≤ 35184372087808) :
    Calls Tryz.prog 144 #[.slice A n c] w fun e w' => e = .returned (.int .i64 (bl (val xs) : Int)) ∧ w = w' := by
  have ht := h.trim
  have hl := limbs_len_val h.ok
  have hlen := h.len
  rcases hm : (limbs (val xs)).length with _ | m
  · have e0 : val xs = 0 := (limbs_nil_iff _).1 (List.eq_nil_of_length_eq_zero hm)
    have H0 := Lib.hid e0
    have HM : Hid (0 = (limbs (val xs)).length) := hm.symm
    clear e0 ht hl hlen hm
    go_enter Tryz.func144, Tryz.ntmps144
    go_wp2_with (go_at_call 148; refine (trim_at _ _ _ _ _ h 0 HM).mono ?_; rintro e w' ⟨rfl, rfl⟩)
    go_ret
    exact ⟨by rw [H0.out]; rfl, rfl⟩
  · rw [hm] at ht hl
    have HM : Hid (m + 1 = (limbs (val xs)).length) := hm.symm
    have HB := Lib.hid (bl_limbs _ m hm)
    obtain ⟨b, off, rfl, hb, hc⟩ := ht.here (by omega)
    have hck := hc m (by omega)
    have hx := (limbs_ok (val xs)).getD m
    have hbm : m + 1 ≤ 35184372087808 := by omega
    have hne : (((m : Int) + 1) == 0) = false := beq_eq_false_iff_ne.2 (by omega)
    generalize lim (limbs (val xs)) m = t at hck hx HB
    have hbt : bl t ≤ 32 := by
      rcases Nat.lt_or_ge 32 (bl t) with h1 | h1
      · exfalso
        have h0 : t ≠ 0 := by intro h0; subst h0; rw [bl_zero] at h1; omega
        have h2 := bl_le t h0
        have h3 : 2 ^ 32 ≤ 2 ^ (bl t - 1) := Nat.pow_le_pow_right (by decide) (by omega)
        omega
      · exact h1
    clear hc ht hl hlen hm
    go_enter Tryz.func144, Tryz.ntmps144
    go_wp2_with (first | (go_at_call 148; refine (trim_at _ _ _ _ _ h (m + 1) HM).mono ?_; rintro e w' ⟨rfl, rfl⟩) | (go_at_call 165; refine (len32_any t hx _).mono ?_; rintro e w' ⟨rfl, rfl⟩))
    go_ret
    refine ⟨?_, rfl⟩
    rw [HB.out]
    exact congrArg (fun x => Ending.returned (.int .i64 x)) (by omega)
theorem bits_num {w : World} {u : Value} {a K : Nat} (hu : Num w u a K) (hK : K ≤ 35184372087808) : Calls Tryz.prog 144 #[u] w fun e w' => e = .returned (.int .i64 (bl a : Int)) ∧ w = w' := by
  obtain ⟨A1, n1, c1, xs, rfl, s1, rfl, k1⟩ := hu
  exact bits_any _ _ _ _ _ s1 (by omega)
theorem two_pow_split (s : Nat) : 2 ^ s = 4294967296 ^ (s / 32) * 2 ^ (s % 32) := by
  have h : 4294967296 ^ (s / 32) = 2 ^ (32 * (s / 32)) := (Nat.pow_mul 2 32 (s / 32)).symm
  rw [h, ← Nat.pow_add, Nat.div_add_mod]
theorem drop_two (Y : List Nat) (i : Nat) : val (Y.drop i) = lim Y i + 4294967296 * (lim Y (i + 1) + 4294967296 * val (Y.drop (i + 2))) := by
  rcases Nat.lt_or_ge i Y.length with h | h
  · rw [val_drop Y i h]
    rcases Nat.lt_or_ge (i + 1) Y.length with h1 | h1
    · rw [val_drop Y (i + 1) h1]
    · rw [List.drop_eq_nil_of_le h1, List.drop_eq_nil_of_le (by omega), lim_ge Y (i + 1) h1, val_nil]
  · rw [List.drop_eq_nil_of_le h, List.drop_eq_nil_of_le (by omega), lim_ge Y i h, lim_ge Y (i + 1) (by omega), val_nil]
theorem val_div_pow {Y : List Nat} (h : Ok Y) (i : Nat) : val Y / 4294967296 ^ i = val (Y.drop i) := by
  rcases Nat.lt_or_ge Y.length i with hi | hi
  · rw [List.drop_eq_nil_of_le (by omega), val_nil, Nat.div_eq_of_lt]
    exact Nat.lt_of_lt_of_le (val_lt h) (Nat.pow_le_pow_right (by decide) (by omega))
  · rw [val_take_drop Y i hi, Nat.add_mul_div_left _ _ (pow_pos' i), Nat.div_eq_of_lt (val_take_lt h i), Nat.zero_add]
theorem bl_bd {a K : Nat} (h : a < 4294967296 ^ K) : bl a ≤ 32 * K := by
  rcases Nat.eq_zero_or_pos a with h0 | h0
  · subst h0; rw [bl_zero]; omega
  · have h2 := bl_le a (by omega)
    have h3 : 2 ^ (bl a - 1) < 2 ^ (32 * K) := by
      rw [Nat.pow_mul]; exact Nat.lt_of_le_of_lt h2 h
    have := (Nat.pow_lt_pow_iff_right (by decide : 1 < 2)).1 h3
    omega
theorem Sl.only {w w' : World} {A : Option Addr} {n c g : Nat} {xs : List Nat} (h : Sl w A n c xs) (ho : Only g w w') (hne : ∀ b off, A = some ⟨b, off, none⟩ → b ≠ g) : Sl w' A n c xs :=
  ⟨h.len, h.le, h.max, h.ok, fun hn => by
    obtain ⟨b, off, e, hb, hc⟩ := h.here hn
    exact ⟨b, off, e, by rw [ho.size]; exact hb, fun i hi => (World.cell?_of_block (w := w) (a := ⟨b, off + i, none⟩) (ho.block b (hne b off e))).trans (hc i hi)⟩, h.nil_⟩
theorem digs_len (b n : Nat) (hb : 2 ≤ b) (m : Nat) (h : (digs b n).length = m + 1) : b ^ m ≤ n := by
  have ht : trimL (digs b n) = digs b n := trimL_idem _
  have e : digs b n = (digs b n).take m ++ [lim (digs b n) m] := by
    rw [← take_snoc _ _ (by omega), ← h, List.take_length]
  have hne : lim (digs b n) m ≠ 0 := by
    intro h0
    rw [h0] at e
    rw [e, trimL_snoc_zero] at ht
    have := trimL_len ((digs b n).take m)
    rw [ht] at this
    simp [h] at this
    omega
  have hv := digs_val b n hb
  rw [e, valb_snoc, List.length_take, Nat.min_eq_left (by omega)] at hv
  have : b ^ m ≤ b ^ m * lim (digs b n) m := Nat.le_mul_of_pos_right _ (by omega)
  omega
theorem txt_len (b n K : Nat) (hb : 2 ≤ b) (h : n < 4294967296 ^ K) : (txt b n).length ≤ 32 * K + 1 := by
  unfold txt
  split
  · simp
  · rw [List.length_map, List.length_reverse]
    rcases hm : (digs b n).length with _ | m
    · omega
    · have h1 := digs_len b n hb m hm
      have h2 : 2 ^ m ≤ b ^ m := Nat.pow_le_pow_left hb m
      have h3 : 2 ^ m < 2 ^ (32 * K) := by
        rw [Nat.pow_mul]; exact Nat.lt_of_le_of_lt (Nat.le_trans h2 h1) h
      have := (Nat.pow_lt_pow_iff_right (by decide : 1 < 2)).1 h3
      omega
/-- A bit of a number. -/
def bitN (v i : Nat) : Nat := v / 2 ^ i % 2
theorem bitN_mod (R i : Nat) : R % 2 ^ (i + 1) = R % 2 ^ i + 2 ^ i * bitN R i := by
  unfold bitN
  rw [Nat.pow_succ, Nat.mod_mul]
/-- What holds while bits are set one by one, from below. -/
def BitInv (w : World) (R N i : Nat) (M : List Nat) (wr : World) : Prop := M.length = N ∧ Ok M ∧ val M = R % 2 ^ i ∧ Blk wr w.heap.size M ∧ Below w.heap.size w wr
theorem BitInv.lim_lt {w : World} {R N i : Nat} {M : List Nat} {wr : World} (h : BitInv w R N i M wr) : lim M (i / 32) < 2 ^ (i % 32) := by
  have h1 : val M < 2 ^ i := by rw [h.2.2.1]; exact Nat.mod_lt _ (Nat.pow_pos (by decide))
  rw [two_pow_split i] at h1
  have h2 : val M / 4294967296 ^ (i / 32) < 2 ^ (i % 32) := Nat.div_lt_of_lt_mul h1
  rw [val_div_pow h.2.1, drop_two] at h2
  omega
theorem BitInv.zero {w : World} {R N i : Nat} {M : List Nat} {wr : World} (h : BitInv w R N i M wr) (hb : bitN R i = 0) : BitInv w R N (i + 1) M wr :=
  ⟨h.1, h.2.1, by rw [h.2.2.1, bitN_mod, hb, Nat.mul_zero, Nat.add_zero], h.2.2.2⟩
theorem BitInv.one {w : World} {R N i : Nat} {M : List Nat} {wr : World} (h : BitInv w R N i M wr) (hb : bitN R i = 1) (hN : i / 32 < N) {z : Int} (hz : z = ((lim M (i / 32) + 2 ^ (i % 32) : Nat) : Int)) :
    BitInv w R N (i + 1) (M.set (i / 32) (lim M (i / 32) + 2 ^ (i % 32))) (wr.setCell ⟨w.heap.size, i / 32, none⟩ (.int .u32 z)) := by
  subst hz
  have hl := h.lim_lt
  have h1 : 2 ^ (i % 32) ≤ 2 ^ 31 := Nat.pow_le_pow_right (by decide) (by omega)
  refine ⟨by rw [List.length_set]; exact h.1, h.2.1.set _ _ (by omega), ?_, h.2.2.2.1.set_ _ _, h.2.2.2.2.setCell (Nat.le_refl _) _⟩
  have hs := val_set M (i / 32) (lim M (i / 32) + 2 ^ (i % 32)) (by rw [h.1]; exact hN)
  rw [Nat.mul_add, ← two_pow_split] at hs
  rw [bitN_mod, hb, Nat.mul_one, ← h.2.2.1]
  omega
/-- The whole number of a sign and a number. -/
def zOf (s : Bool) (m : Nat) : Int := if s then -(m : Int) else (m : Int)
theorem zOf_true (m : Nat) : zOf true m = -(m : Int) := rfl
theorem zOf_false (m : Nat) : zOf false m = (m : Int) := rfl
theorem zOf_abs (s : Bool) (m : Nat) : (zOf s m).natAbs = m := by cases s <;> simp [zOf]
theorem zOf_neg (s : Bool) (m : Nat) : decide (zOf s m < 0) = (s && decide (0 < m)) := by
  cases s
  · simp [zOf]
  · simp only [zOf, if_true, Bool.true_and]
    exact decide_eq_decide.2 (by omega)
/-- The value v is a whole number's: a sign s, and a slice of at most K limbs that has the number m. -/
def Wh (w : World) (v : Value) (z : Int) (K : Nat) : Prop := ∃ s x m, v = .agg #[.bool s, x] ∧ Num w x m K ∧ z = zOf s m
/-- A call's own: without limbs of 0 at its end, nought without a sign. -/
def WNew (w : World) (base : Nat) (v : Value) (z : Int) : Prop := ∃ x, v = .agg #[.bool (decide (z < 0)), x] ∧ New w base x (limbs z.natAbs)
def WGives (w : World) (z : Int) (e : Ending) (w' : World) : Prop := ∃ v, e = .returned v ∧ WNew w' w.heap.size v z ∧ Below w.heap.size w w'
theorem Wh.below {w w' : World} {v : Value} {z : Int} {K : Nat} (h : Wh w v z K) (hb : Below w.heap.size w w') : Wh w' v z K := by
  obtain ⟨s, x, m, e, hn, hz⟩ := h
  exact ⟨s, x, m, e, hn.below hb, hz⟩
theorem Wh.lt {w : World} {v : Value} {z : Int} {K : Nat} (h : Wh w v z K) : z.natAbs < 4294967296 ^ K := by
  obtain ⟨s, x, m, e, hn, rfl⟩ := h
  rw [zOf_abs]; exact hn.lt
theorem WNew.next {w w' : World} {base : Nat} {v : Value} {z : Int} (h : WNew w base v z) (hb : Below w.heap.size w w') : WNew w' base v z := by
  obtain ⟨x, e, hn⟩ := h
  exact ⟨x, e, hn.next hb⟩
theorem WNew.from_ {w : World} {base base' : Nat} {v : Value} {z : Int} (h : WNew w base v z) (hb : base' ≤ base) : WNew w base' v z := by
  obtain ⟨x, e, hn⟩ := h
  exact ⟨x, e, hn.from_ hb⟩
theorem zOf_self (z : Int) : z = zOf (decide (z < 0)) z.natAbs := by
  unfold zOf
  by_cases h : z < 0
  · rw [decide_eq_true h, if_pos rfl]; omega
  · rw [decide_eq_false h, if_neg (by decide)]; omega
theorem WNew.wh {w : World} {base : Nat} {v : Value} {z : Int} (h : WNew w base v z) (K : Nat) (hz : z.natAbs < 4294967296 ^ K) : Wh w v z K := by
  obtain ⟨x, rfl, hn⟩ := h
  exact ⟨_, x, z.natAbs, rfl, hn.num K hz, zOf_self z⟩
theorem WNew.of {w : World} {base : Nat} {x : Value} (s : Bool) (m : Nat) (h : New w base x (limbs m)) {b : Bool} (hb : b = (s && decide (0 < m))) : WNew w base (.agg #[.bool b, x]) (zOf s m) :=
  ⟨x, by rw [zOf_neg, hb], by rw [zOf_abs]; exact h⟩
theorem results_w {fn : Func} {tmps : Array Value} {t : Tmp} {w : World} {b : Nat} {s x : Value} (h : fn.results = #[.cell t 24]) (ht : tmps.getD t undef = .pointer (some ⟨b, 0, none⟩)) (c0 : w.cell? ⟨b, 0, none⟩ = some s) (c1 : w.cell? ⟨b, 1, none⟩ = some x) :
    (results fn tmps).run Tryz.prog w = .ok (.agg #[s, x]) w := by
  rw [Array.getD_eq_getD_getElem?] at ht
  simp [results, h, ht, go_sem, c0, c1]
theorem New.nought {w : World} {base : Nat} {x : Value} {m : Nat} (h : New w base x (limbs m)) : ∃ A n c, x = .slice A n c ∧ n ≤ 2 ^ 63 - 1 ∧ (n = 0 ↔ m = 0) := by
  obtain ⟨A, n, c, rfl, hs, _⟩ := h
  have hlen := hs.len
  have hmax := Nat.le_trans hs.le hs.max
  unfold maxLen at hmax
  refine ⟨A, n, c, rfl, hmax, ?_⟩
  rw [hlen]
  constructor
  · intro h0; exact (limbs_nil_iff m).1 (List.length_eq_zero_iff.1 h0)
  · intro h0; rw [h0]; rfl
set_option maxHeartbeats 400000 in
theorem signed_any (s : Bool) (x : Value) (m base : Nat) (w : World) (h : New w base x (limbs m)) :
    Calls Tryz.prog 152 #[.bool s, x] w fun e w' => e = .returned (.agg #[.bool (s && decide (0 < m)), x]) ∧ Below w.heap.size w w' := by
  obtain ⟨A, n, c, rfl, hmax, hnm⟩ := h.nought
  clear h
  have hb : ∀ o, Below w.heap.size w (w.alloc o) := fun o => (Below.refl _ _).alloc (Nat.le_refl _) o
  cases s
  · go_enter Tryz.func152, Tryz.ntmps152
    go_wp2_with fail
    (try simp only [Exit.inBlock, Exit.then]); refine bodyPost_ret (results_w rfl rfl (by simp; rfl) (by simp; rfl)) rfl ?_
    exact ⟨rfl, hb _⟩
  · by_cases h0 : m = 0
    · obtain rfl : n = 0 := hnm.2 h0
      subst h0
      clear hnm
      go_enter Tryz.func152, Tryz.ntmps152
      go_wp2_with fail
      (try simp only [Exit.inBlock, Exit.then]); refine bodyPost_ret (results_w rfl rfl (by simp; rfl) (by simp; rfl)) rfl ?_
      exact ⟨rfl, hb _⟩
    · have hn0 : 0 < n := by omega
      have hm0 : decide (0 < m) = true := decide_eq_true (by omega)
      rw [hm0]
      clear hnm h0
      go_enter Tryz.func152, Tryz.ntmps152
      go_wp2_with fail
      (try simp only [Exit.inBlock, Exit.then]); refine bodyPost_ret (results_w rfl rfl (by simp; rfl) (by simp; rfl)) rfl ?_
      exact ⟨rfl, hb _⟩
theorem signed_new {w : World} {x : Value} {m base : Nat} (s : Bool) (h : New w base x (limbs m)) :
    Calls Tryz.prog 152 #[.bool s, x] w fun e w' => ∃ v, e = .returned v ∧ WNew w' base v (zOf s m) ∧ Below w.heap.size w w' := by
  refine (signed_any s x m base w h).mono ?_
  rintro e w' ⟨rfl, hb⟩
  exact ⟨_, rfl, WNew.of s m (h.next hb) rfl, hb⟩
set_option maxHeartbeats 400000 in
theorem isNought_any {w : World} {x : Value} {s : Bool} {m K : Nat} (hx : Num w x m K) (hK : K ≤ 35184372087808) :
    Calls Tryz.prog 127 #[.agg #[.bool s, x]] w fun e w' => e = .returned (.bool (decide (m = 0))) ∧ Below w.heap.size w w' := by
  have hbl := bl_bd hx.lt
  have hz : m = 0 ↔ bl m = 0 := ⟨fun h => by rw [h]; rfl, fun h => by rcases Nat.eq_zero_or_pos m with h1 | h1; exact h1; exact absurd h (by have := bl_pos m (by omega); omega)⟩
  have HB := bits_num (hx.alloc (.cells #[.bool s, x] 24)) (by omega)
  obtain ⟨k, hk⟩ : ∃ k, k = bl m := ⟨_, rfl⟩
  rw [← hk] at hz hbl HB
  replace HB := Lib.hid HB
  have hd : decide (m = 0) = decide ((k : Int) = 0) := decide_eq_decide.2 (by omega)
  rw [hd]
  clear hk hd
  clear hz hx
  go_enter Tryz.func127, Tryz.ntmps127
  go_wp2_with fail
  refine HB.out.mono ?_
  rintro e w1 ⟨rfl, rfl⟩
  go_wp2_with fail
  go_ret
  exact ⟨rfl, (Below.refl _ _).alloc (Nat.le_refl _) _⟩
set_option maxHeartbeats 400000 in
theorem below_any {w : World} {x : Value} {s : Bool} {m K : Nat} (hx : Num w x m K) (hK : K ≤ 35184372087808) :
    Calls Tryz.prog 107 #[.agg #[.bool s, x]] w fun e w' => e = .returned (.bool (decide (zOf s m < 0))) ∧ Below w.heap.size w w' := by
  have hb0 : Below w.heap.size w (w.alloc (.cells #[.bool s, x] 24)) := (Below.refl _ _).alloc (Nat.le_refl _) _
  rw [zOf_neg]
  cases s
  · go_enter Tryz.func107, Tryz.ntmps107
    go_wp2_with fail
    go_ret
    exact ⟨rfl, hb0⟩
  · have h2 := Lib.hid (isNought_any (s := true) (hx.below hb0) hK)
    have hd : (true && decide (0 < m)) = !(decide (m = 0)) := by by_cases h : m = 0 <;> simp [h] <;> omega
    rw [hd]
    go_enter Tryz.func107, Tryz.ntmps107
    go_wp2_with fail
    refine h2.out.mono ?_
    rintro e w1 ⟨rfl, hb1⟩
    go_wp2_with fail
    go_ret
    exact ⟨rfl, bnext hb0 hb1⟩
/-- The block g is a variable that holds a whole number's sign and slice. -/
def Var (w : World) (g : Nat) (s x : Value) : Prop := w.heap[g]? = some (.cells #[s, x] 24 (0, 0))
section
variable {w w' : World} {g : Nat} {s x : Value}
theorem Var.lt (h : Var w g s x) : g < w.heap.size := by
  rcases Nat.lt_or_ge g w.heap.size with hg | hg
  · exact hg
  · unfold Var at h; rw [Array.getElem?_eq_none hg] at h; cases h
theorem Var.c0 (h : Var w g s x) : w.cell? ⟨g, 0, none⟩ = some s := by unfold Var at h; simp [World.cell?, h]
theorem Var.c1 (h : Var w g s x) : w.cell? ⟨g, 1, none⟩ = some x := by unfold Var at h; simp [World.cell?, h]
theorem Var.f0 (h : Var w g s x) : w.frozen? ⟨g, 0, none⟩ = false := by unfold Var at h; simp [World.frozen?, h]
theorem Var.f1 (h : Var w g s x) : w.frozen? ⟨g, 1, none⟩ = false := by unfold Var at h; simp [World.frozen?, h]
theorem Var.below {B : Nat} (h : Var w g s x) (hb : Below B w w') (hg : g < B) : Var w' g s x := (hb.block g hg).trans h
theorem Var.next (h : Var w g s x) (hb : Below w.heap.size w w') : Var w' g s x := h.below hb h.lt
theorem Var.alloc (h : Var w g s x) (o : Obj) : Var (w.alloc o) g s x := h.next ((Below.refl _ _).alloc (Nat.le_refl _) o)
theorem Var.drew (h : Var w g s x) : Var w.drew g s x := h
theorem Var.set0 (h : Var w g s x) (v : Value) : Var (w.setCell ⟨g, 0, none⟩ v) g v x := by
  unfold Var at *
  simp [World.setCell, Array.getElem?_modify, h]
theorem Var.set1 (h : Var w g s x) (v : Value) : Var (w.setCell ⟨g, 1, none⟩ v) g s v := by
  unfold Var at *
  simp [World.setCell, Array.getElem?_modify, h]
theorem Var.far (h : Var w g s x) {p : Addr} (hp : g ≠ p.block) (u : Value) : Var (w.setCell p u) g s x := (Below.heap_setCell w p u g hp).trans h
theorem Var.mk_ (w : World) (s x : Value) : Var (w.alloc (.cells #[s, x] 24)) w.heap.size s x := heap_alloc_new w _
/-- What a store into the variable asks. -/
theorem Var.room (h : Var w g s x) (b : Value) : w.frozen? ⟨g, 0, none⟩ = false ∧ w.frozen? ⟨g, 1, none⟩ = false ∧ w.cell? ⟨g, 0, none⟩ = some s ∧ w.cell? ⟨g, 1, none⟩ = some x ∧ (w.setCell ⟨g, 0, none⟩ b).frozen? ⟨g, 1, none⟩ = false ∧ (w.setCell ⟨g, 0, none⟩ b).cell? ⟨g, 1, none⟩ = some x :=
  ⟨h.f0, h.f1, h.c0, h.c1, (h.set0 b).f1, (h.set0 b).c1⟩
end
theorem Wh.drew {w : World} {v : Value} {z : Int} {K : Nat} (h : Wh w v z K) : Wh w.drew v z K := h.below ((Below.refl _ _).drew)
theorem Num.drew {w : World} {v : Value} {m K : Nat} (h : Num w v m K) : Num w.drew v m K := h.below ((Below.refl _ _).drew)
theorem enter1 (w : World) (s x : Value) : ∃ W, W = (w.alloc (.cells #[s, x] 24)) ∧ Var W w.heap.size s x ∧ Below w.heap.size w W :=
  ⟨_, rfl, Var.mk_ _ _ _, bnew (Below.refl _ _) _⟩
theorem enter1r (w : World) (s x : Value) : ∃ W, W = (w.alloc (.cells #[s, x] 24)).alloc (.cells #[.bool false, .slice none 0 0] 24) ∧ Var W w.heap.size s x ∧ Var W (w.heap.size + 1) (.bool false) (.slice none 0 0) ∧ Below w.heap.size w W := by
  refine ⟨_, rfl, (Var.mk_ _ _ _).alloc _, ?_, bnew (bnew (Below.refl _ _) _) _⟩
  have := Var.mk_ (w.alloc (.cells #[s, x] 24)) (.bool false) (.slice none 0 0)
  simpa using this
theorem WNew.opened {w : World} {base : Nat} {v : Value} {z : Int} (h : WNew w base v z) : ∃ b A n c, v = .agg #[.bool b, .slice A n c] ∧ Hid (WNew w base (.agg #[.bool b, .slice A n c]) z) := by
  obtain ⟨x, rfl, A, n, c, rfl, hs⟩ := h
  exact ⟨_, A, n, c, rfl, ⟨_, rfl, A, n, c, rfl, hs⟩⟩
theorem Wh.opened {w : World} {v : Value} {z : Int} {K : Nat} (h : Wh w v z K) : ∃ b A n c, v = .agg #[.bool b, .slice A n c] ∧ Hid (Wh w (.agg #[.bool b, .slice A n c]) z K) := by
  obtain ⟨s, x, m, rfl, ⟨A, n, c, xs, rfl, hs⟩, hz⟩ := h
  exact ⟨_, A, n, c, rfl, ⟨s, _, m, rfl, ⟨A, n, c, xs, rfl, hs⟩, hz⟩⟩
theorem New.farSet {w : World} {g base : Nat} {s x v : Value} {xs : List Nat} (hv : Var w g s x) (h : New w base v xs) (i : Nat) (u : Value) : New (w.setCell ⟨g, i, none⟩ u) base v xs := by
  obtain ⟨A, n, c, rfl, hs, hor⟩ := h
  have hbl : ∀ k, k ≠ g → (w.setCell ⟨g, i, none⟩ u).heap[k]? = w.heap[k]? := fun k hk => Below.heap_setCell w _ u k hk
  rcases hor with ⟨rfl, rfl⟩ | ⟨b, cur, rfl, hb, hc, hsz⟩
  · have h0 : n = 0 := Nat.le_zero.1 hs.le
    have hx0 := hs.len
    subst h0
    obtain rfl : xs = [] := List.length_eq_zero_iff.1 hx0.symm
    exact ⟨none, 0, 0, rfl, Sl.nil, .inl ⟨rfl, rfl⟩⟩
  · have hne : b ≠ g := by
      intro e
      subst e
      unfold Var at hv
      rw [hv] at hc
      simp at hc
    refine ⟨_, n, c, rfl, ⟨hs.len, hs.le, hs.max, hs.ok, fun hn => ?_, hs.nil_⟩, .inr ⟨b, cur, rfl, hb, (hbl b hne).trans hc, hsz⟩⟩
    obtain ⟨b', o', he, hlt, hcell⟩ := hs.here hn
    cases he
    exact ⟨b, 0, rfl, by rw [(Only.setCell g i w u).size]; exact hlt, fun j hj => by rw [World.cell?_of_block (w := w) (hbl b hne)]; exact hcell j hj⟩
/-- A call ends, its answer in the variable g. -/
theorem wret {fn : Func} {a : Act} {t : Tmp} {w w2 : World} {g base : Nat} {s0 x0 : Value} {b : Bool} {A : Option Addr} {n c : Nat} {z : Int} (h : fn.results = #[.cell t 24]) (ht : a.tmps.getD t undef = .pointer (some ⟨g, 0, none⟩)) (hd : a.defers = [])
    (hv : Var w2 g s0 x0) (hn : WNew w2 base (.agg #[.bool b, .slice A n c]) z) (hbase : w.heap.size ≤ base) (hg : w.heap.size ≤ g) (hb : Below w.heap.size w w2) :
    bodyPost Tryz.prog fn (WGives w z) .ret a ((w2.setCell ⟨g, 0, none⟩ (.bool b)).setCell ⟨g, 1, none⟩ (.slice A n c)) := by
  have h1 := (hv.set0 (.bool b)).set1 (.slice A n c)
  refine bodyPost_ret (results_w h ht h1.c0 h1.c1) hd ?_
  obtain ⟨x, e, hnew⟩ := hn
  have e' : Value.bool b = .bool (decide (z < 0)) ∧ Value.slice A n c = x := by simpa using e
  refine ⟨_, rfl, ⟨.slice A n c, by rw [e'.1], ?_⟩, ?_⟩
  · rw [← e'.2] at hnew
    exact (New.farSet (hv.set0 (.bool b)) (New.farSet hv hnew 0 (.bool b)) 1 (.slice A n c)).from_ hbase
  · exact (hb.setCell hg _).setCell hg _
theorem signed_w {w : World} {x : Value} {m base : Nat} (s : Bool) (h : New w base x (limbs m)) :
    Calls Tryz.prog 152 #[.bool s, x] w fun e w' => ∃ b A n c, e = .returned (.agg #[.bool b, .slice A n c]) ∧ Hid (WNew w' base (.agg #[.bool b, .slice A n c]) (zOf s m)) ∧ Below w.heap.size w w' := by
  refine (signed_new s h).mono ?_
  rintro e w' ⟨v, rfl, hv, hb⟩
  obtain ⟨b, A, n, c, rfl, H⟩ := hv.opened
  exact ⟨b, A, n, c, rfl, H, hb⟩
section
variable {w : World} {u v : Value} {a b : Int} {K L : Nat}
set_option maxHeartbeats 800000 in
theorem wnorm_num (hu : Wh w u a K) (hK : K ≤ 35184372087808) : Calls Tryz.prog 130 #[u] w (WGives w a) := by
  obtain ⟨s, x, m, rfl, hx, rfl⟩ := hu
  obtain ⟨W, hW, hp, hr, hb⟩ := enter1r w (.bool s) x
  replace hx := (hx.below hb).drew
  go_enter Tryz.func130, Tryz.ntmps130
  go_wp2_with fail
  rw [← hW]
  clear hW
  replace hp := hp.drew
  have hpd0 := hp.c0
  have hpd1 := hp.c1
  replace hr := hr.drew
  go_region_held3 (fun w' => w'.cell? ⟨w.heap.size, 0, none⟩ = some (.bool s) ∧ w'.cell? ⟨w.heap.size, 1, none⟩ = some (x))
    (first | exact ⟨hp1.c0, hp1.c1⟩ | exact ⟨hp2.c0, hp2.c1⟩ | go_keep)
    (first
    | (go_at_call 147; refine (norm_num hx (by omega)).mono ?_; rintro e w1 ⟨v, rfl, hv, hb1⟩; have hp1 := hp.next hb1; have hr1 := hr.next hb1)
    | (go_at_call 152; refine (signed_w s hv).mono ?_; rintro e w2 ⟨b, xa, xn, xc, rfl, hnew, hb2⟩; have hp2 := hp1.next hb2; have hr2 := hr1.next hb2; obtain ⟨q1, q2, q3, q4, q5, q6⟩ := hr2.room (.bool b)))
  go_wp2_with fail
  exact wret rfl rfl rfl hr2 hnew.out hb.drew.size (by omega) (bnext (bnext hb.drew hb1) hb2)
end
section
variable {w : World} {u v : Value} {a b : Int} {K L : Nat}
end
section
variable {w : World} {u v : Value} {a b : Int} {K L : Nat}
end
section
variable {w : World} {u v : Value} {a b : Int} {K L : Nat}
end
def wtxt (a : Int) : List UInt8 := if a < 0 then 45 :: txt 10 a.natAbs else txt 10 a.natAbs
theorem text_num {w : World} {u : Value} {a K : Nat} (hu : Num w u a K) (hK : K ≤ 1000000) : Calls Tryz.prog 129 #[u, .int .i64 10] w fun e w' => ∃ t : ByteArray, e = .returned (.string t) ∧ t.data.toList = txt 10 a ∧ Below w.heap.size w w' := by
  obtain ⟨A1, n1, c1, xs, rfl, s1, rfl, k1⟩ := hu
  exact text_any _ _ _ _ 10 _ s1 (by omega) (by omega) (by omega)
set_option maxHeartbeats 800000 in
theorem wtext_num {w : World} {u : Value} {a : Int} {K : Nat} (hu : Wh w u a K) (hK : K ≤ 1000000) : Calls Tryz.prog 109 #[u] w fun e w' => ∃ t : ByteArray, e = .returned (.string t) ∧ t.data.toList = wtxt a ∧ Below w.heap.size w w' := by
  have hlt := hu.lt
  obtain ⟨s, x, m, rfl, hx, rfl⟩ := hu
  obtain ⟨W, hW, hp, hb⟩ := enter1 w (.bool s) x
  replace hx := hx.below hb
  unfold wtxt
  rw [zOf_abs] at hlt ⊢
  have hlen := txt_len 10 m K (by decide) hlt
  have HT := Lib.hid (text_num hx hK)
  have e0 := hp.c0
  have e1 := hp.c1
  rw [hW] at e0 e1
  by_cases hneg : zOf s m < 0
  · rw [if_pos hneg]
    have HN := Lib.hid hneg
    clear hneg
    go_enter Tryz.func109, Tryz.ntmps109
    go_wp2_with fail
    rw [← hW]
    rw [← hW] at e0 e1
    refine HT.out.mono ?_
    rintro e w1 ⟨t, rfl, ht, hb1⟩
    have HB := below_any (s := s) (hx.below hb1) (by omega)
    rw [decide_eq_true HN.out] at HB
    replace HB := Lib.hid HB
    have hts : t.size ≤ 32 * K + 1 := by
      have : t.size = t.data.toList.length := (Array.length_toList (xs := t.data)).symm
      rw [this, ht]; exact hlen
    have f0 := (hp.next hb1).c0
    have f1 := (hp.next hb1).c1
    have H2 := Lib.hid ht
    clear e0 e1 HT hW ht hlen
    go_wp2_with fail
    refine HB.out.mono ?_
    rintro e w2 ⟨rfl, hb2⟩
    go_wp2_with fail
    go_ret
    refine ⟨_, rfl, ?_, bnext (bnext hb hb1) hb2⟩
    simp [H2.out]
  · rw [if_neg hneg]
    have HN := Lib.hid hneg
    clear hneg
    go_enter Tryz.func109, Tryz.ntmps109
    go_wp2_with fail
    rw [← hW]
    rw [← hW] at e0 e1
    refine HT.out.mono ?_
    rintro e w1 ⟨t, rfl, ht, hb1⟩
    have HB := below_any (s := s) (hx.below hb1) (by omega)
    rw [decide_eq_false (show ¬ zOf s m < 0 by have := HN.out; omega)] at HB
    replace HB := Lib.hid HB
    have f0 := (hp.next hb1).c0
    have f1 := (hp.next hb1).c1
    have H2 := Lib.hid ht
    clear e0 e1 HT hW ht hlen
    go_wp2_with fail
    refine HB.out.mono ?_
    rintro e w2 ⟨rfl, hb2⟩
    go_wp2_with fail
    go_ret
    exact ⟨_, rfl, H2.out, bnext (bnext hb hb1) hb2⟩
end Go.Proofs.YthdhdmmlmbkalaaGreatDoor
