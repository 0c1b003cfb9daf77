/-
  nat.divInto, DivSmall: what they answer and write.
-/
import Derived.Test.YtjildimhflondaaDoorMul
import Derived.Laws.BitsAllLaws
namespace Go.Proofs.YtjildimhflondaaDoor
open Go.RowKit

/-- 'r << 32 | x': both side by side. -/
theorem or_join (r x : Nat) (hr : r < 4294967296) (hx : x < 4294967296) : bits .or .u64 ((r : Int) * 4294967296) (x : Int) = (r : Int) * 4294967296 + (x : Int) := by
  have e : ((r : Int) * 4294967296) = ((r * 4294967296 : Nat) : Int) := by omega
  rw [e, u64_or_nat _ _ (by omega) (by omega), nat_join 32 _ _ (by omega) (by omega)]
  omega

/-- What holds at the head of divInto's round: the limbs from k on are divided. -/
def DivIn (w : World) (g : Nat) (xs L : List Nat) (d k r : Nat) (wr : World) : Prop :=
  ∃ Q : List Nat, Q.length + k = xs.length ∧ Ok Q ∧ val (xs.drop k) = val Q * d + r ∧ Blk wr g (L.take k ++ Q ++ L.drop xs.length) ∧ Only g w wr
theorem div_sum (x q r r' d v B t : Nat) (ht : t = r * B + x) (hq : q = t / d) (hr : r' = t % d) : x + B * (v * d + r) = (q + B * v) * d + r' := by
  have e := Nat.div_add_mod t d
  rw [Nat.add_mul, Nat.mul_add, Nat.mul_assoc, hq, hr]
  rw [Nat.mul_comm (t / d) d, Nat.mul_comm B r]
  omega
theorem div_lt_base (r x d : Nat) (hd : 0 < d) (hr : r < d) (hx : x < 4294967296) : (r * 4294967296 + x) / d < 4294967296 := by
  rw [Nat.div_lt_iff_lt_mul hd]
  have : (r + 1) * 4294967296 ≤ d * 4294967296 := Nat.mul_le_mul_right _ hr
  rw [Nat.mul_comm 4294967296 d]
  omega
theorem div_step {w : World} {g : Nat} {xs L : List Nat} {d k r : Nat} {wr : World} (h : DivIn w g xs L d (k + 1) r wr) (hL : xs.length ≤ L.length) (hd : 0 < d) (hr : r < d) (hx : lim xs k < 4294967296) {z : Int}
    (hz : z = (((r * 4294967296 + lim xs k) / d : Nat) : Int)) :
    DivIn w g xs L d k ((r * 4294967296 + lim xs k) % d) (wr.setCell ⟨g, k, none⟩ (.int .u32 z)) := by
  obtain ⟨Q, hl, ok, hv, hb, ho⟩ := h
  have hq := div_lt_base r _ d hd hr hx
  refine ⟨(r * 4294967296 + lim xs k) / d :: Q, by simp; omega, Ok.cons hq ok, ?_, ?_, ho.trans (Only.setCell g k wr _)⟩
  · rw [val_drop xs k (by omega), hv, val_cons]
    exact div_sum _ _ _ _ _ _ _ _ rfl rfl rfl
  · subst hz
    have := hb.set_ k ((r * 4294967296 + lim xs k) / d)
    have e : (L.take (k + 1) ++ Q ++ L.drop xs.length).set k ((r * 4294967296 + lim xs k) / d) = L.take k ++ ((r * 4294967296 + lim xs k) / d :: Q) ++ L.drop xs.length := by
      rw [take_snoc L k (by omega)]
      rw [List.append_assoc, List.append_assoc, List.set_append_right _ _ (by rw [List.length_take]; omega), List.length_take, Nat.min_eq_left (by omega), Nat.sub_self]
      simp
    rwa [e] at this

theorem two_cast (r x : Nat) : ((r : Int) * 4294967296 + (x : Int)) = ((r * 4294967296 + x : Nat) : Int) := by omega
theorem quo_num (r x d : Nat) (hd : 0 < d) (hr : r < d) (hx : x < 4294967296) : ((r : Int) * 4294967296 + (x : Int)) / (d : Int) % 4294967296 = (((r * 4294967296 + x) / d : Nat) : Int) := by
  have h := div_lt_base r x d hd hr hx
  rw [two_cast, ← Int.natCast_ediv]
  generalize (r * 4294967296 + x) / d = q at h ⊢
  omega
theorem rem_num (r x d : Nat) : Value.int .u64 (((r : Int) * 4294967296 + (x : Int)) % (d : Int)) = Value.int .u64 (((r * 4294967296 + x) % d : Nat) : Int) := by
  rw [two_cast, ← Int.natCast_emod]

set_option maxHeartbeats 800000 in
/-- divInto: what stands in block g from its head on becomes the quotient; the rest of the block stays. What is divided may lie at that very place. -/
theorem divInto_any (g n cq : Nat) (A : Option Addr) (ca : Nat) (xs L : List Nat) (d : Nat) (w : World) (hB : Blk w g L) (hL : n ≤ L.length) (h : Sl w A n ca xs) (hal : ∀ b off, A = some ⟨b, off, none⟩ → 0 < n → b ≠ g ∨ off = 0) (hd : 0 < d) (hd2 : d < 4294967296) (hn : n ≤ 1000000000) (_hcq : n ≤ cq) :
    Calls Tryd.prog 83 #[.slice (some ⟨g, 0, none⟩) n cq, .slice A n ca, .int .u32 (d : Int)] w fun e w' =>
      e = .returned (.int .u32 ((val xs % d : Nat) : Int)) ∧ (∃ Q : List Nat, Q.length = n ∧ Ok Q ∧ val Q = val xs / d ∧ Blk w' g (Q ++ L.drop n)) ∧ Only g w w' := by
  have HN := Lib.hid h.len
  go_enter Tryd.func83, Tryd.ntmps83
  go_wp2_with fail
  go_loopw [7, 8] (fun l i wr => ∃ k r : Nat, k ≤ n ∧ i = .int .i64 ((k : Int) - 1) ∧ l = .int .u64 r ∧ r < d ∧ DivIn w g xs L d k r wr) (fun _ i _ => (intOf i + 1).toNat)
  case atStart =>
    refine ⟨n, 0, Nat.le_refl _, rfl, rfl, hd, [], by simp [HN.out], Ok.nil, ?_, ?_, Only.refl g w⟩
    · rw [HN.out, List.drop_length]; simp [val]
    · rw [← HN.out]; simpa using hB
  case round =>
    obtain ⟨k, r, hk, rfl, rfl, hr, hinv⟩ := hrel
    rcases k with _ | k
    · have HI := Lib.hid hinv
      clear hinv
      go_wp2_with fail
      go_ret
      obtain ⟨Q, hl, ok, hv, hb, ho⟩ := HI.out
      rw [List.drop_zero] at hv
      have e1 : val xs % d = r := by rw [hv, Nat.add_comm, Nat.mul_comm, Nat.add_mul_mod_self_left, Nat.mod_eq_of_lt hr]
      have e2 : val xs / d = val Q := by rw [hv, Nat.add_comm, Nat.mul_comm, Nat.add_mul_div_left _ _ hd, Nat.div_eq_of_lt hr, Nat.zero_add]
      refine ⟨?_, ⟨Q, by have := HN.out; omega, ok, e2.symm, ?_⟩, ho⟩
      · rw [e1]; rfl
      · rw [List.take_zero, List.nil_append, ← HN.out] at hb; exact hb
    · rw [show (((k + 1 : Nat) : Int) - 1) = (k : Int) by omega]
      obtain ⟨Q, hl, ok, hv, hb, ho⟩ := id hinv
      obtain ⟨b, off, rfl, hbl, hc⟩ := h.here (by omega)
      have hf := hb.frozen k
      have hcl := hb.cell k (by have := HN.out; simp; omega)
      have hck : wr.cell? ⟨b, off + k, none⟩ = some (.int .u32 ((lim xs k : Nat) : Int)) := by
        rcases hal b off rfl (by omega) with hne | h0
        · exact (World.cell?_of_block (w := w) (a := ⟨b, off + k, none⟩) (ho.block b hne)).trans (hc k (by omega))
        · by_cases hbg : b = g
          · subst hbg; subst h0
            have h1 := hc k (by omega)
            rw [Nat.zero_add, hB.cell k (by omega)] at h1
            rw [Nat.zero_add, ← h1, hcl]
            congr 2
            rw [lim_eq, lim_eq, List.append_assoc, List.getElem?_append_left (by rw [List.length_take]; omega), List.getElem?_take_of_lt (by omega)]
          · exact (World.cell?_of_block (w := w) (a := ⟨b, off + k, none⟩) (ho.block b hbg)).trans (hc k (by omega))
      have x1 := h.ok.getD k
      have hor := or_join r (lim xs k) (by omega) x1
      clear hc hl hv
      go_wp2_with fail
      go_roundw
      case rel => exact ⟨k, _, by omega, by go_num, rem_num _ _ _, Nat.mod_lt _ hd, div_step hinv (by have := HN.out; omega) hd hr x1 (quo_num _ _ _ hd hr x1)⟩
      case measure => simp [intOf]

/-- The same, what is left under a name of one's own. -/
theorem divInto_at (g n cq : Nat) (A : Option Addr) (ca : Nat) (xs L : List Nat) (d : Nat) (w : World) (hB : Blk w g L) (hL : n ≤ L.length) (h : Sl w A n ca xs) (hal : ∀ b off, A = some ⟨b, off, none⟩ → 0 < n → b ≠ g ∨ off = 0) (hd : 0 < d) (hd2 : d < 4294967296) (hn : n ≤ 1000000000) (hcq : n ≤ cq)
    (r : Nat) (hr : Hid (r = val xs % d)) :
    Calls Tryd.prog 83 #[.slice (some ⟨g, 0, none⟩) n cq, .slice A n ca, .int .u32 (d : Int)] w fun e w' =>
      e = .returned (.int .u32 (r : Int)) ∧ (∃ Q : List Nat, Q.length = n ∧ Ok Q ∧ val Q = val xs / d ∧ Blk w' g (Q ++ L.drop n)) ∧ Only g w w' := by
  rw [hr.out]; exact divInto_any g n cq A ca xs L d w hB hL h hal hd hd2 hn hcq

set_option maxHeartbeats 800000 in
theorem divSmall_any (A : Option Addr) (n c : Nat) (xs : List Nat) (d : Nat) (w : World) (h : Sl w A n c xs) (hd : 0 < d) (hd2 : d < 4294967296) (hn : n ≤ 1000000000) :
    Calls Tryd.prog 52 #[.slice A n c, .int .u32 (d : Int)] w fun e w' =>
      ∃ v, e = .returned (.tuple #[v, .int .u32 ((val xs % d : Nat) : Int)]) ∧ New w' w.heap.size v (limbs (val xs / d)) ∧ Below w.heap.size w w' := by
  have hne : ((d : Int) == 0) = false := by simp; omega
  have hmk := fun W => make32 (n : Int) n rfl (by omega) W
  have hB := Blk.made w n
  have hs := h.alloc (.cells (madeCells #[Value.int .u32 0] n) 32)
  have hal : ∀ b off, A = some ⟨b, off, none⟩ → 0 < n → b ≠ w.heap.size ∨ off = 0 := by
    intro b off e hp
    obtain ⟨b', off', e', hb, _⟩ := h.here hp
    rw [e] at e'
    simp only [Option.some.injEq, Addr.mk.injEq] at e'
    exact .inl (by omega)
  have HH := Lib.hid (And.intro hB hal)
  clear hB hal
  go_enter Tryd.func52, Tryd.ntmps52
  go_wp2_with fail
  refine (divInto_any w.heap.size n n A c xs (List.replicate n 0) d _ HH.out.1 (by simp) hs HH.out.2 hd hd2 hn (Nat.le_refl _)).mono ?_
  rintro e w1 ⟨rfl, ⟨Q, hl, ok, hv, hb⟩, ho⟩
  have hdr : List.drop n (List.replicate n 0) = ([] : List Nat) := by simp
  rw [hdr, List.append_nil] at hb
  have hsl := hb.slAll ok (by unfold maxLen; omega)
  rw [hl] at hsl
  have hnew := Lib.hid (hb.new (base := w.heap.size) ok (by unfold maxLen; omega) (Nat.le_refl _))
  have HV := Lib.hid (And.intro hl hv)
  clear hl hv hdr hmk
  go_wp2_with (go_at_call 51; refine (trim_any _ _ _ _ _ hsl).mono ?_; rintro e w' ⟨rfl, rfl⟩)
  go_ret2
  exact ⟨_, rfl, by rw [← HV.out.2, ← HV.out.1]; exact hnew.out, ((Below.refl _ _).alloc (Nat.le_refl _) _).trans (ho.below (Nat.le_refl _))⟩
end Go.Proofs.YtjildimhflondaaDoor
