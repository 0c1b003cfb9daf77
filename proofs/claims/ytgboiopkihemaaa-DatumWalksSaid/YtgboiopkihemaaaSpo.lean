/-
  spoil of pavanelaw03: all that it writes are numbers, in the tree's own blocks.
-/
import Derived.Test.YtgboiopkihemaaaSft
import Derived.Test.YtgboiopkihemaaaAlk
namespace Go.Proofs.Ytgboiopkihemaaa
open Go.RowKit

def SpoilTo (B N : Nat) : Prop := ∀ (t : LT) (k : Int), t.size ≤ N → Tame t → ∀ w : World, B ≤ w.heap.size → WHeld w B t → Calls Try.prog 20 #[.agg #[.int .i64 k, .bool t.g, .slice t.la t.ln t.lc, .bool t.bb, .string t.s, .slice t.ia t.items.length t.ic, .slice t.ta t.tail.length t.tc]] w fun e w' => e = .returned (.tuple #[]) ∧ Soft w w' ∧ Below B w w'
set_option maxRecDepth 100000 in
set_option maxHeartbeats 12800000 in
theorem spoil_walk (B N : Nat) (hN : N ≤ 1000000) (ih : SpoilTo B N) (k : Int) (g bb : Bool) (s : ByteArray) (la ia ta : Option Addr) (ln lc ic tc n n' : Nat) (ys : List Nat) (items tail : List LT) (hn : items.length = n) (hn' : tail.length = n') (h1 : sizes items ≤ N) (h2 : sizes tail ≤ N) (hT : ln ≤ 1000 ∧ TameR items ∧ TameR tail)
    (w : World) (hB : B ≤ w.heap.size) (hH : WHeld w B (.mk k g la ln lc ys bb s ia ic items ta tc tail)) :
    Calls Try.prog 20 #[.agg #[.int .i64 k, .bool g, .slice la ln lc, .bool bb, .string s, .slice ia n ic, .slice ta n' tc]] w fun e w' => e = .returned (.tuple #[]) ∧ Soft w w' ∧ Below B w w' := by
  have g1 := sizes_ge items
  have g2 := sizes_ge tail
  obtain ⟨W1, hW1⟩ : ∃ W1, w.alloc (.cells #[.int .i64 k, .bool g, .slice la ln lc, .bool bb, .string s, .slice ia n ic, .slice ta n' tc] 27) = W1 := ⟨_, rfl⟩
  have hb1 : Below w.heap.size w W1 := by rw [← hW1]; exact (Below.refl _ _).alloc (Nat.le_refl _) _
  have hR : W1.heap[w.heap.size]? = some (.cells #[.int .i64 k, .bool g, .slice la ln lc, .bool bb, .string s, .slice ia n ic, .slice ta n' tc] 27) := by rw [← hW1]; exact World.alloc_heap_new _ _
  have hcs := fun j => Lib.cell_of_heap hR j
  have c2 := hcs 2; have c5 := hcs 5; have c6 := hcs 6
  simp only [List.getElem?_toArray, List.getElem?_cons_zero, List.getElem?_cons_succ] at c2 c5 c6
  have hH1 : WLimbs W1 B la ln ∧ (0 < n → ia = some ⟨blk ia, ofs ia, none⟩) ∧ (0 < n' → ta = some ⟨blk ta, ofs ta, none⟩) ∧ WLiesR W1 B items (blk ia) (ofs ia) ∧ WLiesR W1 B tail (blk ta) (ofs ta) := by
    have h := hH.soft (Soft.below hb1)
    exact ⟨h.1, fun hp => h.2.1 (by show 0 < items.length; omega), fun hp => h.2.2.1 (by show 0 < tail.length; omega), h.2.2.2.1, h.2.2.2.2⟩
  have HH := Lib.hid hH1
  have HB := Lib.hid (And.intro c2 (And.intro c5 c6))
  have IH := Lib.hid ih
  have HT := Lib.hid hT
  have HS := Lib.hid (And.intro (Soft.below hb1) (hb1.mono hB))
  have hln := hT.1
  clear hH hH1 ih hT hcs hR hb1
  go_enter Try.func20, Try.ntmps20
  go_wp2_with fail
  clear hW1 c2 c5 c6
  go_loopw [9] (fun i wr => ∃ q : Nat, q ≤ ln ∧ i = .int .i64 q ∧ Soft W1 wr ∧ Below B w wr) (fun i _ => ln - (intOf i).toNat)
  case atStart => exact ⟨0, Nat.zero_le _, rfl, Soft.refl _, HS.out.2⟩
  case round =>
    obtain ⟨q, hq, rfl, hsf, hbl⟩ := hrel
    by_cases hlt : q < ln
    · have hcb : wr.cell? ⟨w.heap.size, 2, none⟩ = some (.slice la ln lc) := hsf.same HB.out.1 (fun a e => by cases e) (fun a e => by cases e)
      obtain ⟨b, off, rfl, hBb, hcl⟩ := HH.out.1.soft hsf (by omega)
      obtain ⟨⟨x, hx⟩, hf⟩ := hcl q hlt
      have HR := Lib.hid (And.intro (hsf.trans (Soft.set hx (v' := .int .u32 (IntKind.u32.wrap (x + 1))) (.inr (.inr ⟨_, _, rfl, rfl⟩)))) (hbl.setCell (p := ⟨b, off + q, none⟩) hBb (.int .u32 (IntKind.u32.wrap (x + 1)))))
      clear hcl hsf hbl hBb
      obtain ⟨z, hz⟩ : ∃ z, IntKind.u32.wrap (x + 1) = z := ⟨_, rfl⟩
      rw [hz] at HR
      go_wp2_with fail
      go_roundw
      case rel => exact ⟨q + 1, by omega, by go_num, HR.out.1, HR.out.2⟩
      case measure => simp [intOf]; omega
    · have hcb : wr.cell? ⟨w.heap.size, 5, none⟩ = some (.slice ia n ic) := hsf.same HB.out.2.1 (fun a e => by cases e) (fun a e => by cases e)
      have HP := Lib.hid (And.intro hsf hbl)
      clear hsf hbl
      go_wp2_with fail
      clear hcb hlt hq
      go_loopw [24] (fun i wr => ∃ q : Nat, q ≤ n ∧ i = .int .i64 q ∧ Soft W1 wr ∧ Below B w wr) (fun i _ => n - (intOf i).toNat)
      case atStart => exact ⟨0, Nat.zero_le _, rfl, HP.out.1, HP.out.2⟩
      case round =>
        obtain ⟨q, hq, rfl, hsf, hbl⟩ := hrel
        by_cases hlt : q < n
        · have hcb : wr.cell? ⟨w.heap.size, 5, none⟩ = some (.slice ia n ic) := hsf.same HB.out.2.1 (fun a e => by cases e) (fun a e => by cases e)
          obtain ⟨ab, ao, hae, hwl⟩ : ∃ ab ao, ia = some ⟨ab, ao, none⟩ ∧ WLiesR W1 B items ab ao := ⟨_, _, HH.out.2.1 (by omega), HH.out.2.2.2.1⟩
          subst hae
          have hxl := wliesR_at items ab ao (WLiesR.soft hsf items _ _ hwl) q (by omega)
          have hsz := size_in items q (by omega)
          have htx := tameR_at items q (by omega) HT.out.2.1
          obtain ⟨x, hx⟩ : ∃ x, items[q]'(by omega) = x := ⟨_, rfl⟩
          rw [hx] at hxl hsz htx
          obtain ⟨hB1, ⟨⟨k1, e0⟩, hf0⟩, ⟨e1, e2, e3, e4, e5, e6⟩, hheld⟩ := wlies_held.1 hxl
          have hX := Lib.hid (IH.out x k1 (by omega) htx wr (by have := hbl.size; omega) hheld)
          have HQ := Lib.hid (And.intro hsf (And.intro hbl (And.intro hB1 (And.intro hcb (And.intro e0 hf0)))))
          clear hxl hsz htx hheld hf0 hwl
          go_wp2_with fail
          clear e0 e1 e2 e3 e4 e5 e6 hcb
          refine hX.out.mono ?_
          rintro e w2 ⟨rfl, hs2, hb2⟩
          have hcb : w2.cell? ⟨w.heap.size, 5, none⟩ = some (.slice (some ⟨ab, ao, none⟩) n ic) := hs2.same HQ.out.2.2.2.1 (fun a e => by cases e) (fun a e => by cases e)
          obtain ⟨k2, e0⟩ := hs2.i64 HQ.out.2.2.2.2.1
          have f0 := hs2.free HQ.out.2.2.2.2.1 HQ.out.2.2.2.2.2
          have HR := Lib.hid (And.intro ((HQ.out.1.trans hs2).trans (Soft.set e0 (v' := .int .i64 (IntKind.i64.wrap (k2 + 1))) (.inr (.inl ⟨_, _, rfl, rfl⟩)))) ((HQ.out.2.1.trans hb2).setCell (p := ⟨ab, ao + q * 7, none⟩) HQ.out.2.2.1 (.int .i64 (IntKind.i64.wrap (k2 + 1)))))
          clear hs2 hb2 hsf hbl hB1
          obtain ⟨z, hz⟩ : ∃ z, IntKind.i64.wrap (k2 + 1) = z := ⟨_, rfl⟩
          rw [hz] at HR
          go_wp2_with fail
          go_roundw
          case rel => exact ⟨q + 1, by omega, by go_num, HR.out.1, HR.out.2⟩
          case measure => simp [intOf]; omega
        · have hcb : wr.cell? ⟨w.heap.size, 6, none⟩ = some (.slice ta n' tc) := hsf.same HB.out.2.2 (fun a e => by cases e) (fun a e => by cases e)
          have HP2 := Lib.hid (And.intro hsf hbl)
          clear hsf hbl
          go_wp2_with fail
          clear hcb hlt hq
          go_loopw [46] (fun i wr => ∃ q : Nat, q ≤ n' ∧ i = .int .i64 q ∧ Soft W1 wr ∧ Below B w wr) (fun i _ => n' - (intOf i).toNat)
          case atStart => exact ⟨0, Nat.zero_le _, rfl, HP2.out.1, HP2.out.2⟩
          case round =>
            obtain ⟨q, hq, rfl, hsf, hbl⟩ := hrel
            by_cases hlt : q < n'
            · have hcb : wr.cell? ⟨w.heap.size, 6, none⟩ = some (.slice ta n' tc) := hsf.same HB.out.2.2 (fun a e => by cases e) (fun a e => by cases e)
              obtain ⟨ab, ao, hae, hwl⟩ : ∃ ab ao, ta = some ⟨ab, ao, none⟩ ∧ WLiesR W1 B tail ab ao := ⟨_, _, HH.out.2.2.1 (by omega), HH.out.2.2.2.2⟩
              subst hae
              have hxl := wliesR_at tail ab ao (WLiesR.soft hsf tail _ _ hwl) q (by omega)
              have hsz := size_in tail q (by omega)
              have htx := tameR_at tail q (by omega) HT.out.2.2
              obtain ⟨x, hx⟩ : ∃ x, tail[q]'(by omega) = x := ⟨_, rfl⟩
              rw [hx] at hxl hsz htx
              obtain ⟨hB1, ⟨⟨k1, e0⟩, hf0⟩, ⟨e1, e2, e3, e4, e5, e6⟩, hheld⟩ := wlies_held.1 hxl
              have hX := Lib.hid (IH.out x k1 (by omega) htx wr (by have := hbl.size; omega) hheld)
              have HQ := Lib.hid (And.intro hsf (And.intro hbl (And.intro hB1 (And.intro hcb (And.intro e0 hf0)))))
              clear hxl hsz htx hheld hf0 hwl
              go_wp2_with fail
              clear e0 e1 e2 e3 e4 e5 e6 hcb
              refine hX.out.mono ?_
              rintro e w2 ⟨rfl, hs2, hb2⟩
              have hcb : w2.cell? ⟨w.heap.size, 6, none⟩ = some (.slice (some ⟨ab, ao, none⟩) n' tc) := hs2.same HQ.out.2.2.2.1 (fun a e => by cases e) (fun a e => by cases e)
              obtain ⟨k2, e0⟩ := hs2.i64 HQ.out.2.2.2.2.1
              have f0 := hs2.free HQ.out.2.2.2.2.1 HQ.out.2.2.2.2.2
              have HR := Lib.hid (And.intro ((HQ.out.1.trans hs2).trans (Soft.set e0 (v' := .int .i64 (IntKind.i64.wrap (k2 + 1))) (.inr (.inl ⟨_, _, rfl, rfl⟩)))) ((HQ.out.2.1.trans hb2).setCell (p := ⟨ab, ao + q * 7, none⟩) HQ.out.2.2.1 (.int .i64 (IntKind.i64.wrap (k2 + 1)))))
              clear hs2 hb2 hsf hbl hB1
              obtain ⟨z, hz⟩ : ∃ z, IntKind.i64.wrap (k2 + 1) = z := ⟨_, rfl⟩
              rw [hz] at HR
              go_wp2_with fail
              go_roundw
              case rel => exact ⟨q + 1, by omega, by go_num, HR.out.1, HR.out.2⟩
              case measure => simp [intOf]; omega
            · go_wp2_with fail
              go_end0
              exact ⟨rfl, HS.out.1.trans hsf, hbl⟩
theorem spoil_any (B : Nat) : ∀ N : Nat, N ≤ 1000000 → SpoilTo B N
  | 0, _, t, _, ht, _, _, _, _ => by rw [t.size_eq] at ht; omega
  | N + 1, hN, .mk _ g la ln lc ys bb s ia ic items ta tc tail, k, ht, hT, w, hB, hH => by
    simp only [LT.size] at ht
    simp only [Tame] at hT
    exact spoil_walk B N (by omega) (spoil_any B N (by omega)) k g bb s la ia ta ln lc ic tc _ _ ys items tail rfl rfl (by omega) (by omega) hT w hB hH
end Go.Proofs.Ytgboiopkihemaaa
