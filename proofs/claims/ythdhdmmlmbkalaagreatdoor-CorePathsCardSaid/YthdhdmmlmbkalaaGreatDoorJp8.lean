/-
  datum.normal and datum.Norm of any tree (the plain seat: Held.below stands in Twd). datum.Number of any int. What calls look at: core.looked, core.given, core.isLookedAt, core.Size; pavanelaw08.light of a row. What an expression says, wherever it lies; expressions that lie in blocks of a sort. whole.Cmp. datum.alike of two data of one shape: they are. What a shape tells: depth, and that words are not too long; a row of data made by a call. datum.Same of two data of one shape. core.same, core.Same of two expressions of one shape. slices.Clone of numbers. core.copiedDatum.
-/
import Derived.Test.YthdhdmmlmbkalaaGreatDoorPNgw
import Derived.Test.YthdhdmmlmbkalaaGreatDoorJp5
import Derived.Test.YthdhdmmlmbkalaaGreatDoorJp7
import Derived.Test.YthdhdmmlmbkalaaGreatDoorJp2
import Derived.Test.YthdhdmmlmbkalaaGreatDoorJp4
import Derived.Test.YthdhdmmlmbkalaaGreatDoorJp1
import Derived.Test.YthdhdmmlmbkalaaGreatDoorPNw
import Derived.Test.YthdhdmmlmbkalaaGreatDoorJp0
import Derived.Test.YthdhdmmlmbkalaaGreatDoorChecked
import Derived.Outline
import Derived.Deep.RegionHeld3
set_option linter.unusedVariables false
set_option linter.unusedSimpArgs false
set_option linter.unusedSectionVars false
set_option linter.unnecessarySimpa false
namespace Go.Proofs.YthdhdmmlmbkalaaGreatDoor
section
open Go.RowKit

end
end Go.Proofs.YthdhdmmlmbkalaaGreatDoor
namespace Go.Proofs.YthdhdmmlmbkalaaGreatDoor
section
open Go.RowKit

theorem Spot.upM {M N : Nat} {a : Option Addr} {n c : Nat} (h : Spot M a n c) (hMN : M ≤ N) : Spot N a n c := ⟨h.1, h.2.1, fun hp => ⟨(h.2.2.1 hp).1, Nat.lt_of_lt_of_le (h.2.2.1 hp).2 hMN⟩, h.2.2.2⟩
mutual
theorem Lies.upM {w : World} {M N : Nat} (hMN : M ≤ N) : ∀ (t : LT) (b o : Nat), Lies w M t b o → Lies w N t b o
  | .mk k g la ln lc ys bb s ia ic items ta tc tail, b, o, h => by
    simp only [Lies] at h ⊢
    obtain ⟨h1, h2, h3, h4, h5, h6, h7⟩ := h
    exact ⟨by omega, h2, ⟨h3.1, fun hp => Nat.lt_of_lt_of_le (h3.2.1 hp) hMN, h3.2.2⟩, h4.upM hMN, h5.upM hMN, LiesR.upM hMN _ _ _ h6, LiesR.upM hMN _ _ _ h7⟩
theorem LiesR.upM {w : World} {M N : Nat} (hMN : M ≤ N) : ∀ (l : List LT) (b o : Nat), LiesR w M l b o → LiesR w N l b o
  | [], _, _, _ => by simp [LiesR]
  | t :: l, b, o, h => by
    simp only [LiesR] at h ⊢
    exact ⟨Lies.upM hMN t b o h.1, LiesR.upM hMN l b (o + 7) h.2⟩
end
theorem Held.upP {w : World} {M N : Nat} {t : LT} (h : Held w M t) (hMN : M ≤ N) : Held w N t := ⟨⟨h.1.1, fun hp => Nat.lt_of_lt_of_le (h.1.2.1 hp) hMN, h.1.2.2⟩, h.2.1.upM hMN, h.2.2.1.upM hMN, LiesR.upM hMN _ _ _ h.2.2.2.1, LiesR.upM hMN _ _ _ h.2.2.2.2⟩
end
end Go.Proofs.YthdhdmmlmbkalaaGreatDoor
namespace Go.Proofs.YthdhdmmlmbkalaaGreatDoor
section
open Go.RowKit

theorem IntsAt.upM {w : World} {M N : Nat} {a : Option Addr} {c : Nat} {zs : List Int} (h : IntsAt w M a c zs) (hMN : M ≤ N) : IntsAt w N a c zs := ⟨h.1.upM hMN, h.2⟩
mutual
theorem LiesE.upM {w : World} {M N : Nat} (hMN : M ≤ N) : ∀ (e : ET) (b o : Nat), LiesE w M e b o → LiesE w N e b o
  | .mk k d v va vc vs rs p ka kc kids, b, o, h => by
    simp only [LiesE] at h ⊢
    obtain ⟨h1, h2, ⟨h3, h4⟩, h5, h6⟩ := h
    exact ⟨Nat.lt_of_lt_of_le h1 hMN, h2, ⟨h3.upP hMN, h4.upM hMN⟩, h5.upM hMN, LiesER.upM hMN kids _ _ h6⟩
theorem LiesER.upM {w : World} {M N : Nat} (hMN : M ≤ N) : ∀ (l : List ET) (b o : Nat), LiesER w M l b o → LiesER w N l b o
  | [], _, _, _ => by simp [LiesER]
  | e :: l, b, o, h => by
    simp only [LiesER] at h ⊢
    exact ⟨LiesE.upM hMN e b o h.1, LiesER.upM hMN l b (o + 13) h.2⟩
end
theorem HeldE.upM {w : World} {M N : Nat} {e : ET} (h : HeldE w M e) (hMN : M ≤ N) : HeldE w N e := ⟨⟨h.1.1.upP hMN, h.1.2.upM hMN⟩, h.2.1.upM hMN, LiesER.upM hMN _ _ _ h.2.2⟩
/-- An expression that was put into a block of its own. -/
theorem HeldE.boxed {w W : World} {M B : Nat} {e : ET} (h : HeldE w M e) (hM : M ≤ w.heap.size) (hMB : M ≤ B) (hb : Below w.heap.size w W) (hB : W.heap[B]? = some (Obj.cells #[.int .i64 e.k, .int .i64 e.d.k, .bool e.d.g, .slice e.d.la e.d.ln e.d.lc, .bool e.d.bb, .string e.d.s, .slice e.d.ia e.d.items.length e.d.ic, .slice e.d.ta e.d.tail.length e.d.tc, .int .i64 e.v, .slice e.va e.vs.length e.vc, .bool e.rs, .int .i64 e.p, .slice e.ka e.kids.length e.kc] 31)) : LiesE W (B + 1) e B 0 := by
  refine liesE_held.2 ⟨Nat.lt_succ_self _, fun j x hj => ?_, (h.keep hb.size (fun q hq => hb.block q (by omega))).upM (by omega)⟩
  rw [Lib.cell_of_heap hB, Nat.zero_add]
  have hj2 := hj
  unfold ET.cells at hj2
  simpa using hj2
section
set_option maxRecDepth 100000 in
theorem lookedE_any (w : World) : Calls Tryz.prog 43 #[] w fun e w' => e = .returned (.agg #[.int .i64 100000, .int .i64 10000]) ∧ Below w.heap.size w w' := by
  go_enter Tryz.func43, Tryz.ntmps43
  go_wp2_with fail
  refine bodyPost_ret (v := .agg #[.int .i64 100000, .int .i64 10000]) (by simp [results, Tryz.results43, go_sem]) rfl ⟨rfl, ?_⟩
  exact (Below.refl _ w).alloc (Nat.le_refl _) _
set_option maxRecDepth 100000 in
theorem givenE_any (w : World) : Calls Tryz.prog 37 #[] w fun e w' => e = .returned (.agg #[.int .i64 12000000, .int .i64 65536]) ∧ Below w.heap.size w w' := by
  go_enter Tryz.func37, Tryz.ntmps37
  go_wp2_with fail
  refine bodyPost_ret (v := .agg #[.int .i64 12000000, .int .i64 65536]) (by simp [results, Tryz.results37, go_sem]) rfl ⟨rfl, ?_⟩
  exact (Below.refl _ w).alloc (Nat.le_refl _) _
set_option maxRecDepth 100000 in
theorem isLookedE_any (M : Nat) (t : ET) (w : World) (hM : M ≤ w.heap.size) (hH : HeldE w M t) (h1 : t.size ≤ 100000) (h2 : t.depth ≤ 10000) :
    Calls Tryz.prog 25 #[.agg #[.int .i64 t.k, .int .i64 t.d.k, .bool t.d.g, .slice t.d.la t.d.ln t.d.lc, .bool t.d.bb, .string t.d.s, .slice t.d.ia t.d.items.length t.d.ic, .slice t.d.ta t.d.tail.length t.d.tc, .int .i64 t.v, .slice t.va t.vs.length t.vc, .bool t.rs, .int .i64 t.p, .slice t.ka t.kids.length t.kc]] w fun e w' => e = .returned (.bool true) ∧ Below w.heap.size w w' := by
  obtain ⟨W0, hW0⟩ : ∃ W, w.alloc (Obj.cells #[.int .i64 t.k, .int .i64 t.d.k, .bool t.d.g, .slice t.d.la t.d.ln t.d.lc, .bool t.d.bb, .string t.d.s, .slice t.d.ia t.d.items.length t.d.ic, .slice t.d.ta t.d.tail.length t.d.tc, .int .i64 t.v, .slice t.va t.vs.length t.vc, .bool t.rs, .int .i64 t.p, .slice t.ka t.kids.length t.kc] 31) = W := ⟨_, rfl⟩
  have h0s : W0.heap.size = w.heap.size + 1 := by rw [← hW0]; exact World.size_alloc ..
  have hb0 : Below w.heap.size w W0 := hW0 ▸ (Below.refl _ w).alloc (Nat.le_refl _) _
  have HL := Lib.hid (hH.boxed hM hM hb0 (hW0 ▸ World.alloc_heap_new _ _))
  have HW := Lib.hid (And.intro hW0 (And.intro h0s hb0))
  clear hH hW0 hb0
  go_enter Tryz.func25, Tryz.ntmps25
  go_wp2_with fail
  rw [HW.out.1]
  refine (lookedE_any W0).mono ?_
  rintro e w1 ⟨rfl, b1⟩
  have HB := Lib.hid b1
  clear b1
  go_wp2_with fail
  refine (measureE_any (w.heap.size + 1) w.heap.size 0 100000 10000 t w1 (by have := HB.out.size; omega) (HL.out.keep HB.out.size (fun q hq => HB.out.block q (by omega)) _ _ _) h1 h2 (by decide)).mono ?_
  rintro e w2 ⟨rfl, b2⟩
  have hb2 := Lib.hid (bnext (bnext HW.out.2.2 HB.out) b2)
  clear b2
  go_wp2_with fail
  go_ret
  exact ⟨rfl, hb2.out⟩
/-- What pavanelaw08.light answers. -/
def lightE (l : List ET) : Bool := l.all fun e => decide (0 ≤ budE e 300 300) && shortE e
theorem lightE_drop {l : List ET} {k : Nat} (h : k < l.length) : lightE (l.drop k) = ((decide (0 ≤ budE l[k] 300 300) && shortE l[k]) && lightE (l.drop (k + 1))) := by rw [List.drop_eq_getElem_cons h]; rfl
set_option maxRecDepth 100000 in
set_option maxHeartbeats 6400000 in
theorem lightE_any (M : Nat) (l : List ET) (ka : Option Addr) (kc : Nat) (w : World) (hM : M ≤ w.heap.size) (hsp : Spot M ka l.length kc) (hL : LiesER w M l (blk ka) (ofs ka)) :
    Calls Tryz.prog 6 #[.slice ka l.length kc] w fun e w' => e = .returned (.bool (lightE l)) ∧ Below w.heap.size w w' := by
  have HLI := Lib.hid hL
  have hb0 := Below.refl w.heap.size w
  have hs1 := hsp.2.1
  have hsc := hsp.1
  unfold maxLen at hs1
  clear hL
  go_enter Tryz.func6, Tryz.ntmps6
  go_wp2_with fail
  go_loopw [7] (fun i wr => ∃ (k : Nat), k ≤ l.length ∧ i = .int .i64 k ∧ Hid (lightE l = lightE (l.drop k)) ∧ Below w.heap.size w wr) (fun i _ => l.length - (intOf i).toNat)
  case atStart => exact ⟨0, Nat.zero_le _, rfl, Lib.hid (by rw [List.drop_zero]), hb0⟩
  case round =>
    obtain ⟨k, hk, rfl, HK, hbs⟩ := hrel
    clear hb0
    by_cases hlk : k < l.length
    · obtain ⟨gb, go, hae, hR⟩ : ∃ gb go, ka = some ⟨gb, go, none⟩ ∧ LiesER w M l gb go := ⟨_, _, (hsp.2.2.1 (by omega)).1, HLI.out⟩
      have hli := ((liesER_iff _ _ _).1 hR k hlk).keep hbs.size (fun q hq => hbs.block q (by omega))
      obtain ⟨hgbM, hcell, hheld⟩ := liesE_held.1 hli
      have hdr := lightE_drop hlk
      clear hsp
      subst hae
      obtain ⟨u, hu⟩ : ∃ u, l[k] = u := ⟨_, rfl⟩
      rw [hu] at hcell hheld hdr
      rw [Nat.mul_comm 13 k] at hcell
      have d0 : wr.cell? ⟨gb, go + k * 13, none⟩ = some (.int .i64 u.k) := hcell 0 _ rfl
      have d1 : wr.cell? ⟨gb, go + k * 13 + 1, none⟩ = some (.int .i64 u.d.k) := hcell 1 _ rfl
      have d2 : wr.cell? ⟨gb, go + k * 13 + 2, none⟩ = some (.bool u.d.g) := hcell 2 _ rfl
      have d3 : wr.cell? ⟨gb, go + k * 13 + 3, none⟩ = some (.slice u.d.la u.d.ln u.d.lc) := hcell 3 _ rfl
      have d4 : wr.cell? ⟨gb, go + k * 13 + 4, none⟩ = some (.bool u.d.bb) := hcell 4 _ rfl
      have d5 : wr.cell? ⟨gb, go + k * 13 + 5, none⟩ = some (.string u.d.s) := hcell 5 _ rfl
      have d6 : wr.cell? ⟨gb, go + k * 13 + 6, none⟩ = some (.slice u.d.ia u.d.items.length u.d.ic) := hcell 6 _ rfl
      have d7 : wr.cell? ⟨gb, go + k * 13 + 7, none⟩ = some (.slice u.d.ta u.d.tail.length u.d.tc) := hcell 7 _ rfl
      have d8 : wr.cell? ⟨gb, go + k * 13 + 8, none⟩ = some (.int .i64 u.v) := hcell 8 _ rfl
      have d9 : wr.cell? ⟨gb, go + k * 13 + 9, none⟩ = some (.slice u.va u.vs.length u.vc) := hcell 9 _ rfl
      have d10 : wr.cell? ⟨gb, go + k * 13 + 10, none⟩ = some (.bool u.rs) := hcell 10 _ rfl
      have d11 : wr.cell? ⟨gb, go + k * 13 + 11, none⟩ = some (.int .i64 u.p) := hcell 11 _ rfl
      have d12 : wr.cell? ⟨gb, go + k * 13 + 12, none⟩ = some (.slice u.ka u.kids.length u.kc) := hcell 12 _ rfl
      obtain ⟨W0, hW0⟩ : ∃ W, wr.alloc (Obj.cells #[.int .i64 u.k, .int .i64 u.d.k, .bool u.d.g, .slice u.d.la u.d.ln u.d.lc, .bool u.d.bb, .string u.d.s, .slice u.d.ia u.d.items.length u.d.ic, .slice u.d.ta u.d.tail.length u.d.tc, .int .i64 u.v, .slice u.va u.vs.length u.vc, .bool u.rs, .int .i64 u.p, .slice u.ka u.kids.length u.kc] 31) = W := ⟨_, rfl⟩
      have hba : Below wr.heap.size wr W0 := hW0 ▸ (Below.refl _ _).alloc (Nat.le_refl _) _
      have h0n : W0.heap[wr.heap.size]? = some (Obj.cells #[.int .i64 u.k, .int .i64 u.d.k, .bool u.d.g, .slice u.d.la u.d.ln u.d.lc, .bool u.d.bb, .string u.d.s, .slice u.d.ia u.d.items.length u.d.ic, .slice u.d.ta u.d.tail.length u.d.tc, .int .i64 u.v, .slice u.va u.vs.length u.vc, .bool u.rs, .int .i64 u.p, .slice u.ka u.kids.length u.kc] 31) := hW0 ▸ World.alloc_heap_new _ _
      have h0s : W0.heap.size = wr.heap.size + 1 := by rw [← hW0]; exact World.size_alloc ..
      have hMs : M ≤ wr.heap.size := Nat.le_trans hM hbs.size
      have HN := Lib.hid (And.intro h0n (And.intro hW0 hba))
      have hheld0 := hheld.keep hba.size (fun q hq => hba.block q (by omega))
      have HS := Lib.hid (smallE_any M u 300 W0 (by omega) hheld0 (by decide) (by decide))
      have HT := Lib.hid (fun (hq : decide (0 ≤ budE u 300 300) = true) W (hb : Below W0.heap.size W0 W) => shortE_any M u.size (by have h0 := of_decide_eq_true hq; have := budE_few u 300 300 h0; omega) u (Nat.le_refl _) W (by have := hb.size; omega) (hheld0.keep hb.size (fun q hq => hb.block q (by omega))))
      have HBA := Lib.hid (bnext hbs hba)
      have HK2 := Lib.hid (show lightE l = ((decide (0 ≤ budE u 300 300) && shortE u) && lightE (l.drop (k + 1))) by rw [HK.out, hdr])
      clear hli hcell hheld hdr hba hR h0n hW0 hheld0
      generalize shortE u = r at *
      generalize decide (0 ≤ budE u 300 300) = q at *
      go_wp2_with fail
      rw [HN.out.2.1]
      refine HS.out.mono ?_
      rintro e w6 ⟨rfl, b6⟩
      have h6n := (b6.block wr.heap.size (by omega)).trans HN.out.1
      have HB6 := Lib.hid b6
      have hb6 := Lib.hid (bnext HBA.out b6)
      clear b6
      cases q
      · have HF := Lib.hid (show lightE l = false by rw [HK2.out]; rfl)
        go_wp2_with fail
        go_ret
        exact ⟨by rw [HF.out]; rfl, hb6.out⟩
      · clear d0 d1 d2 d3 d4 d5 d6 d7 d8 d9 d10 d11 d12
        have e0 : w6.cell? ⟨wr.heap.size, 0, none⟩ = some (.int .i64 u.k) := by rw [Lib.cell_of_heap h6n]; rfl
        have e1 : w6.cell? ⟨wr.heap.size, 1, none⟩ = some (.int .i64 u.d.k) := by rw [Lib.cell_of_heap h6n]; rfl
        have e2 : w6.cell? ⟨wr.heap.size, 2, none⟩ = some (.bool u.d.g) := by rw [Lib.cell_of_heap h6n]; rfl
        have e3 : w6.cell? ⟨wr.heap.size, 3, none⟩ = some (.slice u.d.la u.d.ln u.d.lc) := by rw [Lib.cell_of_heap h6n]; rfl
        have e4 : w6.cell? ⟨wr.heap.size, 4, none⟩ = some (.bool u.d.bb) := by rw [Lib.cell_of_heap h6n]; rfl
        have e5 : w6.cell? ⟨wr.heap.size, 5, none⟩ = some (.string u.d.s) := by rw [Lib.cell_of_heap h6n]; rfl
        have e6 : w6.cell? ⟨wr.heap.size, 6, none⟩ = some (.slice u.d.ia u.d.items.length u.d.ic) := by rw [Lib.cell_of_heap h6n]; rfl
        have e7 : w6.cell? ⟨wr.heap.size, 7, none⟩ = some (.slice u.d.ta u.d.tail.length u.d.tc) := by rw [Lib.cell_of_heap h6n]; rfl
        have e8 : w6.cell? ⟨wr.heap.size, 8, none⟩ = some (.int .i64 u.v) := by rw [Lib.cell_of_heap h6n]; rfl
        have e9 : w6.cell? ⟨wr.heap.size, 9, none⟩ = some (.slice u.va u.vs.length u.vc) := by rw [Lib.cell_of_heap h6n]; rfl
        have e10 : w6.cell? ⟨wr.heap.size, 10, none⟩ = some (.bool u.rs) := by rw [Lib.cell_of_heap h6n]; rfl
        have e11 : w6.cell? ⟨wr.heap.size, 11, none⟩ = some (.int .i64 u.p) := by rw [Lib.cell_of_heap h6n]; rfl
        have e12 : w6.cell? ⟨wr.heap.size, 12, none⟩ = some (.slice u.ka u.kids.length u.kc) := by rw [Lib.cell_of_heap h6n]; rfl
        clear h6n
        go_wp2_with fail
        refine (HT.out (by first | exact rfl | trivial) w6 HB6.out).mono ?_
        rintro e w7 ⟨rfl, b7⟩
        have hb7 := Lib.hid (bnext hb6.out b7)
        clear b7
        cases r
        · have HF := Lib.hid (show lightE l = false by rw [HK2.out]; rfl)
          go_wp2_with fail
          go_ret
          exact ⟨by rw [HF.out]; rfl, hb7.out⟩
        · have HG := Lib.hid (show lightE l = lightE (l.drop (k + 1)) by rw [HK2.out]; rfl)
          go_wp2_with fail
          go_roundw
          case rel => exact ⟨k + 1, by omega, by go_num, HG, hb7.out⟩
          case measure => simp [intOf]; omega
    · obtain rfl : k = l.length := by omega
      have HE := Lib.hid (show lightE l = true by rw [HK.out, List.drop_length]; rfl)
      go_wp2_with fail
      go_ret
      exact ⟨by rw [HE.out]; rfl, hbs⟩
end
end
end Go.Proofs.YthdhdmmlmbkalaaGreatDoor
namespace Go.Proofs.YthdhdmmlmbkalaaGreatDoor
section
open Go.RowKit

/-- An expression without where it lies. -/
inductive ES where
  | mk (k : Int) (d : DT) (v : Int) (vs : List Int) (rs : Bool) (p : Int) (kids : List ES) : ES
def ES.k : ES → Int | .mk k _ _ _ _ _ _ => k
def ES.d : ES → DT | .mk _ d _ _ _ _ _ => d
def ES.v : ES → Int | .mk _ _ v _ _ _ _ => v
def ES.vs : ES → List Int | .mk _ _ _ vs _ _ _ => vs
def ES.rs : ES → Bool | .mk _ _ _ _ rs _ _ => rs
def ES.p : ES → Int | .mk _ _ _ _ _ p _ => p
def ES.kids : ES → List ES | .mk _ _ _ _ _ _ kids => kids
theorem es_eta (s : ES) : ES.mk s.k s.d s.v s.vs s.rs s.p s.kids = s := by cases s; rfl
mutual
def shapeE : ET → ES
  | .mk k d v _ _ vs rs p _ _ kids => .mk k (shape d) v vs rs p (shapesE kids)
def shapesE : List ET → List ES
  | [] => []
  | e :: l => shapeE e :: shapesE l
end
theorem shapeE_eq (e : ET) : shapeE e = .mk e.k (shape e.d) e.v e.vs e.rs e.p (shapesE e.kids) := by cases e; simp [shapeE, ET.k, ET.d, ET.v, ET.vs, ET.rs, ET.p, ET.kids]
theorem shapesE_nil : shapesE [] = [] := by simp [shapesE]
theorem shapesE_cons (e : ET) (l : List ET) : shapesE (e :: l) = shapeE e :: shapesE l := by simp [shapesE]
theorem shapesE_length (l : List ET) : (shapesE l).length = l.length := by
  induction l with
  | nil => simp [shapesE_nil]
  | cons e l ih => simp [shapesE_cons, ih]
theorem shapesE_at (l : List ET) (k : Nat) (hk : k < l.length) : (shapesE l)[k]? = some (shapeE l[k]) := by
  induction l generalizing k with
  | nil => cases hk
  | cons t l ih =>
    rw [shapesE_cons]
    cases k with
    | zero => rfl
    | succ k => simpa using ih k (by simpa using hk)
mutual
def sizeES : ES → Nat
  | .mk _ _ _ _ _ _ kids => 1 + sizesES kids
def sizesES : List ES → Nat
  | [] => 0
  | e :: l => sizeES e + sizesES l
end
theorem sizeES_eq (s : ES) : sizeES s = 1 + sizesES s.kids := by cases s; simp [sizeES, ES.kids]
theorem sizesES_append (l m : List ES) : sizesES (l ++ m) = sizesES l + sizesES m := by
  induction l with
  | nil => simp [sizesES]
  | cons t l ih => simp [sizesES, ih]; omega
theorem sizesES_ge (l : List ES) : l.length ≤ sizesES l := by
  induction l with
  | nil => simp
  | cons t l ih => have := sizeES_eq t; simp only [sizesES, List.length_cons]; omega
mutual
theorem sizeES_shape : ∀ t : ET, sizeES (shapeE t) = t.size
  | .mk k d v va vc vs rs p ka kc kids => by
    have h1 := sizesES_shapes kids
    simp only [shapeE, sizeES, ET.size, h1]
theorem sizesES_shapes : ∀ l : List ET, sizesES (shapesE l) = sizesE l
  | [] => by simp [shapesE, sizesES, sizesE]
  | t :: l => by
    have h1 := sizeES_shape t
    have h2 := sizesES_shapes l
    simp only [shapesE, sizesES, sizesE, h1, h2]
end
mutual
def depthES : ES → Nat
  | .mk _ _ _ _ _ _ kids => 1 + depthsES kids
def depthsES : List ES → Nat
  | [] => 0
  | e :: l => max (depthES e) (depthsES l)
end
mutual
theorem depthES_shape : ∀ t : ET, depthES (shapeE t) = t.depth
  | .mk k d v va vc vs rs p ka kc kids => by
    have h1 := depthsES_shapes kids
    simp only [shapeE, depthES, ET.depth, h1]
theorem depthsES_shapes : ∀ l : List ET, depthsES (shapesE l) = depthsE l
  | [] => by simp [shapesE, depthsES, depthsE]
  | t :: l => by
    have h1 := depthES_shape t
    have h2 := depthsES_shapes l
    simp only [shapesE, depthsES, depthsE, h1, h2]
end
/-- Its data are such that they are copied and looked at whole. -/
def FewD (d : LT) : Prop := Tame d ∧ d.size ≤ 100000 ∧ d.depth ≤ 10000
mutual
def TameE : ET → Prop
  | .mk _ d _ _ _ vs _ _ _ _ kids => FewD d ∧ vs.length ≤ 1000000 ∧ TameER kids
def TameER : List ET → Prop
  | [] => True
  | e :: l => TameE e ∧ TameER l
end
theorem tameE_eq (e : ET) : TameE e ↔ (FewD e.d ∧ e.vs.length ≤ 1000000 ∧ TameER e.kids) := by cases e; simp [TameE, ET.d, ET.vs, ET.kids]
theorem tameER_at : ∀ (l : List ET) (i : Nat) (h : i < l.length), TameER l → TameE l[i]
  | e :: l, 0, _, h => by simp only [TameER] at h; exact h.1
  | e :: l, i + 1, hi, h => by simp only [TameER] at h; exact tameER_at l i (by simpa using hi) h.2
/-- Numbers that lie in blocks of that sort. -/
def IntsP (w : World) (P : Nat → Prop) (a : Option Addr) (c : Nat) (zs : List Int) : Prop := SpotP P a zs.length c ∧ ∀ i (h : i < zs.length), w.cell? ⟨blk a, ofs a + i, none⟩ = some (.int .i64 zs[i]) ∧ -9223372036854775808 ≤ zs[i] ∧ zs[i] ≤ 9223372036854775807
mutual
/-- The expression lies there, in blocks of that sort. -/
def LiesEP (w : World) (P : Nat → Prop) : ET → Nat → Nat → Prop
  | .mk k d v va vc vs rs p ka kc kids, b, o =>
    P b ∧ (∀ j x, (ET.cells (.mk k d v va vc vs rs p ka kc kids))[j]? = some x → w.cell? ⟨b, o + j, none⟩ = some x) ∧
      (HeldP w P d ∧ IntsP w P va vc vs) ∧ SpotP P ka kids.length kc ∧ LiesEPR w P kids (blk ka) (ofs ka)
def LiesEPR (w : World) (P : Nat → Prop) : List ET → Nat → Nat → Prop
  | [], _, _ => True
  | e :: l, b, o => LiesEP w P e b o ∧ LiesEPR w P l b (o + 13)
end
/-- What an expression's value holds lies in blocks of that sort. -/
def HeldEP (w : World) (P : Nat → Prop) (e : ET) : Prop := (HeldP w P e.d ∧ IntsP w P e.va e.vc e.vs) ∧ SpotP P e.ka e.kids.length e.kc ∧ LiesEPR w P e.kids (blk e.ka) (ofs e.ka)
theorem liesEP_held {w : World} {P : Nat → Prop} {e : ET} {b o : Nat} : LiesEP w P e b o ↔ P b ∧ (∀ j x, e.cells[j]? = some x → w.cell? ⟨b, o + j, none⟩ = some x) ∧ HeldEP w P e := by
  cases e; simp [LiesEP, HeldEP, ET.d, ET.va, ET.vc, ET.vs, ET.ka, ET.kc, ET.kids]
theorem liesEPR_nil {w : World} {P : Nat → Prop} {b o : Nat} : LiesEPR w P [] b o = True := by simp [LiesEPR]
theorem liesEPR_cons {w : World} {P : Nat → Prop} {b o : Nat} {e : ET} {l : List ET} : LiesEPR w P (e :: l) b o = (LiesEP w P e b o ∧ LiesEPR w P l b (o + 13)) := by simp [LiesEPR]
theorem IntsP.keep {w w' : World} {P Q : Nat → Prop} {a : Option Addr} {c : Nat} {zs : List Int} (h : IntsP w P a c zs) (hk : ∀ k, P k → Q k ∧ w'.heap[k]? = w.heap[k]?) : IntsP w' Q a c zs :=
  ⟨h.1.mono fun k hp => (hk k hp).1, fun i hi => ⟨(World.cell?_of_block (w := w) (a := ⟨blk a, ofs a + i, none⟩) (hk _ (h.1.2.2.1 (by omega)).2).2).trans (h.2 i hi).1, (h.2 i hi).2⟩⟩
theorem IntsP.ints {w : World} {P : Nat → Prop} {M : Nat} {a : Option Addr} {c : Nat} {zs : List Int} (h : IntsP w P a c zs) (hP : ∀ k, P k → k < M) : IntsAt w M a c zs := ⟨h.1.spot hP, h.2⟩
mutual
theorem LiesEP.keep {w w' : World} {P Q : Nat → Prop} (hs : w.heap.size ≤ w'.heap.size) (hk : ∀ k, P k → Q k ∧ w'.heap[k]? = w.heap[k]?) : ∀ (e : ET) (b o : Nat), LiesEP w P e b o → LiesEP w' Q e b o
  | .mk k d v va vc vs rs p ka kc kids, b, o, h => by
    simp only [LiesEP] at h ⊢
    obtain ⟨h1, h2, ⟨h3, h4⟩, h5, h6⟩ := h
    exact ⟨(hk b h1).1, fun j x hj => (World.cell?_of_block (hk b h1).2).trans (h2 j x hj), ⟨h3.keep hs hk, h4.keep hk⟩, h5.mono (fun k h => (hk k h).1), LiesEPR.keep hs hk kids _ _ h6⟩
theorem LiesEPR.keep {w w' : World} {P Q : Nat → Prop} (hs : w.heap.size ≤ w'.heap.size) (hk : ∀ k, P k → Q k ∧ w'.heap[k]? = w.heap[k]?) : ∀ (l : List ET) (b o : Nat), LiesEPR w P l b o → LiesEPR w' Q l b o
  | [], _, _, _ => by simp [LiesEPR]
  | e :: l, b, o, h => by
    simp only [LiesEPR] at h ⊢
    exact ⟨LiesEP.keep hs hk e b o h.1, LiesEPR.keep hs hk l b (o + 13) h.2⟩
end
theorem HeldEP.keep {w w' : World} {P Q : Nat → Prop} {e : ET} (h : HeldEP w P e) (hs : w.heap.size ≤ w'.heap.size) (hk : ∀ k, P k → Q k ∧ w'.heap[k]? = w.heap[k]?) : HeldEP w' Q e :=
  ⟨⟨h.1.1.keep hs hk, h.1.2.keep hk⟩, h.2.1.mono (fun k h => (hk k h).1), LiesEPR.keep hs hk _ _ _ h.2.2⟩
mutual
theorem LiesEP.lies {w : World} {P : Nat → Prop} {M : Nat} (hP : ∀ k, P k → k < M) : ∀ (e : ET) (b o : Nat), LiesEP w P e b o → LiesE w M e b o
  | .mk k d v va vc vs rs p ka kc kids, b, o, h => by
    simp only [LiesEP] at h
    simp only [LiesE]
    obtain ⟨h1, h2, ⟨h3, h4⟩, h5, h6⟩ := h
    exact ⟨hP b h1, h2, ⟨h3.held hP, h4.ints hP⟩, h5.spot hP, LiesEPR.lies hP kids _ _ h6⟩
theorem LiesEPR.lies {w : World} {P : Nat → Prop} {M : Nat} (hP : ∀ k, P k → k < M) : ∀ (l : List ET) (b o : Nat), LiesEPR w P l b o → LiesER w M l b o
  | [], _, _, _ => by simp [LiesER]
  | e :: l, b, o, h => by
    simp only [LiesEPR] at h
    simp only [LiesER]
    exact ⟨LiesEP.lies hP e b o h.1, LiesEPR.lies hP l b (o + 13) h.2⟩
end
theorem HeldEP.held {w : World} {P : Nat → Prop} {M : Nat} {e : ET} (h : HeldEP w P e) (hP : ∀ k, P k → k < M) : HeldE w M e :=
  ⟨⟨h.1.1.held hP, h.1.2.ints hP⟩, h.2.1.spot hP, LiesEPR.lies hP _ _ _ h.2.2⟩
theorem HeldEP.below {w w' : World} {B B' : Nat} {e : ET} (h : HeldEP w (Fresh w B) e) (hb : Below w.heap.size w w') (hB : B' ≤ B) : HeldEP w' (Fresh w' B') e :=
  h.keep hb.size fun k hk => ⟨(hk.same (hb.block k hk.lt)).low hB, hb.block k hk.lt⟩
theorem HeldEP.low {L U B : Nat} {w w' : World} {e : ET} (h : HeldEP w (Fresh w U) e) (hl : Low L U w w') (hB : B ≤ U) : HeldEP w' (Fresh w' B) e :=
  h.keep hl.1 fun k hk => ⟨(hk.same (hl.2 k (.inr hk.1))).low hB, hl.2 k (.inr hk.1)⟩
/-- What a call that makes an expression leaves. -/
def EPost (s : ES) (w : World) (e : Ending) (w' : World) : Prop := ∃ u : ET, e = .returned (.agg #[.int .i64 u.k, .int .i64 u.d.k, .bool u.d.g, .slice u.d.la u.d.ln u.d.lc, .bool u.d.bb, .string u.d.s, .slice u.d.ia u.d.items.length u.d.ic, .slice u.d.ta u.d.tail.length u.d.tc, .int .i64 u.v, .slice u.va u.vs.length u.vc, .bool u.rs, .int .i64 u.p, .slice u.ka u.kids.length u.kc]) ∧ HeldEP w' (Fresh w' w.heap.size) u ∧ TameE u ∧ shapeE u = s ∧ Below w.heap.size w w'

/-! The room of a copy. -/
/-- A list of expressions that lie in the room g from place p on. -/
def childE (g p m : Nat) : Value := if m = 0 then .slice none 0 0 else .slice (some ⟨g, p * 13, none⟩) m m
/-- Place p of the room holds these. -/
def AtE (S : List ES) (lo p : Nat) (l : List ES) : Prop := l ≠ [] → lo ≤ p ∧ ∀ i (h : i < l.length), S[p + i]? = some l[i]
/-- The expression at b, o is a copy: its datum and its variables are its own, its Kids lie in the room g. -/
def PartedE (w : World) (P : Nat → Prop) (g : Nat) (S : List ES) (lo : Nat) (s : ES) (b o : Nat) : Prop :=
  ∃ (u : LT) (va : Option Addr) (vc p : Nat), shape u = s.d ∧ FewD u ∧
    (∀ j x, ([.int .i64 s.k, .int .i64 u.k, .bool u.g, .slice u.la u.ln u.lc, .bool u.bb, .string u.s, .slice u.ia u.items.length u.ic, .slice u.ta u.tail.length u.tc, .int .i64 s.v, .slice va s.vs.length vc, .bool s.rs, .int .i64 s.p, childE g p s.kids.length] : List Value)[j]? = some x → w.cell? ⟨b, o + j, none⟩ = some x) ∧
    (HeldP w P u ∧ IntsP w P va vc s.vs) ∧ AtE S lo p s.kids ∧ s.kids.length ≤ maxLen ∧ s.vs.length ≤ 1000000
theorem childE_spot {P : Nat → Prop} {g : Nat} (hg : P g) (p m : Nat) (hm : m ≤ maxLen) : ∃ a c, childE g p m = .slice a m c ∧ SpotP P a m c ∧ (0 < m → a = some ⟨g, p * 13, none⟩) := by
  unfold childE
  by_cases h : m = 0
  · rw [if_pos h, h]
    exact ⟨none, 0, rfl, spotP_nil P, fun h => absurd h (by decide)⟩
  · rw [if_neg h]
    exact ⟨_, m, rfl, ⟨Nat.le_refl _, hm, fun _ => ⟨rfl, hg⟩, fun e => by cases e⟩, fun _ => rfl⟩
/-- A row of trees out of those at each place. -/
theorem rowE_of {w : World} {P : Nat → Prop} {g : Nat} {S : List ES} : ∀ (l : List ES) (p : Nat), (∀ i (h : i < l.length), ∃ u : ET, shapeE u = l[i] ∧ TameE u ∧ LiesEP w P u g ((p + i) * 13)) → ∃ us : List ET, shapesE us = l ∧ TameER us ∧ LiesEPR w P us g (p * 13)
  | [], p, _ => ⟨[], shapesE_nil, by simp [TameER], by rw [liesEPR_nil]; trivial⟩
  | d :: l, p, h => by
    obtain ⟨u, hu, ht, hl⟩ := h 0 (by simp)
    obtain ⟨us, hus, htr, hr⟩ := rowE_of (S := S) l (p + 1) fun i hi => by
      obtain ⟨v, hv, ht, hvl⟩ := h (i + 1) (by simpa using hi)
      exact ⟨v, by simpa using hv, ht, by rwa [show p + (i + 1) = p + 1 + i by omega] at hvl⟩
    refine ⟨u :: us, by rw [shapesE_cons, hus, hu]; rfl, by simp only [TameER]; exact ⟨ht, htr⟩, ?_⟩
    rw [liesEPR_cons]
    exact ⟨by simpa using hl, by rwa [show p * 13 + 13 = (p + 1) * 13 by omega]⟩
/-- A copy is a tree, if its Kids are. -/
theorem partedE_tree {w : World} {P : Nat → Prop} {g : Nat} (hg : P g) {S : List ES} {lo : Nat} {s : ES} {b o : Nat} (h : PartedE w P g S lo s b o) (hS : ∀ i (x : ES), lo ≤ i → S[i]? = some x → ∃ u : ET, shapeE u = x ∧ TameE u ∧ LiesEP w P u g (i * 13)) :
    ∃ u : ET, shapeE u = s ∧ TameE u ∧ (∀ j x, u.cells[j]? = some x → w.cell? ⟨b, o + j, none⟩ = some x) ∧ HeldEP w P u := by
  obtain ⟨d, va, vc, p, hd, hf, hc, hl, hp, m1, m2⟩ := h
  obtain ⟨us, hus, htr, hur⟩ := rowE_of (w := w) (P := P) (g := g) (S := S) s.kids p fun i hi => by
    have h1 := hp (fun e => by rw [e] at hi; cases hi)
    obtain ⟨u, hu, ht, hul⟩ := hS (p + i) s.kids[i] (by omega) (h1.2 i hi)
    exact ⟨u, hu, ht, hul⟩
  obtain ⟨a1, c1, e1, s1, f1⟩ := childE_spot hg p s.kids.length m1
  have n1 : us.length = s.kids.length := by rw [← shapesE_length, hus]
  rw [e1] at hc
  refine ⟨.mk s.k d s.v va vc s.vs s.rs s.p a1 c1 us, ?_, ?_, ?_, hl, ?_, ?_⟩
  · simp only [shapeE, hus, hd]; exact es_eta s
  · simp only [TameE]; exact ⟨hf, m2, htr⟩
  · intro j x hj
    refine hc j x ?_
    have hcs : ET.cells (.mk s.k d s.v va vc s.vs s.rs s.p a1 c1 us) = [.int .i64 s.k, .int .i64 d.k, .bool d.g, .slice d.la d.ln d.lc, .bool d.bb, .string d.s, .slice d.ia d.items.length d.ic, .slice d.ta d.tail.length d.tc, .int .i64 s.v, .slice va s.vs.length vc, .bool s.rs, .int .i64 s.p, .slice a1 us.length c1] := rfl
    rw [hcs, n1] at hj
    exact hj
  · show SpotP P a1 us.length c1
    rw [n1]; exact s1
  · show LiesEPR w P us (blk a1) (ofs a1)
    rcases Nat.eq_zero_or_pos us.length with h0 | h0
    · rw [List.length_eq_zero_iff.1 h0, liesEPR_nil]; trivial
    · rw [f1 (by omega)]; exact hur
/-- All the room is trees, when all of it was copied. -/
theorem roomE_trees {w : World} {P : Nat → Prop} {g : Nat} (hg : P g) (S : List ES) (h : ∀ j (hj : j < S.length), PartedE w P g S (j + 1) S[j] g (j * 13)) : ∀ (n j : Nat) (x : ES), S.length - j ≤ n → S[j]? = some x → ∃ u : ET, shapeE u = x ∧ TameE u ∧ LiesEP w P u g (j * 13)
  | 0, j, x, hn, hx => by
    have := (List.getElem?_eq_some_iff.1 hx).1
    omega
  | n + 1, j, x, hn, hx => by
    obtain ⟨hj, rfl⟩ := List.getElem?_eq_some_iff.1 hx
    obtain ⟨u, hu, ht, hc, hh⟩ := partedE_tree hg (h j hj) fun i x hi hx => roomE_trees hg S h n i x (by have := (List.getElem?_eq_some_iff.1 hx).1; omega) hx
    exact ⟨u, hu, ht, liesEP_held.2 ⟨hg, hc, hh⟩⟩
end
end Go.Proofs.YthdhdmmlmbkalaaGreatDoor
namespace Go.Proofs.YthdhdmmlmbkalaaGreatDoor
section
open Go.RowKit

section
variable {w : World} {u v : Value} {a b K L : Nat}
end
section
variable {w w' : World} {g : Nat} {s x : Value}
end
section
variable {w : World} {u v : Value} {a b : Int} {K L : Nat}
end
section
variable {w : World} {u v : Value} {a b : Int} {K L : Nat}
end
section
variable {w : World} {u v : Value} {a b : Int} {K L : Nat}
end
section
variable {w : World} {u v : Value} {a b : Int} {K L : Nat}
end
section
variable {w : World} {u v : Value} {a b : Int} {K L : Nat}
end
end
end Go.Proofs.YthdhdmmlmbkalaaGreatDoor
namespace Go.Proofs.YthdhdmmlmbkalaaGreatDoor
section
open Go.RowKit

theorem size_in : ∀ (l : List LT) (k : Nat) (h : k < l.length), l[k].size ≤ sizes l
  | t :: l, 0, h => by simp only [List.getElem_cons_zero, sizes]; omega
  | t :: l, k + 1, h => by
    have := size_in l k (by simpa using h)
    simp only [List.getElem_cons_succ, sizes]
    omega
theorem shapes_nth {l m : List LT} (h : shapes l = shapes m) (k : Nat) (hk : k < l.length) (hm : k < m.length) : shape l[k] = shape m[k] := by
  have h1 := shapes_at l k hk
  rw [h, shapes_at m k hm] at h1
  exact (Option.some.inj h1).symm
theorem two2 (w : World) (A B : Obj) : ∃ w2, w2 = (w.alloc A).alloc B ∧ w2.heap[w.heap.size]? = some A ∧ w2.heap[w.heap.size + 1]? = some B ∧ w2.heap.size = w.heap.size + 2 ∧ Below w.heap.size w w2 := by
  have s1 : (w.alloc A).heap.size = w.heap.size + 1 := World.size_alloc ..
  refine ⟨_, rfl, (Below.heap_alloc _ _ _ (by omega)).trans (World.alloc_heap_new w A), ?_, by rw [World.size_alloc, s1], ((Below.refl w.heap.size w).alloc (Nat.le_refl _) _).alloc (by omega) _⟩
  have := World.alloc_heap_new (w.alloc A) B
  rwa [s1] at this
end
end Go.Proofs.YthdhdmmlmbkalaaGreatDoor
namespace Go.Proofs.YthdhdmmlmbkalaaGreatDoor
section
open Go.RowKit

mutual
def depthD : DT → Nat
  | .mk _ _ _ _ _ items tail => 1 + max (depthsD items) (depthsD tail)
def depthsD : List DT → Nat
  | [] => 0
  | t :: l => max (depthD t) (depthsD l)
end
mutual
theorem depthD_shape : ∀ t : LT, depthD (shape t) = t.depth
  | .mk k g la ln lc ys bb s ia ic items ta tc tail => by
    have h1 := depthsD_shapes items
    have h2 := depthsD_shapes tail
    simp only [shape, depthD, LT.depth, h1, h2]
theorem depthsD_shapes : ∀ l : List LT, depthsD (shapes l) = depths l
  | [] => by simp [shapes, depthsD, depths]
  | t :: l => by
    have h1 := depthD_shape t
    have h2 := depthsD_shapes l
    simp only [shapes, depthsD, depths, h1, h2]
end
mutual
def tameD : DT → Prop
  | .mk _ _ ys _ _ items tail => ys.length ≤ 35184372087808 ∧ tamesD items ∧ tamesD tail
def tamesD : List DT → Prop
  | [] => True
  | t :: l => tameD t ∧ tamesD l
end
mutual
theorem tame_lies {w : World} {M : Nat} : ∀ (t : LT) (b o : Nat), Lies w M t b o → (Tame t ↔ tameD (shape t))
  | .mk k g la ln lc ys bb s ia ic items ta tc tail, b, o, h => by
    simp only [Lies] at h
    obtain ⟨h1, h2, h3, h4, h5, h6, h7⟩ := h
    have e1 := tames_lies items _ _ h6
    have e2 := tames_lies tail _ _ h7
    have e3 := h3.1.len
    simp only [Tame, shape, tameD, e1, e2, e3]
theorem tames_lies {w : World} {M : Nat} : ∀ (l : List LT) (b o : Nat), LiesR w M l b o → (TameR l ↔ tamesD (shapes l))
  | [], _, _, _ => by simp [TameR, shapes, tamesD]
  | t :: l, b, o, h => by
    simp only [LiesR] at h
    have e1 := tame_lies t b o h.1
    have e2 := tames_lies l b (o + 7) h.2
    simp only [TameR, shapes, tamesD, e1, e2]
end
theorem tame_held {w : World} {M : Nat} {t : LT} (h : Held w M t) : Tame t ↔ tameD (shape t) := by
  have e1 := tames_lies t.items _ _ h.2.2.2.1
  have e2 := tames_lies t.tail _ _ h.2.2.2.2
  have e3 := h.1.1.len
  rw [tame_eq, shape_eq]
  simp only [tameD, e1, e2, e3]
/-- What has the shape of one that is not too long is not too long either. -/
theorem tame_same {w w' : World} {M N : Nat} {t u : LT} (h : Held w M t) (h' : Held w' N u) (hs : shape u = shape t) (hT : Tame t) : Tame u := by
  rw [tame_held h', hs, ← tame_held h]
  exact hT
theorem size_same {t u : LT} (hs : shape u = shape t) : u.size = t.size := by rw [← sizeD_shape, hs, sizeD_shape]
theorem depth_same {t u : LT} (hs : shape u = shape t) : u.depth = t.depth := by rw [← depthD_shape, hs, depthD_shape]
theorem rowL_size (a : Option Addr) (c : Nat) (l : List LT) : (rowL a c l).size = 1 + sizes l := by simp [rowL, LT.size, sizes]
theorem rowL_depth (a : Option Addr) (c : Nat) (l : List LT) : (rowL a c l).depth = 1 + depths l := by simp [rowL, LT.depth, depths]
theorem rowL_tame (a : Option Addr) (c : Nat) (l : List LT) : Tame (rowL a c l) ↔ TameR l := by simp [rowL, Tame, TameR]
/-- A row that a call wrote out. -/
theorem rowL_held {M D : Nat} {l : List LT} {W : World} {T : TypeId} {fr : Nat × Nat} (hD : M ≤ D) (h : W.heap[D]? = some (.cells (cellsAll l).toArray T fr)) (hn : l.length ≤ 100) (hl : ∀ x ∈ l, Held W M x) : Held W (D + 1) (rowL (some ⟨D, 0, none⟩) l.length l) := by
  refine ⟨⟨Sl.nil, fun h => absurd h (Nat.lt_irrefl _), empty_le⟩, ⟨Nat.le_refl _, by show l.length ≤ maxLen; unfold maxLen; omega, fun _ => ⟨rfl, by show D < D + 1; omega⟩, fun h => by cases h⟩, ⟨Nat.le_refl _, by show 0 ≤ maxLen; decide, fun h => absurd h (Nat.lt_irrefl _), fun _ => rfl⟩, ?_, ?_⟩
  · show LiesR W (D + 1) l D 0
    refine (liesR_iff _ _ _).2 fun i hi => lies_held.2 ⟨by omega, fun j v hj => ?_, (hl _ (List.getElem_mem hi)).upP (by omega)⟩
    have hj7 : j < 7 := (List.getElem?_eq_some_iff.1 hj).1
    rw [Lib.cell_of_heap h, List.getElem?_toArray, show 0 + 7 * i + j = i * 7 + j by omega, cellsAll_at' l i hi j hj7]
    exact hj
  · show LiesR W (D + 1) [] _ _
    simp [LiesR]
end
end Go.Proofs.YthdhdmmlmbkalaaGreatDoor
namespace Go.Proofs.YthdhdmmlmbkalaaGreatDoor
section
open Go.RowKit

end
end Go.Proofs.YthdhdmmlmbkalaaGreatDoor
namespace Go.Proofs.YthdhdmmlmbkalaaGreatDoor
section
open Go.RowKit

end
end Go.Proofs.YthdhdmmlmbkalaaGreatDoor
namespace Go.Proofs.YthdhdmmlmbkalaaGreatDoor
section
open Go.RowKit

theorem infoInt : (Tryz.prog.info? 3).map (fun i => (i.zero, i.size, i.bytes)) = some (some (.int .i64 0), 1, 8) := by kernel_rfl
def cellsI (zs : List Int) : List Value := zs.map fun z => .int .i64 z
theorem cellsI_at (zs : List Int) (i : Nat) (h : i < zs.length) : (cellsI zs)[i]? = some (.int .i64 zs[i]) := by
  rw [cellsI, List.getElem?_map, List.getElem?_eq_getElem h]; rfl
set_option maxRecDepth 100000 in
theorem nilI_yes (w : World) : (binOp .eql 28 (.slice none 0 0) (.slice none 0 0)).run Tryz.prog w = .ok (.bool true) w := by
  first | rfl | kernel_rfl
set_option maxRecDepth 100000 in
theorem nilI_no (ad : Addr) (n c : Nat) (w : World) : (binOp .eql 28 (.slice (some ad) n c) (.slice none 0 0)).run Tryz.prog w = .ok (.bool false) w := by
  first | rfl | kernel_rfl
/-- What Clone leaves. -/
def CIPost (zs : List Int) (w : World) (e : Ending) (w' : World) : Prop := ∃ A c, e = .returned (.slice A zs.length c) ∧ IntsP w' (Fresh w' w.heap.size) A c zs ∧ Below w.heap.size w w'
theorem ownsI_ints {w w' : World} {v : Value} {zs : List Int} (hown : w'.ownsRow w.heap.size 3 1 v zs.length (cellsI zs)) (hz : ∀ i (h : i < zs.length), -9223372036854775808 ≤ zs[i] ∧ zs[i] ≤ 9223372036854775807) : ∃ A c, v = .slice A zs.length c ∧ IntsP w' (Fresh w' w.heap.size) A c zs := by
  rcases hown.2 with ⟨hv, h0⟩ | ⟨g, c, cur, hv, hg, hgc, h1, h2, _⟩
  · obtain rfl : zs = [] := List.length_eq_zero_iff.1 h0
    exact ⟨none, 0, hv, spotP_nil _, fun i hi => by simp at hi⟩
  · refine ⟨some ⟨g, 0, none⟩, c, hv, ⟨h1, h2, fun _ => ⟨rfl, Fresh.of hg hgc (by decide)⟩, fun e => by cases e⟩, fun i hi => ⟨?_, hz i hi⟩⟩
    have h3 := hown.cells (g := g) (by rw [hv]; rfl) i _ (cellsI_at zs i hi)
    rw [cell_add] at h3
    exact h3
set_option maxRecDepth 100000 in
set_option maxHeartbeats 1600000 in
theorem cloneI_any (M : Nat) (A : Option Addr) (cap : Nat) (zs : List Int) (w : World) (hM : M ≤ w.heap.size) (h : IntsAt w M A cap zs) (hn : zs.length ≤ 1000000) :
    Calls Tryz.prog 66 #[.slice A zs.length cap] w (CIPost zs w) := by
  have hm := h.1.2.1
  have hl := h.1.1
  unfold maxLen at hm
  obtain ⟨i0, hi, hz0, hz1, hz2⟩ := info_parts infoInt
  cases A with
  | none =>
    have hc0 := h.1.2.2.2 rfl
    subst hc0
    obtain rfl : zs = [] := List.length_eq_zero_iff.1 (by omega)
    clear h
    have hnil := nilI_yes w
    go_enter Tryz.func66, Tryz.ntmps66
    go_wp2_with fail
    go_ret
    exact ⟨none, 0, rfl, ⟨spotP_nil _, fun i hi => by simp at hi⟩, Below.refl _ _⟩
  | some ad =>
    have hz : ∀ i (h : i < zs.length), -9223372036854775808 ≤ zs[i] ∧ zs[i] ≤ 9223372036854775807 := fun i hi => (h.2 i hi).2
    have hb1 : Below w.heap.size w (w.alloc (.cells #[] 3)) := (Below.refl _ _).alloc (Nat.le_refl _) _
    have hnews : ∀ j u, (cellsI zs)[j]? = some u → (w.alloc (.cells #[] 3)).cell? (ad.add j) = some u := fun j u hj => by
      have hjl : j < zs.length := by have := (List.getElem?_eq_some_iff.1 hj).1; simpa [cellsI] using this
      have h2 := h.1.2.2.1 (by omega)
      have h3 := h.2 j hjl
      rw [cellsI_at zs j hjl] at hj
      obtain ⟨b, o, sp⟩ := ad
      have e1 := h2.1
      injection e1 with e1
      injection e1 with _ _ e1
      subst e1
      rw [cell_add, ← Option.some.inj hj]
      have hlt : b < M := h2.2
      exact (World.cell?_of_block (w := w) (a := ⟨b, o + j, none⟩) (hb1.block b (by omega))).trans h3.1
    have hone : ∀ u ∈ cellsI zs, u.oneCell' = true := fun u hu => by
      obtain ⟨z, _, rfl⟩ := List.mem_map.1 hu
      rfl
    have hown : (w.alloc (.cells #[] 3)).ownsRow w.heap.size 3 1 (.slice (some ⟨w.heap.size, 0, none⟩) 0 0) 0 [] := World.ownsRow_lit (base := w.heap.size) (size := 1) w #[] 0 (Nat.le_refl _) (by unfold maxLen; omega) rfl
    have HH := Lib.hid (And.intro hnews (And.intro hone (And.intro hown (And.intro hz hb1))))
    clear hnews hone hown hz hb1 h
    have hnil := nilI_no ad zs.length cap w
    go_enter Tryz.func66, Tryz.ntmps66
    go_wp2_with (at_builtin; refine wpList_append_own _ rfl (.tmp 5) (.tmp 6) 28 rfl w.heap.size 3 i0 (.int .i64 0) 1 8 Tryz.underlying28 hi hz0 hz1 hz2 rfl (by decide) _ 0 [] rfl HH.out.2.2.1 ad zs.length cap (cellsI zs) rfl (by simp [cellsI]) HH.out.1 HH.out.2.1 (by unfold maxLen; omega) (by omega) (by simp) ?_; intro v' w1 hown1 hg1 _; have HO := Lib.hid (And.intro hown1 hg1); clear hown1 hg1)
    go_ret
    have h0 := HO.out.1
    rw [Nat.zero_add, List.nil_append] at h0
    obtain ⟨A', c', rfl, hs⟩ := ownsI_ints h0 HH.out.2.2.2.1
    exact ⟨A', c', rfl, hs, HH.out.2.2.2.2.grown HO.out.2 (by simp) (fun j hj => by have h9 : some w.heap.size = some j := hj; injection h9 with h9; omega)⟩
end
end Go.Proofs.YthdhdmmlmbkalaaGreatDoor
namespace Go.Proofs.YthdhdmmlmbkalaaGreatDoor
section
open Go.RowKit

/-- A datum with no lists. -/
theorem bare_few {t : LT} {w : World} {M : Nat} (h0 : t.ln = 0) (h1 : t.items = []) (h2 : t.tail = []) (hF : FewD t) (hH : Held w M t) :
    shape (plainT t.k t.g none 0 0 [] t.bb t.s) = shape t ∧ FewD (plainT t.k t.g none 0 0 [] t.bb t.s) ∧ ∀ (P : Nat → Prop) (W : World), HeldP W P (plainT t.k t.g none 0 0 [] t.bb t.s) := by
  have hy : t.ys = [] := List.eq_nil_of_length_eq_zero (by rw [← hH.1.1.len]; exact h0)
  have hs : shape (plainT t.k t.g none 0 0 [] t.bb t.s) = shape t := by rw [plainT_shape, shape_eq t, h1, h2, hy, shapes_nil]
  refine ⟨hs, ⟨?_, by rw [size_same hs]; exact hF.2.1, by rw [depth_same hs]; exact hF.2.2⟩, fun P W => plainT_held ⟨⟨rfl, Nat.le_refl _, Nat.zero_le _, Ok.nil, fun h => absurd h (by decide), fun _ => rfl⟩, fun h => absurd h (by decide), hH.1.2.2⟩⟩
  simp [plainT, Tame, TameR]
set_option maxRecDepth 100000 in
set_option maxHeartbeats 6400000 in
theorem copiedD_any (M : Nat) (t : LT) (hF : FewD t) (w : World) (hM : M ≤ w.heap.size) (hH : Held w M t) :
    Calls Tryz.prog 65 #[.agg #[.int .i64 t.k, .bool t.g, .slice t.la t.ln t.lc, .bool t.bb, .string t.s, .slice t.ia t.items.length t.ic, .slice t.ta t.tail.length t.tc]] w fun e w' => ∃ u : LT, e = .returned (.agg #[.int .i64 u.k, .bool u.g, .slice u.la u.ln u.lc, .bool u.bb, .string u.s, .slice u.ia u.items.length u.ic, .slice u.ta u.tail.length u.tc]) ∧ HeldP w' (Fresh w' w.heap.size) u ∧ shape u = shape t ∧ FewD u ∧ Below w.heap.size w w' := by
  by_cases hbare : t.ln = 0 ∧ t.items = [] ∧ t.tail = []
  · obtain ⟨h0, h1, h2⟩ := hbare
    obtain ⟨g1, g2, g3⟩ := bare_few h0 h1 h2 hF hH
    have HG := Lib.hid (And.intro g1 (And.intro g2 g3))
    clear g1 g2 g3 hH hF
    rw [h0, h1, h2]
    simp only [List.length_nil]
    clear h0 h1 h2
    go_enter Tryz.func65, Tryz.ntmps65
    go_wp2_with fail
    (try simp only [Exit.inBlock, Exit.then])
    refine bodyPost_ret (v := .agg #[.int .i64 t.k, .bool t.g, .slice none 0 0, .bool t.bb, .string t.s, .slice none 0 0, .slice none 0 0]) (results_d rfl rfl (by go_simp) (by go_simp) (by go_simp) (by go_simp) (by go_simp) (by go_simp <;> rfl) (by go_simp)) rfl ⟨plainT t.k t.g none 0 0 [] t.bb t.s, rfl, HG.out.2.2 _ _, HG.out.1, HG.out.2.1, ?_⟩
    repeat (first | exact Below.refl _ _ | refine Below.setCell (hp := by simp) ?_ _ | refine Below.alloc ?_ (by simp) _)
  · have hse := t.size_eq
    have g1 := sizes_ge t.items
    have g2 := sizes_ge t.tail
    have hF2 := hF.2.1
    have hln := ((tame_eq t).1 hF.1).1
    have hne : t.ln + t.items.length + t.tail.length ≠ 0 := fun h => hbare ⟨by omega, List.length_eq_zero_iff.1 (by omega), List.length_eq_zero_iff.1 (by omega)⟩
    have e1 : wrap64 (((t.ln : Nat) : Int) + ((t.items.length : Nat) : Int)) = ((t.ln : Nat) : Int) + ((t.items.length : Nat) : Int) := by unfold wrap64; omega
    have e2 : wrap64 (((t.ln : Nat) : Int) + ((t.items.length : Nat) : Int) + ((t.tail.length : Nat) : Int)) = ((t.ln : Nat) : Int) + ((t.items.length : Nat) : Int) + ((t.tail.length : Nat) : Int) := by unfold wrap64; omega
    have q1 : (wrap64 (wrap64 (((t.ln : Nat) : Int) + ((t.items.length : Nat) : Int)) + ((t.tail.length : Nat) : Int)) == 0) = false := by rw [e1, e2]; exact beq_eq_false_iff_ne.2 (by omega)
    clear e1 e2
    obtain ⟨w2, hw2, a0, a1, hz, hbel⟩ := two2 w (Obj.cells #[.int .i64 t.k, .bool t.g, .slice t.la t.ln t.lc, .bool t.bb, .string t.s, .slice t.ia t.items.length t.ic, .slice t.ta t.tail.length t.tc] 27) (Obj.cells #[.int .i64 0, .bool false, .slice none 0 0, .bool false, .string ⟨#[]⟩, .slice none 0 0, .slice none 0 0] 27)
    have hb3 : Below w.heap.size w (w2.alloc (Obj.cells #[.int .i64 t.k, .bool t.g, .slice t.la t.ln t.lc, .bool t.bb, .string t.s, .slice t.ia t.items.length t.ic, .slice t.ta t.tail.length t.tc] 27)) := hbel.alloc hbel.size _
    have hz3 : (w2.alloc (Obj.cells #[.int .i64 t.k, .bool t.g, .slice t.la t.ln t.lc, .bool t.bb, .string t.s, .slice t.ia t.items.length t.ic, .slice t.ta t.tail.length t.tc] 27)).heap.size = w.heap.size + 3 := by rw [World.size_alloc, hz]
    have hnew : (w2.alloc (Obj.cells #[.int .i64 t.k, .bool t.g, .slice t.la t.ln t.lc, .bool t.bb, .string t.s, .slice t.ia t.items.length t.ic, .slice t.ta t.tail.length t.tc] 27)).heap[w.heap.size + 2]? = some (Obj.cells #[.int .i64 t.k, .bool t.g, .slice t.la t.ln t.lc, .bool t.bb, .string t.s, .slice t.ia t.items.length t.ic, .slice t.ta t.tail.length t.tc] 27) := by have := World.alloc_heap_new w2 (Obj.cells #[.int .i64 t.k, .bool t.g, .slice t.la t.ln t.lc, .bool t.bb, .string t.s, .slice t.ia t.items.length t.ic, .slice t.ta t.tail.length t.tc] 27); rwa [hz] at this
    have hrow : Held (w2.alloc (Obj.cells #[.int .i64 t.k, .bool t.g, .slice t.la t.ln t.lc, .bool t.bb, .string t.s, .slice t.ia t.items.length t.ic, .slice t.ta t.tail.length t.tc] 27)) (w.heap.size + 2 + 1) (rowL (some ⟨w.heap.size + 2, 0, none⟩) 1 [t]) := rowL_held (M := M) (D := w.heap.size + 2) (l := [t]) (by omega) (by simpa [cellsAll, LT.cells] using hnew) (by simp) (fun x hx => by rw [List.mem_singleton.1 hx]; exact hH.below hM hb3)
    have hit := items_any (w.heap.size + 2 + 1) (some ⟨w.heap.size + 2, 0, none⟩) 1 [t] (by rw [rowL_size]; simp only [sizes]; omega) (by rw [rowL_depth]; simp only [depths]; have := hF.2.2; omega) ((rowL_tame _ _ _).2 (by simp only [TameR]; exact ⟨hF.1, trivial⟩)) (w2.alloc (Obj.cells #[.int .i64 t.k, .bool t.g, .slice t.la t.ln t.lc, .bool t.bb, .string t.s, .slice t.ia t.items.length t.ic, .slice t.ta t.tail.length t.tc] 27)) (by omega) hrow
    have hsr : shape (rowL (some ⟨w.heap.size + 2, 0, none⟩) 1 [t]) = .mk 5 false [] false ⟨#[]⟩ [shape t] [] := by simp [rowL, shape, shapes]
    rw [hsr] at hit
    have hr3 : (w2.alloc (Obj.cells #[.int .i64 t.k, .bool t.g, .slice t.la t.ln t.lc, .bool t.bb, .string t.s, .slice t.ia t.items.length t.ic, .slice t.ta t.tail.length t.tc] 27)).heap[w.heap.size + 1]? = some (Obj.cells #[.int .i64 0, .bool false, .slice none 0 0, .bool false, .string ⟨#[]⟩, .slice none 0 0, .slice none 0 0] 27) := (Below.heap_alloc _ _ _ (by omega)).trans a1
    have HI := Lib.hid (And.intro hit (And.intro hw2 (And.intro hz3 (And.intro hb3 (And.intro hr3 (And.intro hF hH))))))
    have hf0 : w2.frozen? ⟨w.heap.size, 0, none⟩ = false := Lib.frozen_of_heap a0 _
    clear hit hrow hnew hbel hH hF hse g1 g2 hF2 hne hb3 hr3 hsr a0 a1 hbare hf0
    go_enter Tryz.func65, Tryz.ntmps65
    go_wp2_with fail
    rw [← HI.out.2.1]
    refine HI.out.1.mono ?_
    rintro e w6 ⟨x, rfl, hP, hsh, b6⟩
    obtain ⟨u, hu⟩ : ∃ u, x.items = [u] := by
      rw [shape_eq] at hsh
      injection hsh with _ _ _ _ _ h6 _
      rcases hx : x.items with _ | ⟨u, l⟩
      · rw [hx, shapes_nil] at h6; cases h6
      · rw [hx, shapes_cons] at h6
        injection h6 with _ h7
        have : l = [] := by have := congrArg List.length h7; rw [shapes_length] at this; exact List.length_eq_zero_iff.1 this
        exact ⟨u, by rw [this]⟩
    have hus : shape u = shape t := by
      rw [shape_eq] at hsh
      injection hsh with _ _ _ _ _ h6 _
      rw [hu, shapes_cons] at h6
      injection h6
    have hsp := hP.2.1
    have hlr := hP.2.2.2.1
    rw [hu] at hsp hlr
    obtain ⟨hia, hPg⟩ := hsp.2.2.1 (by simp)
    rw [liesPR_cons] at hlr
    obtain ⟨_, hcl, hHu⟩ := liesP_held.1 hlr.1
    rw [hu]
    generalize blk x.ia = gb at *
    generalize ofs x.ia = go at *
    rw [hia]
    have d0 : w6.cell? ⟨gb, go, none⟩ = some (.int .i64 u.k) := hcl 0 _ rfl
    have d1 : w6.cell? ⟨gb, go + 1, none⟩ = some (.bool u.g) := hcl 1 _ rfl
    have d2 : w6.cell? ⟨gb, go + 2, none⟩ = some (.slice u.la u.ln u.lc) := hcl 2 _ rfl
    have d3 : w6.cell? ⟨gb, go + 3, none⟩ = some (.bool u.bb) := hcl 3 _ rfl
    have d4 : w6.cell? ⟨gb, go + 4, none⟩ = some (.string u.s) := hcl 4 _ rfl
    have d5 : w6.cell? ⟨gb, go + 5, none⟩ = some (.slice u.ia u.items.length u.ic) := hcl 5 _ rfl
    have d6 : w6.cell? ⟨gb, go + 6, none⟩ = some (.slice u.ta u.tail.length u.tc) := hcl 6 _ rfl
    have hr6 : w6.heap[w.heap.size + 1]? = some (Obj.cells #[.int .i64 0, .bool false, .slice none 0 0, .bool false, .string ⟨#[]⟩, .slice none 0 0, .slice none 0 0] 27) := (b6.block _ (by rw [HI.out.2.2.1]; omega)).trans HI.out.2.2.2.2.1
    have hrs := fun j => Lib.cell_of_heap hr6 j
    have r0 := hrs 0; have r1 := hrs 1; have r2 := hrs 2; have r3 := hrs 3; have r4 := hrs 4; have r5 := hrs 5; have r6 := hrs 6
    have hrf := fun j => Lib.frozen_of_heap hr6 j
    have f0 := hrf 0; have f1 := hrf 1; have f2 := hrf 2; have f3 := hrf 3; have f4 := hrf 4; have f5 := hrf 5; have f6 := hrf 6
    simp only [List.getElem?_toArray, List.getElem?_cons_zero, List.getElem?_cons_succ] at r0 r1 r2 r3 r4 r5 r6
    have z6 : w.heap.size + 3 ≤ w6.heap.size := by have := b6.size; rw [HI.out.2.2.1] at this; exact this
    have hfu : FewD u := ⟨tame_same HI.out.2.2.2.2.2.2 (hHu.held (M := w6.heap.size) fun k hk => hk.lt) hus HI.out.2.2.2.2.2.1.1, by rw [size_same hus]; exact HI.out.2.2.2.2.2.1.2.1, by rw [depth_same hus]; exact HI.out.2.2.2.2.2.1.2.2⟩
    have hgb : w.heap.size + 3 ≤ gb := by have := hPg.1; rw [HI.out.2.2.1] at this; exact this
    have hb6 := HI.out.2.2.2.1.trans (b6.mono (by rw [HI.out.2.2.1]; omega))
    rw [HI.out.2.2.1] at hHu
    have HY := Lib.hid (And.intro hHu (And.intro hus (And.intro hfu hb6)))
    have hfd : (Instr.field 27 (.agg #[.int .i64 x.k, .bool x.g, .slice x.la x.ln x.lc, .bool x.bb, .string x.s, .slice (some ⟨gb, go, none⟩) 1 x.ic, .slice x.ta x.tail.length x.tc]) 4).run Tryz.prog w6 = .ok (.slice (some ⟨gb, go, none⟩) 1 x.ic) w6 := by first | rfl | kernel_rfl
    clear hHu hus hfu hb6 hrs hrf hr6 hcl hlr hPg hia hP hsh hu b6
    go_wp2_with fail
    (try simp only [Exit.inBlock, Exit.then])
    refine bodyPost_ret (v := .agg #[.int .i64 u.k, .bool u.g, .slice u.la u.ln u.lc, .bool u.bb, .string u.s, .slice u.ia u.items.length u.ic, .slice u.ta u.tail.length u.tc]) (results_d rfl rfl (by go_simp) (by go_simp) (by go_simp) (by go_simp) (by go_simp) (by go_simp <;> rfl) (by go_simp)) rfl ⟨u, rfl, ?_, HY.out.2.1, HY.out.2.2.1, ?_⟩
    · exact HeldP.low (U := w.heap.size + 3) HY.out.1 (set7_low (Low.refl w.heap.size (w.heap.size + 3) _) (by omega) (by omega)) (by omega)
    · exact set7_below HY.out.2.2.2 (by omega)
end
end Go.Proofs.YthdhdmmlmbkalaaGreatDoor
