/-
  core.pen.form: a text and a row of expressions in parentheses. core.pen.expr of a variable, a let and a primitive. core.formals of one variable. core.pen.expr of a lambda of one variable. core.Write of the lambda with its boxes.
-/
import Derived.Test.YthdhdmmlmbkalaaGreatDoorJr21
import Derived.Test.YthdhdmmlmbkalaaGreatDoorJr10
set_option linter.unusedVariables false
set_option linter.unusedSimpArgs false
set_option linter.unusedSectionVars false
set_option linter.unnecessarySimpa false
namespace Go.Proofs.YthdhdmmlmbkalaaGreatDoor
section
open Go.RowKit

theorem bl8_below {base b : Nat} {l : List UInt8} {w w' : World} (h : Bl base b l w) (hb : Below w.heap.size w w') : Bl base b l w' := by
  have key : ∀ p, Lib.BuilderAtF 61 5 base b p (Lib.byteCells l) w → Lib.BuilderAtF 61 5 base b p (Lib.byteCells l) w' := by
    intro p hp
    have hlt := hp.lt
    obtain ⟨h1, v, h2, h3, h4⟩ := hp
    exact ⟨h1, v, (hb.block b hlt).trans h2, h3.kept (row := none) ⟨hb.os, hb.tape, hb.output, hb.size, fun k hk _ => hb.block k hk⟩ (by cases hv : v.ownBlock <;> simp), h4⟩
  exact h.elim (fun h => .inl (key _ h)) (fun h => .inr (key _ h))
theorem bl8_lt {base b : Nat} {l : List UInt8} {w : World} (h : Bl base b l w) : b < w.heap.size := h.elim (·.lt) (·.lt)
theorem bl8_base {base b : Nat} {l : List UInt8} {w : World} (h : Bl base b l w) : base ≤ b := h.elim (·.1) (·.1)
theorem kept8_below {b : Nat} {w w' : World} (hb : Below w.heap.size w w') : Lib.OthersKept 5 (some b) w w' := fun k _ hk _ _ => (hb.block k (Array.getElem?_eq_some_iff.1 hk).1).trans hk
theorem wrote8_block {base b k : Nat} {l : List UInt8} {w w' : World} {cs : Array Value} {t : TypeId} {fr : Nat × Nat} (h : Wrote base b l w w') (hk : w.heap[k]? = some (.cells cs t fr)) (hb : k ≠ b) (ht : t ≠ 5) : w'.heap[k]? = some (.cells cs t fr) :=
  h.2.2 k _ hk (fun e => hb (Option.some.inj e)) (fun c fz e => by cases e; exact ht rfl)
theorem wrote8_trans {base b : Nat} {l m : List UInt8} {w w1 w2 : World} (h : Wrote base b l w w1) (k : Wrote base b m w1 w2) : Wrote base b m w w2 := ⟨k.1, h.2.1.trans k.2.1, h.2.2.trans k.2.2⟩
theorem wrote8_below {base b : Nat} {l : List UInt8} {w w1 w2 : World} (h : Wrote base b l w w1) (hb : base ≤ w1.heap.size) (k : Below w1.heap.size w1 w2) : Wrote base b l w w2 := ⟨bl8_below h.1 k, h.2.1.trans (k.mono hb), h.2.2.trans (kept8_below k)⟩
theorem bl8_wrote {base b : Nat} {l : List UInt8} {w : World} (h : Bl base b l w) : Wrote base b l w w := ⟨h, Below.refl _ _, Lib.OthersKept.refl _ _ _⟩

/-- The pen writes this of the expression. -/
def PenOf (base b : Nat) (e : ET) (s : List UInt8) : Prop := ∀ (l : List UInt8) (w : World), Bl base b l w → base ≤ w.heap.size → l.length + s.length ≤ 1000000 → HeldE w base e →
  Calls Tryz.prog 30 #[.agg #[.pointer (some ⟨b, 0, none⟩)], .agg #[.int .i64 e.k, .int .i64 e.d.k, .bool e.d.g, .slice e.d.la e.d.ln e.d.lc, .bool e.d.bb, .string e.d.s, .slice e.d.ia e.d.items.length e.d.ic, .slice e.d.ta e.d.tail.length e.d.tc, .int .i64 e.v, .slice e.va e.vs.length e.vc, .bool e.rs, .int .i64 e.p, .slice e.ka e.kids.length e.kc]] w fun r w' => r = .returned (.tuple #[]) ∧ Wrote base b (l ++ s) w w'
/-- Each behind a blank. -/
def rowK (es : List (ET × List UInt8)) : List UInt8 := es.flatMap fun x => 32 :: x.2
theorem rowK_take (es : List (ET × List UInt8)) {k : Nat} (h : k < es.length) : rowK (es.take (k + 1)) = rowK (es.take k) ++ 32 :: es[k].2 := by
  rw [List.take_add_one, List.getElem?_eq_getElem h]
  unfold rowK
  rw [List.flatMap_append]
  simp only [Option.toList, List.flatMap_cons, List.flatMap_nil, List.append_nil]
theorem rowK_le (es : List (ET × List UInt8)) (k : Nat) : (rowK (es.take k)).length ≤ (rowK es).length := by
  have h : rowK es = rowK (es.take k) ++ rowK (es.drop k) := by unfold rowK; rw [← List.flatMap_append, List.take_append_drop]
  rw [h, List.length_append]
  omega
def FmRel (base b P : Nat) (l : List UInt8) (head : ByteArray) (es : List (ET × List UInt8)) (w : World) (i : Value) (wr : World) : Prop :=
  ∃ k : Nat, k ≤ es.length ∧ i = .int .i64 k ∧ wr.heap[P]? = some (.cells #[.pointer (some ⟨b, 0, none⟩)] 63 (0, 0)) ∧ Wrote base b (l ++ 40 :: (head.data.toList ++ rowK (es.take k))) w wr ∧ P + 1 ≤ wr.heap.size
set_option maxRecDepth 100000 in
set_option maxHeartbeats 800000 in
theorem form_any (base b gb go kc : Nat) (head : ByteArray) (h0 : head.size ≤ 100000) (h1 : head.toList.isEmpty = false) (es : List (ET × List UInt8)) (hes : es.length ≤ 1000) (hP : ∀ x ∈ es, PenOf base b x.1 x.2) (l : List UInt8) (w : World) (h : Bl base b l w) (hb : base ≤ w.heap.size) (hl : l.length + head.size + (rowK es).length + 2 ≤ 1000000) (hL : LiesER w base (es.map (·.1)) gb go) :
    Calls Tryz.prog 53 #[.agg #[.pointer (some ⟨b, 0, none⟩)], .string head, .slice (some ⟨gb, go, none⟩) es.length kc] w fun r w' => r = .returned (.tuple #[]) ∧ Wrote base b (l ++ 40 :: (head.data.toList ++ (rowK es ++ [41]))) w w' := by
  have hbw : Below w.heap.size w (w.alloc (.cells #[.pointer (some ⟨b, 0, none⟩)] 63)) := (Below.refl _ _).alloc (Nat.le_refl _) _
  have hnew : (w.alloc (.cells #[.pointer (some ⟨b, 0, none⟩)] 63)).heap[w.heap.size]? = some (.cells #[.pointer (some ⟨b, 0, none⟩)] 63 (0, 0)) := World.alloc_heap_new _ _
  have hz := World.size_alloc w (.cells #[.pointer (some ⟨b, 0, none⟩)] 63)
  have hbl := bl8_lt h
  have hbb := bl8_base h
  have hcap : (⟨#[40]⟩ ++ head : ByteArray).size = head.size + 1 := by rw [ByteArray.size_append]; show 1 + head.size = head.size + 1; omega
  have hdat : (⟨#[40]⟩ ++ head : ByteArray).data.toList = 40 :: head.data.toList := by simp
  have HH := Lib.hid (And.intro h (And.intro hP (And.intro hL (And.intro hbw (And.intro hnew hdat)))))
  clear h hP hL hbw hdat
  go_enter Tryz.func53, Tryz.ntmps53
  go_wp2_with fail
  generalize hW : w.alloc (.cells #[.pointer (some ⟨b, 0, none⟩)] 63) = W2 at *
  generalize hT : (⟨#[40]⟩ ++ head : ByteArray) = T at *
  refine (putText base b l T W2 (bl8_below HH.out.1 HH.out.2.2.2.1) (by rw [hcap]; omega) (by omega)).mono ?_
  rintro e w3 ⟨rfl, h3⟩
  have P3 := wrote8_block h3 HH.out.2.2.2.2.1 (by omega) (by decide)
  have z3 := h3.2.1.size
  have H3 := Lib.hid (wrote8_trans (wrote8_below (bl8_wrote HH.out.1) hb HH.out.2.2.2.1) h3)
  rw [HH.out.2.2.2.2.2] at H3
  have hz3 : w.heap.size + 1 ≤ w3.heap.size := by omega
  clear hnew h3 hcap z3 hT hW hz
  go_wp2_with fail
  go_loopw [15] (fun i wr => FmRel base b w.heap.size l head es w i wr) (fun i _ => es.length - (intOf i).toNat)
  case atStart =>
    refine ⟨0, Nat.zero_le _, rfl, P3, ?_, by omega⟩
    have := H3.out
    simpa [rowK] using this
  case round =>
    obtain ⟨k, hk, rfl, rP, rW, rz⟩ := hrel
    clear P3 hz3
    have hlen := rowK_le es k
    have hbr : base ≤ wr.heap.size := by omega
    by_cases hlt : k < es.length
    · have hxm : es[k] ∈ es := List.getElem_mem hlt
      have hlen1 := rowK_le es (k + 1)
      have htk := rowK_take es hlt
      have hLr := (liesER_iff _ _ _).1 (LiesER.keep rW.2.1.size (fun q hq => rW.2.1.block q hq) _ _ _ HH.out.2.2.1) k (by simpa using hlt)
      rw [List.getElem_map, Nat.mul_comm 13 k] at hLr
      obtain ⟨x, hx⟩ : ∃ x, es[k].1 = x := ⟨_, rfl⟩
      have hpen := HH.out.2.1 es[k] hxm
      rw [hx] at hLr hpen
      obtain ⟨hgb, hcell, hheld⟩ := liesE_held.1 hLr
      have d0 : wr.cell? ⟨gb, go + k * 13, none⟩ = some (.int .i64 x.k) := hcell 0 _ rfl
      have d1 : wr.cell? ⟨gb, go + k * 13 + 1, none⟩ = some (.int .i64 x.d.k) := hcell 1 _ rfl
      have d2 : wr.cell? ⟨gb, go + k * 13 + 2, none⟩ = some (.bool x.d.g) := hcell 2 _ rfl
      have d3 : wr.cell? ⟨gb, go + k * 13 + 3, none⟩ = some (.slice x.d.la x.d.ln x.d.lc) := hcell 3 _ rfl
      have d4 : wr.cell? ⟨gb, go + k * 13 + 4, none⟩ = some (.bool x.d.bb) := hcell 4 _ rfl
      have d5 : wr.cell? ⟨gb, go + k * 13 + 5, none⟩ = some (.string x.d.s) := hcell 5 _ rfl
      have d6 : wr.cell? ⟨gb, go + k * 13 + 6, none⟩ = some (.slice x.d.ia x.d.items.length x.d.ic) := hcell 6 _ rfl
      have d7 : wr.cell? ⟨gb, go + k * 13 + 7, none⟩ = some (.slice x.d.ta x.d.tail.length x.d.tc) := hcell 7 _ rfl
      have d8 : wr.cell? ⟨gb, go + k * 13 + 8, none⟩ = some (.int .i64 x.v) := hcell 8 _ rfl
      have d9 : wr.cell? ⟨gb, go + k * 13 + 9, none⟩ = some (.slice x.va x.vs.length x.vc) := hcell 9 _ rfl
      have d10 : wr.cell? ⟨gb, go + k * 13 + 10, none⟩ = some (.bool x.rs) := hcell 10 _ rfl
      have d11 : wr.cell? ⟨gb, go + k * 13 + 11, none⟩ = some (.int .i64 x.p) := hcell 11 _ rfl
      have d12 : wr.cell? ⟨gb, go + k * 13 + 12, none⟩ = some (.slice x.ka x.kids.length x.kc) := hcell 12 _ rfl
      obtain ⟨wa, hwa⟩ : ∃ wa, wr.alloc (Obj.cells #[.int .i64 x.k, .int .i64 x.d.k, .bool x.d.g, .slice x.d.la x.d.ln x.d.lc, .bool x.d.bb, .string x.d.s, .slice x.d.ia x.d.items.length x.d.ic, .slice x.d.ta x.d.tail.length x.d.tc, .int .i64 x.v, .slice x.va x.vs.length x.vc, .bool x.rs, .int .i64 x.p, .slice x.ka x.kids.length x.kc] 31) = wa := ⟨_, rfl⟩
      have hza : wa.heap.size = wr.heap.size + 1 := by rw [← hwa, World.size_alloc]
      have hba : Below wr.heap.size wr wa := by rw [← hwa]; exact (Below.refl _ _).alloc (Nat.le_refl _) _
      have aI : wa.heap[wr.heap.size]? = some (Obj.cells #[.int .i64 x.k, .int .i64 x.d.k, .bool x.d.g, .slice x.d.la x.d.ln x.d.lc, .bool x.d.bb, .string x.d.s, .slice x.d.ia x.d.items.length x.d.ic, .slice x.d.ta x.d.tail.length x.d.tc, .int .i64 x.v, .slice x.va x.vs.length x.vc, .bool x.rs, .int .i64 x.p, .slice x.ka x.kids.length x.kc] 31) := by rw [← hwa]; exact World.alloc_heap_new _ _
      have aP := (hba.block w.heap.size (by omega)).trans rP
      have p0 : wa.cell? ⟨w.heap.size, 0, none⟩ = some (.pointer (some ⟨b, 0, none⟩)) := by rw [Lib.cell_of_heap aP]; rfl
      have hhs : head.data.toList.length = head.size := Array.length_toList
      have hW' := wrote8_below rW hbr hba
      have hput := putText base b _ ⟨#[32]⟩ wa hW'.1 (by simp only [List.length_append, List.length_cons]; show _ + 1 < _; omega) (by omega)
      have hlen2 : (rowK (es.take (k + 1))).length = (rowK (es.take k)).length + 1 + es[k].2.length := by rw [htk]; simp; omega
      have hround : ∀ w5, Wrote base b ((l ++ 40 :: (head.data.toList ++ rowK (es.take k))) ++ [32]) wa w5 → Calls Tryz.prog 30 #[.agg #[.pointer (some ⟨b, 0, none⟩)], .agg #[.int .i64 x.k, .int .i64 x.d.k, .bool x.d.g, .slice x.d.la x.d.ln x.d.lc, .bool x.d.bb, .string x.d.s, .slice x.d.ia x.d.items.length x.d.ic, .slice x.d.ta x.d.tail.length x.d.tc, .int .i64 x.v, .slice x.va x.vs.length x.vc, .bool x.rs, .int .i64 x.p, .slice x.ka x.kids.length x.kc]] w5 fun r w' => r = .returned (.tuple #[]) ∧ FmRel base b w.heap.size l head es w (.int .i64 ((k : Int) + 1)) w' := fun w5 h5 => by
        have hz5 := h5.2.1.size
        have hall := wrote8_trans hW' h5
        refine (hpen _ w5 h5.1 (by omega) (by simp only [List.length_append, List.length_cons, List.length_nil]; omega) ((hheld.keep (w' := w5) (by have := hall.2.1.size; have := rW.2.1.size; omega) fun q hq => (h5.2.1.block q hq).trans (hba.block q (by omega))))).mono ?_
        rintro r w6 ⟨rfl, h6⟩
        refine ⟨rfl, k + 1, hlt, by simp, wrote8_block h6 (wrote8_block h5 aP (by omega) (by decide)) (by omega) (by decide), ?_, by have := h6.2.1.size; omega⟩
        have := wrote8_trans hall h6
        rw [htk]
        simpa using this
      have HA := Lib.hid (And.intro aP (And.intro aI (And.intro hput hround)))
      clear aP aI rW hpen htk hheld hcell hLr hba rP hx hW' hput hround hlen2 hlen1 hlen
      go_wp2_with fail
      all_goals
        refine HA.out.2.2.1.mono ?_
        rintro e w5 ⟨rfl, h5⟩
        have bI := wrote8_block h5 HA.out.2.1 (by omega) (by decide)
        have bP := wrote8_block h5 HA.out.1 (by omega) (by decide)
        have p5 : w5.cell? ⟨w.heap.size, 0, none⟩ = some (.pointer (some ⟨b, 0, none⟩)) := by rw [Lib.cell_of_heap bP]; rfl
        have i0 : w5.cell? ⟨wr.heap.size, 0, none⟩ = some (.int .i64 x.k) := by rw [Lib.cell_of_heap bI]; rfl
        have i1 : w5.cell? ⟨wr.heap.size, 1, none⟩ = some (.int .i64 x.d.k) := by rw [Lib.cell_of_heap bI]; rfl
        have i2 : w5.cell? ⟨wr.heap.size, 2, none⟩ = some (.bool x.d.g) := by rw [Lib.cell_of_heap bI]; rfl
        have i3 : w5.cell? ⟨wr.heap.size, 3, none⟩ = some (.slice x.d.la x.d.ln x.d.lc) := by rw [Lib.cell_of_heap bI]; rfl
        have i4 : w5.cell? ⟨wr.heap.size, 4, none⟩ = some (.bool x.d.bb) := by rw [Lib.cell_of_heap bI]; rfl
        have i5 : w5.cell? ⟨wr.heap.size, 5, none⟩ = some (.string x.d.s) := by rw [Lib.cell_of_heap bI]; rfl
        have i6 : w5.cell? ⟨wr.heap.size, 6, none⟩ = some (.slice x.d.ia x.d.items.length x.d.ic) := by rw [Lib.cell_of_heap bI]; rfl
        have i7 : w5.cell? ⟨wr.heap.size, 7, none⟩ = some (.slice x.d.ta x.d.tail.length x.d.tc) := by rw [Lib.cell_of_heap bI]; rfl
        have i8 : w5.cell? ⟨wr.heap.size, 8, none⟩ = some (.int .i64 x.v) := by rw [Lib.cell_of_heap bI]; rfl
        have i9 : w5.cell? ⟨wr.heap.size, 9, none⟩ = some (.slice x.va x.vs.length x.vc) := by rw [Lib.cell_of_heap bI]; rfl
        have i10 : w5.cell? ⟨wr.heap.size, 10, none⟩ = some (.bool x.rs) := by rw [Lib.cell_of_heap bI]; rfl
        have i11 : w5.cell? ⟨wr.heap.size, 11, none⟩ = some (.int .i64 x.p) := by rw [Lib.cell_of_heap bI]; rfl
        have i12 : w5.cell? ⟨wr.heap.size, 12, none⟩ = some (.slice x.ka x.kids.length x.kc) := by rw [Lib.cell_of_heap bI]; rfl
        have H5 := Lib.hid h5
        clear h5 bI bP
        go_wp2_with fail
        refine (HA.out.2.2.2 w5 H5.out).mono ?_
        rintro e w6 ⟨rfl, h6⟩
        have HN := Lib.hid h6
        clear h6
        go_wp2_with fail
        go_roundw
        case rel => first | exact HN.out | (have hk00 : k = 0 := (by omega); have := HN.out; rw [hk00] at this; simpa using this)
        case measure => simp [intOf]; omega
    · obtain rfl : k = es.length := by omega
      rw [List.take_length] at rW
      have p0 : wr.cell? ⟨w.heap.size, 0, none⟩ = some (.pointer (some ⟨b, 0, none⟩)) := by rw [Lib.cell_of_heap rP]; rfl
      have hhs : head.data.toList.length = head.size := Array.length_toList
      have hput := putText base b _ ⟨#[41]⟩ wr rW.1 (by simp only [List.length_append, List.length_cons]; show _ + 1 < _; omega) hbr
      have HA := Lib.hid (And.intro rW hput)
      clear rW hput rP
      go_wp2_with fail
      refine HA.out.2.mono ?_
      rintro e w5 ⟨rfl, h5⟩
      have H5 := Lib.hid h5
      clear h5
      go_wp2_with fail
      (try simp only [Exit.inBlock])
      refine bodyPost_end (results_none rfl _ _ _) rfl ?_
      refine ⟨rfl, ?_⟩
      have := wrote8_trans HA.out.1 H5.out
      simpa using this
end
end Go.Proofs.YthdhdmmlmbkalaaGreatDoor
namespace Go.Proofs.YthdhdmmlmbkalaaGreatDoor
section
open Go.RowKit

theorem step_call_at {P : Program} {ops : Array Oper} {o : Oper} {a : Act} {w : World} {K : Act → World → Prop} {Q : Exit → Act → World → Prop} {E : Prop} (d : Nat) (f : Nat) (args : Array Value) (_hd : o.dst = some d) (hgd : o.guard = none) (h : (execOp a.eval o).run P w = .ok (.enter f args) w)
    (hc : Calls P f args w fun e w' => ∃ v, e = .returned v ∧ K (a.put o.dst v) w') : if Region.wanted o (yielded ops a.tmps) = true then Oper.wp P o a w K Q else E := step_call f args hgd h hc
set_option maxRecDepth 100000 in
set_option maxHeartbeats 3200000 in
theorem expr_var (base b n : Nat) (hn : n < 100) (dk : Int) (dg bb rs : Bool) (la ia ta va : Option Addr) (ln lc il ic tl tc vl vc kc : Nat) (s : ByteArray) (p : Int) (ka : Option Addr) (kl : Nat) (l : List UInt8) (w : World) (h : Bl base b l w) (hb : base ≤ w.heap.size) (hl : l.length + (118 :: Lib.decDigits n).length ≤ 1000000) :
    Calls Tryz.prog 30 #[.agg #[.pointer (some ⟨b, 0, none⟩)], .agg #[.int .i64 2, .int .i64 dk, .bool dg, .slice la ln lc, .bool bb, .string s, .slice ia il ic, .slice ta tl tc, .int .i64 n, .slice va vl vc, .bool rs, .int .i64 p, .slice ka kl kc]] w fun r w' => r = .returned (.tuple #[]) ∧ Wrote base b (l ++ (118 :: Lib.decDigits n)) w w' := by
  have hbw : Below w.heap.size w ((w.alloc (.cells #[.pointer (some ⟨b, 0, none⟩)] 63)).alloc (.cells #[.int .i64 2, .int .i64 dk, .bool dg, .slice la ln lc, .bool bb, .string s, .slice ia il ic, .slice ta tl tc, .int .i64 n, .slice va vl vc, .bool rs, .int .i64 p, .slice ka kl kc] 31)) := ((Below.refl w.heap.size w).alloc (Nat.le_refl _) _).alloc (by simp) _
  have hP := (Below.heap_alloc (w.alloc (.cells #[.pointer (some ⟨b, 0, none⟩)] 63)) (.cells #[.int .i64 2, .int .i64 dk, .bool dg, .slice la ln lc, .bool bb, .string s, .slice ia il ic, .slice ta tl tc, .int .i64 n, .slice va vl vc, .bool rs, .int .i64 p, .slice ka kl kc] 31) w.heap.size (by simp)).trans (World.alloc_heap_new w _)
  have hD := World.alloc_heap_new (w.alloc (.cells #[.pointer (some ⟨b, 0, none⟩)] 63)) (.cells #[.int .i64 2, .int .i64 dk, .bool dg, .slice la ln lc, .bool bb, .string s, .slice ia il ic, .slice ta tl tc, .int .i64 n, .slice va vl vc, .bool rs, .int .i64 p, .slice ka kl kc] 31)
  rw [World.size_alloc] at hD
  have hz : ((w.alloc (.cells #[.pointer (some ⟨b, 0, none⟩)] 63)).alloc (.cells #[.int .i64 2, .int .i64 dk, .bool dg, .slice la ln lc, .bool bb, .string s, .slice ia il ic, .slice ta tl tc, .int .i64 n, .slice va vl vc, .bool rs, .int .i64 p, .slice ka kl kc] 31)).heap.size = w.heap.size + 1 + 1 := by rw [World.size_alloc, World.size_alloc]
  have hlt := bl8_lt h
  go_enter Tryz.func30, Tryz.ntmps30
  go_wp2_with fail
  generalize hW : ((w.alloc (.cells #[.pointer (some ⟨b, 0, none⟩)] 63)).alloc (.cells #[.int .i64 2, .int .i64 dk, .bool dg, .slice la ln lc, .bool bb, .string s, .slice ia il ic, .slice ta tl tc, .int .i64 n, .slice va vl vc, .bool rs, .int .i64 p, .slice ka kl kc] 31)) = W2 at *
  have c0 : W2.cell? ⟨w.heap.size, 0, none⟩ = some (.pointer (some ⟨b, 0, none⟩)) := by rw [Lib.cell_of_heap hP]; rfl
  have c0d : W2.drew.cell? ⟨w.heap.size, 0, none⟩ = some (.pointer (some ⟨b, 0, none⟩)) := c0
  have d8 : W2.cell? ⟨w.heap.size + 1, 8, none⟩ = some (.int .i64 n) := by rw [Lib.cell_of_heap hD]; rfl
  have d8d : W2.drew.cell? ⟨w.heap.size + 1, 8, none⟩ = some (.int .i64 n) := d8
  have hs2 := dec_small n hn
  have hput : Calls Tryz.prog 55 #[.pointer (some ⟨b, 0, none⟩), .string ⟨(118 :: Lib.decDigits n).toArray⟩] W2.drew fun e w' => e = .returned (.tuple #[.int .i64 (⟨(118 :: Lib.decDigits n).toArray⟩ : ByteArray).size, .nilIface]) ∧ Wrote base b (l ++ (118 :: Lib.decDigits n)) W2.drew w' := putText base b l ⟨(118 :: Lib.decDigits n).toArray⟩ W2.drew (bl8_below h hbw.drew) (by show _ + (118 :: Lib.decDigits n).length < _; omega) (by show _ ≤ W2.heap.size; omega)
  have HH := Lib.hid (And.intro h (And.intro hbw.drew hput))
  have hmix : Tryz.prog.follows .mixedOrders = true := by kernel_rfl
  clear h hP hD hbw hW hput
  go_region_law
    (first
      | (refine step_call_at 23 56 #[.int .i64 n] rfl (by rfl) (by simp [execOp, Act.eval, go_sem]) ((name_small n hn _).mono ?_); rintro e w3 ⟨rfl, rfl⟩; refine ⟨_, rfl, ?_⟩)
      | (refine step_call_at 24 55 #[.pointer (some ⟨b, 0, none⟩), .string ⟨(118 :: Lib.decDigits n).toArray⟩] rfl (by rfl) (by simp [execOp, Act.eval, go_sem]) (HH.out.2.2.mono ?_); rintro e w4 ⟨rfl, h4⟩; refine ⟨_, rfl, ?_⟩)
      | fail)
  all_goals
    go_wp2_with fail
    go_end0
    exact ⟨rfl, wrote8_trans (wrote8_below (bl8_wrote HH.out.1) hb HH.out.2.1) h4⟩
theorem pen_var (base b n : Nat) (hn : n < 100) (e : ET) (hk : e.k = 2) (hv : e.v = n) : PenOf base b e (118 :: Lib.decDigits n) := fun l w h hb hl _ => by
  rw [hk, hv]
  exact expr_var base b n hn _ _ _ _ _ _ _ _ _ _ _ _ _ _ _ _ _ _ _ _ _ l w h hb hl
set_option maxRecDepth 100000 in
set_option maxHeartbeats 800000 in
theorem expr_let (base b n gb go : Nat) (hn : n < 100) (dk : Int) (dg bb rs : Bool) (la ia ta va : Option Addr) (ln lc il ic tl tc vl vc kc : Nat) (s : ByteArray) (p : Int) (es : List (ET × List UInt8)) (hes : es.length ≤ 1000) (hPs : ∀ x ∈ es, PenOf base b x.1 x.2) (l : List UInt8) (w : World) (h : Bl base b l w) (hb : base ≤ w.heap.size) (hl : l.length + (40 :: ([108, 101, 116, 32] ++ (118 :: Lib.decDigits n) ++ (rowK es ++ [41]))).length ≤ 1000000) (hL : LiesER w base (es.map (·.1)) gb go) :
    Calls Tryz.prog 30 #[.agg #[.pointer (some ⟨b, 0, none⟩)], .agg #[.int .i64 8, .int .i64 dk, .bool dg, .slice la ln lc, .bool bb, .string s, .slice ia il ic, .slice ta tl tc, .int .i64 n, .slice va vl vc, .bool rs, .int .i64 p, .slice (some ⟨gb, go, none⟩) es.length kc]] w fun r w' => r = .returned (.tuple #[]) ∧ Wrote base b (l ++ 40 :: ([108, 101, 116, 32] ++ (118 :: Lib.decDigits n) ++ (rowK es ++ [41]))) w w' := by
  obtain ⟨s0, hs0⟩ : ∃ s0 : ByteArray, (⟨(118 :: Lib.decDigits n).toArray⟩ : ByteArray) = s0 := ⟨_, rfl⟩
  have hs2 := dec_small n hn
  have hs0s : s0.size ≤ 3 := by rw [← hs0]; show (118 :: Lib.decDigits n).length ≤ 3; (try simp); try omega
  obtain ⟨T, hcat⟩ : ∃ T, (⟨#[108, 101, 116, 32]⟩ ++ s0 : ByteArray) = T := ⟨_, rfl⟩
  have hbig : ¬ 9223372036854775807 < 4 + s0.size := by omega
  have hsz : T.size ≤ 20 := by rw [← hcat, ByteArray.size_append]; show 4 + s0.size ≤ 20; omega
  have hdat : T.data.toList = [108, 101, 116, 32] ++ (118 :: Lib.decDigits n) := by rw [← hcat, ← hs0]; simp
  have hl2 : l.length + T.size + (rowK es).length + 2 ≤ 1000000 := by
    have e : T.size = ([108, 101, 116, 32] ++ (118 :: Lib.decDigits n)).length := by rw [← hdat]; exact Array.length_toList.symm
    rw [e]
    simp only [List.length_cons, List.length_append, List.length_nil] at hl ⊢
    omega
  have hne : T.toList.isEmpty = false := by rw [Lib.toList_data, hdat]; rfl
  have hcall : ∀ W, Calls Tryz.prog 56 #[.int .i64 n] W fun e w' => e = .returned (.string s0) ∧ w' = W := fun W => by rw [← hs0]; exact name_small n hn W
  have hbw : Below w.heap.size w ((w.alloc (.cells #[.pointer (some ⟨b, 0, none⟩)] 63)).alloc (.cells #[.int .i64 8, .int .i64 dk, .bool dg, .slice la ln lc, .bool bb, .string s, .slice ia il ic, .slice ta tl tc, .int .i64 n, .slice va vl vc, .bool rs, .int .i64 p, .slice (some ⟨gb, go, none⟩) es.length kc] 31)) := ((Below.refl w.heap.size w).alloc (Nat.le_refl _) _).alloc (by simp) _
  have hP := (Below.heap_alloc (w.alloc (.cells #[.pointer (some ⟨b, 0, none⟩)] 63)) (.cells #[.int .i64 8, .int .i64 dk, .bool dg, .slice la ln lc, .bool bb, .string s, .slice ia il ic, .slice ta tl tc, .int .i64 n, .slice va vl vc, .bool rs, .int .i64 p, .slice (some ⟨gb, go, none⟩) es.length kc] 31) w.heap.size (by simp)).trans (World.alloc_heap_new w _)
  have hD := World.alloc_heap_new (w.alloc (.cells #[.pointer (some ⟨b, 0, none⟩)] 63)) (.cells #[.int .i64 8, .int .i64 dk, .bool dg, .slice la ln lc, .bool bb, .string s, .slice ia il ic, .slice ta tl tc, .int .i64 n, .slice va vl vc, .bool rs, .int .i64 p, .slice (some ⟨gb, go, none⟩) es.length kc] 31)
  rw [World.size_alloc] at hD
  have hz : ((w.alloc (.cells #[.pointer (some ⟨b, 0, none⟩)] 63)).alloc (.cells #[.int .i64 8, .int .i64 dk, .bool dg, .slice la ln lc, .bool bb, .string s, .slice ia il ic, .slice ta tl tc, .int .i64 n, .slice va vl vc, .bool rs, .int .i64 p, .slice (some ⟨gb, go, none⟩) es.length kc] 31)).heap.size = w.heap.size + 1 + 1 := by rw [World.size_alloc, World.size_alloc]
  have hlt := bl8_lt h
  go_enter Tryz.func30, Tryz.ntmps30
  go_wp2_with fail
  generalize hW : ((w.alloc (.cells #[.pointer (some ⟨b, 0, none⟩)] 63)).alloc (.cells #[.int .i64 8, .int .i64 dk, .bool dg, .slice la ln lc, .bool bb, .string s, .slice ia il ic, .slice ta tl tc, .int .i64 n, .slice va vl vc, .bool rs, .int .i64 p, .slice (some ⟨gb, go, none⟩) es.length kc] 31)) = W2 at *
  have c0 : W2.cell? ⟨w.heap.size, 0, none⟩ = some (.pointer (some ⟨b, 0, none⟩)) := by rw [Lib.cell_of_heap hP]; rfl
  have c0d : W2.drew.cell? ⟨w.heap.size, 0, none⟩ = some (.pointer (some ⟨b, 0, none⟩)) := c0
  have d8 : W2.cell? ⟨w.heap.size + 1, 8, none⟩ = some (.int .i64 n) := by rw [Lib.cell_of_heap hD]; rfl
  have d8d : W2.drew.cell? ⟨w.heap.size + 1, 8, none⟩ = some (.int .i64 n) := d8
  have d12 : W2.cell? ⟨w.heap.size + 1, 12, none⟩ = some (.slice (some ⟨gb, go, none⟩) es.length kc) := by rw [Lib.cell_of_heap hD]; rfl
  have d12d : W2.drew.cell? ⟨w.heap.size + 1, 12, none⟩ = some (.slice (some ⟨gb, go, none⟩) es.length kc) := d12
  have hform : Calls Tryz.prog 53 #[.agg #[.pointer (some ⟨b, 0, none⟩)], .string T, .slice (some ⟨gb, go, none⟩) es.length kc] W2.drew fun r w' => r = .returned (.tuple #[]) ∧ Wrote base b (l ++ 40 :: (T.data.toList ++ (rowK es ++ [41]))) W2.drew w' :=
    form_any base b gb go kc T (by omega) hne es hes hPs l W2.drew (bl8_below h hbw.drew) (by show _ ≤ W2.heap.size; omega) hl2 (LiesER.keep hbw.drew.size (fun q hq => hbw.drew.block q (by omega)) _ _ _ hL)
  rw [hdat] at hform
  have HH := Lib.hid (And.intro h (And.intro hbw.drew (And.intro hform hcall)))
  have hmix : Tryz.prog.follows .mixedOrders = true := by kernel_rfl
  clear h hP hD hbw hW hform hL hPs hdat hsz hne hs0 hcall hs2
  go_region_law
    (first
      | (refine step_call_at 74 56 #[.int .i64 n] rfl (by rfl) (by simp [execOp, Act.eval, go_sem]) ((HH.out.2.2.2 _).mono ?_); rintro e w3 ⟨rfl, rfl⟩; refine ⟨_, rfl, ?_⟩)
      | (refine step_call_at 78 53 #[.agg #[.pointer (some ⟨b, 0, none⟩)], .string T, .slice (some ⟨gb, go, none⟩) es.length kc] rfl (by rfl) (by simp [execOp, Act.eval, go_sem, hcat]) (HH.out.2.2.1.mono ?_); rintro e w4 ⟨rfl, h4⟩; refine ⟨_, rfl, ?_⟩)
      | fail)
  all_goals
    go_wp2_with fail
    go_end0
    exact ⟨rfl, wrote8_trans (wrote8_below (bl8_wrote HH.out.1) hb HH.out.2.1) h4⟩
set_option maxRecDepth 100000 in
set_option maxHeartbeats 800000 in
theorem expr_prim (base b n gb go : Nat) (hn : n < 100) (dk : Int) (dg bb rs : Bool) (la ia ta va : Option Addr) (ln lc il ic tl tc vl vc kc : Nat) (s : ByteArray) (v : Int) (es : List (ET × List UInt8)) (hes : es.length ≤ 1000) (hPs : ∀ x ∈ es, PenOf base b x.1 x.2) (l : List UInt8) (w : World) (h : Bl base b l w) (hb : base ≤ w.heap.size) (hl : l.length + (40 :: ([37] ++ (Lib.decDigits n) ++ (rowK es ++ [41]))).length ≤ 1000000) (hL : LiesER w base (es.map (·.1)) gb go) :
    Calls Tryz.prog 30 #[.agg #[.pointer (some ⟨b, 0, none⟩)], .agg #[.int .i64 7, .int .i64 dk, .bool dg, .slice la ln lc, .bool bb, .string s, .slice ia il ic, .slice ta tl tc, .int .i64 v, .slice va vl vc, .bool rs, .int .i64 n, .slice (some ⟨gb, go, none⟩) es.length kc]] w fun r w' => r = .returned (.tuple #[]) ∧ Wrote base b (l ++ 40 :: ([37] ++ (Lib.decDigits n) ++ (rowK es ++ [41]))) w w' := by
  obtain ⟨s0, hs0⟩ : ∃ s0 : ByteArray, (⟨(Lib.decDigits n).toArray⟩ : ByteArray) = s0 := ⟨_, rfl⟩
  have hs2 := dec_small n hn
  have hs0s : s0.size ≤ 3 := by rw [← hs0]; show (Lib.decDigits n).length ≤ 3; (try simp); try omega
  obtain ⟨T, hcat⟩ : ∃ T, (⟨#[37]⟩ ++ s0 : ByteArray) = T := ⟨_, rfl⟩
  have hbig : ¬ 9223372036854775807 < 1 + s0.size := by omega
  have hsz : T.size ≤ 20 := by rw [← hcat, ByteArray.size_append]; show 1 + s0.size ≤ 20; omega
  have hdat : T.data.toList = [37] ++ (Lib.decDigits n) := by rw [← hcat, ← hs0]; simp
  have hl2 : l.length + T.size + (rowK es).length + 2 ≤ 1000000 := by
    have e : T.size = ([37] ++ (Lib.decDigits n)).length := by rw [← hdat]; exact Array.length_toList.symm
    rw [e]
    simp only [List.length_cons, List.length_append, List.length_nil] at hl ⊢
    omega
  have hne : T.toList.isEmpty = false := by rw [Lib.toList_data, hdat]; rfl
  have hcall : ∀ W, Calls Tryz.prog 58 #[.int .i64 n] W fun e w' => e = .returned (.string s0) ∧ w' = W := fun W => by rw [← hs0]; exact itoa_small n hn W
  have hbw : Below w.heap.size w ((w.alloc (.cells #[.pointer (some ⟨b, 0, none⟩)] 63)).alloc (.cells #[.int .i64 7, .int .i64 dk, .bool dg, .slice la ln lc, .bool bb, .string s, .slice ia il ic, .slice ta tl tc, .int .i64 v, .slice va vl vc, .bool rs, .int .i64 n, .slice (some ⟨gb, go, none⟩) es.length kc] 31)) := ((Below.refl w.heap.size w).alloc (Nat.le_refl _) _).alloc (by simp) _
  have hP := (Below.heap_alloc (w.alloc (.cells #[.pointer (some ⟨b, 0, none⟩)] 63)) (.cells #[.int .i64 7, .int .i64 dk, .bool dg, .slice la ln lc, .bool bb, .string s, .slice ia il ic, .slice ta tl tc, .int .i64 v, .slice va vl vc, .bool rs, .int .i64 n, .slice (some ⟨gb, go, none⟩) es.length kc] 31) w.heap.size (by simp)).trans (World.alloc_heap_new w _)
  have hD := World.alloc_heap_new (w.alloc (.cells #[.pointer (some ⟨b, 0, none⟩)] 63)) (.cells #[.int .i64 7, .int .i64 dk, .bool dg, .slice la ln lc, .bool bb, .string s, .slice ia il ic, .slice ta tl tc, .int .i64 v, .slice va vl vc, .bool rs, .int .i64 n, .slice (some ⟨gb, go, none⟩) es.length kc] 31)
  rw [World.size_alloc] at hD
  have hz : ((w.alloc (.cells #[.pointer (some ⟨b, 0, none⟩)] 63)).alloc (.cells #[.int .i64 7, .int .i64 dk, .bool dg, .slice la ln lc, .bool bb, .string s, .slice ia il ic, .slice ta tl tc, .int .i64 v, .slice va vl vc, .bool rs, .int .i64 n, .slice (some ⟨gb, go, none⟩) es.length kc] 31)).heap.size = w.heap.size + 1 + 1 := by rw [World.size_alloc, World.size_alloc]
  have hlt := bl8_lt h
  go_enter Tryz.func30, Tryz.ntmps30
  go_wp2_with fail
  generalize hW : ((w.alloc (.cells #[.pointer (some ⟨b, 0, none⟩)] 63)).alloc (.cells #[.int .i64 7, .int .i64 dk, .bool dg, .slice la ln lc, .bool bb, .string s, .slice ia il ic, .slice ta tl tc, .int .i64 v, .slice va vl vc, .bool rs, .int .i64 n, .slice (some ⟨gb, go, none⟩) es.length kc] 31)) = W2 at *
  have c0 : W2.cell? ⟨w.heap.size, 0, none⟩ = some (.pointer (some ⟨b, 0, none⟩)) := by rw [Lib.cell_of_heap hP]; rfl
  have c0d : W2.drew.cell? ⟨w.heap.size, 0, none⟩ = some (.pointer (some ⟨b, 0, none⟩)) := c0
  have d11 : W2.cell? ⟨w.heap.size + 1, 11, none⟩ = some (.int .i64 n) := by rw [Lib.cell_of_heap hD]; rfl
  have d11d : W2.drew.cell? ⟨w.heap.size + 1, 11, none⟩ = some (.int .i64 n) := d11
  have d12 : W2.cell? ⟨w.heap.size + 1, 12, none⟩ = some (.slice (some ⟨gb, go, none⟩) es.length kc) := by rw [Lib.cell_of_heap hD]; rfl
  have d12d : W2.drew.cell? ⟨w.heap.size + 1, 12, none⟩ = some (.slice (some ⟨gb, go, none⟩) es.length kc) := d12
  have hform : Calls Tryz.prog 53 #[.agg #[.pointer (some ⟨b, 0, none⟩)], .string T, .slice (some ⟨gb, go, none⟩) es.length kc] W2.drew fun r w' => r = .returned (.tuple #[]) ∧ Wrote base b (l ++ 40 :: (T.data.toList ++ (rowK es ++ [41]))) W2.drew w' :=
    form_any base b gb go kc T (by omega) hne es hes hPs l W2.drew (bl8_below h hbw.drew) (by show _ ≤ W2.heap.size; omega) hl2 (LiesER.keep hbw.drew.size (fun q hq => hbw.drew.block q (by omega)) _ _ _ hL)
  rw [hdat] at hform
  have HH := Lib.hid (And.intro h (And.intro hbw.drew (And.intro hform hcall)))
  have hmix : Tryz.prog.follows .mixedOrders = true := by kernel_rfl
  clear h hP hD hbw hW hform hL hPs hdat hsz hne hs0 hcall hs2
  go_region_law
    (first
      | (refine step_call_at 64 58 #[.int .i64 n] rfl (by rfl) (by simp [execOp, Act.eval, go_sem]) ((HH.out.2.2.2 _).mono ?_); rintro e w3 ⟨rfl, rfl⟩; refine ⟨_, rfl, ?_⟩)
      | (refine step_call_at 68 53 #[.agg #[.pointer (some ⟨b, 0, none⟩)], .string T, .slice (some ⟨gb, go, none⟩) es.length kc] rfl (by rfl) (by simp [execOp, Act.eval, go_sem, hcat]) (HH.out.2.2.1.mono ?_); rintro e w4 ⟨rfl, h4⟩; refine ⟨_, rfl, ?_⟩)
      | fail)
  all_goals
    go_wp2_with fail
    go_end0
    exact ⟨rfl, wrote8_trans (wrote8_below (bl8_wrote HH.out.1) hb HH.out.2.1) h4⟩
end
end Go.Proofs.YthdhdmmlmbkalaaGreatDoor
namespace Go.Proofs.YthdhdmmlmbkalaaGreatDoor
section
open Go.RowKit

set_option maxRecDepth 100000 in
set_option maxHeartbeats 1600000 in
theorem formals_one (n : Nat) (hn : n < 100) (vb vo c : Nat) (w : World) (hc : w.cell? ⟨vb, vo, none⟩ = some (.int .i64 n)) :
    Calls Tryz.prog 57 #[.slice (some ⟨vb, vo, none⟩) 1 c, .bool false] w fun e w' => e = .returned (.string ⟨(40 :: 118 :: (Lib.decDigits n ++ [41])).toArray⟩) ∧ Below w.heap.size w w' := by
  have hvl : vb < w.heap.size := World.block_lt_of_cell? w _ hc
  obtain ⟨s0, hs0⟩ : ∃ s0 : ByteArray, (⟨(118 :: Lib.decDigits n).toArray⟩ : ByteArray) = s0 := ⟨_, rfl⟩
  have hs2 := dec_small n hn
  have hs0s : s0.size ≤ 3 := by rw [← hs0]; show (118 :: Lib.decDigits n).length ≤ 3; simp; omega
  have hs0d : s0.data.toList = 118 :: Lib.decDigits n := by rw [← hs0]
  have hname : ∀ W, Calls Tryz.prog 56 #[.int .i64 n] W fun e w' => e = .returned (.string s0) ∧ w' = W := fun W => by rw [← hs0]; exact name_small n hn W
  obtain ⟨W1, hW1⟩ : ∃ W1, w.alloc (.cells #[.pointer none, .slice none 0 0] 61) = W1 := ⟨_, rfl⟩
  have hz1 : W1.heap.size = w.heap.size + 1 := by rw [← hW1, World.size_alloc]
  have hb1 : Below w.heap.size w W1 := by rw [← hW1]; exact (Below.refl _ _).alloc (Nat.le_refl _) _
  have hbl : Bl w.heap.size w.heap.size [] W1 := by rw [← hW1]; exact Bl.fresh w
  have hput := putText w.heap.size w.heap.size [] s0 W1 hbl (by show 0 + _ < _; omega) (by omega)
  have c1 : W1.cell? ⟨vb, vo, none⟩ = some (.int .i64 n) := (hb1.cell (p := ⟨vb, vo, none⟩) hvl).trans hc
  obtain ⟨T1, hcat1⟩ : ∃ T, (⟨#[40]⟩ ++ s0 : ByteArray) = T := ⟨_, rfl⟩
  obtain ⟨T2, hcat2⟩ : ∃ T, (T1 ++ ⟨#[41]⟩ : ByteArray) = T := ⟨_, rfl⟩
  have hT1s : T1.size ≤ 4 := by rw [← hcat1, ByteArray.size_append]; show 1 + s0.size ≤ 4; omega
  have hT2 : T2 = ⟨(40 :: 118 :: (Lib.decDigits n ++ [41])).toArray⟩ := by rw [← hcat2, ← hcat1, ← hs0]; apply ByteArray.ext; simp
  have HH := Lib.hid (And.intro hname (And.intro hput (And.intro hb1 (And.intro hs0d hT2))))
  clear hc hs0 hs0d hname hput hb1 hbl hT2
  go_enter Tryz.func57, Tryz.ntmps57
  go_wp2_with fail
  refine wp_loop_rounds 2 ?_
  rw [rounds_succ]
  go_wp2_with fail
  refine (HH.out.1 _).mono ?_
  rintro e w2 ⟨rfl, rfl⟩
  go_wp2_with fail
  refine HH.out.2.1.mono ?_
  rintro e w3 ⟨rfl, h3⟩
  have hz3 := h3.2.1.size
  have hst := built w.heap.size w.heap.size _ w3 h3.1 (by omega)
  have hmk : ([] ++ s0.data.toList).toArray = s0.data := by simp
  rw [hmk] at hst
  have hst : Calls Tryz.prog 31 #[.pointer (some ⟨w.heap.size, 0, none⟩)] w3 fun e w' => e = .returned (.string s0) ∧ Wrote w.heap.size w.heap.size ([] ++ s0.data.toList) w3 w' := hst
  have HS := Lib.hid (And.intro h3 hst)
  clear h3 hst
  go_wp2_with fail
  rw [rounds_succ]
  go_wp2_with fail
  refine HS.out.2.mono ?_
  rintro e w4 ⟨rfl, h4⟩
  have hb4 := HH.out.2.2.1.trans (HS.out.1.2.1.trans h4.2.1)
  go_wp2_with fail
  go_ret
  exact ⟨by rw [HH.out.2.2.2.2]; rfl, hb4⟩
end
end Go.Proofs.YthdhdmmlmbkalaaGreatDoor
namespace Go.Proofs.YthdhdmmlmbkalaaGreatDoor
section
open Go.RowKit

set_option maxRecDepth 100000 in
set_option maxHeartbeats 1600000 in
theorem expr_lambda (base b n gb go vb vo : Nat) (hn : n < 100) (dk : Int) (dg bb : Bool) (la ia ta : Option Addr) (ln lc il ic tl tc vc kc : Nat) (s : ByteArray) (v p : Int) (es : List (ET × List UInt8)) (hes : es.length ≤ 1000) (hPs : ∀ x ∈ es, PenOf base b x.1 x.2) (l : List UInt8) (w : World) (h : Bl base b l w) (hb : base ≤ w.heap.size) (hl : l.length + (40 :: ([108, 97, 109, 98, 100, 97, 32] ++ (40 :: 118 :: (Lib.decDigits n ++ [41])) ++ (rowK es ++ [41]))).length ≤ 1000000) (hL : LiesER w base (es.map (·.1)) gb go) (hv : w.cell? ⟨vb, vo, none⟩ = some (.int .i64 n)) :
    Calls Tryz.prog 30 #[.agg #[.pointer (some ⟨b, 0, none⟩)], .agg #[.int .i64 5, .int .i64 dk, .bool dg, .slice la ln lc, .bool bb, .string s, .slice ia il ic, .slice ta tl tc, .int .i64 v, .slice (some ⟨vb, vo, none⟩) 1 vc, .bool false, .int .i64 p, .slice (some ⟨gb, go, none⟩) es.length kc]] w fun r w' => r = .returned (.tuple #[]) ∧ Wrote base b (l ++ 40 :: ([108, 97, 109, 98, 100, 97, 32] ++ (40 :: 118 :: (Lib.decDigits n ++ [41])) ++ (rowK es ++ [41]))) w w' := by
  have hvl : vb < w.heap.size := World.block_lt_of_cell? w _ hv
  obtain ⟨s0, hs0⟩ : ∃ s0 : ByteArray, (⟨(40 :: 118 :: (Lib.decDigits n ++ [41])).toArray⟩ : ByteArray) = s0 := ⟨_, rfl⟩
  have hs2 := dec_small n hn
  have hs0s : s0.size ≤ 5 := by rw [← hs0]; show (40 :: 118 :: (Lib.decDigits n ++ [41])).length ≤ 5; simp; omega
  obtain ⟨T, hcat⟩ : ∃ T, (⟨#[108, 97, 109, 98, 100, 97, 32]⟩ ++ s0 : ByteArray) = T := ⟨_, rfl⟩
  have hbig : ¬ 9223372036854775807 < 7 + s0.size := by omega
  have hsz : T.size ≤ 20 := by rw [← hcat, ByteArray.size_append]; show 7 + s0.size ≤ 20; omega
  have hdat : T.data.toList = [108, 97, 109, 98, 100, 97, 32] ++ (40 :: 118 :: (Lib.decDigits n ++ [41])) := by rw [← hcat, ← hs0]; simp
  have hl2 : l.length + T.size + (rowK es).length + 2 ≤ 1000000 := by
    have e : T.size = ([108, 97, 109, 98, 100, 97, 32] ++ (40 :: 118 :: (Lib.decDigits n ++ [41]))).length := by rw [← hdat]; exact Array.length_toList.symm
    rw [e]
    simp only [List.length_cons, List.length_append, List.length_nil] at hl ⊢
    omega
  have hne : T.toList.isEmpty = false := by rw [Lib.toList_data, hdat]; rfl
  have hbw : Below w.heap.size w ((w.alloc (.cells #[.pointer (some ⟨b, 0, none⟩)] 63)).alloc (.cells #[.int .i64 5, .int .i64 dk, .bool dg, .slice la ln lc, .bool bb, .string s, .slice ia il ic, .slice ta tl tc, .int .i64 v, .slice (some ⟨vb, vo, none⟩) 1 vc, .bool false, .int .i64 p, .slice (some ⟨gb, go, none⟩) es.length kc] 31)) := ((Below.refl w.heap.size w).alloc (Nat.le_refl _) _).alloc (by simp) _
  have hP := (Below.heap_alloc (w.alloc (.cells #[.pointer (some ⟨b, 0, none⟩)] 63)) (.cells #[.int .i64 5, .int .i64 dk, .bool dg, .slice la ln lc, .bool bb, .string s, .slice ia il ic, .slice ta tl tc, .int .i64 v, .slice (some ⟨vb, vo, none⟩) 1 vc, .bool false, .int .i64 p, .slice (some ⟨gb, go, none⟩) es.length kc] 31) w.heap.size (by simp)).trans (World.alloc_heap_new w _)
  have hD := World.alloc_heap_new (w.alloc (.cells #[.pointer (some ⟨b, 0, none⟩)] 63)) (.cells #[.int .i64 5, .int .i64 dk, .bool dg, .slice la ln lc, .bool bb, .string s, .slice ia il ic, .slice ta tl tc, .int .i64 v, .slice (some ⟨vb, vo, none⟩) 1 vc, .bool false, .int .i64 p, .slice (some ⟨gb, go, none⟩) es.length kc] 31)
  rw [World.size_alloc] at hD
  have hz : ((w.alloc (.cells #[.pointer (some ⟨b, 0, none⟩)] 63)).alloc (.cells #[.int .i64 5, .int .i64 dk, .bool dg, .slice la ln lc, .bool bb, .string s, .slice ia il ic, .slice ta tl tc, .int .i64 v, .slice (some ⟨vb, vo, none⟩) 1 vc, .bool false, .int .i64 p, .slice (some ⟨gb, go, none⟩) es.length kc] 31)).heap.size = w.heap.size + 1 + 1 := by rw [World.size_alloc, World.size_alloc]
  have hlt := bl8_lt h
  go_enter Tryz.func30, Tryz.ntmps30
  go_wp2_with fail
  generalize hW : ((w.alloc (.cells #[.pointer (some ⟨b, 0, none⟩)] 63)).alloc (.cells #[.int .i64 5, .int .i64 dk, .bool dg, .slice la ln lc, .bool bb, .string s, .slice ia il ic, .slice ta tl tc, .int .i64 v, .slice (some ⟨vb, vo, none⟩) 1 vc, .bool false, .int .i64 p, .slice (some ⟨gb, go, none⟩) es.length kc] 31)) = W2 at *
  have c0 : W2.cell? ⟨w.heap.size, 0, none⟩ = some (.pointer (some ⟨b, 0, none⟩)) := by rw [Lib.cell_of_heap hP]; rfl
  have c0d : W2.drew.cell? ⟨w.heap.size, 0, none⟩ = some (.pointer (some ⟨b, 0, none⟩)) := c0
  have d9 : W2.cell? ⟨w.heap.size + 1, 9, none⟩ = some (.slice (some ⟨vb, vo, none⟩) 1 vc) := by rw [Lib.cell_of_heap hD]; rfl
  have d9d : W2.drew.cell? ⟨w.heap.size + 1, 9, none⟩ = some (.slice (some ⟨vb, vo, none⟩) 1 vc) := d9
  have d10 : W2.cell? ⟨w.heap.size + 1, 10, none⟩ = some (.bool false) := by rw [Lib.cell_of_heap hD]; rfl
  have d10d : W2.drew.cell? ⟨w.heap.size + 1, 10, none⟩ = some (.bool false) := d10
  have d12 : W2.cell? ⟨w.heap.size + 1, 12, none⟩ = some (.slice (some ⟨gb, go, none⟩) es.length kc) := by rw [Lib.cell_of_heap hD]; rfl
  have d12d : W2.drew.cell? ⟨w.heap.size + 1, 12, none⟩ = some (.slice (some ⟨gb, go, none⟩) es.length kc) := d12
  have hvv : W2.drew.cell? ⟨vb, vo, none⟩ = some (.int .i64 n) := (hbw.drew.cell (p := ⟨vb, vo, none⟩) hvl).trans hv
  have hcall : Calls Tryz.prog 57 #[.slice (some ⟨vb, vo, none⟩) 1 vc, .bool false] W2.drew fun e w' => e = .returned (.string s0) ∧ Below W2.drew.heap.size W2.drew w' := by rw [← hs0]; exact formals_one n hn vb vo vc W2.drew hvv
  have hform : ∀ W, Below W2.heap.size W2 W → Calls Tryz.prog 53 #[.agg #[.pointer (some ⟨b, 0, none⟩)], .string T, .slice (some ⟨gb, go, none⟩) es.length kc] W fun r w' => r = .returned (.tuple #[]) ∧ Wrote base b (l ++ 40 :: ([108, 97, 109, 98, 100, 97, 32] ++ (40 :: 118 :: (Lib.decDigits n ++ [41])) ++ (rowK es ++ [41]))) w w' := fun W hWb => by
    have hall := hbw.trans (hWb.mono (by omega))
    have := hWb.size
    have hf := form_any base b gb go kc T (by omega) hne es hes hPs l W (bl8_below h hall) (by omega) hl2 (LiesER.keep hall.size (fun q hq => hall.block q (by omega)) _ _ _ hL)
    rw [hdat] at hf
    exact hf.mono fun r w' ⟨h1, h2⟩ => ⟨h1, wrote8_trans (wrote8_below (bl8_wrote h) hb hall) h2⟩
  have HH := Lib.hid (And.intro hform hcall)
  have hmix : Tryz.prog.follows .mixedOrders = true := by kernel_rfl
  clear h hP hD hbw hW hform hL hPs hdat hsz hne hs0 hcall hs2 hv hvv
  go_region_law
    (first
      | (refine step_call_at 48 57 #[.slice (some ⟨vb, vo, none⟩) 1 vc, .bool false] rfl (by rfl) (by simp [execOp, Act.eval, go_sem]) (HH.out.2.mono ?_); rintro e w3 ⟨rfl, b3⟩; refine ⟨_, rfl, ?_⟩; have c3 : Below W2.heap.size W2 w3 := (⟨b3.os, b3.tape, b3.output, b3.size, b3.block⟩); clear b3;
          have e1 := (c3.cell (p := ⟨w.heap.size, 0, none⟩) (by show w.heap.size < W2.heap.size; omega)).trans c0; have e2 := (c3.cell (p := ⟨w.heap.size + 1, 12, none⟩) (by show w.heap.size + 1 < W2.heap.size; omega)).trans d12)
      | (refine step_call_at 52 53 #[.agg #[.pointer (some ⟨b, 0, none⟩)], .string T, .slice (some ⟨gb, go, none⟩) es.length kc] rfl (by rfl) (by simp [execOp, Act.eval, go_sem, hcat]) ((HH.out.1 w3 c3).mono ?_); rintro e w4 ⟨rfl, h4⟩; refine ⟨_, rfl, ?_⟩)
      | fail)
  all_goals
    go_wp2_with fail
    go_end0
    exact ⟨rfl, h4⟩
theorem pen_let (base b n gb go : Nat) (hn : n < 100) (e : ET) (es : List (ET × List UInt8)) (hk : e.k = 8) (hv : e.v = n) (hka : e.ka = some ⟨gb, go, none⟩) (hkids : e.kids = es.map (·.1)) (hes : es.length ≤ 1000) (hPs : ∀ x ∈ es, PenOf base b x.1 x.2) : PenOf base b e (40 :: ([108, 101, 116, 32] ++ (118 :: Lib.decDigits n) ++ (rowK es ++ [41]))) := fun l w h hb hl hH => by
  have hL := hH.2.2
  rw [hka, hkids] at hL
  rw [hk, hv, hka, hkids, List.length_map]
  exact expr_let base b n gb go hn _ _ _ _ _ _ _ _ _ _ _ _ _ _ _ _ _ _ _ es hes hPs l w h hb hl hL
theorem pen_prim (base b n gb go : Nat) (hn : n < 100) (e : ET) (es : List (ET × List UInt8)) (hk : e.k = 7) (hv : e.p = n) (hka : e.ka = some ⟨gb, go, none⟩) (hkids : e.kids = es.map (·.1)) (hes : es.length ≤ 1000) (hPs : ∀ x ∈ es, PenOf base b x.1 x.2) : PenOf base b e (40 :: ([37] ++ (Lib.decDigits n) ++ (rowK es ++ [41]))) := fun l w h hb hl hH => by
  have hL := hH.2.2
  rw [hka, hkids] at hL
  rw [hk, hv, hka, hkids, List.length_map]
  exact expr_prim base b n gb go hn _ _ _ _ _ _ _ _ _ _ _ _ _ _ _ _ _ _ _ es hes hPs l w h hb hl hL
theorem pen_lambda (base b n gb go vb vo : Nat) (hn : n < 100) (e : ET) (es : List (ET × List UInt8)) (hk : e.k = 5) (hvs : e.vs = [(n : Int)]) (hva : e.va = some ⟨vb, vo, none⟩) (hrs : e.rs = false) (hka : e.ka = some ⟨gb, go, none⟩) (hkids : e.kids = es.map (·.1)) (hes : es.length ≤ 1000) (hPs : ∀ x ∈ es, PenOf base b x.1 x.2) : PenOf base b e (40 :: ([108, 97, 109, 98, 100, 97, 32] ++ (40 :: 118 :: (Lib.decDigits n ++ [41])) ++ (rowK es ++ [41]))) := fun l w h hb hl hH => by
  have hL := hH.2.2
  have hV := hH.1.2
  rw [hka, hkids] at hL
  rw [hva, hvs] at hV
  rw [hk, hvs, hva, hrs, hka, hkids, List.length_map]
  exact expr_lambda base b n gb go vb vo hn _ _ _ _ _ _ _ _ _ _ _ _ _ _ _ _ _ es hes hPs l w h hb hl hL (hV.2 0 Nat.one_pos).1
end
end Go.Proofs.YthdhdmmlmbkalaaGreatDoor
namespace Go.Proofs.YthdhdmmlmbkalaaGreatDoor
section
open Go.RowKit

theorem pen_box (base b g1 g2 g3 g4 vb vo sb so : Nat) (u S X : ET) (h : LamT 1 u S X) (hva : u.va = some ⟨vb, vo, none⟩) (hka : u.ka = some ⟨sb, so, none⟩) : PenOf base b (boxT u 1 2 g1 g2 g3 g4) [40, 108, 97, 109, 98, 100, 97, 32, 40, 118, 49, 41, 32, 40, 108, 101, 116, 32, 118, 50, 32, 40, 37, 51, 53, 32, 118, 49, 41, 32, 40, 37, 51, 55, 32, 118, 50, 32, 40, 37, 51, 54, 32, 118, 50, 41, 41, 41, 41] := by
  obtain ⟨t0, t1, t2, t3, t4, t5, t6⟩ := h.t
  have p1 := pen_var base b 1 (by decide) (varE 1) rfl rfl
  have p2 := pen_var base b 2 (by decide) (varE 2) rfl rfl
  have one : ∀ (e : ET) (s : List UInt8), PenOf base b e s → ∀ x ∈ [(e, s)], PenOf base b x.1 x.2 := fun e s h x hx => by
    obtain rfl : x = (e, s) := by simpa using hx
    exact h
  have two : ∀ (e f : ET) (s t : List UInt8), PenOf base b e s → PenOf base b f t → ∀ x ∈ [(e, s), (f, t)], PenOf base b x.1 x.2 := fun e f s t h k x hx => by
    simp only [List.mem_cons, List.not_mem_nil, or_false] at hx
    rcases hx with rfl | rfl
    · exact h
    · exact k
  have p36 := pen_prim base b 36 g1 0 (by decide) (primE 36 g1 [varE 2]) [(varE 2, _)] rfl rfl rfl rfl (by simp) (one _ _ p2)
  have p37 := pen_prim base b 37 g2 0 (by decide) (primE 37 g2 [varE 2, primE 36 g1 [varE 2]]) [(varE 2, _), (primE 36 g1 [varE 2], _)] rfl rfl rfl rfl (by simp) (two _ _ _ _ p2 p36)
  have p35 := pen_prim base b 35 g3 0 (by decide) (primE 35 g3 [varE 1]) [(varE 1, _)] rfl rfl rfl rfl (by simp) (one _ _ p1)
  have pl := pen_let base b 2 g4 0 (by decide) (letE 2 g4 [primE 35 g3 [varE 1], primE 37 g2 [varE 2, primE 36 g1 [varE 2]]]) [(primE 35 g3 [varE 1], _), (primE 37 g2 [varE 2, primE 36 g1 [varE 2]], _)] rfl rfl rfl rfl (by simp) (two _ _ _ _ p35 p37)
  have pm := pen_lambda base b 1 sb so vb vo (by decide) (boxT u 1 2 g1 g2 g3 g4) [(letE 2 g4 [primE 35 g3 [varE 1], primE 37 g2 [varE 2, primE 36 g1 [varE 2]]], _)] t0 t2 hva t3 hka rfl (by simp) (one _ _ pl)
  have d1 : Lib.decDigits 1 = [49] := by decide +kernel
  have d2 : Lib.decDigits 2 = [50] := by decide +kernel
  have d35 : Lib.decDigits 35 = [51, 53] := by decide +kernel
  have d36 : Lib.decDigits 36 = [51, 54] := by decide +kernel
  have d37 : Lib.decDigits 37 = [51, 55] := by decide +kernel
  refine Eq.mp (congrArg (PenOf base b _) ?_) pm
  rw [d1, d2, d35, d36, d37]
  rfl
theorem boxT_depth (u S X : ET) (v y : Int) (h : LamT v u S X) (g1 g2 g3 g4 : Nat) : (boxT u v y g1 g2 g3 g4).depth ≤ 10 := by
  simp [ET.depth_eq, boxT_kids, varE_kids, primE_kids, letE_kids, depthsE]
end
end Go.Proofs.YthdhdmmlmbkalaaGreatDoor
