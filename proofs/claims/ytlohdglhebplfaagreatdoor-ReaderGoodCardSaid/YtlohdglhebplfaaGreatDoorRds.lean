/-
  The reader: what it answers, as a function of what is left of the text.
-/
import Derived.Test.YtlohdglhebplfaaGreatDoorRpz
import Derived.Test.YtlohdglhebplfaaGreatDoorDt
import Derived.Test.YtlohdglhebplfaaGreatDoorPlain
namespace Go.Proofs.YtlohdglhebplfaaGreatDoor
open Go.RowKit

abbrev By := List UInt8
def isBl (c : UInt8) : Bool := c == 32 || c == 9 || c == 10 || c == 13 || c == 12
def isMk (c : UInt8) : Bool := c == 40 || c == 41 || c == 91 || c == 93 || c == 34 || c == 59 || c == 39 || c == 96 || c == 44 || c == 124
def aheadL (l : By) : By := l.takeWhile fun c => !(isBl c || isMk c)
def lineL (l : By) : By := l.dropWhile fun c => c != 10
def blkL : Nat → By → Option By
  | _, [] => none
  | _, [_] => none
  | o, c :: d :: l => if c = 35 ∧ d = 124 then blkL (o + 1) l else if c = 124 ∧ d = 35 then (if o ≤ 1 then some l else blkL (o - 1) l) else blkL o (d :: l)
def blanksL (l : By) : Nat := (l.takeWhile fun c => c == 32 || c == 9).length
def hexN (c : Nat) : Nat := if 48 ≤ c ∧ c ≤ 57 then c - 48 else if 97 ≤ c ∧ c ≤ 102 then c - 87 else if 65 ≤ c ∧ c ≤ 70 then c - 55 else 16
def hexL : By → Option (By × Nat)
  | [] => none
  | a :: l => if hexN a.toNat = 16 then none else match l with
    | [] => none
    | b :: m => if b = 59 then some ([UInt8.ofNat (hexN a.toNat)], 4) else if hexN b.toNat = 16 then none else match m with
      | [] => none
      | c :: _ => if c = 59 then some ([UInt8.ofNat (hexN a.toNat * 16 + hexN b.toNat)], 5) else none
def brokenL (l : By) : Nat := if l[1 + blanksL (l.drop 1)]? = some 10 then 1 + blanksL (l.drop 1) + 1 + blanksL (l.drop (1 + blanksL (l.drop 1) + 1)) else 0
/-- What a backslash at the begin stands for, and how much it takes. -/
def escL (mark : UInt8) (l : By) : Option (By × Nat) := match l[1]? with
  | none => none
  | some c => if c = 110 then some ([10], 2) else if c = 116 then some ([9], 2) else if c = 114 then some ([13], 2) else if c = mark ∨ c = 92 then some ([c], 2) else if c = 120 then hexL (l.drop 2) else if brokenL l = 0 then none else some ([], brokenL l)
/-- What stands between marks: none, and where it went wrong. -/
def mkL : Nat → UInt8 → By → By → Option By × By
  | 0, _, _, l => (none, l)
  | _ + 1, _, _, [] => (none, [])
  | n + 1, mark, acc, c :: l => if c = mark then (some acc, l) else if c = 92 then (match escL mark (c :: l) with
    | none => (none, c :: l)
    | some (s, k) => mkL n mark (acc ++ s) ((c :: l).drop k)) else mkL n mark (acc ++ [c]) l

def bytesOf (l : By) : ByteArray := ⟨l.toArray⟩
def symD (l : By) : DT := .mk 3 false [] false (bytesOf l) [] []
def strD (l : By) : DT := .mk 4 false [] false (bytesOf l) [] []
def truthD (b : Bool) : DT := .mk 2 false [] b ⟨#[]⟩ [] []
def numD (z : Int) : DT := .mk 1 (decide (z < 0)) (limbs z.natAbs) false ⟨#[]⟩ [] []
def listD (l tail : List DT) : DT := .mk 5 false [] false ⟨#[]⟩ l tail
def zeroD : DT := .mk 0 false [] false ⟨#[]⟩ [] []

inductive Res where
  | ok (d : DT) (l : By) : Res
  | bad (e : Int) (l : By) : Res
inductive Md where
  | skip | datum
  | list (e : UInt8) (acc : List DT)
def errRead : Int := 4
def errDeep : Int := 13
def atomL (l : By) : Res :=
  let s := aheadL l
  if s = [35, 116] ∨ s = [35, 116, 114, 117, 101] then .ok (truthD true) (l.drop s.length)
  else if s = [35, 102] ∨ s = [35, 102, 97, 108, 115, 101] then .ok (truthD false) (l.drop s.length)
  else if (zpar s).1 = true ∧ (limbs (zpar s).2.natAbs).length ≤ 64 then .ok (numD (zpar s).2) (l.drop s.length)
  else if plainB (bytesOf s) = true then .ok (symD s) (l.drop s.length)
  else .bad errRead l
def strL (l : By) : Res := match mkL (l.length + 1) 34 [] (l.drop 1) with
  | (none, m) => .bad errRead m
  | (some s, m) => if s.length ≤ 1024 then .ok (strD s) m else .bad errRead l
def barL (l : By) : Res := match mkL (l.length + 1) 124 [] (l.drop 1) with
  | (none, m) => .bad errRead m
  | (some s, m) => if s ≠ [] ∧ s.length ≤ 64 then .ok (symD s) m else .bad errRead l
/-- A quote's name, and what stands behind its mark. -/
def quoteL (c : UInt8) (l : By) : By × By :=
  if c = 39 then ([113, 117, 111, 116, 101], l)
  else if c = 96 then ([113, 117, 97, 115, 105, 113, 117, 111, 116, 101], l)
  else if l.head? = some 64 then ([117, 110, 113, 117, 111, 116, 101, 45, 115, 112, 108, 105, 99, 105, 110, 103], l.drop 1)
  else ([117, 110, 113, 117, 111, 116, 101], l)
/-- What fuel n is enough for. -/
def rd : Nat → Md → By → Nat → Res
  | 0, _, l, _ => .bad 0 l
  | n + 1, .skip, l, k => match l with
    | [] => .ok zeroD []
    | c :: m =>
      if isBl c = true then rd n .skip m k
      else if c = 59 then rd n .skip (lineL l) k
      else if c = 35 ∧ m.head? = some 124 then (match blkL 1 (m.drop 1) with
        | some r => rd n .skip r k
        | none => .bad errRead l)
      else if c = 35 ∧ m.head? = some 59 then (match rd n .datum (m.drop 1) (k + 1) with
        | .ok _ r => rd n .skip r k
        | .bad e r => .bad e r)
      else .ok zeroD l
  | n + 1, .datum, l, k => match rd n .skip l k with
    | .bad e r => .bad e r
    | .ok _ [] => .bad errRead []
    | .ok _ (c :: m) =>
      if c = 40 ∨ c = 91 then (if 200 ≤ k then .bad errDeep (c :: m) else rd n (.list (if c = 40 then 41 else 93) []) m (k + 1))
      else if c = 41 ∨ c = 93 then .bad errRead (c :: m)
      else if c = 39 ∨ c = 96 ∨ c = 44 then (if 200 ≤ k then .bad errDeep (c :: m) else match rd n .datum (quoteL c m).2 (k + 1) with
        | .bad e r => .bad e r
        | .ok d r => .ok (listD [symD (quoteL c m).1, d] []) r)
      else if c = 34 then strL (c :: m)
      else if c = 124 then barL (c :: m)
      else atomL (c :: m)
  | n + 1, .list e acc, l, k => match rd n .skip l k with
    | .bad x r => .bad x r
    | .ok _ m =>
      if m.head? = some e then .ok (listD acc []) (m.drop 1)
      else if acc ≠ [] ∧ aheadL m = [46] then (match rd n .datum (m.drop 1) k with
        | .bad x r => .bad x r
        | .ok d r => match rd n .skip r k with
          | .bad x q => .bad x q
          | .ok _ q => if q.head? = some e then .ok (listD acc [d]) (q.drop 1) else .bad errRead q)
      else match rd n .datum m k with
        | .bad x r => .bad x r
        | .ok d r => rd n (.list e (acc ++ [d])) r k
/-- It comes to that. -/
def Rdd (m : Md) (l : By) (k : Nat) (r : Res) : Prop := ∃ n, ∀ i, n ≤ i → rd i m l k = r
theorem Rdd.one {m : Md} {l : By} {k : Nat} {r q : Res} (h : Rdd m l k r) (g : Rdd m l k q) : r = q := by
  obtain ⟨n, h⟩ := h
  obtain ⟨i, g⟩ := g
  exact (h (n + i) (by omega)).symm.trans (g (n + i) (by omega))
/-- One step more of fuel. -/
theorem Rdd.of {m : Md} {l : By} {k : Nat} {r : Res} (n : Nat) (h : ∀ i, n ≤ i → rd (i + 1) m l k = r) : Rdd m l k r :=
  ⟨n + 1, fun i hi => by obtain ⟨j, rfl⟩ : ∃ j, i = j + 1 := ⟨i - 1, by omega⟩; exact h j (by omega)⟩
theorem rd_skip_nil (n k : Nat) : rd (n + 1) .skip [] k = .ok zeroD [] := by rw [rd.eq_def]
theorem rd_skip_cons (n k : Nat) (c : UInt8) (m : By) : rd (n + 1) .skip (c :: m) k = (if isBl c = true then rd n .skip m k
      else if c = 59 then rd n .skip (lineL (c :: m)) k
      else if c = 35 ∧ m.head? = some 124 then (match blkL 1 (m.drop 1) with
        | some r => rd n .skip r k
        | none => .bad errRead (c :: m))
      else if c = 35 ∧ m.head? = some 59 then (match rd n .datum (m.drop 1) (k + 1) with
        | .ok _ r => rd n .skip r k
        | .bad e r => .bad e r)
      else .ok zeroD (c :: m)) := by rw [rd.eq_def]
theorem rd_datum (n k : Nat) (l : By) : rd (n + 1) .datum l k = (match rd n .skip l k with
    | .bad e r => .bad e r
    | .ok _ [] => .bad errRead []
    | .ok _ (c :: m) =>
      if c = 40 ∨ c = 91 then (if 200 ≤ k then .bad errDeep (c :: m) else rd n (.list (if c = 40 then 41 else 93) []) m (k + 1))
      else if c = 41 ∨ c = 93 then .bad errRead (c :: m)
      else if c = 39 ∨ c = 96 ∨ c = 44 then (if 200 ≤ k then .bad errDeep (c :: m) else match rd n .datum (quoteL c m).2 (k + 1) with
        | .bad e r => .bad e r
        | .ok d r => .ok (listD [symD (quoteL c m).1, d] []) r)
      else if c = 34 then strL (c :: m)
      else if c = 124 then barL (c :: m)
      else atomL (c :: m)) := by rw [rd.eq_def]
theorem rd_list (n k : Nat) (l : By) (e : UInt8) (acc : List DT) : rd (n + 1) (.list e acc) l k = (match rd n .skip l k with
    | .bad x r => .bad x r
    | .ok _ m =>
      if m.head? = some e then .ok (listD acc []) (m.drop 1)
      else if acc ≠ [] ∧ aheadL m = [46] then (match rd n .datum (m.drop 1) k with
        | .bad x r => .bad x r
        | .ok d r => match rd n .skip r k with
          | .bad x q => .bad x q
          | .ok _ q => if q.head? = some e then .ok (listD acc [d]) (q.drop 1) else .bad errRead q)
      else match rd n .datum m k with
        | .bad x r => .bad x r
        | .ok d r => rd n (.list e (acc ++ [d])) r k) := by rw [rd.eq_def]

section
variable {k : Nat} {c e : UInt8} {l m r q : By} {x : Int} {d z : DT} {acc : List DT} {R : Res}
theorem Rdd.nil : Rdd .skip [] k (.ok zeroD []) := .of 0 fun i _ => rd_skip_nil i k
theorem Rdd.bl (h : isBl c = true) (H : Rdd .skip m k R) : Rdd .skip (c :: m) k R := by
  obtain ⟨n, H⟩ := H
  exact .of n fun i hi => by rw [rd_skip_cons, if_pos h, H i hi]
theorem Rdd.line (H : Rdd .skip (lineL m) k R) : Rdd .skip (59 :: m) k R := by
  obtain ⟨n, H⟩ := H
  have e : lineL (59 :: m) = lineL m := by simp [lineL]
  exact .of n fun i hi => by rw [rd_skip_cons, if_neg (by decide), if_pos rfl, e, H i hi]
theorem Rdd.block (h : blkL 1 m = some r) (H : Rdd .skip r k R) : Rdd .skip (35 :: 124 :: m) k R := by
  obtain ⟨n, H⟩ := H
  exact .of n fun i hi => by rw [rd_skip_cons, if_neg (by decide), if_neg (by decide), if_pos ⟨rfl, rfl⟩, List.drop_one, List.tail_cons, h]; exact H i hi
theorem Rdd.noblock (h : blkL 1 m = none) : Rdd .skip (35 :: 124 :: m) k (.bad errRead (35 :: 124 :: m)) :=
  .of 0 fun i _ => by rw [rd_skip_cons, if_neg (by decide), if_neg (by decide), if_pos ⟨rfl, rfl⟩, List.drop_one, List.tail_cons, h]
theorem Rdd.unread (h : Rdd .datum m (k + 1) (.ok d r)) (H : Rdd .skip r k R) : Rdd .skip (35 :: 59 :: m) k R := by
  obtain ⟨n, h⟩ := h
  obtain ⟨n', H⟩ := H
  exact .of (n + n') fun i hi => by rw [rd_skip_cons, if_neg (by decide), if_neg (by decide), if_neg (by simp), if_pos ⟨rfl, rfl⟩, List.drop_one, List.tail_cons, h i (by omega)]; exact H i (by omega)
theorem Rdd.nounread (h : Rdd .datum m (k + 1) (.bad x r)) : Rdd .skip (35 :: 59 :: m) k (.bad x r) := by
  obtain ⟨n, h⟩ := h
  exact .of n fun i hi => by rw [rd_skip_cons, if_neg (by decide), if_neg (by decide), if_neg (by simp), if_pos ⟨rfl, rfl⟩, List.drop_one, List.tail_cons, h i (by omega)]
/-- What is neither blank nor remark stands there. -/
def stopL : By → Bool
  | [] => true
  | c :: m => !isBl c && !(c == 59) && !(c == 35 && (m.head? == some 124 || m.head? == some 59))
theorem Rdd.stop (h : stopL l = true) : Rdd .skip l k (.ok zeroD l) := by
  cases l with
  | nil => exact .nil
  | cons c m =>
    simp only [stopL, Bool.and_eq_true, Bool.not_eq_true', Bool.and_eq_false_iff, Bool.or_eq_false_iff, beq_eq_false_iff_ne, ne_eq] at h
    obtain ⟨⟨h1, h2⟩, h3⟩ := h
    exact .of 0 fun i _ => by
      rw [rd_skip_cons, if_neg (by simp [h1]), if_neg h2, if_neg (by rintro ⟨a, b⟩; rcases h3 with h3 | h3; exact h3 a; exact h3.1 b), if_neg (by rintro ⟨a, b⟩; rcases h3 with h3 | h3; exact h3 a; exact h3.2 b)]
theorem Rdd.dskip (h : Rdd .skip l k (.bad x r)) : Rdd .datum l k (.bad x r) := by
  obtain ⟨n, h⟩ := h
  exact .of n fun i hi => by rw [rd_datum, h i hi]
theorem Rdd.dend (h : Rdd .skip l k (.ok z [])) : Rdd .datum l k (.bad errRead []) := by
  obtain ⟨n, h⟩ := h
  exact .of n fun i hi => by rw [rd_datum, h i hi]
theorem Rdd.dlist (h : Rdd .skip l k (.ok z (c :: m))) (hc : c = 40 ∨ c = 91) (hk : k < 200) (H : Rdd (.list (if c = 40 then 41 else 93) []) m (k + 1) R) : Rdd .datum l k R := by
  obtain ⟨n, h⟩ := h
  obtain ⟨n', H⟩ := H
  exact .of (n + n') fun i hi => by rw [rd_datum, h i (by omega)]; dsimp only; rw [if_pos hc, if_neg (by omega), H i (by omega)]
theorem Rdd.ddeep (h : Rdd .skip l k (.ok z (c :: m))) (hc : (c = 40 ∨ c = 91) ∨ c = 39 ∨ c = 96 ∨ c = 44) (hk : 200 ≤ k) : Rdd .datum l k (.bad errDeep (c :: m)) := by
  obtain ⟨n, h⟩ := h
  refine .of n fun i hi => ?_
  rw [rd_datum, h i (by omega)]
  dsimp only
  by_cases h1 : c = 40 ∨ c = 91
  · rw [if_pos h1, if_pos hk]
  · have h2 := hc.resolve_left h1
    rw [if_neg h1, if_neg (by rcases h2 with rfl | rfl | rfl <;> decide), if_pos h2, if_pos hk]
theorem Rdd.dclose (h : Rdd .skip l k (.ok z (c :: m))) (hc : c = 41 ∨ c = 93) : Rdd .datum l k (.bad errRead (c :: m)) := by
  obtain ⟨n, h⟩ := h
  exact .of n fun i hi => by rw [rd_datum, h i (by omega)]; dsimp only; rw [if_neg (by rcases hc with rfl | rfl <;> decide), if_pos hc]
theorem Rdd.dquote (h : Rdd .skip l k (.ok z (c :: m))) (hc : c = 39 ∨ c = 96 ∨ c = 44) (hk : k < 200) (H : Rdd .datum (quoteL c m).2 (k + 1) (.ok d r)) : Rdd .datum l k (.ok (listD [symD (quoteL c m).1, d] []) r) := by
  obtain ⟨n, h⟩ := h
  obtain ⟨n', H⟩ := H
  exact .of (n + n') fun i hi => by rw [rd_datum, h i (by omega)]; dsimp only; rw [if_neg (by rcases hc with rfl | rfl | rfl <;> decide), if_neg (by rcases hc with rfl | rfl | rfl <;> decide), if_pos hc, if_neg (by omega), H i (by omega)]
theorem Rdd.dnoquote (h : Rdd .skip l k (.ok z (c :: m))) (hc : c = 39 ∨ c = 96 ∨ c = 44) (hk : k < 200) (H : Rdd .datum (quoteL c m).2 (k + 1) (.bad x r)) : Rdd .datum l k (.bad x r) := by
  obtain ⟨n, h⟩ := h
  obtain ⟨n', H⟩ := H
  exact .of (n + n') fun i hi => by rw [rd_datum, h i (by omega)]; dsimp only; rw [if_neg (by rcases hc with rfl | rfl | rfl <;> decide), if_neg (by rcases hc with rfl | rfl | rfl <;> decide), if_pos hc, if_neg (by omega), H i (by omega)]
theorem Rdd.dstr (h : Rdd .skip l k (.ok z (34 :: m))) : Rdd .datum l k (strL (34 :: m)) := by
  obtain ⟨n, h⟩ := h
  exact .of n fun i hi => by rw [rd_datum, h i (by omega)]; dsimp only; rw [if_neg (by decide), if_neg (by decide), if_neg (by decide), if_pos rfl]
theorem Rdd.dbar (h : Rdd .skip l k (.ok z (124 :: m))) : Rdd .datum l k (barL (124 :: m)) := by
  obtain ⟨n, h⟩ := h
  exact .of n fun i hi => by rw [rd_datum, h i (by omega)]; dsimp only; rw [if_neg (by decide), if_neg (by decide), if_neg (by decide), if_neg (by decide), if_pos rfl]
def opensL (c : UInt8) : Bool := c == 40 || c == 91 || c == 41 || c == 93 || c == 39 || c == 96 || c == 44 || c == 34 || c == 124
theorem Rdd.datom (h : Rdd .skip l k (.ok z (c :: m))) (hc : opensL c = false) : Rdd .datum l k (atomL (c :: m)) := by
  obtain ⟨n, h⟩ := h
  simp only [opensL, Bool.or_eq_false_iff, beq_eq_false_iff_ne, ne_eq] at hc
  obtain ⟨⟨⟨⟨⟨⟨⟨⟨a1, a2⟩, a3⟩, a4⟩, a5⟩, a6⟩, a7⟩, a8⟩, a9⟩ := hc
  exact .of n fun i hi => by
    rw [rd_datum, h i (by omega)]
    dsimp only
    rw [if_neg (by rintro (a | a); exact a1 a; exact a2 a), if_neg (by rintro (a | a); exact a3 a; exact a4 a), if_neg (by rintro (a | a | a); exact a5 a; exact a6 a; exact a7 a), if_neg a8, if_neg a9]
theorem Rdd.lskip (h : Rdd .skip l k (.bad x r)) : Rdd (.list e acc) l k (.bad x r) := by
  obtain ⟨n, h⟩ := h
  exact .of n fun i hi => by rw [rd_list, h i hi]
theorem Rdd.lclose (h : Rdd .skip l k (.ok z m)) (hm : m.head? = some e) : Rdd (.list e acc) l k (.ok (listD acc []) (m.drop 1)) := by
  obtain ⟨n, h⟩ := h
  exact .of n fun i hi => by rw [rd_list, h i hi]; dsimp only; rw [if_pos hm]
theorem Rdd.ldot1 (h : Rdd .skip l k (.ok z m)) (hm : ¬ m.head? = some e) (ha : acc ≠ [] ∧ aheadL m = [46]) (H : Rdd .datum (m.drop 1) k (.bad x r)) : Rdd (.list e acc) l k (.bad x r) := by
  obtain ⟨n, h⟩ := h
  obtain ⟨n', H⟩ := H
  exact .of (n + n') fun i hi => by rw [rd_list, h i (by omega)]; dsimp only; rw [if_neg hm, if_pos ha, H i (by omega)]
theorem Rdd.ldot2 (h : Rdd .skip l k (.ok z m)) (hm : ¬ m.head? = some e) (ha : acc ≠ [] ∧ aheadL m = [46]) (H : Rdd .datum (m.drop 1) k (.ok d r)) (G : Rdd .skip r k (.bad x q)) : Rdd (.list e acc) l k (.bad x q) := by
  obtain ⟨n, h⟩ := h
  obtain ⟨n', H⟩ := H
  obtain ⟨n2, G⟩ := G
  exact .of (n + n' + n2) fun i hi => by rw [rd_list, h i (by omega)]; dsimp only; rw [if_neg hm, if_pos ha, H i (by omega)]; dsimp only; rw [G i (by omega)]
theorem Rdd.ldot3 (h : Rdd .skip l k (.ok z m)) (hm : ¬ m.head? = some e) (ha : acc ≠ [] ∧ aheadL m = [46]) (H : Rdd .datum (m.drop 1) k (.ok d r)) (G : Rdd .skip r k (.ok z q)) (hq : ¬ q.head? = some e) : Rdd (.list e acc) l k (.bad errRead q) := by
  obtain ⟨n, h⟩ := h
  obtain ⟨n', H⟩ := H
  obtain ⟨n2, G⟩ := G
  exact .of (n + n' + n2) fun i hi => by rw [rd_list, h i (by omega)]; dsimp only; rw [if_neg hm, if_pos ha, H i (by omega)]; dsimp only; rw [G i (by omega)]; dsimp only; rw [if_neg hq]
theorem Rdd.ldot (h : Rdd .skip l k (.ok z m)) (hm : ¬ m.head? = some e) (ha : acc ≠ [] ∧ aheadL m = [46]) (H : Rdd .datum (m.drop 1) k (.ok d r)) (G : Rdd .skip r k (.ok z q)) (hq : q.head? = some e) : Rdd (.list e acc) l k (.ok (listD acc [d]) (q.drop 1)) := by
  obtain ⟨n, h⟩ := h
  obtain ⟨n', H⟩ := H
  obtain ⟨n2, G⟩ := G
  exact .of (n + n' + n2) fun i hi => by rw [rd_list, h i (by omega)]; dsimp only; rw [if_neg hm, if_pos ha, H i (by omega)]; dsimp only; rw [G i (by omega)]; dsimp only; rw [if_pos hq]
theorem Rdd.litem0 (h : Rdd .skip l k (.ok z m)) (hm : ¬ m.head? = some e) (ha : ¬ (acc ≠ [] ∧ aheadL m = [46])) (H : Rdd .datum m k (.bad x r)) : Rdd (.list e acc) l k (.bad x r) := by
  obtain ⟨n, h⟩ := h
  obtain ⟨n', H⟩ := H
  exact .of (n + n') fun i hi => by rw [rd_list, h i (by omega)]; dsimp only; rw [if_neg hm, if_neg ha, H i (by omega)]
theorem Rdd.litem (h : Rdd .skip l k (.ok z m)) (hm : ¬ m.head? = some e) (ha : ¬ (acc ≠ [] ∧ aheadL m = [46])) (H : Rdd .datum m k (.ok d r)) (G : Rdd (.list e (acc ++ [d])) r k R) : Rdd (.list e acc) l k R := by
  obtain ⟨n, h⟩ := h
  obtain ⟨n', H⟩ := H
  obtain ⟨n2, G⟩ := G
  exact .of (n + n' + n2) fun i hi => by rw [rd_list, h i (by omega)]; dsimp only; rw [if_neg hm, if_neg ha, H i (by omega)]; dsimp only; rw [G i (by omega)]
/-- What is skipped ahead of a datum changes nothing of it. -/
theorem Rdd.ahead (h : Rdd .skip l k R) (g : Rdd .skip m k R) {Q : Res} (H : Rdd .datum m k Q) : Rdd .datum l k Q := by
  obtain ⟨n, h⟩ := h
  obtain ⟨n', g⟩ := g
  obtain ⟨n2, H⟩ := H
  refine .of (n + n' + n2) fun i hi => ?_
  rw [← H (i + 1) (by omega), rd_datum, rd_datum, h i (by omega), g i (by omega)]
end
end Go.Proofs.YtlohdglhebplfaaGreatDoor
