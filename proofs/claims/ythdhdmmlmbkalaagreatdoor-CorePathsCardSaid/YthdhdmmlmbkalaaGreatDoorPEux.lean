/-
  A short expression, whose numbers are not too long, is one that is copied and looked at whole.
-/
import Derived.Test.YthdhdmmlmbkalaaGreatDoorJp8
import Derived.Test.YthdhdmmlmbkalaaGreatDoorJp2
set_option linter.unusedVariables false
set_option linter.unusedSimpArgs false
set_option linter.unusedSectionVars false
set_option linter.unnecessarySimpa false
namespace Go.Proofs.YthdhdmmlmbkalaaGreatDoor
open Go.RowKit

mutual
/-- The numbers of its data are not too long. -/
def TamesE : ET → Prop
  | .mk _ d _ _ _ _ _ _ _ _ kids => Tame d ∧ TamesER kids
def TamesER : List ET → Prop
  | [] => True
  | e :: l => TamesE e ∧ TamesER l
end
mutual
theorem tameE_of_short : ∀ t : ET, shortE t = true → TamesE t → TameE t
  | .mk k d v va vc vs rs p ka kc kids, h, hT => by
    rw [shortE_eq] at h
    simp only [Bool.and_eq_true] at h
    have h30 : vs.length ≤ 30 := of_decide_eq_true h.1.1
    have hbu : 0 ≤ budT d 100 30 := of_decide_eq_true h.1.2
    simp only [TamesE] at hT
    have hf := budT_few d 100 30 (by decide) hbu
    have hr := tameER_of_short kids h.2 hT.2
    simp only [TameE]
    refine ⟨⟨hT.1, ?_, ?_⟩, by omega, hr⟩ <;> omega
theorem tameER_of_short : ∀ l : List ET, shortER l = true → TamesER l → TameER l
  | [], _, _ => by simp [TameER]
  | e :: l, h, hT => by
    rw [shortER_cons, Bool.and_eq_true] at h
    simp only [TamesER] at hT
    simp only [TameER]
    exact ⟨tameE_of_short e h.1 hT.1, tameER_of_short l h.2 hT.2⟩
end
end Go.Proofs.YthdhdmmlmbkalaaGreatDoor
