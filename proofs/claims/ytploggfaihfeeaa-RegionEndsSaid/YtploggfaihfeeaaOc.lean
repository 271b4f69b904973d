/- Contract of package word's First: a range over a function whose body returns. -/
import Derived.Test.YtploggfaihfeeaaOb
import Derived.RangeFuncNested
namespace Go.Proofs.Ytploggfaihfeeaa.Word
open Go.RowKit Go.Shelf
set_option linter.unusedVariables false
attribute [local go_sem] Oper.semAt_some

def firstV (x : Nat) : Nat := if x = 0 then 0 else Lib.ctz 32 x
def firstB (x : Nat) : Bool := decide (x ≠ 0)
theorem firstV_head {x b : Nat} {r : List Nat} (hx : x < 4294967296) (h : onesL x = b :: r) : firstV x = b ∧ firstB x = true := by
  by_cases h0 : x = 0
  · subst h0; rw [onesL_zero] at h; cases h
  · rw [onesL_step h0 (by omega)] at h
    simp only [List.cons.injEq] at h
    exact ⟨by unfold firstV; rw [if_neg h0]; exact h.1, by simp [firstB, h0]⟩
theorem firstV_nil {x : Nat} (hx : x < 4294967296) (h : onesL x = []) : firstV x = 0 ∧ firstB x = false := by
  by_cases h0 : x = 0
  · subst h0; exact ⟨rfl, rfl⟩
  · exact absurd h (onesL_ne h0 (by omega))

end Go.Proofs.Ytploggfaihfeeaa.Word
