/- Contracts of the document's answers for sums and bits; SameInts of like rows; the walk of WordSums. -/
import Derived.Test.YtmdepkehpohgeaaGreatOd
import Derived.Test.YtmdepkehpohgeaaGreatBa
namespace Go.Proofs.YtmdepkehpohgeaaGreat.Word
open Go.RowKit Go.Maps Go.ChangeShapes Go.WideShapes Go.ChangeAt
set_option linter.unusedVariables false

def onesK (x k : Nat) : List Nat := (List.range k).filter fun i => x.testBit i
theorem onesK_succ (x k : Nat) : onesK x (k + 1) = if x / 2 ^ k % 2 = 1 then onesK x k ++ [k] else onesK x k := by
  unfold onesK
  rw [List.range_succ, List.filter_append]
  by_cases h : x / 2 ^ k % 2 = 1
  · have : x.testBit k = true := by rw [Nat.testBit_eq_decide_div_mod_eq]; simpa using h
    simp [this, h]
  · have : x.testBit k = false := by rw [Nat.testBit_eq_decide_div_mod_eq]; simpa using h
    simp [this, h]
theorem onesK_len (x k : Nat) : (onesK x k).length ≤ k := by
  have := List.length_filter_le (fun i => x.testBit i) (List.range k)
  simpa [onesK] using this
abbrev iv (l : List Nat) : List Value := l.map fun b => Value.int .i64 (b : Nat)

end Go.Proofs.YtmdepkehpohgeaaGreat.Word
