/- What is added is taken away again; the bits of a word are it: the walk of WordBack. -/
import Derived.Test.YtmdepkehpohgeaaGreatBa
import Derived.Deep.QuietTactic
import Derived.BigQuiet
namespace Go.Proofs.YtmdepkehpohgeaaGreat.Word
open Go.RowKit Go.ChangeShapes Go.WideShapes Go.ChangeAt
set_option linter.unusedVariables false

/-- What Ones answers, as its cells read. -/
def OnesRead (x : Nat) (w : World) (e : Ending) (W' : World) : Prop := ∃ a cap, e = .returned (.slice a (onesL x).length cap) ∧ Below w.heap.size w W' ∧
  (onesL x = [] ∨ ∃ g, a = some ⟨g, 0, none⟩ ∧ w.heap.size ≤ g ∧ ∀ k, k < (onesL x).length → W'.cell? ⟨g, 0 + k, none⟩ = some (.int .i64 ((onesL x).getD k 0 : Nat)))
end Go.Proofs.YtmdepkehpohgeaaGreat.Word
