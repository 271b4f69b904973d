/- Contracts of package word's First and Ones: a range over a function. -/
import Derived.RangeFuncBox
import Derived.RangeFuncLeaves
import Derived.Shelf.Abstract
import Derived.WalkKit
import Derived.OwnWalkIn
import Derived.TacticsInMore
import Derived.LoopNIn
import Derived.LoopIn
import Derived.Maps.AppendAt
import Derived.Test.YtploggfaihfeeaaProg
import Derived.Test.YtploggfaihfeeaaOa
import Derived.Lib.Hide
import Derived.Outline
namespace Go.Proofs.Ytploggfaihfeeaa.Word
open Go.RowKit Go.Shelf
set_option linter.unusedVariables false
attribute [local go_sem] Oper.semAt_some

theorem info_int : (Try.prog.info? 3).map (fun i => (i.zero, i.size, i.bytes)) = some (some (.int .i64 0), 1, 8) := by kernel_rfl
/-- What Ones answers lies in new memory. -/
def OnesPost (x : Nat) (w : World) (e : Ending) (W' : World) : Prop := ∃ v, e = .returned v ∧ W'.ownsRow w.heap.size 3 1 v (onesL x).length ((onesL x).map (fun b => Value.int .i64 (b : Nat))) ∧ Below w.heap.size w W'

end Go.Proofs.Ytploggfaihfeeaa.Word
