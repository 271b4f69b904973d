/- What lies in both, which lies in which, which stands ahead: the package's answers are the document's. -/
import Derived.Test.YtploggfaihfeeaaRtc
import Derived.Test.YtploggfaihfeeaaRte
namespace Go.Proofs.Ytploggfaihfeeaa.Reach
open Go.RowKit
set_option linter.unusedVariables false

theorem rMeet_val (f t g u x y : Int) (b : Bool) (w : World) (hx : meetF f t g u = x) (hy : meetT f t g u = y) (hb : meetB f t g u = b) :
    Calls Try.prog 34 #[.agg #[.int .u32 f, .int .u32 t], .agg #[.int .u32 g, .int .u32 u]] w fun e w' => e = .returned (.tuple #[.agg #[.int .u32 x, .int .u32 y], .bool b]) ∧ Below w.heap.size w w' := by
  subst hx hy hb; exact rMeet_any f t g u w
theorem In_val (f t g u : Int) (b : Bool) (w : World) (hb : inB f t g u = b) :
    Calls Try.prog 16 #[.agg #[.int .u32 f, .int .u32 t], .agg #[.int .u32 g, .int .u32 u]] w fun e w' => e = .returned (.bool b) ∧ Below w.heap.size w w' := by
  subst hb; exact In_any f t g u w
theorem rIn_val (f t g u : Int) (b : Bool) (w : World) (hb : inB f t g u = b) :
    Calls Try.prog 33 #[.agg #[.int .u32 f, .int .u32 t], .agg #[.int .u32 g, .int .u32 u]] w fun e w' => e = .returned (.bool b) ∧ Below w.heap.size w w' := by
  subst hb; exact rIn_any f t g u w
end Go.Proofs.Ytploggfaihfeeaa.Reach
