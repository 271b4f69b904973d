/- One reach: the package's answers are the document's: the walk of ReachOne. -/
import Derived.Test.YtploggfaihfeeaaRtc
import Derived.Test.YtploggfaihfeeaaRte
import Derived.OpenShut
namespace Go.Proofs.Ytploggfaihfeeaa.Reach
open Go.RowKit
set_option linter.unusedVariables false

theorem rOf_val (a n x y : Int) (b : Bool) (w : World) (ha : 0 ≤ a) (ha' : a < 4294967296) (hn : -9223372036854775808 ≤ n) (hn' : n ≤ 9223372036854775807) (hx : ofF a n = x) (hy : ofT a n = y) (hb : ofB a n = b) :
    Calls Try.prog 41 #[.int .u32 a, .int .i64 n] w fun e w' => e = .returned (.tuple #[.agg #[.int .u32 x, .int .u32 y], .bool b]) ∧ Below w.heap.size w w' := by
  subst hx hy hb; exact rOf_any a n w ha ha' hn hn'
theorem Right_val (f t : Int) (b : Bool) (w : World) (h : rightB f t = b) :
    Calls Try.prog 51 #[.agg #[.int .u32 f, .int .u32 t]] w fun e w' => e = .returned (.bool b) ∧ Below w.heap.size w w' := by
  subst h; exact Right_any f t w
theorem rright_val (f t : Int) (b : Bool) (w : World) (h : rightB f t = b) :
    Calls Try.prog 31 #[.agg #[.int .u32 f, .int .u32 t]] w fun e w' => e = .returned (.bool b) ∧ Below w.heap.size w w' := by
  subst h; exact rright_any f t w
theorem Has_val (f t a : Int) (b : Bool) (w : World) (h : hasB f t a = b) :
    Calls Try.prog 13 #[.agg #[.int .u32 f, .int .u32 t], .int .u32 a] w fun e w' => e = .returned (.bool b) ∧ Below w.heap.size w w' := by
  subst h; exact Has_any f t a w
theorem rhas_val (f t a : Int) (b : Bool) (w : World) (h : hasB f t a = b) :
    Calls Try.prog 42 #[.agg #[.int .u32 f, .int .u32 t], .int .u32 a] w fun e w' => e = .returned (.bool b) ∧ Below w.heap.size w w' := by
  subst h; exact rhas_any f t a w

end Go.Proofs.Ytploggfaihfeeaa.Reach
