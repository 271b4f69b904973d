/- The chapter's examples: awake. -/
import Derived.Test.YtploggfaihfeeaaRtd
import Derived.Test.YtploggfaihfeeaaExt
namespace Go.Proofs.Ytploggfaihfeeaa.Reach
open Go.RowKit
set_option linter.unusedVariables false

theorem alloc_keep {w : World} {a : Addr} {v : Value} (h : w.cell? a = some v) (o : Obj) : (w.alloc o).cell? a = some v := cell_keep ((Below.refl _ _).alloc (Nat.le_refl _) o) h
/-- A struct of two in a block. -/
def Two (w : World) (b : Nat) (x y : Int) : Prop := w.cell? ⟨b, 0, none⟩ = some (.int .u32 x) ∧ w.cell? ⟨b, 1, none⟩ = some (.int .u32 y)
theorem Two.keep {w1 w' : World} {b : Nat} {x y : Int} (h : Two w1 b x y) (hb : Below w1.heap.size w1 w') : Two w' b x y := ⟨cell_keep hb h.1, cell_keep hb h.2⟩
theorem Two.alloc {w : World} {b : Nat} {x y : Int} (h : Two w b x y) (o : Obj) : Two (w.alloc o) b x y := ⟨alloc_keep h.1 o, alloc_keep h.2 o⟩
theorem two_new (w : World) (x y : Int) (t : TypeId) : Two (w.alloc (.cells #[.int .u32 x, .int .u32 y] t)) w.heap.size x y :=
  ⟨World.cell?_alloc_at _ _ _ 0 rfl, World.cell?_alloc_at _ _ _ 1 rfl⟩
theorem Of_val (a n x y : Int) (b : Bool) (w : World) (ha : 0 ≤ a) (ha' : a < 4294967296) (hn : -9223372036854775808 ≤ n) (hn' : n ≤ 9223372036854775807) (hx : ofF a n = x) (hy : ofT a n = y) (hb : ofB a n = b) :
    Calls Try.prog 48 #[.int .u32 a, .int .i64 n] w fun e w' => e = .returned (.tuple #[.agg #[.int .u32 x, .int .u32 y], .bool b]) ∧ Below w.heap.size w w' := by
  subst hx hy hb; exact Of_any a n w ha ha' hn hn'
theorem Meet_val (f t g u x y : Int) (b : Bool) (w : World) (hx : meetF f t g u = x) (hy : meetT f t g u = y) (hb : meetB f t g u = b) :
    Calls Try.prog 23 #[.agg #[.int .u32 f, .int .u32 t], .agg #[.int .u32 g, .int .u32 u]] w fun e w' => e = .returned (.tuple #[.agg #[.int .u32 x, .int .u32 y], .bool b]) ∧ Below w.heap.size w w' := by
  subst hx hy hb; exact Meet_any f t g u w

end Go.Proofs.Ytploggfaihfeeaa.Reach
