/- The walks of rotor's laws as their cards want them. -/
import Derived.Test.YtelmkfpomeilpaaIm
import Derived.Laws.Cover2
namespace Go.Proofs.Ytelmkfpomeilpaa.Rotor
open Go.RowKit
set_option linter.unusedVariables false

theorem points_law (v u k : Int) (w : World) (h0 : (Lit.int .u32 v).wf = true) (h1 : (Lit.int .u32 u).wf = true) (h2 : (Lit.int .u32 k).wf = true) :
    Calls Try.prog 3 #[.int .u32 v, .int .u32 u, .int .u32 k] w fun e w' => e = .returned (.bool true) ∧ Below w.heap.size w w' := rpoints_walk v u k w (wfu32 h0) (wfu32 h1) (wfu32 h2)
theorem ring_law (v u k : Int) (w : World) (h0 : (Lit.int .u32 v).wf = true) (h1 : (Lit.int .u32 u).wf = true) (h2 : (Lit.int .u32 k).wf = true) :
    Calls Try.prog 7 #[.int .u32 v, .int .u32 u, .int .u32 k] w fun e w' => e = .returned (.bool true) ∧ Below w.heap.size w w' := ring_walk v u k w (wfu32 h0) (wfu32 h1) (wfu32 h2)
theorem turns_law (v u k : Int) (w : World) (h0 : (Lit.int .u32 v).wf = true) (h1 : (Lit.int .u32 u).wf = true) (h2 : (Lit.int .u32 k).wf = true) :
    Calls Try.prog 8 #[.int .u32 v, .int .u32 u, .int .u32 k] w fun e w' => e = .returned (.bool true) ∧ Below w.heap.size w w' := turns_walk v u k w (wfu32 h0) (wfu32 h1) (wfu32 h2)
theorem others_law (x y : Nat) (v : Int) (w : World) (h0 : (Lit.float .f64 x).wf = true) (h1 : (Lit.float .f64 y).wf = true) (h2 : (Lit.int .u32 v).wf = true) :
    Calls Try.prog 4 #[.float .f64 x, .float .f64 y, .int .u32 v] w fun e w' => e = .returned (.bool true) ∧ Below w.heap.size w w' := others_walk x y v w (wfu32 h2)
end Go.Proofs.Ytelmkfpomeilpaa.Rotor
