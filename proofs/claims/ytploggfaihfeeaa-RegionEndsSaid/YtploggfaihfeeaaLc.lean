/- Contracts of package lane: what is asked of a place at work; what is told; Aligned, Mask, Take, Put. -/
import Derived.Test.YtploggfaihfeeaaLb
namespace Go.Proofs.Ytploggfaihfeeaa.Lane
open Go.RowKit
set_option linter.unusedVariables false

/-- A cell in a block. -/
structure Cl (w : World) (b : Nat) (a n v d : Int) : Prop where
  c0 : w.cell? ⟨b, 0, none⟩ = some (.int .u32 a)
  c1 : w.cell? ⟨b, 1, none⟩ = some (.int .i64 n)
  c2 : w.cell? ⟨b, 2, none⟩ = some (.int .u32 v)
  c3 : w.cell? ⟨b, 3, none⟩ = some (.int .u32 d)
theorem cl_new (w : World) (a n v d : Int) (t : TypeId) : Cl (w.alloc (.cells #[.int .u32 a, .int .i64 n, .int .u32 v, .int .u32 d] t)) w.heap.size a n v d :=
  ⟨World.cell?_alloc_at _ _ _ 0 rfl, World.cell?_alloc_at _ _ _ 1 rfl, World.cell?_alloc_at _ _ _ 2 rfl, World.cell?_alloc_at _ _ _ 3 rfl⟩

theorem Aligned_any (a n : Int) (b : Bool) (w : World) (ha : 0 ≤ a) (ha' : a < 4294967296) (hb : alB a n = b) :
    Calls Try.prog 60 #[.int .u32 a, .int .i64 n] w fun e w' => e = .returned (.bool b) ∧ Below w.heap.size w w' := by
  have Al := fun w => aligned_any a n b w ha ha' hb
  clear hb
  go_enter Try.func60, Try.ntmps60
  go_wp2_with fail
  refine (at_any a n _).mono ?_
  rintro e w1 ⟨rfl, hb⟩
  have Hb := Lib.hid hb
  clear hb
  go_wp2_with fail
  refine (Al _).mono ?_
  rintro e w2 ⟨rfl, hb⟩
  have Hb2 := Lib.hid (Hb.out.trans (hb.mono Hb.out.size))
  clear hb
  go_wp2_with fail
  go_ret
  exact ⟨rfl, Hb2.out⟩
end Go.Proofs.Ytploggfaihfeeaa.Lane
