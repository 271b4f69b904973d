/- The chapter's examples hold: awake. -/
import Derived.Test.YtploggfaihfeeaaWe
namespace Go.Proofs.Ytploggfaihfeeaa.Word
open Go.RowKit Go.PlainAid Go.Maps
set_option linter.unusedVariables false

theorem new_cells4 (w : World) (a b c d : Int) (t : TypeId) : ∀ i, i < 4 → (w.alloc (.cells #[.int .u8 a, .int .u8 b, .int .u8 c, .int .u8 d] t)).cell? ⟨w.heap.size, 0 + i, none⟩ = some (.int .u8 ([a, b, c, d].getD i 0)) := by
  intro i hi
  have h : i = 0 ∨ i = 1 ∨ i = 2 ∨ i = 3 := by omega
  rcases h with rfl | rfl | rfl | rfl <;> exact World.cell?_alloc_mark _ _ _ _ _
theorem aw_low (w : World) : Calls Try.prog 61 #[.int .u32 4660, .int .i64 1] w fun e w' => e = .returned (.tuple #[.int .u32 52, .bool true]) ∧ w = w' :=
  (low_any 4660 1 w (by omega) (by omega)).mono fun e w' ⟨he, hw⟩ => ⟨he.trans (by kernel_rfl), hw⟩
end Go.Proofs.Ytploggfaihfeeaa.Word
