/- The chapter's examples hold: awake. -/
import Derived.Test.YtblccnpdcnlhiaaWe
namespace Go.Proofs.Ytblccnpdcnlhiaa.Word
open Go.RowKit Go.PlainAid Go.Maps
set_option linter.unusedVariables false

theorem new_cells4 (w : World) (a b c d : Int) (t : TypeId) : ∀ i, i < 4 → (w.alloc (.cells #[.int .u8 a, .int .u8 b, .int .u8 c, .int .u8 d] t)).cell? ⟨w.heap.size, 0 + i, none⟩ = some (.int .u8 ([a, b, c, d].getD i 0)) := by
  intro i hi
  have h : i = 0 ∨ i = 1 ∨ i = 2 ∨ i = 3 := by omega
  rcases h with rfl | rfl | rfl | rfl <;> exact World.cell?_alloc_mark _ _ _ _ _
theorem aw_low (w : World) : Calls Try.prog 73 #[.int .u32 4660, .int .i64 1] w fun e w' => e = .returned (.tuple #[.int .u32 52, .bool true]) ∧ w = w' :=
  (low_any 4660 1 w (by omega) (by omega)).mono fun e w' ⟨he, hw⟩ => ⟨he.trans (by kernel_rfl), hw⟩
theorem aw_bytes (w : World) : Calls Try.prog 45 #[.int .u32 4660, .int .i64 4] w fun e w' => e = .returned (.slice (some ⟨w.heap.size, 0, none⟩) 4 4) ∧ w.alloc (.cells #[.int .u8 52, .int .u8 18, .int .u8 0, .int .u8 0] 5) = w' :=
  (bytes_4 4660 w (by omega) (by omega)).mono fun e w' ⟨he, hw⟩ => ⟨he, hw⟩
theorem aw_same (w : World) : Calls Try.prog 18 #[.slice (some ⟨w.heap.size, 0, none⟩) 4 4, .slice (some ⟨w.heap.size + 1, 0, none⟩) 4 4] ((w.alloc (.cells #[.int .u8 52, .int .u8 18, .int .u8 0, .int .u8 0] 5)).alloc (.cells #[.int .u8 52, .int .u8 18, .int .u8 0, .int .u8 0] 5)) fun e w' => e = .returned (.bool true) ∧ Below w.heap.size w w' := by
  refine (same_bytes w.heap.size 0 (w.heap.size + 1) 0 4 4 4 [52, 18, 0, 0] [52, 18, 0, 0] _ (by omega) rfl rfl (fun i hi => cell_old _ (new_cells4 w 52 18 0 0 _ i hi)) (fun i hi => ?_)).mono fun e w' ⟨he, j, hw⟩ => ⟨he, ?_⟩
  · have h := new_cells4 (w.alloc (.cells #[.int .u8 52, .int .u8 18, .int .u8 0, .int .u8 0] 5)) 52 18 0 0 5 i hi
    rw [World.size_alloc] at h
    exact h
  · subst hw
    have b := ((Below.refl w.heap.size w).alloc (Nat.le_refl _) (.cells #[.int .u8 52, .int .u8 18, .int .u8 0, .int .u8 0] 5)).alloc (by simp) (.cells #[.int .u8 52, .int .u8 18, .int .u8 0, .int .u8 0] 5)
    exact ⟨b.os, b.tape, b.output, b.size, b.block⟩

end Go.Proofs.Ytblccnpdcnlhiaa.Word
