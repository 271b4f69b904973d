/- The chapter's examples hold: awake. -/
import Derived.Test.YteahocaogkhddaaDoorWe
namespace Go.Proofs.YteahocaogkhddaaDoor.Word
open Go.RowKit Go.PlainAid Go.Maps
set_option linter.unusedVariables false

theorem new_cells4 (w : World) (a b c d : Int) (t : TypeId) : ∀ i, i < 4 → (w.alloc (.cells #[.int .u8 a, .int .u8 b, .int .u8 c, .int .u8 d] t)).cell? ⟨w.heap.size, 0 + i, none⟩ = some (.int .u8 ([a, b, c, d].getD i 0)) := by
  intro i hi
  have h : i = 0 ∨ i = 1 ∨ i = 2 ∨ i = 3 := by omega
  rcases h with rfl | rfl | rfl | rfl <;> exact World.cell?_alloc_mark _ _ _ _ _
theorem aw_add (w : World) : Calls Tryd.prog 13 #[.int .u32 4294967295, .int .u32 2] w fun e w' => e = .returned (.tuple #[.int .u32 1, .bool true]) ∧ w = w' :=
  (add_any 4294967295 2 w (by omega) (by omega) (by omega) (by omega)).mono fun e w' ⟨he, hw⟩ => ⟨he.trans (by kernel_rfl), hw⟩
theorem aw_low (w : World) : Calls Tryd.prog 24 #[.int .u32 4660, .int .i64 1] w fun e w' => e = .returned (.tuple #[.int .u32 52, .bool true]) ∧ w = w' :=
  (low_any 4660 1 w (by omega) (by omega)).mono fun e w' ⟨he, hw⟩ => ⟨he.trans (by kernel_rfl), hw⟩
theorem aw_parse1 (w : World) (ht : Tab w) : Calls Tryd.prog 11 #[.string ⟨#[48, 120, 48, 97]⟩] w fun e w' => e = .returned (.tuple #[.int .u32 10, .bool true]) ∧ Below w.heap.size w w' :=
  (parse_any ⟨#[48, 120, 48, 97]⟩ w (by decide) ht).mono fun e w' ⟨he, hw⟩ => ⟨he.trans (by kernel_rfl), hw⟩
theorem aw_parse2 (w : World) (ht : Tab w) : Calls Tryd.prog 11 #[.string ⟨#[48, 49, 48]⟩] w fun e w' => e = .returned (.tuple #[.int .u32 0, .bool false]) ∧ Below w.heap.size w w' :=
  (parse_any ⟨#[48, 49, 48]⟩ w (by decide) ht).mono fun e w' ⟨he, hw⟩ => ⟨he.trans (by kernel_rfl), hw⟩
theorem aw_show (w : World) (ht : Tab w) : Calls Tryd.prog 7 #[.int .u32 10] w fun e w' => e = .returned (.string ⟨#[48, 120, 48, 48, 48, 48, 48, 48, 48, 97]⟩) ∧ Below w.heap.size w w' :=
  (show_any 10 w (by omega) (by omega) ht).mono fun e w' ⟨he, hw⟩ => ⟨he.trans (by kernel_rfl), hw⟩
theorem aw_bytes (w : World) : Calls Tryd.prog 9 #[.int .u32 4660, .int .i64 4] w fun e w' => e = .returned (.slice (some ⟨w.heap.size, 0, none⟩) 4 4) ∧ w.alloc (.cells #[.int .u8 52, .int .u8 18, .int .u8 0, .int .u8 0] 5) = w' :=
  (bytes_4 4660 w (by omega) (by omega)).mono fun e w' ⟨he, hw⟩ => ⟨he, hw⟩
theorem aw_same (w : World) : Calls Tryd.prog 30 #[.slice (some ⟨w.heap.size, 0, none⟩) 4 4, .slice (some ⟨w.heap.size + 1, 0, none⟩) 4 4] ((w.alloc (.cells #[.int .u8 52, .int .u8 18, .int .u8 0, .int .u8 0] 5)).alloc (.cells #[.int .u8 52, .int .u8 18, .int .u8 0, .int .u8 0] 5)) fun e w' => e = .returned (.bool true) ∧ Below w.heap.size w w' := by
  refine (same_bytes w.heap.size 0 (w.heap.size + 1) 0 4 4 4 [52, 18, 0, 0] [52, 18, 0, 0] _ (by omega) rfl rfl (fun i hi => cell_old _ (new_cells4 w 52 18 0 0 _ i hi)) (fun i hi => ?_)).mono fun e w' ⟨he, j, hw⟩ => ⟨he, ?_⟩
  · have h := new_cells4 (w.alloc (.cells #[.int .u8 52, .int .u8 18, .int .u8 0, .int .u8 0] 5)) 52 18 0 0 5 i hi
    rw [World.size_alloc] at h
    exact h
  · subst hw
    have b := ((Below.refl w.heap.size w).alloc (Nat.le_refl _) (.cells #[.int .u8 52, .int .u8 18, .int .u8 0, .int .u8 0] 5)).alloc (by simp) (.cells #[.int .u8 52, .int .u8 18, .int .u8 0, .int .u8 0] 5)
    exact ⟨b.os, b.tape, b.output, b.size, b.block⟩

theorem awake_any (w : World) (ht : Tab w) :
    Calls Tryd.prog 10 #[] w fun e w' => e = .returned (.bool true) ∧ Below w.heap.size w w' := by
  have Ht := Lib.hid ht
  clear ht
  go_enter Tryd.func10, Tryd.ntmps10
  go_wp2_with fail
  refine (aw_add _).mono ?_
  rintro e w' ⟨rfl, rfl⟩
  go_wp2_with fail
  refine (aw_low _).mono ?_
  rintro e w' ⟨rfl, rfl⟩
  go_wp2_with fail
  refine (aw_parse1 _ Ht.out).mono ?_
  rintro e w1 ⟨rfl, hb1⟩
  have Ht1 := Lib.hid (Ht.out.below hb1)
  have Hb1 := Lib.hid hb1
  clear hb1
  go_wp2_with fail
  refine (aw_parse2 _ Ht1.out).mono ?_
  rintro e w2 ⟨rfl, hb2⟩
  have Ht2 := Lib.hid (Ht1.out.below hb2)
  have Hb2 := Lib.hid (Hb1.out.trans (hb2.mono Hb1.out.size))
  clear hb2
  go_wp2_with fail
  refine (aw_show _ Ht2.out).mono ?_
  rintro e w3 ⟨rfl, hb3⟩
  have Hb3 := Lib.hid (Hb2.out.trans (hb3.mono Hb2.out.size))
  clear hb3
  go_wp2_with fail
  refine (aw_bytes _).mono ?_
  rintro e w' ⟨rfl, rfl⟩
  go_wp2_with fail
  refine (aw_same _).mono ?_
  rintro e w4 ⟨rfl, hb4⟩
  have Hb4 := Lib.hid (Hb3.out.trans (hb4.mono Hb3.out.size))
  clear hb4
  go_wp2_with fail
  go_ret
  exact ⟨rfl, Hb4.out⟩
end Go.Proofs.YteahocaogkhddaaDoor.Word
