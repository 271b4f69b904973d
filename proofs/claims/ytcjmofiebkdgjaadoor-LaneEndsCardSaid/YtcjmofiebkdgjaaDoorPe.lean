/- Low as the document tells; Of, both ways, of what was lent. -/
import Derived.Test.YtcjmofiebkdgjaaDoorPd
namespace Go.Proofs.YtcjmofiebkdgjaaDoor.Word
open Go.RowKit Go.Maps Go.ChangeShapes Go.WideShapes Go.ChangeAt
set_option linter.unusedVariables false

theorem size_cases {m : Nat} (h : sizeB (m : Int) = true) : m = 1 ∨ m = 2 ∨ m = 4 := by
  have := sizeB_or (m : Int)
  rw [h] at this
  simp at this
  omega
theorem rbytes_no (v n : Int) (w : World) (hn : sizeB n = false) :
    Calls Tryd.prog 33 #[.int .u32 v, .int .i64 n] w fun e w' => e = .returned (.slice none 0 0) ∧ w = w' := by
  by_cases h0 : 0 < n
  · have d1 : decide ((0 : Int) < n) = true := decide_eq_true h0
    go_enter Tryd.func33, Tryd.ntmps33
    go_wp2
    refine wp_loop_rounds 1 ?_
    rw [rounds_succ]
    go_wp2_with (go_at_call 32; refine (rsize_any _ _).mono ?_; rintro e w' ⟨rfl, rfl⟩)
    go_ret
    exact ⟨rfl, rfl⟩
  · have d1 : decide ((0 : Int) < n) = false := decide_eq_false h0
    go_enter Tryd.func33, Tryd.ntmps33
    go_wp2
    refine wp_loop_rounds 1 ?_
    rw [rounds_succ]
    go_wp2
    go_ret
    exact ⟨rfl, rfl⟩
theorem bK_at {w : World} {b g m c x : Nat} (h : w.ownsRow b 5 1 (.slice (some ⟨g, 0, none⟩) m c) m (bv (bK x m))) : ∀ i, i < m → w.cell? ⟨g, i, none⟩ = some (.int .u8 ((x / 256 ^ i % 256 : Nat) : Int)) := fun i hi => by
  rw [KitBytes.r_cell h hi]
  simp [bK, bv, hi]
set_option maxRecDepth 8000 in
theorem rof_bK (x m g c : Nat) (hx : x < 4294967296) (hm : sizeB (m : Int) = true) (w : World) (h : ∀ i, i < m → w.cell? ⟨g, i, none⟩ = some (.int .u8 ((x / 256 ^ i % 256 : Nat) : Int))) :
    Calls Tryd.prog 34 #[.slice (some ⟨g, 0, none⟩) m c] w fun e w' => e = .returned (.tuple #[.int .u32 (lowV x m), .bool true]) ∧ w = w' := by
  rcases size_cases hm with rfl | rfl | rfl
  · refine (rof_1 g 0 c _ w (h 0 (by omega)) (by omega) (by omega)).mono fun e w' ⟨he, hw⟩ => ⟨he.trans (ret_int_bool ?_ rfl), hw⟩
    simp [lowV]
  · refine (rof_2 g 0 c _ _ w (h 0 (by omega)) (by omega) (by omega) (h 1 (by omega)) (by omega) (by omega)).mono fun e w' ⟨he, hw⟩ => ⟨he.trans (ret_int_bool ?_ rfl), hw⟩
    simp [lowV]; omega
  · refine (rof_4 g 0 c _ _ _ _ w (h 0 (by omega)) (by omega) (by omega) (h 1 (by omega)) (by omega) (by omega) (h 2 (by omega)) (by omega) (by omega) (h 3 (by omega)) (by omega) (by omega)).mono fun e w' ⟨he, hw⟩ => ⟨he.trans (ret_int_bool ?_ rfl), hw⟩
    simp [lowV]; omega
end Go.Proofs.YtcjmofiebkdgjaaDoor.Word
