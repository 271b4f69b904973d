/- Contracts of the document's answers for parts: Size, Bytes, Of, Low. -/
import Derived.Test.YtploggfaihfeeaaPb
namespace Go.Proofs.Ytploggfaihfeeaa.Word
open Go.RowKit Go.Maps Go.ChangeShapes Go.WideShapes Go.ChangeAt
set_option linter.unusedVariables false

theorem rsize_any (n : Int) (w : World) :
    Calls Try.prog 53 #[.int .i64 n] w fun e w' => e = .returned (.bool (sizeB n)) ∧ w = w' := by
  rw [← sizeB_or]
  go_enter Try.func53, Try.ntmps53
  go_wp2
  all_goals (go_ret; exact ⟨by simp_all, rfl⟩)
theorem rof_no (a : Option Addr) (n cap : Nat) (w : World) (hn : sizeB n = false) :
    Calls Try.prog 54 #[.slice a n cap] w fun e w' => e = .returned (.tuple #[.int .u32 0, .bool false]) ∧ w = w' := by
  go_enter Try.func54, Try.ntmps54
  go_wp2_with (go_at_call 53; refine (rsize_any _ _).mono ?_; rintro e w' ⟨rfl, rfl⟩)
  go_ret2
  exact ⟨rfl, rfl⟩
theorem rof_1 (b off cap : Nat) (c0 : Int) (w : World) (h0 : w.cell? ⟨b, off, none⟩ = some (.int .u8 c0)) (l0 : 0 ≤ c0) (g0 : c0 < 256) :
    Calls Try.prog 54 #[.slice (some ⟨b, off, none⟩) 1 cap] w fun e w' => e = .returned (.tuple #[.int .u32 c0, .bool true]) ∧ w = w' := by
  have hs := sizeB_1
  go_enter Try.func54, Try.ntmps54
  go_wp2_with (go_at_call 53; refine (rsize_any _ _).mono ?_; rintro e w' ⟨rfl, rfl⟩)
  go_rounds 2
  go_ret2
  exact ⟨ret_int_bool (by omega) rfl, rfl⟩
theorem rof_2 (b off cap : Nat) (c0 c1 : Int) (w : World) (h0 : w.cell? ⟨b, off, none⟩ = some (.int .u8 c0)) (l0 : 0 ≤ c0) (g0 : c0 < 256) (h1 : w.cell? ⟨b, off + 1, none⟩ = some (.int .u8 c1)) (l1 : 0 ≤ c1) (g1 : c1 < 256) :
    Calls Try.prog 54 #[.slice (some ⟨b, off, none⟩) 2 cap] w fun e w' => e = .returned (.tuple #[.int .u32 (c0 + c1 * 256), .bool true]) ∧ w = w' := by
  have hs := sizeB_2
  go_enter Try.func54, Try.ntmps54
  go_wp2_with (go_at_call 53; refine (rsize_any _ _).mono ?_; rintro e w' ⟨rfl, rfl⟩)
  go_rounds 3
  go_ret2
  exact ⟨ret_int_bool (by omega) rfl, rfl⟩
theorem rof_4 (b off cap : Nat) (c0 c1 c2 c3 : Int) (w : World) (h0 : w.cell? ⟨b, off, none⟩ = some (.int .u8 c0)) (l0 : 0 ≤ c0) (g0 : c0 < 256) (h1 : w.cell? ⟨b, off + 1, none⟩ = some (.int .u8 c1)) (l1 : 0 ≤ c1) (g1 : c1 < 256)
    (h2 : w.cell? ⟨b, off + 2, none⟩ = some (.int .u8 c2)) (l2 : 0 ≤ c2) (g2 : c2 < 256) (h3 : w.cell? ⟨b, off + 3, none⟩ = some (.int .u8 c3)) (l3 : 0 ≤ c3) (g3 : c3 < 256) :
    Calls Try.prog 54 #[.slice (some ⟨b, off, none⟩) 4 cap] w fun e w' => e = .returned (.tuple #[.int .u32 (c0 + c1 * 256 + c2 * 65536 + c3 * 16777216), .bool true]) ∧ w = w' := by
  have hs := sizeB_4
  go_enter Try.func54, Try.ntmps54
  go_wp2_with (go_at_call 53; refine (rsize_any _ _).mono ?_; rintro e w' ⟨rfl, rfl⟩)
  go_rounds 5
  go_ret2
  exact ⟨ret_int_bool (by omega) rfl, rfl⟩
end Go.Proofs.Ytploggfaihfeeaa.Word
