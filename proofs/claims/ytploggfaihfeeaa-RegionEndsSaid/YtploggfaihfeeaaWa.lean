/- Contracts of the small functions of package word: Add, Sub, Size, Low. -/
import Derived.Test.YtploggfaihfeeaaProg
import Derived.Test.YtploggfaihfeeaaWs
import Derived.WalkKit
import Derived.WalkLawsBesides
import Derived.Handy
import Derived.Outline
namespace Go.Proofs.Ytploggfaihfeeaa.Word
open Go.RowKit

theorem ret_one {k : IntKind} {a b : Int} (h : a = b) : Ending.returned (.int k a) = .returned (.int k b) := by rw [h]
theorem ret_int_bool {k : IntKind} {a b : Int} {x y : Bool} (h : a = b) (g : x = y) : Ending.returned (.tuple #[.int k a, .bool x]) = .returned (.tuple #[.int k b, .bool y]) := by rw [h, g]

theorem ret_bool {x y : Bool} (h : x = y) : Ending.returned (.bool x) = .returned (.bool y) := by rw [h]

theorem size_any (n : Int) (w : World) :
    Calls Try.prog 64 #[.int .i64 n] w fun e w' => e = .returned (.bool (sizeB n)) ∧ w = w' := by
  rw [← sizeB_or]
  go_enter Try.func64, Try.ntmps64
  go_wp2
  all_goals (go_ret; exact ⟨by simp_all, rfl⟩)

theorem low_any (v n : Int) (w : World) (hv : 0 ≤ v) (hv' : v < 4294967296) :
    Calls Try.prog 61 #[.int .u32 v, .int .i64 n] w fun e w' => e = .returned (.tuple #[.int .u32 (lowV v n), .bool (sizeB n)]) ∧ w = w' := by
  have e1 := and255 hv hv'
  have e2 := and65535 hv hv'
  by_cases h1 : n = 1
  · subst h1
    go_enter Try.func61, Try.ntmps61
    go_wp2
    go_ret2
    exact ⟨ret_int_bool (by simp [lowV]) rfl, rfl⟩
  by_cases h2 : n = 2
  · subst h2
    go_enter Try.func61, Try.ntmps61
    go_wp2
    go_ret2
    exact ⟨ret_int_bool (by simp [lowV]) rfl, rfl⟩
  by_cases h4 : n = 4
  · subst h4
    go_enter Try.func61, Try.ntmps61
    go_wp2
    go_ret2
    exact ⟨ret_int_bool (by simp [lowV]) rfl, rfl⟩
  have hz := sizeB_no h1 h2 h4
  go_enter Try.func61, Try.ntmps61
  go_wp2
  all_goals go_ret2
  all_goals exact ⟨ret_int_bool (by simp [lowV, h1, h2, h4]) hz.symm, rfl⟩
end Go.Proofs.Ytploggfaihfeeaa.Word
