/- The walk of FifoOrder, for every input. -/
import Derived.Test.YtekmenojaojeiaaFp
namespace Go.Proofs.Ytekmenojaojeiaa.Fifo5
open Go.RowKit Fifo FI
set_option linter.unusedVariables false

theorem bound_i64 {v : Int} (h : (Lit.int .i64 v).wf = true) : -9223372036854775808 ≤ v ∧ v < 9223372036854775808 := by
  simp only [Lit.wf, Bool.and_eq_true, decide_eq_true_eq] at h
  have h1 : IntKind.i64.min = -9223372036854775808 := rfl
  have h2 : IntKind.i64.max = 9223372036854775807 := rfl
  omega
theorem order_long (x : Int) (a : Option Addr) (len cap : Nat) (w : World) (h : 300 < len) :
    Calls Try.prog 5 #[.int .i64 x, .slice a len cap] w fun e w' => e = .returned (.bool true) ∧ Below w.heap.size w w' := by
  have A := awake_any w
  go_enter Try.func5, Try.ntmps5
  go_wp2_with fail
  refine A.mono ?_
  rintro e w1 ⟨rfl, hb1⟩
  clear A
  have d1 : decide ((300 : Int) < (len : Int)) = true := decide_eq_true (by omega)
  go_wp2_with fail
  go_ret
  exact ⟨rfl, hb1⟩
theorem order_neg (x : Int) (a : Option Addr) (len cap : Nat) (w : World) (h : len ≤ 300) (hx : x < 0) :
    Calls Try.prog 5 #[.int .i64 x, .slice a len cap] w fun e w' => e = .returned (.bool true) ∧ Below w.heap.size w w' := by
  have A := awake_any w
  go_enter Try.func5, Try.ntmps5
  go_wp2_with fail
  refine A.mono ?_
  rintro e w1 ⟨rfl, hb1⟩
  clear A
  have d1 : decide ((300 : Int) < (len : Int)) = false := decide_eq_false (by omega)
  have d2 : decide (x < 0) = true := decide_eq_true (by omega)
  go_wp2_with fail
  go_ret
  exact ⟨rfl, hb1⟩
theorem order_walk (x : Int) (a : Option Addr) (len cap : Nat) (l : List Int) (w : World) (hx : (Lit.int .i64 x).wf = true) (hrow : Row .i64 w a len l) (hnone : a = none → cap = 0) :
    Calls Try.prog 5 #[.int .i64 x, .slice a len cap] w fun e w' => e = .returned (.bool true) ∧ Below w.heap.size w w' := by
  have hb := bound_i64 hx
  by_cases h : 300 < len
  · exact order_long x a len cap w h
  · by_cases h0 : x < 0
    · exact order_neg x a len cap w (by omega) h0
    · obtain ⟨R, rfl⟩ := Int.eq_ofNat_of_zero_le (show 0 ≤ x by omega)
      exact order_core R a len cap l w (by omega) hrow (by omega)
end Go.Proofs.Ytekmenojaojeiaa.Fifo5
