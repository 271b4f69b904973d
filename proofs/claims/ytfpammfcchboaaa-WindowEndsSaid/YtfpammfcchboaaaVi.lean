/- A device with one part other: contract of turned. (By gen/gen_vi.py.) -/
import Derived.Test.YtfpammfcchboaaaVg
namespace Go.Proofs.Ytfpammfcchboaaa.Win
open Go.RowKit Fifo Go.Maps Go.ChangeShapes Go.WideShapes Go.ChangeAt Go.Proofs.Ytfpammfcchboaaa.Access
set_option linter.unusedVariables false

theorem turned_end (K B S O L : Int) (w : World) (cs : Array Value) (t : TypeId) : Below w.heap.size w (((w.alloc (.cells #[.int .i64 K, .int .u32 B, .int .i64 S, .int .i64 O, .int .i64 L] 26)).alloc (.cells #[.int .i64 K, .int .u32 B, .int .i64 S, .int .i64 O, .int .i64 L] 26)).alloc (.cells cs t)) :=
  (((Below.refl _ _).alloc (Nat.le_refl _) _).alloc (by simp) _).alloc (by simp; omega) _
theorem turned_end2 (K B S O L : Int) (w : World) : Below w.heap.size w ((w.alloc (.cells #[.int .i64 K, .int .u32 B, .int .i64 S, .int .i64 O, .int .i64 L] 26)).alloc (.cells #[.int .i64 K, .int .u32 B, .int .i64 S, .int .i64 O, .int .i64 L] 26)) :=
  ((Below.refl _ _).alloc (Nat.le_refl _) _).alloc (by simp) _

set_option maxRecDepth 100000 in
set_option maxHeartbeats 2000000 in
theorem turnA0 (n v : Nat) (w : World) (h2 : v < 28) (hr : (v : Int) % 9 = 0) :
    Calls Try.prog 12 #[.int .i64 0, .int .i64 v] w fun e w' => e = .returned (dv ((v : Int) % 8 - 1) 0 32 1 1) ∧ Below w.heap.size w w' := by
  go_enter Try.func12, Try.ntmps12
  go_wp2_with fail
  refine bodyPost_ret (v := dv ((v : Int) % 8 - 1) 0 32 1 1) ?_ rfl ⟨rfl, turned_end _ _ _ _ _ _ _ _⟩
  simp [results, Try.results12, go_sem]

set_option maxRecDepth 100000 in
set_option maxHeartbeats 2000000 in
theorem turnA1 (n v : Nat) (w : World) (h2 : v < 28) (hr : (v : Int) % 9 = 1) :
    Calls Try.prog 12 #[.int .i64 0, .int .i64 v] w fun e w' => e = .returned (dv ((v : Int) % 8 - 1) 1 32 1 1) ∧ Below w.heap.size w w' := by
  go_enter Try.func12, Try.ntmps12
  go_wp2_with fail
  refine bodyPost_ret (v := dv ((v : Int) % 8 - 1) 1 32 1 1) ?_ rfl ⟨rfl, turned_end _ _ _ _ _ _ _ _⟩
  simp [results, Try.results12, go_sem]

set_option maxRecDepth 100000 in
set_option maxHeartbeats 2000000 in
theorem turnA2 (n v : Nat) (w : World) (h2 : v < 28) (hr : (v : Int) % 9 = 2) :
    Calls Try.prog 12 #[.int .i64 0, .int .i64 v] w fun e w' => e = .returned (dv ((v : Int) % 8 - 1) 2 32 1 1) ∧ Below w.heap.size w w' := by
  go_enter Try.func12, Try.ntmps12
  go_wp2_with fail
  refine bodyPost_ret (v := dv ((v : Int) % 8 - 1) 2 32 1 1) ?_ rfl ⟨rfl, turned_end _ _ _ _ _ _ _ _⟩
  simp [results, Try.results12, go_sem]

set_option maxRecDepth 100000 in
set_option maxHeartbeats 2000000 in
theorem turnA3 (n v : Nat) (w : World) (h2 : v < 28) (hr : (v : Int) % 9 = 3) :
    Calls Try.prog 12 #[.int .i64 0, .int .i64 v] w fun e w' => e = .returned (dv ((v : Int) % 8 - 1) 4 32 1 1) ∧ Below w.heap.size w w' := by
  go_enter Try.func12, Try.ntmps12
  go_wp2_with fail
  refine bodyPost_ret (v := dv ((v : Int) % 8 - 1) 4 32 1 1) ?_ rfl ⟨rfl, turned_end _ _ _ _ _ _ _ _⟩
  simp [results, Try.results12, go_sem]

set_option maxRecDepth 100000 in
set_option maxHeartbeats 2000000 in
theorem turnA4 (n v : Nat) (w : World) (h2 : v < 28) (hr : (v : Int) % 9 = 4) :
    Calls Try.prog 12 #[.int .i64 0, .int .i64 v] w fun e w' => e = .returned (dv ((v : Int) % 8 - 1) 4294967292 32 1 1) ∧ Below w.heap.size w w' := by
  go_enter Try.func12, Try.ntmps12
  go_wp2_with fail
  refine bodyPost_ret (v := dv ((v : Int) % 8 - 1) 4294967292 32 1 1) ?_ rfl ⟨rfl, turned_end _ _ _ _ _ _ _ _⟩
  simp [results, Try.results12, go_sem]

set_option maxRecDepth 100000 in
set_option maxHeartbeats 2000000 in
theorem turnA5 (n v : Nat) (w : World) (h2 : v < 28) (hr : (v : Int) % 9 = 5) :
    Calls Try.prog 12 #[.int .i64 0, .int .i64 v] w fun e w' => e = .returned (dv ((v : Int) % 8 - 1) 4294967264 32 1 1) ∧ Below w.heap.size w w' := by
  go_enter Try.func12, Try.ntmps12
  go_wp2_with fail
  refine bodyPost_ret (v := dv ((v : Int) % 8 - 1) 4294967264 32 1 1) ?_ rfl ⟨rfl, turned_end _ _ _ _ _ _ _ _⟩
  simp [results, Try.results12, go_sem]

set_option maxRecDepth 100000 in
set_option maxHeartbeats 2000000 in
theorem turnA6 (n v : Nat) (w : World) (h2 : v < 28) (hr : (v : Int) % 9 = 6) :
    Calls Try.prog 12 #[.int .i64 0, .int .i64 v] w fun e w' => e = .returned (dv ((v : Int) % 8 - 1) 4294967268 32 1 1) ∧ Below w.heap.size w w' := by
  go_enter Try.func12, Try.ntmps12
  go_wp2_with fail
  refine bodyPost_ret (v := dv ((v : Int) % 8 - 1) 4294967268 32 1 1) ?_ rfl ⟨rfl, turned_end _ _ _ _ _ _ _ _⟩
  simp [results, Try.results12, go_sem]

set_option maxRecDepth 100000 in
set_option maxHeartbeats 2000000 in
theorem turnA7 (n v : Nat) (w : World) (h2 : v < 28) (hr : (v : Int) % 9 = 7) :
    Calls Try.prog 12 #[.int .i64 0, .int .i64 v] w fun e w' => e = .returned (dv ((v : Int) % 8 - 1) 4294967295 32 1 1) ∧ Below w.heap.size w w' := by
  go_enter Try.func12, Try.ntmps12
  go_wp2_with fail
  refine bodyPost_ret (v := dv ((v : Int) % 8 - 1) 4294967295 32 1 1) ?_ rfl ⟨rfl, turned_end _ _ _ _ _ _ _ _⟩
  simp [results, Try.results12, go_sem]

set_option maxRecDepth 100000 in
set_option maxHeartbeats 2000000 in
theorem turnA8 (n v : Nat) (w : World) (h2 : v < 28) (hr : (v : Int) % 9 = 8) :
    Calls Try.prog 12 #[.int .i64 0, .int .i64 v] w fun e w' => e = .returned (dv ((v : Int) % 8 - 1) 2147483648 32 1 1) ∧ Below w.heap.size w w' := by
  go_enter Try.func12, Try.ntmps12
  go_wp2_with fail
  refine bodyPost_ret (v := dv ((v : Int) % 8 - 1) 2147483648 32 1 1) ?_ rfl ⟨rfl, turned_end _ _ _ _ _ _ _ _⟩
  simp [results, Try.results12, go_sem]

set_option maxRecDepth 100000 in
set_option maxHeartbeats 2000000 in
theorem turnB0 (n v : Nat) (w : World) (h0 : 0 < n) (h1 : n < 60) (h2 : v < 28) (hm : (n : Int) % 5 = 0) (hr : (v : Int) % 9 = 0) :
    Calls Try.prog 12 #[.int .i64 n, .int .i64 v] w fun e w' => e = .returned (dv ((n : Int) % 6 + 1) 0 32 1 1) ∧ Below w.heap.size w w' := by
  have d0 : decide ((0 : Int) < (n : Int)) = true := decide_eq_true (by omega)
  go_enter Try.func12, Try.ntmps12
  go_wp2_with fail
  refine bodyPost_ret (v := dv ((n : Int) % 6 + 1) 0 32 1 1) ?_ rfl ⟨rfl, turned_end _ _ _ _ _ _ _ _⟩
  simp [results, Try.results12, go_sem]

set_option maxRecDepth 100000 in
set_option maxHeartbeats 2000000 in
theorem turnB1 (n v : Nat) (w : World) (h0 : 0 < n) (h1 : n < 60) (h2 : v < 28) (hm : (n : Int) % 5 = 0) (hr : (v : Int) % 9 = 1) :
    Calls Try.prog 12 #[.int .i64 n, .int .i64 v] w fun e w' => e = .returned (dv ((n : Int) % 6 + 1) 1 32 1 1) ∧ Below w.heap.size w w' := by
  have d0 : decide ((0 : Int) < (n : Int)) = true := decide_eq_true (by omega)
  go_enter Try.func12, Try.ntmps12
  go_wp2_with fail
  refine bodyPost_ret (v := dv ((n : Int) % 6 + 1) 1 32 1 1) ?_ rfl ⟨rfl, turned_end _ _ _ _ _ _ _ _⟩
  simp [results, Try.results12, go_sem]

set_option maxRecDepth 100000 in
set_option maxHeartbeats 2000000 in
theorem turnB2 (n v : Nat) (w : World) (h0 : 0 < n) (h1 : n < 60) (h2 : v < 28) (hm : (n : Int) % 5 = 0) (hr : (v : Int) % 9 = 2) :
    Calls Try.prog 12 #[.int .i64 n, .int .i64 v] w fun e w' => e = .returned (dv ((n : Int) % 6 + 1) 2 32 1 1) ∧ Below w.heap.size w w' := by
  have d0 : decide ((0 : Int) < (n : Int)) = true := decide_eq_true (by omega)
  go_enter Try.func12, Try.ntmps12
  go_wp2_with fail
  refine bodyPost_ret (v := dv ((n : Int) % 6 + 1) 2 32 1 1) ?_ rfl ⟨rfl, turned_end _ _ _ _ _ _ _ _⟩
  simp [results, Try.results12, go_sem]

set_option maxRecDepth 100000 in
set_option maxHeartbeats 2000000 in
theorem turnB3 (n v : Nat) (w : World) (h0 : 0 < n) (h1 : n < 60) (h2 : v < 28) (hm : (n : Int) % 5 = 0) (hr : (v : Int) % 9 = 3) :
    Calls Try.prog 12 #[.int .i64 n, .int .i64 v] w fun e w' => e = .returned (dv ((n : Int) % 6 + 1) 4 32 1 1) ∧ Below w.heap.size w w' := by
  have d0 : decide ((0 : Int) < (n : Int)) = true := decide_eq_true (by omega)
  go_enter Try.func12, Try.ntmps12
  go_wp2_with fail
  refine bodyPost_ret (v := dv ((n : Int) % 6 + 1) 4 32 1 1) ?_ rfl ⟨rfl, turned_end _ _ _ _ _ _ _ _⟩
  simp [results, Try.results12, go_sem]

set_option maxRecDepth 100000 in
set_option maxHeartbeats 2000000 in
theorem turnB4 (n v : Nat) (w : World) (h0 : 0 < n) (h1 : n < 60) (h2 : v < 28) (hm : (n : Int) % 5 = 0) (hr : (v : Int) % 9 = 4) :
    Calls Try.prog 12 #[.int .i64 n, .int .i64 v] w fun e w' => e = .returned (dv ((n : Int) % 6 + 1) 4294967292 32 1 1) ∧ Below w.heap.size w w' := by
  have d0 : decide ((0 : Int) < (n : Int)) = true := decide_eq_true (by omega)
  go_enter Try.func12, Try.ntmps12
  go_wp2_with fail
  refine bodyPost_ret (v := dv ((n : Int) % 6 + 1) 4294967292 32 1 1) ?_ rfl ⟨rfl, turned_end _ _ _ _ _ _ _ _⟩
  simp [results, Try.results12, go_sem]

set_option maxRecDepth 100000 in
set_option maxHeartbeats 2000000 in
theorem turnB5 (n v : Nat) (w : World) (h0 : 0 < n) (h1 : n < 60) (h2 : v < 28) (hm : (n : Int) % 5 = 0) (hr : (v : Int) % 9 = 5) :
    Calls Try.prog 12 #[.int .i64 n, .int .i64 v] w fun e w' => e = .returned (dv ((n : Int) % 6 + 1) 4294967264 32 1 1) ∧ Below w.heap.size w w' := by
  have d0 : decide ((0 : Int) < (n : Int)) = true := decide_eq_true (by omega)
  go_enter Try.func12, Try.ntmps12
  go_wp2_with fail
  refine bodyPost_ret (v := dv ((n : Int) % 6 + 1) 4294967264 32 1 1) ?_ rfl ⟨rfl, turned_end _ _ _ _ _ _ _ _⟩
  simp [results, Try.results12, go_sem]

set_option maxRecDepth 100000 in
set_option maxHeartbeats 2000000 in
theorem turnB6 (n v : Nat) (w : World) (h0 : 0 < n) (h1 : n < 60) (h2 : v < 28) (hm : (n : Int) % 5 = 0) (hr : (v : Int) % 9 = 6) :
    Calls Try.prog 12 #[.int .i64 n, .int .i64 v] w fun e w' => e = .returned (dv ((n : Int) % 6 + 1) 4294967268 32 1 1) ∧ Below w.heap.size w w' := by
  have d0 : decide ((0 : Int) < (n : Int)) = true := decide_eq_true (by omega)
  go_enter Try.func12, Try.ntmps12
  go_wp2_with fail
  refine bodyPost_ret (v := dv ((n : Int) % 6 + 1) 4294967268 32 1 1) ?_ rfl ⟨rfl, turned_end _ _ _ _ _ _ _ _⟩
  simp [results, Try.results12, go_sem]

set_option maxRecDepth 100000 in
set_option maxHeartbeats 2000000 in
theorem turnB7 (n v : Nat) (w : World) (h0 : 0 < n) (h1 : n < 60) (h2 : v < 28) (hm : (n : Int) % 5 = 0) (hr : (v : Int) % 9 = 7) :
    Calls Try.prog 12 #[.int .i64 n, .int .i64 v] w fun e w' => e = .returned (dv ((n : Int) % 6 + 1) 4294967295 32 1 1) ∧ Below w.heap.size w w' := by
  have d0 : decide ((0 : Int) < (n : Int)) = true := decide_eq_true (by omega)
  go_enter Try.func12, Try.ntmps12
  go_wp2_with fail
  refine bodyPost_ret (v := dv ((n : Int) % 6 + 1) 4294967295 32 1 1) ?_ rfl ⟨rfl, turned_end _ _ _ _ _ _ _ _⟩
  simp [results, Try.results12, go_sem]

set_option maxRecDepth 100000 in
set_option maxHeartbeats 2000000 in
theorem turnB8 (n v : Nat) (w : World) (h0 : 0 < n) (h1 : n < 60) (h2 : v < 28) (hm : (n : Int) % 5 = 0) (hr : (v : Int) % 9 = 8) :
    Calls Try.prog 12 #[.int .i64 n, .int .i64 v] w fun e w' => e = .returned (dv ((n : Int) % 6 + 1) 2147483648 32 1 1) ∧ Below w.heap.size w w' := by
  have d0 : decide ((0 : Int) < (n : Int)) = true := decide_eq_true (by omega)
  go_enter Try.func12, Try.ntmps12
  go_wp2_with fail
  refine bodyPost_ret (v := dv ((n : Int) % 6 + 1) 2147483648 32 1 1) ?_ rfl ⟨rfl, turned_end _ _ _ _ _ _ _ _⟩
  simp [results, Try.results12, go_sem]

set_option maxRecDepth 100000 in
set_option maxHeartbeats 2000000 in
theorem turnC0 (n v : Nat) (w : World) (h0 : 0 < n) (h1 : n < 60) (h2 : v < 28) (hm : (n : Int) % 5 = 1) (hr : (v : Int) % 14 = 0) :
    Calls Try.prog 12 #[.int .i64 n, .int .i64 v] w fun e w' => e = .returned (dv ((n : Int) % 6 + 1) 64 (-9223372036854775808) 1 1) ∧ Below w.heap.size w w' := by
  have d0 : decide ((0 : Int) < (n : Int)) = true := decide_eq_true (by omega)
  go_enter Try.func12, Try.ntmps12
  go_wp2_with fail
  refine bodyPost_ret (v := dv ((n : Int) % 6 + 1) 64 (-9223372036854775808) 1 1) ?_ rfl ⟨rfl, turned_end _ _ _ _ _ _ _ _⟩
  simp [results, Try.results12, go_sem]

set_option maxRecDepth 100000 in
set_option maxHeartbeats 2000000 in
theorem turnC1 (n v : Nat) (w : World) (h0 : 0 < n) (h1 : n < 60) (h2 : v < 28) (hm : (n : Int) % 5 = 1) (hr : (v : Int) % 14 = 1) :
    Calls Try.prog 12 #[.int .i64 n, .int .i64 v] w fun e w' => e = .returned (dv ((n : Int) % 6 + 1) 64 (-4) 1 1) ∧ Below w.heap.size w w' := by
  have d0 : decide ((0 : Int) < (n : Int)) = true := decide_eq_true (by omega)
  go_enter Try.func12, Try.ntmps12
  go_wp2_with fail
  refine bodyPost_ret (v := dv ((n : Int) % 6 + 1) 64 (-4) 1 1) ?_ rfl ⟨rfl, turned_end _ _ _ _ _ _ _ _⟩
  simp [results, Try.results12, go_sem]

set_option maxRecDepth 100000 in
set_option maxHeartbeats 2000000 in
theorem turnC2 (n v : Nat) (w : World) (h0 : 0 < n) (h1 : n < 60) (h2 : v < 28) (hm : (n : Int) % 5 = 1) (hr : (v : Int) % 14 = 2) :
    Calls Try.prog 12 #[.int .i64 n, .int .i64 v] w fun e w' => e = .returned (dv ((n : Int) % 6 + 1) 64 0 1 1) ∧ Below w.heap.size w w' := by
  have d0 : decide ((0 : Int) < (n : Int)) = true := decide_eq_true (by omega)
  go_enter Try.func12, Try.ntmps12
  go_wp2_with fail
  refine bodyPost_ret (v := dv ((n : Int) % 6 + 1) 64 0 1 1) ?_ rfl ⟨rfl, turned_end _ _ _ _ _ _ _ _⟩
  simp [results, Try.results12, go_sem]

set_option maxRecDepth 100000 in
set_option maxHeartbeats 2000000 in
theorem turnC3 (n v : Nat) (w : World) (h0 : 0 < n) (h1 : n < 60) (h2 : v < 28) (hm : (n : Int) % 5 = 1) (hr : (v : Int) % 14 = 3) :
    Calls Try.prog 12 #[.int .i64 n, .int .i64 v] w fun e w' => e = .returned (dv ((n : Int) % 6 + 1) 64 4 1 1) ∧ Below w.heap.size w w' := by
  have d0 : decide ((0 : Int) < (n : Int)) = true := decide_eq_true (by omega)
  go_enter Try.func12, Try.ntmps12
  go_wp2_with fail
  refine bodyPost_ret (v := dv ((n : Int) % 6 + 1) 64 4 1 1) ?_ rfl ⟨rfl, turned_end _ _ _ _ _ _ _ _⟩
  simp [results, Try.results12, go_sem]

set_option maxRecDepth 100000 in
set_option maxHeartbeats 2000000 in
theorem turnC4 (n v : Nat) (w : World) (h0 : 0 < n) (h1 : n < 60) (h2 : v < 28) (hm : (n : Int) % 5 = 1) (hr : (v : Int) % 14 = 4) :
    Calls Try.prog 12 #[.int .i64 n, .int .i64 v] w fun e w' => e = .returned (dv ((n : Int) % 6 + 1) 64 5 1 1) ∧ Below w.heap.size w w' := by
  have d0 : decide ((0 : Int) < (n : Int)) = true := decide_eq_true (by omega)
  go_enter Try.func12, Try.ntmps12
  go_wp2_with fail
  refine bodyPost_ret (v := dv ((n : Int) % 6 + 1) 64 5 1 1) ?_ rfl ⟨rfl, turned_end _ _ _ _ _ _ _ _⟩
  simp [results, Try.results12, go_sem]

set_option maxRecDepth 100000 in
set_option maxHeartbeats 2000000 in
theorem turnC5 (n v : Nat) (w : World) (h0 : 0 < n) (h1 : n < 60) (h2 : v < 28) (hm : (n : Int) % 5 = 1) (hr : (v : Int) % 14 = 5) :
    Calls Try.prog 12 #[.int .i64 n, .int .i64 v] w fun e w' => e = .returned (dv ((n : Int) % 6 + 1) 64 8 1 1) ∧ Below w.heap.size w w' := by
  have d0 : decide ((0 : Int) < (n : Int)) = true := decide_eq_true (by omega)
  go_enter Try.func12, Try.ntmps12
  go_wp2_with fail
  refine bodyPost_ret (v := dv ((n : Int) % 6 + 1) 64 8 1 1) ?_ rfl ⟨rfl, turned_end _ _ _ _ _ _ _ _⟩
  simp [results, Try.results12, go_sem]

set_option maxRecDepth 100000 in
set_option maxHeartbeats 2000000 in
theorem turnC6 (n v : Nat) (w : World) (h0 : 0 < n) (h1 : n < 60) (h2 : v < 28) (hm : (n : Int) % 5 = 1) (hr : (v : Int) % 14 = 6) :
    Calls Try.prog 12 #[.int .i64 n, .int .i64 v] w fun e w' => e = .returned (dv ((n : Int) % 6 + 1) 64 28 1 1) ∧ Below w.heap.size w w' := by
  have d0 : decide ((0 : Int) < (n : Int)) = true := decide_eq_true (by omega)
  go_enter Try.func12, Try.ntmps12
  go_wp2_with fail
  refine bodyPost_ret (v := dv ((n : Int) % 6 + 1) 64 28 1 1) ?_ rfl ⟨rfl, turned_end _ _ _ _ _ _ _ _⟩
  simp [results, Try.results12, go_sem]

set_option maxRecDepth 100000 in
set_option maxHeartbeats 2000000 in
theorem turnC7 (n v : Nat) (w : World) (h0 : 0 < n) (h1 : n < 60) (h2 : v < 28) (hm : (n : Int) % 5 = 1) (hr : (v : Int) % 14 = 7) :
    Calls Try.prog 12 #[.int .i64 n, .int .i64 v] w fun e w' => e = .returned (dv ((n : Int) % 6 + 1) 64 31 1 1) ∧ Below w.heap.size w w' := by
  have d0 : decide ((0 : Int) < (n : Int)) = true := decide_eq_true (by omega)
  go_enter Try.func12, Try.ntmps12
  go_wp2_with fail
  refine bodyPost_ret (v := dv ((n : Int) % 6 + 1) 64 31 1 1) ?_ rfl ⟨rfl, turned_end _ _ _ _ _ _ _ _⟩
  simp [results, Try.results12, go_sem]

set_option maxRecDepth 100000 in
set_option maxHeartbeats 2000000 in
theorem turnC8 (n v : Nat) (w : World) (h0 : 0 < n) (h1 : n < 60) (h2 : v < 28) (hm : (n : Int) % 5 = 1) (hr : (v : Int) % 14 = 8) :
    Calls Try.prog 12 #[.int .i64 n, .int .i64 v] w fun e w' => e = .returned (dv ((n : Int) % 6 + 1) 64 32 1 1) ∧ Below w.heap.size w w' := by
  have d0 : decide ((0 : Int) < (n : Int)) = true := decide_eq_true (by omega)
  go_enter Try.func12, Try.ntmps12
  go_wp2_with fail
  refine bodyPost_ret (v := dv ((n : Int) % 6 + 1) 64 32 1 1) ?_ rfl ⟨rfl, turned_end _ _ _ _ _ _ _ _⟩
  simp [results, Try.results12, go_sem]

set_option maxRecDepth 100000 in
set_option maxHeartbeats 2000000 in
theorem turnC9 (n v : Nat) (w : World) (h0 : 0 < n) (h1 : n < 60) (h2 : v < 28) (hm : (n : Int) % 5 = 1) (hr : (v : Int) % 14 = 9) :
    Calls Try.prog 12 #[.int .i64 n, .int .i64 v] w fun e w' => e = .returned (dv ((n : Int) % 6 + 1) 64 33 1 1) ∧ Below w.heap.size w w' := by
  have d0 : decide ((0 : Int) < (n : Int)) = true := decide_eq_true (by omega)
  go_enter Try.func12, Try.ntmps12
  go_wp2_with fail
  refine bodyPost_ret (v := dv ((n : Int) % 6 + 1) 64 33 1 1) ?_ rfl ⟨rfl, turned_end _ _ _ _ _ _ _ _⟩
  simp [results, Try.results12, go_sem]

set_option maxRecDepth 100000 in
set_option maxHeartbeats 2000000 in
theorem turnC10 (n v : Nat) (w : World) (h0 : 0 < n) (h1 : n < 60) (h2 : v < 28) (hm : (n : Int) % 5 = 1) (hr : (v : Int) % 14 = 10) :
    Calls Try.prog 12 #[.int .i64 n, .int .i64 v] w fun e w' => e = .returned (dv ((n : Int) % 6 + 1) 64 36 1 1) ∧ Below w.heap.size w w' := by
  have d0 : decide ((0 : Int) < (n : Int)) = true := decide_eq_true (by omega)
  go_enter Try.func12, Try.ntmps12
  go_wp2_with fail
  refine bodyPost_ret (v := dv ((n : Int) % 6 + 1) 64 36 1 1) ?_ rfl ⟨rfl, turned_end _ _ _ _ _ _ _ _⟩
  simp [results, Try.results12, go_sem]

set_option maxRecDepth 100000 in
set_option maxHeartbeats 2000000 in
theorem turnC11 (n v : Nat) (w : World) (h0 : 0 < n) (h1 : n < 60) (h2 : v < 28) (hm : (n : Int) % 5 = 1) (hr : (v : Int) % 14 = 11) :
    Calls Try.prog 12 #[.int .i64 n, .int .i64 v] w fun e w' => e = .returned (dv ((n : Int) % 6 + 1) 64 4096 1 1) ∧ Below w.heap.size w w' := by
  have d0 : decide ((0 : Int) < (n : Int)) = true := decide_eq_true (by omega)
  go_enter Try.func12, Try.ntmps12
  go_wp2_with fail
  refine bodyPost_ret (v := dv ((n : Int) % 6 + 1) 64 4096 1 1) ?_ rfl ⟨rfl, turned_end _ _ _ _ _ _ _ _⟩
  simp [results, Try.results12, go_sem]

set_option maxRecDepth 100000 in
set_option maxHeartbeats 2000000 in
theorem turnC12 (n v : Nat) (w : World) (h0 : 0 < n) (h1 : n < 60) (h2 : v < 28) (hm : (n : Int) % 5 = 1) (hr : (v : Int) % 14 = 12) :
    Calls Try.prog 12 #[.int .i64 n, .int .i64 v] w fun e w' => e = .returned (dv ((n : Int) % 6 + 1) 64 4100 1 1) ∧ Below w.heap.size w w' := by
  have d0 : decide ((0 : Int) < (n : Int)) = true := decide_eq_true (by omega)
  go_enter Try.func12, Try.ntmps12
  go_wp2_with fail
  refine bodyPost_ret (v := dv ((n : Int) % 6 + 1) 64 4100 1 1) ?_ rfl ⟨rfl, turned_end _ _ _ _ _ _ _ _⟩
  simp [results, Try.results12, go_sem]

set_option maxRecDepth 100000 in
set_option maxHeartbeats 2000000 in
theorem turnC13 (n v : Nat) (w : World) (h0 : 0 < n) (h1 : n < 60) (h2 : v < 28) (hm : (n : Int) % 5 = 1) (hr : (v : Int) % 14 = 13) :
    Calls Try.prog 12 #[.int .i64 n, .int .i64 v] w fun e w' => e = .returned (dv ((n : Int) % 6 + 1) 64 9223372036854775807 1 1) ∧ Below w.heap.size w w' := by
  have d0 : decide ((0 : Int) < (n : Int)) = true := decide_eq_true (by omega)
  go_enter Try.func12, Try.ntmps12
  go_wp2_with fail
  refine bodyPost_ret (v := dv ((n : Int) % 6 + 1) 64 9223372036854775807 1 1) ?_ rfl ⟨rfl, turned_end _ _ _ _ _ _ _ _⟩
  simp [results, Try.results12, go_sem]

set_option maxRecDepth 100000 in
set_option maxHeartbeats 2000000 in
theorem turnD (n v : Nat) (w : World) (h0 : 0 < n) (h1 : n < 60) (h2 : v < 28) (hm : (n : Int) % 5 = 2) :
    Calls Try.prog 12 #[.int .i64 n, .int .i64 v] w fun e w' => e = .returned (dv ((n : Int) % 6 + 1) 64 32 ((v : Int) - 3) 1) ∧ Below w.heap.size w w' := by
  have d0 : decide ((0 : Int) < (n : Int)) = true := decide_eq_true (by omega)
  go_enter Try.func12, Try.ntmps12
  go_wp2_with fail
  refine bodyPost_ret (v := dv ((n : Int) % 6 + 1) 64 32 ((v : Int) - 3) 1) ?_ rfl ⟨rfl, turned_end2 _ _ _ _ _ _⟩
  simp [results, Try.results12, go_sem]

set_option maxRecDepth 100000 in
set_option maxHeartbeats 2000000 in
theorem turnE (n v : Nat) (w : World) (h0 : 0 < n) (h1 : n < 60) (h2 : v < 28) (hm : (n : Int) % 5 = 3) :
    Calls Try.prog 12 #[.int .i64 n, .int .i64 v] w fun e w' => e = .returned (dv ((n : Int) % 6 + 1) 64 32 1 ((v : Int) - 3)) ∧ Below w.heap.size w w' := by
  have d0 : decide ((0 : Int) < (n : Int)) = true := decide_eq_true (by omega)
  go_enter Try.func12, Try.ntmps12
  go_wp2_with fail
  refine bodyPost_ret (v := dv ((n : Int) % 6 + 1) 64 32 1 ((v : Int) - 3)) ?_ rfl ⟨rfl, turned_end2 _ _ _ _ _ _⟩
  simp [results, Try.results12, go_sem]

set_option maxRecDepth 100000 in
set_option maxHeartbeats 2000000 in
theorem turnF (n v : Nat) (w : World) (h0 : 0 < n) (h1 : n < 60) (h2 : v < 28) (hm : (n : Int) % 5 = 4) :
    Calls Try.prog 12 #[.int .i64 n, .int .i64 v] w fun e w' => e = .returned (dv ((n : Int) % 6 + 1) 64 32 1 1) ∧ Below w.heap.size w w' := by
  have d0 : decide ((0 : Int) < (n : Int)) = true := decide_eq_true (by omega)
  go_enter Try.func12, Try.ntmps12
  go_wp2_with fail
  refine bodyPost_ret (v := dv ((n : Int) % 6 + 1) 64 32 1 1) ?_ rfl ⟨rfl, turned_end2 _ _ _ _ _ _⟩
  simp [results, Try.results12, go_sem]

theorem dv_of {P : Program} {f : FuncId} {args : Array Value} {w : World} (d : Dv) (hd : okD d) (h : Calls P f args w fun e w' => e = .returned (dv d.k d.B d.S d.O d.L) ∧ Below w.heap.size w w') :
    Calls P f args w fun e w' => ∃ d : Dv, okD d ∧ e = .returned (dv d.k d.B d.S d.O d.L) ∧ Below w.heap.size w w' := h.mono fun e w' h => ⟨d, hd, h.1, h.2⟩
theorem turned_any (n v : Nat) (w : World) (h1 : n < 60) (h2 : v < 28) :
    Calls Try.prog 12 #[.int .i64 n, .int .i64 v] w fun e w' => ∃ d : Dv, okD d ∧ e = .returned (dv d.k d.B d.S d.O d.L) ∧ Below w.heap.size w w' := by
  have k0 : (0 : Int) ≤ (v : Int) % 8 - 1 + 1 ∧ (v : Int) % 8 - 1 < 8 := by omega
  have k1 : (0 : Int) ≤ (n : Int) % 6 ∧ (n : Int) % 6 < 6 := by omega
  have r9 : (v : Int) % 9 = 0 ∨ (v : Int) % 9 = 1 ∨ (v : Int) % 9 = 2 ∨ (v : Int) % 9 = 3 ∨ (v : Int) % 9 = 4 ∨ (v : Int) % 9 = 5 ∨ (v : Int) % 9 = 6 ∨ (v : Int) % 9 = 7 ∨ (v : Int) % 9 = 8 := by omega
  rcases Nat.eq_zero_or_pos n with rfl | h0
  · rcases r9 with hr | hr | hr | hr | hr | hr | hr | hr | hr

    · exact dv_of ⟨((v : Int) % 8 - 1), 0, 32, 1, 1⟩ (by unfold okD; refine ⟨⟨?_, ?_⟩, ⟨?_, ?_⟩, ⟨?_, ?_⟩, ⟨?_, ?_⟩, ⟨?_, ?_⟩⟩ <;> (try simp only []) <;> omega) (turnA0 0 v w h2 hr)
    · exact dv_of ⟨((v : Int) % 8 - 1), 1, 32, 1, 1⟩ (by unfold okD; refine ⟨⟨?_, ?_⟩, ⟨?_, ?_⟩, ⟨?_, ?_⟩, ⟨?_, ?_⟩, ⟨?_, ?_⟩⟩ <;> (try simp only []) <;> omega) (turnA1 0 v w h2 hr)
    · exact dv_of ⟨((v : Int) % 8 - 1), 2, 32, 1, 1⟩ (by unfold okD; refine ⟨⟨?_, ?_⟩, ⟨?_, ?_⟩, ⟨?_, ?_⟩, ⟨?_, ?_⟩, ⟨?_, ?_⟩⟩ <;> (try simp only []) <;> omega) (turnA2 0 v w h2 hr)
    · exact dv_of ⟨((v : Int) % 8 - 1), 4, 32, 1, 1⟩ (by unfold okD; refine ⟨⟨?_, ?_⟩, ⟨?_, ?_⟩, ⟨?_, ?_⟩, ⟨?_, ?_⟩, ⟨?_, ?_⟩⟩ <;> (try simp only []) <;> omega) (turnA3 0 v w h2 hr)
    · exact dv_of ⟨((v : Int) % 8 - 1), 4294967292, 32, 1, 1⟩ (by unfold okD; refine ⟨⟨?_, ?_⟩, ⟨?_, ?_⟩, ⟨?_, ?_⟩, ⟨?_, ?_⟩, ⟨?_, ?_⟩⟩ <;> (try simp only []) <;> omega) (turnA4 0 v w h2 hr)
    · exact dv_of ⟨((v : Int) % 8 - 1), 4294967264, 32, 1, 1⟩ (by unfold okD; refine ⟨⟨?_, ?_⟩, ⟨?_, ?_⟩, ⟨?_, ?_⟩, ⟨?_, ?_⟩, ⟨?_, ?_⟩⟩ <;> (try simp only []) <;> omega) (turnA5 0 v w h2 hr)
    · exact dv_of ⟨((v : Int) % 8 - 1), 4294967268, 32, 1, 1⟩ (by unfold okD; refine ⟨⟨?_, ?_⟩, ⟨?_, ?_⟩, ⟨?_, ?_⟩, ⟨?_, ?_⟩, ⟨?_, ?_⟩⟩ <;> (try simp only []) <;> omega) (turnA6 0 v w h2 hr)
    · exact dv_of ⟨((v : Int) % 8 - 1), 4294967295, 32, 1, 1⟩ (by unfold okD; refine ⟨⟨?_, ?_⟩, ⟨?_, ?_⟩, ⟨?_, ?_⟩, ⟨?_, ?_⟩, ⟨?_, ?_⟩⟩ <;> (try simp only []) <;> omega) (turnA7 0 v w h2 hr)
    · exact dv_of ⟨((v : Int) % 8 - 1), 2147483648, 32, 1, 1⟩ (by unfold okD; refine ⟨⟨?_, ?_⟩, ⟨?_, ?_⟩, ⟨?_, ?_⟩, ⟨?_, ?_⟩, ⟨?_, ?_⟩⟩ <;> (try simp only []) <;> omega) (turnA8 0 v w h2 hr)
  · have r5 : (n : Int) % 5 = 0 ∨ (n : Int) % 5 = 1 ∨ (n : Int) % 5 = 2 ∨ (n : Int) % 5 = 3 ∨ (n : Int) % 5 = 4 := by omega
    have r14 : (v : Int) % 14 = 0 ∨ (v : Int) % 14 = 1 ∨ (v : Int) % 14 = 2 ∨ (v : Int) % 14 = 3 ∨ (v : Int) % 14 = 4 ∨ (v : Int) % 14 = 5 ∨ (v : Int) % 14 = 6 ∨ (v : Int) % 14 = 7 ∨ (v : Int) % 14 = 8 ∨ (v : Int) % 14 = 9 ∨ (v : Int) % 14 = 10 ∨ (v : Int) % 14 = 11 ∨ (v : Int) % 14 = 12 ∨ (v : Int) % 14 = 13 := by omega
    rcases r5 with hm | hm | hm | hm | hm
    · rcases r9 with hr | hr | hr | hr | hr | hr | hr | hr | hr
      · exact dv_of ⟨((n : Int) % 6 + 1), 0, 32, 1, 1⟩ (by unfold okD; refine ⟨⟨?_, ?_⟩, ⟨?_, ?_⟩, ⟨?_, ?_⟩, ⟨?_, ?_⟩, ⟨?_, ?_⟩⟩ <;> (try simp only []) <;> omega) (turnB0 n v w h0 h1 h2 hm hr)
      · exact dv_of ⟨((n : Int) % 6 + 1), 1, 32, 1, 1⟩ (by unfold okD; refine ⟨⟨?_, ?_⟩, ⟨?_, ?_⟩, ⟨?_, ?_⟩, ⟨?_, ?_⟩, ⟨?_, ?_⟩⟩ <;> (try simp only []) <;> omega) (turnB1 n v w h0 h1 h2 hm hr)
      · exact dv_of ⟨((n : Int) % 6 + 1), 2, 32, 1, 1⟩ (by unfold okD; refine ⟨⟨?_, ?_⟩, ⟨?_, ?_⟩, ⟨?_, ?_⟩, ⟨?_, ?_⟩, ⟨?_, ?_⟩⟩ <;> (try simp only []) <;> omega) (turnB2 n v w h0 h1 h2 hm hr)
      · exact dv_of ⟨((n : Int) % 6 + 1), 4, 32, 1, 1⟩ (by unfold okD; refine ⟨⟨?_, ?_⟩, ⟨?_, ?_⟩, ⟨?_, ?_⟩, ⟨?_, ?_⟩, ⟨?_, ?_⟩⟩ <;> (try simp only []) <;> omega) (turnB3 n v w h0 h1 h2 hm hr)
      · exact dv_of ⟨((n : Int) % 6 + 1), 4294967292, 32, 1, 1⟩ (by unfold okD; refine ⟨⟨?_, ?_⟩, ⟨?_, ?_⟩, ⟨?_, ?_⟩, ⟨?_, ?_⟩, ⟨?_, ?_⟩⟩ <;> (try simp only []) <;> omega) (turnB4 n v w h0 h1 h2 hm hr)
      · exact dv_of ⟨((n : Int) % 6 + 1), 4294967264, 32, 1, 1⟩ (by unfold okD; refine ⟨⟨?_, ?_⟩, ⟨?_, ?_⟩, ⟨?_, ?_⟩, ⟨?_, ?_⟩, ⟨?_, ?_⟩⟩ <;> (try simp only []) <;> omega) (turnB5 n v w h0 h1 h2 hm hr)
      · exact dv_of ⟨((n : Int) % 6 + 1), 4294967268, 32, 1, 1⟩ (by unfold okD; refine ⟨⟨?_, ?_⟩, ⟨?_, ?_⟩, ⟨?_, ?_⟩, ⟨?_, ?_⟩, ⟨?_, ?_⟩⟩ <;> (try simp only []) <;> omega) (turnB6 n v w h0 h1 h2 hm hr)
      · exact dv_of ⟨((n : Int) % 6 + 1), 4294967295, 32, 1, 1⟩ (by unfold okD; refine ⟨⟨?_, ?_⟩, ⟨?_, ?_⟩, ⟨?_, ?_⟩, ⟨?_, ?_⟩, ⟨?_, ?_⟩⟩ <;> (try simp only []) <;> omega) (turnB7 n v w h0 h1 h2 hm hr)
      · exact dv_of ⟨((n : Int) % 6 + 1), 2147483648, 32, 1, 1⟩ (by unfold okD; refine ⟨⟨?_, ?_⟩, ⟨?_, ?_⟩, ⟨?_, ?_⟩, ⟨?_, ?_⟩, ⟨?_, ?_⟩⟩ <;> (try simp only []) <;> omega) (turnB8 n v w h0 h1 h2 hm hr)
    · rcases r14 with hr | hr | hr | hr | hr | hr | hr | hr | hr | hr | hr | hr | hr | hr
      · exact dv_of ⟨((n : Int) % 6 + 1), 64, (-9223372036854775808), 1, 1⟩ (by unfold okD; refine ⟨⟨?_, ?_⟩, ⟨?_, ?_⟩, ⟨?_, ?_⟩, ⟨?_, ?_⟩, ⟨?_, ?_⟩⟩ <;> (try simp only []) <;> omega) (turnC0 n v w h0 h1 h2 hm hr)
      · exact dv_of ⟨((n : Int) % 6 + 1), 64, (-4), 1, 1⟩ (by unfold okD; refine ⟨⟨?_, ?_⟩, ⟨?_, ?_⟩, ⟨?_, ?_⟩, ⟨?_, ?_⟩, ⟨?_, ?_⟩⟩ <;> (try simp only []) <;> omega) (turnC1 n v w h0 h1 h2 hm hr)
      · exact dv_of ⟨((n : Int) % 6 + 1), 64, 0, 1, 1⟩ (by unfold okD; refine ⟨⟨?_, ?_⟩, ⟨?_, ?_⟩, ⟨?_, ?_⟩, ⟨?_, ?_⟩, ⟨?_, ?_⟩⟩ <;> (try simp only []) <;> omega) (turnC2 n v w h0 h1 h2 hm hr)
      · exact dv_of ⟨((n : Int) % 6 + 1), 64, 4, 1, 1⟩ (by unfold okD; refine ⟨⟨?_, ?_⟩, ⟨?_, ?_⟩, ⟨?_, ?_⟩, ⟨?_, ?_⟩, ⟨?_, ?_⟩⟩ <;> (try simp only []) <;> omega) (turnC3 n v w h0 h1 h2 hm hr)
      · exact dv_of ⟨((n : Int) % 6 + 1), 64, 5, 1, 1⟩ (by unfold okD; refine ⟨⟨?_, ?_⟩, ⟨?_, ?_⟩, ⟨?_, ?_⟩, ⟨?_, ?_⟩, ⟨?_, ?_⟩⟩ <;> (try simp only []) <;> omega) (turnC4 n v w h0 h1 h2 hm hr)
      · exact dv_of ⟨((n : Int) % 6 + 1), 64, 8, 1, 1⟩ (by unfold okD; refine ⟨⟨?_, ?_⟩, ⟨?_, ?_⟩, ⟨?_, ?_⟩, ⟨?_, ?_⟩, ⟨?_, ?_⟩⟩ <;> (try simp only []) <;> omega) (turnC5 n v w h0 h1 h2 hm hr)
      · exact dv_of ⟨((n : Int) % 6 + 1), 64, 28, 1, 1⟩ (by unfold okD; refine ⟨⟨?_, ?_⟩, ⟨?_, ?_⟩, ⟨?_, ?_⟩, ⟨?_, ?_⟩, ⟨?_, ?_⟩⟩ <;> (try simp only []) <;> omega) (turnC6 n v w h0 h1 h2 hm hr)
      · exact dv_of ⟨((n : Int) % 6 + 1), 64, 31, 1, 1⟩ (by unfold okD; refine ⟨⟨?_, ?_⟩, ⟨?_, ?_⟩, ⟨?_, ?_⟩, ⟨?_, ?_⟩, ⟨?_, ?_⟩⟩ <;> (try simp only []) <;> omega) (turnC7 n v w h0 h1 h2 hm hr)
      · exact dv_of ⟨((n : Int) % 6 + 1), 64, 32, 1, 1⟩ (by unfold okD; refine ⟨⟨?_, ?_⟩, ⟨?_, ?_⟩, ⟨?_, ?_⟩, ⟨?_, ?_⟩, ⟨?_, ?_⟩⟩ <;> (try simp only []) <;> omega) (turnC8 n v w h0 h1 h2 hm hr)
      · exact dv_of ⟨((n : Int) % 6 + 1), 64, 33, 1, 1⟩ (by unfold okD; refine ⟨⟨?_, ?_⟩, ⟨?_, ?_⟩, ⟨?_, ?_⟩, ⟨?_, ?_⟩, ⟨?_, ?_⟩⟩ <;> (try simp only []) <;> omega) (turnC9 n v w h0 h1 h2 hm hr)
      · exact dv_of ⟨((n : Int) % 6 + 1), 64, 36, 1, 1⟩ (by unfold okD; refine ⟨⟨?_, ?_⟩, ⟨?_, ?_⟩, ⟨?_, ?_⟩, ⟨?_, ?_⟩, ⟨?_, ?_⟩⟩ <;> (try simp only []) <;> omega) (turnC10 n v w h0 h1 h2 hm hr)
      · exact dv_of ⟨((n : Int) % 6 + 1), 64, 4096, 1, 1⟩ (by unfold okD; refine ⟨⟨?_, ?_⟩, ⟨?_, ?_⟩, ⟨?_, ?_⟩, ⟨?_, ?_⟩, ⟨?_, ?_⟩⟩ <;> (try simp only []) <;> omega) (turnC11 n v w h0 h1 h2 hm hr)
      · exact dv_of ⟨((n : Int) % 6 + 1), 64, 4100, 1, 1⟩ (by unfold okD; refine ⟨⟨?_, ?_⟩, ⟨?_, ?_⟩, ⟨?_, ?_⟩, ⟨?_, ?_⟩, ⟨?_, ?_⟩⟩ <;> (try simp only []) <;> omega) (turnC12 n v w h0 h1 h2 hm hr)
      · exact dv_of ⟨((n : Int) % 6 + 1), 64, 9223372036854775807, 1, 1⟩ (by unfold okD; refine ⟨⟨?_, ?_⟩, ⟨?_, ?_⟩, ⟨?_, ?_⟩, ⟨?_, ?_⟩, ⟨?_, ?_⟩⟩ <;> (try simp only []) <;> omega) (turnC13 n v w h0 h1 h2 hm hr)
    · exact dv_of ⟨((n : Int) % 6 + 1), 64, 32, (v : Int) - 3, 1⟩ (by unfold okD; refine ⟨⟨?_, ?_⟩, ⟨?_, ?_⟩, ⟨?_, ?_⟩, ⟨?_, ?_⟩, ⟨?_, ?_⟩⟩ <;> (try simp only []) <;> omega) (turnD n v w h0 h1 h2 hm)
    · exact dv_of ⟨((n : Int) % 6 + 1), 64, 32, 1, (v : Int) - 3⟩ (by unfold okD; refine ⟨⟨?_, ?_⟩, ⟨?_, ?_⟩, ⟨?_, ?_⟩, ⟨?_, ?_⟩, ⟨?_, ?_⟩⟩ <;> (try simp only []) <;> omega) (turnE n v w h0 h1 h2 hm)
    · exact dv_of ⟨((n : Int) % 6 + 1), 64, 32, 1, 1⟩ (by unfold okD; refine ⟨⟨?_, ?_⟩, ⟨?_, ?_⟩, ⟨?_, ?_⟩, ⟨?_, ?_⟩, ⟨?_, ?_⟩⟩ <;> (try simp only []) <;> omega) (turnF n v w h0 h1 h2 hm)
end Go.Proofs.Ytfpammfcchboaaa.Win
