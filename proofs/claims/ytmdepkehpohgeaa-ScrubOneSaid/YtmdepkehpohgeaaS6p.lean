/- The laws of stage 16, as their cards ask. -/
import Derived.Test.YtmdepkehpohgeaaS6x
namespace Go.Proofs.Ytmdepkehpohgeaa.Scr
open Go.RowKit Go.Maps Go.ChangeShapes Go.WideShapes Go.ChangeAt Fifo Orow Word
set_option linter.unusedVariables false

theorem wf_64 {x : Int} (h : (Lit.int .i64 x).wf = true) : I64 x := by
  simp only [Lit.wf, Bool.and_eq_true, decide_eq_true_eq] at h
  have e1 : IntKind.i64.min = -9223372036854775808 := rfl
  have e2 : IntKind.i64.max = 9223372036854775807 := rfl
  rw [e1, e2] at h
  exact h
theorem const_law (a0 : Option Addr) (len0 cap0 : Nat) (l0 : List Win.Dv) (a1 : Option Addr) (len1 cap1 : Nat) (l1 : List Dd) (x2 x3 : Int) (a4 : Option Addr) (len4 cap4 : Nat) (l4 : List Dd) (w : World) (h0 : Win.RowV w a0 len0 l0) (n0 : a0 = none → len0 = 0 ∧ cap0 = 0) (c0 : len0 ≤ cap0) (m0 : len0 ≤ maxLen) (z0 : len0 < 140737488355328) (h1 : RowDd w a1 len1 l1) (n1 : a1 = none → len1 = 0 ∧ cap1 = 0) (c1 : len1 ≤ cap1) (m1 : len1 ≤ maxLen) (z1 : len1 < 140737488355328) (h2 : (Lit.int .i64 x2).wf = true) (h3 : (Lit.int .i64 x3).wf = true) (h4 : RowDd w a4 len4 l4) (n4 : a4 = none → len4 = 0 ∧ cap4 = 0) (c4 : len4 ≤ cap4) (m4 : len4 ≤ maxLen) (z4 : len4 < 140737488355328) :
    Calls Try.prog 3 #[.slice a0 len0 cap0, .slice a1 len1 cap1, .int .i64 x2, .int .i64 x3, .slice a4 len4 cap4] w fun e w' => e = .returned (.bool true) ∧ Below w.heap.size w w' :=
  const_walk 0 a0 len0 cap0 l0 a1 len1 cap1 l1 x2 x3 a4 len4 cap4 l4 w trivial (Nat.zero_le _) h0 c0 z0 h1 z1 h4 c4 z4
theorem one_law (a0 : Option Addr) (len0 cap0 : Nat) (l0 : List Win.Dv) (a1 : Option Addr) (len1 cap1 : Nat) (l1 : List Dd) (x2 x3 : Int) (w : World) (h0 : Win.RowV w a0 len0 l0) (n0 : a0 = none → len0 = 0 ∧ cap0 = 0) (c0 : len0 ≤ cap0) (m0 : len0 ≤ maxLen) (z0 : len0 < 140737488355328) (h1 : RowDd w a1 len1 l1) (n1 : a1 = none → len1 = 0 ∧ cap1 = 0) (c1 : len1 ≤ cap1) (m1 : len1 ≤ maxLen) (z1 : len1 < 140737488355328) (h2 : (Lit.int .i64 x2).wf = true) (h3 : (Lit.int .i64 x3).wf = true) :
    Calls Try.prog 4 #[.slice a0 len0 cap0, .slice a1 len1 cap1, .int .i64 x2, .int .i64 x3] w fun e w' => e = .returned (.bool true) ∧ Below w.heap.size w w' :=
  one_walk 0 a0 len0 cap0 l0 a1 len1 cap1 l1 x2 x3 w trivial (Nat.zero_le _) h0 c0 z0 h1 z1 (wf_64 h2) (wf_64 h3)
end Go.Proofs.Ytmdepkehpohgeaa.Scr
