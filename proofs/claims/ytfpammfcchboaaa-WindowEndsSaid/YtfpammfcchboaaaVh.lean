/- The walk of WindowAsks. (ht: what of laid variables package window needs: in the stand-in nothing.) -/
import Derived.Test.YtfpammfcchboaaaVg
namespace Go.Proofs.Ytfpammfcchboaaa.Win
open Go.RowKit Fifo Go.Maps Go.ChangeShapes Go.WideShapes Go.ChangeAt Go.Proofs.Ytfpammfcchboaaa.Access
set_option linter.unusedVariables false

theorem bd64 {x : Int} (h : (Lit.int .i64 x).wf = true) : -9223372036854775808 ≤ x ∧ x ≤ 9223372036854775807 := by
  simp only [Lit.wf, Bool.and_eq_true, decide_eq_true_eq] at h
  have h1 : IntKind.i64.min = -9223372036854775808 := rfl
  have h2 : IntKind.i64.max = 9223372036854775807 := rfl
  omega
theorem bd32 {x : Int} (h : (Lit.int .u32 x).wf = true) : 0 ≤ x ∧ x < 4294967296 := by
  simp only [Lit.wf, Bool.and_eq_true, decide_eq_true_eq] at h
  have h1 : IntKind.u32.min = 0 := rfl
  have h2 : IntKind.u32.max = 4294967295 := rfl
  omega
theorem okD_of {k B T O L : Int} (hk : (Lit.int .i64 k).wf = true) (hB : (Lit.int .u32 B).wf = true) (hT : (Lit.int .i64 T).wf = true) (hO : (Lit.int .i64 O).wf = true) (hL : (Lit.int .i64 L).wf = true) : okD ⟨k, B, T, O, L⟩ :=
  ⟨bd64 hk, bd32 hB, bd64 hT, bd64 hO, bd64 hL⟩
theorem wasks_walk_of (a : Option Addr) (n cap : Nat) (l : List Dv) (k B T O L : Int) (W2 : Int) (r2 : Bool) (A S D : Int) (p : Int) (w : World) (h : RowV w a n l) (hno : a = none → n = 0 ∧ cap = 0) (hc : n ≤ cap) (hm : n ≤ maxLen)
    (hk : (Lit.int .i64 k).wf = true) (hB : (Lit.int .u32 B).wf = true) (hT : (Lit.int .i64 T).wf = true) (hO : (Lit.int .i64 O).wf = true) (hL : (Lit.int .i64 L).wf = true)
    (hW2 : (Lit.int .i64 W2).wf = true) (hA : (Lit.int .u32 A).wf = true) (hS : (Lit.int .i64 S).wf = true) (hD : (Lit.int .u32 D).wf = true) (hp : (Lit.int .u32 p).wf = true) (ht : WT w) :
    Calls Try.prog 3 #[.slice a n cap, dv k B T O L, acc W2 r2 A S D, .int .u32 p] w fun e w' => e = .returned (.bool true) ∧ Below w.heap.size w w' := by
  have ba := bd32 hA
  have bd := bd32 hD
  have hd := okD_of hk hB hT hO hL
  by_cases hn : n ≤ 100
  · exact wasks_core a n cap l k B T O L W2 r2 A S D p w hn hno hd (by omega) (by omega) (by omega) (by omega) ht h
  · have d1 : decide ((100 : Int) < (n : Int)) = true := decide_eq_true (by omega)
    have hb0 := below_new (w := w) (.cells #[.int .i64 k, .int .u32 B, .int .i64 T, .int .i64 O, .int .i64 L] 26)
    have B0 := Lib.hid (hb0.alloc hb0.size (.cells #[.int .i64 W2, .bool r2, .int .u32 A, .int .i64 S, .int .u32 D] 28))
    have Ht := Lib.hid ht
    clear ba bd hW2 hA hS hD hp hm hno h hc hk hB hT hO hL hd hb0 ht
    go_enter Try.func3, Try.ntmps3
    go_wp2_with fail
    refine (awake_any _ (Ht.out.keep B0.out)).mono ?_
    rintro e w1 ⟨rfl, hb1⟩
    have B1 := Lib.hid (B0.out.trans (hb1.mono B0.out.size))
    clear hb1
    go_wp2_with fail
    go_ret
    exact ⟨rfl, B1.out⟩
theorem wasks_walk (a : Option Addr) (n cap : Nat) (l : List Dv) (k B T O L : Int) (W2 : Int) (r2 : Bool) (A S D : Int) (p : Int) (w : World) (h : RowV w a n l) (hno : a = none → n = 0 ∧ cap = 0) (hc : n ≤ cap) (hm : n ≤ maxLen)
    (hk : (Lit.int .i64 k).wf = true) (hB : (Lit.int .u32 B).wf = true) (hT : (Lit.int .i64 T).wf = true) (hO : (Lit.int .i64 O).wf = true) (hL : (Lit.int .i64 L).wf = true)
    (hW2 : (Lit.int .i64 W2).wf = true) (hA : (Lit.int .u32 A).wf = true) (hS : (Lit.int .i64 S).wf = true) (hD : (Lit.int .u32 D).wf = true) (hp : (Lit.int .u32 p).wf = true) :
    Calls Try.prog 3 #[.slice a n cap, dv k B T O L, acc W2 r2 A S D, .int .u32 p] w fun e w' => e = .returned (.bool true) ∧ Below w.heap.size w w' :=
  wasks_walk_of a n cap l k B T O L W2 r2 A S D p w h hno hc hm hk hB hT hO hL hW2 hA hS hD hp trivial
end Go.Proofs.Ytfpammfcchboaaa.Win
