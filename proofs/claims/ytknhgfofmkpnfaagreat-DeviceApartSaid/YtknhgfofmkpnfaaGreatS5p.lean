/- The plain laws of stage 15, as their cards ask. -/
import Derived.Test.YtknhgfofmkpnfaaGreatS5n
import Derived.Test.YtknhgfofmkpnfaaGreatTs
namespace Go.Proofs.YtknhgfofmkpnfaaGreat.Devs
open Go.RowKit Go.Maps Go.ChangeShapes Go.WideShapes Go.ChangeAt Fifo Orow Word Win Mbox
set_option linter.unusedVariables false

theorem wf_64 {x : Int} (h : (Lit.int .i64 x).wf = true) : I64 x := by
  simp only [Lit.wf, Bool.and_eq_true, decide_eq_true_eq] at h
  have e1 : IntKind.i64.min = -9223372036854775808 := rfl
  have e2 : IntKind.i64.max = 9223372036854775807 := rfl
  rw [e1, e2] at h
  exact h
theorem wf_32 {x : Int} (h : (Lit.int .u32 x).wf = true) : 0 ≤ x ∧ x < 4294967296 := by
  simp only [Lit.wf, Bool.and_eq_true, decide_eq_true_eq] at h
  have e1 : IntKind.u32.min = 0 := rfl
  have e2 : IntKind.u32.max = 4294967295 := rfl
  rw [e1, e2] at h
  omega
theorem fresh_law (k Bv S o l : Int) (a1 : Option Addr) (len1 cap1 : Nat) (l1 : List Dd) (a2 : Option Addr) (len2 cap2 : Nat) (l2 : List Dd) (w : World) (g0 : (Lit.int .i64 k).wf = true) (g1 : (Lit.int .u32 Bv).wf = true) (g2 : (Lit.int .i64 S).wf = true) (g3 : (Lit.int .i64 o).wf = true) (g4 : (Lit.int .i64 l).wf = true) (h1 : RowDd w a1 len1 l1) (k1 : a1 = none → len1 = 0 ∧ cap1 = 0) (m1 : len1 ≤ cap1) (x1 : len1 ≤ maxLen) (h2 : RowDd w a2 len2 l2) (k2 : a2 = none → len2 = 0 ∧ cap2 = 0) (m2 : len2 ≤ cap2) (x2 : len2 ≤ maxLen) (hSh : w.ShapedOpen Tryz.prog) :
    Calls Tryz.prog 3 #[devA k Bv S o l, .slice a1 len1 cap1, .slice a2 len2 cap2] w fun e w' => e = .returned (.bool true) ∧ Below w.heap.size w w' := by
  obtain ⟨t, hT⟩ := Lane.tab_shaped hSh
  exact @fresh_walk ⟨t⟩ w.heap.size k Bv S o l a1 len1 cap1 l1 a2 len2 cap2 l2 w ⟨hT, @Ram.tab_lt ⟨t⟩ _ hT⟩ (Nat.le_refl _) (wf_64 g0) (wf_32 g1) (wf_64 g2) (wf_64 g3) (wf_64 g4) h1 h2
theorem apart_law (k Bv S o l : Int) (a1 : Option Addr) (len1 cap1 : Nat) (l1 : List Dd) (a2 : Option Addr) (len2 cap2 : Nat) (l2 : List Dd) (w : World) (g0 : (Lit.int .i64 k).wf = true) (g1 : (Lit.int .u32 Bv).wf = true) (g2 : (Lit.int .i64 S).wf = true) (g3 : (Lit.int .i64 o).wf = true) (g4 : (Lit.int .i64 l).wf = true) (h1 : RowDd w a1 len1 l1) (k1 : a1 = none → len1 = 0 ∧ cap1 = 0) (m1 : len1 ≤ cap1) (x1 : len1 ≤ maxLen) (h2 : RowDd w a2 len2 l2) (k2 : a2 = none → len2 = 0 ∧ cap2 = 0) (m2 : len2 ≤ cap2) (x2 : len2 ≤ maxLen) (hSh : w.ShapedOpen Tryz.prog) :
    Calls Tryz.prog 5 #[devA k Bv S o l, .slice a1 len1 cap1, .slice a2 len2 cap2] w fun e w' => e = .returned (.bool true) ∧ Below w.heap.size w w' := by
  obtain ⟨t, hT⟩ := Lane.tab_shaped hSh
  exact @apart_walk ⟨t⟩ w.heap.size k Bv S o l a1 len1 cap1 l1 a2 len2 cap2 l2 w ⟨hT, @Ram.tab_lt ⟨t⟩ _ hT⟩ (Nat.le_refl _) (wf_64 g0) (wf_32 g1) (wf_64 g2) (wf_64 g3) (wf_64 g4) h1 h2
end Go.Proofs.YtknhgfofmkpnfaaGreat.Devs
