/- The plain laws of stage 15, as their cards ask. -/
import Derived.Test.YtknhgfofmkpnfaaGreatS5o
import Derived.Test.YtknhgfofmkpnfaaGreatTs
namespace Go.Proofs.YtknhgfofmkpnfaaGreat.Devs
open Go.RowKit Go.Maps Go.ChangeShapes Go.WideShapes Go.ChangeAt Fifo Orow Word Win Mbox
set_option linter.unusedVariables false

theorem refuses_law (k Bv S o l : Int) (a1 : Option Addr) (len1 cap1 : Nat) (l1 : List Dd) (off size v : Int) (w : World) (g0 : (Lit.int .i64 k).wf = true) (g1 : (Lit.int .u32 Bv).wf = true) (g2 : (Lit.int .i64 S).wf = true) (g3 : (Lit.int .i64 o).wf = true) (g4 : (Lit.int .i64 l).wf = true) (h1 : RowDd w a1 len1 l1) (k1 : a1 = none → len1 = 0 ∧ cap1 = 0) (m1 : len1 ≤ cap1) (x1 : len1 ≤ maxLen) (y0 : (Lit.int .i64 off).wf = true) (y1 : (Lit.int .i64 size).wf = true) (y2 : (Lit.int .u32 v).wf = true) (hSh : w.ShapedOpen Tryz.prog) :
    Calls Tryz.prog 4 #[devA k Bv S o l, .slice a1 len1 cap1, .int .i64 off, .int .i64 size, .int .u32 v] w fun e w' => e = .returned (.bool true) ∧ Below w.heap.size w w' := by
  obtain ⟨t, hT⟩ := Lane.tab_shaped hSh
  exact @refuses_walk ⟨t⟩ w.heap.size k Bv S o l a1 len1 cap1 l1 off size v w ⟨hT, @Ram.tab_lt ⟨t⟩ _ hT⟩ (Nat.le_refl _) (@wf_64 ⟨t⟩ _ g0) (@wf_32 ⟨t⟩ _ g1) (@wf_64 ⟨t⟩ _ g2) (@wf_64 ⟨t⟩ _ g3) (@wf_64 ⟨t⟩ _ g4) h1 (@wf_64 ⟨t⟩ _ y0) (@wf_64 ⟨t⟩ _ y1) (@wf_32 ⟨t⟩ _ y2)
end Go.Proofs.YtknhgfofmkpnfaaGreat.Devs
