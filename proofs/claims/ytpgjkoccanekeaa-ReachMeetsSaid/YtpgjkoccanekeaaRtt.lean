/- What two reaches meet in: the walk of ReachMeets. -/
import Derived.Test.YtpgjkoccanekeaaRttA
import Derived.Test.YtpgjkoccanekeaaRttB
import Derived.Test.YtpgjkoccanekeaaRttC
namespace Go.Proofs.Ytpgjkoccanekeaa.Reach
open Go.RowKit
set_option linter.unusedVariables false

theorem meets_walk (f t g u p n : Int) (w : World) (hf : (Lit.int .u32 f).wf = true) (ht : (Lit.int .u32 t).wf = true) (hg : (Lit.int .u32 g).wf = true) (hu : (Lit.int .u32 u).wf = true) (hp : (Lit.int .u32 p).wf = true) (hn : (Lit.int .i64 n).wf = true) :
    Calls Try.prog 7 #[.agg #[.int .u32 f, .int .u32 t], .agg #[.int .u32 g, .int .u32 u], .int .u32 p, .int .i64 n] w fun e w' => e = .returned (.bool true) ∧ Below w.heap.size w w' := by
  obtain ⟨p0, p1⟩ := bounds_u32 hp
  obtain ⟨n0, n1⟩ := bounds_i64 hn
  have hx := meetF_comm f t g u
  have hy := meetT_comm f t g u
  have hi := meetB_comm f t g u
  have ap : rightB f t = true → rightB g u = true → apartB [(f, t), (g, u)] = !meetB f t g u := apart_pair f t g u
  cases hok : ofB p n
  · have a := of_decide_eq_false hok
    have e1 : ofF p n = 0 := by unfold ofF; rw [if_neg a]
    have e2 : ofT p n = 0 := by unfold ofT; rw [if_neg a]
    by_cases h1 : n < 1
    · exact meets_B f t g u p n _ _ 0 _ _ _ _ _ _ _ w p0 (by omega) n0 n1 (Lib.hid rfl) (Lib.hid rfl) (Lib.hid rfl) (Lib.hid hx) (Lib.hid hy) (Lib.hid hi) (Lib.hid rfl) (Lib.hid rfl) (Lib.hid rfl) (Lib.hid rfl) (Lib.hid rfl) (Lib.hid rfl)
        (meet_in f t g u) (in_meet f t g u) ap (caseA f t g u p) (caseB f t g u) (Lib.hid e1) (Lib.hid e2) (Lib.hid hok) h1
    · exact meets_C f t g u p n _ _ 0 _ _ _ _ _ _ _ w p0 (by omega) n0 n1 (Lib.hid rfl) (Lib.hid rfl) (Lib.hid rfl) (Lib.hid hx) (Lib.hid hy) (Lib.hid hi) (Lib.hid rfl) (Lib.hid rfl) (Lib.hid rfl) (Lib.hid rfl) (Lib.hid rfl) (Lib.hid rfl)
        (meet_in f t g u) (in_meet f t g u) ap (caseA f t g u p) (caseB f t g u) (Lib.hid e1) (Lib.hid e2) (Lib.hid hok) (by omega) (by omega)
  · obtain ⟨e1, e2, e3, e4⟩ := of_facts p n p0 hok
    have a := of_decide_eq_true hok
    rw [e1] at e2 e3 e4
    have b1 : 0 ≤ ofT p n ∧ ofT p n < 4294967296 := by unfold ofT; rw [if_pos a]; omega
    exact meets_A f t g u p n _ _ _ _ _ _ _ _ _ _ w p0 (by omega) n0 n1 (Lib.hid rfl) (Lib.hid rfl) (Lib.hid rfl) (Lib.hid hx) (Lib.hid hy) (Lib.hid hi) (Lib.hid rfl) (Lib.hid rfl) (Lib.hid rfl) (Lib.hid rfl) (Lib.hid rfl) (Lib.hid rfl)
      (meet_in f t g u) (in_meet f t g u) ap (caseA f t g u p) (caseB f t g u) (Lib.hid e1) (Lib.hid rfl) (Lib.hid hok) (Lib.hid e2) (Lib.hid e3) (Lib.hid e4) b1.1 b1.2
end Go.Proofs.Ytpgjkoccanekeaa.Reach
