/- WindowAsks: for every input that can be read, with the listed tables as the program lays them, the law returns true, and its arguments read as they did.
   Conditions: those of the given card alone. -/
import Derived.Test.YtfpammfcchboaaaVh
import Derived.Test.YtfpammfcchboaaaRegv
import Derived.Test.YtfpammfcchboaaaAgg
import Derived.Test.YtfpammfcchboaaaRows
import Derived.WalkKit
import Derived.ProofKit
import Derived.OpenShut
import Derived.ShutString
import Derived.ChangeOld
import Derived.Below
import Derived.Lib.SmallJoins
import Derived.Deep.SlicePairs
namespace Go.Proofs.Ytfpammfcchboaaa.windowAsksLaw
open Go.ChangeShapes Go.WideShapes Go.ChangeAt Go.RowKit
open Go.ChangeMaps (open_string shut_string)
set_option linter.unusedVariables false

theorem own : ownKnob Try.prog.godebug = none := by kernel_rfl
theorem laidOut : laidOutB Try.prog = true := by kernel_rfl

set_option maxRecDepth 100000 in
theorem contract (H : Type) (enc : TypeId × Value → H) (W : World) (base : Nat) (args : Array Value) (ds gs : List (DataW H)) (before : List MemPlace)
    (hval0 : ∀ (j : Nat) t v, Try.f3.params[j]? = some t → args[j]? = some v → Value.okWide Try.prog W .any base t v)
    (hW : DataW.Whole enc Try.prog Try.f3.params.toList Rows.windowAsksSpec.vars false W args.toList ds gs before) :
    Calls Try.prog 3 args W fun e W' => ∃ v, e = .returned v ∧ Rows.windowAsksSpec.post enc Try.prog Try.f3 false true false false W args v W' := by
  have hval : ∀ (j : Nat) t v, Try.f3.params[j]? = some t → args[j]? = some v → Value.okWide Try.prog W .any base t v := hval0
  have hW' := hW
  obtain ⟨p, q, hA0, hV, rfl, hfz, hnd⟩ := hW
  have hA : DataW.TrodAll enc Try.prog W 0 (fun _ => true) true Try.f3.params.toList args.toList ds p := hA0
  rw [Try.params3] at hA hval
  obtain ⟨v0, vs0, d0, ds0, p0, q0, hargs, rfl, rfl, h0, r0⟩ := trodAll_cons hA
  obtain ⟨v1, vs1, d1, ds1, p1, q1, rfl, rfl, rfl, h1, r1⟩ := trodAll_cons r0
  obtain ⟨v2, vs2, d2, ds2, p2, q2, rfl, rfl, rfl, h2, r2⟩ := trodAll_cons r1
  obtain ⟨v3, vs3, d3, ds3, p3, q3, rfl, rfl, rfl, h3, r3⟩ := trodAll_cons r2
  obtain ⟨rfl, rfl, rfl⟩ := trodAll_nil r3
  obtain rfl : args = #[v0, v1, v2, v3] := by cases args; simp_all
  obtain ⟨rfl, rfl⟩ := trodVars_none hV
  obtain ⟨a0, len0, cap0, rfl⟩ := okWide_slice Try.underlying22 (hval 0 22 v0 rfl rfl)
  have k0 := h0
  have lt0 : ∀ x ∈ p0, x.block < W.heap.size := by obtain ⟨m, hm⟩ := k0; exact DataW.trod_lt m _ _ _ hm
  obtain ⟨l0, w0, n0, c0, m0⟩ : ∃ l, Win.RowV W a0 len0 l ∧ (a0 = none → len0 = 0 ∧ cap0 = 0) ∧ len0 ≤ cap0 ∧ len0 ≤ maxLen := by
    obtain ⟨fuel, hf⟩ := h0
    exact Regv.device_row hf
  obtain ⟨c1_0, c1_1, c1_2, c1_3, c1_4, y1_0, y1_1, y1_2, y1_3, y1_4, m1, rfl, rfl, rfl, hy1_0, hy1_1, hy1_2, hy1_3, hy1_4⟩ := Aggs.open_agg5 Try.underlying26 (by kernel_rfl) (show Try.prog.cellsOf 26 = 5 by kernel_rfl) (hval 1 26 v1 rfl rfl) h1
  obtain ⟨x1_0, e1_0, rfl, w1_0⟩ := DataW.trod_int Try.underlying23 hy1_0
  simp at e1_0
  subst e1_0
  obtain ⟨x1_1, e1_1, rfl, w1_1⟩ := DataW.trod_int Try.underlying24 hy1_1
  simp at e1_1
  subst e1_1
  obtain ⟨x1_2, e1_2, rfl, w1_2⟩ := DataW.trod_int Try.underlying3 hy1_2
  simp at e1_2
  subst e1_2
  obtain ⟨x1_3, e1_3, rfl, w1_3⟩ := DataW.trod_int Try.underlying3 hy1_3
  simp at e1_3
  subst e1_3
  obtain ⟨x1_4, e1_4, rfl, w1_4⟩ := DataW.trod_int Try.underlying3 hy1_4
  simp at e1_4
  subst e1_4
  obtain ⟨c2_0, c2_1, c2_2, c2_3, c2_4, y2_0, y2_1, y2_2, y2_3, y2_4, m2, rfl, rfl, rfl, hy2_0, hy2_1, hy2_2, hy2_3, hy2_4⟩ := Aggs.open_agg5 Try.underlying28 (by kernel_rfl) (show Try.prog.cellsOf 28 = 5 by kernel_rfl) (hval 2 28 v2 rfl rfl) h2
  obtain ⟨x2_0, e2_0, rfl, w2_0⟩ := DataW.trod_int Try.underlying3 hy2_0
  simp at e2_0
  subst e2_0
  obtain ⟨x2_1, e2_1, rfl⟩ := DataW.trod_bool Try.underlying4 hy2_1
  simp at e2_1
  subst e2_1
  obtain ⟨x2_2, e2_2, rfl, w2_2⟩ := DataW.trod_int Try.underlying24 hy2_2
  simp at e2_2
  subst e2_2
  obtain ⟨x2_3, e2_3, rfl, w2_3⟩ := DataW.trod_int Try.underlying3 hy2_3
  simp at e2_3
  subst e2_3
  obtain ⟨x2_4, e2_4, rfl, w2_4⟩ := DataW.trod_int Try.underlying24 hy2_4
  simp at e2_4
  subst e2_4
  obtain ⟨x3, rfl, rfl, rfl, w3⟩ := open_int Try.underlying24 (hval 3 24 v3 rfl rfl) h3
  clear hA0 hval0
  refine (Win.wasks_walk a0 len0 cap0 l0 x1_0 x1_1 x1_2 x1_3 x1_4 x2_0 x2_1 x2_2 x2_3 x2_4 x3 W w0 n0 c0 m0 w1_0 w1_1 w1_2 w1_3 w1_4 w2_0 w2_2 w2_3 w2_4 w3).mono fun e W' ⟨he, bel⟩ => ?_
  subst he
  exact ⟨_, rfl, _, _, _, [], _, [], hW', trodAll_mk1 (shut_bool Try.underlying4 _), (trodAll_cons_mk (Below.trod laidOut (by kernel_rfl) (of_decide_eq_true (by kernel_rfl)) k0 bel lt0) (trodAll_cons_mk (Aggs.shut_agg5 (y0 := (.lit (.int .i64 x1_0), [])) (y1 := (.lit (.int .u32 x1_1), [])) (y2 := (.lit (.int .i64 x1_2), [])) (y3 := (.lit (.int .i64 x1_3), [])) (y4 := (.lit (.int .i64 x1_4), [])) Try.underlying26 (by kernel_rfl) (show Try.prog.cellsOf 26 = 5 by kernel_rfl) ⟨1, by simp [DataW.trod, Try.underlying23, w1_0]⟩ ⟨1, by simp [DataW.trod, Try.underlying24, w1_1]⟩ ⟨1, by simp [DataW.trod, Try.underlying3, w1_2]⟩ ⟨1, by simp [DataW.trod, Try.underlying3, w1_3]⟩ ⟨1, by simp [DataW.trod, Try.underlying3, w1_4]⟩) (trodAll_cons_mk (Aggs.shut_agg5 (y0 := (.lit (.int .i64 x2_0), [])) (y1 := (.lit (.bool x2_1), [])) (y2 := (.lit (.int .u32 x2_2), [])) (y3 := (.lit (.int .i64 x2_3), [])) (y4 := (.lit (.int .u32 x2_4), [])) Try.underlying28 (by kernel_rfl) (show Try.prog.cellsOf 28 = 5 by kernel_rfl) ⟨1, by simp [DataW.trod, Try.underlying3, w2_0]⟩ ⟨1, by simp [DataW.trod, Try.underlying4]⟩ ⟨1, by simp [DataW.trod, Try.underlying24, w2_2]⟩ ⟨1, by simp [DataW.trod, Try.underlying3, w2_3]⟩ ⟨1, by simp [DataW.trod, Try.underlying24, w2_4]⟩) (trodAll_cons_mk (shut_int Try.underlying24 w3) trodAll_mk0)))), rfl, bel.frame _, fun h => by cases h⟩

set_option maxRecDepth 100000 in
theorem lifted (os : Os) (started : os.Started) (H : Type) (enc : TypeId × Value → H) :
    ReturnsInHanded {} Try.checked os 3 .any (Rows.windowAsksSpec.pre6 enc Try.prog Try.f3 Rows.windowAsksRow.domain false) (Rows.windowAsksSpec.post enc Try.prog Try.f3 false true false false) := by
  refine returnsInHanded_of_change (C := Try.checked) own started (by kernel_rfl) Try.func3
    (ChangeSpec.witness6 (enc := enc) (C := Try.checked) false ⟨#[], #[.slice none 0 0, .agg #[.int .i64 0, .int .u32 0, .int .i64 0, .int .i64 0, .int .i64 0], .agg #[.int .i64 0, .bool false, .int .u32 0, .int .i64 0, .int .u32 0], .int .u32 0], []⟩ 8 (by kernel_rfl) (by kernel_rfl) (by kernel_rfl) (by kernel_rfl)) ?_
  intro W base args ds gs before hval0 hW _ _
  exact contract H enc W base args ds gs before hval0 hW

theorem said : Rows.windowAsksRow.holds Try.pinned (OpenSpec.ofChange Rows.windowAsksSpec) :=
  OpenClaim.holds_of_wide 3 Try.f3 rfl rfl rfl rfl rfl rfl rfl ⟨rfl, rfl, rfl, rfl, rfl⟩ rfl rfl rfl rfl rfl (by kernel_rfl) Try.func3 (by kernel_rfl)
    (of_decide_eq_true (by kernel_rfl)) (by unfold Func.isWrapper; first | (rw [if_pos (by decide +kernel)]; kernel_rfl) | (rw [if_neg (by decide +kernel)]; exact ⟨rfl, rfl⟩))
    (fun os started H enc _ => lifted os started H enc)

/-- THE STATEMENT. -/
theorem proved : Rows.WindowAsksSaid := said
#print axioms proved
end Go.Proofs.Ytfpammfcchboaaa.windowAsksLaw
