/- RegionLess: for every input that can be read, with the listed tables as the program lays them, the law returns true, and its arguments read as they did.
   Conditions: those of the given card alone. -/
import Derived.Test.YtploggfaihfeeaaHj
import Derived.Test.YtploggfaihfeeaaRegs
import Derived.Test.YtploggfaihfeeaaAgg
import Derived.Test.YtploggfaihfeeaaRow
import Derived.Test.YtploggfaihfeeaaRows
import Derived.WalkKit
import Derived.ProofKit
import Derived.OpenShut
import Derived.ShutString
import Derived.ChangeOld
import Derived.Below
import Derived.Lib.SmallJoins
import Derived.Deep.SlicePairs
namespace Go.Proofs.Ytploggfaihfeeaa.regionLessLaw
open Go.ChangeShapes Go.WideShapes Go.ChangeAt Go.RowKit
open Go.ChangeMaps (open_string shut_string)
set_option linter.unusedVariables false

theorem own : ownKnob Try.prog.godebug = none := by kernel_rfl
theorem laidOut : laidOutB Try.prog = true := by kernel_rfl

set_option maxRecDepth 100000 in
theorem contract (H : Type) (enc : TypeId × Value → H) (W : World) (base : Nat) (args : Array Value) (ds gs : List (DataW H)) (before : List MemPlace)
    (hval0 : ∀ (j : Nat) t v, Try.f6.params[j]? = some t → args[j]? = some v → Value.okWide Try.prog W .any base t v)
    (hW : DataW.Whole enc Try.prog Try.f6.params.toList Rows.regionLessSpec.vars false W args.toList ds gs before) :
    Calls Try.prog 6 args W fun e W' => ∃ v, e = .returned v ∧ Rows.regionLessSpec.post enc Try.prog Try.f6 false true false false W args v W' := by
  have hval : ∀ (j : Nat) t v, Try.f6.params[j]? = some t → args[j]? = some v → Value.okWide Try.prog W .any base t v := hval0
  have hW' := hW
  obtain ⟨p, q, hA0, hV, rfl, hfz, hnd⟩ := hW
  have hA : DataW.TrodAll enc Try.prog W 0 (fun _ => true) true Try.f6.params.toList args.toList ds p := hA0
  rw [Try.params6] at hA hval
  obtain ⟨v0, vs0, d0, ds0, p0, q0, hargs, rfl, rfl, h0, r0⟩ := trodAll_cons hA
  obtain ⟨v1, vs1, d1, ds1, p1, q1, rfl, rfl, rfl, h1, r1⟩ := trodAll_cons r0
  obtain ⟨v2, vs2, d2, ds2, p2, q2, rfl, rfl, rfl, h2, r2⟩ := trodAll_cons r1
  obtain ⟨rfl, rfl, rfl⟩ := trodAll_nil r2
  obtain rfl : args = #[v0, v1, v2] := by cases args; simp_all
  obtain ⟨rfl, rfl⟩ := trodVars_none hV
  obtain ⟨x0o, x0W, x0F, x0T, x0rd, x0wr, x0K, x0lk, rfl, rfl, rfl, w0W, w0F, w0T, w0K⟩ := Regs.open_region (hval 0 26 v0 rfl rfl) h0
  obtain ⟨x1o, x1W, x1F, x1T, x1rd, x1wr, x1K, x1lk, rfl, rfl, rfl, w1W, w1F, w1T, w1K⟩ := Regs.open_region (hval 1 26 v1 rfl rfl) h1
  obtain ⟨c2_0, c2_1, c2_2, c2_3, c2_4, y2_0, y2_1, y2_2, y2_3, y2_4, m2, rfl, rfl, rfl, hy2_0, hy2_1, hy2_2, hy2_3, hy2_4⟩ := Aggs.open_agg5 Try.underlying28 (by kernel_rfl) (show Try.prog.cellsOf 28 = 5 by kernel_rfl) (hval 2 28 v2 rfl rfl) h2
  obtain ⟨x2_0, e2_0, rfl, w2_0⟩ := DataW.trod_int Try.underlying3 hy2_0
  simp at e2_0
  subst e2_0
  obtain ⟨x2_1, e2_1, rfl⟩ := DataW.trod_bool Try.underlying4 hy2_1
  simp at e2_1
  subst e2_1
  obtain ⟨x2_2, e2_2, rfl, w2_2⟩ := DataW.trod_int Try.underlying22 hy2_2
  simp at e2_2
  subst e2_2
  obtain ⟨x2_3, e2_3, rfl, w2_3⟩ := DataW.trod_int Try.underlying3 hy2_3
  simp at e2_3
  subst e2_3
  obtain ⟨x2_4, e2_4, rfl, w2_4⟩ := DataW.trod_int Try.underlying22 hy2_4
  simp at e2_4
  subst e2_4
  clear hA0 hval0
  refine (Region.less_walk x0o x0W x0F x0T x0rd x0wr x0K x0lk x1o x1W x1F x1T x1rd x1wr x1K x1lk x2_0 x2_1 x2_2 x2_3 x2_4 W w0W w0F w0T w0K w1W w1F w1T w1K w2_0 w2_2 w2_3 w2_4).mono fun e W' ⟨he, bel⟩ => ?_
  subst he
  exact ⟨_, rfl, _, _, _, [], _, [], hW', trodAll_mk1 (shut_bool Try.underlying4 _), (trodAll_cons_mk (Regs.shut_region w0W w0F w0T w0K) (trodAll_cons_mk (Regs.shut_region w1W w1F w1T w1K) (trodAll_cons_mk (Aggs.shut_agg5 (y0 := (.lit (.int .i64 x2_0), [])) (y1 := (.lit (.bool x2_1), [])) (y2 := (.lit (.int .u32 x2_2), [])) (y3 := (.lit (.int .i64 x2_3), [])) (y4 := (.lit (.int .u32 x2_4), [])) Try.underlying28 (by kernel_rfl) (show Try.prog.cellsOf 28 = 5 by kernel_rfl) ⟨1, by simp [DataW.trod, Try.underlying3, w2_0]⟩ ⟨1, by simp [DataW.trod, Try.underlying4]⟩ ⟨1, by simp [DataW.trod, Try.underlying22, w2_2]⟩ ⟨1, by simp [DataW.trod, Try.underlying3, w2_3]⟩ ⟨1, by simp [DataW.trod, Try.underlying22, w2_4]⟩) trodAll_mk0))), rfl, bel.frame _, fun h => by cases h⟩

set_option maxRecDepth 100000 in
theorem lifted (os : Os) (started : os.Started) (H : Type) (enc : TypeId × Value → H) :
    ReturnsInHanded {} Try.checked os 6 .any (Rows.regionLessSpec.pre6 enc Try.prog Try.f6 Rows.regionLessRow.domain false) (Rows.regionLessSpec.post enc Try.prog Try.f6 false true false false) := by
  refine returnsInHanded_of_change (C := Try.checked) own started (by kernel_rfl) Try.func6
    (ChangeSpec.witness6 (enc := enc) (C := Try.checked) false ⟨#[], #[.agg #[.bool false, .int .i64 0, .int .u32 0, .int .u32 0, .bool false, .bool false, .int .i64 0, .bool false], .agg #[.bool false, .int .i64 0, .int .u32 0, .int .u32 0, .bool false, .bool false, .int .i64 0, .bool false], .agg #[.int .i64 0, .bool false, .int .u32 0, .int .i64 0, .int .u32 0]], []⟩ 8 (by kernel_rfl) (by kernel_rfl) (by kernel_rfl) (by kernel_rfl)) ?_
  intro W base args ds gs before hval0 hW _ _
  exact contract H enc W base args ds gs before hval0 hW

theorem said : Rows.regionLessRow.holds Try.pinned (OpenSpec.ofChange Rows.regionLessSpec) :=
  OpenClaim.holds_of_wide 6 Try.f6 rfl rfl rfl rfl rfl rfl rfl ⟨rfl, rfl, rfl, rfl, rfl⟩ rfl rfl rfl rfl rfl (by kernel_rfl) Try.func6 (by kernel_rfl)
    (of_decide_eq_true (by kernel_rfl)) (by unfold Func.isWrapper; first | (rw [if_pos (by decide +kernel)]; kernel_rfl) | (rw [if_neg (by decide +kernel)]; exact ⟨rfl, rfl⟩))
    (fun os started H enc _ => lifted os started H enc)

/-- THE STATEMENT. -/
theorem proved : Rows.RegionLessSaid := said
#print axioms proved
end Go.Proofs.Ytploggfaihfeeaa.regionLessLaw
