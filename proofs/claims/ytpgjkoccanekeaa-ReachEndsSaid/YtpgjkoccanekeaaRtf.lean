/- What lies in both, which lies in which, which stands ahead: the package's answers are the document's. -/
import Derived.Test.YtpgjkoccanekeaaRtc
import Derived.Test.YtpgjkoccanekeaaRte
namespace Go.Proofs.Ytpgjkoccanekeaa.Reach
open Go.RowKit
set_option linter.unusedVariables false

theorem rMeet_val (f t g u x y : Int) (b : Bool) (w : World) (hx : meetF f t g u = x) (hy : meetT f t g u = y) (hb : meetB f t g u = b) :
    Calls Try.prog 28 #[.agg #[.int .u32 f, .int .u32 t], .agg #[.int .u32 g, .int .u32 u]] w fun e w' => e = .returned (.tuple #[.agg #[.int .u32 x, .int .u32 y], .bool b]) ∧ Below w.heap.size w w' := by
  subst hx hy hb; exact rMeet_any f t g u w
theorem In_val (f t g u : Int) (b : Bool) (w : World) (hb : inB f t g u = b) :
    Calls Try.prog 24 #[.agg #[.int .u32 f, .int .u32 t], .agg #[.int .u32 g, .int .u32 u]] w fun e w' => e = .returned (.bool b) ∧ Below w.heap.size w w' := by
  subst hb; exact In_any f t g u w
theorem rIn_val (f t g u : Int) (b : Bool) (w : World) (hb : inB f t g u = b) :
    Calls Try.prog 29 #[.agg #[.int .u32 f, .int .u32 t], .agg #[.int .u32 g, .int .u32 u]] w fun e w' => e = .returned (.bool b) ∧ Below w.heap.size w w' := by
  subst hb; exact rIn_any f t g u w
theorem Less_val (f t g u : Int) (b : Bool) (w : World) (hb : lessB f t g u = b) :
    Calls Try.prog 25 #[.agg #[.int .u32 f, .int .u32 t], .agg #[.int .u32 g, .int .u32 u]] w fun e w' => e = .returned (.bool b) ∧ Below w.heap.size w w' := by
  subst hb; exact Less_any f t g u w
theorem rLess_val (f t g u : Int) (b : Bool) (w : World) (hb : lessB f t g u = b) :
    Calls Try.prog 30 #[.agg #[.int .u32 f, .int .u32 t], .agg #[.int .u32 g, .int .u32 u]] w fun e w' => e = .returned (.bool b) ∧ Below w.heap.size w w' := by
  subst hb; exact rLess_any f t g u w

set_option maxHeartbeats 1000000 in
theorem two_any0 (f t g u x y : Int) (b i l : Bool) (w : World) (Hx : Hid (meetF f t g u = x)) (Hy : Hid (meetT f t g u = y)) (Hb : Hid (meetB f t g u = b)) (Hi : Hid (inB f t g u = i)) (Hl : Hid (lessB f t g u = l)) :
    Calls Try.prog 19 #[.agg #[.int .u32 f, .int .u32 t], .agg #[.int .u32 g, .int .u32 u]] w fun e w' => e = .returned (.bool true) ∧ Below w.heap.size w w' := by
  go_enter Try.func19, Try.ntmps19
  go_wp2_with fail
  refine (Meet_val f t g u x y b _ Hx.out Hy.out Hb.out).mono ?_
  rintro e w1 ⟨rfl, hb⟩
  have R0 := Lib.hid (((two_new w f t 24).alloc (.cells #[.int .u32 g, .int .u32 u] 24)).keep hb)
  have S0 := Lib.hid ((show Two _ (w.heap.size + 1) g u by have := two_new (w.alloc (.cells #[.int .u32 f, .int .u32 t] 24)) g u 24; simpa using this).keep hb)
  have Hb1 := Lib.hid ((((Below.refl w.heap.size w).alloc (Nat.le_refl _) _).alloc (by simp) _).trans (hb.mono (by simp; omega)))
  clear hb
  obtain ⟨r0, r1⟩ := R0.out.alloc (.cells #[.int .u32 x, .int .u32 y] 24)
  obtain ⟨s0, s1⟩ := S0.out.alloc (.cells #[.int .u32 x, .int .u32 y] 24)
  go_wp2_with fail
  refine (rMeet_val f t g u x y b _ Hx.out Hy.out Hb.out).mono ?_
  rintro e w2 ⟨rfl, hb⟩
  clear r0 r1 s0 s1
  have R1 := Lib.hid ((R0.out.alloc _).keep hb)
  have S1 := Lib.hid ((S0.out.alloc _).keep hb)
  have M1 := Lib.hid ((two_new w1 x y _).keep hb)
  have Hb2 := Lib.hid ((Hb1.out.alloc Hb1.out.size _).trans (hb.mono (Hb1.out.alloc Hb1.out.size _).size))
  clear hb Hb1 R0 S0
  go_wp2_with fail
  refine wp_region_ext (by kernel_rfl) (by kernel_rfl) ?_
  intro W hW
  have hb : Below w.heap.size w W := by rw [hW.out]; exact Hb2.out.alloc Hb2.out.size _
  have HbW := Lib.hid hb
  clear hb
  have r := R1.out.alloc (.cells #[.int .u32 x, .int .u32 y] 24)
  have s := S1.out.alloc (.cells #[.int .u32 x, .int .u32 y] 24)
  have m := M1.out.alloc (.cells #[.int .u32 x, .int .u32 y] 24)
  have n := two_new w2 x y 24
  rw [← hW.out] at r s m n
  have r0 := ext_cell r.1
  have r1 := ext_cell r.2
  have s0 := ext_cell s.1
  have s1 := ext_cell s.2
  have m0 := ext_cell m.1
  have m1 := ext_cell m.2
  have n0 := ext_cell n.1
  have n1 := ext_cell n.2
  clear r s m n R1 S1 M1 Hb2
  repeat (go_big_quiet_step ((first
    | (go_at_call 24; exact ext_of (In_val f t g u i _ Hi.out))
    | (go_at_call 29; exact ext_of (rIn_val f t g u i _ Hi.out))
    | (go_at_call 25; exact ext_of (Less_val f t g u l _ Hl.out))
    | (go_at_call 30; exact ext_of (rLess_val f t g u l _ Hl.out)))))
  refine wpQuiet_nil ?_
  intro w' hw'
  obtain ⟨p, rfl⟩ := hw'
  go_wp2_with fail
  go_ret
  exact ⟨rfl, HbW.out.trans ((ext_below W p).mono HbW.out.size)⟩
theorem two_any (f t g u : Int) (w : World) :
    Calls Try.prog 19 #[.agg #[.int .u32 f, .int .u32 t], .agg #[.int .u32 g, .int .u32 u]] w fun e w' => e = .returned (.bool true) ∧ Below w.heap.size w w' :=
  two_any0 f t g u _ _ _ _ _ w (Lib.hid rfl) (Lib.hid rfl) (Lib.hid rfl) (Lib.hid rfl) (Lib.hid rfl)

set_option maxHeartbeats 1000000 in
theorem rtwo_walk (f t g u : Int) (w : World) :
    Calls Try.prog 4 #[.agg #[.int .u32 f, .int .u32 t], .agg #[.int .u32 g, .int .u32 u]] w fun e w' => e = .returned (.bool true) ∧ Below w.heap.size w w' := by
  go_enter Try.func4, Try.ntmps4
  go_wp2_with fail
  refine (two_any f t g u _).mono ?_
  rintro e w1 ⟨rfl, hb⟩
  obtain ⟨r0, r1⟩ := ((two_new w f t 24).alloc (.cells #[.int .u32 g, .int .u32 u] 24)).keep hb
  obtain ⟨s0, s1⟩ := (show Two _ (w.heap.size + 1) g u by have := two_new (w.alloc (.cells #[.int .u32 f, .int .u32 t] 24)) g u 24; simpa using this).keep hb
  have Hb1 := Lib.hid ((((Below.refl w.heap.size w).alloc (Nat.le_refl _) _).alloc (by simp) _).trans (hb.mono (by simp; omega)))
  clear hb
  go_wp2_with fail
  refine (two_any g u f t _).mono ?_
  rintro e w2 ⟨rfl, hb⟩
  have r0' := cell_keep hb r0
  have r1' := cell_keep hb r1
  have Hb2 := Lib.hid (Hb1.out.trans (hb.mono Hb1.out.size))
  clear hb r0 r1 s0 s1
  go_wp2_with fail
  refine (two_any f t f t _).mono ?_
  rintro e w3 ⟨rfl, hb⟩
  have Hb3 := Lib.hid (Hb2.out.trans (hb.mono Hb2.out.size))
  clear hb r0' r1'
  go_wp2_with fail
  refine (awake_any _).mono ?_
  rintro e w4 ⟨rfl, hb⟩
  have Hb4 := Lib.hid (Hb3.out.trans (hb.mono Hb3.out.size))
  clear hb
  go_wp2_with fail
  go_ret
  exact ⟨rfl, Hb4.out⟩
theorem rtwo_walk0 (f t g u : Int) (w : World) (hf : (Lit.int .u32 f).wf = true) (ht : (Lit.int .u32 t).wf = true) (hg : (Lit.int .u32 g).wf = true) (hu : (Lit.int .u32 u).wf = true) :
    Calls Try.prog 4 #[.agg #[.int .u32 f, .int .u32 t], .agg #[.int .u32 g, .int .u32 u]] w fun e w' => e = .returned (.bool true) ∧ Below w.heap.size w w' := rtwo_walk f t g u w
end Go.Proofs.Ytpgjkoccanekeaa.Reach
