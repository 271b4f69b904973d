/- What two reaches meet in: the walk of ReachMeets, case C. -/
import Derived.Test.YtpgjkoccanekeaaRts
namespace Go.Proofs.Ytpgjkoccanekeaa.Reach
open Go.RowKit
set_option linter.unusedVariables false

set_option maxHeartbeats 6000000 in
theorem meets_C (f t g u p n x y oy : Int) (is ha hb hm iab ra rb : Bool) (w : World) (hp : 0 ≤ p) (hp' : p < 4294967296) (hn : -9223372036854775808 ≤ n) (hn' : n ≤ 9223372036854775807)
    (Hx : Hid (meetF f t g u = x)) (Hy : Hid (meetT f t g u = y)) (His : Hid (meetB f t g u = is)) (Hx2 : Hid (meetF g u f t = x)) (Hy2 : Hid (meetT g u f t = y)) (His2 : Hid (meetB g u f t = is))
    (Hha : Hid (hasB f t p = ha)) (Hhb : Hid (hasB g u p = hb)) (Hhm : Hid (hasB x y p = hm)) (Hiab : Hid (inB f t g u = iab)) (Hra : Hid (rightB f t = ra)) (Hrb : Hid (rightB g u = rb))
    (Hma : is = true → inB x y f t = true ∧ inB x y g u = true) (Hxy : iab = true → x = f ∧ y = t) (Hap : ra = true → rb = true → apartB [(f, t), (g, u)] = !is)
    (hA : CaseA is ha hb hm) (hB : CaseB is iab ra rb) (Hofx : Hid (ofF p n = 0)) (Hofy : Hid (ofT p n = 0)) (Hok : Hid (ofB p n = false)) (hn1 : 1 ≤ n) (hn2 : 4294967296 < p + n) :
    Calls Try.prog 7 #[.agg #[.int .u32 f, .int .u32 t], .agg #[.int .u32 g, .int .u32 u], .int .u32 p, .int .i64 n] w fun e w' => e = .returned (.bool true) ∧ Below w.heap.size w w' := by
  obtain ⟨ma, hma⟩ : ∃ ma, inB x y f t = ma := ⟨_, rfl⟩
  obtain ⟨mb, hmb⟩ : ∃ mb, inB x y g u = mb := ⟨_, rfl⟩
  obtain ⟨ap, hap⟩ : ∃ ap, apartB [(f, t), (g, u)] = ap := ⟨_, rfl⟩
  rw [hma, hmb] at Hma
  rw [hap] at Hap
  have HMA := Lib.hid hma
  have HMB := Lib.hid hmb
  have HAP := Lib.hid hap
  clear hma hmb hap
  unfold CaseA at hA
  unfold CaseB at hB
  rcases hB with ⟨rfl, rfl, rfl, rfl⟩ | ⟨rfl, rfl, rfl, rfl⟩ | ⟨rfl, rfl, ⟨rfl, rfl⟩ | ⟨rfl, rfl⟩ | rfl⟩
  all_goals simp only [true_implies, false_implies, Bool.false_eq_true, reduceCtorEq, Bool.not_true, Bool.not_false, true_and, false_and, false_or, or_false] at hA Hma Hxy Hap
  · obtain ⟨rfl, rfl⟩ := Hma
    obtain ⟨ex, ey⟩ := (show f = x ∧ t = y from ⟨Hxy.1.symm, Hxy.2.symm⟩)
    clear Hxy
    subst ex
    subst ey
    subst Hap
    rcases hA with ⟨rfl, rfl, rfl⟩ | ⟨rfl, rfl, rfl⟩ | ⟨rfl, rfl⟩
    all_goals
      go_enter Try.func7, Try.ntmps7
      go_wp2_with fail
      refine (awake_any _).mono ?_
      rintro e w1 ⟨rfl, hb⟩
      have R := Lib.hid (((two_new w f t 24).alloc (.cells #[.int .u32 g, .int .u32 u] 24)).keep hb)
      have S := Lib.hid ((show Two _ (w.heap.size + 1) g u by have := two_new (w.alloc (.cells #[.int .u32 f, .int .u32 t] 24)) g u 24; simpa using this).keep hb)
      have B := Lib.hid ((((Below.refl w.heap.size w).alloc (Nat.le_refl _) _).alloc (by simp) _).trans (hb.mono (by simp; omega)))
      clear hb
      obtain ⟨r0, r1⟩ := R.out
      obtain ⟨s0, s1⟩ := S.out
      go_wp2_with fail
      refine (Meet_val f t g u f t _ _ Hx.out Hy.out His.out).mono ?_
      rintro e w2 ⟨rfl, hb⟩
      clear r0 r1 s0 s1
      replace R := Lib.hid (R.out.keep hb)
      replace S := Lib.hid (S.out.keep hb)
      replace B := Lib.hid (B.out.trans (hb.mono B.out.size))
      clear hb
      obtain ⟨r0, r1⟩ := R.out.alloc (.cells #[.int .u32 f, .int .u32 t] 24)
      obtain ⟨s0, s1⟩ := S.out.alloc (.cells #[.int .u32 f, .int .u32 t] 24)
      go_wp2_with fail
      refine (Meet_val g u f t f t _ _ Hx2.out Hy2.out His2.out).mono ?_
      rintro e w3 ⟨rfl, hb⟩
      clear r0 r1 s0 s1
      replace R := Lib.hid ((R.out.alloc _).keep hb)
      replace S := Lib.hid ((S.out.alloc _).keep hb)
      have M := Lib.hid ((two_new w2 f t _).keep hb)
      replace B := Lib.hid ((B.out.alloc B.out.size _).trans (hb.mono (B.out.alloc B.out.size _).size))
      clear hb
      go_wp2_with fail
      refine wp_region_ext (by kernel_rfl) (by kernel_rfl) ?_
      intro W hW
      have hb : Below w.heap.size w W := by rw [hW.out]; exact B.out.alloc B.out.size _
      replace B := Lib.hid hb
      clear hb
      have rr := R.out.alloc (.cells #[.int .u32 f, .int .u32 t] 24)
      have ss := S.out.alloc (.cells #[.int .u32 f, .int .u32 t] 24)
      have mm := M.out.alloc (.cells #[.int .u32 f, .int .u32 t] 24)
      have nn := two_new w3 f t 24
      rw [← hW.out] at rr ss mm nn
      have q0 := ext_cell rr.1
      have q1 := ext_cell rr.2
      have q2 := ext_cell ss.1
      have q3 := ext_cell ss.2
      have q4 := ext_cell mm.1
      have q5 := ext_cell mm.2
      have q6 := ext_cell nn.1
      have q7 := ext_cell nn.2
      clear rr ss mm nn R S M hW
      repeat (go_big_quiet_step ((first
        | (go_at_call 16; with_reducible exact ext_of (Has_val f t p _ _ Hhm.out))
        | (go_at_call 16; with_reducible exact ext_of (Has_val f t p _ _ Hha.out))
        | (go_at_call 16; with_reducible exact ext_of (Has_val g u p _ _ Hhb.out)))))
      refine wpQuiet_nil ?_
      intro w' hw'
      obtain ⟨v, rfl⟩ := hw'
      have hb := ext_below W v
      have r0 := q0 v
      have r1 := q1 v
      have s0 := q2 v
      have s1 := q3 v
      have m0 := q4 v
      have m1 := q5 v
      clear q0 q1 q2 q3 q4 q5 q6 q7
      replace B := Lib.hid (B.out.trans (hb.mono B.out.size))
      clear hb
      generalize ext W v = W2 at r0 r1 s0 s1 m0 m1 B ⊢
      go_wp2_with (((go_at_call 24); first
        | ((with_reducible refine (In_val f t g u _ _ Hiab.out).mono ?_); rintro e w4 ⟨rfl, hb⟩; replace r0 := cell_keep hb r0; replace r1 := cell_keep hb r1; replace s0 := cell_keep hb s0; replace s1 := cell_keep hb s1; replace m0 := cell_keep hb m0; replace m1 := cell_keep hb m1; replace B := Lib.hid (B.out.trans (hb.mono B.out.size)); clear hb)
        | ((with_reducible refine (In_val f t f t _ _ HMA.out).mono ?_); rintro e w4 ⟨rfl, hb⟩; replace r0 := cell_keep hb r0; replace r1 := cell_keep hb r1; replace s0 := cell_keep hb s0; replace s1 := cell_keep hb s1; replace m0 := cell_keep hb m0; replace m1 := cell_keep hb m1; replace B := Lib.hid (B.out.trans (hb.mono B.out.size)); clear hb)
        | ((with_reducible refine (In_val f t g u _ _ HMB.out).mono ?_); rintro e w4 ⟨rfl, hb⟩; replace r0 := cell_keep hb r0; replace r1 := cell_keep hb r1; replace s0 := cell_keep hb s0; replace s1 := cell_keep hb s1; replace m0 := cell_keep hb m0; replace m1 := cell_keep hb m1; replace B := Lib.hid (B.out.trans (hb.mono B.out.size)); clear hb)))
      go_wp2_with (((go_at_call 12); first
        | ((with_reducible refine (Right_val f t _ _ Hra.out).mono ?_); rintro e w4 ⟨rfl, hb⟩; replace r0 := cell_keep hb r0; replace r1 := cell_keep hb r1; replace s0 := cell_keep hb s0; replace s1 := cell_keep hb s1; replace m0 := cell_keep hb m0; replace m1 := cell_keep hb m1; replace B := Lib.hid (B.out.trans (hb.mono B.out.size)); clear hb)
        | ((with_reducible refine (Right_val g u _ _ Hrb.out).mono ?_); rintro e w4 ⟨rfl, hb⟩; replace r0 := cell_keep hb r0; replace r1 := cell_keep hb r1; replace s0 := cell_keep hb s0; replace s1 := cell_keep hb s1; replace m0 := cell_keep hb m0; replace m1 := cell_keep hb m1; replace B := Lib.hid (B.out.trans (hb.mono B.out.size)); clear hb)))
      try (refine (apart_any (some ⟨_, 0, none⟩) 2 2 [(f, t), (g, u)] _ (by omega) (pair_row _ f t g u)).mono ?_; rw [HAP.out]; rintro e w4 ⟨rfl, hb⟩; replace B := Lib.hid ((B.out.alloc B.out.size _).trans (hb.mono (B.out.alloc B.out.size _).size)); clear hb)
      clear r0 r1 s0 s1 m0 m1
      go_wp2_with fail
      refine (Of_val p n _ _ _ _ hp hp' hn hn' Hofx.out Hofy.out Hok.out).mono ?_
      rintro e w5 ⟨rfl, hb⟩
      replace B := Lib.hid (B.out.trans (hb.mono B.out.size))
      clear hb
      go_wp2_with fail
      go_ret
      exact ⟨(by first | rfl | exact ret_bool (by rw [Bool.or_eq_true]; exact .inr (decide_eq_true (by omega))) | exact ret_bool (by simp; omega)), B.out.alloc B.out.size _⟩
  · obtain ⟨rfl, rfl⟩ := Hma
    clear Hxy
    subst Hap
    rcases hA with ⟨rfl, rfl, rfl⟩ | ⟨rfl, rfl, rfl⟩ | ⟨rfl, rfl⟩
    all_goals
      go_enter Try.func7, Try.ntmps7
      go_wp2_with fail
      refine (awake_any _).mono ?_
      rintro e w1 ⟨rfl, hb⟩
      have R := Lib.hid (((two_new w f t 24).alloc (.cells #[.int .u32 g, .int .u32 u] 24)).keep hb)
      have S := Lib.hid ((show Two _ (w.heap.size + 1) g u by have := two_new (w.alloc (.cells #[.int .u32 f, .int .u32 t] 24)) g u 24; simpa using this).keep hb)
      have B := Lib.hid ((((Below.refl w.heap.size w).alloc (Nat.le_refl _) _).alloc (by simp) _).trans (hb.mono (by simp; omega)))
      clear hb
      obtain ⟨r0, r1⟩ := R.out
      obtain ⟨s0, s1⟩ := S.out
      go_wp2_with fail
      refine (Meet_val f t g u x y _ _ Hx.out Hy.out His.out).mono ?_
      rintro e w2 ⟨rfl, hb⟩
      clear r0 r1 s0 s1
      replace R := Lib.hid (R.out.keep hb)
      replace S := Lib.hid (S.out.keep hb)
      replace B := Lib.hid (B.out.trans (hb.mono B.out.size))
      clear hb
      obtain ⟨r0, r1⟩ := R.out.alloc (.cells #[.int .u32 x, .int .u32 y] 24)
      obtain ⟨s0, s1⟩ := S.out.alloc (.cells #[.int .u32 x, .int .u32 y] 24)
      go_wp2_with fail
      refine (Meet_val g u f t x y _ _ Hx2.out Hy2.out His2.out).mono ?_
      rintro e w3 ⟨rfl, hb⟩
      clear r0 r1 s0 s1
      replace R := Lib.hid ((R.out.alloc _).keep hb)
      replace S := Lib.hid ((S.out.alloc _).keep hb)
      have M := Lib.hid ((two_new w2 x y _).keep hb)
      replace B := Lib.hid ((B.out.alloc B.out.size _).trans (hb.mono (B.out.alloc B.out.size _).size))
      clear hb
      go_wp2_with fail
      refine wp_region_ext (by kernel_rfl) (by kernel_rfl) ?_
      intro W hW
      have hb : Below w.heap.size w W := by rw [hW.out]; exact B.out.alloc B.out.size _
      replace B := Lib.hid hb
      clear hb
      have rr := R.out.alloc (.cells #[.int .u32 x, .int .u32 y] 24)
      have ss := S.out.alloc (.cells #[.int .u32 x, .int .u32 y] 24)
      have mm := M.out.alloc (.cells #[.int .u32 x, .int .u32 y] 24)
      have nn := two_new w3 x y 24
      rw [← hW.out] at rr ss mm nn
      have q0 := ext_cell rr.1
      have q1 := ext_cell rr.2
      have q2 := ext_cell ss.1
      have q3 := ext_cell ss.2
      have q4 := ext_cell mm.1
      have q5 := ext_cell mm.2
      have q6 := ext_cell nn.1
      have q7 := ext_cell nn.2
      clear rr ss mm nn R S M hW
      repeat (go_big_quiet_step ((first
        | (go_at_call 16; with_reducible exact ext_of (Has_val x y p _ _ Hhm.out))
        | (go_at_call 16; with_reducible exact ext_of (Has_val f t p _ _ Hha.out))
        | (go_at_call 16; with_reducible exact ext_of (Has_val g u p _ _ Hhb.out)))))
      refine wpQuiet_nil ?_
      intro w' hw'
      obtain ⟨v, rfl⟩ := hw'
      have hb := ext_below W v
      have r0 := q0 v
      have r1 := q1 v
      have s0 := q2 v
      have s1 := q3 v
      have m0 := q4 v
      have m1 := q5 v
      clear q0 q1 q2 q3 q4 q5 q6 q7
      replace B := Lib.hid (B.out.trans (hb.mono B.out.size))
      clear hb
      generalize ext W v = W2 at r0 r1 s0 s1 m0 m1 B ⊢
      go_wp2_with (((go_at_call 24); first
        | ((with_reducible refine (In_val f t g u _ _ Hiab.out).mono ?_); rintro e w4 ⟨rfl, hb⟩; replace r0 := cell_keep hb r0; replace r1 := cell_keep hb r1; replace s0 := cell_keep hb s0; replace s1 := cell_keep hb s1; replace m0 := cell_keep hb m0; replace m1 := cell_keep hb m1; replace B := Lib.hid (B.out.trans (hb.mono B.out.size)); clear hb)
        | ((with_reducible refine (In_val x y f t _ _ HMA.out).mono ?_); rintro e w4 ⟨rfl, hb⟩; replace r0 := cell_keep hb r0; replace r1 := cell_keep hb r1; replace s0 := cell_keep hb s0; replace s1 := cell_keep hb s1; replace m0 := cell_keep hb m0; replace m1 := cell_keep hb m1; replace B := Lib.hid (B.out.trans (hb.mono B.out.size)); clear hb)
        | ((with_reducible refine (In_val x y g u _ _ HMB.out).mono ?_); rintro e w4 ⟨rfl, hb⟩; replace r0 := cell_keep hb r0; replace r1 := cell_keep hb r1; replace s0 := cell_keep hb s0; replace s1 := cell_keep hb s1; replace m0 := cell_keep hb m0; replace m1 := cell_keep hb m1; replace B := Lib.hid (B.out.trans (hb.mono B.out.size)); clear hb)))
      go_wp2_with (((go_at_call 12); first
        | ((with_reducible refine (Right_val f t _ _ Hra.out).mono ?_); rintro e w4 ⟨rfl, hb⟩; replace r0 := cell_keep hb r0; replace r1 := cell_keep hb r1; replace s0 := cell_keep hb s0; replace s1 := cell_keep hb s1; replace m0 := cell_keep hb m0; replace m1 := cell_keep hb m1; replace B := Lib.hid (B.out.trans (hb.mono B.out.size)); clear hb)
        | ((with_reducible refine (Right_val g u _ _ Hrb.out).mono ?_); rintro e w4 ⟨rfl, hb⟩; replace r0 := cell_keep hb r0; replace r1 := cell_keep hb r1; replace s0 := cell_keep hb s0; replace s1 := cell_keep hb s1; replace m0 := cell_keep hb m0; replace m1 := cell_keep hb m1; replace B := Lib.hid (B.out.trans (hb.mono B.out.size)); clear hb)))
      try (refine (apart_any (some ⟨_, 0, none⟩) 2 2 [(f, t), (g, u)] _ (by omega) (pair_row _ f t g u)).mono ?_; rw [HAP.out]; rintro e w4 ⟨rfl, hb⟩; replace B := Lib.hid ((B.out.alloc B.out.size _).trans (hb.mono (B.out.alloc B.out.size _).size)); clear hb)
      clear r0 r1 s0 s1 m0 m1
      go_wp2_with fail
      refine (Of_val p n _ _ _ _ hp hp' hn hn' Hofx.out Hofy.out Hok.out).mono ?_
      rintro e w5 ⟨rfl, hb⟩
      replace B := Lib.hid (B.out.trans (hb.mono B.out.size))
      clear hb
      go_wp2_with fail
      go_ret
      exact ⟨(by first | rfl | exact ret_bool (by rw [Bool.or_eq_true]; exact .inr (decide_eq_true (by omega))) | exact ret_bool (by simp; omega)), B.out.alloc B.out.size _⟩
  · clear Hma Hxy
    subst Hap
    rcases hA with ⟨rfl, rfl⟩ | rfl
    all_goals
      go_enter Try.func7, Try.ntmps7
      go_wp2_with fail
      refine (awake_any _).mono ?_
      rintro e w1 ⟨rfl, hb⟩
      have R := Lib.hid (((two_new w f t 24).alloc (.cells #[.int .u32 g, .int .u32 u] 24)).keep hb)
      have S := Lib.hid ((show Two _ (w.heap.size + 1) g u by have := two_new (w.alloc (.cells #[.int .u32 f, .int .u32 t] 24)) g u 24; simpa using this).keep hb)
      have B := Lib.hid ((((Below.refl w.heap.size w).alloc (Nat.le_refl _) _).alloc (by simp) _).trans (hb.mono (by simp; omega)))
      clear hb
      obtain ⟨r0, r1⟩ := R.out
      obtain ⟨s0, s1⟩ := S.out
      go_wp2_with fail
      refine (Meet_val f t g u x y _ _ Hx.out Hy.out His.out).mono ?_
      rintro e w2 ⟨rfl, hb⟩
      clear r0 r1 s0 s1
      replace R := Lib.hid (R.out.keep hb)
      replace S := Lib.hid (S.out.keep hb)
      replace B := Lib.hid (B.out.trans (hb.mono B.out.size))
      clear hb
      obtain ⟨r0, r1⟩ := R.out.alloc (.cells #[.int .u32 x, .int .u32 y] 24)
      obtain ⟨s0, s1⟩ := S.out.alloc (.cells #[.int .u32 x, .int .u32 y] 24)
      go_wp2_with fail
      refine (Meet_val g u f t x y _ _ Hx2.out Hy2.out His2.out).mono ?_
      rintro e w3 ⟨rfl, hb⟩
      clear r0 r1 s0 s1
      replace R := Lib.hid ((R.out.alloc _).keep hb)
      replace S := Lib.hid ((S.out.alloc _).keep hb)
      have M := Lib.hid ((two_new w2 x y _).keep hb)
      replace B := Lib.hid ((B.out.alloc B.out.size _).trans (hb.mono (B.out.alloc B.out.size _).size))
      clear hb
      go_wp2_with fail
      refine wp_region_ext (by kernel_rfl) (by kernel_rfl) ?_
      intro W hW
      have hb : Below w.heap.size w W := by rw [hW.out]; exact B.out.alloc B.out.size _
      replace B := Lib.hid hb
      clear hb
      have rr := R.out.alloc (.cells #[.int .u32 x, .int .u32 y] 24)
      have ss := S.out.alloc (.cells #[.int .u32 x, .int .u32 y] 24)
      have mm := M.out.alloc (.cells #[.int .u32 x, .int .u32 y] 24)
      have nn := two_new w3 x y 24
      rw [← hW.out] at rr ss mm nn
      have q0 := ext_cell rr.1
      have q1 := ext_cell rr.2
      have q2 := ext_cell ss.1
      have q3 := ext_cell ss.2
      have q4 := ext_cell mm.1
      have q5 := ext_cell mm.2
      have q6 := ext_cell nn.1
      have q7 := ext_cell nn.2
      clear rr ss mm nn R S M hW
      repeat (go_big_quiet_step ((first
        | (go_at_call 16; with_reducible exact ext_of (Has_val x y p _ _ Hhm.out))
        | (go_at_call 16; with_reducible exact ext_of (Has_val f t p _ _ Hha.out))
        | (go_at_call 16; with_reducible exact ext_of (Has_val g u p _ _ Hhb.out)))))
      refine wpQuiet_nil ?_
      intro w' hw'
      obtain ⟨v, rfl⟩ := hw'
      have hb := ext_below W v
      have r0 := q0 v
      have r1 := q1 v
      have s0 := q2 v
      have s1 := q3 v
      have m0 := q4 v
      have m1 := q5 v
      clear q0 q1 q2 q3 q4 q5 q6 q7
      replace B := Lib.hid (B.out.trans (hb.mono B.out.size))
      clear hb
      generalize ext W v = W2 at r0 r1 s0 s1 m0 m1 B ⊢
      go_wp2_with (((go_at_call 24); first
        | ((with_reducible refine (In_val f t g u _ _ Hiab.out).mono ?_); rintro e w4 ⟨rfl, hb⟩; replace r0 := cell_keep hb r0; replace r1 := cell_keep hb r1; replace s0 := cell_keep hb s0; replace s1 := cell_keep hb s1; replace m0 := cell_keep hb m0; replace m1 := cell_keep hb m1; replace B := Lib.hid (B.out.trans (hb.mono B.out.size)); clear hb)
        | ((with_reducible refine (In_val x y f t _ _ HMA.out).mono ?_); rintro e w4 ⟨rfl, hb⟩; replace r0 := cell_keep hb r0; replace r1 := cell_keep hb r1; replace s0 := cell_keep hb s0; replace s1 := cell_keep hb s1; replace m0 := cell_keep hb m0; replace m1 := cell_keep hb m1; replace B := Lib.hid (B.out.trans (hb.mono B.out.size)); clear hb)
        | ((with_reducible refine (In_val x y g u _ _ HMB.out).mono ?_); rintro e w4 ⟨rfl, hb⟩; replace r0 := cell_keep hb r0; replace r1 := cell_keep hb r1; replace s0 := cell_keep hb s0; replace s1 := cell_keep hb s1; replace m0 := cell_keep hb m0; replace m1 := cell_keep hb m1; replace B := Lib.hid (B.out.trans (hb.mono B.out.size)); clear hb)))
      go_wp2_with (((go_at_call 12); first
        | ((with_reducible refine (Right_val f t _ _ Hra.out).mono ?_); rintro e w4 ⟨rfl, hb⟩; replace r0 := cell_keep hb r0; replace r1 := cell_keep hb r1; replace s0 := cell_keep hb s0; replace s1 := cell_keep hb s1; replace m0 := cell_keep hb m0; replace m1 := cell_keep hb m1; replace B := Lib.hid (B.out.trans (hb.mono B.out.size)); clear hb)
        | ((with_reducible refine (Right_val g u _ _ Hrb.out).mono ?_); rintro e w4 ⟨rfl, hb⟩; replace r0 := cell_keep hb r0; replace r1 := cell_keep hb r1; replace s0 := cell_keep hb s0; replace s1 := cell_keep hb s1; replace m0 := cell_keep hb m0; replace m1 := cell_keep hb m1; replace B := Lib.hid (B.out.trans (hb.mono B.out.size)); clear hb)))
      try (refine (apart_any (some ⟨_, 0, none⟩) 2 2 [(f, t), (g, u)] _ (by omega) (pair_row _ f t g u)).mono ?_; rw [HAP.out]; rintro e w4 ⟨rfl, hb⟩; replace B := Lib.hid ((B.out.alloc B.out.size _).trans (hb.mono (B.out.alloc B.out.size _).size)); clear hb)
      clear r0 r1 s0 s1 m0 m1
      go_wp2_with fail
      refine (Of_val p n _ _ _ _ hp hp' hn hn' Hofx.out Hofy.out Hok.out).mono ?_
      rintro e w5 ⟨rfl, hb⟩
      replace B := Lib.hid (B.out.trans (hb.mono B.out.size))
      clear hb
      go_wp2_with fail
      go_ret
      exact ⟨(by first | rfl | exact ret_bool (by rw [Bool.or_eq_true]; exact .inr (decide_eq_true (by omega))) | exact ret_bool (by simp; omega)), B.out.alloc B.out.size _⟩
  · clear Hma Hxy Hap
    rcases hA with ⟨rfl, rfl⟩ | rfl
    all_goals
      go_enter Try.func7, Try.ntmps7
      go_wp2_with fail
      refine (awake_any _).mono ?_
      rintro e w1 ⟨rfl, hb⟩
      have R := Lib.hid (((two_new w f t 24).alloc (.cells #[.int .u32 g, .int .u32 u] 24)).keep hb)
      have S := Lib.hid ((show Two _ (w.heap.size + 1) g u by have := two_new (w.alloc (.cells #[.int .u32 f, .int .u32 t] 24)) g u 24; simpa using this).keep hb)
      have B := Lib.hid ((((Below.refl w.heap.size w).alloc (Nat.le_refl _) _).alloc (by simp) _).trans (hb.mono (by simp; omega)))
      clear hb
      obtain ⟨r0, r1⟩ := R.out
      obtain ⟨s0, s1⟩ := S.out
      go_wp2_with fail
      refine (Meet_val f t g u x y _ _ Hx.out Hy.out His.out).mono ?_
      rintro e w2 ⟨rfl, hb⟩
      clear r0 r1 s0 s1
      replace R := Lib.hid (R.out.keep hb)
      replace S := Lib.hid (S.out.keep hb)
      replace B := Lib.hid (B.out.trans (hb.mono B.out.size))
      clear hb
      obtain ⟨r0, r1⟩ := R.out.alloc (.cells #[.int .u32 x, .int .u32 y] 24)
      obtain ⟨s0, s1⟩ := S.out.alloc (.cells #[.int .u32 x, .int .u32 y] 24)
      go_wp2_with fail
      refine (Meet_val g u f t x y _ _ Hx2.out Hy2.out His2.out).mono ?_
      rintro e w3 ⟨rfl, hb⟩
      clear r0 r1 s0 s1
      replace R := Lib.hid ((R.out.alloc _).keep hb)
      replace S := Lib.hid ((S.out.alloc _).keep hb)
      have M := Lib.hid ((two_new w2 x y _).keep hb)
      replace B := Lib.hid ((B.out.alloc B.out.size _).trans (hb.mono (B.out.alloc B.out.size _).size))
      clear hb
      go_wp2_with fail
      refine wp_region_ext (by kernel_rfl) (by kernel_rfl) ?_
      intro W hW
      have hb : Below w.heap.size w W := by rw [hW.out]; exact B.out.alloc B.out.size _
      replace B := Lib.hid hb
      clear hb
      have rr := R.out.alloc (.cells #[.int .u32 x, .int .u32 y] 24)
      have ss := S.out.alloc (.cells #[.int .u32 x, .int .u32 y] 24)
      have mm := M.out.alloc (.cells #[.int .u32 x, .int .u32 y] 24)
      have nn := two_new w3 x y 24
      rw [← hW.out] at rr ss mm nn
      have q0 := ext_cell rr.1
      have q1 := ext_cell rr.2
      have q2 := ext_cell ss.1
      have q3 := ext_cell ss.2
      have q4 := ext_cell mm.1
      have q5 := ext_cell mm.2
      have q6 := ext_cell nn.1
      have q7 := ext_cell nn.2
      clear rr ss mm nn R S M hW
      repeat (go_big_quiet_step ((first
        | (go_at_call 16; with_reducible exact ext_of (Has_val x y p _ _ Hhm.out))
        | (go_at_call 16; with_reducible exact ext_of (Has_val f t p _ _ Hha.out))
        | (go_at_call 16; with_reducible exact ext_of (Has_val g u p _ _ Hhb.out)))))
      refine wpQuiet_nil ?_
      intro w' hw'
      obtain ⟨v, rfl⟩ := hw'
      have hb := ext_below W v
      have r0 := q0 v
      have r1 := q1 v
      have s0 := q2 v
      have s1 := q3 v
      have m0 := q4 v
      have m1 := q5 v
      clear q0 q1 q2 q3 q4 q5 q6 q7
      replace B := Lib.hid (B.out.trans (hb.mono B.out.size))
      clear hb
      generalize ext W v = W2 at r0 r1 s0 s1 m0 m1 B ⊢
      go_wp2_with (((go_at_call 24); first
        | ((with_reducible refine (In_val f t g u _ _ Hiab.out).mono ?_); rintro e w4 ⟨rfl, hb⟩; replace r0 := cell_keep hb r0; replace r1 := cell_keep hb r1; replace s0 := cell_keep hb s0; replace s1 := cell_keep hb s1; replace m0 := cell_keep hb m0; replace m1 := cell_keep hb m1; replace B := Lib.hid (B.out.trans (hb.mono B.out.size)); clear hb)
        | ((with_reducible refine (In_val x y f t _ _ HMA.out).mono ?_); rintro e w4 ⟨rfl, hb⟩; replace r0 := cell_keep hb r0; replace r1 := cell_keep hb r1; replace s0 := cell_keep hb s0; replace s1 := cell_keep hb s1; replace m0 := cell_keep hb m0; replace m1 := cell_keep hb m1; replace B := Lib.hid (B.out.trans (hb.mono B.out.size)); clear hb)
        | ((with_reducible refine (In_val x y g u _ _ HMB.out).mono ?_); rintro e w4 ⟨rfl, hb⟩; replace r0 := cell_keep hb r0; replace r1 := cell_keep hb r1; replace s0 := cell_keep hb s0; replace s1 := cell_keep hb s1; replace m0 := cell_keep hb m0; replace m1 := cell_keep hb m1; replace B := Lib.hid (B.out.trans (hb.mono B.out.size)); clear hb)))
      go_wp2_with (((go_at_call 12); first
        | ((with_reducible refine (Right_val f t _ _ Hra.out).mono ?_); rintro e w4 ⟨rfl, hb⟩; replace r0 := cell_keep hb r0; replace r1 := cell_keep hb r1; replace s0 := cell_keep hb s0; replace s1 := cell_keep hb s1; replace m0 := cell_keep hb m0; replace m1 := cell_keep hb m1; replace B := Lib.hid (B.out.trans (hb.mono B.out.size)); clear hb)
        | ((with_reducible refine (Right_val g u _ _ Hrb.out).mono ?_); rintro e w4 ⟨rfl, hb⟩; replace r0 := cell_keep hb r0; replace r1 := cell_keep hb r1; replace s0 := cell_keep hb s0; replace s1 := cell_keep hb s1; replace m0 := cell_keep hb m0; replace m1 := cell_keep hb m1; replace B := Lib.hid (B.out.trans (hb.mono B.out.size)); clear hb)))
      try (refine (apart_any (some ⟨_, 0, none⟩) 2 2 [(f, t), (g, u)] _ (by omega) (pair_row _ f t g u)).mono ?_; rw [HAP.out]; rintro e w4 ⟨rfl, hb⟩; replace B := Lib.hid ((B.out.alloc B.out.size _).trans (hb.mono (B.out.alloc B.out.size _).size)); clear hb)
      clear r0 r1 s0 s1 m0 m1
      go_wp2_with fail
      refine (Of_val p n _ _ _ _ hp hp' hn hn' Hofx.out Hofy.out Hok.out).mono ?_
      rintro e w5 ⟨rfl, hb⟩
      replace B := Lib.hid (B.out.trans (hb.mono B.out.size))
      clear hb
      go_wp2_with fail
      go_ret
      exact ⟨(by first | rfl | exact ret_bool (by rw [Bool.or_eq_true]; exact .inr (decide_eq_true (by omega))) | exact ret_bool (by simp; omega)), B.out.alloc B.out.size _⟩
  · clear Hma Hxy Hap
    rcases hA with ⟨rfl, rfl⟩ | rfl
    all_goals
      go_enter Try.func7, Try.ntmps7
      go_wp2_with fail
      refine (awake_any _).mono ?_
      rintro e w1 ⟨rfl, hb⟩
      have R := Lib.hid (((two_new w f t 24).alloc (.cells #[.int .u32 g, .int .u32 u] 24)).keep hb)
      have S := Lib.hid ((show Two _ (w.heap.size + 1) g u by have := two_new (w.alloc (.cells #[.int .u32 f, .int .u32 t] 24)) g u 24; simpa using this).keep hb)
      have B := Lib.hid ((((Below.refl w.heap.size w).alloc (Nat.le_refl _) _).alloc (by simp) _).trans (hb.mono (by simp; omega)))
      clear hb
      obtain ⟨r0, r1⟩ := R.out
      obtain ⟨s0, s1⟩ := S.out
      go_wp2_with fail
      refine (Meet_val f t g u x y _ _ Hx.out Hy.out His.out).mono ?_
      rintro e w2 ⟨rfl, hb⟩
      clear r0 r1 s0 s1
      replace R := Lib.hid (R.out.keep hb)
      replace S := Lib.hid (S.out.keep hb)
      replace B := Lib.hid (B.out.trans (hb.mono B.out.size))
      clear hb
      obtain ⟨r0, r1⟩ := R.out.alloc (.cells #[.int .u32 x, .int .u32 y] 24)
      obtain ⟨s0, s1⟩ := S.out.alloc (.cells #[.int .u32 x, .int .u32 y] 24)
      go_wp2_with fail
      refine (Meet_val g u f t x y _ _ Hx2.out Hy2.out His2.out).mono ?_
      rintro e w3 ⟨rfl, hb⟩
      clear r0 r1 s0 s1
      replace R := Lib.hid ((R.out.alloc _).keep hb)
      replace S := Lib.hid ((S.out.alloc _).keep hb)
      have M := Lib.hid ((two_new w2 x y _).keep hb)
      replace B := Lib.hid ((B.out.alloc B.out.size _).trans (hb.mono (B.out.alloc B.out.size _).size))
      clear hb
      go_wp2_with fail
      refine wp_region_ext (by kernel_rfl) (by kernel_rfl) ?_
      intro W hW
      have hb : Below w.heap.size w W := by rw [hW.out]; exact B.out.alloc B.out.size _
      replace B := Lib.hid hb
      clear hb
      have rr := R.out.alloc (.cells #[.int .u32 x, .int .u32 y] 24)
      have ss := S.out.alloc (.cells #[.int .u32 x, .int .u32 y] 24)
      have mm := M.out.alloc (.cells #[.int .u32 x, .int .u32 y] 24)
      have nn := two_new w3 x y 24
      rw [← hW.out] at rr ss mm nn
      have q0 := ext_cell rr.1
      have q1 := ext_cell rr.2
      have q2 := ext_cell ss.1
      have q3 := ext_cell ss.2
      have q4 := ext_cell mm.1
      have q5 := ext_cell mm.2
      have q6 := ext_cell nn.1
      have q7 := ext_cell nn.2
      clear rr ss mm nn R S M hW
      repeat (go_big_quiet_step ((first
        | (go_at_call 16; with_reducible exact ext_of (Has_val x y p _ _ Hhm.out))
        | (go_at_call 16; with_reducible exact ext_of (Has_val f t p _ _ Hha.out))
        | (go_at_call 16; with_reducible exact ext_of (Has_val g u p _ _ Hhb.out)))))
      refine wpQuiet_nil ?_
      intro w' hw'
      obtain ⟨v, rfl⟩ := hw'
      have hb := ext_below W v
      have r0 := q0 v
      have r1 := q1 v
      have s0 := q2 v
      have s1 := q3 v
      have m0 := q4 v
      have m1 := q5 v
      clear q0 q1 q2 q3 q4 q5 q6 q7
      replace B := Lib.hid (B.out.trans (hb.mono B.out.size))
      clear hb
      generalize ext W v = W2 at r0 r1 s0 s1 m0 m1 B ⊢
      go_wp2_with (((go_at_call 24); first
        | ((with_reducible refine (In_val f t g u _ _ Hiab.out).mono ?_); rintro e w4 ⟨rfl, hb⟩; replace r0 := cell_keep hb r0; replace r1 := cell_keep hb r1; replace s0 := cell_keep hb s0; replace s1 := cell_keep hb s1; replace m0 := cell_keep hb m0; replace m1 := cell_keep hb m1; replace B := Lib.hid (B.out.trans (hb.mono B.out.size)); clear hb)
        | ((with_reducible refine (In_val x y f t _ _ HMA.out).mono ?_); rintro e w4 ⟨rfl, hb⟩; replace r0 := cell_keep hb r0; replace r1 := cell_keep hb r1; replace s0 := cell_keep hb s0; replace s1 := cell_keep hb s1; replace m0 := cell_keep hb m0; replace m1 := cell_keep hb m1; replace B := Lib.hid (B.out.trans (hb.mono B.out.size)); clear hb)
        | ((with_reducible refine (In_val x y g u _ _ HMB.out).mono ?_); rintro e w4 ⟨rfl, hb⟩; replace r0 := cell_keep hb r0; replace r1 := cell_keep hb r1; replace s0 := cell_keep hb s0; replace s1 := cell_keep hb s1; replace m0 := cell_keep hb m0; replace m1 := cell_keep hb m1; replace B := Lib.hid (B.out.trans (hb.mono B.out.size)); clear hb)))
      go_wp2_with (((go_at_call 12); first
        | ((with_reducible refine (Right_val f t _ _ Hra.out).mono ?_); rintro e w4 ⟨rfl, hb⟩; replace r0 := cell_keep hb r0; replace r1 := cell_keep hb r1; replace s0 := cell_keep hb s0; replace s1 := cell_keep hb s1; replace m0 := cell_keep hb m0; replace m1 := cell_keep hb m1; replace B := Lib.hid (B.out.trans (hb.mono B.out.size)); clear hb)
        | ((with_reducible refine (Right_val g u _ _ Hrb.out).mono ?_); rintro e w4 ⟨rfl, hb⟩; replace r0 := cell_keep hb r0; replace r1 := cell_keep hb r1; replace s0 := cell_keep hb s0; replace s1 := cell_keep hb s1; replace m0 := cell_keep hb m0; replace m1 := cell_keep hb m1; replace B := Lib.hid (B.out.trans (hb.mono B.out.size)); clear hb)))
      try (refine (apart_any (some ⟨_, 0, none⟩) 2 2 [(f, t), (g, u)] _ (by omega) (pair_row _ f t g u)).mono ?_; rw [HAP.out]; rintro e w4 ⟨rfl, hb⟩; replace B := Lib.hid ((B.out.alloc B.out.size _).trans (hb.mono (B.out.alloc B.out.size _).size)); clear hb)
      clear r0 r1 s0 s1 m0 m1
      go_wp2_with fail
      refine (Of_val p n _ _ _ _ hp hp' hn hn' Hofx.out Hofy.out Hok.out).mono ?_
      rintro e w5 ⟨rfl, hb⟩
      replace B := Lib.hid (B.out.trans (hb.mono B.out.size))
      clear hb
      go_wp2_with fail
      go_ret
      exact ⟨(by first | rfl | exact ret_bool (by rw [Bool.or_eq_true]; exact .inr (decide_eq_true (by omega))) | exact ret_bool (by simp; omega)), B.out.alloc B.out.size _⟩
end Go.Proofs.Ytpgjkoccanekeaa.Reach
