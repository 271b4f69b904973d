/- Which numbers are whole shorts; RotorOthers. -/
import Derived.Test.YtelmkfpomeilpaaIg
namespace Go.Proofs.Ytelmkfpomeilpaa.Rotor
open Go.RowKit Go.Maps Fifo Orow Exact Ring
set_option linter.unusedVariables false

def Short (x : Nat) : Prop := ∃ n, Den x n ∧ -32768 ≤ n ∧ n ≤ 32767
theorem den_lo : Den 13898108450065350656 (-32768) := by
  have h := den_int (n := -32768) (by decide)
  rwa [show floatOfInt .f64 (-32768) = 13898108450065350656 by decide +kernel] at h
theorem den_hi : Den 4674736138332667904 32767 := by
  have h := den_int (n := 32767) (by decide)
  rwa [show floatOfInt .f64 32767 = 4674736138332667904 by decide +kernel] at h
theorem whole_yes (x : Nat) (w : World) (h : Short x) : Calls Try.prog 11 #[.float .f64 x] w fun e w' => e = .returned (.bool true) ∧ w = w' := by
  obtain ⟨n, h, h1⟩ := h
  have q1 : (FloatKind.f64.format.order x 13898108450065350656 == some .gt || FloatKind.f64.format.order x 13898108450065350656 == some .eq) = true := by
    rw [ask_gt h den_lo, ask_eq h den_lo, Bool.or_eq_true, decide_eq_true_iff, decide_eq_true_iff]; omega
  have q2 : (FloatKind.f64.format.order x 4674736138332667904 == some .lt || FloatKind.f64.format.order x 4674736138332667904 == some .eq) = true := by
    rw [ask_lt h den_hi, ask_eq h den_hi, Bool.or_eq_true, decide_eq_true_iff, decide_eq_true_iff]; omega
  have q3 : ∀ W, (convert 25 3 (.float .f64 x)).run Try.prog W = .ok (.int .i64 n) W := fun W => run_convert_float_int (P := Try.prog) W 25 3 .f64 .i64 x n (by kernel_rfl) (by kernel_rfl) (to_int_den h ⟨by show (-9223372036854775808 : Int) ≤ n; omega, by show n ≤ (9223372036854775807 : Int); omega⟩)
  have q4 : (FloatKind.f64.format.order (floatOfInt .f64 n) x == some .eq) = true := by
    rw [ask_eq (den_int (by omega)) h]
    exact decide_eq_true rfl
  clear h h1
  go_enter Try.func11, Try.ntmps11
  go_wp2_with fail
  go_ret
  exact ⟨rfl, rfl⟩
theorem ask_not {o : Option Ordering} {a b : Ordering} (h : o ≠ some a ∧ o ≠ some b) : (o == some b || o == some a) = false := by
  rw [Bool.or_eq_false_iff]
  exact ⟨by simpa using h.2, by simpa using h.1⟩
theorem ask_is {o : Option Ordering} {a b : Ordering} (h : o = some a ∨ o = some b) : (o == some b || o == some a) = true := by
  rw [Bool.or_eq_true]
  exact h.elim (fun e => .inr (by simpa using e)) (fun e => .inl (by simpa using e))
theorem whole_no (x : Nat) (w : World) (h : ¬ Short x) : Calls Try.prog 11 #[.float .f64 x] w fun e w' => e = .returned (.bool false) ∧ w = w' := by
  rcases short_cases x den_lo den_hi with hs | ⟨_, h1 | h2 | ⟨h1, h2, t, t1, t2, ht, t3, t4⟩⟩
  · exact absurd hs h
  · have q1 : (FloatKind.f64.format.order x 13898108450065350656 == some .gt || FloatKind.f64.format.order x 13898108450065350656 == some .eq) = false := ask_not h1
    clear h h1
    go_enter Try.func11, Try.ntmps11
    go_wp2_with fail
    go_ret
    exact ⟨rfl, rfl⟩
  · have q2 : (FloatKind.f64.format.order x 4674736138332667904 == some .lt || FloatKind.f64.format.order x 4674736138332667904 == some .eq) = false := ask_not h2
    cases q1 : (FloatKind.f64.format.order x 13898108450065350656 == some .gt || FloatKind.f64.format.order x 13898108450065350656 == some .eq)
    all_goals
      clear h h2
      go_enter Try.func11, Try.ntmps11
      go_wp2_with fail
      go_ret
      exact ⟨rfl, rfl⟩
  · have q1 : (FloatKind.f64.format.order x 13898108450065350656 == some .gt || FloatKind.f64.format.order x 13898108450065350656 == some .eq) = true := ask_is h1
    have q2 : (FloatKind.f64.format.order x 4674736138332667904 == some .lt || FloatKind.f64.format.order x 4674736138332667904 == some .eq) = true := ask_is h2
    have q3 : ∀ W, (convert 25 3 (.float .f64 x)).run Try.prog W = .ok (.int .i64 t) W := fun W => run_convert_float_int (P := Try.prog) W 25 3 .f64 .i64 x t (by kernel_rfl) (by kernel_rfl) (by
      unfold floatToIntVal
      rw [show (FloatKind.f64.decode x).toInt .zero = some t from ht]
      exact if_pos ⟨by show (-9223372036854775808 : Int) ≤ t; omega, by show t ≤ (9223372036854775807 : Int); omega⟩)
    have q4 : (FloatKind.f64.format.order (floatOfInt .f64 t) x == some .eq) = false := by
      have t5 : ¬ FloatKind.f64.format.order (floatOfInt .f64 t) x = some .eq := t4
      simpa using t5
    clear h h1 h2 t1 t2 ht t3 t4
    go_enter Try.func11, Try.ntmps11
    go_wp2_with fail
    go_ret
    exact ⟨rfl, rfl⟩
theorem notPt_re {x y : Nat} (h : ¬ Short x) : NotPt x y := fun p k => h ⟨p.re, k.re, k.ok.1⟩
theorem notPt_im {x y : Nat} (h : ¬ Short y) : NotPt x y := fun p k => h ⟨p.im, k.im, k.ok.2⟩
theorem others_walk (x y : Nat) (v : Int) (w : World) (hv : 0 ≤ v ∧ v < 4294967296) :
    Calls Try.prog 4 #[.float .f64 x, .float .f64 y, .int .u32 v] w fun e w' => e = .returned (.bool true) ∧ Below w.heap.size w w' := by
  have Hv := Lib.hid hv
  clear hv
  by_cases hx : Short x
  · have WX := Lib.hid (whole_yes x w hx)
    by_cases hy : Short y
    · have WY := Lib.hid (whole_yes y w hy)
      obtain ⟨m, dm, m1⟩ := hx
      obtain ⟨n, dn, n1⟩ := hy
      have P := Lib.hid (show IsPt x y ⟨m, n⟩ from ⟨dm, dn, m1, n1⟩)
      have q3 : ∀ W, (convert 25 3 (.float .f64 x)).run Try.prog W = .ok (.int .i64 m) W := fun W => run_convert_float_int (P := Try.prog) W 25 3 .f64 .i64 x m (by kernel_rfl) (by kernel_rfl) (to_int_den dm ⟨by show (-9223372036854775808 : Int) ≤ m; omega, by show m ≤ (9223372036854775807 : Int); omega⟩)
      have q4 : ∀ W, (convert 25 3 (.float .f64 y)).run Try.prog W = .ok (.int .i64 n) W := fun W => run_convert_float_int (P := Try.prog) W 25 3 .f64 .i64 y n (by kernel_rfl) (by kernel_rfl) (to_int_den dn ⟨by show (-9223372036854775808 : Int) ≤ n; omega, by show n ≤ (9223372036854775807 : Int); omega⟩)
      have C := Lib.hid (fun W => rWord_any m n W)
      rw [sh_self m1, sh_self n1] at C
      have vv : (wd ⟨m, n⟩ == wd ⟨m, n⟩) = true := by simp
      clear dm dn m1 n1
      go_enter Try.func4, Try.ntmps4
      go_wp2_with fail
      refine WX.out.mono ?_
      rintro e w1 ⟨rfl, rfl⟩
      go_wp2_with fail
      refine WY.out.mono ?_
      rintro e w1 ⟨rfl, rfl⟩
      go_wp2_with fail
      refine (Word_yes x y _ w P.out).mono ?_
      rintro e w1 ⟨rfl, hb⟩
      have B1 := Lib.hid hb
      clear hb
      go_wp2_with fail
      refine (C.out w1).mono ?_
      rintro e w1' ⟨rfl, rfl⟩
      go_wp2_with fail
      refine (awake_any w1).mono ?_
      rintro e w2 ⟨rfl, hb⟩
      have B2 := Lib.hid (B1.out.trans (hb.mono B1.out.size))
      clear hb
      go_wp2_with fail
      go_ret
      exact ⟨rfl, B2.out⟩
    · have WY := Lib.hid (whole_no y w hy)
      have HN := Lib.hid (notPt_im (x := x) hy)
      clear hx hy
      go_enter Try.func4, Try.ntmps4
      go_wp2_with fail
      refine WX.out.mono ?_
      rintro e w1 ⟨rfl, rfl⟩
      go_wp2_with fail
      refine WY.out.mono ?_
      rintro e w1 ⟨rfl, rfl⟩
      go_wp2_with fail
      refine (none_any x y v w HN.out Hv.out).mono ?_
      rintro e w1 ⟨rfl, hb⟩
      have B1 := Lib.hid hb
      clear hb
      go_wp2_with fail
      refine (awake_any w1).mono ?_
      rintro e w2 ⟨rfl, hb⟩
      have B2 := Lib.hid (B1.out.trans (hb.mono B1.out.size))
      clear hb
      go_wp2_with fail
      go_ret
      exact ⟨rfl, B2.out⟩
  · have WX := Lib.hid (whole_no x w hx)
    have HN := Lib.hid (notPt_re (y := y) hx)
    clear hx
    go_enter Try.func4, Try.ntmps4
    go_wp2_with fail
    refine WX.out.mono ?_
    rintro e w1 ⟨rfl, rfl⟩
    go_wp2_with fail
    refine (none_any x y v w HN.out Hv.out).mono ?_
    rintro e w1 ⟨rfl, hb⟩
    have B1 := Lib.hid hb
    clear hb
    go_wp2_with fail
    refine (awake_any w1).mono ?_
    rintro e w2 ⟨rfl, hb⟩
    have B2 := Lib.hid (B1.out.trans (hb.mono B1.out.size))
    clear hb
    go_wp2_with fail
    go_ret
    exact ⟨rfl, B2.out⟩
end Go.Proofs.Ytelmkfpomeilpaa.Rotor
