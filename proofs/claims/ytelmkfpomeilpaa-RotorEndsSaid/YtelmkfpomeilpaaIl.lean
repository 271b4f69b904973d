/- Numbers that are no shorts, written by hand; no number out of nought by nought. -/
import Derived.Test.YtelmkfpomeilpaaIk
namespace Go.Proofs.Ytelmkfpomeilpaa.Rotor
open Go.RowKit Go.Maps Fifo Orow Exact Ring
set_option linter.unusedVariables false

theorem notShort_frac {x m k : Nat} {s : Bool} (hr : Ieee.double.read x = .number s m (-(k : Int))) (h : m % 2 ^ k ≠ 0) : ¬ Short x := by
  rintro ⟨n, ⟨s', k', e, _⟩, _⟩
  rw [hr] at e
  injection e with e1 e2 e3
  obtain rfl : k = k' := by omega
  exact h (by rw [e2]; exact Nat.mul_mod_left _ _)
theorem notShort_great {x m k : Nat} {s : Bool} (hr : Ieee.double.read x = .number s m (-(k : Int))) (h : 32768 < m / 2 ^ k ∨ (m / 2 ^ k = 32768 ∧ s = false)) : ¬ Short x := by
  rintro ⟨n, ⟨s', k', e, hs⟩, hn⟩
  rw [hr] at e
  injection e with e1 e2 e3
  obtain rfl : k = k' := by omega
  have e4 : m / 2 ^ k = n.natAbs := by rw [e2]; exact Nat.mul_div_cancel _ (Nat.two_pow_pos k)
  rw [e4] at h
  rcases h with h | ⟨h, h2⟩
  · omega
  · have h0 : n ≠ 0 := by omega
    have := hs h0
    rw [← e1, h2] at this
    have := of_decide_eq_false this.symm
    omega
theorem notShort_up {x m : Nat} {s : Bool} {e : Int} (hr : Ieee.double.read x = .number s m e) (h : 0 < e) : ¬ Short x := by
  rintro ⟨n, ⟨s', k', e', _⟩, _⟩
  rw [hr] at e'
  injection e' with e1 e2 e3
  omega
theorem notShort_inf {x : Nat} {s : Bool} (hr : Ieee.double.read x = .infinity s) : ¬ Short x := by
  rintro ⟨n, ⟨s', k', e', _⟩, _⟩
  rw [hr] at e'
  cases e'
theorem notShort_nan {x f : Nat} {s : Bool} (hr : Ieee.double.read x = .nan s f) : ¬ Short x := by
  rintro ⟨n, ⟨s', k', e', _⟩, _⟩
  rw [hr] at e'
  cases e'
theorem nan_read (a m : Nat) (ha : a < 2) (hm : m < 4503599627370495) : ∃ s f, Ieee.double.read (a * 9223372036854775808 + 9218868437227405312 + 1 + m) = .nan s f := by
  obtain ⟨X, hX⟩ : ∃ X, a * 9223372036854775808 + 9218868437227405312 + 1 + m = X := ⟨_, rfl⟩
  have h1 : X % Ieee.double.signWeight = 9218868437227405313 + m := by rw [c_sign]; omega
  rw [hX]
  unfold Ieee.Format.read
  simp only [h1]
  rw [if_neg (by rw [c_bin]; omega), if_neg (by rw [c_inf]; omega), if_neg (by rw [c_inf]; omega)]
  exact ⟨_, _, rfl⟩
/-- What 0 / 0 is, is asked: it is no number. -/
def nanOf (w : World) : Nat := (Question.nanBits .f64 0 0).cut (w.tape w.drawn (.nanBits .f64 0 0))
theorem nanOf_not (w : World) : ¬ Short (nanOf w) := by
  obtain ⟨s, f, h⟩ := nan_read (w.tape w.drawn (.nanBits .f64 0 0) % 2) (w.tape w.drawn (.nanBits .f64 0 0) / 2 % (2 ^ 52 - 1)) (by omega) (by omega)
  exact notShort_nan (x := nanOf w) h
theorem run_nan (w : World) : (binOp .quo 25 (.float .f64 0) (.float .f64 0)).run Try.prog w = .ok (.float .f64 (nanOf w)) w.drew := by
  have h : FloatKind.f64.format.div 0 0 = none := by decide +kernel
  simp [binOp, Op.floatArith, h, nanOf, go_sem, Question.forced]
theorem run_inf (w : World) : (binOp .quo 25 (.float .f64 4607182418800017408) (.float .f64 0)).run Try.prog w = .ok (.float .f64 9218868437227405312) w := run_float_arith w .quo _ .f64 _ _ _ (by decide +kernel)
theorem run_ninf (w : World) : (binOp .quo 25 (.float .f64 13830554455654793216) (.float .f64 0)).run Try.prog w = .ok (.float .f64 18442240474082181120) w := run_float_arith w .quo _ .f64 _ _ _ (by decide +kernel)
def badL (y : Nat) : List Nat := [4602678819172646912, 13826050856027422720, 4674736413210574848, 13898108587504304128, 9094988921128908188, 18318360957983683996, 9218868437227405312, 18442240474082181120, y, 118622047889322841, 4674736275771621376]
theorem bad_not (y : Nat) (hy : ¬ Short y) (k : Nat) (hk : k < 11) : ∃ x, (badL y)[k]? = some x ∧ ¬ Short x := by
  have hc : k = 0 ∨ k = 1 ∨ k = 2 ∨ k = 3 ∨ k = 4 ∨ k = 5 ∨ k = 6 ∨ k = 7 ∨ k = 8 ∨ k = 9 ∨ k = 10 := by omega
  rcases hc with rfl | rfl | rfl | rfl | rfl | rfl | rfl | rfl | rfl | rfl | rfl
  · exact ⟨_, rfl, notShort_frac (k := 53) (s := false) (m := 4503599627370496) (by decide +kernel) (by decide +kernel)⟩
  · exact ⟨_, rfl, notShort_frac (k := 53) (s := true) (m := 4503599627370496) (by decide +kernel) (by decide +kernel)⟩
  · exact ⟨_, rfl, notShort_great (k := 37) (s := false) (m := 4503599627370496) (by decide +kernel) (.inr (by decide +kernel))⟩
  · exact ⟨_, rfl, notShort_great (k := 37) (s := true) (m := 4503737066323968) (by decide +kernel) (.inl (by decide +kernel))⟩
  · exact ⟨_, rfl, notShort_up (e := 944) (s := false) (m := 6724873095247260) (by decide +kernel) (by decide +kernel)⟩
  · exact ⟨_, rfl, notShort_up (e := 944) (s := true) (m := 6724873095247260) (by decide +kernel) (by decide +kernel)⟩
  · exact ⟨_, rfl, notShort_inf (s := false) (by decide +kernel)⟩
  · exact ⟨_, rfl, notShort_inf (s := true) (by decide +kernel)⟩
  · exact ⟨_, rfl, hy⟩
  · exact ⟨_, rfl, notShort_frac (k := 1049) (s := false) (m := 6032057205060441) (by decide +kernel) (by decide +kernel)⟩
  · exact ⟨_, rfl, notShort_frac (k := 38) (s := false) (m := 9007061815787520) (by decide +kernel) (by decide +kernel)⟩
end Go.Proofs.Ytelmkfpomeilpaa.Rotor
