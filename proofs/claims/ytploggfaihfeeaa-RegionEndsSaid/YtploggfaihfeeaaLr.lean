/- Contracts of the document's lanes: Aligned, Mask, Wide. -/
import Derived.Test.YtploggfaihfeeaaLb
import Derived.Test.YtploggfaihfeeaaPf
namespace Go.Proofs.Ytploggfaihfeeaa.Lane
open Go.RowKit
set_option linter.unusedVariables false

theorem rsize_val (n : Int) (b : Bool) (w : World) (hb : Word.sizeB n = b) :
    Calls Try.prog 53 #[.int .i64 n] w fun e w' => e = .returned (.bool b) ∧ w = w' := by
  subst hb; exact Word.rsize_any n w
theorem rAligned_any (a n : Int) (b : Bool) (w : World) (ha : 0 ≤ a) (ha' : a < 4294967296) (hb : alB a n = b) :
    Calls Try.prog 50 #[.int .u32 a, .int .i64 n] w fun e w' => e = .returned (.bool b) ∧ w = w' := by
  by_cases hs : Word.sizeB n = true
  · have e : b = decide (a % n = 0) := by rw [← hb]; unfold alB; rw [hs]; simp
    have hn := Word.sizeB_yes hs
    clear hb
    rcases hn with rfl | rfl | rfl
    · go_enter Try.func50, Try.ntmps50
      go_wp2_with (go_at_call 53; refine (rsize_val _ true _ hs).mono ?_; rintro e w' ⟨rfl, rfl⟩)
      go_ret
      exact ⟨ret_bool (by rw [e, Bool.eq_iff_iff]; simp), rfl⟩
    · go_enter Try.func50, Try.ntmps50
      go_wp2_with (go_at_call 53; refine (rsize_val _ true _ hs).mono ?_; rintro e w' ⟨rfl, rfl⟩)
      go_ret
      exact ⟨ret_bool (by rw [e, Bool.eq_iff_iff]; simp), rfl⟩
    · go_enter Try.func50, Try.ntmps50
      go_wp2_with (go_at_call 53; refine (rsize_val _ true _ hs).mono ?_; rintro e w' ⟨rfl, rfl⟩)
      go_ret
      exact ⟨ret_bool (by rw [e, Bool.eq_iff_iff]; simp), rfl⟩
  · have hs' : Word.sizeB n = false := by simpa using hs
    have e : b = false := by rw [← hb]; unfold alB; rw [hs']; rfl
    subst e
    clear hb
    go_enter Try.func50, Try.ntmps50
    go_wp2_with (go_at_call 53; refine (rsize_val n false _ hs').mono ?_; rintro e w' ⟨rfl, rfl⟩)
    go_ret
    exact ⟨rfl, rfl⟩

theorem m02 {a : Int} (hs : a % 4 = 0) : (1 + 2 ^ ((a + 1) % 4).toNat % 4294967296) % 4294967296 = mN 0 2 := by
  have e1 : (a + 1) % 4 = 1 := by omega
  simp [e1, mN]
theorem m22 {a : Int} (hs : a % 4 = 2) : (4 + 2 ^ ((a + 1) % 4).toNat % 4294967296) % 4294967296 = mN 2 2 := by
  have e1 : (a + 1) % 4 = 3 := by omega
  simp [e1, mN]
theorem m04 {a : Int} (hs : a % 4 = 0) : ((1 + 2 ^ ((a + 1) % 4).toNat + 2 ^ ((a + 2) % 4).toNat) % 4294967296 + 2 ^ ((a + 3) % 4).toNat % 4294967296) % 4294967296 = mN 0 4 := by
  have e1 : (a + 1) % 4 = 1 := by omega
  have e2 : (a + 2) % 4 = 2 := by omega
  have e3 : (a + 3) % 4 = 3 := by omega
  simp [e1, e2, e3, mN]
theorem rw_yes {m : Int} {k : Nat} (h : (m / 2 ^ k % 2 == 1) = true) (hk : k < 4) (b0 : 0 ≤ wS m k) (b1 : wS m k < (256 ^ k : Nat)) :
    (wS m k + 255 * 2 ^ (8 * k) % 4294967296) % 4294967296 = wS m (k + 1) ∧ 0 ≤ wS m (k + 1) ∧ wS m (k + 1) < (256 ^ (k + 1) : Nat) := by
  rw [beq_iff_eq] at h
  have e0 : ((2 ^ k : Nat) : Int) = 2 ^ k := by simp
  have e : wS m (k + 1) = wS m k + 255 * (256 ^ k : Nat) := by rw [wS, e0, h]; simp
  have e2 : (2 : Int) ^ (8 * k) = ((256 ^ k : Nat) : Int) := by rw [p256]; simp
  rw [e, e2]
  have h3 : k = 0 ∨ k = 1 ∨ k = 2 ∨ k = 3 := by omega
  rcases h3 with rfl | rfl | rfl | rfl <;> exact ⟨by omega, by omega, by omega⟩
theorem rw_no {m : Int} {k : Nat} (h : (m / 2 ^ k % 2 == 1) = false) (b0 : 0 ≤ wS m k) (b1 : wS m k < (256 ^ k : Nat)) :
    wS m k = wS m (k + 1) ∧ 0 ≤ wS m (k + 1) ∧ wS m (k + 1) < (256 ^ (k + 1) : Nat) := by
  rw [beq_eq_false_iff_ne] at h
  have e0 : ((2 ^ k : Nat) : Int) = 2 ^ k := by simp
  have h2 : m / 2 ^ k % 2 = 0 := by omega
  have e : wS m (k + 1) = wS m k := by rw [wS, e0, h2]; simp
  rw [e]
  refine ⟨rfl, b0, ?_⟩
  rw [Nat.pow_succ]; omega
end Go.Proofs.Ytploggfaihfeeaa.Lane
