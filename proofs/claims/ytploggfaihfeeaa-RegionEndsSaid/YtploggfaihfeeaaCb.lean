/- Contracts: what is asked of a record; whether an access is right, both ways. -/
import Derived.Test.YtploggfaihfeeaaCa
import Derived.Test.YtploggfaihfeeaaLc
import Derived.Test.YtploggfaihfeeaaPf
import Derived.Test.YtploggfaihfeeaaLr
namespace Go.Proofs.Ytploggfaihfeeaa.Access
open Go.RowKit
set_option linter.unusedVariables false

theorem ret_bool {x y : Bool} (h : x = y) : Ending.returned (.bool x) = .returned (.bool y) := by rw [h]

theorem ofWorld_any (W : Int) (r : Bool) (A S D : Int) (b : Bool) (w : World) (hb : wdB W = b) :
    Calls Try.prog 56 #[acc W r A S D] w fun e w' => e = .returned (.bool b) ∧ Below w.heap.size w w' := by
  subst hb
  by_cases h : 0 ≤ W
  · have e : wdB W = decide (W < 8) := by unfold wdB; simp [h]
    rw [e]
    go_enter Try.func56, Try.ntmps56
    go_wp2
    go_ret
    exact ⟨rfl, (Below.refl _ _).alloc (Nat.le_refl _) _⟩
  · have e : wdB W = false := by unfold wdB; exact decide_eq_false (by omega)
    rw [e]
    go_enter Try.func56, Try.ntmps56
    go_wp2
    go_ret
    exact ⟨rfl, (Below.refl _ _).alloc (Nat.le_refl _) _⟩

theorem raligned_any (W : Int) (r : Bool) (A S D : Int) (b : Bool) (w : World) (hA : 0 ≤ A) (hA' : A < 4294967296) (hb : Lane.alB A S = b) :
    Calls Try.prog 57 #[acc W r A S D] w fun e w' => e = .returned (.bool b) ∧ Below w.heap.size w w' := by
  have Al := fun w => Lane.Aligned_any A S b w hA hA' hb
  clear hb
  go_enter Try.func57, Try.ntmps57
  go_wp2_with fail
  refine (Al _).mono ?_
  rintro e w1 ⟨rfl, hb⟩
  have Hb := Lib.hid (((Below.refl w.heap.size w).alloc (Nat.le_refl _) _).trans (hb.mono (by simp)))
  clear hb
  go_wp2_with fail
  go_ret
  exact ⟨rfl, Hb.out⟩

theorem fits_any (W : Int) (r : Bool) (A S D : Int) (b : Bool) (w : World) (hD : 0 ≤ D) (hD' : D < 4294967296) (hb : fitB D S = b) :
    Calls Try.prog 58 #[acc W r A S D] w fun e w' => e = .returned (.bool b) ∧ Below w.heap.size w w' := by
  obtain ⟨lv, hl⟩ : ∃ v, Word.lowV D S = v := ⟨_, rfl⟩
  by_cases hs : Word.sizeB S = true
  · have Lo := fun w => Word.low_q D S lv true w hD hD' hl hs
    have e : b = decide (lv = D) := by rw [← hb, ← hl]; unfold fitB; rw [hs]; simp
    clear hb hl hs
    go_enter Try.func58, Try.ntmps58
    go_wp2_with fail
    refine (Lo _).mono ?_
    rintro e w1 ⟨rfl, rfl⟩
    go_wp2_with fail
    go_ret
    exact ⟨ret_bool (by rw [e, Bool.eq_iff_iff]; simp), (Below.refl _ _).alloc (Nat.le_refl _) _⟩
  · have hs' : Word.sizeB S = false := by simpa using hs
    have Lo := fun w => Word.low_q D S lv false w hD hD' hl hs'
    have e : b = false := by rw [← hb]; unfold fitB; rw [hs']; rfl
    subst e
    clear hb hl hs hs'
    go_enter Try.func58, Try.ntmps58
    go_wp2_with fail
    refine (Lo _).mono ?_
    rintro e w1 ⟨rfl, rfl⟩
    go_wp2_with fail
    go_ret
    exact ⟨rfl, (Below.refl _ _).alloc (Nat.le_refl _) _⟩

theorem silent_any (W : Int) (r : Bool) (A S D : Int) (b : Bool) (w : World) (hb : silB r D = b) :
    Calls Try.prog 59 #[acc W r A S D] w fun e w' => e = .returned (.bool b) ∧ Below w.heap.size w w' := by
  subst hb
  cases r
  · go_enter Try.func59, Try.ntmps59
    go_wp2
    go_ret
    exact ⟨ret_bool (by unfold silB; rw [Bool.eq_iff_iff]; simp), (Below.refl _ _).alloc (Nat.le_refl _) _⟩
  · go_enter Try.func59, Try.ntmps59
    go_wp2
    go_ret
    exact ⟨rfl, (Below.refl _ _).alloc (Nat.le_refl _) _⟩
end Go.Proofs.Ytploggfaihfeeaa.Access
