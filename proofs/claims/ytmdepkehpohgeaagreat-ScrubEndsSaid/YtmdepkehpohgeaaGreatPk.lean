/- Pick at any n: a number below n, always the same. -/
import Derived.Test.YtmdepkehpohgeaaGreatBa
import Derived.Test.YtmdepkehpohgeaaGreatFa
namespace Go.Proofs.YtmdepkehpohgeaaGreat.Pk
open Go.RowKit Fifo
set_option linter.unusedVariables false

theorem tmod_bound (x : Int) (n : Nat) (hn : 0 < n) : -(n : Int) < Int.tmod x n ∧ Int.tmod x n < n := by
  rcases Int.le_total 0 x with h | h
  · rw [Int.tmod_eq_emod_of_nonneg h]
    have h1 := Int.emod_nonneg x (show (n : Int) ≠ 0 by omega)
    have h2 := Int.emod_lt_of_pos x (show (0 : Int) < n by omega)
    omega
  · have e : Int.tmod x n = -(Int.tmod (-x) n) := by rw [Int.neg_tmod]; omega
    rw [e, Int.tmod_eq_emod_of_nonneg (show 0 ≤ -x by omega)]
    have h1 := Int.emod_nonneg (-x) (show (n : Int) ≠ 0 by omega)
    have h2 := Int.emod_lt_of_pos (-x) (show (0 : Int) < n by omega)
    omega
theorem pick_is (x : Int) (n : Nat) (hn : 0 < n) (hn2 : n < 1000) : ∃ p : Nat, p < n ∧ ∀ w, Calls Tryz.prog 36 #[.int .i64 x, .int .i64 (n : Nat)] w fun e w' => e = .returned (.int .i64 (p : Nat)) ∧ w = w' := by
  obtain ⟨t1, t2⟩ := tmod_bound x n hn
  obtain ⟨r, hr⟩ : ∃ r, Int.tmod x n = r := ⟨_, rfl⟩
  rw [hr] at t1 t2
  have e0 : decide ((n : Int) < 1) = false := decide_eq_false (by omega)
  have e1 : ¬ ((n : Int) = 0) := by omega
  by_cases hneg : r < 0
  · obtain ⟨p, hp⟩ := Int.eq_ofNat_of_zero_le (show 0 ≤ r + n by omega)
    refine ⟨p, by omega, fun w => ?_⟩
    have d1 : decide (r < 0) = true := decide_eq_true hneg
    have d2 : IntKind.i64.wrap (r + (n : Int)) = (p : Int) := by rw [i64w (by omega)]; exact hp
    clear hneg hp t1 t2 hn hn2
    go_enter Tryz.func36, Tryz.ntmps36
    go_wp2_with fail
    go_ret
    exact ⟨rfl, rfl⟩
  · obtain ⟨p, hp⟩ := Int.eq_ofNat_of_zero_le (show 0 ≤ r by omega)
    refine ⟨p, by omega, fun w => ?_⟩
    have d1 : decide (r < 0) = false := decide_eq_false hneg
    rw [← hp]
    clear hneg hp t1 t2 hn hn2
    go_enter Tryz.func36, Tryz.ntmps36
    go_wp2_with fail
    go_ret
    exact ⟨rfl, rfl⟩

end Go.Proofs.YtmdepkehpohgeaaGreat.Pk
