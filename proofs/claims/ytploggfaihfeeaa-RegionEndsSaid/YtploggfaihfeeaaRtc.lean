/- Contracts of package reach and of the document's: In, Less, Meet; Pick. -/
import Derived.Test.YtploggfaihfeeaaRtb
namespace Go.Proofs.Ytploggfaihfeeaa.Reach
open Go.RowKit
set_option linter.unusedVariables false

def lessB (f t g u : Int) : Bool := decide (f < g ∨ f = g ∧ t < u)
theorem ordV_less (f t g u : Int) : decide (ordV f t g u < 0) = lessB f t g u := by
  unfold lessB ordV orV cmpV
  rw [decide_eq_decide]
  repeat (any_goals split)
  all_goals omega
theorem two_in (f t g u : Int) (w : World) :
    Calls Try.prog 29 #[.func (.func 30) #[] #[], .agg #[.int .u32 f, .int .u32 t], .agg #[.int .u32 g, .int .u32 u]] w fun e w' => e = .returned (.bool (inB f t g u)) ∧ Below w.heap.size w w' := by
  go_enter Try.func29, Try.ntmps29
  go_wp2_with fail
  refine (in_any f t g u _).mono ?_
  rintro e w1 ⟨rfl, hb⟩
  have Hb := Lib.hid ((((Below.refl w.heap.size w).alloc (Nat.le_refl _) _).alloc (by simp) _).trans (hb.mono (by simp; omega)))
  clear hb
  go_wp2_with fail
  go_ret
  exact ⟨rfl, Hb.out⟩
theorem In_any (f t g u : Int) (w : World) :
    Calls Try.prog 16 #[.agg #[.int .u32 f, .int .u32 t], .agg #[.int .u32 g, .int .u32 u]] w fun e w' => e = .returned (.bool (inB f t g u)) ∧ Below w.heap.size w w' := by
  go_enter Try.func16, Try.ntmps16
  go_wp2_with fail
  refine (two_in f t g u _).mono ?_
  rintro e w1 ⟨rfl, hb⟩
  have Hb := Lib.hid ((((Below.refl w.heap.size w).alloc (Nat.le_refl _) _).alloc (by simp) _).trans (hb.mono (by simp; omega)))
  clear hb
  go_wp2_with fail
  go_ret
  exact ⟨rfl, Hb.out⟩
theorem rIn_a (f t g u : Int) (w : World) (h : t < f) :
    Calls Try.prog 33 #[.agg #[.int .u32 f, .int .u32 t], .agg #[.int .u32 g, .int .u32 u]] w fun e w' => e = .returned (.bool (inB f t g u)) ∧ Below w.heap.size w w' := by
  have dft : decide (f ≤ t) = false := decide_eq_false (by omega)
  go_enter Try.func33, Try.ntmps33
  go_wp2
  go_ret
  refine ⟨ret_bool (by unfold inB; first | exact (decide_eq_true (by omega)).symm | exact (decide_eq_false (by omega)).symm | (rw [decide_eq_decide]; omega)), ?_⟩
  repeat (first | exact Below.refl _ _ | refine Below.alloc ?_ (by simp; omega) _ | refine Below.alloc ?_ (by simp) _)
theorem rIn_b (f t g u : Int) (w : World) (h : f ≤ t ∧ u < g) :
    Calls Try.prog 33 #[.agg #[.int .u32 f, .int .u32 t], .agg #[.int .u32 g, .int .u32 u]] w fun e w' => e = .returned (.bool (inB f t g u)) ∧ Below w.heap.size w w' := by
  obtain ⟨h1, h2⟩ := h
  have dgu : decide (g ≤ u) = false := decide_eq_false (by omega)
  go_enter Try.func33, Try.ntmps33
  go_wp2
  go_ret
  refine ⟨ret_bool (by unfold inB; first | exact (decide_eq_true (by omega)).symm | exact (decide_eq_false (by omega)).symm | (rw [decide_eq_decide]; omega)), ?_⟩
  repeat (first | exact Below.refl _ _ | refine Below.alloc ?_ (by simp; omega) _ | refine Below.alloc ?_ (by simp) _)
theorem rIn_c (f t g u : Int) (w : World) (h : f ≤ t ∧ g ≤ u ∧ f < g) :
    Calls Try.prog 33 #[.agg #[.int .u32 f, .int .u32 t], .agg #[.int .u32 g, .int .u32 u]] w fun e w' => e = .returned (.bool (inB f t g u)) ∧ Below w.heap.size w w' := by
  obtain ⟨h1, h2, h3⟩ := h
  have dgf : decide (g ≤ f) = false := decide_eq_false (by omega)
  go_enter Try.func33, Try.ntmps33
  go_wp2
  go_ret
  refine ⟨ret_bool (by unfold inB; first | exact (decide_eq_true (by omega)).symm | exact (decide_eq_false (by omega)).symm | (rw [decide_eq_decide]; omega)), ?_⟩
  repeat (first | exact Below.refl _ _ | refine Below.alloc ?_ (by simp; omega) _ | refine Below.alloc ?_ (by simp) _)
theorem rIn_d (f t g u : Int) (w : World) (h : f ≤ t ∧ g ≤ u ∧ g ≤ f ∧ u < f) :
    Calls Try.prog 33 #[.agg #[.int .u32 f, .int .u32 t], .agg #[.int .u32 g, .int .u32 u]] w fun e w' => e = .returned (.bool (inB f t g u)) ∧ Below w.heap.size w w' := by
  obtain ⟨h1, h2, h3, h4⟩ := h
  have dfu : decide (f ≤ u) = false := decide_eq_false (by omega)
  go_enter Try.func33, Try.ntmps33
  go_wp2
  go_ret
  refine ⟨ret_bool (by unfold inB; first | exact (decide_eq_true (by omega)).symm | exact (decide_eq_false (by omega)).symm | (rw [decide_eq_decide]; omega)), ?_⟩
  repeat (first | exact Below.refl _ _ | refine Below.alloc ?_ (by simp; omega) _ | refine Below.alloc ?_ (by simp) _)
theorem rIn_e (f t g u : Int) (w : World) (h : f ≤ t ∧ g ≤ u ∧ g ≤ f ∧ f ≤ u ∧ g ≤ t ∧ u < t) :
    Calls Try.prog 33 #[.agg #[.int .u32 f, .int .u32 t], .agg #[.int .u32 g, .int .u32 u]] w fun e w' => e = .returned (.bool (inB f t g u)) ∧ Below w.heap.size w w' := by
  obtain ⟨h1, h2, h3, h4, h5, h6⟩ := h
  have dtu : decide (t ≤ u) = false := decide_eq_false (by omega)
  go_enter Try.func33, Try.ntmps33
  go_wp2
  go_ret
  refine ⟨ret_bool (by unfold inB; first | exact (decide_eq_true (by omega)).symm | exact (decide_eq_false (by omega)).symm | (rw [decide_eq_decide]; omega)), ?_⟩
  repeat (first | exact Below.refl _ _ | refine Below.alloc ?_ (by simp; omega) _ | refine Below.alloc ?_ (by simp) _)
theorem rIn_f (f t g u : Int) (w : World) (h : f ≤ t ∧ g ≤ u ∧ g ≤ f ∧ f ≤ u ∧ g ≤ t ∧ t ≤ u) :
    Calls Try.prog 33 #[.agg #[.int .u32 f, .int .u32 t], .agg #[.int .u32 g, .int .u32 u]] w fun e w' => e = .returned (.bool (inB f t g u)) ∧ Below w.heap.size w w' := by
  obtain ⟨h1, h2, h3, h4, h5, h6⟩ := h
  go_enter Try.func33, Try.ntmps33
  go_wp2
  go_ret
  refine ⟨ret_bool (by unfold inB; first | exact (decide_eq_true (by omega)).symm | exact (decide_eq_false (by omega)).symm | (rw [decide_eq_decide]; omega)), ?_⟩
  repeat (first | exact Below.refl _ _ | refine Below.alloc ?_ (by simp; omega) _ | refine Below.alloc ?_ (by simp) _)
theorem rIn_any (f t g u : Int) (w : World) :
    Calls Try.prog 33 #[.agg #[.int .u32 f, .int .u32 t], .agg #[.int .u32 g, .int .u32 u]] w fun e w' => e = .returned (.bool (inB f t g u)) ∧ Below w.heap.size w w' := by
  by_cases h1 : t < f
  · exact rIn_a f t g u w h1
  by_cases h2 : u < g
  · exact rIn_b f t g u w ⟨by omega, h2⟩
  by_cases h3 : f < g
  · exact rIn_c f t g u w ⟨by omega, by omega, h3⟩
  by_cases h4 : u < f
  · exact rIn_d f t g u w ⟨by omega, by omega, by omega, h4⟩
  by_cases h6 : u < t
  · exact rIn_e f t g u w ⟨by omega, by omega, by omega, by omega, by omega, h6⟩
  · exact rIn_f f t g u w ⟨by omega, by omega, by omega, by omega, by omega, by omega⟩

theorem tmod_bounds (x n : Int) (hn : 0 < n) : -n < Int.tmod x n ∧ Int.tmod x n < n := by
  by_cases h : 0 ≤ x
  · rw [Int.tmod_eq_emod_of_nonneg h]
    have := Int.emod_nonneg x (show n ≠ 0 by omega)
    have := Int.emod_lt_of_pos x hn
    omega
  · have e : Int.tmod x n = -(Int.tmod (-x) n) := by rw [Int.neg_tmod]; omega
    rw [e, Int.tmod_eq_emod_of_nonneg (by omega)]
    have := Int.emod_nonneg (-x) (show n ≠ 0 by omega)
    have := Int.emod_lt_of_pos (-x) hn
    omega
def pickV (x : Int) : Int := if Int.tmod x 9 < 0 then Int.tmod x 9 + 9 else Int.tmod x 9
theorem pickV_bounds (x : Int) : 0 ≤ pickV x ∧ pickV x ≤ 8 := by
  have := tmod_bounds x 9 (by omega)
  unfold pickV
  split <;> omega
end Go.Proofs.Ytploggfaihfeeaa.Reach
