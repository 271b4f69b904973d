/- Contracts of Meet, the package's and the document's. -/
import Derived.Test.YtploggfaihfeeaaRta
namespace Go.Proofs.Ytploggfaihfeeaa.Reach
open Go.RowKit
set_option linter.unusedVariables false
def meetB (f t g u : Int) : Bool := decide (max f g ≤ min t u)
def meetF (f t g u : Int) : Int := if max f g ≤ min t u then max f g else 0
def meetT (f t g u : Int) : Int := if max f g ≤ min t u then min t u else 0
theorem Meet_aay (f t g u : Int) (w : World) (h : f < g ∧ t ≤ u ∧ g ≤ t) :
    Calls Try.prog 23 #[.agg #[.int .u32 f, .int .u32 t], .agg #[.int .u32 g, .int .u32 u]] w fun e w' => e = .returned (.tuple #[.agg #[.int .u32 (meetF f t g u), .int .u32 (meetT f t g u)], .bool (meetB f t g u)]) ∧ Below w.heap.size w w' := by
  obtain ⟨h0, h1, h2⟩ := h
  have dgf : decide (g ≤ f) = false := decide_eq_false (by omega)
  go_enter Try.func23, Try.ntmps23
  go_wp2
  all_goals
    refine bodyPost_ret (v := .tuple #[.agg #[.int .u32 (meetF f t g u), .int .u32 (meetT f t g u)], .bool (meetB f t g u)]) ?_ rfl ⟨rfl, ?_⟩
    · simp [results, Try.results23, go_sem, meetF, meetT, meetB]
      omega
    · repeat (first | exact Below.refl _ _ | refine Below.alloc ?_ (by simp; omega) _ | refine Below.alloc ?_ (by simp) _)
theorem Meet_aan (f t g u : Int) (w : World) (h : f < g ∧ t ≤ u ∧ t < g) :
    Calls Try.prog 23 #[.agg #[.int .u32 f, .int .u32 t], .agg #[.int .u32 g, .int .u32 u]] w fun e w' => e = .returned (.tuple #[.agg #[.int .u32 (meetF f t g u), .int .u32 (meetT f t g u)], .bool (meetB f t g u)]) ∧ Below w.heap.size w w' := by
  obtain ⟨h0, h1, h2⟩ := h
  have dgf : decide (g ≤ f) = false := decide_eq_false (by omega)
  have dgt : decide (g ≤ t) = false := decide_eq_false (by omega)
  go_enter Try.func23, Try.ntmps23
  go_wp2
  all_goals
    refine bodyPost_ret (v := .tuple #[.agg #[.int .u32 (meetF f t g u), .int .u32 (meetT f t g u)], .bool (meetB f t g u)]) ?_ rfl ⟨rfl, ?_⟩
    · simp [results, Try.results23, go_sem, meetF, meetT, meetB]
      omega
    · repeat (first | exact Below.refl _ _ | refine Below.alloc ?_ (by simp; omega) _ | refine Below.alloc ?_ (by simp) _)
theorem Meet_aby (f t g u : Int) (w : World) (h : f < g ∧ u < t ∧ g ≤ u) :
    Calls Try.prog 23 #[.agg #[.int .u32 f, .int .u32 t], .agg #[.int .u32 g, .int .u32 u]] w fun e w' => e = .returned (.tuple #[.agg #[.int .u32 (meetF f t g u), .int .u32 (meetT f t g u)], .bool (meetB f t g u)]) ∧ Below w.heap.size w w' := by
  obtain ⟨h0, h1, h2⟩ := h
  have dgf : decide (g ≤ f) = false := decide_eq_false (by omega)
  have dtu : decide (t ≤ u) = false := decide_eq_false (by omega)
  go_enter Try.func23, Try.ntmps23
  go_wp2
  all_goals
    refine bodyPost_ret (v := .tuple #[.agg #[.int .u32 (meetF f t g u), .int .u32 (meetT f t g u)], .bool (meetB f t g u)]) ?_ rfl ⟨rfl, ?_⟩
    · simp [results, Try.results23, go_sem, meetF, meetT, meetB]
      omega
    · repeat (first | exact Below.refl _ _ | refine Below.alloc ?_ (by simp; omega) _ | refine Below.alloc ?_ (by simp) _)
theorem Meet_abn (f t g u : Int) (w : World) (h : f < g ∧ u < t ∧ u < g) :
    Calls Try.prog 23 #[.agg #[.int .u32 f, .int .u32 t], .agg #[.int .u32 g, .int .u32 u]] w fun e w' => e = .returned (.tuple #[.agg #[.int .u32 (meetF f t g u), .int .u32 (meetT f t g u)], .bool (meetB f t g u)]) ∧ Below w.heap.size w w' := by
  obtain ⟨h0, h1, h2⟩ := h
  have dgf : decide (g ≤ f) = false := decide_eq_false (by omega)
  have dtu : decide (t ≤ u) = false := decide_eq_false (by omega)
  have dgu : decide (g ≤ u) = false := decide_eq_false (by omega)
  go_enter Try.func23, Try.ntmps23
  go_wp2
  all_goals
    refine bodyPost_ret (v := .tuple #[.agg #[.int .u32 (meetF f t g u), .int .u32 (meetT f t g u)], .bool (meetB f t g u)]) ?_ rfl ⟨rfl, ?_⟩
    · simp [results, Try.results23, go_sem, meetF, meetT, meetB]
      omega
    · repeat (first | exact Below.refl _ _ | refine Below.alloc ?_ (by simp; omega) _ | refine Below.alloc ?_ (by simp) _)
theorem Meet_bay (f t g u : Int) (w : World) (h : g ≤ f ∧ t ≤ u ∧ f ≤ t) :
    Calls Try.prog 23 #[.agg #[.int .u32 f, .int .u32 t], .agg #[.int .u32 g, .int .u32 u]] w fun e w' => e = .returned (.tuple #[.agg #[.int .u32 (meetF f t g u), .int .u32 (meetT f t g u)], .bool (meetB f t g u)]) ∧ Below w.heap.size w w' := by
  obtain ⟨h0, h1, h2⟩ := h
  go_enter Try.func23, Try.ntmps23
  go_wp2
  all_goals
    refine bodyPost_ret (v := .tuple #[.agg #[.int .u32 (meetF f t g u), .int .u32 (meetT f t g u)], .bool (meetB f t g u)]) ?_ rfl ⟨rfl, ?_⟩
    · simp [results, Try.results23, go_sem, meetF, meetT, meetB]
      omega
    · repeat (first | exact Below.refl _ _ | refine Below.alloc ?_ (by simp; omega) _ | refine Below.alloc ?_ (by simp) _)
theorem Meet_ban (f t g u : Int) (w : World) (h : g ≤ f ∧ t ≤ u ∧ t < f) :
    Calls Try.prog 23 #[.agg #[.int .u32 f, .int .u32 t], .agg #[.int .u32 g, .int .u32 u]] w fun e w' => e = .returned (.tuple #[.agg #[.int .u32 (meetF f t g u), .int .u32 (meetT f t g u)], .bool (meetB f t g u)]) ∧ Below w.heap.size w w' := by
  obtain ⟨h0, h1, h2⟩ := h
  have dft : decide (f ≤ t) = false := decide_eq_false (by omega)
  go_enter Try.func23, Try.ntmps23
  go_wp2
  all_goals
    refine bodyPost_ret (v := .tuple #[.agg #[.int .u32 (meetF f t g u), .int .u32 (meetT f t g u)], .bool (meetB f t g u)]) ?_ rfl ⟨rfl, ?_⟩
    · simp [results, Try.results23, go_sem, meetF, meetT, meetB]
      omega
    · repeat (first | exact Below.refl _ _ | refine Below.alloc ?_ (by simp; omega) _ | refine Below.alloc ?_ (by simp) _)
theorem Meet_bby (f t g u : Int) (w : World) (h : g ≤ f ∧ u < t ∧ f ≤ u) :
    Calls Try.prog 23 #[.agg #[.int .u32 f, .int .u32 t], .agg #[.int .u32 g, .int .u32 u]] w fun e w' => e = .returned (.tuple #[.agg #[.int .u32 (meetF f t g u), .int .u32 (meetT f t g u)], .bool (meetB f t g u)]) ∧ Below w.heap.size w w' := by
  obtain ⟨h0, h1, h2⟩ := h
  have dtu : decide (t ≤ u) = false := decide_eq_false (by omega)
  go_enter Try.func23, Try.ntmps23
  go_wp2
  all_goals
    refine bodyPost_ret (v := .tuple #[.agg #[.int .u32 (meetF f t g u), .int .u32 (meetT f t g u)], .bool (meetB f t g u)]) ?_ rfl ⟨rfl, ?_⟩
    · simp [results, Try.results23, go_sem, meetF, meetT, meetB]
      omega
    · repeat (first | exact Below.refl _ _ | refine Below.alloc ?_ (by simp; omega) _ | refine Below.alloc ?_ (by simp) _)
theorem Meet_bbn (f t g u : Int) (w : World) (h : g ≤ f ∧ u < t ∧ u < f) :
    Calls Try.prog 23 #[.agg #[.int .u32 f, .int .u32 t], .agg #[.int .u32 g, .int .u32 u]] w fun e w' => e = .returned (.tuple #[.agg #[.int .u32 (meetF f t g u), .int .u32 (meetT f t g u)], .bool (meetB f t g u)]) ∧ Below w.heap.size w w' := by
  obtain ⟨h0, h1, h2⟩ := h
  have dtu : decide (t ≤ u) = false := decide_eq_false (by omega)
  have dfu : decide (f ≤ u) = false := decide_eq_false (by omega)
  go_enter Try.func23, Try.ntmps23
  go_wp2
  all_goals
    refine bodyPost_ret (v := .tuple #[.agg #[.int .u32 (meetF f t g u), .int .u32 (meetT f t g u)], .bool (meetB f t g u)]) ?_ rfl ⟨rfl, ?_⟩
    · simp [results, Try.results23, go_sem, meetF, meetT, meetB]
      omega
    · repeat (first | exact Below.refl _ _ | refine Below.alloc ?_ (by simp; omega) _ | refine Below.alloc ?_ (by simp) _)
theorem Meet_any (f t g u : Int) (w : World) :
    Calls Try.prog 23 #[.agg #[.int .u32 f, .int .u32 t], .agg #[.int .u32 g, .int .u32 u]] w fun e w' => e = .returned (.tuple #[.agg #[.int .u32 (meetF f t g u), .int .u32 (meetT f t g u)], .bool (meetB f t g u)]) ∧ Below w.heap.size w w' := by
  by_cases haay : f < g ∧ t ≤ u ∧ g ≤ t
  · exact Meet_aay f t g u w haay
  by_cases haan : f < g ∧ t ≤ u ∧ t < g
  · exact Meet_aan f t g u w haan
  by_cases haby : f < g ∧ u < t ∧ g ≤ u
  · exact Meet_aby f t g u w haby
  by_cases habn : f < g ∧ u < t ∧ u < g
  · exact Meet_abn f t g u w habn
  by_cases hbay : g ≤ f ∧ t ≤ u ∧ f ≤ t
  · exact Meet_bay f t g u w hbay
  by_cases hban : g ≤ f ∧ t ≤ u ∧ t < f
  · exact Meet_ban f t g u w hban
  by_cases hbby : g ≤ f ∧ u < t ∧ f ≤ u
  · exact Meet_bby f t g u w hbby
  by_cases hbbn : g ≤ f ∧ u < t ∧ u < f
  · exact Meet_bbn f t g u w hbbn
  exfalso; omega
theorem rMeet_a (f t g u : Int) (w : World) (h : t < f) :
    Calls Try.prog 34 #[.agg #[.int .u32 f, .int .u32 t], .agg #[.int .u32 g, .int .u32 u]] w fun e w' => e = .returned (.tuple #[.agg #[.int .u32 (meetF f t g u), .int .u32 (meetT f t g u)], .bool (meetB f t g u)]) ∧ Below w.heap.size w w' := by
  have h0 := h
  have dft : decide (f ≤ t) = false := decide_eq_false (by omega)
  go_enter Try.func34, Try.ntmps34
  go_wp2
  all_goals
    refine bodyPost_ret (v := .tuple #[.agg #[.int .u32 (meetF f t g u), .int .u32 (meetT f t g u)], .bool (meetB f t g u)]) ?_ rfl ⟨rfl, ?_⟩
    · simp [results, Try.results34, go_sem, meetF, meetT, meetB]
      omega
    · repeat (first | exact Below.refl _ _ | refine Below.alloc ?_ (by simp; omega) _ | refine Below.alloc ?_ (by simp) _)
theorem rMeet_b (f t g u : Int) (w : World) (h : f ≤ t ∧ u < g) :
    Calls Try.prog 34 #[.agg #[.int .u32 f, .int .u32 t], .agg #[.int .u32 g, .int .u32 u]] w fun e w' => e = .returned (.tuple #[.agg #[.int .u32 (meetF f t g u), .int .u32 (meetT f t g u)], .bool (meetB f t g u)]) ∧ Below w.heap.size w w' := by
  obtain ⟨h0, h1⟩ := h
  have dgu : decide (g ≤ u) = false := decide_eq_false (by omega)
  go_enter Try.func34, Try.ntmps34
  go_wp2
  all_goals
    refine bodyPost_ret (v := .tuple #[.agg #[.int .u32 (meetF f t g u), .int .u32 (meetT f t g u)], .bool (meetB f t g u)]) ?_ rfl ⟨rfl, ?_⟩
    · simp [results, Try.results34, go_sem, meetF, meetT, meetB]
      omega
    · repeat (first | exact Below.refl _ _ | refine Below.alloc ?_ (by simp; omega) _ | refine Below.alloc ?_ (by simp) _)
theorem rMeet_aay (f t g u : Int) (w : World) (h : f ≤ t ∧ g ≤ u ∧ f < g ∧ t ≤ u ∧ g ≤ t) :
    Calls Try.prog 34 #[.agg #[.int .u32 f, .int .u32 t], .agg #[.int .u32 g, .int .u32 u]] w fun e w' => e = .returned (.tuple #[.agg #[.int .u32 (meetF f t g u), .int .u32 (meetT f t g u)], .bool (meetB f t g u)]) ∧ Below w.heap.size w w' := by
  obtain ⟨h0, h1, h2, h3, h4⟩ := h
  have dgf : decide (g ≤ f) = false := decide_eq_false (by omega)
  go_enter Try.func34, Try.ntmps34
  go_wp2
  all_goals
    refine bodyPost_ret (v := .tuple #[.agg #[.int .u32 (meetF f t g u), .int .u32 (meetT f t g u)], .bool (meetB f t g u)]) ?_ rfl ⟨rfl, ?_⟩
    · simp [results, Try.results34, go_sem, meetF, meetT, meetB]
      omega
    · repeat (first | exact Below.refl _ _ | refine Below.alloc ?_ (by simp; omega) _ | refine Below.alloc ?_ (by simp) _)
theorem rMeet_aan (f t g u : Int) (w : World) (h : f ≤ t ∧ g ≤ u ∧ f < g ∧ t ≤ u ∧ t < g) :
    Calls Try.prog 34 #[.agg #[.int .u32 f, .int .u32 t], .agg #[.int .u32 g, .int .u32 u]] w fun e w' => e = .returned (.tuple #[.agg #[.int .u32 (meetF f t g u), .int .u32 (meetT f t g u)], .bool (meetB f t g u)]) ∧ Below w.heap.size w w' := by
  obtain ⟨h0, h1, h2, h3, h4⟩ := h
  have dgf : decide (g ≤ f) = false := decide_eq_false (by omega)
  have dgt : decide (g ≤ t) = false := decide_eq_false (by omega)
  go_enter Try.func34, Try.ntmps34
  go_wp2
  all_goals
    refine bodyPost_ret (v := .tuple #[.agg #[.int .u32 (meetF f t g u), .int .u32 (meetT f t g u)], .bool (meetB f t g u)]) ?_ rfl ⟨rfl, ?_⟩
    · simp [results, Try.results34, go_sem, meetF, meetT, meetB]
      omega
    · repeat (first | exact Below.refl _ _ | refine Below.alloc ?_ (by simp; omega) _ | refine Below.alloc ?_ (by simp) _)
theorem rMeet_aby (f t g u : Int) (w : World) (h : f ≤ t ∧ g ≤ u ∧ f < g ∧ u < t ∧ g ≤ u) :
    Calls Try.prog 34 #[.agg #[.int .u32 f, .int .u32 t], .agg #[.int .u32 g, .int .u32 u]] w fun e w' => e = .returned (.tuple #[.agg #[.int .u32 (meetF f t g u), .int .u32 (meetT f t g u)], .bool (meetB f t g u)]) ∧ Below w.heap.size w w' := by
  obtain ⟨h0, h1, h2, h3, h4⟩ := h
  have dgf : decide (g ≤ f) = false := decide_eq_false (by omega)
  have dtu : decide (t ≤ u) = false := decide_eq_false (by omega)
  go_enter Try.func34, Try.ntmps34
  go_wp2
  all_goals
    refine bodyPost_ret (v := .tuple #[.agg #[.int .u32 (meetF f t g u), .int .u32 (meetT f t g u)], .bool (meetB f t g u)]) ?_ rfl ⟨rfl, ?_⟩
    · simp [results, Try.results34, go_sem, meetF, meetT, meetB]
      omega
    · repeat (first | exact Below.refl _ _ | refine Below.alloc ?_ (by simp; omega) _ | refine Below.alloc ?_ (by simp) _)
theorem rMeet_abn (f t g u : Int) (w : World) (h : f ≤ t ∧ g ≤ u ∧ f < g ∧ u < t ∧ u < g) :
    Calls Try.prog 34 #[.agg #[.int .u32 f, .int .u32 t], .agg #[.int .u32 g, .int .u32 u]] w fun e w' => e = .returned (.tuple #[.agg #[.int .u32 (meetF f t g u), .int .u32 (meetT f t g u)], .bool (meetB f t g u)]) ∧ Below w.heap.size w w' := by
  exfalso; omega
theorem rMeet_bay (f t g u : Int) (w : World) (h : f ≤ t ∧ g ≤ u ∧ g ≤ f ∧ t ≤ u ∧ f ≤ t) :
    Calls Try.prog 34 #[.agg #[.int .u32 f, .int .u32 t], .agg #[.int .u32 g, .int .u32 u]] w fun e w' => e = .returned (.tuple #[.agg #[.int .u32 (meetF f t g u), .int .u32 (meetT f t g u)], .bool (meetB f t g u)]) ∧ Below w.heap.size w w' := by
  obtain ⟨h0, h1, h2, h3, h4⟩ := h
  go_enter Try.func34, Try.ntmps34
  go_wp2
  all_goals
    refine bodyPost_ret (v := .tuple #[.agg #[.int .u32 (meetF f t g u), .int .u32 (meetT f t g u)], .bool (meetB f t g u)]) ?_ rfl ⟨rfl, ?_⟩
    · simp [results, Try.results34, go_sem, meetF, meetT, meetB]
      omega
    · repeat (first | exact Below.refl _ _ | refine Below.alloc ?_ (by simp; omega) _ | refine Below.alloc ?_ (by simp) _)
theorem rMeet_ban (f t g u : Int) (w : World) (h : f ≤ t ∧ g ≤ u ∧ g ≤ f ∧ t ≤ u ∧ t < f) :
    Calls Try.prog 34 #[.agg #[.int .u32 f, .int .u32 t], .agg #[.int .u32 g, .int .u32 u]] w fun e w' => e = .returned (.tuple #[.agg #[.int .u32 (meetF f t g u), .int .u32 (meetT f t g u)], .bool (meetB f t g u)]) ∧ Below w.heap.size w w' := by
  exfalso; omega
theorem rMeet_bby (f t g u : Int) (w : World) (h : f ≤ t ∧ g ≤ u ∧ g ≤ f ∧ u < t ∧ f ≤ u) :
    Calls Try.prog 34 #[.agg #[.int .u32 f, .int .u32 t], .agg #[.int .u32 g, .int .u32 u]] w fun e w' => e = .returned (.tuple #[.agg #[.int .u32 (meetF f t g u), .int .u32 (meetT f t g u)], .bool (meetB f t g u)]) ∧ Below w.heap.size w w' := by
  obtain ⟨h0, h1, h2, h3, h4⟩ := h
  have dtu : decide (t ≤ u) = false := decide_eq_false (by omega)
  go_enter Try.func34, Try.ntmps34
  go_wp2
  all_goals
    refine bodyPost_ret (v := .tuple #[.agg #[.int .u32 (meetF f t g u), .int .u32 (meetT f t g u)], .bool (meetB f t g u)]) ?_ rfl ⟨rfl, ?_⟩
    · simp [results, Try.results34, go_sem, meetF, meetT, meetB]
      omega
    · repeat (first | exact Below.refl _ _ | refine Below.alloc ?_ (by simp; omega) _ | refine Below.alloc ?_ (by simp) _)
theorem rMeet_bbn (f t g u : Int) (w : World) (h : f ≤ t ∧ g ≤ u ∧ g ≤ f ∧ u < t ∧ u < f) :
    Calls Try.prog 34 #[.agg #[.int .u32 f, .int .u32 t], .agg #[.int .u32 g, .int .u32 u]] w fun e w' => e = .returned (.tuple #[.agg #[.int .u32 (meetF f t g u), .int .u32 (meetT f t g u)], .bool (meetB f t g u)]) ∧ Below w.heap.size w w' := by
  obtain ⟨h0, h1, h2, h3, h4⟩ := h
  have dtu : decide (t ≤ u) = false := decide_eq_false (by omega)
  have dfu : decide (f ≤ u) = false := decide_eq_false (by omega)
  go_enter Try.func34, Try.ntmps34
  go_wp2
  all_goals
    refine bodyPost_ret (v := .tuple #[.agg #[.int .u32 (meetF f t g u), .int .u32 (meetT f t g u)], .bool (meetB f t g u)]) ?_ rfl ⟨rfl, ?_⟩
    · simp [results, Try.results34, go_sem, meetF, meetT, meetB]
      omega
    · repeat (first | exact Below.refl _ _ | refine Below.alloc ?_ (by simp; omega) _ | refine Below.alloc ?_ (by simp) _)
theorem rMeet_any (f t g u : Int) (w : World) :
    Calls Try.prog 34 #[.agg #[.int .u32 f, .int .u32 t], .agg #[.int .u32 g, .int .u32 u]] w fun e w' => e = .returned (.tuple #[.agg #[.int .u32 (meetF f t g u), .int .u32 (meetT f t g u)], .bool (meetB f t g u)]) ∧ Below w.heap.size w w' := by
  by_cases ha : t < f
  · exact rMeet_a f t g u w ha
  by_cases hb : f ≤ t ∧ u < g
  · exact rMeet_b f t g u w hb
  by_cases haay : f ≤ t ∧ g ≤ u ∧ f < g ∧ t ≤ u ∧ g ≤ t
  · exact rMeet_aay f t g u w haay
  by_cases haan : f ≤ t ∧ g ≤ u ∧ f < g ∧ t ≤ u ∧ t < g
  · exact rMeet_aan f t g u w haan
  by_cases haby : f ≤ t ∧ g ≤ u ∧ f < g ∧ u < t ∧ g ≤ u
  · exact rMeet_aby f t g u w haby
  by_cases habn : f ≤ t ∧ g ≤ u ∧ f < g ∧ u < t ∧ u < g
  · exact rMeet_abn f t g u w habn
  by_cases hbay : f ≤ t ∧ g ≤ u ∧ g ≤ f ∧ t ≤ u ∧ f ≤ t
  · exact rMeet_bay f t g u w hbay
  by_cases hban : f ≤ t ∧ g ≤ u ∧ g ≤ f ∧ t ≤ u ∧ t < f
  · exact rMeet_ban f t g u w hban
  by_cases hbby : f ≤ t ∧ g ≤ u ∧ g ≤ f ∧ u < t ∧ f ≤ u
  · exact rMeet_bby f t g u w hbby
  by_cases hbbn : f ≤ t ∧ g ≤ u ∧ g ≤ f ∧ u < t ∧ u < f
  · exact rMeet_bbn f t g u w hbbn
  exfalso; omega

end Go.Proofs.Ytploggfaihfeeaa.Reach
