/- What two reaches meet in: plain facts. -/
import Derived.Test.YtpgjkoccanekeaaRtg
import Derived.Test.YtpgjkoccanekeaaRtf
import Derived.Test.YtpgjkoccanekeaaRtp
namespace Go.Proofs.Ytpgjkoccanekeaa.Reach
open Go.RowKit
set_option linter.unusedVariables false

theorem meetF_comm (f t g u : Int) : meetF g u f t = meetF f t g u := by
  unfold meetF; rw [show max g f = max f g by omega, show min u t = min t u by omega]
theorem meetT_comm (f t g u : Int) : meetT g u f t = meetT f t g u := by
  unfold meetT; rw [show max g f = max f g by omega, show min u t = min t u by omega]
theorem meetB_comm (f t g u : Int) : meetB g u f t = meetB f t g u := by
  unfold meetB; rw [decide_eq_decide]; omega
/-- What the two of a pair are told apart by. -/
theorem apart_pair (f t g u : Int) (h1 : rightB f t = true) (h2 : rightB g u = true) : apartB [(f, t), (g, u)] = !meetB f t g u := by
  cases hm : meetB f t g u
  · refine apart_yes ?_ ?_
    · intro i hi
      match i, hi with
      | 0, _ => exact h1
      | 1, _ => exact h2
      | i + 2, hi => simp at hi; omega
    · intro i k hk hi
      match i, k, hk, hi with
      | 1, 0, _, _ => show meetsP (g, u) (f, t) = false; rw [meetsP_comm]; exact hm
      | i + 2, _, _, hi => simp at hi; omega
  · exact apart_no_meet (i := 1) (k := 0) (by omega) (by simp) (by show meetsP (g, u) (f, t) = true; rw [meetsP_comm]; exact hm)
theorem pair_row (w : World) (f t g u : Int) : RowR (w.alloc (.cells #[.int .u32 f, .int .u32 t, .int .u32 g, .int .u32 u] 24)) (some ⟨w.heap.size, 0, none⟩) 2 [(f, t), (g, u)] := by
  refine ⟨rfl, fun j hj => ⟨w.heap.size, 0, rfl, ?_, ?_⟩⟩
  · match j, hj with
    | 0, _ => exact World.cell?_alloc_at _ _ _ 0 rfl
    | 1, _ => exact World.cell?_alloc_at _ _ _ 2 rfl
    | j + 2, hj => omega
  · match j, hj with
    | 0, _ => exact World.cell?_alloc_at _ _ _ 1 rfl
    | 1, _ => exact World.cell?_alloc_at _ _ _ 3 rfl
    | j + 2, hj => omega
/-- How is, in a, in b, in what both have go together. -/
def CaseA (is ha hb hm : Bool) : Prop := is = true ∧ ha = true ∧ hb = true ∧ hm = true ∨ is = true ∧ ha = true ∧ hb = false ∧ hm = false ∨ is = true ∧ ha = false ∧ hm = false ∨ is = false ∧ ha = true ∧ hb = false ∨ is = false ∧ ha = false
theorem caseA (f t g u p : Int) : CaseA (meetB f t g u) (hasB f t p) (hasB g u p) (hasB (meetF f t g u) (meetT f t g u) p) := by
  unfold CaseA
  cases h1 : meetB f t g u
  · have a := of_decide_eq_false h1
    cases h2 : hasB f t p
    · simp
    · have b := of_decide_eq_true h2
      have : hasB g u p = false := decide_eq_false (by omega)
      simp [this]
  · have a := of_decide_eq_true h1
    have e : hasB (meetF f t g u) (meetT f t g u) p = (hasB f t p && hasB g u p) := by
      unfold meetF meetT
      rw [if_pos a, if_pos a]
      unfold hasB
      rw [← Bool.decide_and, decide_eq_decide]
      omega
    rw [e]
    cases hasB f t p <;> cases hasB g u p <;> simp
def CaseB (is iab ra rb : Bool) : Prop := is = true ∧ iab = true ∧ ra = true ∧ rb = true ∨ is = true ∧ iab = false ∧ ra = true ∧ rb = true ∨ is = false ∧ iab = false ∧ (ra = true ∧ rb = true ∨ ra = true ∧ rb = false ∨ ra = false)
theorem caseB (f t g u : Int) : CaseB (meetB f t g u) (inB f t g u) (rightB f t) (rightB g u) := by
  unfold CaseB
  cases h1 : meetB f t g u
  · have a := of_decide_eq_false h1
    have : inB f t g u = false := decide_eq_false (by omega)
    rw [this]
    cases rightB f t <;> cases rightB g u <;> simp
  · have a := of_decide_eq_true h1
    have e1 : rightB f t = true := decide_eq_true (by omega)
    have e2 : rightB g u = true := decide_eq_true (by omega)
    rw [e1, e2]
    cases inB f t g u <;> simp
theorem meet_in (f t g u : Int) (h : meetB f t g u = true) : inB (meetF f t g u) (meetT f t g u) f t = true ∧ inB (meetF f t g u) (meetT f t g u) g u = true := by
  have a := of_decide_eq_true h
  unfold meetF meetT
  rw [if_pos a, if_pos a]
  exact ⟨decide_eq_true (by omega), decide_eq_true (by omega)⟩
theorem in_meet (f t g u : Int) (h : inB f t g u = true) : meetF f t g u = f ∧ meetT f t g u = t := by
  have a := of_decide_eq_true h
  unfold meetF meetT
  rw [if_pos (by omega), if_pos (by omega)]
  omega
theorem of_facts (p n : Int) (h0 : 0 ≤ p) (h : ofB p n = true) : ofF p n = p ∧ sizeV (ofF p n) (ofT p n) = n ∧ hasB (ofF p n) (ofT p n) p = true ∧ inB (ofF p n) (ofT p n) 0 4294967295 = true := by
  have a := of_decide_eq_true h
  unfold ofF ofT
  rw [if_pos a, if_pos a]
  refine ⟨rfl, ?_, decide_eq_true (by omega), decide_eq_true (by omega)⟩
  unfold sizeV; rw [if_pos (by omega)]; omega
end Go.Proofs.Ytpgjkoccanekeaa.Reach
