/- Whether what was lent is kept; a number picked. -/
import Derived.Test.YtploggfaihfeeaaPa
namespace Go.Proofs.Ytploggfaihfeeaa.Word
open Go.RowKit Go.Maps Go.ChangeShapes Go.WideShapes Go.ChangeAt
set_option linter.unusedVariables false

theorem lent_left {w : World} {B g n c : Nat} {l : List Int} {M : List Value} (h : w.ownsRow B 5 1 (.slice (some ⟨g, 0, none⟩) (n + 12) c) (n + 12) (bv l ++ M)) (hl : l.length = n) : ∀ i, i < n → w.cell? ⟨g, i, none⟩ = some (.int .u8 (l.getD i 0)) := fun i hi => by
  rw [KitBytes.r_cell h (by omega), List.getElem?_append_left (by simp [bv]; omega)]
  simp [bv, List.getD_eq_getElem?_getD, show i < l.length by omega]
theorem lent_right {w : World} {B g n c : Nat} {l : List Int} (h : w.ownsRow B 5 1 (.slice (some ⟨g, 0, none⟩) (n + 12) c) (n + 12) (bv l ++ KitBytes.marks 1 12)) (hl : l.length = n) : ∀ i, i < 12 → w.cell? ⟨g, n + i, none⟩ = some (.int .u8 (KitBytes.mk 1 (i : Nat))) := fun i hi => by
  rw [KitBytes.r_cell h (by omega), List.getElem?_append_right (by simp [bv]; omega)]
  have : n + i - (bv l).length = i := by simp [bv]; omega
  rw [this, KitBytes.marks_at 1 hi]
section
attribute [local irreducible] Go.wpQuiet
end
theorem tmod6 (x : Int) : -6 < Int.tmod x 6 ∧ Int.tmod x 6 < 6 := by
  rcases Int.le_total 0 x with h | h
  · rw [Int.tmod_eq_emod_of_nonneg h]; omega
  · have e : Int.tmod x 6 = -(Int.tmod (-x) 6) := by rw [Int.neg_tmod]; omega
    rw [e, Int.tmod_eq_emod_of_nonneg (by omega)]; omega
end Go.Proofs.Ytploggfaihfeeaa.Word
