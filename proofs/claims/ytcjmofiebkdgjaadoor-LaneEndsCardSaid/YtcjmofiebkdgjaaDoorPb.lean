/- Whether what was lent is kept; a number picked. -/
import Derived.Test.YtcjmofiebkdgjaaDoorPa
namespace Go.Proofs.YtcjmofiebkdgjaaDoor.Word
open Go.RowKit Go.Maps Go.ChangeShapes Go.WideShapes Go.ChangeAt
set_option linter.unusedVariables false

theorem lent_left {w : World} {B g n c : Nat} {l : List Int} {M : List Value} (h : w.ownsRow B 5 1 (.slice (some ⟨g, 0, none⟩) (n + 12) c) (n + 12) (bv l ++ M)) (hl : l.length = n) : ∀ i, i < n → w.cell? ⟨g, i, none⟩ = some (.int .u8 (l.getD i 0)) := fun i hi => by
  rw [KitBytes.r_cell h (by omega), List.getElem?_append_left (by simp [bv]; omega)]
  simp [bv, List.getD_eq_getElem?_getD, show i < l.length by omega]
theorem lent_right {w : World} {B g n c : Nat} {l : List Int} (h : w.ownsRow B 5 1 (.slice (some ⟨g, 0, none⟩) (n + 12) c) (n + 12) (bv l ++ KitBytes.marks 1 12)) (hl : l.length = n) : ∀ i, i < 12 → w.cell? ⟨g, n + i, none⟩ = some (.int .u8 (KitBytes.mk 1 (i : Nat))) := fun i hi => by
  rw [KitBytes.r_cell h (by omega), List.getElem?_append_right (by simp [bv]; omega)]
  have : n + i - (bv l).length = i := by simp [bv]; omega
  rw [this, KitBytes.marks_at 1 hi]
section
attribute [local irreducible] Go.wpQuiet
end
theorem tmod6 (x : Int) : -6 < Int.tmod x 6 ∧ Int.tmod x 6 < 6 := by
  rcases Int.le_total 0 x with h | h
  · rw [Int.tmod_eq_emod_of_nonneg h]; omega
  · have e : Int.tmod x 6 = -(Int.tmod (-x) 6) := by rw [Int.neg_tmod]; omega
    rw [e, Int.tmod_eq_emod_of_nonneg (by omega)]; omega
theorem pick_any (x : Int) (w : World) (h0 : -9223372036854775808 ≤ x) (h1 : x ≤ 9223372036854775807) :
    Calls Tryd.prog 9 #[.int .i64 x, .int .i64 6] w fun e w' => (∃ p, 0 ≤ p ∧ p ≤ 5 ∧ e = .returned (.int .i64 p)) ∧ w = w' := by
  have ht := tmod6 x
  by_cases hneg : Int.tmod x 6 < 0
  · have d1 : decide (Int.tmod x 6 < 0) = true := by simpa using hneg
    go_enter Tryd.func9, Tryd.ntmps9
    go_wp2
    go_ret
    exact ⟨⟨Int.tmod x 6 + 6, by omega, by omega, by go_num⟩, rfl⟩
  · have d1 : decide (Int.tmod x 6 < 0) = false := by simpa using hneg
    go_enter Tryd.func9, Tryd.ntmps9
    go_wp2
    go_ret
    exact ⟨⟨Int.tmod x 6, by omega, by omega, by go_num⟩, rfl⟩
end Go.Proofs.YtcjmofiebkdgjaaDoor.Word
