/- SameInts of two rows with the same numbers; the contracts of WordSums. -/
import Derived.Test.YtmdepkehpohgeaaSa
namespace Go.Proofs.Ytmdepkehpohgeaa.Word
open Go.RowKit Go.Maps Go.ChangeShapes Go.WideShapes Go.ChangeAt
set_option linter.unusedVariables false

theorem iv_at {w : World} {b g n c : Nat} {l : List Nat} (h : w.ownsRow b 3 1 (.slice (some ⟨g, 0, none⟩) n c) n (iv l)) : ∀ i, i < n → w.cell? ⟨g, i, none⟩ = some (.int .i64 (l.getD i 0 : Nat)) := fun i hi => by
  have hl : l.length = n := by have := h.1; simpa [iv] using this
  rw [KitInts.r_cell h hi]
  simp [iv, List.getD_eq_getElem?_getD, show i < l.length by omega]
theorem own_shape {w : World} {b n : Nat} {v : Value} {L : List Value} (h : w.ownsRow b 3 1 v n L) : ∃ a c, v = .slice a n c := by
  rcases h.2 with ⟨rfl, rfl⟩ | ⟨g, cap, cur, rfl, _⟩
  · exact ⟨_, _, rfl⟩
  · exact ⟨_, _, rfl⟩
theorem own_below {w w' : World} {b n : Nat} {v : Value} {L : List Value} (h : w.ownsRow b 3 1 v n L) (hb : Below w.heap.size w w') : w'.ownsRow b 3 1 v n L := by
  refine ⟨h.1, ?_⟩
  rcases h.2 with h2 | ⟨g, cap, cur, rfl, hg, hh, r⟩
  · exact .inl h2
  · exact .inr ⟨g, cap, cur, rfl, hg, (hb.block g (Array.getElem?_eq_some_iff.1 hh).1).trans hh, r⟩

/-- What Ones answers: an own row of n numbers. -/
def OnesRow (n : Nat) (L : List Value) (w : World) (e : Ending) (W' : World) : Prop := ∃ a c, e = .returned (.slice a n c) ∧ W'.ownsRow w.heap.size 3 1 (.slice a n c) n L ∧ Below w.heap.size w W'
end Go.Proofs.Ytmdepkehpohgeaa.Word
