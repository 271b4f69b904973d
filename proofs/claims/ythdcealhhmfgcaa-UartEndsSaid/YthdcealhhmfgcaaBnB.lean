/- Bytes told twice alike: own rows of bytes. -/
import Derived.Test.YthdcealhhmfgcaaBn
namespace Go.Proofs.Ythdcealhhmfgcaa.Bench
open Go.RowKit Go.Maps Go.ChangeShapes Go.WideShapes Go.ChangeAt Fifo Orow
set_option linter.unusedVariables false

theorem same_none (a a' : Option Addr) (cap cap' : Nat) (w : World) :
    Calls Try.prog 24 #[.slice a 0 cap, .slice a' 0 cap'] w fun e w' => e = .returned (.bool true) ∧ Below w.heap.size w w' := by
  go_enter Try.func24, Try.ntmps24
  go_wp2
  go_rounds 1
  go_ret
  exact ⟨rfl, Below.refl _ _⟩
theorem eqB_self (l : List Int) : Word.eqB l l = true := by unfold Word.eqB; simp
theorem own_bytes {w : World} {B g n c : Nat} {bs : List Int} (h : w.ownsRow B 5 1 (.slice (some ⟨g, 0, none⟩) n c) n (Word.bv bs)) (hn : bs.length = n) : ∀ i, i < n → w.cell? ⟨g, i, none⟩ = some (.int .u8 (bs.getD i 0)) := fun i hi => by
  have := own_cells h _ rfl i (.int .u8 (bs.getD i 0)) (by simp [Word.bv, List.getD_eq_getElem?_getD, show i < bs.length by omega])
  rwa [Go.WideShapes.add_plain, Nat.zero_add] at this
/-- Two own rows of the same bytes are the same. -/
theorem same_own {w : World} {B B' n : Nat} {v v' : Value} {bs : List Int} (h : w.ownsRow B 5 1 v n (Word.bv bs)) (h' : w.ownsRow B' 5 1 v' n (Word.bv bs)) (hn2 : n ≤ 4096) :
    Calls Try.prog 24 #[v, v'] w fun e w' => e = .returned (.bool true) ∧ Below w.heap.size w w' := by
  have hn : bs.length = n := by have := h.1; simpa [Word.bv] using this
  obtain ⟨a, c, rfl, _, ha⟩ := own_shape h
  obtain ⟨a', c', rfl, _, ha'⟩ := own_shape h'
  by_cases h0 : n = 0
  · subst h0
    exact same_none a a' c c' w
  · obtain ⟨g, rfl⟩ := own_some h (.inl (by omega))
    obtain ⟨g', rfl⟩ := own_some h' (.inl (by omega))
    refine (Word.same_bytes g 0 g' 0 n c c' bs bs w (by omega) hn hn (fun i hi => by rw [Nat.zero_add]; exact own_bytes h hn i hi) (fun i hi => by rw [Nat.zero_add]; exact own_bytes h' hn i hi)).mono ?_
    rintro e w' ⟨rfl, j, rfl⟩
    exact ⟨by rw [eqB_self], Fifo.below_drewN w j⟩
end Go.Proofs.Ythdcealhhmfgcaa.Bench
