/- SameInts of two rows with the same numbers; the contracts of WordSums. -/
import Derived.Test.YtmdepkehpohgeaaGreatSa
namespace Go.Proofs.YtmdepkehpohgeaaGreat.Word
open Go.RowKit Go.Maps Go.ChangeShapes Go.WideShapes Go.ChangeAt
set_option linter.unusedVariables false

theorem same_ints0 (a a' : Option Addr) (cap cap' : Nat) (w : World) :
    Calls Tryz.prog 34 #[.slice a 0 cap, .slice a' 0 cap'] w fun e w' => e = .returned (.bool true) ∧ ∃ j, w' = w.drewN j := by
  go_enter Tryz.func34, Tryz.ntmps34
  go_wp2
  go_rounds 1
  go_ret
  exact ⟨rfl, 0, rfl⟩
theorem same_intsC (b b' n cap cap' : Nat) (l : List Nat) (w : World) (hm : n ≤ 9223372036854775807)
    (h : ∀ i, i < n → w.cell? ⟨b, i, none⟩ = some (.int .i64 (l.getD i 0 : Nat))) (h' : ∀ i, i < n → w.cell? ⟨b', i, none⟩ = some (.int .i64 (l.getD i 0 : Nat))) :
    Calls Tryz.prog 34 #[.slice (some ⟨b, 0, none⟩) n cap, .slice (some ⟨b', 0, none⟩) n cap'] w fun e w' => e = .returned (.bool true) ∧ ∃ j, w' = w.drewN j := by
  have H := Lib.hid h
  have H' := Lib.hid h'
  clear h h'
  go_enter Tryz.func34, Tryz.ntmps34
  go_wp2
  go_loopw [5] (fun i wr => ∃ k : Nat, k ≤ n ∧ i = .int .i64 k ∧ ∃ j, wr = w.drewN j) (fun i _ => n - (intOf i).toNat)
  case atStart => exact ⟨0, Nat.zero_le _, rfl, 0, rfl⟩
  case round =>
    obtain ⟨k, hk, rfl, j, rfl⟩ := hrel
    by_cases hlt : k < n
    · have c1 := H.out k hlt
      have c2 := H'.out k hlt
      obtain ⟨x, hx⟩ : ∃ x, l.getD k 0 = x := ⟨_, rfl⟩
      rw [hx] at c1 c2
      clear hx
      go_wp2
      go_quiet (fail)
      go_wp2
      exact ⟨⟨k + 1, by omega, by go_num, _, rfl⟩, by simp [intOf]; omega⟩
    · go_wp2
      go_ret
      exact ⟨rfl, _, rfl⟩
theorem iv_at {w : World} {b g n c : Nat} {l : List Nat} (h : w.ownsRow b 3 1 (.slice (some ⟨g, 0, none⟩) n c) n (iv l)) : ∀ i, i < n → w.cell? ⟨g, i, none⟩ = some (.int .i64 (l.getD i 0 : Nat)) := fun i hi => by
  have hl : l.length = n := by have := h.1; simpa [iv] using this
  rw [KitInts.r_cell h hi]
  simp [iv, List.getD_eq_getElem?_getD, show i < l.length by omega]
theorem same_ints {w : World} {b b' n c c' : Nat} {a a' : Option Addr} {l : List Nat} (h : w.ownsRow b 3 1 (.slice a n c) n (iv l)) (h' : w.ownsRow b' 3 1 (.slice a' n c') n (iv l)) :
    Calls Tryz.prog 34 #[.slice a n c, .slice a' n c'] w fun e w' => e = .returned (.bool true) ∧ ∃ j, w' = w.drewN j := by
  have hm := KitInts.r_le h
  have hm' := KitInts.r_max h
  have hmm : maxLen = 9223372036854775807 := rfl
  rcases h.2 with ⟨h2, h0⟩ | ⟨g, cap, cur, h2, _⟩
  · subst h0; exact same_ints0 a a' c c' w
  · rcases h'.2 with ⟨h3, h0⟩ | ⟨g', cap', cur', h3, _⟩
    · subst h0; exact same_ints0 a a' c c' w
    · simp only [Value.slice.injEq] at h2 h3
      obtain ⟨rfl, _⟩ := h2
      obtain ⟨rfl, _⟩ := h3
      exact same_intsC g g' n c c' l w (by omega) (iv_at h) (iv_at h')
theorem own_shape {w : World} {b n : Nat} {v : Value} {L : List Value} (h : w.ownsRow b 3 1 v n L) : ∃ a c, v = .slice a n c := by
  rcases h.2 with ⟨rfl, rfl⟩ | ⟨g, cap, cur, rfl, _⟩
  · exact ⟨_, _, rfl⟩
  · exact ⟨_, _, rfl⟩
theorem own_below {w w' : World} {b n : Nat} {v : Value} {L : List Value} (h : w.ownsRow b 3 1 v n L) (hb : Below w.heap.size w w') : w'.ownsRow b 3 1 v n L := by
  refine ⟨h.1, ?_⟩
  rcases h.2 with h2 | ⟨g, cap, cur, rfl, hg, hh, r⟩
  · exact .inl h2
  · exact .inr ⟨g, cap, cur, rfl, hg, (hb.block g (Array.getElem?_eq_some_iff.1 hh).1).trans hh, r⟩

/-- What Ones answers: an own row of n numbers. -/
def OnesRow (n : Nat) (L : List Value) (w : World) (e : Ending) (W' : World) : Prop := ∃ a c, e = .returned (.slice a n c) ∧ W'.ownsRow w.heap.size 3 1 (.slice a n c) n L ∧ Below w.heap.size w W'
end Go.Proofs.YtmdepkehpohgeaaGreat.Word
