/- Words told twice alike: rows of words. -/
import Derived.Test.YtknhgfofmkpnfaaGreatBn
import Derived.Test.YtknhgfofmkpnfaaGreatJr
namespace Go.Proofs.YtknhgfofmkpnfaaGreat.Mbox
open Go.RowKit Go.Maps Go.ChangeShapes Go.WideShapes Go.ChangeAt Fifo Orow OffL
set_option linter.unusedVariables false

theorem same_none (a a' : Option Addr) (cap cap' : Nat) (w : World) :
    Calls Tryz.prog 11 #[.slice a 0 cap, .slice a' 0 cap'] w fun e w' => e = .returned (.bool true) ∧ Below w.heap.size w w' := by
  go_enter Tryz.func11, Tryz.ntmps11
  go_wp2
  go_rounds 1
  go_ret
  exact ⟨rfl, Below.refl _ _⟩
theorem same_cells (b o b' o' n cap cap' : Nat) (l : List Int) (w : World) (hm : n ≤ 9223372036854775807)
    (h : ∀ i, i < n → w.cell? ⟨b, o + i, none⟩ = some (.int .u32 (l.getD i 0))) (h' : ∀ i, i < n → w.cell? ⟨b', o' + i, none⟩ = some (.int .u32 (l.getD i 0))) :
    Calls Tryz.prog 11 #[.slice (some ⟨b, o, none⟩) n cap, .slice (some ⟨b', o', none⟩) n cap'] w fun e w' => e = .returned (.bool true) ∧ Below w.heap.size w w' := by
  have H := Lib.hid h
  have H' := Lib.hid h'
  clear h h'
  go_enter Tryz.func11, Tryz.ntmps11
  go_wp2
  go_loopw [5] (fun i wr => ∃ k : Nat, k ≤ n ∧ i = .int .i64 k ∧ ∃ j, wr = w.drewN j) (fun i _ => n - (intOf i).toNat)
  case atStart => exact ⟨0, Nat.zero_le _, rfl, 0, rfl⟩
  case round =>
    obtain ⟨k, hk, rfl, j, rfl⟩ := hrel
    by_cases hlt : k < n
    · have c1 := H.out k hlt
      have c2 := H'.out k hlt
      obtain ⟨x, hx⟩ : ∃ x, l.getD k 0 = x := ⟨_, rfl⟩
      rw [hx] at c1 c2
      clear hx
      go_wp2
      go_quiet (fail)
      go_wp2
      exact ⟨⟨k + 1, by omega, by go_num, _, rfl⟩, by simp [intOf]; omega⟩
    · go_wp2
      go_ret
      exact ⟨rfl, Fifo.below_drewN w j⟩
theorem own_words {w : World} {B g n c : Nat} {l : List Int} (h : w.ownsRow B 23 1 (.slice (some ⟨g, 0, none⟩) n c) n (lv l)) (hn : l.length = n) : ∀ i, i < n → w.cell? ⟨g, 0 + i, none⟩ = some (.int .u32 (l.getD i 0)) := fun i hi => by
  have := own_cells h _ rfl i (.int .u32 (l.getD i 0)) (by simp [lv, List.getD_eq_getElem?_getD, show i < l.length by omega])
  rwa [Go.WideShapes.add_plain] at this
theorem off_words {w : World} {g off n c : Nat} {l : List Int} (h : Off w (.slice (some ⟨g, off, none⟩) n c) (lv l)) (hn : l.length = n) : ∀ i, i < n → w.cell? ⟨g, off + i, none⟩ = some (.int .u32 (l.getD i 0)) := fun i hi => by
  rcases h with ⟨h1, _⟩ | ⟨g', off', cap, cs, h1, hb, r1, r2, r3⟩
  · cases h1
  · simp only [Value.slice.injEq, Option.some.injEq, Addr.mk.injEq, and_true] at h1
    obtain ⟨⟨rfl, rfl⟩, _, rfl⟩ := h1
    rw [hb.cell, r3 i (by rw [lvl]; omega)]
    simp [lv, List.getD_eq_getElem?_getD, show i < l.length by omega]
theorem same_own {w : World} {B B' n : Nat} {v v' : Value} {l : List Int} (h : w.ownsRow B 23 1 v n (lv l)) (h' : w.ownsRow B' 23 1 v' n (lv l)) (hn2 : n ≤ 4096) :
    Calls Tryz.prog 11 #[v, v'] w fun e w' => e = .returned (.bool true) ∧ Below w.heap.size w w' := by
  have hn : l.length = n := by have := h.1; simpa [lv] using this
  obtain ⟨a, c, rfl, _, ha⟩ := own_shape h
  obtain ⟨a', c', rfl, _, ha'⟩ := own_shape h'
  by_cases h0 : n = 0
  · subst h0
    exact same_none a a' c c' w
  · obtain ⟨g, rfl⟩ := own_some h (.inl (by omega))
    obtain ⟨g', rfl⟩ := own_some h' (.inl (by omega))
    exact same_cells g 0 g' 0 n c c' l w (by omega) (own_words h hn) (own_words h' hn)
theorem same_off {w : World} {B n c c' : Nat} {a a' : Option Addr} {l : List Int} (h : w.ownsRow B 23 1 (.slice a n c) n (lv l)) (h' : Off w (.slice a' n c') (lv l)) (hn : l.length = n) (hn2 : n ≤ 4096) :
    Calls Tryz.prog 11 #[.slice a n c, .slice a' n c'] w fun e w' => e = .returned (.bool true) ∧ Below w.heap.size w w' := by
  by_cases h0 : n = 0
  · subst h0
    exact same_none a a' c c' w
  · obtain ⟨g, rfl⟩ := own_some h (.inl (by omega))
    have hne : lv l ≠ [] := fun e => by have := congrArg List.length e; rw [lvl, List.length_nil] at this; omega
    obtain ⟨g', off, cap, e, _⟩ := h'.lies hne
    simp only [Value.slice.injEq] at e
    obtain ⟨rfl, _, rfl⟩ := e
    exact same_cells g 0 g' off n c c' l w (by omega) (own_words h hn) (off_words h' hn)
end Go.Proofs.YtknhgfofmkpnfaaGreat.Mbox
