/- Own rows of numbers: what keeps them, what is appended; Pick; SameInts. -/
import Derived.Test.YtekmenojaojeiaaFq
import Derived.Maps.AppendAt
import Derived.OwnWalk
import Derived.Handy
namespace Go.Proofs.Ytekmenojaojeiaa.Fifo5
open Go.RowKit Go.Maps Fifo FI
set_option linter.unusedVariables false

/-- An own row of numbers. -/
abbrev Own1 (w : World) (B : Nat) (v : Value) (l : List Value) : Prop := w.ownsRow B 3 1 v l.length l
theorem own_only {S : Nat → Prop} {w w' : World} {B : Nat} {v : Value} {l : List Value} (h : Own1 w B v l) (ho : Only S w w') (hn : ∀ j, PB v j → ¬ S j) : Own1 w' B v l := by
  refine ⟨h.1, ?_⟩
  rcases h.2 with h2 | ⟨g, cap, cur, rfl, hg, hh, r⟩
  · exact .inl h2
  · exact .inr ⟨g, cap, cur, rfl, hg, ho.heap hh (hn g rfl), r⟩
theorem own_keep {w w' : World} {B : Nat} {v : Value} {l : List Value} (h : Own1 w B v l) (hb : Below w.heap.size w w') : Own1 w' B v l :=
  own_only h (Only.of_below (S := fun _ => False) hb) (fun _ _ h => h)
theorem own_book {C : Nat} {w w' : World} {B : Nat} {v : Value} {l : List Value} (h : Own1 w B v l) (hb : Book C w w') : Own1 w' B v l := by
  refine ⟨h.1, ?_⟩
  rcases h.2 with h2 | ⟨g, cap, cur, rfl, hg, hh, r⟩
  · exact .inl h2
  · exact .inr ⟨g, cap, cur, rfl, hg, hb.cells _ _ hh rfl, r⟩
theorem own_lt {w : World} {B : Nat} {v : Value} {l : List Value} (h : Own1 w B v l) : ∀ j, PB v j → B ≤ j ∧ j < w.heap.size := h.lt
theorem own_shape {w : World} {B : Nat} {v : Value} {l : List Value} (h : Own1 w B v l) : ∃ a c, v = .slice a l.length c := by
  obtain ⟨n, hn⟩ : ∃ n, l.length = n := ⟨_, rfl⟩
  unfold Own1 at h
  rw [hn] at h ⊢
  rcases h.2 with ⟨rfl, rfl⟩ | ⟨g, cap, cur, rfl, _⟩
  · exact ⟨_, _, rfl⟩
  · exact ⟨_, _, rfl⟩
/-- A row's block is one of numbers: no block of another type. -/
theorem own_ne {w : World} {B P : Nat} {v : Value} {l cs : List Value} {t : TypeId} (h : Own1 w B v l) (hP : Blk w P t cs) (ht : t ≠ 3) : ∀ j, PB v j → j ≠ P := by
  rintro j hj rfl
  rcases h.2 with ⟨rfl, _⟩ | ⟨g, cap, cur, rfl, hg, hh, r⟩
  · simp [PB, Value.ownBlock] at hj
  · simp [PB, Value.ownBlock] at hj
    subst hj
    unfold Blk at hP
    rw [hh] at hP
    simp only [Option.some.injEq, Obj.cells.injEq] at hP
    exact ht hP.2.1.symm
/-- Behind an append to v. -/
theorem only_grown {w w' : World} {v : Value} (h : w.grownBy w' v.ownBlock) : Only (PB v) w w' :=
  ⟨h.os, h.tape, h.output, h.size, fun k hk hn => h.block k hk (fun e => hn e.symm)⟩

theorem tmod_bound (x : Int) (n : Nat) (hn : 0 < n) : -(n : Int) < Int.tmod x n ∧ Int.tmod x n < n := by
  rcases Int.le_total 0 x with h | h
  · rw [Int.tmod_eq_emod_of_nonneg h]
    have h1 := Int.emod_nonneg x (show (n : Int) ≠ 0 by omega)
    have h2 := Int.emod_lt_of_pos x (show (0 : Int) < n by omega)
    omega
  · have e : Int.tmod x n = -(Int.tmod (-x) n) := by rw [Int.neg_tmod]; omega
    rw [e, Int.tmod_eq_emod_of_nonneg (show 0 ≤ -x by omega)]
    have h1 := Int.emod_nonneg (-x) (show (n : Int) ≠ 0 by omega)
    have h2 := Int.emod_lt_of_pos (-x) (show (0 : Int) < n by omega)
    omega
theorem pick_is (x : Int) (n : Nat) (hn : 0 < n) (hn2 : n < 1000) : ∃ p : Nat, p < n ∧ ∀ w, Calls Try.prog 26 #[.int .i64 x, .int .i64 (n : Nat)] w fun e w' => e = .returned (.int .i64 (p : Nat)) ∧ w = w' := by
  obtain ⟨t1, t2⟩ := tmod_bound x n hn
  obtain ⟨r, hr⟩ : ∃ r, Int.tmod x n = r := ⟨_, rfl⟩
  rw [hr] at t1 t2
  have e0 : decide ((n : Int) < 1) = false := decide_eq_false (by omega)
  have e1 : ¬ ((n : Int) = 0) := by omega
  by_cases hneg : r < 0
  · obtain ⟨p, hp⟩ := Int.eq_ofNat_of_zero_le (show 0 ≤ r + n by omega)
    refine ⟨p, by omega, fun w => ?_⟩
    have d1 : decide (r < 0) = true := decide_eq_true hneg
    have d2 : IntKind.i64.wrap (r + (n : Int)) = (p : Int) := by rw [i64w (by omega)]; exact hp
    clear hneg hp t1 t2 hn hn2
    go_enter Try.func26, Try.ntmps26
    go_wp2_with fail
    go_ret
    exact ⟨rfl, rfl⟩
  · obtain ⟨p, hp⟩ := Int.eq_ofNat_of_zero_le (show 0 ≤ r by omega)
    refine ⟨p, by omega, fun w => ?_⟩
    have d1 : decide (r < 0) = false := decide_eq_false hneg
    rw [← hp]
    clear hneg hp t1 t2 hn hn2
    go_enter Try.func26, Try.ntmps26
    go_wp2_with fail
    go_ret
    exact ⟨rfl, rfl⟩

theorem same_none (a a' : Option Addr) (cap cap' : Nat) (w : World) :
    Calls Try.prog 28 #[.slice a 0 cap, .slice a' 0 cap'] w fun e w' => e = .returned (.bool true) ∧ Below w.heap.size w w' := by
  go_enter Try.func28, Try.ntmps28
  go_wp2
  go_rounds 1
  go_ret
  exact ⟨rfl, Below.refl _ _⟩
theorem same_cells (b b' n cap cap' : Nat) (l : List Int) (w : World) (hm : n ≤ 9223372036854775807)
    (h : ∀ i, i < n → w.cell? ⟨b, i, none⟩ = some (.int .i64 (l.getD i 0))) (h' : ∀ i, i < n → w.cell? ⟨b', i, none⟩ = some (.int .i64 (l.getD i 0))) :
    Calls Try.prog 28 #[.slice (some ⟨b, 0, none⟩) n cap, .slice (some ⟨b', 0, none⟩) n cap'] w fun e w' => e = .returned (.bool true) ∧ Below w.heap.size w w' := by
  have H := Lib.hid h
  have H' := Lib.hid h'
  clear h h'
  go_enter Try.func28, Try.ntmps28
  go_wp2
  go_loopw [5] (fun i wr => ∃ k : Nat, k ≤ n ∧ i = .int .i64 k ∧ ∃ j, wr = w.drewN j) (fun i _ => n - (intOf i).toNat)
  case atStart => exact ⟨0, Nat.zero_le _, rfl, 0, rfl⟩
  case round =>
    obtain ⟨k, hk, rfl, j, rfl⟩ := hrel
    by_cases hlt : k < n
    · have c1 := H.out k hlt
      have c2 := H'.out k hlt
      obtain ⟨x, hx⟩ : ∃ x, l.getD k 0 = x := ⟨_, rfl⟩
      rw [hx] at c1 c2
      clear hx
      go_wp2
      go_quiet (fail)
      go_wp2
      exact ⟨⟨k + 1, by omega, by go_num, _, rfl⟩, by simp [intOf]; omega⟩
    · go_wp2
      go_ret
      exact ⟨rfl, below_drewN _ _⟩
theorem own_cell {w : World} {B g n c : Nat} {l : List Int} (h : w.ownsRow B 3 1 (.slice (some ⟨g, 0, none⟩) n c) n (vals l)) : ∀ i, i < n → w.cell? ⟨g, i, none⟩ = some (.int .i64 (l.getD i 0)) := fun i hi => by
  have hl : l.length = n := by have := h.1; simpa [vals] using this
  have := h.cells (g := g) rfl i (.int .i64 (l.getD i 0)) (by simp [vals, List.getD_eq_getElem?_getD, show i < l.length by omega])
  have hadd : (⟨g, 0, none⟩ : Addr).add i = ⟨g, i, none⟩ := by unfold Addr.add; split <;> simp_all
  rw [hadd] at this
  exact this
theorem same_vals {w : World} {B B' : Nat} {v v' : Value} {l : List Int} (h : Own1 w B v (vals l)) (h' : Own1 w B' v' (vals l)) :
    Calls Try.prog 28 #[v, v'] w fun e w' => e = .returned (.bool true) ∧ Below w.heap.size w w' := by
  obtain ⟨n, hn⟩ : ∃ n, (vals l).length = n := ⟨_, rfl⟩
  unfold Own1 at h h'
  rw [hn] at h h'
  have hmm : maxLen = 9223372036854775807 := rfl
  rcases h.2 with ⟨rfl, h0⟩ | ⟨g, cap, cur, rfl, h1, h2, h3, h4, _⟩
  · subst h0
    rcases h'.2 with ⟨rfl, _⟩ | ⟨g', cap', cur', rfl, _⟩
    · exact same_none _ _ _ _ w
    · exact same_none _ _ _ _ w
  · rcases h'.2 with ⟨rfl, h0⟩ | ⟨g', cap', cur', rfl, _⟩
    · subst h0
      exact same_none _ _ _ _ w
    · exact same_cells g g' n cap cap' l w (by omega) (own_cell h) (own_cell h')
end Go.Proofs.Ytekmenojaojeiaa.Fifo5
