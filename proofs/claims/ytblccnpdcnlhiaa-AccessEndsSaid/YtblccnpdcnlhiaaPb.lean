/- Whether what was lent is kept; a number picked. -/
import Derived.Test.YtblccnpdcnlhiaaPa
namespace Go.Proofs.Ytblccnpdcnlhiaa.Word
open Go.RowKit Go.Maps Go.ChangeShapes Go.WideShapes Go.ChangeAt
set_option linter.unusedVariables false

theorem lent_left {w : World} {B g n c : Nat} {l : List Int} {M : List Value} (h : w.ownsRow B 5 1 (.slice (some ⟨g, 0, none⟩) (n + 12) c) (n + 12) (bv l ++ M)) (hl : l.length = n) : ∀ i, i < n → w.cell? ⟨g, i, none⟩ = some (.int .u8 (l.getD i 0)) := fun i hi => by
  rw [KitBytes.r_cell h (by omega), List.getElem?_append_left (by simp [bv]; omega)]
  simp [bv, List.getD_eq_getElem?_getD, show i < l.length by omega]
theorem lent_right {w : World} {B g n c : Nat} {l : List Int} (h : w.ownsRow B 5 1 (.slice (some ⟨g, 0, none⟩) (n + 12) c) (n + 12) (bv l ++ KitBytes.marks 1 12)) (hl : l.length = n) : ∀ i, i < 12 → w.cell? ⟨g, n + i, none⟩ = some (.int .u8 (KitBytes.mk 1 (i : Nat))) := fun i hi => by
  rw [KitBytes.r_cell h (by omega), List.getElem?_append_right (by simp [bv]; omega)]
  have : n + i - (bv l).length = i := by simp [bv]; omega
  rw [this, KitBytes.marks_at 1 hi]
theorem mark_q (m : Nat) (x : Int) (j : Int) (w : World) (i n : Nat) (hx : KitBytes.mk 1 (m : Nat) = x) (hj : j = m) (hm : m < 12) :
    Calls Try.prog 40 #[.int .i64 1, .int .i64 j] (w.drewN (i + n)) fun e w'' => e = .returned (.int .u8 x) ∧ ∃ q, w'' = w.drewN (i + q) := by
  subst hj; subst hx
  exact (KitBytes.mark_any 1 m _ (by omega) (by omega) (by omega) (by omega)).mono fun e w' h => ⟨h.1, n, h.2.symm⟩
section
attribute [local irreducible] Go.wpQuiet
set_option maxRecDepth 8000 in
set_option maxHeartbeats 400000 in
theorem kept_any (B g n cap cap' : Nat) (a : Option Addr) (l : List Int) (w : World) (hn : n ≤ 1000) (hrow : Row .u8 w a n l)
    (h : w.ownsRow B 5 1 (.slice (some ⟨g, 0, none⟩) (n + 12) (n + 12)) (n + 12) (bv l ++ KitBytes.marks 1 12)) :
    Calls Try.prog 27 #[.slice (some ⟨g, 0, none⟩) n (n + 12), .slice a n cap] w fun e w' => e = .returned (.bool true) ∧ ∃ j, w' = w.drewN j := by
  have HL := Lib.hid (lent_left h hrow.1)
  have HR := Lib.hid (lent_right h hrow.1)
  have Hrow := Lib.hid hrow
  have Hg := Lib.hid (KitBytes.r_lt h g ⟨_, rfl, rfl⟩).2
  clear h hrow
  go_enter Try.func27, Try.ntmps27
  go_wp2_with fail
  go_loopw [6] (fun i wr => ∃ k : Nat, k ≤ n + 12 ∧ i = .int .i64 k ∧ ∃ j, wr = w.drewN j) (fun i _ => n + 12 - (intOf i).toNat)
  case atStart => exact ⟨0, Nat.zero_le _, rfl, 0, rfl⟩
  case round =>
    obtain ⟨k, hk, rfl, j, rfl⟩ := hrel
    by_cases hlt : k < n
    · have c1 := HL.out k hlt
      rcases Hrow.out.2.2.2 with h0 | ⟨b, off, rfl, hb, hc⟩
      · omega
      · have c2 := hc k hlt
        clear hc
        obtain ⟨x, hx⟩ : ∃ x, l.getD k 0 = x := ⟨_, rfl⟩
        rw [hx] at c1 c2
        clear hx
        have d1 : decide ((k : Int) < (n : Int)) = true := by simpa using hlt
        have d2 : decide (n ≤ k) = false := decide_eq_false (by omega)
        have d3 : decide (k < n) = true := decide_eq_true hlt
        go_wp2_with fail
        go_quiet (fail)
        go_wp2_with fail
        exact ⟨⟨k + 1, by omega, by go_num, _, rfl⟩, by simp [intOf]; omega⟩
    · by_cases hlt2 : k < n + 12
      · obtain ⟨m, hkm⟩ : ∃ m, k = n + m := ⟨k - n, by omega⟩
        have c1 := HR.out m (by omega)
        rw [← hkm] at c1
        have d1 : decide ((k : Int) < (n : Int)) = false := decide_eq_false (by omega)
        have d2 : decide ((n : Int) ≤ (k : Int)) = true := decide_eq_true (by omega)
        have d4 : decide (k < n) = false := decide_eq_false (by omega)
        have d5 : decide (n ≤ k) = true := decide_eq_true (by omega)
        have Hkm := Lib.hid hkm
        clear hkm
        obtain ⟨x, hx⟩ : ∃ x, KitBytes.mk 1 (m : Nat) = x := ⟨_, rfl⟩
        rw [hx] at c1
        have Hx := Lib.hid hx
        clear hx
        go_wp2_with fail
        go_quiet (first | (go_at_call 40; exact mark_q m x _ _ _ _ Hx.out (by have := Hkm.out; first | omega | (rw [show (k : Int) - n = m by omega]; go_num) | (rw [show (k : Int) - n = m by omega]; simp [IntKind.wrap]; omega)) (by have := Hkm.out; omega)))
        go_wp2_with fail
        exact ⟨⟨k + 1, by omega, by go_num, _, rfl⟩, by simp [intOf]; omega⟩
      · obtain rfl : k = n + 12 := by omega
        go_wp2
        go_ret
        exact ⟨rfl, _, rfl⟩
end
theorem tmod6 (x : Int) : -6 < Int.tmod x 6 ∧ Int.tmod x 6 < 6 := by
  rcases Int.le_total 0 x with h | h
  · rw [Int.tmod_eq_emod_of_nonneg h]; omega
  · have e : Int.tmod x 6 = -(Int.tmod (-x) 6) := by rw [Int.neg_tmod]; omega
    rw [e, Int.tmod_eq_emod_of_nonneg (by omega)]; omega
theorem pick_any (x : Int) (w : World) (h0 : -9223372036854775808 ≤ x) (h1 : x ≤ 9223372036854775807) :
    Calls Try.prog 19 #[.int .i64 x, .int .i64 6] w fun e w' => (∃ p, 0 ≤ p ∧ p ≤ 5 ∧ e = .returned (.int .i64 p)) ∧ w = w' := by
  have ht := tmod6 x
  by_cases hneg : Int.tmod x 6 < 0
  · have d1 : decide (Int.tmod x 6 < 0) = true := by simpa using hneg
    go_enter Try.func19, Try.ntmps19
    go_wp2
    go_ret
    exact ⟨⟨Int.tmod x 6 + 6, by omega, by omega, by go_num⟩, rfl⟩
  · have d1 : decide (Int.tmod x 6 < 0) = false := by simpa using hneg
    go_enter Try.func19, Try.ntmps19
    go_wp2
    go_ret
    exact ⟨⟨Int.tmod x 6, by omega, by omega, by go_num⟩, rfl⟩
end Go.Proofs.Ytblccnpdcnlhiaa.Word
