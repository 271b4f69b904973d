/- Low as the document tells; Of, both ways, of what was lent. -/
import Derived.Test.YtploggfaihfeeaaPd
namespace Go.Proofs.Ytploggfaihfeeaa.Word
open Go.RowKit Go.Maps Go.ChangeShapes Go.WideShapes Go.ChangeAt
set_option linter.unusedVariables false

theorem size_cases {m : Nat} (h : sizeB (m : Int) = true) : m = 1 ∨ m = 2 ∨ m = 4 := by
  have := sizeB_or (m : Int)
  rw [h] at this
  simp at this
  omega
theorem rbytes_no (v n : Int) (w : World) (hn : sizeB n = false) :
    Calls Try.prog 55 #[.int .u32 v, .int .i64 n] w fun e w' => e = .returned (.slice none 0 0) ∧ w = w' := by
  by_cases h0 : 0 < n
  · have d1 : decide ((0 : Int) < n) = true := decide_eq_true h0
    go_enter Try.func55, Try.ntmps55
    go_wp2
    refine wp_loop_rounds 1 ?_
    rw [rounds_succ]
    go_wp2_with (go_at_call 53; refine (rsize_any _ _).mono ?_; rintro e w' ⟨rfl, rfl⟩)
    go_ret
    exact ⟨rfl, rfl⟩
  · have d1 : decide ((0 : Int) < n) = false := decide_eq_false h0
    go_enter Try.func55, Try.ntmps55
    go_wp2
    refine wp_loop_rounds 1 ?_
    rw [rounds_succ]
    go_wp2
    go_ret
    exact ⟨rfl, rfl⟩
theorem rlow_no (v n : Int) (w : World) (hn : sizeB n = false) :
    Calls Try.prog 49 #[.int .u32 v, .int .i64 n] w fun e w' => e = .returned (.tuple #[.int .u32 0, .bool false]) ∧ Below w.heap.size w w' := by
  go_enter Try.func49, Try.ntmps49
  go_wp2_with (go_at_call 53; refine (rsize_any _ _).mono ?_; rintro e w' ⟨rfl, rfl⟩)
  go_ret2
  exact ⟨rfl, Below.refl _ _⟩
theorem bK_at {w : World} {b g m c x : Nat} (h : w.ownsRow b 5 1 (.slice (some ⟨g, 0, none⟩) m c) m (bv (bK x m))) : ∀ i, i < m → w.cell? ⟨g, i, none⟩ = some (.int .u8 ((x / 256 ^ i % 256 : Nat) : Int)) := fun i hi => by
  rw [KitBytes.r_cell h hi]
  simp [bK, bv, hi]
set_option maxRecDepth 8000 in
theorem rof_bK (x m g c : Nat) (hx : x < 4294967296) (hm : sizeB (m : Int) = true) (w : World) (h : ∀ i, i < m → w.cell? ⟨g, i, none⟩ = some (.int .u8 ((x / 256 ^ i % 256 : Nat) : Int))) :
    Calls Try.prog 54 #[.slice (some ⟨g, 0, none⟩) m c] w fun e w' => e = .returned (.tuple #[.int .u32 (lowV x m), .bool true]) ∧ w = w' := by
  rcases size_cases hm with rfl | rfl | rfl
  · refine (rof_1 g 0 c _ w (h 0 (by omega)) (by omega) (by omega)).mono fun e w' ⟨he, hw⟩ => ⟨he.trans (ret_int_bool ?_ rfl), hw⟩
    simp [lowV]
  · refine (rof_2 g 0 c _ _ w (h 0 (by omega)) (by omega) (by omega) (h 1 (by omega)) (by omega) (by omega)).mono fun e w' ⟨he, hw⟩ => ⟨he.trans (ret_int_bool ?_ rfl), hw⟩
    simp [lowV]; omega
  · refine (rof_4 g 0 c _ _ _ _ w (h 0 (by omega)) (by omega) (by omega) (h 1 (by omega)) (by omega) (by omega) (h 2 (by omega)) (by omega) (by omega) (h 3 (by omega)) (by omega) (by omega)).mono fun e w' ⟨he, hw⟩ => ⟨he.trans (ret_int_bool ?_ rfl), hw⟩
    simp [lowV]; omega
set_option maxHeartbeats 400000 in
theorem rlow_any (x m : Nat) (hx : x < 4294967296) (hm : sizeB (m : Int) = true) (w : World) :
    Calls Try.prog 49 #[.int .u32 x, .int .i64 m] w fun e w' => e = .returned (.tuple #[.int .u32 (lowV x m), .bool true]) ∧ Below w.heap.size w w' := by
  have h4 : m ≤ 4 := by rcases size_cases hm with h | h | h <;> omega
  have hpos : 0 < m := by rcases size_cases hm with h | h | h <;> omega
  go_enter Try.func49, Try.ntmps49
  go_wp2_with (go_at_call 53; refine (rsize_any _ _).mono ?_; rintro e w' ⟨rfl, rfl⟩)
  refine (rbytes_any x m hx hm h4 _).mono ?_
  rintro e w1 ⟨a, c, rfl, hown, hb⟩
  obtain ⟨g, rfl⟩ := KitBytes.r_some hown (.inl hpos)
  have Hc := Lib.hid (bK_at hown)
  have Hb := Lib.hid hb
  clear hown hb
  go_wp2_with fail
  refine (rof_bK x m g c hx hm _ Hc.out).mono ?_
  rintro e w' ⟨rfl, rfl⟩
  obtain ⟨lv, hlv⟩ : ∃ v, lowV x m = v := ⟨_, rfl⟩
  rw [hlv]
  go_wp2_with fail
  go_ret2
  exact ⟨ret_int_bool hlv.symm rfl, Hb.out⟩
end Go.Proofs.Ytploggfaihfeeaa.Word
