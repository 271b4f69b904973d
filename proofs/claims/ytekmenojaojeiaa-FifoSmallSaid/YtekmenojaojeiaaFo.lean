/- The law's package: awake. -/
import Derived.Test.YtekmenojaojeiaaFnI
namespace Go.Proofs.Ytekmenojaojeiaa.Fifo5
open Go.RowKit Fifo FI
set_option linter.unusedVariables false

theorem elmV (x : Int) : Elm (.int .i64 x) := ⟨x, rfl⟩
/-- What a step that turns the row's own blocks leaves. -/
theorem own_step {B : Nat} {O O' : Nat → Prop} {w w1 w2 : World} (hb : Below B w w1) (hB : B ≤ w.heap.size) (hO : ∀ j, O j → B ≤ j) (ho : Only O w1 w2) (hn : ∀ j, O' j → O j ∨ w1.heap.size ≤ j) :
    Below B w w2 ∧ ∀ j, O' j → B ≤ j :=
  ⟨hb.trans (ho.below (Nat.le_trans hB hb.size) hO), fun j hj => (hn j hj).elim (hO j) (fun e => Nat.le_trans (Nat.le_trans hB hb.size) e)⟩

set_option maxRecDepth 100000 in
set_option maxHeartbeats 4000000 in
theorem awake_any (w : World) : Calls Try.prog 7 #[] w fun e w' => e = .returned (.bool true) ∧ Below w.heap.size w w' := by
  go_enter Try.func7, Try.ntmps7
  go_wp2_with fail
  refine (New_st 2 _ (by omega)).mono ?_
  rintro e w0 ⟨b, O0, rfl, hS, hO, hb⟩
  have HS0 := Lib.hid hS
  have HO0 := Lib.hid hO
  have HB0 := Lib.hid hb
  clear hS hO hb
  go_wp2_with fail
  refine (Put_st b 2 ([]) ([.int .i64 7]) O0 (.int .i64 7) true _ HS0.out (by simp) (elmV 7) (by simp) rfl).mono ?_
  rintro e w1 ⟨rfl, O1, h1, h2, h3⟩
  have HS1 := Lib.hid h1
  obtain ⟨hb, hO⟩ := own_step HB0.out (Nat.le_refl _) HO0.out h2 h3
  have HB1 := Lib.hid hb
  have HO1 := Lib.hid hO
  clear h1 h2 h3 hb hO HS0 HO0 HB0
  go_wp2_with fail
  refine (Put_st b 2 ([.int .i64 7]) ([.int .i64 7, .int .i64 8]) O1 (.int .i64 8) true _ HS1.out (by simp) (elmV 8) (by simp) rfl).mono ?_
  rintro e w2 ⟨rfl, O2, h1, h2, h3⟩
  have HS2 := Lib.hid h1
  obtain ⟨hb, hO⟩ := own_step HB1.out (Nat.le_refl _) HO1.out h2 h3
  have HB2 := Lib.hid hb
  have HO2 := Lib.hid hO
  clear h1 h2 h3 hb hO HS1 HO1 HB1
  go_wp2_with fail
  refine (Put_st b 2 ([.int .i64 7, .int .i64 8]) ([.int .i64 7, .int .i64 8]) O2 (.int .i64 9) false _ HS2.out (by simp) (elmV 9) (by simp) rfl).mono ?_
  rintro e w3 ⟨rfl, O3, h1, h2, h3⟩
  have HS3 := Lib.hid h1
  obtain ⟨hb, hO⟩ := own_step HB2.out (Nat.le_refl _) HO2.out h2 h3
  have HB3 := Lib.hid hb
  have HO3 := Lib.hid hO
  clear h1 h2 h3 hb hO HS2 HO2 HB2
  go_wp2_with fail
  refine (Take_cons b 2 (.int .i64 7) ([.int .i64 8]) O3 _ HS3.out).mono ?_
  rintro e w4 ⟨rfl, h1, h2⟩
  obtain ⟨O4, hO4⟩ : ∃ O4, O3 = O4 := ⟨_, rfl⟩
  have h3 : ∀ j, O4 j → O3 j ∨ w3.heap.size ≤ j := by rw [hO4]; exact fun j h => .inl h
  rw [hO4] at h1
  have HS4 := Lib.hid h1
  obtain ⟨hb, hO⟩ := own_step HB3.out (Nat.le_refl _) HO3.out h2 h3
  have HB4 := Lib.hid hb
  have HO4 := Lib.hid hO
  clear h1 h2 h3 hb hO HS3 HO3 HB3 hO4
  go_wp2_with fail
  refine (Put_st b 2 ([.int .i64 8]) ([.int .i64 8, .int .i64 9]) O4 (.int .i64 9) true _ HS4.out (by simp) (elmV 9) (by simp) rfl).mono ?_
  rintro e w5 ⟨rfl, O5, h1, h2, h3⟩
  have HS5 := Lib.hid h1
  obtain ⟨hb, hO⟩ := own_step HB4.out (Nat.le_refl _) HO4.out h2 h3
  have HB5 := Lib.hid hb
  have HO5 := Lib.hid hO
  clear h1 h2 h3 hb hO HS4 HO4 HB4
  go_wp2_with fail
  refine (Take_cons b 2 (.int .i64 8) ([.int .i64 9]) O5 _ HS5.out).mono ?_
  rintro e w6 ⟨rfl, h1, h2⟩
  obtain ⟨O6, hO6⟩ : ∃ O6, O5 = O6 := ⟨_, rfl⟩
  have h3 : ∀ j, O6 j → O5 j ∨ w5.heap.size ≤ j := by rw [hO6]; exact fun j h => .inl h
  rw [hO6] at h1
  have HS6 := Lib.hid h1
  obtain ⟨hb, hO⟩ := own_step HB5.out (Nat.le_refl _) HO5.out h2 h3
  have HB6 := Lib.hid hb
  have HO6 := Lib.hid hO
  clear h1 h2 h3 hb hO HS5 HO5 HB5 hO6
  go_wp2_with fail
  refine (Take_cons b 2 (.int .i64 9) ([]) O6 _ HS6.out).mono ?_
  rintro e w7 ⟨rfl, h1, h2⟩
  obtain ⟨O7, hO7⟩ : ∃ O7, O6 = O7 := ⟨_, rfl⟩
  have h3 : ∀ j, O7 j → O6 j ∨ w6.heap.size ≤ j := by rw [hO7]; exact fun j h => .inl h
  rw [hO7] at h1
  have HS7 := Lib.hid h1
  obtain ⟨hb, hO⟩ := own_step HB6.out (Nat.le_refl _) HO6.out h2 h3
  have HB7 := Lib.hid hb
  have HO7 := Lib.hid hO
  clear h1 h2 h3 hb hO HS6 HO6 HB6 hO7
  go_wp2_with fail
  refine (Take_nil b 2 O7 _ HS7.out).mono ?_
  rintro e w8 ⟨rfl, h1, h2⟩
  obtain ⟨O8, hO8⟩ : ∃ O8, O7 = O8 := ⟨_, rfl⟩
  have h3 : ∀ j, O8 j → O7 j ∨ w7.heap.size ≤ j := by rw [hO8]; exact fun j h => .inl h
  rw [hO8] at h1
  have HS8 := Lib.hid h1
  obtain ⟨hb, hO⟩ := own_step HB7.out (Nat.le_refl _) HO7.out h2 h3
  have HB8 := Lib.hid hb
  have HO8 := Lib.hid hO
  clear h1 h2 h3 hb hO HS7 HO7 HB7 hO8
  go_wp2_with fail
  go_ret
  exact ⟨rfl, HB8.out⟩
end Go.Proofs.Ytekmenojaojeiaa.Fifo5
