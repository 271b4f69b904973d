/- The chapter's examples of timers. -/
import Derived.Test.YthfckoemldhoaaaNc
namespace Go.Proofs.Ythfckoemldhoaaa.Timer
open Go.RowKit Go.Maps Go.ChangeShapes Go.WideShapes Go.ChangeAt Fifo Orow Word
set_option linter.unusedVariables false

theorem ex_1 : tickS (tickS (tickS (tickS (writeS (writeS zeroS 1 2) 2 7)))) = ⟨0, 2, 7, 2⟩ := by
  simp [tickS, writeS, zeroS, incS]
theorem ex_2 : tickS (tickS (ofS ⟨0, 2, 3, 0⟩)) = ⟨2, 2, 2, 1⟩ := by simp [tickS, ofS, incS]
theorem ex_3 : writeS ⟨2, 2, 2, 1⟩ 3 9 = ⟨2, 2, 2, 0⟩ := by simp [writeS]
theorem ex_4 : lineS ⟨0, 2, 7, 2⟩ = true := by decide
theorem ex_5 : lineS ⟨2, 2, 2, 1⟩ = true := by decide
theorem ex_6 : lineS ⟨2, 2, 2, 0⟩ = false := by decide
set_option maxHeartbeats 1000000 in
theorem awake_any (w : World) : Calls Try.prog 7 #[] w fun e w' => e = .returned (.bool true) ∧ Below w.heap.size w w' := by
  have i64 : ∀ x : Int, 0 ≤ x → x ≤ 100 → I64 x := fun x h1 h2 => ⟨by omega, by omega⟩
  obtain ⟨B, hB⟩ : ∃ B, w.heap.size = B := ⟨_, rfl⟩
  have HB := Lib.hid hB
  have hB0 : B ≤ w.heap.size := by omega
  clear hB
  go_enter Try.func7, Try.ntmps7
  go_wp2_with fail
  refine (New_any w).mono ?_
  rintro e w1 ⟨⟨b, O, rfl, hm, hO⟩, hb1⟩
  have B1 := Lib.hid (show Below B w w1 by rw [← HB.out]; exact hb1)
  have T1 := Lib.hid (show Hold (fun j => j < B) w1 b zeroS from ⟨O, hm, fun j hj k => by have := hO j hj; omega, fun j hj => by have := hb1.size; omega⟩)
  clear hb1 hm hO
  go_wp2_with fail
  refine (Write_hold _ b zeroS 1 2 w1 (i64 _ (by omega) (by omega)) ⟨by omega, by omega⟩ T1.out).mono ?_
  rintro e w2 ⟨rfl, hh, ho⟩
  have T2 := Lib.hid hh
  have B2 := Lib.hid (below_only B1.out ho hB0 (fun j h => h))
  clear hh ho
  go_wp2_with fail
  refine (Write_hold _ b _ 2 7 w2 (i64 _ (by omega) (by omega)) ⟨by omega, by omega⟩ T2.out).mono ?_
  rintro e w3 ⟨rfl, hh, ho⟩
  have T3 := Lib.hid hh
  have B3 := Lib.hid (below_only B2.out ho hB0 (fun j h => h))
  clear hh ho
  go_wp2_with fail
  refine wp_loop_rounds 5 ?_
  rw [rounds_succ]
  go_wp2_with fail
  refine (Tick_hold _ b _ _ T3.out).mono ?_
  rintro e w4 ⟨rfl, hh, ho⟩
  have T4 := Lib.hid hh
  have B4 := Lib.hid (below_only B3.out ho hB0 (fun j h => h))
  clear hh ho
  go_wp2_with fail
  rw [rounds_succ]
  go_wp2_with fail
  refine (Tick_hold _ b _ _ T4.out).mono ?_
  rintro e w5 ⟨rfl, hh, ho⟩
  have T5 := Lib.hid hh
  have B5 := Lib.hid (below_only B4.out ho hB0 (fun j h => h))
  clear hh ho
  go_wp2_with fail
  rw [rounds_succ]
  go_wp2_with fail
  refine (Tick_hold _ b _ _ T5.out).mono ?_
  rintro e w6 ⟨rfl, hh, ho⟩
  have T6 := Lib.hid hh
  have B6 := Lib.hid (below_only B5.out ho hB0 (fun j h => h))
  clear hh ho
  go_wp2_with fail
  rw [rounds_succ]
  go_wp2_with fail
  refine (Tick_hold _ b _ _ T6.out).mono ?_
  rintro e w7 ⟨rfl, hh, ho⟩
  have B7 := Lib.hid (below_only B6.out ho hB0 (fun j h => h))
  rw [ex_1] at hh
  obtain ⟨O7, t1, t2, t3⟩ := hh
  have A1 := Lib.hid t1
  have A2 := Lib.hid t1.lt
  have hK7 : ∀ j, (j < B ∨ O7 j) → j < w7.heap.size := fun j hj => hj.elim (t3 j) (t1.lt j)
  have HK7 := Lib.hid hK7
  clear ho t1 t2 t3 hK7 T1 T2 T3 T4 T5 T6 B1 B2 B3 B4 B5 B6
  go_wp2_with fail
  rw [rounds_succ]
  go_wp2_with fail
  refine (Of_hold (fun j => j < B ∨ O7 j) ⟨0, 2, 3, 0⟩ w7 ⟨⟨by decide, by decide⟩, ⟨by decide, by decide⟩, ⟨by decide, by decide⟩, ⟨by decide, by decide⟩⟩ HK7.out).mono ?_
  rintro e w8 ⟨⟨c, rfl, hh⟩, hb⟩
  have T8 := Lib.hid hh
  have hB7 := B7.out.size
  have B8 := Lib.hid (B7.out.trans (hb.mono (Nat.le_trans hB0 hB7)))
  have A8 := Lib.hid (A1.out.keep hb)
  clear hh hb
  go_wp2_with fail
  refine (Tick_hold _ c _ _ T8.out).mono ?_
  rintro e w9 ⟨rfl, hh, ho⟩
  have T9 := Lib.hid hh
  have B9 := Lib.hid (below_only B8.out ho hB0 (fun j h => .inl h))
  have A9 := Lib.hid (A8.out.only ho (fun j o k => k (.inr o)))
  clear hh ho
  go_wp2_with fail
  refine (Tick_hold _ c _ _ T9.out).mono ?_
  rintro e w10 ⟨rfl, hh, ho⟩
  rw [ex_2] at hh
  have T10 := Lib.hid hh
  have B10 := Lib.hid (below_only B9.out ho hB0 (fun j h => .inl h))
  have A10 := Lib.hid (A9.out.only ho (fun j o k => k (.inr o)))
  clear hh ho
  go_wp2_with fail
  refine (Line_hold _ c _ _ T10.out).mono ?_
  rw [ex_5]
  rintro e w11 ⟨rfl, hb⟩
  have T11 := Lib.hid (T10.out.keep hb)
  have hs10 := B10.out.size
  have B11 := Lib.hid (B10.out.trans (hb.mono (Nat.le_trans hB0 hs10)))
  have A11 := Lib.hid (A10.out.keep hb)
  clear hb
  go_wp2_with fail
  refine (Write_hold _ c _ 3 9 w11 (i64 _ (by omega) (by omega)) ⟨by omega, by omega⟩ T11.out).mono ?_
  rintro e w12 ⟨rfl, hh, ho⟩
  rw [ex_3] at hh
  have T12 := Lib.hid hh
  have B12 := Lib.hid (below_only B11.out ho hB0 (fun j h => .inl h))
  have A12 := Lib.hid (A11.out.only ho (fun j o k => k (.inr o)))
  clear hh ho
  go_wp2_with fail
  refine (State_any b _ O7 w12 A12.out).mono ?_
  rintro e w13 ⟨rfl, hb⟩
  have T13 := Lib.hid (T12.out.keep hb)
  have hs12 := B12.out.size
  have B13 := Lib.hid (B12.out.trans (hb.mono (Nat.le_trans hB0 hs12)))
  have A13 := Lib.hid (A12.out.keep hb)
  clear hb
  go_wp2_with fail
  refine (Line_any b _ O7 w13 A13.out).mono ?_
  rw [ex_4]
  rintro e w14 ⟨rfl, hb⟩
  have T14 := Lib.hid (T13.out.keep hb)
  have hs13 := B13.out.size
  have B14 := Lib.hid (B13.out.trans (hb.mono (Nat.le_trans hB0 hs13)))
  clear hb
  go_wp2_with fail
  refine (State_hold _ c _ w14 T14.out).mono ?_
  rintro e w15 ⟨rfl, hb⟩
  have T15 := Lib.hid (T14.out.keep hb)
  have hs14 := B14.out.size
  have B15 := Lib.hid (B14.out.trans (hb.mono (Nat.le_trans hB0 hs14)))
  clear hb
  go_wp2_with fail
  refine (Line_hold _ c _ w15 T15.out).mono ?_
  rw [ex_6]
  rintro e w16 ⟨rfl, hb⟩
  have hs15 := B15.out.size
  have B16 := Lib.hid (B15.out.trans (hb.mono (Nat.le_trans hB0 hs15)))
  clear hb
  go_wp2_with fail
  go_ret
  exact ⟨rfl, by rw [HB.out]; exact B16.out⟩
end Go.Proofs.Ythfckoemldhoaaa.Timer
