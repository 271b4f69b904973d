/- The chapter's example of a uart (written by gen_qe.py). -/
import Derived.Test.YthdcealhhmfgcaaQc
namespace Go.Proofs.Ythdcealhhmfgcaa.Uart
open Go.RowKit Go.Maps Go.ChangeShapes Go.WideShapes Go.ChangeAt Fifo Orow Word
set_option linter.unusedVariables false

theorem ex_1 : inputU ⟨[], [], false, false, 0, 0⟩ 65 = (true, ⟨[65], [], false, false, 0, 0⟩) := by simp [inputU]
theorem ex_2 : inputU ⟨[65], [], false, false, 0, 0⟩ 66 = (true, ⟨[65, 66], [], false, false, 0, 0⟩) := by simp [inputU]
theorem ex_3 : writeU ⟨[65, 66], [], false, false, 0, 0⟩ 2 1 = ⟨[65, 66], [], false, false, 1, 0⟩ := by simp [writeU]
theorem ex_4 : lineU ⟨[65, 66], [], false, false, 1, 0⟩ = true := by simp [lineU]
theorem ex_5 : readU ⟨[65, 66], [], false, false, 1, 0⟩ 0 = (321, ⟨[66], [], false, false, 1, 0⟩) := by simp [readU]
theorem ex_6 : readU ⟨[66], [], false, false, 1, 0⟩ 0 = (322, ⟨[], [], false, false, 1, 0⟩) := by simp [readU]
theorem ex_7 : readU ⟨[], [], false, false, 1, 0⟩ 0 = (0, ⟨[], [], false, false, 1, 0⟩) := by simp [readU]
theorem ex_8 : writeU ⟨[], [], false, false, 1, 0⟩ 0 7 = ⟨[], [7], false, false, 1, 0⟩ := by simp [writeU]
theorem ex_9 : writeU ⟨[], [7], false, false, 1, 0⟩ 0 8 = ⟨[], [7, 8], false, false, 1, 0⟩ := by simp [writeU]
theorem ex_10 : tickU ⟨[], [7, 8], false, false, 1, 0⟩ = (0, false, ⟨[], [7, 8], false, false, 1, 1⟩) := by simp [tickU]
theorem ex_11 : tickU ⟨[], [7, 8], false, false, 1, 1⟩ = (0, false, ⟨[], [7, 8], false, false, 1, 2⟩) := by simp [tickU]
theorem ex_12 : tickU ⟨[], [7, 8], false, false, 1, 2⟩ = (0, false, ⟨[], [7, 8], false, false, 1, 3⟩) := by simp [tickU]
theorem ex_13 : tickU ⟨[], [7, 8], false, false, 1, 3⟩ = (7, true, ⟨[], [8], false, false, 1, 0⟩) := by simp [tickU]
theorem ex_14 : tickU ⟨[], [8], false, false, 1, 0⟩ = (0, false, ⟨[], [8], false, false, 1, 1⟩) := by simp [tickU]
theorem ex_15 : tickU ⟨[], [8], false, false, 1, 1⟩ = (0, false, ⟨[], [8], false, false, 1, 2⟩) := by simp [tickU]
theorem ex_16 : tickU ⟨[], [8], false, false, 1, 2⟩ = (0, false, ⟨[], [8], false, false, 1, 3⟩) := by simp [tickU]
theorem ex_17 : tickU ⟨[], [8], false, false, 1, 3⟩ = (8, true, ⟨[], [], false, false, 1, 0⟩) := by simp [tickU]
theorem ex_18 : lineU ⟨[], [], false, false, 1, 0⟩ = false := by simp [lineU]
set_option maxRecDepth 100000 in
set_option maxHeartbeats 4000000 in
theorem awake_any (w : World) : Calls Try.prog 7 #[] w fun e w' => e = .returned (.bool true) ∧ Below w.heap.size w w' := by
  have i64 : ∀ x : Int, 0 ≤ x → x ≤ 100 → I64 x := fun x h1 h2 => ⟨by omega, by omega⟩
  obtain ⟨B, hB⟩ : ∃ B, w.heap.size = B := ⟨_, rfl⟩
  have HB := Lib.hid hB
  have hB0 : B ≤ w.heap.size := by omega
  clear hB
  go_enter Try.func7, Try.ntmps7
  go_wp2_with fail
  refine (New_hold (fun j => j < B) w (fun j hj => Nat.lt_of_lt_of_le hj hB0)).mono ?_
  rintro e w0 ⟨⟨b, rfl, hh⟩, hb⟩
  have B0 := Lib.hid (show Below B w w0 by rw [← HB.out]; exact hb)
  have T0 := Lib.hid (show Hold (fun j => j < B) w0 b ⟨[], [], false, false, 0, 0⟩ from hh)
  clear hh hb
  go_wp2_with fail
  refine (Input_hold _ b ⟨[], [], false, false, 0, 0⟩ 65 w0 ⟨by omega, by omega⟩ T0.out).mono ?_
  rw [ex_1]
  rintro e w1 ⟨rfl, hh, ho⟩
  have T1 := Lib.hid hh
  have B1 := Lib.hid (below_only B0.out ho hB0 (fun j h => h))
  clear hh ho T0 B0
  go_wp2_with fail
  refine (Input_hold _ b ⟨[65], [], false, false, 0, 0⟩ 66 w1 ⟨by omega, by omega⟩ T1.out).mono ?_
  rw [ex_2]
  rintro e w2 ⟨rfl, hh, ho⟩
  have T2 := Lib.hid hh
  have B2 := Lib.hid (below_only B1.out ho hB0 (fun j h => h))
  clear hh ho T1 B1
  go_wp2_with fail
  refine (Write_hold _ b ⟨[65, 66], [], false, false, 0, 0⟩ 2 1 w2 (i64 _ (by omega) (by omega)) ⟨by omega, by omega⟩ T2.out).mono ?_
  rw [ex_3]
  rintro e w3 ⟨rfl, hh, ho⟩
  have T3 := Lib.hid hh
  have B3 := Lib.hid (below_only B2.out ho hB0 (fun j h => h))
  clear hh ho T2 B2
  go_wp2_with fail
  refine (Line_hold _ b ⟨[65, 66], [], false, false, 1, 0⟩ w3 T3.out).mono ?_
  rw [ex_4]
  rintro e w4 ⟨rfl, hb⟩
  have hs3 := B3.out.size
  have T4 := Lib.hid (T3.out.keep hb)
  have B4 := Lib.hid (B3.out.trans (hb.mono (Nat.le_trans hB0 hs3)))
  clear hb hs3 T3 B3
  go_wp2_with fail
  refine (Read_hold _ b ⟨[65, 66], [], false, false, 1, 0⟩ 0 w4 (i64 _ (by omega) (by omega)) T4.out).mono ?_
  rw [ex_5]
  rintro e w5 ⟨rfl, hh, ho⟩
  have T5 := Lib.hid hh
  have B5 := Lib.hid (below_only B4.out ho hB0 (fun j h => h))
  clear hh ho T4 B4
  go_wp2_with fail
  refine (Read_hold _ b ⟨[66], [], false, false, 1, 0⟩ 0 w5 (i64 _ (by omega) (by omega)) T5.out).mono ?_
  rw [ex_6]
  rintro e w6 ⟨rfl, hh, ho⟩
  have T6 := Lib.hid hh
  have B6 := Lib.hid (below_only B5.out ho hB0 (fun j h => h))
  clear hh ho T5 B5
  go_wp2_with fail
  refine (Read_hold _ b ⟨[], [], false, false, 1, 0⟩ 0 w6 (i64 _ (by omega) (by omega)) T6.out).mono ?_
  rw [ex_7]
  rintro e w7 ⟨rfl, hh, ho⟩
  have T7 := Lib.hid hh
  have B7 := Lib.hid (below_only B6.out ho hB0 (fun j h => h))
  clear hh ho T6 B6
  go_wp2_with fail
  refine (Write_hold _ b ⟨[], [], false, false, 1, 0⟩ 0 7 w7 (i64 _ (by omega) (by omega)) ⟨by omega, by omega⟩ T7.out).mono ?_
  rw [ex_8]
  rintro e w8 ⟨rfl, hh, ho⟩
  have T8 := Lib.hid hh
  have B8 := Lib.hid (below_only B7.out ho hB0 (fun j h => h))
  clear hh ho T7 B7
  go_wp2_with fail
  refine (Write_hold _ b ⟨[], [7], false, false, 1, 0⟩ 0 8 w8 (i64 _ (by omega) (by omega)) ⟨by omega, by omega⟩ T8.out).mono ?_
  rw [ex_9]
  rintro e w9 ⟨rfl, hh, ho⟩
  have T9 := Lib.hid hh
  have B9 := Lib.hid (below_only B8.out ho hB0 (fun j h => h))
  clear hh ho T8 B8
  go_wp2_with fail
  refine wp_loop_rounds 9 ?_
  rw [rounds_succ]
  go_wp2_with fail
  refine (Tick_hold _ b ⟨[], [7, 8], false, false, 1, 0⟩ w9 T9.out).mono ?_
  rw [ex_10]
  rintro e w10 ⟨rfl, hh, ho⟩
  have T10 := Lib.hid hh
  have B10 := Lib.hid (below_only B9.out ho hB0 (fun j h => h))
  clear hh ho T9 B9
  go_wp2_with fail
  rw [rounds_succ]
  go_wp2_with fail
  refine (Tick_hold _ b ⟨[], [7, 8], false, false, 1, 1⟩ w10 T10.out).mono ?_
  rw [ex_11]
  rintro e w11 ⟨rfl, hh, ho⟩
  have T11 := Lib.hid hh
  have B11 := Lib.hid (below_only B10.out ho hB0 (fun j h => h))
  clear hh ho T10 B10
  go_wp2_with fail
  rw [rounds_succ]
  go_wp2_with fail
  refine (Tick_hold _ b ⟨[], [7, 8], false, false, 1, 2⟩ w11 T11.out).mono ?_
  rw [ex_12]
  rintro e w12 ⟨rfl, hh, ho⟩
  have T12 := Lib.hid hh
  have B12 := Lib.hid (below_only B11.out ho hB0 (fun j h => h))
  clear hh ho T11 B11
  go_wp2_with fail
  rw [rounds_succ]
  go_wp2_with fail
  refine (Tick_hold _ b ⟨[], [7, 8], false, false, 1, 3⟩ w12 T12.out).mono ?_
  rw [ex_13]
  rintro e w13 ⟨rfl, hh, ho⟩
  have T13 := Lib.hid hh
  have B13 := Lib.hid (below_only B12.out ho hB0 (fun j h => h))
  clear hh ho T12 B12
  go_wp2_with fail
  rw [rounds_succ]
  go_wp2_with fail
  refine (Tick_hold _ b ⟨[], [8], false, false, 1, 0⟩ w13 T13.out).mono ?_
  rw [ex_14]
  rintro e w14 ⟨rfl, hh, ho⟩
  have T14 := Lib.hid hh
  have B14 := Lib.hid (below_only B13.out ho hB0 (fun j h => h))
  clear hh ho T13 B13
  go_wp2_with fail
  rw [rounds_succ]
  go_wp2_with fail
  refine (Tick_hold _ b ⟨[], [8], false, false, 1, 1⟩ w14 T14.out).mono ?_
  rw [ex_15]
  rintro e w15 ⟨rfl, hh, ho⟩
  have T15 := Lib.hid hh
  have B15 := Lib.hid (below_only B14.out ho hB0 (fun j h => h))
  clear hh ho T14 B14
  go_wp2_with fail
  rw [rounds_succ]
  go_wp2_with fail
  refine (Tick_hold _ b ⟨[], [8], false, false, 1, 2⟩ w15 T15.out).mono ?_
  rw [ex_16]
  rintro e w16 ⟨rfl, hh, ho⟩
  have T16 := Lib.hid hh
  have B16 := Lib.hid (below_only B15.out ho hB0 (fun j h => h))
  clear hh ho T15 B15
  go_wp2_with fail
  rw [rounds_succ]
  go_wp2_with fail
  refine (Tick_hold _ b ⟨[], [8], false, false, 1, 3⟩ w16 T16.out).mono ?_
  rw [ex_17]
  rintro e w17 ⟨rfl, hh, ho⟩
  have T17 := Lib.hid hh
  have B17 := Lib.hid (below_only B16.out ho hB0 (fun j h => h))
  clear hh ho T16 B16
  go_wp2_with fail
  rw [rounds_succ]
  go_wp2_with fail
  refine (Line_hold _ b ⟨[], [], false, false, 1, 0⟩ w17 T17.out).mono ?_
  rw [ex_18]
  rintro e w18 ⟨rfl, hb⟩
  have hs17 := B17.out.size
  have T18 := Lib.hid (T17.out.keep hb)
  have B18 := Lib.hid (B17.out.trans (hb.mono (Nat.le_trans hB0 hs17)))
  clear hb hs17 T17 B17
  go_wp2_with fail
  go_ret
  exact ⟨rfl, by rw [HB.out]; exact B18.out⟩
end Go.Proofs.Ythdcealhhmfgcaa.Uart
