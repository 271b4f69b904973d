/- awake: the chapter's example of a mailbox. -/
import Derived.Test.YtkcghcoacjpbkaaJc
namespace Go.Proofs.Ytkcghcoacjpbkaa.Mbox
open Go.RowKit Go.Maps Go.ChangeShapes Go.WideShapes Go.ChangeAt Fifo Orow Word
set_option linter.unusedVariables false

def awkX : Nat → Bx
  | 0 => zeroX
  | k + 1 => writeX (awkX k) 0 ((k : Int) + 1)
set_option maxHeartbeats 1000000 in
theorem awake_any (w : World) : Calls Try.prog 7 #[] w fun e w' => e = .returned (.bool true) ∧ Below w.heap.size w w' := by
  obtain ⟨B, hB⟩ : ∃ B, w.heap.size = B := ⟨_, rfl⟩
  have HB := Lib.hid hB
  have N := Lib.hid (New_hold (fun j => j < B) w (fun j hj => by omega))
  clear hB
  go_enter Try.func7, Try.ntmps7
  go_wp2_with fail
  refine N.out.mono ?_
  rintro e w1 ⟨⟨b, rfl, hh⟩, hb⟩
  have H1 := Lib.hid hh
  have B1 := Lib.hid (show Below B w w1 by rw [← HB.out]; exact hb)
  clear hh hb
  go_wp2_with fail
  go_loopw [2] (fun i wr => ∃ k : Nat, k ≤ 5 ∧ i = .int .u32 ((k : Int) + 1) ∧ Hold (fun j => j < B) wr b (awkX k) ∧ Below B w wr) (fun i _ => 6 - (intOf i).toNat)
  case atStart => exact ⟨0, by omega, rfl, H1.out, B1.out⟩
  case round =>
  clear H1 B1 N
  obtain ⟨k, hk, rfl, hh, hb⟩ := hrel
  have H := Lib.hid hh
  have BL := Lib.hid hb
  clear hh hb
  by_cases hlt : k < 5
  · have d1 : decide ((k : Int) + 1 < 6) = true := decide_eq_true (by omega)
    go_wp2_with fail
    refine (Write_hold _ b _ 0 ((k : Int) + 1) wr ⟨by omega, by omega⟩ (by omega) H.out).mono ?_
    rintro e w2 ⟨rfl, hh, ho⟩
    have H2 := Lib.hid (show Hold (fun j => j < B) w2 b (awkX (k + 1)) from hh)
    have B2 := Lib.hid (below_only BL.out ho (by rw [HB.out]; exact Nat.le_refl _) (fun j hj => hj))
    clear hh ho
    go_wp2_with fail
    exact ⟨⟨k + 1, by omega, by go_num, H2.out, B2.out⟩, by simp [intOf]; omega⟩
  · have h5 : k = 5 := by omega
    have d1 : decide ((k : Int) + 1 < 6) = false := decide_eq_false (by omega)
    have H := Lib.hid (show Hold (fun j => j < B) wr b (awkX 5) by rw [← h5]; exact H.out)
    clear h5
    go_wp2_with fail
    refine (Read_hold _ b _ 1 wr ⟨by omega, by omega⟩ H.out).mono ?_
    rintro e w2 ⟨rfl, hh, ho⟩
    rw [show (readX (awkX 5) 1).1 = 4 from rfl]
    have H2 := Lib.hid (show Hold (fun j => j < B) w2 b (awkX 5) from hh)
    have B2 := Lib.hid (below_only BL.out ho (by rw [HB.out]; exact Nat.le_refl _) (fun j hj => hj))
    clear hh ho
    go_wp2_with fail
    refine (Read_hold _ b _ 3 w2 ⟨by omega, by omega⟩ H2.out).mono ?_
    rintro e w3 ⟨rfl, hh, ho⟩
    rw [show (readX (awkX 5) 3).1 = 1 from rfl]
    have H3 := Lib.hid (show Hold (fun j => j < B) w3 b (awkX 5) from hh)
    have B3 := Lib.hid (below_only B2.out ho (by rw [HB.out]; exact Nat.le_refl _) (fun j hj => hj))
    clear hh ho
    go_wp2_with fail
    refine (Read_hold _ b _ 0 w3 ⟨by omega, by omega⟩ H3.out).mono ?_
    rintro e w4 ⟨rfl, hh, ho⟩
    rw [show (readX (awkX 5) 0).1 = 1 from rfl]
    have H4 := Lib.hid hh
    have B4 := Lib.hid (below_only B3.out ho (by rw [HB.out]; exact Nat.le_refl _) (fun j hj => hj))
    clear hh ho
    go_wp2_with fail
    refine (Read_hold _ b _ 1 w4 ⟨by omega, by omega⟩ H4.out).mono ?_
    rintro e w5 ⟨rfl, hh, ho⟩
    rw [show (readX (readX (awkX 5) 0).2 1).1 = 3 from rfl]
    have B5 := Lib.hid (below_only B4.out ho (by rw [HB.out]; exact Nat.le_refl _) (fun j hj => hj))
    clear hh ho
    go_wp2_with fail
    go_ret
    exact ⟨rfl, by rw [HB.out]; exact B5.out⟩
end Go.Proofs.Ytkcghcoacjpbkaa.Mbox
