/- Awake; the walk of WindowAsks. -/
import Derived.Test.YtfpammfcchboaaaVf
namespace Go.Proofs.Ytfpammfcchboaaa.Win
open Go.RowKit Fifo Go.Maps Go.ChangeShapes Go.WideShapes Go.ChangeAt Go.Proofs.Ytfpammfcchboaaa.Access
open Go.Proofs.Ytfpammfcchboaaa.Orow (own_keep own_only own_mono own_blk own_lt own_shape)
open Go.Proofs.Ytfpammfcchboaaa.Reach (Two two_new alloc_keep)
set_option linter.unusedVariables false

def exV : List Dv := [⟨1, 16, 8, -1, -1⟩, ⟨2, 24, 32, 0, 3⟩]
theorem example_any (w : World) : Calls Try.prog 22 #[] w fun e w' => e = .returned (.slice (some ⟨w.heap.size, 0, none⟩) 2 2) ∧ RowV w' (some ⟨w.heap.size, 0, none⟩) 2 exV ∧ Below w.heap.size w w' := by
  go_enter Try.func22, Try.ntmps22
  go_wp2_with fail
  go_ret
  refine ⟨rfl, ⟨rfl, fun j hj => ?_, fun j hj => ⟨w.heap.size, 0, rfl, ?_⟩⟩, (Below.refl _ _).alloc (Nat.le_refl _) _⟩
  · match j, hj with
    | 0, _ => exact ⟨by decide, by decide, by decide, by decide, by decide⟩
    | 1, _ => exact ⟨by decide, by decide, by decide, by decide, by decide⟩
  · match j, hj with
    | 0, _ => exact ⟨World.cell?_alloc_at _ _ _ _ rfl, World.cell?_alloc_at _ _ _ _ rfl, World.cell?_alloc_at _ _ _ _ rfl, World.cell?_alloc_at _ _ _ _ rfl, World.cell?_alloc_at _ _ _ _ rfl⟩
    | 1, _ => exact ⟨World.cell?_alloc_at _ _ _ _ rfl, World.cell?_alloc_at _ _ _ _ rfl, World.cell?_alloc_at _ _ _ _ rfl, World.cell?_alloc_at _ _ _ _ rfl, World.cell?_alloc_at _ _ _ _ rfl⟩
theorem ex_1 : (dcd exV ⟨0, false, 20, 4, 0⟩).getD 0 = 0 ∧ offV exV ⟨0, false, 20, 4, 0⟩ (dcd exV ⟨0, false, 20, 4, 0⟩) = 4 ∧ (dcd exV ⟨0, false, 20, 4, 0⟩).isSome = true := by decide
theorem ex_2 : (dcd exV ⟨0, false, 24, 4, 0⟩).getD 0 = 1 ∧ offV exV ⟨0, false, 24, 4, 0⟩ (dcd exV ⟨0, false, 24, 4, 0⟩) = 0 ∧ (dcd exV ⟨0, false, 24, 4, 0⟩).isSome = true := by decide
theorem ex_3 : (dcd exV ⟨0, false, 56, 4, 0⟩).getD 0 = 0 ∧ offV exV ⟨0, false, 56, 4, 0⟩ (dcd exV ⟨0, false, 56, 4, 0⟩) = 0 ∧ (dcd exV ⟨0, false, 56, 4, 0⟩).isSome = false := by decide
theorem ex_4 : devV 1 18 8 0 0 = false := by decide
set_option maxRecDepth 100000 in
set_option maxHeartbeats 2000000 in
theorem awake_any (w : World) (ht : WT w) : Calls Try.prog 7 #[] w fun e w' => e = .returned (.bool true) ∧ Below w.heap.size w w' := by
  have Ht := Lib.hid ht
  clear ht
  go_enter Try.func7, Try.ntmps7
  go_wp2_with fail
  refine (example_any _).mono ?_
  rintro e w1 ⟨rfl, hr, hb⟩
  have B1 := Lib.hid hb
  have R1 := Lib.hid hr
  clear hb hr
  go_wp2_with fail
  refine (Decode_any _ 2 2 exV 0 false 20 4 0 0 4 true _ (by omega) (by omega) (by omega) (by omega) (by omega) (by omega) (Ht.out.keep B1.out) R1.out ex_1.1 ex_1.2.1 ex_1.2.2).mono ?_
  rintro e w2 ⟨rfl, hb⟩
  have B2 := Lib.hid (B1.out.trans (hb.mono B1.out.size))
  clear hb R1
  go_wp2_with fail
  refine (example_any _).mono ?_
  rintro e w3 ⟨rfl, hr, hb⟩
  have B3 := Lib.hid (B2.out.trans (hb.mono B2.out.size))
  have R3 := Lib.hid hr
  clear hb hr
  go_wp2_with fail
  refine (Decode_any _ 2 2 exV 0 false 24 4 0 1 0 true _ (by omega) (by omega) (by omega) (by omega) (by omega) (by omega) (Ht.out.keep B3.out) R3.out ex_2.1 ex_2.2.1 ex_2.2.2).mono ?_
  rintro e w4 ⟨rfl, hb⟩
  have B4 := Lib.hid (B3.out.trans (hb.mono B3.out.size))
  clear hb R3
  go_wp2_with fail
  refine (example_any _).mono ?_
  rintro e w5 ⟨rfl, hr, hb⟩
  have B5 := Lib.hid (B4.out.trans (hb.mono B4.out.size))
  have R5 := Lib.hid hr
  clear hb hr
  go_wp2_with fail
  refine (Decode_any _ 2 2 exV 0 false 56 4 0 0 0 false _ (by omega) (by omega) (by omega) (by omega) (by omega) (by omega) (Ht.out.keep B5.out) R5.out ex_3.1 ex_3.2.1 ex_3.2.2).mono ?_
  rintro e w6 ⟨rfl, hb⟩
  have B6 := Lib.hid (B5.out.trans (hb.mono B5.out.size))
  clear hb R5
  go_wp2_with fail
  refine (Device_any 1 18 8 0 0 false _ (by omega) (by omega) (by omega) (by omega) (by omega) (by omega) ex_4).mono ?_
  rintro e w7 ⟨rfl, hb⟩
  have B7 := Lib.hid (B6.out.trans (hb.mono B6.out.size))
  clear hb
  go_wp2_with fail
  go_ret
  exact ⟨rfl, B7.out⟩

set_option maxRecDepth 100000 in
set_option maxHeartbeats 4000000 in
theorem wasks_core (a : Option Addr) (n cap : Nat) (l : List Dv) (k B T O L : Int) (W2 : Int) (r2 : Bool) (A S D : Int) (p : Int) (w : World) (hn : n ≤ 100) (hno : a = none → n = 0 ∧ cap = 0) (hd : okD ⟨k, B, T, O, L⟩) (hA : 0 ≤ A) (hA' : A < 4294967296) (hD : 0 ≤ D) (hD' : D < 4294967296) (ht : WT w) (h : RowV w a n l) :
    Calls Try.prog 3 #[.slice a n cap, dv k B T O L, acc W2 r2 A S D, .int .u32 p] w fun e w' => e = .returned (.bool true) ∧ Below w.heap.size w w' := by
  have d1 : decide ((100 : Int) < (n : Int)) = false := decide_eq_false (by omega)
  have hn6 : n ≤ 1000000 := by omega
  obtain ⟨g, hg⟩ : ∃ g, w.heap.size = g := ⟨_, rfl⟩
  have hb0 := below_new (w := w) (.cells #[.int .i64 k, .int .u32 B, .int .i64 T, .int .i64 O, .int .i64 L] 26)
  have h5 := (atD_new w k B T O L 26).keep (below_new (.cells #[.int .i64 W2, .bool r2, .int .u32 A, .int .i64 S, .int .u32 D] 28))
  have h6 := five_new (w.alloc (.cells #[.int .i64 k, .int .u32 B, .int .i64 T, .int .i64 O, .int .i64 L] 26)) W2 r2 A S D 28
  rw [World.size_alloc] at h6
  rw [hg] at h5 h6
  have H5 := Lib.hid h5
  have H6 := Lib.hid h6
  have B0 := Lib.hid (hb0.alloc hb0.size (.cells #[.int .i64 W2, .bool r2, .int .u32 A, .int .i64 S, .int .u32 D] 28))
  have Hr := Lib.hid h
  have Ht := Lib.hid ht
  have Hno := Lib.hid hno
  have Hd := Lib.hid hd
  clear h ht hno h5 h6 hb0 hd
  go_enter Try.func3, Try.ntmps3
  go_wp2_with fail
  refine (lent_any a n cap l _ (Hr.out.keep B0.out) Hno.out (by omega)).mono ?_
  rintro e w1 ⟨i, rfl, hown, hb1⟩
  have B1 := Lib.hid (B0.out.trans (hb1.mono B0.out.size))
  have F1 := Lib.hid (H5.out.keep hb1)
  have G1 := Lib.hid (H6.out.keep hb1)
  have HI := Lib.hid (own_mono hown B0.out.size)
  have HRi := Lib.hid (lent_row hown Hr.out.1 Hr.out.2.1)
  clear hb1 hown B0 H5 H6 hg
  obtain ⟨e0, e1, e2, e3, e4⟩ := F1.out
  go_wp2_with fail
  refine (one_any k B T O L _ Hd.out.1.1 Hd.out.1.2 Hd.out.2.1.1 Hd.out.2.1.2 Hd.out.2.2.1.1 Hd.out.2.2.1.2 (Ht.out.keep B1.out)).mono ?_
  rintro e w2 ⟨rfl, hb2⟩
  have B2 := Lib.hid (B1.out.trans (hb2.mono B1.out.size))
  have F2 := Lib.hid (F1.out.keep hb2)
  have G2 := Lib.hid (G1.out.keep hb2)
  have HI2 := Lib.hid (own_keep HI.out hb2)
  have HR2 := Lib.hid (HRi.out.keep hb2)
  clear hb2 F1 G1 HI HRi B1 e0 e1 e2 e3 e4
  obtain ⟨q0, q1, q2, q3, q4⟩ := G2.out
  go_wp2_with fail
  refine (asks_any _ n (n + 12) l W2 r2 A S D p _ hn6 (by omega) hA hA' hD hD' (Ht.out.keep B2.out) HR2.out).mono ?_
  rintro e w3 ⟨rfl, hb3⟩
  have B3 := Lib.hid (B2.out.trans (hb3.mono B2.out.size))
  have F3 := Lib.hid (F2.out.keep hb3)
  have G3 := Lib.hid (G2.out.keep hb3)
  have HI3 := Lib.hid (own_keep HI2.out hb3)
  clear hb3 F2 G2 HI2 HR2 B2 q0 q1 q2 q3 q4
  obtain ⟨e0, e1, e2, e3, e4⟩ := F3.out
  have G4 := Lib.hid (G3.out.keep (below_new (w := w3) (.cells #[.int .i64 k, .int .u32 B, .int .i64 T, .int .i64 O, .int .i64 L] 26)))
  obtain ⟨q0, q1, q2, q3, q4⟩ := G4.out
  go_wp2_with fail
  have ha3 := below_new (w := w3) (.cells #[.int .i64 k, .int .u32 B, .int .i64 T, .int .i64 O, .int .i64 L] 26)
  have B4 := Lib.hid (B3.out.trans (ha3.mono B3.out.size))
  have hrow : RowV (w3.alloc (.cells #[.int .i64 k, .int .u32 B, .int .i64 T, .int .i64 O, .int .i64 L] 26)) (some ⟨w3.heap.size, 0, none⟩) 1 [⟨k, B, T, O, L⟩] :=
    ⟨rfl, fun j hj => by obtain rfl : j = 0 := by omega
                         exact Hd.out, fun j hj => ⟨_, 0, rfl, by obtain rfl : j = 0 := by omega
                                                                  exact atD_new w3 k B T O L _⟩⟩
  refine (asks_any _ 1 1 [⟨k, B, T, O, L⟩] W2 r2 A S D p _ (by omega) (by omega) hA hA' hD hD' (Ht.out.keep B4.out) hrow).mono ?_
  rintro e w5 ⟨rfl, hb5⟩
  have B5 := Lib.hid (B4.out.trans (hb5.mono B4.out.size))
  have HI5 := Lib.hid (own_keep (own_keep HI3.out ha3) hb5)
  clear hb5 F3 G3 G4 HI3 B3 B4 ha3 hrow q0 q1 q2 q3 q4 e0 e1 e2 e3 e4
  go_wp2_with fail
  refine (kept_any w.heap.size i n cap a l _ (by omega) (Hr.out.keep B5.out) HI5.out).mono ?_
  rintro e w6 ⟨rfl, hb6⟩
  have B6 := Lib.hid (B5.out.trans (hb6.mono B5.out.size))
  clear hb6 HI5 B5
  go_wp2_with fail
  refine (awake_any _ (Ht.out.keep B6.out)).mono ?_
  rintro e w7 ⟨rfl, hb7⟩
  have B7 := Lib.hid (B6.out.trans (hb7.mono B6.out.size))
  clear hb7
  go_wp2_with fail
  go_ret
  exact ⟨rfl, B7.out⟩
end Go.Proofs.Ytfpammfcchboaaa.Win
