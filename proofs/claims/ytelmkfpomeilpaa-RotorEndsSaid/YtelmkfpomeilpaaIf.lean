/- The chapter's examples; what is told; RotorPoints. -/
import Derived.Test.YtelmkfpomeilpaaIw
import Derived.Handy
import Derived.Outline
namespace Go.Proofs.Ytelmkfpomeilpaa.Rotor
open Go.RowKit Go.Maps Fifo Orow Exact Ring
set_option linter.unusedVariables false

theorem told_any (x y : Nat) (p : Pt) (is : Bool) (v : Int) (w : World) (hv : 0 ≤ v ∧ v < 4294967296) (h : IsPt x y p) (hw : p = pt v) (his : is = true) :
    Calls Try.prog 27 #[.complex .f64 x y, .bool is, .int .u32 v] w fun e w' => e = .returned (.bool true) ∧ Below w.heap.size w w' := by
  subst hw
  subst his
  have A := Lib.hid (rPoint_any v w hv)
  have B := Lib.hid (Word_yes x y (pt v) w h)
  rw [wd_pt hv] at B
  have o := ok_pt v
  have q1 : (FloatKind.f64.format.order x (floatOfInt .f64 (pt v).re) == some .eq) = true := by
    rw [ask_eq h.re (den_int (by unfold okP at o; omega))]; exact decide_eq_true rfl
  have q2 : (FloatKind.f64.format.order y (floatOfInt .f64 (pt v).im) == some .eq) = true := by
    rw [ask_eq h.im (den_int (by unfold okP at o; omega))]; exact decide_eq_true rfl
  have vv : (v == v) = true := by simp
  clear h o hv
  go_enter Try.func27, Try.ntmps27
  go_wp2_with fail
  refine A.out.mono ?_
  rintro e w1 ⟨rfl, rfl⟩
  go_wp2_with fail
  refine B.out.mono ?_
  rintro e w1 ⟨rfl, hb⟩
  have B1 := Lib.hid hb
  clear hb
  go_wp2_with fail
  go_ret
  exact ⟨rfl, B1.out⟩
theorem points_any (v u k : Int) (w : World) (hv : 0 ≤ v ∧ v < 4294967296) (hu : 0 ≤ u ∧ u < 4294967296) (hk : 0 ≤ k ∧ k < 4294967296) :
    Calls Try.prog 9 #[.int .u32 v, .int .u32 u, .int .u32 k] w fun e w' => e = .returned (.bool true) ∧ Below w.heap.size w w' := by
  have Hv := Lib.hid hv
  have Hu := Lib.hid hu
  have Hk := Lib.hid hk
  clear hv hu hk
  go_enter Try.func9, Try.ntmps9
  go_wp2_with fail
  refine (Point_any v w Hv.out).mono ?_
  rintro e w1 ⟨⟨x, y, rfl, h⟩, hb⟩
  have P := Lib.hid h
  have B1 := Lib.hid hb
  clear h hb
  go_wp2_with fail
  refine (Point_any u w1 Hu.out).mono ?_
  rintro e w2 ⟨⟨a, b, rfl, h⟩, hb⟩
  have Q := Lib.hid h
  have B2 := Lib.hid (B1.out.trans (hb.mono B1.out.size))
  clear h hb
  go_wp2_with fail
  refine (Plus_yes x y a b _ _ w2 P.out Q.out).mono ?_
  rintro e w3 ⟨⟨c1, d1, rfl, h⟩, hb⟩
  have S := Lib.hid h
  have B3 := Lib.hid (B2.out.trans (hb.mono B2.out.size))
  clear h hb
  go_wp2_with fail
  refine (Times_yes x y a b _ _ w3 P.out Q.out).mono ?_
  rintro e w4 ⟨⟨c2, d2, rfl, h⟩, hb⟩
  have T := Lib.hid h
  have B4 := Lib.hid (B3.out.trans (hb.mono B3.out.size))
  clear h hb
  go_wp2_with fail
  refine (Turn_yes x y _ k w4 P.out Hk.out).mono ?_
  rintro e w5 ⟨⟨c3, d3, rfl, h⟩, hb⟩
  have U := Lib.hid h
  have B5 := Lib.hid (B4.out.trans (hb.mono B4.out.size))
  clear h hb
  go_wp2_with fail
  refine (told_any x y _ true v w5 Hv.out P.out rfl rfl).mono ?_
  rintro e w6 ⟨rfl, hb⟩
  have B6 := Lib.hid (B5.out.trans (hb.mono B5.out.size))
  clear hb
  go_wp2_with fail
  refine (rPlus_any v u w6 Hv.out Hu.out).mono ?_
  rintro e w6' ⟨rfl, rfl⟩
  go_wp2_with fail
  refine (told_any c1 d1 _ true _ w6 (wd_range _) S.out (pt_wd (ok_add _ _)).symm rfl).mono ?_
  rintro e w7 ⟨rfl, hb⟩
  have B7 := Lib.hid (B6.out.trans (hb.mono B6.out.size))
  clear hb
  go_wp2_with fail
  refine (rTimes_any v u w7 Hv.out Hu.out).mono ?_
  rintro e w7' ⟨rfl, rfl⟩
  go_wp2_with fail
  refine (told_any c2 d2 _ true _ w7 (wd_range _) T.out (pt_wd (ok_mul _ _)).symm rfl).mono ?_
  rintro e w8 ⟨rfl, hb⟩
  have B8 := Lib.hid (B7.out.trans (hb.mono B7.out.size))
  clear hb
  go_wp2_with fail
  refine (rTurn_any v k w8 Hv.out Hk.out).mono ?_
  rintro e w9 ⟨rfl, hb⟩
  have B9 := Lib.hid (B8.out.trans (hb.mono B8.out.size))
  clear hb
  go_wp2_with fail
  refine (told_any c3 d3 _ true _ w9 (wd_range _) U.out (pt_wd (ok_turn (ok_pt v) _)).symm rfl).mono ?_
  rintro e w10 ⟨rfl, hb⟩
  have B10 := Lib.hid (B9.out.trans (hb.mono B9.out.size))
  clear hb
  go_wp2_with fail
  go_ret
  exact ⟨rfl, B10.out⟩
end Go.Proofs.Ytelmkfpomeilpaa.Rotor
