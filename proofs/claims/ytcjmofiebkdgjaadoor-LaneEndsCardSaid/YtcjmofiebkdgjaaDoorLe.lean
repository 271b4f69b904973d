/- What the statements on lanes ask: awake, lanes, moves. -/
import Derived.Test.YtcjmofiebkdgjaaDoorLd
import Derived.Test.YtcjmofiebkdgjaaDoorLp
namespace Go.Proofs.YtcjmofiebkdgjaaDoor.Lane
open Go.RowKit
set_option linter.unusedVariables false

theorem awake_any (w : World) (ht : Tab w) :
    Calls Tryd.prog 12 #[] w fun e w' => e = .returned (.bool true) ∧ Below w.heap.size w w' := by
  have H := Lib.hid ht
  clear ht
  go_enter Tryd.func12, Tryd.ntmps12
  go_wp2_with fail
  refine (Mask_any 6 2 12 true _ (by omega) (by omega) H.out (by decide) (by decide)).mono ?_
  rintro e w1 ⟨rfl, hb⟩
  have T1 := Lib.hid (H.out.below hb)
  have B1 := Lib.hid hb
  clear hb
  go_wp2_with fail
  refine (Put_any 6 2 2863311530 19088743 1164421802 true _ (by omega) (by omega) (by omega) (by omega) (by omega) T1.out (by decide) (by decide)).mono ?_
  rintro e w2 ⟨rfl, hb⟩
  have T2 := Lib.hid (T1.out.below hb)
  have B2 := Lib.hid (B1.out.trans (hb.mono B1.out.size))
  clear hb
  go_wp2_with fail
  refine (Wide_val 12 4294901760 _ (by omega) (by omega) T2.out (by decide)).mono ?_
  rintro e w3 ⟨rfl, rfl⟩
  go_wp2_with fail
  refine (Aligned_any 6 4 false _ (by omega) (by omega) (by decide)).mono ?_
  rintro e w4 ⟨rfl, hb⟩
  have B3 := Lib.hid (B2.out.trans (hb.mono B2.out.size))
  clear hb
  go_wp2_with fail
  go_ret
  exact ⟨rfl, B3.out⟩

set_option maxHeartbeats 400000 in
theorem lanes_any (a n : Int) (w : World) (ha : 0 ≤ a) (ha' : a < 4294967296) (ht : Tab w) :
    Calls Tryd.prog 8 #[.int .u32 a, .int .i64 n] w fun e w' => e = .returned (.bool true) ∧ Below w.heap.size w w' := by
  obtain ⟨m, hm⟩ : ∃ m, maskV a n = m := ⟨_, rfl⟩
  obtain ⟨b, hb⟩ : ∃ b, alB a n = b := ⟨_, rfl⟩
  have M := fun w ht => Mask_any a n m b w ha ha' ht hm hb
  have rM := fun w => rMask_any a n m b w ha ha' hm hb
  have Al := fun w => Aligned_any a n b w ha ha' hb
  have rAl := fun w => rAligned_any a n b w ha ha' hb
  have H := Lib.hid ht
  clear ht hm hb
  go_enter Tryd.func8, Tryd.ntmps8
  go_wp2_with fail
  refine (M _ H.out).mono ?_
  rintro e w1 ⟨rfl, hb⟩
  have B1 := Lib.hid hb
  clear hb
  go_wp2_with fail
  refine (rM _).mono ?_
  rintro e w2 ⟨rfl, rfl⟩
  go_wp2_with fail
  refine (Al _).mono ?_
  rintro e w2 ⟨rfl, hb⟩
  have B2 := Lib.hid (B1.out.trans (hb.mono B1.out.size))
  clear hb
  go_wp2_with fail
  refine (rAl _).mono ?_
  rintro e w3 ⟨rfl, rfl⟩
  go_wp2_with fail
  go_ret
  exact ⟨rfl, B2.out⟩

set_option maxHeartbeats 400000 in
theorem moves_any (v a n d : Int) (w : World) (hv : 0 ≤ v) (hv' : v < 4294967296) (ha : 0 ≤ a) (ha' : a < 4294967296) (hd : 0 ≤ d) (hd' : d < 4294967296) (ht : Tab w) :
    Calls Tryd.prog 13 #[.int .u32 v, .int .u32 a, .int .i64 n, .int .u32 d] w fun e w' => e = .returned (.bool true) ∧ Below w.heap.size w w' := by
  obtain ⟨x, hx⟩ : ∃ m, takeV v a n = m := ⟨_, rfl⟩
  obtain ⟨y, hy⟩ : ∃ m, putV v a n d = m := ⟨_, rfl⟩
  obtain ⟨b, hb⟩ : ∃ b, alB a n = b := ⟨_, rfl⟩
  have T := fun w ht => Take_any a n v x b w ha ha' hv hv' ht hx hb
  have rT := fun w => rTake_any v a n x b w hv hv' ha ha' hx hb
  have P := fun w ht => Put_any a n v d y b w ha ha' hv hv' hd ht hy hb
  have rP := fun w => rPut_any v a n d y b w hv hv' ha ha' hd hd' hy hb
  have H := Lib.hid ht
  clear ht hx hy hb
  go_enter Tryd.func13, Tryd.ntmps13
  go_wp2_with fail
  refine (T _ H.out).mono ?_
  rintro e w1 ⟨rfl, hb⟩
  have B := Lib.hid hb
  clear hb
  go_wp2_with fail
  refine (rT _).mono ?_
  rintro e w2 ⟨rfl, hb⟩
  have B := Lib.hid (B.out.trans (hb.mono B.out.size))
  have T2 := Lib.hid (H.out.below B.out)
  clear hb
  go_wp2_with fail
  refine (P _ T2.out).mono ?_
  rintro e w3 ⟨rfl, hb⟩
  have B := Lib.hid (B.out.trans (hb.mono B.out.size))
  clear hb
  go_wp2_with fail
  refine (rP _).mono ?_
  rintro e w4 ⟨rfl, hb⟩
  have B := Lib.hid (B.out.trans (hb.mono B.out.size))
  clear hb
  go_wp2_with fail
  go_ret
  exact ⟨rfl, B.out⟩
end Go.Proofs.YtcjmofiebkdgjaaDoor.Lane
