/- The walks of LanePlaces, LaneMoves and LaneBack. -/
import Derived.Test.YtcjmofiebkdgjaaDoorLe
namespace Go.Proofs.YtcjmofiebkdgjaaDoor.Lane
open Go.RowKit
set_option linter.unusedVariables false

set_option maxHeartbeats 400000 in
theorem places_walk (a n m : Int) (w : World) (wa : (Lit.int .u32 a).wf = true) (wn : (Lit.int .i64 n).wf = true) (wm : (Lit.int .u32 m).wf = true) (ht : Tab w) :
    Calls Tryd.prog 3 #[.int .u32 a, .int .i64 n, .int .u32 m] w fun e w' => e = .returned (.bool true) ∧ Below w.heap.size w w' := by
  obtain ⟨ha, ha'⟩ := bounds_u32 wa
  obtain ⟨hn, hn'⟩ := bounds_i64 wn
  obtain ⟨hm, hm'⟩ := bounds_u32 wm
  have H := Lib.hid ht
  clear ht wa wn wm
  obtain ⟨x, hx⟩ : ∃ x, wideV m = x := ⟨_, rfl⟩
  have rW := fun w => rWide_any m w hm (by omega)
  rw [hx] at rW
  have W1 := fun w ht => Wide_val m x w hm (by omega) ht hx
  clear hx
  go_enter Tryd.func3, Tryd.ntmps3
  go_wp2_with fail
  refine (lanes_any a n _ ha (by omega) H.out).mono ?_
  rintro e w1 ⟨rfl, hb⟩
  have B := Lib.hid hb
  have T1 := Lib.hid (H.out.below B.out)
  clear hb
  go_wp2_with fail
  refine (Word.pick_any n _ hn hn').mono ?_
  rintro e w2 ⟨⟨p, hp0, hp5, rfl⟩, rfl⟩
  go_wp2_with fail
  refine (lanes_any a p _ ha (by omega) T1.out).mono ?_
  rintro e w2 ⟨rfl, hb⟩
  have B := Lib.hid (B.out.trans (hb.mono B.out.size))
  have T2 := Lib.hid (H.out.below B.out)
  clear hb
  go_wp2_with fail
  refine (W1 _ T2.out).mono ?_
  rintro e w3 ⟨rfl, rfl⟩
  go_wp2_with fail
  refine (rW _).mono ?_
  rintro e w3 ⟨rfl, rfl⟩
  go_wp2_with fail
  refine (awake_any _ T2.out).mono ?_
  rintro e w3 ⟨rfl, hb⟩
  have B := Lib.hid (B.out.trans (hb.mono B.out.size))
  clear hb
  go_wp2_with fail
  go_ret
  exact ⟨rfl, B.out⟩

set_option maxHeartbeats 400000 in
theorem moves_walk (v a n d : Int) (w : World) (wv : (Lit.int .u32 v).wf = true) (wa : (Lit.int .u32 a).wf = true) (wn : (Lit.int .i64 n).wf = true) (wd : (Lit.int .u32 d).wf = true) (ht : Tab w) :
    Calls Tryd.prog 4 #[.int .u32 v, .int .u32 a, .int .i64 n, .int .u32 d] w fun e w' => e = .returned (.bool true) ∧ Below w.heap.size w w' := by
  obtain ⟨hv, hv'⟩ := bounds_u32 wv
  obtain ⟨ha, ha'⟩ := bounds_u32 wa
  obtain ⟨hn, hn'⟩ := bounds_i64 wn
  obtain ⟨hd, hd'⟩ := bounds_u32 wd
  have H := Lib.hid ht
  clear ht wa wn wv wd
  go_enter Tryd.func4, Tryd.ntmps4
  go_wp2_with fail
  refine (moves_any v a n d _ hv (by omega) ha (by omega) hd (by omega) H.out).mono ?_
  rintro e w1 ⟨rfl, hb⟩
  have B := Lib.hid hb
  have T1 := Lib.hid (H.out.below B.out)
  clear hb
  go_wp2_with fail
  refine (Word.pick_any n _ hn hn').mono ?_
  rintro e w2 ⟨⟨p, hp0, hp5, rfl⟩, rfl⟩
  go_wp2_with fail
  refine (moves_any v a p d _ hv (by omega) ha (by omega) hd (by omega) T1.out).mono ?_
  rintro e w2 ⟨rfl, hb⟩
  have B := Lib.hid (B.out.trans (hb.mono B.out.size))
  have T2 := Lib.hid (H.out.below B.out)
  clear hb
  go_wp2_with fail
  refine (awake_any _ T2.out).mono ?_
  rintro e w3 ⟨rfl, hb⟩
  have B := Lib.hid (B.out.trans (hb.mono B.out.size))
  clear hb
  go_wp2_with fail
  go_ret
  exact ⟨rfl, B.out⟩
end Go.Proofs.YtcjmofiebkdgjaaDoor.Lane
