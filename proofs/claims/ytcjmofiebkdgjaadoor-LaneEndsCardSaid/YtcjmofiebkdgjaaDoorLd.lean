/- Contracts of package lane's functions: Mask, Take, Put. -/
import Derived.Test.YtcjmofiebkdgjaaDoorLc
namespace Go.Proofs.YtcjmofiebkdgjaaDoor.Lane
open Go.RowKit
set_option linter.unusedVariables false

theorem Mask_yes (a n : Int) (x : Int) (w : World) (ha : 0 ≤ a) (ha' : a < 4294967296) (h : alB a n = true) (ht : Tab w) (hx : maskV a n = x) :
    Calls Tryd.prog 15 #[.int .u32 a, .int .i64 n] w fun e w' => e = .returned (.tuple #[.int .u32 x, .bool true]) ∧ Below w.heap.size w w' := by
  have hmf : ∀ (fn : Fn) (first cap : Array Value) (w : World), (Instr.makeFunc fn first cap).run Tryd.prog w = .ok (.func fn first cap) w := fun _ _ _ _ => rfl
  have T : ∀ w, Tab w → Calls Tryd.prog 26 #[.agg #[.int .u32 a, .int .i64 n], .func (.func 28) #[.agg #[.int .u32 a, .int .i64 n]] #[]] w fun e w' => e = .returned (.tuple #[.int .u32 x, .bool true]) ∧ Below w.heap.size w w' := by
    intro w ht
    obtain ⟨s, k, hp, hs, hk, _⟩ := place_of h
    refine told_mask a n x w ha ha' h ht fun w ht => ?_
    rw [← hx, mask_at hp hs hk]
    exact mask_val hp a n w ha ha' hs hk
  have H := Lib.hid ht
  clear h ht hx
  go_enter Tryd.func15, Tryd.ntmps15
  go_wp2_with fail
  refine (at_any a n _).mono ?_
  rintro e w1 ⟨rfl, hb⟩
  have Hb := Lib.hid hb
  clear hb
  have T1 := Lib.hid (H.out.below (Hb.out.alloc Hb.out.size (.cells #[.int .u32 a, .int .i64 n] 42)))
  go_wp2_with fail
  refine (T _ T1.out).mono ?_
  rintro e w2 ⟨rfl, hb⟩
  have Hb2 := Lib.hid ((Hb.out.alloc Hb.out.size _).trans (hb.mono (Hb.out.alloc Hb.out.size _).size))
  clear hb
  go_wp2_with fail
  go_ret2
  exact ⟨rfl, Hb2.out⟩
theorem Mask_no (a n : Int) (w : World) (ha : 0 ≤ a) (ha' : a < 4294967296) (h : alB a n = false) :
    Calls Tryd.prog 15 #[.int .u32 a, .int .i64 n] w fun e w' => e = .returned (.tuple #[.int .u32 0, .bool false]) ∧ Below w.heap.size w w' := by
  have hmf : ∀ (fn : Fn) (first cap : Array Value) (w : World), (Instr.makeFunc fn first cap).run Tryd.prog w = .ok (.func fn first cap) w := fun _ _ _ _ => rfl
  have T := fun w => told_mask_no a n w ha ha' h
  clear h
  go_enter Tryd.func15, Tryd.ntmps15
  go_wp2_with fail
  refine (at_any a n _).mono ?_
  rintro e w1 ⟨rfl, hb⟩
  have Hb := Lib.hid hb
  clear hb
  go_wp2_with fail
  refine (T _).mono ?_
  rintro e w2 ⟨rfl, hb⟩
  have Hb2 := Lib.hid ((Hb.out.alloc Hb.out.size _).trans (hb.mono (Hb.out.alloc Hb.out.size _).size))
  clear hb
  go_wp2_with fail
  go_ret2
  exact ⟨rfl, Hb2.out⟩
theorem Mask_any (a n x : Int) (b : Bool) (w : World) (ha : 0 ≤ a) (ha' : a < 4294967296) (ht : Tab w) (hx : maskV a n = x) (hb : alB a n = b) :
    Calls Tryd.prog 15 #[.int .u32 a, .int .i64 n] w fun e w' => e = .returned (.tuple #[.int .u32 x, .bool b]) ∧ Below w.heap.size w w' := by
  subst hb
  by_cases h : alB a n = true
  · rw [h]
    exact Mask_yes a n x w ha ha' h ht hx
  · have h' : alB a n = false := by simpa using h
    rw [h', ← hx, mask_no h']
    exact Mask_no a n w ha ha' h'

theorem Take_yes (a n v : Int) (x : Int) (w : World) (ha : 0 ≤ a) (ha' : a < 4294967296) (hv : 0 ≤ v) (hv' : v < 4294967296) (h : alB a n = true) (ht : Tab w) (hx : takeV v a n = x) :
    Calls Tryd.prog 17 #[.int .u32 v, .int .u32 a, .int .i64 n] w fun e w' => e = .returned (.tuple #[.int .u32 x, .bool true]) ∧ Below w.heap.size w w' := by
  have hmf : ∀ (fn : Fn) (first cap : Array Value) (w : World), (Instr.makeFunc fn first cap).run Tryd.prog w = .ok (.func fn first cap) w := fun _ _ _ _ => rfl
  have T : ∀ w, Tab w → Calls Tryd.prog 26 #[.agg #[.int .u32 a, .int .i64 n], .func (.func 30) #[.agg #[.int .u32 a, .int .i64 n, .int .u32 v, .int .u32 0]] #[]] w fun e w' => e = .returned (.tuple #[.int .u32 x, .bool true]) ∧ Below w.heap.size w w' := by
    intro w ht
    obtain ⟨s, k, hp, hs, hk, _⟩ := place_of h
    refine told_taken a n x v 0 w ha ha' h ht fun w ht => ?_
    rw [← hx, take_at hp hs hk]
    exact taken_val hp a n v 0 w ha ha' hv hv' hs hk ht
  have H := Lib.hid ht
  clear h ht hx
  go_enter Tryd.func17, Tryd.ntmps17
  go_wp2_with fail
  refine (at_any a n _).mono ?_
  rintro e w1 ⟨rfl, hb⟩
  have Hb := Lib.hid hb
  clear hb
  have T1 := Lib.hid (H.out.below (Hb.out.alloc Hb.out.size (.cells #[.int .u32 a, .int .i64 n, .int .u32 v, .int .u32 0] 45)))
  go_wp2_with fail
  refine (T _ T1.out).mono ?_
  rintro e w2 ⟨rfl, hb⟩
  have Hb2 := Lib.hid ((Hb.out.alloc Hb.out.size _).trans (hb.mono (Hb.out.alloc Hb.out.size _).size))
  clear hb
  go_wp2_with fail
  go_ret2
  exact ⟨rfl, Hb2.out⟩
theorem Take_no (a n v : Int) (w : World) (ha : 0 ≤ a) (ha' : a < 4294967296) (h : alB a n = false) :
    Calls Tryd.prog 17 #[.int .u32 v, .int .u32 a, .int .i64 n] w fun e w' => e = .returned (.tuple #[.int .u32 0, .bool false]) ∧ Below w.heap.size w w' := by
  have hmf : ∀ (fn : Fn) (first cap : Array Value) (w : World), (Instr.makeFunc fn first cap).run Tryd.prog w = .ok (.func fn first cap) w := fun _ _ _ _ => rfl
  have T := fun w => told_taken_no a n v 0 w ha ha' h
  clear h
  go_enter Tryd.func17, Tryd.ntmps17
  go_wp2_with fail
  refine (at_any a n _).mono ?_
  rintro e w1 ⟨rfl, hb⟩
  have Hb := Lib.hid hb
  clear hb
  go_wp2_with fail
  refine (T _).mono ?_
  rintro e w2 ⟨rfl, hb⟩
  have Hb2 := Lib.hid ((Hb.out.alloc Hb.out.size _).trans (hb.mono (Hb.out.alloc Hb.out.size _).size))
  clear hb
  go_wp2_with fail
  go_ret2
  exact ⟨rfl, Hb2.out⟩
theorem Take_any (a n v x : Int) (b : Bool) (w : World) (ha : 0 ≤ a) (ha' : a < 4294967296) (hv : 0 ≤ v) (hv' : v < 4294967296) (ht : Tab w) (hx : takeV v a n = x) (hb : alB a n = b) :
    Calls Tryd.prog 17 #[.int .u32 v, .int .u32 a, .int .i64 n] w fun e w' => e = .returned (.tuple #[.int .u32 x, .bool b]) ∧ Below w.heap.size w w' := by
  subst hb
  by_cases h : alB a n = true
  · rw [h]
    exact Take_yes a n v x w ha ha' hv hv' h ht hx
  · have h' : alB a n = false := by simpa using h
    rw [h', ← hx, take_no h']
    exact Take_no a n v w ha ha' h'

theorem Put_yes (a n v d : Int) (x : Int) (w : World) (ha : 0 ≤ a) (ha' : a < 4294967296) (hv : 0 ≤ v) (hv' : v < 4294967296) (hd : 0 ≤ d) (h : alB a n = true) (ht : Tab w) (hx : putV v a n d = x) :
    Calls Tryd.prog 14 #[.int .u32 v, .int .u32 a, .int .i64 n, .int .u32 d] w fun e w' => e = .returned (.tuple #[.int .u32 x, .bool true]) ∧ Below w.heap.size w w' := by
  have hmf : ∀ (fn : Fn) (first cap : Array Value) (w : World), (Instr.makeFunc fn first cap).run Tryd.prog w = .ok (.func fn first cap) w := fun _ _ _ _ => rfl
  have T : ∀ w, Tab w → Calls Tryd.prog 26 #[.agg #[.int .u32 a, .int .i64 n], .func (.func 27) #[.agg #[.int .u32 a, .int .i64 n, .int .u32 v, .int .u32 d]] #[]] w fun e w' => e = .returned (.tuple #[.int .u32 x, .bool true]) ∧ Below w.heap.size w w' := by
    intro w ht
    obtain ⟨s, k, hp, hs, hk, _⟩ := place_of h
    refine told_put a n x v d w ha ha' h ht fun w ht => ?_
    rw [← hx, put_at hp hs hk]
    exact cput_val hp a n v d w ha ha' hv hv' hd hs hk ht
  have H := Lib.hid ht
  clear h ht hx
  go_enter Tryd.func14, Tryd.ntmps14
  go_wp2_with fail
  refine (at_any a n _).mono ?_
  rintro e w1 ⟨rfl, hb⟩
  have Hb := Lib.hid hb
  clear hb
  have T1 := Lib.hid (H.out.below (Hb.out.alloc Hb.out.size (.cells #[.int .u32 a, .int .i64 n, .int .u32 v, .int .u32 d] 45)))
  go_wp2_with fail
  refine (T _ T1.out).mono ?_
  rintro e w2 ⟨rfl, hb⟩
  have Hb2 := Lib.hid ((Hb.out.alloc Hb.out.size _).trans (hb.mono (Hb.out.alloc Hb.out.size _).size))
  clear hb
  go_wp2_with fail
  go_ret2
  exact ⟨rfl, Hb2.out⟩
theorem Put_no (a n v d : Int) (w : World) (ha : 0 ≤ a) (ha' : a < 4294967296) (h : alB a n = false) :
    Calls Tryd.prog 14 #[.int .u32 v, .int .u32 a, .int .i64 n, .int .u32 d] w fun e w' => e = .returned (.tuple #[.int .u32 0, .bool false]) ∧ Below w.heap.size w w' := by
  have hmf : ∀ (fn : Fn) (first cap : Array Value) (w : World), (Instr.makeFunc fn first cap).run Tryd.prog w = .ok (.func fn first cap) w := fun _ _ _ _ => rfl
  have T := fun w => told_put_no a n v d w ha ha' h
  clear h
  go_enter Tryd.func14, Tryd.ntmps14
  go_wp2_with fail
  refine (at_any a n _).mono ?_
  rintro e w1 ⟨rfl, hb⟩
  have Hb := Lib.hid hb
  clear hb
  go_wp2_with fail
  refine (T _).mono ?_
  rintro e w2 ⟨rfl, hb⟩
  have Hb2 := Lib.hid ((Hb.out.alloc Hb.out.size _).trans (hb.mono (Hb.out.alloc Hb.out.size _).size))
  clear hb
  go_wp2_with fail
  go_ret2
  exact ⟨rfl, Hb2.out⟩
theorem Put_any (a n v d x : Int) (b : Bool) (w : World) (ha : 0 ≤ a) (ha' : a < 4294967296) (hv : 0 ≤ v) (hv' : v < 4294967296) (hd : 0 ≤ d) (ht : Tab w) (hx : putV v a n d = x) (hb : alB a n = b) :
    Calls Tryd.prog 14 #[.int .u32 v, .int .u32 a, .int .i64 n, .int .u32 d] w fun e w' => e = .returned (.tuple #[.int .u32 x, .bool b]) ∧ Below w.heap.size w w' := by
  subst hb
  by_cases h : alB a n = true
  · rw [h]
    exact Put_yes a n v d x w ha ha' hv hv' hd h ht hx
  · have h' : alB a n = false := by simpa using h
    rw [h', ← hx, put_no h']
    exact Put_no a n v d w ha ha' h'
end Go.Proofs.YtcjmofiebkdgjaaDoor.Lane
