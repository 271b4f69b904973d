/- Contracts of package lane: what is asked of a place at work; what is told; Aligned, Mask, Take, Put. -/
import Derived.Test.YtcjmofiebkdgjaaDoorLb
namespace Go.Proofs.YtcjmofiebkdgjaaDoor.Lane
open Go.RowKit
set_option linter.unusedVariables false

theorem wide_val {s k : Nat} (hp : Place s k) (a n x : Int) (w : World) (ha : 0 ≤ a) (ha' : a < 4294967296) (hs : a % 4 = s) (hk : n = k) (ht : Tab w) (hx : wN s k = x) :
    Calls Tryd.prog 35 #[.agg #[.int .u32 a, .int .i64 n]] w fun e w' => e = .returned (.int .u32 x) ∧ Below w.heap.size w w' := by
  have hb0 := (mN_bd hp).1
  have hb1 := (mN_bd hp).2
  have hw := wide_mask hp
  rw [hx] at hw
  have L := fun w => mask_val hp a n w ha ha' hs hk
  obtain ⟨m, hm⟩ : ∃ m, mN s k = m := ⟨_, rfl⟩
  rw [hm] at hb0 hb1 hw L
  clear hx hm hs hk hp
  have H := Lib.hid ht
  clear ht
  go_enter Tryd.func35, Tryd.ntmps35
  go_wp2_with fail
  refine (L _).mono ?_
  rintro e w1 ⟨rfl, hb⟩
  have Hb := Lib.hid (((Below.refl w.heap.size w).alloc (Nat.le_refl _) _).trans (hb.mono (by simp)))
  clear hb
  have T1 := Lib.hid (H.out.below Hb.out)
  go_wp2_with fail
  refine (Wide_val m x _ (by omega) (by omega) T1.out hw).mono ?_
  rintro e w2 ⟨rfl, rfl⟩
  go_wp2_with fail
  go_ret
  exact ⟨rfl, Hb.out⟩

/-- A cell in a block. -/
structure Cl (w : World) (b : Nat) (a n v d : Int) : Prop where
  c0 : w.cell? ⟨b, 0, none⟩ = some (.int .u32 a)
  c1 : w.cell? ⟨b, 1, none⟩ = some (.int .i64 n)
  c2 : w.cell? ⟨b, 2, none⟩ = some (.int .u32 v)
  c3 : w.cell? ⟨b, 3, none⟩ = some (.int .u32 d)
theorem cl_new (w : World) (a n v d : Int) (t : TypeId) : Cl (w.alloc (.cells #[.int .u32 a, .int .i64 n, .int .u32 v, .int .u32 d] t)) w.heap.size a n v d :=
  ⟨World.cell?_alloc_at _ _ _ 0 rfl, World.cell?_alloc_at _ _ _ 1 rfl, World.cell?_alloc_at _ _ _ 2 rfl, World.cell?_alloc_at _ _ _ 3 rfl⟩

set_option maxHeartbeats 400000 in
theorem taken_val {s k : Nat} (hp : Place s k) (a n v d : Int) (w : World) (ha : 0 ≤ a) (ha' : a < 4294967296) (hv : 0 ≤ v) (hv' : v < 4294967296) (hs : a % 4 = s) (hk : n = k) (ht : Tab w) :
    Calls Tryd.prog 30 #[.agg #[.int .u32 a, .int .i64 n, .int .u32 v, .int .u32 d]] w fun e w' => e = .returned (.int .u32 (tN v s k)) ∧ Below w.heap.size w w' := by
  have key := taken_bits hp hv hv'
  have W1 := fun w ht => wide_val hp a n _ w ha ha' hs hk ht rfl
  have S1 := fun w => shift_val a s w ha ha' hs
  have hs4 : s < 4 := by omega
  obtain ⟨x, hx⟩ : ∃ x, wN s k = x := ⟨_, rfl⟩
  rw [hx] at key W1
  clear hx hs hk hp
  have H := Lib.hid ht
  clear ht
  go_enter Tryd.func30, Tryd.ntmps30
  go_wp2_with fail
  refine wp_region_ext (by kernel_rfl) (by kernel_rfl) ?_
  intro W hW
  have B : Below w.heap.size w W := by rw [hW.out]; exact (Below.refl _ _).alloc (Nat.le_refl _) _
  have cs := cl_new w a n v d 45
  rw [← hW.out] at cs
  have c0 := ext_cell cs.c0
  have c1 := ext_cell cs.c1
  have c2 := ext_cell cs.c2
  have T1 : Hid (∀ p, Tab (ext W p)) := fun p => H.out.below (B.trans ((ext_below W p).mono B.size))
  have HbW := Lib.hid B
  clear cs B
  repeat (go_big_quiet_step ((first | (go_at_call 35; exact ext_of (W1 _ (T1.out _))) | (go_at_call 36; exact ext_same (S1 _)))))
  refine wpQuiet_nil ?_
  intro w' hw'
  obtain ⟨p, rfl⟩ := hw'
  go_wp2_with fail
  go_ret
  exact ⟨ret_int (by rw [← key, p256]; simp), HbW.out.trans ((ext_below W p).mono HbW.out.size)⟩

set_option maxHeartbeats 400000 in
theorem cput_val {s k : Nat} (hp : Place s k) (a n v d : Int) (w : World) (ha : 0 ≤ a) (ha' : a < 4294967296) (hv : 0 ≤ v) (hv' : v < 4294967296) (hd : 0 ≤ d) (hs : a % 4 = s) (hk : n = k) (ht : Tab w) :
    Calls Tryd.prog 27 #[.agg #[.int .u32 a, .int .i64 n, .int .u32 v, .int .u32 d]] w fun e w' => e = .returned (.int .u32 (pN v s k d)) ∧ Below w.heap.size w w' := by
  have key := put_bits hp hv hv' hd
  have W1 := fun w ht => wide_val hp a n _ w ha ha' hs hk ht rfl
  have S1 := fun w => shift_val a s w ha ha' hs
  have hs4 : s < 4 := by omega
  obtain ⟨x, hx⟩ : ∃ x, wN s k = x := ⟨_, rfl⟩
  rw [hx] at key W1
  clear hx hs hk hp
  have H := Lib.hid ht
  clear ht
  go_enter Tryd.func27, Tryd.ntmps27
  go_wp2_with fail
  refine wp_region_ext (by kernel_rfl) (by kernel_rfl) ?_
  intro W hW
  have B : Below w.heap.size w W := by rw [hW.out]; exact (Below.refl _ _).alloc (Nat.le_refl _) _
  have cs := cl_new w a n v d 45
  rw [← hW.out] at cs
  have c0 := ext_cell cs.c0
  have c1 := ext_cell cs.c1
  have c2 := ext_cell cs.c2
  have c3 := ext_cell cs.c3
  have T1 : Hid (∀ p, Tab (ext W p)) := fun p => H.out.below (B.trans ((ext_below W p).mono B.size))
  have HbW := Lib.hid B
  clear cs B
  repeat (go_big_quiet_step ((first | (go_at_call 35; exact ext_of (W1 _ (T1.out _))) | (go_at_call 36; exact ext_same (S1 _)))))
  refine wpQuiet_nil ?_
  intro w' hw'
  obtain ⟨p, rfl⟩ := hw'
  go_wp2_with fail
  go_ret
  exact ⟨ret_int (by rw [← key, p256]; simp), HbW.out.trans ((ext_below W p).mono HbW.out.size)⟩

theorem told_mask (a n x : Int) (w : World) (ha : 0 ≤ a) (ha' : a < 4294967296) (h : alB a n = true) (ht : Tab w)
    (L : ∀ w, Tab w → Calls Tryd.prog 28 #[.agg #[.int .u32 a, .int .i64 n]] w fun e w' => e = .returned (.int .u32 x) ∧ Below w.heap.size w w') :
    Calls Tryd.prog 26 #[.agg #[.int .u32 a, .int .i64 n], .func (.func 28) #[.agg #[.int .u32 a, .int .i64 n]] #[]] w fun e w' => e = .returned (.tuple #[.int .u32 x, .bool true]) ∧ Below w.heap.size w w' := by
  have H := Lib.hid ht
  have Al := fun w => aligned_any a n true w ha ha' h
  clear ht h
  go_enter Tryd.func26, Tryd.ntmps26
  go_wp2_with fail
  refine (Al _).mono ?_
  rintro e w1 ⟨rfl, hb⟩
  have Hb := Lib.hid (((Below.refl w.heap.size w).alloc (Nat.le_refl _) _).trans (hb.mono (by simp)))
  clear hb
  have T1 := Lib.hid (H.out.below Hb.out)
  go_wp2_with fail
  refine (L _ T1.out).mono ?_
  rintro e w2 ⟨rfl, hb⟩
  have Hb2 := Lib.hid (Hb.out.trans (hb.mono Hb.out.size))
  clear hb
  go_wp2_with fail
  go_ret2
  exact ⟨rfl, Hb2.out⟩
theorem told_mask_no (a n : Int) (w : World) (ha : 0 ≤ a) (ha' : a < 4294967296) (h : alB a n = false) :
    Calls Tryd.prog 26 #[.agg #[.int .u32 a, .int .i64 n], .func (.func 28) #[.agg #[.int .u32 a, .int .i64 n]] #[]] w fun e w' => e = .returned (.tuple #[.int .u32 0, .bool false]) ∧ Below w.heap.size w w' := by
  have Al := fun w => aligned_any a n false w ha ha' h
  clear h
  go_enter Tryd.func26, Tryd.ntmps26
  go_wp2_with fail
  refine (Al _).mono ?_
  rintro e w1 ⟨rfl, hb⟩
  have Hb := Lib.hid (((Below.refl w.heap.size w).alloc (Nat.le_refl _) _).trans (hb.mono (by simp)))
  clear hb
  go_wp2_with fail
  go_ret2
  exact ⟨rfl, Hb.out⟩

theorem told_taken (a n x : Int) (v d : Int) (w : World) (ha : 0 ≤ a) (ha' : a < 4294967296) (h : alB a n = true) (ht : Tab w)
    (L : ∀ w, Tab w → Calls Tryd.prog 30 #[.agg #[.int .u32 a, .int .i64 n, .int .u32 v, .int .u32 d]] w fun e w' => e = .returned (.int .u32 x) ∧ Below w.heap.size w w') :
    Calls Tryd.prog 26 #[.agg #[.int .u32 a, .int .i64 n], .func (.func 30) #[.agg #[.int .u32 a, .int .i64 n, .int .u32 v, .int .u32 d]] #[]] w fun e w' => e = .returned (.tuple #[.int .u32 x, .bool true]) ∧ Below w.heap.size w w' := by
  have H := Lib.hid ht
  have Al := fun w => aligned_any a n true w ha ha' h
  clear ht h
  go_enter Tryd.func26, Tryd.ntmps26
  go_wp2_with fail
  refine (Al _).mono ?_
  rintro e w1 ⟨rfl, hb⟩
  have Hb := Lib.hid (((Below.refl w.heap.size w).alloc (Nat.le_refl _) _).trans (hb.mono (by simp)))
  clear hb
  have T1 := Lib.hid (H.out.below Hb.out)
  go_wp2_with fail
  refine (L _ T1.out).mono ?_
  rintro e w2 ⟨rfl, hb⟩
  have Hb2 := Lib.hid (Hb.out.trans (hb.mono Hb.out.size))
  clear hb
  go_wp2_with fail
  go_ret2
  exact ⟨rfl, Hb2.out⟩
theorem told_taken_no (a n : Int) (v d : Int) (w : World) (ha : 0 ≤ a) (ha' : a < 4294967296) (h : alB a n = false) :
    Calls Tryd.prog 26 #[.agg #[.int .u32 a, .int .i64 n], .func (.func 30) #[.agg #[.int .u32 a, .int .i64 n, .int .u32 v, .int .u32 d]] #[]] w fun e w' => e = .returned (.tuple #[.int .u32 0, .bool false]) ∧ Below w.heap.size w w' := by
  have Al := fun w => aligned_any a n false w ha ha' h
  clear h
  go_enter Tryd.func26, Tryd.ntmps26
  go_wp2_with fail
  refine (Al _).mono ?_
  rintro e w1 ⟨rfl, hb⟩
  have Hb := Lib.hid (((Below.refl w.heap.size w).alloc (Nat.le_refl _) _).trans (hb.mono (by simp)))
  clear hb
  go_wp2_with fail
  go_ret2
  exact ⟨rfl, Hb.out⟩

theorem told_put (a n x : Int) (v d : Int) (w : World) (ha : 0 ≤ a) (ha' : a < 4294967296) (h : alB a n = true) (ht : Tab w)
    (L : ∀ w, Tab w → Calls Tryd.prog 27 #[.agg #[.int .u32 a, .int .i64 n, .int .u32 v, .int .u32 d]] w fun e w' => e = .returned (.int .u32 x) ∧ Below w.heap.size w w') :
    Calls Tryd.prog 26 #[.agg #[.int .u32 a, .int .i64 n], .func (.func 27) #[.agg #[.int .u32 a, .int .i64 n, .int .u32 v, .int .u32 d]] #[]] w fun e w' => e = .returned (.tuple #[.int .u32 x, .bool true]) ∧ Below w.heap.size w w' := by
  have H := Lib.hid ht
  have Al := fun w => aligned_any a n true w ha ha' h
  clear ht h
  go_enter Tryd.func26, Tryd.ntmps26
  go_wp2_with fail
  refine (Al _).mono ?_
  rintro e w1 ⟨rfl, hb⟩
  have Hb := Lib.hid (((Below.refl w.heap.size w).alloc (Nat.le_refl _) _).trans (hb.mono (by simp)))
  clear hb
  have T1 := Lib.hid (H.out.below Hb.out)
  go_wp2_with fail
  refine (L _ T1.out).mono ?_
  rintro e w2 ⟨rfl, hb⟩
  have Hb2 := Lib.hid (Hb.out.trans (hb.mono Hb.out.size))
  clear hb
  go_wp2_with fail
  go_ret2
  exact ⟨rfl, Hb2.out⟩
theorem told_put_no (a n : Int) (v d : Int) (w : World) (ha : 0 ≤ a) (ha' : a < 4294967296) (h : alB a n = false) :
    Calls Tryd.prog 26 #[.agg #[.int .u32 a, .int .i64 n], .func (.func 27) #[.agg #[.int .u32 a, .int .i64 n, .int .u32 v, .int .u32 d]] #[]] w fun e w' => e = .returned (.tuple #[.int .u32 0, .bool false]) ∧ Below w.heap.size w w' := by
  have Al := fun w => aligned_any a n false w ha ha' h
  clear h
  go_enter Tryd.func26, Tryd.ntmps26
  go_wp2_with fail
  refine (Al _).mono ?_
  rintro e w1 ⟨rfl, hb⟩
  have Hb := Lib.hid (((Below.refl w.heap.size w).alloc (Nat.le_refl _) _).trans (hb.mono (by simp)))
  clear hb
  go_wp2_with fail
  go_ret2
  exact ⟨rfl, Hb.out⟩

theorem Aligned_any (a n : Int) (b : Bool) (w : World) (ha : 0 ≤ a) (ha' : a < 4294967296) (hb : alB a n = b) :
    Calls Tryd.prog 16 #[.int .u32 a, .int .i64 n] w fun e w' => e = .returned (.bool b) ∧ Below w.heap.size w w' := by
  have Al := fun w => aligned_any a n b w ha ha' hb
  clear hb
  go_enter Tryd.func16, Tryd.ntmps16
  go_wp2_with fail
  refine (at_any a n _).mono ?_
  rintro e w1 ⟨rfl, hb⟩
  have Hb := Lib.hid hb
  clear hb
  go_wp2_with fail
  refine (Al _).mono ?_
  rintro e w2 ⟨rfl, hb⟩
  have Hb2 := Lib.hid (Hb.out.trans (hb.mono Hb.out.size))
  clear hb
  go_wp2_with fail
  go_ret
  exact ⟨rfl, Hb2.out⟩
end Go.Proofs.YtcjmofiebkdgjaaDoor.Lane
