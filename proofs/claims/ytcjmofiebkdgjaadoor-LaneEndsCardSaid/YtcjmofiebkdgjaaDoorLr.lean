/- Contracts of the document's lanes: Aligned, Mask, Wide. -/
import Derived.Test.YtcjmofiebkdgjaaDoorLb
import Derived.Test.YtcjmofiebkdgjaaDoorPf
namespace Go.Proofs.YtcjmofiebkdgjaaDoor.Lane
open Go.RowKit
set_option linter.unusedVariables false

theorem rsize_val (n : Int) (b : Bool) (w : World) (hb : Word.sizeB n = b) :
    Calls Tryd.prog 32 #[.int .i64 n] w fun e w' => e = .returned (.bool b) ∧ w = w' := by
  subst hb; exact Word.rsize_any n w
theorem rAligned_any (a n : Int) (b : Bool) (w : World) (ha : 0 ≤ a) (ha' : a < 4294967296) (hb : alB a n = b) :
    Calls Tryd.prog 22 #[.int .u32 a, .int .i64 n] w fun e w' => e = .returned (.bool b) ∧ w = w' := by
  by_cases hs : Word.sizeB n = true
  · have e : b = decide (a % n = 0) := by rw [← hb]; unfold alB; rw [hs]; simp
    have hn := Word.sizeB_yes hs
    clear hb
    rcases hn with rfl | rfl | rfl
    · go_enter Tryd.func22, Tryd.ntmps22
      go_wp2_with (go_at_call 32; refine (rsize_val _ true _ hs).mono ?_; rintro e w' ⟨rfl, rfl⟩)
      go_ret
      exact ⟨ret_bool (by rw [e, Bool.eq_iff_iff]; simp), rfl⟩
    · go_enter Tryd.func22, Tryd.ntmps22
      go_wp2_with (go_at_call 32; refine (rsize_val _ true _ hs).mono ?_; rintro e w' ⟨rfl, rfl⟩)
      go_ret
      exact ⟨ret_bool (by rw [e, Bool.eq_iff_iff]; simp), rfl⟩
    · go_enter Tryd.func22, Tryd.ntmps22
      go_wp2_with (go_at_call 32; refine (rsize_val _ true _ hs).mono ?_; rintro e w' ⟨rfl, rfl⟩)
      go_ret
      exact ⟨ret_bool (by rw [e, Bool.eq_iff_iff]; simp), rfl⟩
  · have hs' : Word.sizeB n = false := by simpa using hs
    have e : b = false := by rw [← hb]; unfold alB; rw [hs']; rfl
    subst e
    clear hb
    go_enter Tryd.func22, Tryd.ntmps22
    go_wp2_with (go_at_call 32; refine (rsize_val n false _ hs').mono ?_; rintro e w' ⟨rfl, rfl⟩)
    go_ret
    exact ⟨rfl, rfl⟩

theorem rMask_no (a n : Int) (w : World) (ha : 0 ≤ a) (ha' : a < 4294967296) (h : alB a n = false) :
    Calls Tryd.prog 21 #[.int .u32 a, .int .i64 n] w fun e w' => e = .returned (.tuple #[.int .u32 0, .bool false]) ∧ w = w' := by
  have Al := fun w => rAligned_any a n false w ha ha' h
  clear h
  go_enter Tryd.func21, Tryd.ntmps21
  go_wp2_with fail
  refine (Al _).mono ?_
  rintro e w1 ⟨rfl, rfl⟩
  go_wp2_with fail
  go_ret2
  exact ⟨rfl, rfl⟩
theorem m02 {a : Int} (hs : a % 4 = 0) : (1 + 2 ^ ((a + 1) % 4).toNat % 4294967296) % 4294967296 = mN 0 2 := by
  have e1 : (a + 1) % 4 = 1 := by omega
  simp [e1, mN]
theorem m22 {a : Int} (hs : a % 4 = 2) : (4 + 2 ^ ((a + 1) % 4).toNat % 4294967296) % 4294967296 = mN 2 2 := by
  have e1 : (a + 1) % 4 = 3 := by omega
  simp [e1, mN]
theorem m04 {a : Int} (hs : a % 4 = 0) : ((1 + 2 ^ ((a + 1) % 4).toNat + 2 ^ ((a + 2) % 4).toNat) % 4294967296 + 2 ^ ((a + 3) % 4).toNat % 4294967296) % 4294967296 = mN 0 4 := by
  have e1 : (a + 1) % 4 = 1 := by omega
  have e2 : (a + 2) % 4 = 2 := by omega
  have e3 : (a + 3) % 4 = 3 := by omega
  simp [e1, e2, e3, mN]
theorem rMask_yes {s k : Nat} (hp : Place s k) (a n : Int) (w : World) (ha : 0 ≤ a) (ha' : a < 4294967296) (hs : a % 4 = s) (hk : n = k) :
    Calls Tryd.prog 21 #[.int .u32 a, .int .i64 n] w fun e w' => e = .returned (.tuple #[.int .u32 (mN s k), .bool true]) ∧ w = w' := by
  have Al := fun w => rAligned_any a n true w ha ha' (al_place hp hs hk)
  revert n
  revert hs
  refine Place.all (P := fun s k => a % 4 = s → ∀ n : Int, n = k → (∀ w, Calls Tryd.prog 22 #[.int .u32 a, .int .i64 n] w fun e w' => e = .returned (.bool true) ∧ w = w') →
    Calls Tryd.prog 21 #[.int .u32 a, .int .i64 n] w fun e w' => e = .returned (.tuple #[.int .u32 (mN s k), .bool true]) ∧ w = w') ?_ ?_ ?_ ?_ ?_ ?_ ?_ hp
  all_goals
    intro hs n hk Al
    simp only [Int.cast_ofNat_Int] at hs hk
    subst hk
    go_enter Tryd.func21, Tryd.ntmps21
    go_wp2_with fail
    refine (Al _).mono ?_
    rintro e w1 ⟨rfl, rfl⟩
    clear Al
    go_wp2_with fail
    go_rounds 5
    go_ret2
    first | exact ⟨Word.ret_int_bool (by decide) rfl, rfl⟩ | exact ⟨Word.ret_int_bool (m02 hs) rfl, rfl⟩ | exact ⟨Word.ret_int_bool (m22 hs) rfl, rfl⟩ | exact ⟨Word.ret_int_bool (m04 hs) rfl, rfl⟩
theorem rMask_any (a n x : Int) (b : Bool) (w : World) (ha : 0 ≤ a) (ha' : a < 4294967296) (hx : maskV a n = x) (hb : alB a n = b) :
    Calls Tryd.prog 21 #[.int .u32 a, .int .i64 n] w fun e w' => e = .returned (.tuple #[.int .u32 x, .bool b]) ∧ w = w' := by
  subst hb
  by_cases h : alB a n = true
  · obtain ⟨s, k, hp, hs, hk, _⟩ := place_of h
    rw [h, ← hx, mask_at hp hs hk]
    exact rMask_yes hp a n w ha ha' hs hk
  · have h' : alB a n = false := by simpa using h
    rw [h', ← hx, mask_no h']
    exact rMask_no a n w ha ha' h'

theorem rw_yes {m : Int} {k : Nat} (h : (m / 2 ^ k % 2 == 1) = true) (hk : k < 4) (b0 : 0 ≤ wS m k) (b1 : wS m k < (256 ^ k : Nat)) :
    (wS m k + 255 * 2 ^ (8 * k) % 4294967296) % 4294967296 = wS m (k + 1) ∧ 0 ≤ wS m (k + 1) ∧ wS m (k + 1) < (256 ^ (k + 1) : Nat) := by
  rw [beq_iff_eq] at h
  have e0 : ((2 ^ k : Nat) : Int) = 2 ^ k := by simp
  have e : wS m (k + 1) = wS m k + 255 * (256 ^ k : Nat) := by rw [wS, e0, h]; simp
  have e2 : (2 : Int) ^ (8 * k) = ((256 ^ k : Nat) : Int) := by rw [p256]; simp
  rw [e, e2]
  have h3 : k = 0 ∨ k = 1 ∨ k = 2 ∨ k = 3 := by omega
  rcases h3 with rfl | rfl | rfl | rfl <;> exact ⟨by omega, by omega, by omega⟩
theorem rw_no {m : Int} {k : Nat} (h : (m / 2 ^ k % 2 == 1) = false) (b0 : 0 ≤ wS m k) (b1 : wS m k < (256 ^ k : Nat)) :
    wS m k = wS m (k + 1) ∧ 0 ≤ wS m (k + 1) ∧ wS m (k + 1) < (256 ^ (k + 1) : Nat) := by
  rw [beq_eq_false_iff_ne] at h
  have e0 : ((2 ^ k : Nat) : Int) = 2 ^ k := by simp
  have h2 : m / 2 ^ k % 2 = 0 := by omega
  have e : wS m (k + 1) = wS m k := by rw [wS, e0, h2]; simp
  rw [e]
  refine ⟨rfl, b0, ?_⟩
  rw [Nat.pow_succ]; omega
theorem rWide_any (m : Int) (w : World) (hm : 0 ≤ m) (hm' : m < 4294967296) :
    Calls Tryd.prog 11 #[.int .u32 m] w fun e w' => e = .returned (.int .u32 (wideV m)) ∧ w = w' := by
  go_enter Tryd.func11, Tryd.ntmps11
  go_wp2
  go_loop [3, 4] (fun x i => ∃ k : Nat, k ≤ 4 ∧ i = .int .i64 k ∧ x = .int .u32 (wS m k) ∧ 0 ≤ wS m k ∧ wS m k < (256 ^ k : Nat)) (fun _ i => 4 - (intOf i).toNat)
  case atStart => exact ⟨0, by omega, rfl, rfl, by simp [wS], by simp [wS]⟩
  case round =>
    obtain ⟨k, hk, rfl, rfl, hb0, hb1⟩ := hrel
    by_cases hlt : k < 4
    · go_wp2
      · rename_i hc
        rw [Int.tmod_eq_emod_of_nonneg (Int.ediv_nonneg hm (Int.le_of_lt (Int.pow_pos (by decide))))] at hc
        obtain ⟨e1, e2, e3⟩ := rw_yes hc hlt hb0 hb1
        exact ⟨⟨k + 1, by omega, by go_num, by rw [e1], e2, e3⟩, by simp [intOf]; omega⟩
      · rename_i hc
        rw [Int.tmod_eq_emod_of_nonneg (Int.ediv_nonneg hm (Int.le_of_lt (Int.pow_pos (by decide))))] at hc
        obtain ⟨e1, e2, e3⟩ := rw_no hc hb0 hb1
        exact ⟨⟨k + 1, by omega, by go_num, by rw [e1], e2, e3⟩, by simp [intOf]; omega⟩
    · obtain rfl : k = 4 := by omega
      go_wp2
      go_ret
      exact ⟨rfl, rfl⟩
end Go.Proofs.YtcjmofiebkdgjaaDoor.Lane
