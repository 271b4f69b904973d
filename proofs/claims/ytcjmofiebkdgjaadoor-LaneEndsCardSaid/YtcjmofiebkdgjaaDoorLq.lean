/- Contracts of the document's lanes: Take, Put. -/
import Derived.Test.YtcjmofiebkdgjaaDoorLr
import Derived.Test.YtcjmofiebkdgjaaDoorKcBytes
namespace Go.Proofs.YtcjmofiebkdgjaaDoor.Lane
open Go.RowKit Go.Maps
set_option linter.unusedVariables false

theorem tm4 {a : Int} (h : 0 ≤ a) : a.tmod 4 = a % 4 := Int.tmod_eq_emod_of_nonneg h
theorem rTake_no (v a n : Int) (w : World) (ha : 0 ≤ a) (ha' : a < 4294967296) (h : alB a n = false) :
    Calls Tryd.prog 23 #[.int .u32 v, .int .u32 a, .int .i64 n] w fun e w' => e = .returned (.tuple #[.int .u32 0, .bool false]) ∧ Below w.heap.size w w' := by
  have Al := fun w => rAligned_any a n false w ha ha' h
  clear h
  go_enter Tryd.func23, Tryd.ntmps23
  go_wp2_with fail
  refine (Al _).mono ?_
  rintro e w1 ⟨rfl, rfl⟩
  go_wp2_with fail
  go_ret2
  exact ⟨rfl, Below.refl _ _⟩
theorem rPut_no (v a n d : Int) (w : World) (ha : 0 ≤ a) (ha' : a < 4294967296) (h : alB a n = false) :
    Calls Tryd.prog 24 #[.int .u32 v, .int .u32 a, .int .i64 n, .int .u32 d] w fun e w' => e = .returned (.tuple #[.int .u32 0, .bool false]) ∧ Below w.heap.size w w' := by
  have Al := fun w => rAligned_any a n false w ha ha' h
  clear h
  go_enter Tryd.func24, Tryd.ntmps24
  go_wp2_with fail
  refine (Al _).mono ?_
  rintro e w1 ⟨rfl, rfl⟩
  go_wp2_with fail
  go_ret2
  exact ⟨rfl, Below.refl _ _⟩

theorem rTake_0_1 (x : Nat) (a : Int) (w : World) (hx : x < 4294967296) (ha : 0 ≤ a) (ha' : a < 4294967296) (hs : a % 4 = 0) :
    Calls Tryd.prog 23 #[.int .u32 x, .int .u32 a, .int .i64 1] w fun e w' => e = .returned (.tuple #[.int .u32 (tN x 0 1), .bool true]) ∧ Below w.heap.size w w' := by
  have Al := fun w => rAligned_any a 1 true w ha ha' (al_place (s := 0) (k := 1) (by unfold Place; omega) hs rfl)
  have hm := tm4 ha
  rw [hs] at hm
  obtain ⟨t, ht⟩ : ∃ t, tN x 0 1 = t := ⟨_, rfl⟩
  have Ht := Lib.hid ht
  rw [ht]
  clear ht
  go_enter Tryd.func23, Tryd.ntmps23
  go_wp2_with fail
  refine (Al _).mono ?_
  rintro e w1 ⟨rfl, rfl⟩
  clear Al
  go_wp2_with fail
  refine (Word.rbytes_any x 4 hx rfl (by omega) _).mono ?_
  rintro e w1 ⟨b, c, rfl, hown, hb⟩
  obtain ⟨g, rfl⟩ := KitBytes.r_some hown (.inl (by omega))
  have h4 := KitBytes.r_le hown
  have hc := KitBytes.r_max hown
  unfold maxLen at hc
  have Hc := Lib.hid (Word.bK_at hown)
  have Hb := Lib.hid hb
  clear hown hb
  go_wp2_with fail
  refine (Word.rof_1 g 0 _ _ _ (Hc.out 0 (by omega)) (by omega) (by omega)).mono ?_
  rintro e w2 ⟨rfl, rfl⟩
  go_wp2_with fail
  go_ret2
  exact ⟨Word.ret_int_bool (by rw [← Ht.out]; simp [tN]; try omega) rfl, Hb.out⟩

theorem rTake_1_1 (x : Nat) (a : Int) (w : World) (hx : x < 4294967296) (ha : 0 ≤ a) (ha' : a < 4294967296) (hs : a % 4 = 1) :
    Calls Tryd.prog 23 #[.int .u32 x, .int .u32 a, .int .i64 1] w fun e w' => e = .returned (.tuple #[.int .u32 (tN x 1 1), .bool true]) ∧ Below w.heap.size w w' := by
  have Al := fun w => rAligned_any a 1 true w ha ha' (al_place (s := 1) (k := 1) (by unfold Place; omega) hs rfl)
  have hm := tm4 ha
  rw [hs] at hm
  obtain ⟨t, ht⟩ : ∃ t, tN x 1 1 = t := ⟨_, rfl⟩
  have Ht := Lib.hid ht
  rw [ht]
  clear ht
  go_enter Tryd.func23, Tryd.ntmps23
  go_wp2_with fail
  refine (Al _).mono ?_
  rintro e w1 ⟨rfl, rfl⟩
  clear Al
  go_wp2_with fail
  refine (Word.rbytes_any x 4 hx rfl (by omega) _).mono ?_
  rintro e w1 ⟨b, c, rfl, hown, hb⟩
  obtain ⟨g, rfl⟩ := KitBytes.r_some hown (.inl (by omega))
  have h4 := KitBytes.r_le hown
  have hc := KitBytes.r_max hown
  unfold maxLen at hc
  have Hc := Lib.hid (Word.bK_at hown)
  have Hb := Lib.hid hb
  clear hown hb
  go_wp2_with fail
  refine (Word.rof_1 g 1 _ _ _ (Hc.out 1 (by omega)) (by omega) (by omega)).mono ?_
  rintro e w2 ⟨rfl, rfl⟩
  go_wp2_with fail
  go_ret2
  exact ⟨Word.ret_int_bool (by rw [← Ht.out]; simp [tN]; try omega) rfl, Hb.out⟩

theorem rTake_2_1 (x : Nat) (a : Int) (w : World) (hx : x < 4294967296) (ha : 0 ≤ a) (ha' : a < 4294967296) (hs : a % 4 = 2) :
    Calls Tryd.prog 23 #[.int .u32 x, .int .u32 a, .int .i64 1] w fun e w' => e = .returned (.tuple #[.int .u32 (tN x 2 1), .bool true]) ∧ Below w.heap.size w w' := by
  have Al := fun w => rAligned_any a 1 true w ha ha' (al_place (s := 2) (k := 1) (by unfold Place; omega) hs rfl)
  have hm := tm4 ha
  rw [hs] at hm
  obtain ⟨t, ht⟩ : ∃ t, tN x 2 1 = t := ⟨_, rfl⟩
  have Ht := Lib.hid ht
  rw [ht]
  clear ht
  go_enter Tryd.func23, Tryd.ntmps23
  go_wp2_with fail
  refine (Al _).mono ?_
  rintro e w1 ⟨rfl, rfl⟩
  clear Al
  go_wp2_with fail
  refine (Word.rbytes_any x 4 hx rfl (by omega) _).mono ?_
  rintro e w1 ⟨b, c, rfl, hown, hb⟩
  obtain ⟨g, rfl⟩ := KitBytes.r_some hown (.inl (by omega))
  have h4 := KitBytes.r_le hown
  have hc := KitBytes.r_max hown
  unfold maxLen at hc
  have Hc := Lib.hid (Word.bK_at hown)
  have Hb := Lib.hid hb
  clear hown hb
  go_wp2_with fail
  refine (Word.rof_1 g 2 _ _ _ (Hc.out 2 (by omega)) (by omega) (by omega)).mono ?_
  rintro e w2 ⟨rfl, rfl⟩
  go_wp2_with fail
  go_ret2
  exact ⟨Word.ret_int_bool (by rw [← Ht.out]; simp [tN]; try omega) rfl, Hb.out⟩

theorem rTake_3_1 (x : Nat) (a : Int) (w : World) (hx : x < 4294967296) (ha : 0 ≤ a) (ha' : a < 4294967296) (hs : a % 4 = 3) :
    Calls Tryd.prog 23 #[.int .u32 x, .int .u32 a, .int .i64 1] w fun e w' => e = .returned (.tuple #[.int .u32 (tN x 3 1), .bool true]) ∧ Below w.heap.size w w' := by
  have Al := fun w => rAligned_any a 1 true w ha ha' (al_place (s := 3) (k := 1) (by unfold Place; omega) hs rfl)
  have hm := tm4 ha
  rw [hs] at hm
  obtain ⟨t, ht⟩ : ∃ t, tN x 3 1 = t := ⟨_, rfl⟩
  have Ht := Lib.hid ht
  rw [ht]
  clear ht
  go_enter Tryd.func23, Tryd.ntmps23
  go_wp2_with fail
  refine (Al _).mono ?_
  rintro e w1 ⟨rfl, rfl⟩
  clear Al
  go_wp2_with fail
  refine (Word.rbytes_any x 4 hx rfl (by omega) _).mono ?_
  rintro e w1 ⟨b, c, rfl, hown, hb⟩
  obtain ⟨g, rfl⟩ := KitBytes.r_some hown (.inl (by omega))
  have h4 := KitBytes.r_le hown
  have hc := KitBytes.r_max hown
  unfold maxLen at hc
  have Hc := Lib.hid (Word.bK_at hown)
  have Hb := Lib.hid hb
  clear hown hb
  go_wp2_with fail
  refine (Word.rof_1 g 3 _ _ _ (Hc.out 3 (by omega)) (by omega) (by omega)).mono ?_
  rintro e w2 ⟨rfl, rfl⟩
  go_wp2_with fail
  go_ret2
  exact ⟨Word.ret_int_bool (by rw [← Ht.out]; simp [tN]; try omega) rfl, Hb.out⟩

theorem rTake_0_2 (x : Nat) (a : Int) (w : World) (hx : x < 4294967296) (ha : 0 ≤ a) (ha' : a < 4294967296) (hs : a % 4 = 0) :
    Calls Tryd.prog 23 #[.int .u32 x, .int .u32 a, .int .i64 2] w fun e w' => e = .returned (.tuple #[.int .u32 (tN x 0 2), .bool true]) ∧ Below w.heap.size w w' := by
  have Al := fun w => rAligned_any a 2 true w ha ha' (al_place (s := 0) (k := 2) (by unfold Place; omega) hs rfl)
  have hm := tm4 ha
  rw [hs] at hm
  obtain ⟨t, ht⟩ : ∃ t, tN x 0 2 = t := ⟨_, rfl⟩
  have Ht := Lib.hid ht
  rw [ht]
  clear ht
  go_enter Tryd.func23, Tryd.ntmps23
  go_wp2_with fail
  refine (Al _).mono ?_
  rintro e w1 ⟨rfl, rfl⟩
  clear Al
  go_wp2_with fail
  refine (Word.rbytes_any x 4 hx rfl (by omega) _).mono ?_
  rintro e w1 ⟨b, c, rfl, hown, hb⟩
  obtain ⟨g, rfl⟩ := KitBytes.r_some hown (.inl (by omega))
  have h4 := KitBytes.r_le hown
  have hc := KitBytes.r_max hown
  unfold maxLen at hc
  have Hc := Lib.hid (Word.bK_at hown)
  have Hb := Lib.hid hb
  clear hown hb
  go_wp2_with fail
  refine (Word.rof_2 g 0 _ _ _ _ (Hc.out 0 (by omega)) (by omega) (by omega) (Hc.out 1 (by omega)) (by omega) (by omega)).mono ?_
  rintro e w2 ⟨rfl, rfl⟩
  go_wp2_with fail
  go_ret2
  exact ⟨Word.ret_int_bool (by rw [← Ht.out]; simp [tN]; try omega) rfl, Hb.out⟩

theorem rTake_2_2 (x : Nat) (a : Int) (w : World) (hx : x < 4294967296) (ha : 0 ≤ a) (ha' : a < 4294967296) (hs : a % 4 = 2) :
    Calls Tryd.prog 23 #[.int .u32 x, .int .u32 a, .int .i64 2] w fun e w' => e = .returned (.tuple #[.int .u32 (tN x 2 2), .bool true]) ∧ Below w.heap.size w w' := by
  have Al := fun w => rAligned_any a 2 true w ha ha' (al_place (s := 2) (k := 2) (by unfold Place; omega) hs rfl)
  have hm := tm4 ha
  rw [hs] at hm
  obtain ⟨t, ht⟩ : ∃ t, tN x 2 2 = t := ⟨_, rfl⟩
  have Ht := Lib.hid ht
  rw [ht]
  clear ht
  go_enter Tryd.func23, Tryd.ntmps23
  go_wp2_with fail
  refine (Al _).mono ?_
  rintro e w1 ⟨rfl, rfl⟩
  clear Al
  go_wp2_with fail
  refine (Word.rbytes_any x 4 hx rfl (by omega) _).mono ?_
  rintro e w1 ⟨b, c, rfl, hown, hb⟩
  obtain ⟨g, rfl⟩ := KitBytes.r_some hown (.inl (by omega))
  have h4 := KitBytes.r_le hown
  have hc := KitBytes.r_max hown
  unfold maxLen at hc
  have Hc := Lib.hid (Word.bK_at hown)
  have Hb := Lib.hid hb
  clear hown hb
  go_wp2_with fail
  refine (Word.rof_2 g 2 _ _ _ _ (Hc.out 2 (by omega)) (by omega) (by omega) (Hc.out 3 (by omega)) (by omega) (by omega)).mono ?_
  rintro e w2 ⟨rfl, rfl⟩
  go_wp2_with fail
  go_ret2
  exact ⟨Word.ret_int_bool (by rw [← Ht.out]; simp [tN]; try omega) rfl, Hb.out⟩

theorem rTake_0_4 (x : Nat) (a : Int) (w : World) (hx : x < 4294967296) (ha : 0 ≤ a) (ha' : a < 4294967296) (hs : a % 4 = 0) :
    Calls Tryd.prog 23 #[.int .u32 x, .int .u32 a, .int .i64 4] w fun e w' => e = .returned (.tuple #[.int .u32 (tN x 0 4), .bool true]) ∧ Below w.heap.size w w' := by
  have Al := fun w => rAligned_any a 4 true w ha ha' (al_place (s := 0) (k := 4) (by unfold Place; omega) hs rfl)
  have hm := tm4 ha
  rw [hs] at hm
  obtain ⟨t, ht⟩ : ∃ t, tN x 0 4 = t := ⟨_, rfl⟩
  have Ht := Lib.hid ht
  rw [ht]
  clear ht
  go_enter Tryd.func23, Tryd.ntmps23
  go_wp2_with fail
  refine (Al _).mono ?_
  rintro e w1 ⟨rfl, rfl⟩
  clear Al
  go_wp2_with fail
  refine (Word.rbytes_any x 4 hx rfl (by omega) _).mono ?_
  rintro e w1 ⟨b, c, rfl, hown, hb⟩
  obtain ⟨g, rfl⟩ := KitBytes.r_some hown (.inl (by omega))
  have h4 := KitBytes.r_le hown
  have hc := KitBytes.r_max hown
  unfold maxLen at hc
  have Hc := Lib.hid (Word.bK_at hown)
  have Hb := Lib.hid hb
  clear hown hb
  go_wp2_with fail
  refine (Word.rof_4 g 0 _ _ _ _ _ _ (Hc.out 0 (by omega)) (by omega) (by omega) (Hc.out 1 (by omega)) (by omega) (by omega) (Hc.out 2 (by omega)) (by omega) (by omega) (Hc.out 3 (by omega)) (by omega) (by omega)).mono ?_
  rintro e w2 ⟨rfl, rfl⟩
  go_wp2_with fail
  go_ret2
  exact ⟨Word.ret_int_bool (by rw [← Ht.out]; simp [tN]; try omega) rfl, Hb.out⟩

theorem rTake_any (v a n x : Int) (b : Bool) (w : World) (hv : 0 ≤ v) (hv' : v < 4294967296) (ha : 0 ≤ a) (ha' : a < 4294967296) (hx : takeV v a n = x) (hb : alB a n = b) :
    Calls Tryd.prog 23 #[.int .u32 v, .int .u32 a, .int .i64 n] w fun e w' => e = .returned (.tuple #[.int .u32 x, .bool b]) ∧ Below w.heap.size w w' := by
  subst hb
  by_cases h : alB a n = true
  · obtain ⟨s, k, hp, hs, hk, _⟩ := place_of h
    rw [h, ← hx, take_at hp hs hk]
    obtain ⟨y, rfl⟩ := Int.eq_ofNat_of_zero_le hv
    have hy : y < 4294967296 := by omega
    subst hk
    revert hs
    exact Place.all (P := fun s k => a % 4 = s → Calls Tryd.prog 23 #[.int .u32 y, .int .u32 a, .int .i64 k] w fun e w' => e = .returned (.tuple #[.int .u32 (tN y s k), .bool true]) ∧ Below w.heap.size w w')
      (rTake_0_1 y a w hy ha ha') (rTake_1_1 y a w hy ha ha') (rTake_2_1 y a w hy ha ha') (rTake_3_1 y a w hy ha ha') (rTake_0_2 y a w hy ha ha') (rTake_2_2 y a w hy ha ha') (rTake_0_4 y a w hy ha ha') hp
  · have h' : alB a n = false := by simpa using h
    rw [h', ← hx, take_no h']
    exact rTake_no v a n w ha ha' h'

/-- The bytes of x, of which j from the lane s on are those of y. -/
def stL (x y s : Nat) : Nat → List Value
  | 0 => Word.bv (Word.bK x 4)
  | j + 1 => (stL x y s j).set (s + j) (.int .u8 ((y / 256 ^ j % 256 : Nat) : Int))
theorem stL_len (x y s : Nat) : ∀ j, (stL x y s j).length = 4
  | 0 => by simp [stL, Word.bK, Word.bv]
  | j + 1 => by rw [stL, List.length_set, stL_len x y s j]
theorem st_0_1 (x y : Nat) : stL x y 0 1 = [.int .u8 ((y / 256 ^ 0 % 256) : Nat), .int .u8 ((x / 256 ^ 1 % 256) : Nat), .int .u8 ((x / 256 ^ 2 % 256) : Nat), .int .u8 ((x / 256 ^ 3 % 256) : Nat)] := rfl
theorem pv_0_1 (x y : Nat) (hx : x < 4294967296) : (((y / 256 ^ 0 % 256) : Nat) : Int) + (((x / 256 ^ 1 % 256) : Nat) : Int) * 256 + (((x / 256 ^ 2 % 256) : Nat) : Int) * 65536 + (((x / 256 ^ 3 % 256) : Nat) : Int) * 16777216 = pN x 0 1 y := by
  simp only [pN, Nat.reduceAdd, Nat.reducePow]
  omega
theorem st_1_1 (x y : Nat) : stL x y 1 1 = [.int .u8 ((x / 256 ^ 0 % 256) : Nat), .int .u8 ((y / 256 ^ 0 % 256) : Nat), .int .u8 ((x / 256 ^ 2 % 256) : Nat), .int .u8 ((x / 256 ^ 3 % 256) : Nat)] := rfl
theorem pv_1_1 (x y : Nat) (hx : x < 4294967296) : (((x / 256 ^ 0 % 256) : Nat) : Int) + (((y / 256 ^ 0 % 256) : Nat) : Int) * 256 + (((x / 256 ^ 2 % 256) : Nat) : Int) * 65536 + (((x / 256 ^ 3 % 256) : Nat) : Int) * 16777216 = pN x 1 1 y := by
  simp only [pN, Nat.reduceAdd, Nat.reducePow]
  omega
theorem st_2_1 (x y : Nat) : stL x y 2 1 = [.int .u8 ((x / 256 ^ 0 % 256) : Nat), .int .u8 ((x / 256 ^ 1 % 256) : Nat), .int .u8 ((y / 256 ^ 0 % 256) : Nat), .int .u8 ((x / 256 ^ 3 % 256) : Nat)] := rfl
theorem pv_2_1 (x y : Nat) (hx : x < 4294967296) : (((x / 256 ^ 0 % 256) : Nat) : Int) + (((x / 256 ^ 1 % 256) : Nat) : Int) * 256 + (((y / 256 ^ 0 % 256) : Nat) : Int) * 65536 + (((x / 256 ^ 3 % 256) : Nat) : Int) * 16777216 = pN x 2 1 y := by
  simp only [pN, Nat.reduceAdd, Nat.reducePow]
  omega
theorem st_3_1 (x y : Nat) : stL x y 3 1 = [.int .u8 ((x / 256 ^ 0 % 256) : Nat), .int .u8 ((x / 256 ^ 1 % 256) : Nat), .int .u8 ((x / 256 ^ 2 % 256) : Nat), .int .u8 ((y / 256 ^ 0 % 256) : Nat)] := rfl
theorem pv_3_1 (x y : Nat) (hx : x < 4294967296) : (((x / 256 ^ 0 % 256) : Nat) : Int) + (((x / 256 ^ 1 % 256) : Nat) : Int) * 256 + (((x / 256 ^ 2 % 256) : Nat) : Int) * 65536 + (((y / 256 ^ 0 % 256) : Nat) : Int) * 16777216 = pN x 3 1 y := by
  simp only [pN, Nat.reduceAdd, Nat.reducePow]
  omega
theorem st_0_2 (x y : Nat) : stL x y 0 2 = [.int .u8 ((y / 256 ^ 0 % 256) : Nat), .int .u8 ((y / 256 ^ 1 % 256) : Nat), .int .u8 ((x / 256 ^ 2 % 256) : Nat), .int .u8 ((x / 256 ^ 3 % 256) : Nat)] := rfl
theorem pv_0_2 (x y : Nat) (hx : x < 4294967296) : (((y / 256 ^ 0 % 256) : Nat) : Int) + (((y / 256 ^ 1 % 256) : Nat) : Int) * 256 + (((x / 256 ^ 2 % 256) : Nat) : Int) * 65536 + (((x / 256 ^ 3 % 256) : Nat) : Int) * 16777216 = pN x 0 2 y := by
  simp only [pN, Nat.reduceAdd, Nat.reducePow]
  omega
theorem st_2_2 (x y : Nat) : stL x y 2 2 = [.int .u8 ((x / 256 ^ 0 % 256) : Nat), .int .u8 ((x / 256 ^ 1 % 256) : Nat), .int .u8 ((y / 256 ^ 0 % 256) : Nat), .int .u8 ((y / 256 ^ 1 % 256) : Nat)] := rfl
theorem pv_2_2 (x y : Nat) (hx : x < 4294967296) : (((x / 256 ^ 0 % 256) : Nat) : Int) + (((x / 256 ^ 1 % 256) : Nat) : Int) * 256 + (((y / 256 ^ 0 % 256) : Nat) : Int) * 65536 + (((y / 256 ^ 1 % 256) : Nat) : Int) * 16777216 = pN x 2 2 y := by
  simp only [pN, Nat.reduceAdd, Nat.reducePow]
  omega
theorem st_0_4 (x y : Nat) : stL x y 0 4 = [.int .u8 ((y / 256 ^ 0 % 256) : Nat), .int .u8 ((y / 256 ^ 1 % 256) : Nat), .int .u8 ((y / 256 ^ 2 % 256) : Nat), .int .u8 ((y / 256 ^ 3 % 256) : Nat)] := rfl
theorem pv_0_4 (x y : Nat) (hx : x < 4294967296) : (((y / 256 ^ 0 % 256) : Nat) : Int) + (((y / 256 ^ 1 % 256) : Nat) : Int) * 256 + (((y / 256 ^ 2 % 256) : Nat) : Int) * 65536 + (((y / 256 ^ 3 % 256) : Nat) : Int) * 16777216 = pN x 0 4 y := by
  simp only [pN, Nat.reduceAdd, Nat.reducePow]
  omega
theorem st_all {s k : Nat} (hp : Place s k) (x y : Nat) (hx : x < 4294967296) : ∃ c0 c1 c2 c3 : Nat, stL x y s k = [.int .u8 c0, .int .u8 c1, .int .u8 c2, .int .u8 c3] ∧ c0 < 256 ∧ c1 < 256 ∧ c2 < 256 ∧ c3 < 256 ∧ ((c0 : Nat) : Int) + c1 * 256 + c2 * 65536 + c3 * 16777216 = pN x s k y := by
  have m : ∀ a : Nat, a % 256 < 256 := fun a => Nat.mod_lt _ (by decide)
  refine Place.all (P := fun s k => ∃ c0 c1 c2 c3 : Nat, stL x y s k = [.int .u8 c0, .int .u8 c1, .int .u8 c2, .int .u8 c3] ∧ c0 < 256 ∧ c1 < 256 ∧ c2 < 256 ∧ c3 < 256 ∧ ((c0 : Nat) : Int) + c1 * 256 + c2 * 65536 + c3 * 16777216 = pN x s k y) ?_ ?_ ?_ ?_ ?_ ?_ ?_ hp
  · exact ⟨_, _, _, _, st_0_1 x y, m _, m _, m _, m _, pv_0_1 x y hx⟩
  · exact ⟨_, _, _, _, st_1_1 x y, m _, m _, m _, m _, pv_1_1 x y hx⟩
  · exact ⟨_, _, _, _, st_2_1 x y, m _, m _, m _, m _, pv_2_1 x y hx⟩
  · exact ⟨_, _, _, _, st_3_1 x y, m _, m _, m _, m _, pv_3_1 x y hx⟩
  · exact ⟨_, _, _, _, st_0_2 x y, m _, m _, m _, m _, pv_0_2 x y hx⟩
  · exact ⟨_, _, _, _, st_2_2 x y, m _, m _, m _, m _, pv_2_2 x y hx⟩
  · exact ⟨_, _, _, _, st_0_4 x y, m _, m _, m _, m _, pv_0_4 x y hx⟩
end Go.Proofs.YtcjmofiebkdgjaaDoor.Lane
