/- Contracts of package lane's small functions: lane, shift, multiple, aligned, mask, Wide. -/
import Derived.Test.YtcjmofiebkdgjaaDoorLa
import Derived.Test.YtcjmofiebkdgjaaDoorExt
import Derived.Test.YtcjmofiebkdgjaaDoorWa
import Derived.WalkKit
import Derived.WalkLawsBesides
import Derived.Handy
import Derived.Outline
import Derived.Below
import Derived.Lib.Hide
namespace Go.Proofs.YtcjmofiebkdgjaaDoor.Lane
open Go.RowKit
set_option linter.unusedVariables false

theorem ret_bool {x y : Bool} (h : x = y) : Ending.returned (.bool x) = .returned (.bool y) := by rw [h]
theorem ret_int {k : IntKind} {a b : Int} (h : a = b) : Ending.returned (.int k a) = .returned (.int k b) := by rw [h]

theorem lane_val (a : Int) (s : Nat) (w : World) (ha : 0 ≤ a) (ha' : a < 4294967296) (hs : a % 4 = s) :
    Calls Tryd.prog 37 #[.int .u32 a] w fun e w' => e = .returned (.int .u64 s) ∧ w = w' := by
  go_enter Tryd.func37, Tryd.ntmps37
  go_wp2
  go_ret
  exact ⟨ret_int (by omega), rfl⟩

theorem shift_val (a : Int) (s : Nat) (w : World) (ha : 0 ≤ a) (ha' : a < 4294967296) (hs : a % 4 = s) :
    Calls Tryd.prog 36 #[.int .u32 a] w fun e w' => e = .returned (.int .u64 (8 * s : Nat)) ∧ w = w' := by
  have hs4 : s < 4 := by omega
  go_enter Tryd.func36, Tryd.ntmps36
  go_wp2_with (go_at_call 37; refine (lane_val a s _ ha ha' hs).mono ?_; rintro e w' ⟨rfl, rfl⟩)
  go_ret
  exact ⟨ret_int (by omega), rfl⟩

theorem multiple_any (a n : Int) (b : Bool) (w : World) (ha : 0 ≤ a) (ha' : a < 4294967296) (hn : n = 1 ∨ n = 2 ∨ n = 4) (hb : decide (a % n = 0) = b) :
    Calls Tryd.prog 39 #[.int .u32 a, .int .i64 n] w fun e w' => e = .returned (.bool b) ∧ w = w' := by
  subst hb
  rcases hn with rfl | rfl | rfl
  · go_enter Tryd.func39, Tryd.ntmps39
    go_wp2
    go_ret
    exact ⟨ret_bool (by rw [Bool.eq_iff_iff]; simp), rfl⟩
  · go_enter Tryd.func39, Tryd.ntmps39
    go_wp2
    go_ret
    exact ⟨ret_bool (by rw [Bool.eq_iff_iff]; simp), rfl⟩
  · go_enter Tryd.func39, Tryd.ntmps39
    go_wp2
    go_ret
    exact ⟨ret_bool (by rw [Bool.eq_iff_iff]; simp), rfl⟩

theorem size_val (n : Int) (b : Bool) (w : World) (hb : Word.sizeB n = b) :
    Calls Tryd.prog 38 #[.int .i64 n] w fun e w' => e = .returned (.bool b) ∧ w = w' := by
  subst hb; exact Word.size_any n w

theorem at_any (a n : Int) (w : World) :
    Calls Tryd.prog 25 #[.int .u32 a, .int .i64 n] w fun e w' => e = .returned (.agg #[.int .u32 a, .int .i64 n]) ∧ Below w.heap.size w w' := by
  go_enter Tryd.func25, Tryd.ntmps25
  go_wp2
  refine bodyPost_ret (v := .agg #[.int .u32 a, .int .i64 n]) ?_ rfl ⟨rfl, (Below.refl _ _).alloc (Nat.le_refl _) _⟩
  simp [results, Tryd.results25, go_sem]

theorem aligned_any (a n : Int) (b : Bool) (w : World) (ha : 0 ≤ a) (ha' : a < 4294967296) (hb : alB a n = b) :
    Calls Tryd.prog 29 #[.agg #[.int .u32 a, .int .i64 n]] w fun e w' => e = .returned (.bool b) ∧ Below w.heap.size w w' := by
  by_cases hs : Word.sizeB n = true
  · obtain ⟨m, hm⟩ : ∃ m, decide (a % n = 0) = m := ⟨_, rfl⟩
    have hn := Word.sizeB_yes hs
    have e : b = m := by rw [← hb, ← hm]; unfold alB; rw [hs]; simp
    subst e
    clear hb
    go_enter Tryd.func29, Tryd.ntmps29
    go_wp2_with (first | (go_at_call 38; refine (size_val n true _ hs).mono ?_; rintro e w' ⟨rfl, rfl⟩) | (go_at_call 39; refine (multiple_any a n b _ ha ha' hn hm).mono ?_; rintro e w' ⟨rfl, rfl⟩))
    go_ret
    exact ⟨rfl, (Below.refl _ _).alloc (Nat.le_refl _) _⟩
  · have hs' : Word.sizeB n = false := by simpa using hs
    have e : b = false := by rw [← hb]; unfold alB; rw [hs']; rfl
    subst e
    clear hb
    go_enter Tryd.func29, Tryd.ntmps29
    go_wp2_with (go_at_call 38; refine (size_val n false _ hs').mono ?_; rintro e w' ⟨rfl, rfl⟩)
    go_ret
    exact ⟨rfl, (Below.refl _ _).alloc (Nat.le_refl _) _⟩

/-- A place in a block. -/
theorem alloc_keep {w : World} {a : Addr} {v : Value} (h : w.cell? a = some v) (o : Obj) : (w.alloc o).cell? a = some v := cell_keep ((Below.refl _ _).alloc (Nat.le_refl _) o) h
theorem place_new (w : World) (a n : Int) (t : TypeId) : (w.alloc (.cells #[.int .u32 a, .int .i64 n] t)).cell? ⟨w.heap.size, 0, none⟩ = some (.int .u32 a) ∧ (w.alloc (.cells #[.int .u32 a, .int .i64 n] t)).cell? ⟨w.heap.size, 1, none⟩ = some (.int .i64 n) :=
  ⟨World.cell?_alloc_at _ _ _ 0 rfl, World.cell?_alloc_at _ _ _ 1 rfl⟩
/-- The mask of a place, drawn. -/
theorem mask_val {s k : Nat} (hp : Place s k) (a n : Int) (w : World) (ha : 0 ≤ a) (ha' : a < 4294967296) (hs : a % 4 = s) (hk : n = k) :
    Calls Tryd.prog 28 #[.agg #[.int .u32 a, .int .i64 n]] w fun e w' => e = .returned (.int .u32 (mN s k)) ∧ Below w.heap.size w w' := by
  obtain ⟨x, hx⟩ : ∃ x, mN s k = x := ⟨_, rfl⟩
  obtain ⟨y, hy⟩ : ∃ y : Int, y = s := ⟨_, rfl⟩
  rw [hx]
  subst hk
  have L := fun w => lane_val a s w ha ha' hs
  rw [← hy] at L hs
  have key : ∀ y z : Int, y = s → z = k → (∀ w, Calls Tryd.prog 37 #[.int .u32 a] w fun e w' => e = .returned (.int .u64 y) ∧ w = w') →
      Calls Tryd.prog 28 #[.agg #[.int .u32 a, .int .i64 z]] w fun e w' => e = .returned (.int .u32 x) ∧ Below w.heap.size w w' := by
    subst hx
    clear L hs hy y
    refine Place.all (P := fun s k => ∀ y z : Int, y = s → z = k → (∀ w, Calls Tryd.prog 37 #[.int .u32 a] w fun e w' => e = .returned (.int .u64 y) ∧ w = w') →
      Calls Tryd.prog 28 #[.agg #[.int .u32 a, .int .i64 z]] w fun e w' => e = .returned (.int .u32 (mN s k)) ∧ Below w.heap.size w w') ?_ ?_ ?_ ?_ ?_ ?_ ?_ hp
    all_goals
      intro y z hy hz L
      have cs := place_new w a z 42
      simp only [Int.cast_ofNat_Int] at hy hz
      subst hy
      subst hz
      go_enter Tryd.func28, Tryd.ntmps28
      go_wp2_with fail
      refine wp_region_ext (by kernel_rfl) (by kernel_rfl) ?_
      intro W hW
      have B : Below w.heap.size w W := by rw [hW.out]; exact (Below.refl _ _).alloc (Nat.le_refl _) _
      rw [← hW.out] at cs
      have c0 := ext_cell cs.1
      have c1 := ext_cell cs.2
      have HbW := Lib.hid B
      clear cs B
      repeat (go_big_quiet_step ((go_at_call 37; exact ext_same (L _))))
      refine wpQuiet_nil ?_
      intro w' hw'
      obtain ⟨p, rfl⟩ := hw'
      go_wp2_with fail
      go_ret
      exact ⟨rfl, HbW.out.trans ((ext_below W p).mono HbW.out.size)⟩
  exact key y k hy rfl L

/-- The package's table of wide lanes holds them. -/
def Tab (w : World) : Prop := ∀ i : Nat, i < 4 → w.cell? ⟨0, i, none⟩ = some (.int .u32 (255 * 256 ^ i : Nat))
theorem Tab.below {w w' : World} (h : Tab w) (hb : Below w.heap.size w w') : Tab w' := fun i hi => by
  have c := h i hi
  rw [hb.cell (World.block_lt_of_cell? w _ c)]
  exact c

theorem Wide_any (m : Int) (w : World) (hm : 0 ≤ m) (hm' : m < 4294967296) (ht : Tab w) :
    Calls Tryd.prog 10 #[.int .u32 m] w fun e w' => e = .returned (.int .u32 (wideV m)) ∧ w = w' := by
  have H := Lib.hid ht
  clear ht
  go_enter Tryd.func10, Tryd.ntmps10
  go_wp2
  go_loop [3, 5] (fun x i => ∃ k : Nat, k ≤ 4 ∧ i = .int .i64 k ∧ x = .int .u32 (wS m k) ∧ 0 ≤ wS m k ∧ wS m k < (256 ^ k : Nat)) (fun _ i => 4 - (intOf i).toNat)
  case atStart => exact ⟨0, by omega, rfl, rfl, by simp [wS], by simp [wS]⟩
  case round =>
    obtain ⟨k, hk, rfl, rfl, hb0, hb1⟩ := hrel
    by_cases hlt : k < 4
    · have c1 := H.out k hlt
      go_wp2
      · rename_i hc
        obtain ⟨e1, e2, e3⟩ := wS_yes hm hm' hc hlt hb0 hb1
        exact ⟨⟨k + 1, by omega, by go_num, by rw [e1], e2, e3⟩, by simp [intOf]; omega⟩
      · rename_i hc
        obtain ⟨e1, e2, e3⟩ := wS_no hm hm' (by rw [hc]; simp) hb0 hb1
        exact ⟨⟨k + 1, by omega, by go_num, by rw [e1], e2, e3⟩, by simp [intOf]; omega⟩
    · obtain rfl : k = 4 := by omega
      go_wp2
      go_ret
      exact ⟨rfl, rfl⟩

theorem Wide_val (m x : Int) (w : World) (hm : 0 ≤ m) (hm' : m < 4294967296) (ht : Tab w) (hx : wideV m = x) :
    Calls Tryd.prog 10 #[.int .u32 m] w fun e w' => e = .returned (.int .u32 x) ∧ w = w' := by
  subst hx; exact Wide_any m w hm hm' ht
end Go.Proofs.YtcjmofiebkdgjaaDoor.Lane
