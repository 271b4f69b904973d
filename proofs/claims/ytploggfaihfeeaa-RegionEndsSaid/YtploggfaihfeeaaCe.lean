/- Contracts: the document's Right; an access in a block. -/
import Derived.Test.YtploggfaihfeeaaCc
namespace Go.Proofs.Ytploggfaihfeeaa.Access
open Go.RowKit
set_option linter.unusedVariables false

/-- An access in a block. -/
structure Five (w : World) (b : Nat) (W : Int) (r : Bool) (A S D : Int) : Prop where
  c0 : w.cell? ⟨b, 0, none⟩ = some (.int .i64 W)
  c1 : w.cell? ⟨b, 1, none⟩ = some (.bool r)
  c2 : w.cell? ⟨b, 2, none⟩ = some (.int .u32 A)
  c3 : w.cell? ⟨b, 3, none⟩ = some (.int .i64 S)
  c4 : w.cell? ⟨b, 4, none⟩ = some (.int .u32 D)
theorem Five.keep {w w' : World} {b : Nat} {W : Int} {r : Bool} {A S D : Int} (h : Five w b W r A S D) (hb : Below w.heap.size w w') : Five w' b W r A S D :=
  ⟨cell_keep hb h.c0, cell_keep hb h.c1, cell_keep hb h.c2, cell_keep hb h.c3, cell_keep hb h.c4⟩
theorem Five.alloc {w : World} {b : Nat} {W : Int} {r : Bool} {A S D : Int} (h : Five w b W r A S D) (o : Obj) : Five (w.alloc o) b W r A S D := h.keep ((Below.refl _ _).alloc (Nat.le_refl _) o)
theorem five_new (w : World) (W : Int) (r : Bool) (A S D : Int) (t : TypeId) : Five (w.alloc (.cells #[.int .i64 W, .bool r, .int .u32 A, .int .i64 S, .int .u32 D] t)) w.heap.size W r A S D :=
  ⟨World.cell?_alloc_at _ _ _ 0 rfl, World.cell?_alloc_at _ _ _ 1 rfl, World.cell?_alloc_at _ _ _ 2 rfl, World.cell?_alloc_at _ _ _ 3 rfl, World.cell?_alloc_at _ _ _ 4 rfl⟩
theorem rlow_q (v n lv : Int) (b : Bool) (w : World) (hv : 0 ≤ v) (hv' : v < 4294967296) (hl : Word.lowV v n = lv) (hb : Word.sizeB n = b) :
    Calls Try.prog 49 #[.int .u32 v, .int .i64 n] w fun e w' => e = .returned (.tuple #[.int .u32 lv, .bool b]) ∧ Below w.heap.size w w' := by
  subst hl; subst hb
  obtain ⟨x, rfl⟩ := Int.eq_ofNat_of_zero_le hv
  by_cases h : Word.sizeB n = true
  · obtain ⟨m, rfl⟩ : ∃ m : Nat, n = m := by
      rcases Word.sizeB_yes h with rfl | rfl | rfl
      · exact ⟨1, rfl⟩
      · exact ⟨2, rfl⟩
      · exact ⟨4, rfl⟩
    rw [h]
    exact Word.rlow_any x m (by omega) h w
  · have h' : Word.sizeB n = false := by simpa using h
    have f := Word.sizeB_false h'
    have e : Word.lowV x n = 0 := by unfold Word.lowV; rw [if_neg f.1, if_neg f.2.1, if_neg f.2.2]
    rw [h', e]
    exact Word.rlow_no x n w h'

theorem rRight_w0 (W : Int) (r : Bool) (A S D lv : Int) (is al : Bool) (w : World) (h1 : ¬ 0 ≤ W)
    (Lo : ∀ w, Calls Try.prog 49 #[.int .u32 D, .int .i64 S] w fun e w' => e = .returned (.tuple #[.int .u32 lv, .bool is]) ∧ Below w.heap.size w w')
    (Al : ∀ w, Calls Try.prog 50 #[.int .u32 A, .int .i64 S] w fun e w' => e = .returned (.bool al) ∧ w = w') :
    Calls Try.prog 40 #[acc W r A S D] w fun e w' => e = .returned (.bool false) ∧ Below w.heap.size w w' := by
  go_enter Try.func40, Try.ntmps40
  go_wp2_with fail
  refine (Lo _).mono ?_
  rintro e w1 ⟨rfl, hb⟩
  obtain ⟨k0, k1, k2, k3, k4⟩ := (five_new w W r A S D _).keep hb
  have Hb := Lib.hid (((Below.refl w.heap.size w).alloc (Nat.le_refl _) _).trans (hb.mono (by simp)))
  clear hb
  go_wp2_with fail
  go_ret
  exact ⟨rfl, Hb.out⟩

theorem rRight_w8 (W : Int) (r : Bool) (A S D lv : Int) (is al : Bool) (w : World) (h1 : 0 ≤ W) (h2 : ¬ W < 8)
    (Lo : ∀ w, Calls Try.prog 49 #[.int .u32 D, .int .i64 S] w fun e w' => e = .returned (.tuple #[.int .u32 lv, .bool is]) ∧ Below w.heap.size w w')
    (Al : ∀ w, Calls Try.prog 50 #[.int .u32 A, .int .i64 S] w fun e w' => e = .returned (.bool al) ∧ w = w') :
    Calls Try.prog 40 #[acc W r A S D] w fun e w' => e = .returned (.bool false) ∧ Below w.heap.size w w' := by
  go_enter Try.func40, Try.ntmps40
  go_wp2_with fail
  refine (Lo _).mono ?_
  rintro e w1 ⟨rfl, hb⟩
  obtain ⟨k0, k1, k2, k3, k4⟩ := (five_new w W r A S D _).keep hb
  have Hb := Lib.hid (((Below.refl w.heap.size w).alloc (Nat.le_refl _) _).trans (hb.mono (by simp)))
  clear hb
  go_wp2_with fail
  go_ret
  exact ⟨rfl, Hb.out⟩

theorem rRight_al (W : Int) (r : Bool) (A S D lv : Int) (is al : Bool) (w : World) (h1 : 0 ≤ W) (h2 : W < 8)
    (Lo : ∀ w, Calls Try.prog 49 #[.int .u32 D, .int .i64 S] w fun e w' => e = .returned (.tuple #[.int .u32 lv, .bool is]) ∧ Below w.heap.size w w')
    (Al : ∀ w, Calls Try.prog 50 #[.int .u32 A, .int .i64 S] w fun e w' => e = .returned (.bool false) ∧ w = w') :
    Calls Try.prog 40 #[acc W r A S D] w fun e w' => e = .returned (.bool false) ∧ Below w.heap.size w w' := by
  go_enter Try.func40, Try.ntmps40
  go_wp2_with fail
  refine (Lo _).mono ?_
  rintro e w1 ⟨rfl, hb⟩
  obtain ⟨k0, k1, k2, k3, k4⟩ := (five_new w W r A S D _).keep hb
  have Hb := Lib.hid (((Below.refl w.heap.size w).alloc (Nat.le_refl _) _).trans (hb.mono (by simp)))
  clear hb
  go_wp2_with fail
  refine (Al _).mono ?_
  rintro e w2 ⟨rfl, rfl⟩
  go_wp2_with fail
  go_ret
  exact ⟨rfl, Hb.out⟩

theorem rRight_is (W : Int) (r : Bool) (A S D lv : Int) (is al : Bool) (w : World) (h1 : 0 ≤ W) (h2 : W < 8)
    (Lo : ∀ w, Calls Try.prog 49 #[.int .u32 D, .int .i64 S] w fun e w' => e = .returned (.tuple #[.int .u32 lv, .bool false]) ∧ Below w.heap.size w w')
    (Al : ∀ w, Calls Try.prog 50 #[.int .u32 A, .int .i64 S] w fun e w' => e = .returned (.bool true) ∧ w = w') :
    Calls Try.prog 40 #[acc W r A S D] w fun e w' => e = .returned (.bool false) ∧ Below w.heap.size w w' := by
  go_enter Try.func40, Try.ntmps40
  go_wp2_with fail
  refine (Lo _).mono ?_
  rintro e w1 ⟨rfl, hb⟩
  obtain ⟨k0, k1, k2, k3, k4⟩ := (five_new w W r A S D _).keep hb
  have Hb := Lib.hid (((Below.refl w.heap.size w).alloc (Nat.le_refl _) _).trans (hb.mono (by simp)))
  clear hb
  go_wp2_with fail
  refine (Al _).mono ?_
  rintro e w2 ⟨rfl, rfl⟩
  go_wp2_with fail
  go_ret
  exact ⟨rfl, Hb.out⟩

theorem rRight_lv (W : Int) (r : Bool) (A S D lv : Int) (is al : Bool) (w : World) (h1 : 0 ≤ W) (h2 : W < 8) (h3 : ¬ lv = D)
    (Lo : ∀ w, Calls Try.prog 49 #[.int .u32 D, .int .i64 S] w fun e w' => e = .returned (.tuple #[.int .u32 lv, .bool true]) ∧ Below w.heap.size w w')
    (Al : ∀ w, Calls Try.prog 50 #[.int .u32 A, .int .i64 S] w fun e w' => e = .returned (.bool true) ∧ w = w') :
    Calls Try.prog 40 #[acc W r A S D] w fun e w' => e = .returned (.bool false) ∧ Below w.heap.size w w' := by
  go_enter Try.func40, Try.ntmps40
  go_wp2_with fail
  refine (Lo _).mono ?_
  rintro e w1 ⟨rfl, hb⟩
  obtain ⟨k0, k1, k2, k3, k4⟩ := (five_new w W r A S D _).keep hb
  have Hb := Lib.hid (((Below.refl w.heap.size w).alloc (Nat.le_refl _) _).trans (hb.mono (by simp)))
  clear hb
  go_wp2_with fail
  refine (Al _).mono ?_
  rintro e w2 ⟨rfl, rfl⟩
  go_wp2_with fail
  go_ret
  exact ⟨rfl, Hb.out⟩

theorem rRight_yes (W : Int) (r : Bool) (A S D lv : Int) (is al : Bool) (w : World) (h1 : 0 ≤ W) (h2 : W < 8)
    (Lo : ∀ w, Calls Try.prog 49 #[.int .u32 D, .int .i64 S] w fun e w' => e = .returned (.tuple #[.int .u32 D, .bool true]) ∧ Below w.heap.size w w')
    (Al : ∀ w, Calls Try.prog 50 #[.int .u32 A, .int .i64 S] w fun e w' => e = .returned (.bool true) ∧ w = w') :
    Calls Try.prog 40 #[acc W true A S D] w fun e w' => e = .returned (.bool true) ∧ Below w.heap.size w w' := by
  go_enter Try.func40, Try.ntmps40
  go_wp2_with fail
  refine (Lo _).mono ?_
  rintro e w1 ⟨rfl, hb⟩
  obtain ⟨k0, k1, k2, k3, k4⟩ := (five_new w W true A S D _).keep hb
  have Hb := Lib.hid (((Below.refl w.heap.size w).alloc (Nat.le_refl _) _).trans (hb.mono (by simp)))
  clear hb
  go_wp2_with fail
  refine (Al _).mono ?_
  rintro e w2 ⟨rfl, rfl⟩
  go_wp2_with fail
  go_ret
  exact ⟨rfl, Hb.out⟩

theorem rRight_no (W : Int) (r : Bool) (A S D lv : Int) (is al : Bool) (w : World) (h1 : 0 ≤ W) (h2 : W < 8)
    (Lo : ∀ w, Calls Try.prog 49 #[.int .u32 D, .int .i64 S] w fun e w' => e = .returned (.tuple #[.int .u32 D, .bool true]) ∧ Below w.heap.size w w')
    (Al : ∀ w, Calls Try.prog 50 #[.int .u32 A, .int .i64 S] w fun e w' => e = .returned (.bool true) ∧ w = w') :
    Calls Try.prog 40 #[acc W false A S D] w fun e w' => e = .returned (.bool (decide (D = 0))) ∧ Below w.heap.size w w' := by
  go_enter Try.func40, Try.ntmps40
  go_wp2_with fail
  refine (Lo _).mono ?_
  rintro e w1 ⟨rfl, hb⟩
  obtain ⟨k0, k1, k2, k3, k4⟩ := (five_new w W false A S D _).keep hb
  have Hb := Lib.hid (((Below.refl w.heap.size w).alloc (Nat.le_refl _) _).trans (hb.mono (by simp)))
  clear hb
  go_wp2_with fail
  refine (Al _).mono ?_
  rintro e w2 ⟨rfl, rfl⟩
  go_wp2_with fail
  go_ret
  exact ⟨ret_bool (by rw [Bool.eq_iff_iff]; simp), Hb.out⟩

theorem rRight_any (W : Int) (r : Bool) (A S D : Int) (b : Bool) (w : World) (hA : 0 ≤ A) (hA' : A < 4294967296) (hD : 0 ≤ D) (hD' : D < 4294967296) (hb : rightB W r A S D = b) :
    Calls Try.prog 40 #[acc W r A S D] w fun e w' => e = .returned (.bool b) ∧ Below w.heap.size w w' := by
  obtain ⟨lv, hl⟩ : ∃ v, Word.lowV D S = v := ⟨_, rfl⟩
  obtain ⟨is, hs⟩ : ∃ v, Word.sizeB S = v := ⟨_, rfl⟩
  obtain ⟨al, ha⟩ : ∃ v, Lane.alB A S = v := ⟨_, rfl⟩
  have Lo := fun w => rlow_q D S lv is w hD hD' hl hs
  have Al := fun w => Lane.rAligned_any A S al w hA hA' ha
  unfold rightB fitB silB wdB at hb
  rw [hl, hs, ha] at hb
  clear hl hs ha
  by_cases h1 : 0 ≤ W
  · by_cases h2 : W < 8
    · have e : decide (0 ≤ W ∧ W < 8) = true := decide_eq_true ⟨h1, h2⟩
      rw [e] at hb
      cases al
      · simp at hb; subst hb; exact rRight_al W r A S D lv is true w h1 h2 Lo Al
      cases is
      · simp at hb; subst hb; exact rRight_is W r A S D lv true true w h1 h2 Lo Al
      by_cases h3 : lv = D
      · subst h3
        cases r
        · simp at hb; subst hb; exact rRight_no W true A S lv lv true true w h1 h2 Lo Al
        · simp at hb; subst hb; exact rRight_yes W true A S lv lv true true w h1 h2 Lo Al
      · simp [h3] at hb; subst hb; exact rRight_lv W r A S D lv true true w h1 h2 h3 Lo Al
    · have e : decide (0 ≤ W ∧ W < 8) = false := decide_eq_false (by omega)
      rw [e] at hb; simp at hb; subst hb
      exact rRight_w8 W r A S D lv is al w h1 h2 Lo Al
  · have e : decide (0 ≤ W ∧ W < 8) = false := decide_eq_false (by omega)
    rw [e] at hb; simp at hb; subst hb
    exact rRight_w0 W r A S D lv is al w h1 Lo Al
end Go.Proofs.Ytploggfaihfeeaa.Access
