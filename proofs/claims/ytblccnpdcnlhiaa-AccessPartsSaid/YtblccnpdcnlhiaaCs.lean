/- The walk of AccessParts. -/
import Derived.Test.YtblccnpdcnlhiaaCp
namespace Go.Proofs.Ytblccnpdcnlhiaa.Access
open Go.RowKit Go.Maps Go.ChangeShapes Go.WideShapes Go.ChangeAt Kit Word
set_option linter.unusedVariables false

theorem nat_or1 (n : Nat) : n ||| 1 = n / 2 * 2 + 1 := by
  have h := nat_join 1 (n / 2 * 2) (n % 2) (by omega) (by omega)
  have h1 : n = (n / 2 * 2) ||| (n % 2) := by rw [h]; omega
  have h2 : (n % 2) ||| 1 = 1 := by rcases Nat.mod_two_eq_zero_or_one n with e | e <;> rw [e] <;> rfl
  have h3 := nat_join 1 (n / 2 * 2) 1 (by omega) (by omega)
  conv => lhs; rw [h1]
  rw [Nat.or_assoc, h2, h3]
theorem or1 {x : Int} (h0 : 0 ≤ x) (h1 : x < 4294967296) : bits .or .u32 x 1 = x / 2 * 2 + 1 := by
  rw [u32_or x 1 h0 h1 (by omega) (by omega)]
  obtain ⟨n, rfl⟩ := Int.eq_ofNat_of_zero_le h0
  have := nat_or1 n
  simp only [Int.toNat_natCast, Int.toNat_one, this]; omega
theorem Slot5.set0 {w : World} {b : Nat} {W : Int} {r : Bool} {A S D : Int} (h : Slot5 w b W r A S D) (u : Int) : Slot5 (w.setCell ⟨b, 0, none⟩ (.int .i64 u)) b u r A S D :=
  ⟨⟨by simp [go_sem, h.five.c0], by simp [go_sem, h.five.c1], by simp [go_sem, h.five.c2], by simp [go_sem, h.five.c3], by simp [go_sem, h.five.c4]⟩, by simp [go_sem, h.f0], by simp [go_sem, h.f1], by simp [go_sem, h.f2], by simp [go_sem, h.f3], by simp [go_sem, h.f4]⟩
theorem Slot5.set1 {w : World} {b : Nat} {W : Int} {r : Bool} {A S D : Int} (h : Slot5 w b W r A S D) (u : Bool) : Slot5 (w.setCell ⟨b, 1, none⟩ (.bool u)) b W u A S D :=
  ⟨⟨by simp [go_sem, h.five.c0], by simp [go_sem, h.five.c1], by simp [go_sem, h.five.c2], by simp [go_sem, h.five.c3], by simp [go_sem, h.five.c4]⟩, by simp [go_sem, h.f0], by simp [go_sem, h.f1], by simp [go_sem, h.f2], by simp [go_sem, h.f3], by simp [go_sem, h.f4]⟩
theorem Slot5.set2 {w : World} {b : Nat} {W : Int} {r : Bool} {A S D : Int} (h : Slot5 w b W r A S D) (u : Int) : Slot5 (w.setCell ⟨b, 2, none⟩ (.int .u32 u)) b W r u S D :=
  ⟨⟨by simp [go_sem, h.five.c0], by simp [go_sem, h.five.c1], by simp [go_sem, h.five.c2], by simp [go_sem, h.five.c3], by simp [go_sem, h.five.c4]⟩, by simp [go_sem, h.f0], by simp [go_sem, h.f1], by simp [go_sem, h.f2], by simp [go_sem, h.f3], by simp [go_sem, h.f4]⟩
theorem Slot5.set3 {w : World} {b : Nat} {W : Int} {r : Bool} {A S D : Int} (h : Slot5 w b W r A S D) (u : Int) : Slot5 (w.setCell ⟨b, 3, none⟩ (.int .i64 u)) b W r A u D :=
  ⟨⟨by simp [go_sem, h.five.c0], by simp [go_sem, h.five.c1], by simp [go_sem, h.five.c2], by simp [go_sem, h.five.c3], by simp [go_sem, h.five.c4]⟩, by simp [go_sem, h.f0], by simp [go_sem, h.f1], by simp [go_sem, h.f2], by simp [go_sem, h.f3], by simp [go_sem, h.f4]⟩
theorem Slot5.set4 {w : World} {b : Nat} {W : Int} {r : Bool} {A S D : Int} (h : Slot5 w b W r A S D) (u : Int) : Slot5 (w.setCell ⟨b, 4, none⟩ (.int .u32 u)) b W r A S u :=
  ⟨⟨by simp [go_sem, h.five.c0], by simp [go_sem, h.five.c1], by simp [go_sem, h.five.c2], by simp [go_sem, h.five.c3], by simp [go_sem, h.five.c4]⟩, by simp [go_sem, h.f0], by simp [go_sem, h.f1], by simp [go_sem, h.f2], by simp [go_sem, h.f3], by simp [go_sem, h.f4]⟩
theorem region_letter {id : Nat} (n : Nat) (hid : id = n) {P : Program} {ops : Array Oper} {b : Bool} {Q : Exit → Act → World → Prop} {a : Act} {w : World} (h : ∀ W, Hid (W = w) → (Code.region id ops b).wp P Q a W) : (Code.region id ops b).wp P Q a w := h w (Lib.hid rfl)
theorem Five.other {w : World} {b C : Nat} {W : Int} {r : Bool} {A S D : Int} (h : Five w b W r A S D) (hne : b ≠ C) (j : Nat) (v : Value) : Five (w.setCell ⟨C, j, none⟩ v) b W r A S D := by
  have ho := KitBytes.only_set w C j v
  exact ⟨ho.cell hne h.c0, ho.cell hne h.c1, ho.cell hne h.c2, ho.cell hne h.c3, ho.cell hne h.c4⟩
theorem tmod8 (x : Int) : -8 < Int.tmod x 8 ∧ Int.tmod x 8 < 8 := by
  rcases Int.le_total 0 x with h | h
  · rw [Int.tmod_eq_emod_of_nonneg h]; omega
  · have e : Int.tmod x 8 = -(Int.tmod (-x) 8) := by rw [Int.neg_tmod]; omega
    rw [e, Int.tmod_eq_emod_of_nonneg (by omega)]; omega
theorem pick8_any (x : Int) (w : World) (h0 : -9223372036854775808 ≤ x) (h1 : x ≤ 9223372036854775807) :
    Calls Try.prog 19 #[.int .i64 x, .int .i64 8] w fun e w' => (∃ p, 0 ≤ p ∧ p ≤ 7 ∧ e = .returned (.int .i64 p)) ∧ w = w' := by
  have ht := tmod8 x
  by_cases hneg : Int.tmod x 8 < 0
  · have d1 : decide (Int.tmod x 8 < 0) = true := by simpa using hneg
    go_enter Try.func19, Try.ntmps19
    go_wp2
    go_ret
    exact ⟨⟨Int.tmod x 8 + 8, by omega, by omega, by go_num⟩, rfl⟩
  · have d1 : decide (Int.tmod x 8 < 0) = false := by simpa using hneg
    go_enter Try.func19, Try.ntmps19
    go_wp2
    go_ret
    exact ⟨⟨Int.tmod x 8, by omega, by omega, by go_num⟩, rfl⟩

theorem pick8_is (x : Int) (h0 : -9223372036854775808 ≤ x) (h1 : x ≤ 9223372036854775807) : ∃ p : Int, 0 ≤ p ∧ p ≤ 7 ∧ ∀ w, Calls Try.prog 19 #[.int .i64 x, .int .i64 8] w fun e w' => e = .returned (.int .i64 p) ∧ w = w' := by
  have ht := tmod8 x
  by_cases hneg : Int.tmod x 8 < 0
  · refine ⟨Int.tmod x 8 + 8, by omega, by omega, fun w => ?_⟩
    have d1 : decide (Int.tmod x 8 < 0) = true := by simpa using hneg
    go_enter Try.func19, Try.ntmps19
    go_wp2
    go_ret
    exact ⟨by go_num, rfl⟩
  · refine ⟨Int.tmod x 8, by omega, by omega, fun w => ?_⟩
    have d1 : decide (Int.tmod x 8 < 0) = false := by simpa using hneg
    go_enter Try.func19, Try.ntmps19
    go_wp2
    go_ret
    exact ⟨by go_num, rfl⟩

set_option maxRecDepth 100000 in
set_option maxHeartbeats 2000000 in
theorem parts_nn (L M : List Int) (W : Int) (r : Bool) (A S D x p d y : Int) (W2 : Int) (r2 : Bool) (A2 S2 D2 : Int) (w : World)
    (Aw : ∀ w, Calls Try.prog 9 #[] w fun e w' => e = .returned (.bool true) ∧ Below w.heap.size w w')
    (Pk : ∀ w, Calls Try.prog 19 #[.int .i64 x, .int .i64 8] w fun e w' => e = .returned (.int .i64 p) ∧ w = w')
    (Ri : ∀ w, Calls Try.prog 14 #[acc W r A S D] w fun e w' => e = .returned (.bool false) ∧ Below w.heap.size w w')
    (R2 : ∀ w, Calls Try.prog 14 #[acc W false A S d] w fun e w' => e = .returned (.bool false) ∧ Below w.heap.size w w')
    (En : ∀ w, Calls Try.prog 13 #[acc W r A S D] w (EncRow 0 [] 2 w))
    (En2 : ∀ w, Calls Try.prog 13 #[acc W2 r2 A2 S2 D2] w (EncRow 0 [] 2 w))
    (ho : bits .or .u32 D 1 = d) (ho2 : bits .or .u32 A 1 = y) :
    Calls Try.prog 7 #[acc W r A S D, acc W2 r2 A2 S2 D2, .int .i64 x] w fun e w' => e = .returned (.bool true) ∧ Below w.heap.size w w' := by
  go_enter Try.func7, Try.ntmps7
  go_wp2_with fail
  refine calls_letter ?_
  intro w1 hw1
  have F1 := Lib.hid (show Five w1 w.heap.size W r A S D by rw [hw1.out]; exact (five_new w W r A S D _).alloc _)
  have G1 := Lib.hid (show Five w1 (w.heap.size + 1) W2 r2 A2 S2 D2 by rw [hw1.out]; have := five_new (w.alloc (.cells #[.int .i64 W, .bool r, .int .u32 A, .int .i64 S, .int .u32 D] 24)) W2 r2 A2 S2 D2 24; simpa using this)
  have B1 := Lib.hid (show Below w.heap.size w w1 by rw [hw1.out]; exact ((Below.refl _ _).alloc (Nat.le_refl _) _).alloc (by simp) _)
  obtain ⟨Z, hZ⟩ : ∃ Z, w.heap.size = Z := ⟨_, rfl⟩
  obtain ⟨Y, hY⟩ : ∃ Y, w.heap.size + 1 = Y := ⟨_, rfl⟩
  rw [hY] at G1
  rw [hZ] at F1
  rw [hY, hZ]
  have HZ := Lib.hid hZ
  have HY := Lib.hid hY
  clear hZ hY hw1
  refine (Aw _).mono ?_
  rintro e w2 ⟨rfl, hb⟩
  have F2 := Lib.hid (F1.out.keep hb)
  have G2 := Lib.hid (G1.out.keep hb)
  have B2 := Lib.hid (B1.out.trans (hb.mono B1.out.size))
  clear hb F1 G1 B1
  have Y2 := World.block_lt_of_cell? w2 _ G2.out.c0
  have Z2 := World.block_lt_of_cell? w2 _ F2.out.c0
  simp only at Y2 Z2
  have ZB := B2.out.size
  obtain ⟨k0, k1, k2, k3, k4⟩ := F2.out
  go_wp2_with fail
  refine calls_letter ?_
  intro w3 hw3
  have hk : Below w2.heap.size w2 w3 := by rw [hw3.out]; exact (Below.refl _ _).alloc (Nat.le_refl _) _
  have S3 := Lib.hid (show Slot5 w3 w2.heap.size W r A S D by rw [hw3.out]; exact slot5_new w2 W r A S D _)
  have F3 := Lib.hid (F2.out.keep hk)
  have G3 := Lib.hid (G2.out.keep hk)
  have B3 := Lib.hid (B2.out.trans (hk.mono B2.out.size))
  obtain ⟨X, hX⟩ : ∃ X, w2.heap.size = X := ⟨_, rfl⟩
  rw [hX] at S3 Y2 Z2 ZB
  have ZX : Z ≠ X := by omega
  have oz : ∀ (V : World) (j i : Nat) (v : Value), (V.setCell ⟨X, j, none⟩ v).cell? ⟨Z, i, none⟩ = V.cell? ⟨Z, i, none⟩ := fun V j i v => World.cell?_setCell_other _ _ _ _ (fun e => ZX (congrArg Addr.block e).symm)
  rw [hX]
  clear hX hw3 hk F2 G2 B2 k0 k1 k2 k3 k4
  refine (Pk _).mono ?_
  rintro e w3' ⟨rfl, rfl⟩
  obtain ⟨k0, k1, k2, k3, k4⟩ := F3.out
  obtain ⟨⟨s0, s1, s2, s3, s4⟩, f0, f1, f2, f3, f4⟩ := S3.out
  go_wp2_with fail
  refine calls_letter ?_
  intro w4 hw4
  have S4 := Lib.hid (show Slot5 w4 X p r A S D by rw [hw4.out]; exact ⟨⟨by simp [go_sem, s0], by simp [go_sem, s1], by simp [go_sem, s2], by simp [go_sem, s3], by simp [go_sem, s4]⟩, by simp [go_sem, f0], by simp [go_sem, f1], by simp [go_sem, f2], by simp [go_sem, f3], by simp [go_sem, f4]⟩)
  have F4 := Lib.hid (show Five w4 Z W r A S D by rw [hw4.out]; exact F3.out.other (by omega) _ _)
  have G4 := Lib.hid (show Five w4 Y W2 r2 A2 S2 D2 by rw [hw4.out]; exact G3.out.other (by omega) _ _)
  have B4 := Lib.hid (show Below w.heap.size w w4 by rw [hw4.out]; exact B3.out.setCell (by simp; omega) _)
  clear hw4 S3 F3 G3 B3 k0 k1 k2 k3 k4 s0 s1 s2 s3 s4 f0 f1 f2 f3 f4
  refine (Ri _).mono ?_
  rintro e w5 ⟨rfl, hb⟩
  have S5 := Lib.hid (S4.out.keep hb)
  have F5 := Lib.hid (F4.out.keep hb)
  have G5 := Lib.hid (G4.out.keep hb)
  have B5 := Lib.hid (B4.out.trans (hb.mono B4.out.size))
  clear hb S4 F4 G4 B4
  obtain ⟨k0, k1, k2, k3, k4⟩ := F5.out
  obtain ⟨⟨s0, s1, s2, s3, s4⟩, f0, f1, f2, f3, f4⟩ := S5.out
  iterate 60 (first | go_values | go_skip | go_guarded | go_step | go_upon | go_back | (simp only at *; go_simp))
  refine region_letter 10 (by simp) ?_
  intro w7 hw
  have S7 := Lib.hid (show Slot5 w7 X W false A S d by rw [hw.out]; exact (((((((S5.out.set0 W).set1 r).set2 A).set3 S).set4 D).set1 false).set4 d))
  have F7 := Lib.hid (show Five w7 Z W r A S D by rw [hw.out]; exact ((((((F5.out.other (by omega) _ _).other (by omega) _ _).other (by omega) _ _).other (by omega) _ _).other (by omega) _ _).other (by omega) _ _).other (by omega) _ _)
  have G7 := Lib.hid (show Five w7 Y W2 r2 A2 S2 D2 by rw [hw.out]; exact ((((((G5.out.other (by omega) _ _).other (by omega) _ _).other (by omega) _ _).other (by omega) _ _).other (by omega) _ _).other (by omega) _ _).other (by omega) _ _)
  have B7 := Lib.hid (show Below w.heap.size w w7 by rw [hw.out]; exact ((((((B5.out.setCell (by simp; omega) _).setCell (by simp; omega) _).setCell (by simp; omega) _).setCell (by simp; omega) _).setCell (by simp; omega) _).setCell (by simp; omega) _).setCell (by simp; omega) _)
  clear hw S5 F5 G5 B5 k0 k1 k2 k3 k4 s0 s1 s2 s3 s4 f0 f1 f2 f3 f4
  obtain ⟨⟨s0, s1, s2, s3, s4⟩, f0, f1, f2, f3, f4⟩ := S7.out
  go_wp2_with fail
  refine (R2 _).mono ?_
  rintro e w8 ⟨rfl, hb⟩
  have S8 := Lib.hid (S7.out.keep hb)
  have F8 := Lib.hid (F7.out.keep hb)
  have G8 := Lib.hid (G7.out.keep hb)
  have B8 := Lib.hid (B7.out.trans (hb.mono B7.out.size))
  clear hb S7 F7 G7 B7 s0 s1 s2 s3 s4 f0 f1 f2 f3 f4
  obtain ⟨k0, k1, k2, k3, k4⟩ := F8.out
  obtain ⟨⟨s0, s1, s2, s3, s4⟩, f0, f1, f2, f3, f4⟩ := S8.out
  go_wp2_with fail
  refine code_letter ?_
  intro w9 hw
  have S9 := Lib.hid (show Slot5 w9 X W r y S D by rw [hw.out]; exact ((((((S8.out.set0 W).set1 r).set2 A).set3 S).set4 D).set2 y))
  have F9 := Lib.hid (show Five w9 Z W r A S D by rw [hw.out]; exact (((((F8.out.other (by omega) _ _).other (by omega) _ _).other (by omega) _ _).other (by omega) _ _).other (by omega) _ _).other (by omega) _ _)
  have G9 := Lib.hid (show Five w9 Y W2 r2 A2 S2 D2 by rw [hw.out]; exact (((((G8.out.other (by omega) _ _).other (by omega) _ _).other (by omega) _ _).other (by omega) _ _).other (by omega) _ _).other (by omega) _ _)
  have B9 := Lib.hid (show Below w.heap.size w w9 by rw [hw.out]; exact (((((B8.out.setCell (by simp; omega) _).setCell (by simp; omega) _).setCell (by simp; omega) _).setCell (by simp; omega) _).setCell (by simp; omega) _).setCell (by simp; omega) _)
  clear hw S8 F8 G8 B8 k0 k1 k2 k3 k4 s0 s1 s2 s3 s4 f0 f1 f2 f3 f4
  refine wp_region_ext (by kernel_rfl) (by kernel_rfl) ?_
  intro V hV
  have hV' := hV.out
  subst hV'
  have k0 := ext_cell F9.out.c0
  have k1 := ext_cell F9.out.c1
  have k2 := ext_cell F9.out.c2
  have k3 := ext_cell F9.out.c3
  have k4 := ext_cell F9.out.c4
  have s0 := ext_cell S9.out.five.c0
  have s1 := ext_cell S9.out.five.c1
  have s2 := ext_cell S9.out.five.c2
  have s3 := ext_cell S9.out.five.c3
  have s4 := ext_cell S9.out.five.c4
  repeat (go_big_quiet_step ((first | (go_at_call 14; with_reducible exact ext_of (Ri _)))))
  refine wpQuiet_nil ?_
  intro w10 hw10
  obtain ⟨q, rfl⟩ := hw10
  have hb := ext_below V q
  have F10 := Lib.hid (F9.out.keep hb)
  have G10 := Lib.hid (G9.out.keep hb)
  have B10 := Lib.hid (B9.out.trans (hb.mono B9.out.size))
  obtain ⟨w10, hw⟩ : ∃ x, ext V q = x := ⟨_, rfl⟩
  rw [hw] at F10 G10 B10
  rw [hw]
  clear hw hb hV S9 F9 G9 B9 k0 k1 k2 k3 k4 s0 s1 s2 s3 s4
  obtain ⟨k0, k1, k2, k3, k4⟩ := F10.out
  go_wp2_with fail
  refine (En _).mono ?_
  rintro e w11 ⟨ax, cx, rfl, hown, hb⟩
  have F11 := Lib.hid (F10.out.keep hb)
  have G11 := Lib.hid (G10.out.keep hb)
  have B11 := Lib.hid (B10.out.trans (hb.mono B10.out.size))
  have O11 := Lib.hid hown
  clear hown hb F10 G10 B10 k0 k1 k2 k3 k4
  obtain ⟨g0, g1, g2, g3, g4⟩ := G11.out
  go_wp2_with fail
  refine (En2 _).mono ?_
  rintro e w12 ⟨ay, cy, rfl, hown, hb⟩
  have F12 := Lib.hid (F11.out.keep hb)
  have G12 := Lib.hid (G11.out.keep hb)
  have B12 := Lib.hid (B11.out.trans (hb.mono B11.out.size))
  have O12 := Lib.hid (bown_below O11.out hb)
  have P12 := Lib.hid hown
  clear hown hb F11 G11 B11 O11 g0 g1 g2 g3 g4
  go_wp2_with fail
  refine wp_region_ext (by kernel_rfl) (by kernel_rfl) ?_
  intro V hV
  have hV' := hV.out
  subst hV'
  have k0 := ext_cell F12.out.c0
  have k1 := ext_cell F12.out.c1
  have k2 := ext_cell F12.out.c2
  have k3 := ext_cell F12.out.c3
  have k4 := ext_cell F12.out.c4
  have g0 := ext_cell G12.out.c0
  have g1 := ext_cell G12.out.c1
  have g2 := ext_cell G12.out.c2
  have g3 := ext_cell G12.out.c3
  have g4 := ext_cell G12.out.c4
  repeat (go_big_quiet_step (fail))
  refine wpQuiet_nil ?_
  intro w13 hw13
  obtain ⟨q, rfl⟩ := hw13
  go_wp2_with fail
  go_ret
  exact ⟨rfl, B12.out.trans ((ext_below V q).mono B12.out.size)⟩

set_option maxRecDepth 100000 in
set_option maxHeartbeats 2000000 in
theorem parts_ny (L M : List Int) (W : Int) (r : Bool) (A S D x p d y : Int) (W2 : Int) (r2 : Bool) (A2 S2 D2 : Int) (w : World)
    (Aw : ∀ w, Calls Try.prog 9 #[] w fun e w' => e = .returned (.bool true) ∧ Below w.heap.size w w')
    (Pk : ∀ w, Calls Try.prog 19 #[.int .i64 x, .int .i64 8] w fun e w' => e = .returned (.int .i64 p) ∧ w = w')
    (Ri : ∀ w, Calls Try.prog 14 #[acc W r A S D] w fun e w' => e = .returned (.bool false) ∧ Below w.heap.size w w')
    (R2 : ∀ w, Calls Try.prog 14 #[acc W false A S d] w fun e w' => e = .returned (.bool false) ∧ Below w.heap.size w w')
    (En : ∀ w, Calls Try.prog 13 #[acc W r A S D] w (EncRow 0 [] 2 w))
    (En2 : ∀ w, Calls Try.prog 13 #[acc W2 r2 A2 S2 D2] w (EncRow 12 M 0 w))
    (ho : bits .or .u32 D 1 = d) (ho2 : bits .or .u32 A 1 = y) :
    Calls Try.prog 7 #[acc W r A S D, acc W2 r2 A2 S2 D2, .int .i64 x] w fun e w' => e = .returned (.bool true) ∧ Below w.heap.size w w' := by
  go_enter Try.func7, Try.ntmps7
  go_wp2_with fail
  refine calls_letter ?_
  intro w1 hw1
  have F1 := Lib.hid (show Five w1 w.heap.size W r A S D by rw [hw1.out]; exact (five_new w W r A S D _).alloc _)
  have G1 := Lib.hid (show Five w1 (w.heap.size + 1) W2 r2 A2 S2 D2 by rw [hw1.out]; have := five_new (w.alloc (.cells #[.int .i64 W, .bool r, .int .u32 A, .int .i64 S, .int .u32 D] 24)) W2 r2 A2 S2 D2 24; simpa using this)
  have B1 := Lib.hid (show Below w.heap.size w w1 by rw [hw1.out]; exact ((Below.refl _ _).alloc (Nat.le_refl _) _).alloc (by simp) _)
  obtain ⟨Z, hZ⟩ : ∃ Z, w.heap.size = Z := ⟨_, rfl⟩
  obtain ⟨Y, hY⟩ : ∃ Y, w.heap.size + 1 = Y := ⟨_, rfl⟩
  rw [hY] at G1
  rw [hZ] at F1
  rw [hY, hZ]
  have HZ := Lib.hid hZ
  have HY := Lib.hid hY
  clear hZ hY hw1
  refine (Aw _).mono ?_
  rintro e w2 ⟨rfl, hb⟩
  have F2 := Lib.hid (F1.out.keep hb)
  have G2 := Lib.hid (G1.out.keep hb)
  have B2 := Lib.hid (B1.out.trans (hb.mono B1.out.size))
  clear hb F1 G1 B1
  have Y2 := World.block_lt_of_cell? w2 _ G2.out.c0
  have Z2 := World.block_lt_of_cell? w2 _ F2.out.c0
  simp only at Y2 Z2
  have ZB := B2.out.size
  obtain ⟨k0, k1, k2, k3, k4⟩ := F2.out
  go_wp2_with fail
  refine calls_letter ?_
  intro w3 hw3
  have hk : Below w2.heap.size w2 w3 := by rw [hw3.out]; exact (Below.refl _ _).alloc (Nat.le_refl _) _
  have S3 := Lib.hid (show Slot5 w3 w2.heap.size W r A S D by rw [hw3.out]; exact slot5_new w2 W r A S D _)
  have F3 := Lib.hid (F2.out.keep hk)
  have G3 := Lib.hid (G2.out.keep hk)
  have B3 := Lib.hid (B2.out.trans (hk.mono B2.out.size))
  obtain ⟨X, hX⟩ : ∃ X, w2.heap.size = X := ⟨_, rfl⟩
  rw [hX] at S3 Y2 Z2 ZB
  have ZX : Z ≠ X := by omega
  have oz : ∀ (V : World) (j i : Nat) (v : Value), (V.setCell ⟨X, j, none⟩ v).cell? ⟨Z, i, none⟩ = V.cell? ⟨Z, i, none⟩ := fun V j i v => World.cell?_setCell_other _ _ _ _ (fun e => ZX (congrArg Addr.block e).symm)
  rw [hX]
  clear hX hw3 hk F2 G2 B2 k0 k1 k2 k3 k4
  refine (Pk _).mono ?_
  rintro e w3' ⟨rfl, rfl⟩
  obtain ⟨k0, k1, k2, k3, k4⟩ := F3.out
  obtain ⟨⟨s0, s1, s2, s3, s4⟩, f0, f1, f2, f3, f4⟩ := S3.out
  go_wp2_with fail
  refine calls_letter ?_
  intro w4 hw4
  have S4 := Lib.hid (show Slot5 w4 X p r A S D by rw [hw4.out]; exact ⟨⟨by simp [go_sem, s0], by simp [go_sem, s1], by simp [go_sem, s2], by simp [go_sem, s3], by simp [go_sem, s4]⟩, by simp [go_sem, f0], by simp [go_sem, f1], by simp [go_sem, f2], by simp [go_sem, f3], by simp [go_sem, f4]⟩)
  have F4 := Lib.hid (show Five w4 Z W r A S D by rw [hw4.out]; exact F3.out.other (by omega) _ _)
  have G4 := Lib.hid (show Five w4 Y W2 r2 A2 S2 D2 by rw [hw4.out]; exact G3.out.other (by omega) _ _)
  have B4 := Lib.hid (show Below w.heap.size w w4 by rw [hw4.out]; exact B3.out.setCell (by simp; omega) _)
  clear hw4 S3 F3 G3 B3 k0 k1 k2 k3 k4 s0 s1 s2 s3 s4 f0 f1 f2 f3 f4
  refine (Ri _).mono ?_
  rintro e w5 ⟨rfl, hb⟩
  have S5 := Lib.hid (S4.out.keep hb)
  have F5 := Lib.hid (F4.out.keep hb)
  have G5 := Lib.hid (G4.out.keep hb)
  have B5 := Lib.hid (B4.out.trans (hb.mono B4.out.size))
  clear hb S4 F4 G4 B4
  obtain ⟨k0, k1, k2, k3, k4⟩ := F5.out
  obtain ⟨⟨s0, s1, s2, s3, s4⟩, f0, f1, f2, f3, f4⟩ := S5.out
  iterate 60 (first | go_values | go_skip | go_guarded | go_step | go_upon | go_back | (simp only at *; go_simp))
  refine region_letter 10 (by simp) ?_
  intro w7 hw
  have S7 := Lib.hid (show Slot5 w7 X W false A S d by rw [hw.out]; exact (((((((S5.out.set0 W).set1 r).set2 A).set3 S).set4 D).set1 false).set4 d))
  have F7 := Lib.hid (show Five w7 Z W r A S D by rw [hw.out]; exact ((((((F5.out.other (by omega) _ _).other (by omega) _ _).other (by omega) _ _).other (by omega) _ _).other (by omega) _ _).other (by omega) _ _).other (by omega) _ _)
  have G7 := Lib.hid (show Five w7 Y W2 r2 A2 S2 D2 by rw [hw.out]; exact ((((((G5.out.other (by omega) _ _).other (by omega) _ _).other (by omega) _ _).other (by omega) _ _).other (by omega) _ _).other (by omega) _ _).other (by omega) _ _)
  have B7 := Lib.hid (show Below w.heap.size w w7 by rw [hw.out]; exact ((((((B5.out.setCell (by simp; omega) _).setCell (by simp; omega) _).setCell (by simp; omega) _).setCell (by simp; omega) _).setCell (by simp; omega) _).setCell (by simp; omega) _).setCell (by simp; omega) _)
  clear hw S5 F5 G5 B5 k0 k1 k2 k3 k4 s0 s1 s2 s3 s4 f0 f1 f2 f3 f4
  obtain ⟨⟨s0, s1, s2, s3, s4⟩, f0, f1, f2, f3, f4⟩ := S7.out
  go_wp2_with fail
  refine (R2 _).mono ?_
  rintro e w8 ⟨rfl, hb⟩
  have S8 := Lib.hid (S7.out.keep hb)
  have F8 := Lib.hid (F7.out.keep hb)
  have G8 := Lib.hid (G7.out.keep hb)
  have B8 := Lib.hid (B7.out.trans (hb.mono B7.out.size))
  clear hb S7 F7 G7 B7 s0 s1 s2 s3 s4 f0 f1 f2 f3 f4
  obtain ⟨k0, k1, k2, k3, k4⟩ := F8.out
  obtain ⟨⟨s0, s1, s2, s3, s4⟩, f0, f1, f2, f3, f4⟩ := S8.out
  go_wp2_with fail
  refine code_letter ?_
  intro w9 hw
  have S9 := Lib.hid (show Slot5 w9 X W r y S D by rw [hw.out]; exact ((((((S8.out.set0 W).set1 r).set2 A).set3 S).set4 D).set2 y))
  have F9 := Lib.hid (show Five w9 Z W r A S D by rw [hw.out]; exact (((((F8.out.other (by omega) _ _).other (by omega) _ _).other (by omega) _ _).other (by omega) _ _).other (by omega) _ _).other (by omega) _ _)
  have G9 := Lib.hid (show Five w9 Y W2 r2 A2 S2 D2 by rw [hw.out]; exact (((((G8.out.other (by omega) _ _).other (by omega) _ _).other (by omega) _ _).other (by omega) _ _).other (by omega) _ _).other (by omega) _ _)
  have B9 := Lib.hid (show Below w.heap.size w w9 by rw [hw.out]; exact (((((B8.out.setCell (by simp; omega) _).setCell (by simp; omega) _).setCell (by simp; omega) _).setCell (by simp; omega) _).setCell (by simp; omega) _).setCell (by simp; omega) _)
  clear hw S8 F8 G8 B8 k0 k1 k2 k3 k4 s0 s1 s2 s3 s4 f0 f1 f2 f3 f4
  refine wp_region_ext (by kernel_rfl) (by kernel_rfl) ?_
  intro V hV
  have hV' := hV.out
  subst hV'
  have k0 := ext_cell F9.out.c0
  have k1 := ext_cell F9.out.c1
  have k2 := ext_cell F9.out.c2
  have k3 := ext_cell F9.out.c3
  have k4 := ext_cell F9.out.c4
  have s0 := ext_cell S9.out.five.c0
  have s1 := ext_cell S9.out.five.c1
  have s2 := ext_cell S9.out.five.c2
  have s3 := ext_cell S9.out.five.c3
  have s4 := ext_cell S9.out.five.c4
  repeat (go_big_quiet_step ((first | (go_at_call 14; with_reducible exact ext_of (Ri _)))))
  refine wpQuiet_nil ?_
  intro w10 hw10
  obtain ⟨q, rfl⟩ := hw10
  have hb := ext_below V q
  have F10 := Lib.hid (F9.out.keep hb)
  have G10 := Lib.hid (G9.out.keep hb)
  have B10 := Lib.hid (B9.out.trans (hb.mono B9.out.size))
  obtain ⟨w10, hw⟩ : ∃ x, ext V q = x := ⟨_, rfl⟩
  rw [hw] at F10 G10 B10
  rw [hw]
  clear hw hb hV S9 F9 G9 B9 k0 k1 k2 k3 k4 s0 s1 s2 s3 s4
  obtain ⟨k0, k1, k2, k3, k4⟩ := F10.out
  go_wp2_with fail
  refine (En _).mono ?_
  rintro e w11 ⟨ax, cx, rfl, hown, hb⟩
  have F11 := Lib.hid (F10.out.keep hb)
  have G11 := Lib.hid (G10.out.keep hb)
  have B11 := Lib.hid (B10.out.trans (hb.mono B10.out.size))
  have O11 := Lib.hid hown
  clear hown hb F10 G10 B10 k0 k1 k2 k3 k4
  obtain ⟨g0, g1, g2, g3, g4⟩ := G11.out
  go_wp2_with fail
  refine (En2 _).mono ?_
  rintro e w12 ⟨ay, cy, rfl, hown, hb⟩
  have F12 := Lib.hid (F11.out.keep hb)
  have G12 := Lib.hid (G11.out.keep hb)
  have B12 := Lib.hid (B11.out.trans (hb.mono B11.out.size))
  have O12 := Lib.hid (bown_below O11.out hb)
  have P12 := Lib.hid hown
  clear hown hb F11 G11 B11 O11 g0 g1 g2 g3 g4
  go_wp2_with fail
  refine wp_region_ext (by kernel_rfl) (by kernel_rfl) ?_
  intro V hV
  have hV' := hV.out
  subst hV'
  have k0 := ext_cell F12.out.c0
  have k1 := ext_cell F12.out.c1
  have k2 := ext_cell F12.out.c2
  have k3 := ext_cell F12.out.c3
  have k4 := ext_cell F12.out.c4
  have g0 := ext_cell G12.out.c0
  have g1 := ext_cell G12.out.c1
  have g2 := ext_cell G12.out.c2
  have g3 := ext_cell G12.out.c3
  have g4 := ext_cell G12.out.c4
  repeat (go_big_quiet_step (fail))
  refine wpQuiet_nil ?_
  intro w13 hw13
  obtain ⟨q, rfl⟩ := hw13
  go_wp2_with fail
  go_ret
  exact ⟨rfl, B12.out.trans ((ext_below V q).mono B12.out.size)⟩

set_option maxRecDepth 100000 in
set_option maxHeartbeats 2000000 in
theorem parts_yn (L M : List Int) (W : Int) (r : Bool) (A S D x p d y : Int) (W2 : Int) (r2 : Bool) (A2 S2 D2 : Int) (w : World)
    (Aw : ∀ w, Calls Try.prog 9 #[] w fun e w' => e = .returned (.bool true) ∧ Below w.heap.size w w')
    (Pk : ∀ w, Calls Try.prog 19 #[.int .i64 x, .int .i64 8] w fun e w' => e = .returned (.int .i64 p) ∧ w = w')
    (Ri : ∀ w, Calls Try.prog 14 #[acc W r A S D] w fun e w' => e = .returned (.bool true) ∧ Below w.heap.size w w')
    (R2 : ∀ w, Calls Try.prog 14 #[acc W false A S d] w fun e w' => e = .returned (.bool false) ∧ Below w.heap.size w w')
    (En : ∀ w, Calls Try.prog 13 #[acc W r A S D] w (EncRow 12 L 0 w))
    (En2 : ∀ w, Calls Try.prog 13 #[acc W2 r2 A2 S2 D2] w (EncRow 0 [] 2 w))
    (ho : bits .or .u32 D 1 = d) (ho2 : bits .or .u32 A 1 = y)
    (R1 : ∀ w, Calls Try.prog 14 #[acc p r A S D] w fun e w' => e = .returned (.bool true) ∧ Below w.heap.size w w')
    (R3 : ∀ w, Calls Try.prog 14 #[acc W r y S D] w fun e w' => e = .returned (.bool (S == 1)) ∧ Below w.heap.size w w') :
    Calls Try.prog 7 #[acc W r A S D, acc W2 r2 A2 S2 D2, .int .i64 x] w fun e w' => e = .returned (.bool true) ∧ Below w.heap.size w w' := by
  go_enter Try.func7, Try.ntmps7
  go_wp2_with fail
  refine calls_letter ?_
  intro w1 hw1
  have F1 := Lib.hid (show Five w1 w.heap.size W r A S D by rw [hw1.out]; exact (five_new w W r A S D _).alloc _)
  have G1 := Lib.hid (show Five w1 (w.heap.size + 1) W2 r2 A2 S2 D2 by rw [hw1.out]; have := five_new (w.alloc (.cells #[.int .i64 W, .bool r, .int .u32 A, .int .i64 S, .int .u32 D] 24)) W2 r2 A2 S2 D2 24; simpa using this)
  have B1 := Lib.hid (show Below w.heap.size w w1 by rw [hw1.out]; exact ((Below.refl _ _).alloc (Nat.le_refl _) _).alloc (by simp) _)
  obtain ⟨Z, hZ⟩ : ∃ Z, w.heap.size = Z := ⟨_, rfl⟩
  obtain ⟨Y, hY⟩ : ∃ Y, w.heap.size + 1 = Y := ⟨_, rfl⟩
  rw [hY] at G1
  rw [hZ] at F1
  rw [hY, hZ]
  have HZ := Lib.hid hZ
  have HY := Lib.hid hY
  clear hZ hY hw1
  refine (Aw _).mono ?_
  rintro e w2 ⟨rfl, hb⟩
  have F2 := Lib.hid (F1.out.keep hb)
  have G2 := Lib.hid (G1.out.keep hb)
  have B2 := Lib.hid (B1.out.trans (hb.mono B1.out.size))
  clear hb F1 G1 B1
  have Y2 := World.block_lt_of_cell? w2 _ G2.out.c0
  have Z2 := World.block_lt_of_cell? w2 _ F2.out.c0
  simp only at Y2 Z2
  have ZB := B2.out.size
  obtain ⟨k0, k1, k2, k3, k4⟩ := F2.out
  go_wp2_with fail
  refine calls_letter ?_
  intro w3 hw3
  have hk : Below w2.heap.size w2 w3 := by rw [hw3.out]; exact (Below.refl _ _).alloc (Nat.le_refl _) _
  have S3 := Lib.hid (show Slot5 w3 w2.heap.size W r A S D by rw [hw3.out]; exact slot5_new w2 W r A S D _)
  have F3 := Lib.hid (F2.out.keep hk)
  have G3 := Lib.hid (G2.out.keep hk)
  have B3 := Lib.hid (B2.out.trans (hk.mono B2.out.size))
  obtain ⟨X, hX⟩ : ∃ X, w2.heap.size = X := ⟨_, rfl⟩
  rw [hX] at S3 Y2 Z2 ZB
  have ZX : Z ≠ X := by omega
  have oz : ∀ (V : World) (j i : Nat) (v : Value), (V.setCell ⟨X, j, none⟩ v).cell? ⟨Z, i, none⟩ = V.cell? ⟨Z, i, none⟩ := fun V j i v => World.cell?_setCell_other _ _ _ _ (fun e => ZX (congrArg Addr.block e).symm)
  rw [hX]
  clear hX hw3 hk F2 G2 B2 k0 k1 k2 k3 k4
  refine (Pk _).mono ?_
  rintro e w3' ⟨rfl, rfl⟩
  obtain ⟨k0, k1, k2, k3, k4⟩ := F3.out
  obtain ⟨⟨s0, s1, s2, s3, s4⟩, f0, f1, f2, f3, f4⟩ := S3.out
  go_wp2_with fail
  refine calls_letter ?_
  intro w4 hw4
  have S4 := Lib.hid (show Slot5 w4 X p r A S D by rw [hw4.out]; exact ⟨⟨by simp [go_sem, s0], by simp [go_sem, s1], by simp [go_sem, s2], by simp [go_sem, s3], by simp [go_sem, s4]⟩, by simp [go_sem, f0], by simp [go_sem, f1], by simp [go_sem, f2], by simp [go_sem, f3], by simp [go_sem, f4]⟩)
  have F4 := Lib.hid (show Five w4 Z W r A S D by rw [hw4.out]; exact F3.out.other (by omega) _ _)
  have G4 := Lib.hid (show Five w4 Y W2 r2 A2 S2 D2 by rw [hw4.out]; exact G3.out.other (by omega) _ _)
  have B4 := Lib.hid (show Below w.heap.size w w4 by rw [hw4.out]; exact B3.out.setCell (by simp; omega) _)
  clear hw4 S3 F3 G3 B3 k0 k1 k2 k3 k4 s0 s1 s2 s3 s4 f0 f1 f2 f3 f4
  refine (Ri _).mono ?_
  rintro e w5 ⟨rfl, hb⟩
  have S5 := Lib.hid (S4.out.keep hb)
  have F5 := Lib.hid (F4.out.keep hb)
  have G5 := Lib.hid (G4.out.keep hb)
  have B5 := Lib.hid (B4.out.trans (hb.mono B4.out.size))
  clear hb S4 F4 G4 B4
  obtain ⟨k0, k1, k2, k3, k4⟩ := F5.out
  obtain ⟨⟨s0, s1, s2, s3, s4⟩, f0, f1, f2, f3, f4⟩ := S5.out
  go_wp2_with fail
  refine (R1 _).mono ?_
  rintro e w6 ⟨rfl, hb⟩
  have S6 := Lib.hid (S5.out.keep hb)
  have F6 := Lib.hid (F5.out.keep hb)
  have G6 := Lib.hid (G5.out.keep hb)
  have B6 := Lib.hid (B5.out.trans (hb.mono B5.out.size))
  clear hb S5 F5 G5 B5 k0 k1 k2 k3 k4 s0 s1 s2 s3 s4 f0 f1 f2 f3 f4
  obtain ⟨k0, k1, k2, k3, k4⟩ := F6.out
  obtain ⟨⟨s0, s1, s2, s3, s4⟩, f0, f1, f2, f3, f4⟩ := S6.out
  iterate 59 (first | go_values | go_skip | go_guarded | go_step | go_upon | go_back | (simp only at *; go_simp))
  refine region_letter 10 (by simp) ?_
  intro w7 hw
  have S7 := Lib.hid (show Slot5 w7 X W false A S d by rw [hw.out]; exact (((((((S6.out.set0 W).set1 r).set2 A).set3 S).set4 D).set1 false).set4 d))
  have F7 := Lib.hid (show Five w7 Z W r A S D by rw [hw.out]; exact ((((((F6.out.other (by omega) _ _).other (by omega) _ _).other (by omega) _ _).other (by omega) _ _).other (by omega) _ _).other (by omega) _ _).other (by omega) _ _)
  have G7 := Lib.hid (show Five w7 Y W2 r2 A2 S2 D2 by rw [hw.out]; exact ((((((G6.out.other (by omega) _ _).other (by omega) _ _).other (by omega) _ _).other (by omega) _ _).other (by omega) _ _).other (by omega) _ _).other (by omega) _ _)
  have B7 := Lib.hid (show Below w.heap.size w w7 by rw [hw.out]; exact ((((((B6.out.setCell (by simp; omega) _).setCell (by simp; omega) _).setCell (by simp; omega) _).setCell (by simp; omega) _).setCell (by simp; omega) _).setCell (by simp; omega) _).setCell (by simp; omega) _)
  clear hw S6 F6 G6 B6 k0 k1 k2 k3 k4 s0 s1 s2 s3 s4 f0 f1 f2 f3 f4
  obtain ⟨⟨s0, s1, s2, s3, s4⟩, f0, f1, f2, f3, f4⟩ := S7.out
  go_wp2_with fail
  refine (R2 _).mono ?_
  rintro e w8 ⟨rfl, hb⟩
  have S8 := Lib.hid (S7.out.keep hb)
  have F8 := Lib.hid (F7.out.keep hb)
  have G8 := Lib.hid (G7.out.keep hb)
  have B8 := Lib.hid (B7.out.trans (hb.mono B7.out.size))
  clear hb S7 F7 G7 B7 s0 s1 s2 s3 s4 f0 f1 f2 f3 f4
  obtain ⟨k0, k1, k2, k3, k4⟩ := F8.out
  obtain ⟨⟨s0, s1, s2, s3, s4⟩, f0, f1, f2, f3, f4⟩ := S8.out
  go_wp2_with fail
  refine code_letter ?_
  intro w9 hw
  have S9 := Lib.hid (show Slot5 w9 X W r y S D by rw [hw.out]; exact ((((((S8.out.set0 W).set1 r).set2 A).set3 S).set4 D).set2 y))
  have F9 := Lib.hid (show Five w9 Z W r A S D by rw [hw.out]; exact (((((F8.out.other (by omega) _ _).other (by omega) _ _).other (by omega) _ _).other (by omega) _ _).other (by omega) _ _).other (by omega) _ _)
  have G9 := Lib.hid (show Five w9 Y W2 r2 A2 S2 D2 by rw [hw.out]; exact (((((G8.out.other (by omega) _ _).other (by omega) _ _).other (by omega) _ _).other (by omega) _ _).other (by omega) _ _).other (by omega) _ _)
  have B9 := Lib.hid (show Below w.heap.size w w9 by rw [hw.out]; exact (((((B8.out.setCell (by simp; omega) _).setCell (by simp; omega) _).setCell (by simp; omega) _).setCell (by simp; omega) _).setCell (by simp; omega) _).setCell (by simp; omega) _)
  clear hw S8 F8 G8 B8 k0 k1 k2 k3 k4 s0 s1 s2 s3 s4 f0 f1 f2 f3 f4
  refine wp_region_ext (by kernel_rfl) (by kernel_rfl) ?_
  intro V hV
  have hV' := hV.out
  subst hV'
  have k0 := ext_cell F9.out.c0
  have k1 := ext_cell F9.out.c1
  have k2 := ext_cell F9.out.c2
  have k3 := ext_cell F9.out.c3
  have k4 := ext_cell F9.out.c4
  have s0 := ext_cell S9.out.five.c0
  have s1 := ext_cell S9.out.five.c1
  have s2 := ext_cell S9.out.five.c2
  have s3 := ext_cell S9.out.five.c3
  have s4 := ext_cell S9.out.five.c4
  repeat (go_big_quiet_step ((first | (go_at_call 14; with_reducible exact ext_of (Ri _)) | (go_at_call 14; with_reducible exact ext_of (R3 _)))))
  refine wpQuiet_nil ?_
  intro w10 hw10
  obtain ⟨q, rfl⟩ := hw10
  have hb := ext_below V q
  have F10 := Lib.hid (F9.out.keep hb)
  have G10 := Lib.hid (G9.out.keep hb)
  have B10 := Lib.hid (B9.out.trans (hb.mono B9.out.size))
  obtain ⟨w10, hw⟩ : ∃ x, ext V q = x := ⟨_, rfl⟩
  rw [hw] at F10 G10 B10
  rw [hw]
  clear hw hb hV S9 F9 G9 B9 k0 k1 k2 k3 k4 s0 s1 s2 s3 s4
  obtain ⟨k0, k1, k2, k3, k4⟩ := F10.out
  go_wp2_with fail
  refine (En _).mono ?_
  rintro e w11 ⟨ax, cx, rfl, hown, hb⟩
  have F11 := Lib.hid (F10.out.keep hb)
  have G11 := Lib.hid (G10.out.keep hb)
  have B11 := Lib.hid (B10.out.trans (hb.mono B10.out.size))
  have O11 := Lib.hid hown
  clear hown hb F10 G10 B10 k0 k1 k2 k3 k4
  obtain ⟨g0, g1, g2, g3, g4⟩ := G11.out
  go_wp2_with fail
  refine (En2 _).mono ?_
  rintro e w12 ⟨ay, cy, rfl, hown, hb⟩
  have F12 := Lib.hid (F11.out.keep hb)
  have G12 := Lib.hid (G11.out.keep hb)
  have B12 := Lib.hid (B11.out.trans (hb.mono B11.out.size))
  have O12 := Lib.hid (bown_below O11.out hb)
  have P12 := Lib.hid hown
  clear hown hb F11 G11 B11 O11 g0 g1 g2 g3 g4
  go_wp2_with fail
  refine wp_region_ext (by kernel_rfl) (by kernel_rfl) ?_
  intro V hV
  have hV' := hV.out
  subst hV'
  have k0 := ext_cell F12.out.c0
  have k1 := ext_cell F12.out.c1
  have k2 := ext_cell F12.out.c2
  have k3 := ext_cell F12.out.c3
  have k4 := ext_cell F12.out.c4
  have g0 := ext_cell G12.out.c0
  have g1 := ext_cell G12.out.c1
  have g2 := ext_cell G12.out.c2
  have g3 := ext_cell G12.out.c3
  have g4 := ext_cell G12.out.c4
  repeat (go_big_quiet_step (fail))
  refine wpQuiet_nil ?_
  intro w13 hw13
  obtain ⟨q, rfl⟩ := hw13
  go_wp2_with fail
  go_ret
  exact ⟨rfl, B12.out.trans ((ext_below V q).mono B12.out.size)⟩

set_option maxRecDepth 100000 in
set_option maxHeartbeats 2000000 in
theorem parts_eq (L M : List Int) (W : Int) (r : Bool) (A S D x p d y : Int) (w : World)
    (Aw : ∀ w, Calls Try.prog 9 #[] w fun e w' => e = .returned (.bool true) ∧ Below w.heap.size w w')
    (Pk : ∀ w, Calls Try.prog 19 #[.int .i64 x, .int .i64 8] w fun e w' => e = .returned (.int .i64 p) ∧ w = w')
    (Ri : ∀ w, Calls Try.prog 14 #[acc W r A S D] w fun e w' => e = .returned (.bool true) ∧ Below w.heap.size w w')
    (R2 : ∀ w, Calls Try.prog 14 #[acc W false A S d] w fun e w' => e = .returned (.bool false) ∧ Below w.heap.size w w')
    (En : ∀ w, Calls Try.prog 13 #[acc W r A S D] w (EncRow 12 L 0 w))
    (En2 : ∀ w, Calls Try.prog 13 #[acc W r A S D] w (EncRow 12 M 0 w))
    (ho : bits .or .u32 D 1 = d) (ho2 : bits .or .u32 A 1 = y)
    (R1 : ∀ w, Calls Try.prog 14 #[acc p r A S D] w fun e w' => e = .returned (.bool true) ∧ Below w.heap.size w w')
    (R3 : ∀ w, Calls Try.prog 14 #[acc W r y S D] w fun e w' => e = .returned (.bool (S == 1)) ∧ Below w.heap.size w w')
    (Sm : ∀ wz g cg h ch x z, wz.ownsRow x 5 1 (.slice (some ⟨g, 0, none⟩) 12 cg) 12 (bv L) → wz.ownsRow z 5 1 (.slice (some ⟨h, 0, none⟩) 12 ch) 12 (bv M) → Calls Try.prog 18 #[.slice (some ⟨g, 0, none⟩) 12 cg, .slice (some ⟨h, 0, none⟩) 12 ch] wz fun e w' => e = .returned (.bool true) ∧ Below wz.heap.size wz w') :
    Calls Try.prog 7 #[acc W r A S D, acc W r A S D, .int .i64 x] w fun e w' => e = .returned (.bool true) ∧ Below w.heap.size w w' := by
  go_enter Try.func7, Try.ntmps7
  go_wp2_with fail
  refine calls_letter ?_
  intro w1 hw1
  have F1 := Lib.hid (show Five w1 w.heap.size W r A S D by rw [hw1.out]; exact (five_new w W r A S D _).alloc _)
  have G1 := Lib.hid (show Five w1 (w.heap.size + 1) W r A S D by rw [hw1.out]; have := five_new (w.alloc (.cells #[.int .i64 W, .bool r, .int .u32 A, .int .i64 S, .int .u32 D] 24)) W r A S D 24; simpa using this)
  have B1 := Lib.hid (show Below w.heap.size w w1 by rw [hw1.out]; exact ((Below.refl _ _).alloc (Nat.le_refl _) _).alloc (by simp) _)
  obtain ⟨Z, hZ⟩ : ∃ Z, w.heap.size = Z := ⟨_, rfl⟩
  obtain ⟨Y, hY⟩ : ∃ Y, w.heap.size + 1 = Y := ⟨_, rfl⟩
  rw [hY] at G1
  rw [hZ] at F1
  rw [hY, hZ]
  have HZ := Lib.hid hZ
  have HY := Lib.hid hY
  clear hZ hY hw1
  refine (Aw _).mono ?_
  rintro e w2 ⟨rfl, hb⟩
  have F2 := Lib.hid (F1.out.keep hb)
  have G2 := Lib.hid (G1.out.keep hb)
  have B2 := Lib.hid (B1.out.trans (hb.mono B1.out.size))
  clear hb F1 G1 B1
  have Y2 := World.block_lt_of_cell? w2 _ G2.out.c0
  have Z2 := World.block_lt_of_cell? w2 _ F2.out.c0
  simp only at Y2 Z2
  have ZB := B2.out.size
  obtain ⟨k0, k1, k2, k3, k4⟩ := F2.out
  go_wp2_with fail
  refine calls_letter ?_
  intro w3 hw3
  have hk : Below w2.heap.size w2 w3 := by rw [hw3.out]; exact (Below.refl _ _).alloc (Nat.le_refl _) _
  have S3 := Lib.hid (show Slot5 w3 w2.heap.size W r A S D by rw [hw3.out]; exact slot5_new w2 W r A S D _)
  have F3 := Lib.hid (F2.out.keep hk)
  have G3 := Lib.hid (G2.out.keep hk)
  have B3 := Lib.hid (B2.out.trans (hk.mono B2.out.size))
  obtain ⟨X, hX⟩ : ∃ X, w2.heap.size = X := ⟨_, rfl⟩
  rw [hX] at S3 Y2 Z2 ZB
  have ZX : Z ≠ X := by omega
  have oz : ∀ (V : World) (j i : Nat) (v : Value), (V.setCell ⟨X, j, none⟩ v).cell? ⟨Z, i, none⟩ = V.cell? ⟨Z, i, none⟩ := fun V j i v => World.cell?_setCell_other _ _ _ _ (fun e => ZX (congrArg Addr.block e).symm)
  rw [hX]
  clear hX hw3 hk F2 G2 B2 k0 k1 k2 k3 k4
  refine (Pk _).mono ?_
  rintro e w3' ⟨rfl, rfl⟩
  obtain ⟨k0, k1, k2, k3, k4⟩ := F3.out
  obtain ⟨⟨s0, s1, s2, s3, s4⟩, f0, f1, f2, f3, f4⟩ := S3.out
  go_wp2_with fail
  refine calls_letter ?_
  intro w4 hw4
  have S4 := Lib.hid (show Slot5 w4 X p r A S D by rw [hw4.out]; exact ⟨⟨by simp [go_sem, s0], by simp [go_sem, s1], by simp [go_sem, s2], by simp [go_sem, s3], by simp [go_sem, s4]⟩, by simp [go_sem, f0], by simp [go_sem, f1], by simp [go_sem, f2], by simp [go_sem, f3], by simp [go_sem, f4]⟩)
  have F4 := Lib.hid (show Five w4 Z W r A S D by rw [hw4.out]; exact F3.out.other (by omega) _ _)
  have G4 := Lib.hid (show Five w4 Y W r A S D by rw [hw4.out]; exact G3.out.other (by omega) _ _)
  have B4 := Lib.hid (show Below w.heap.size w w4 by rw [hw4.out]; exact B3.out.setCell (by simp; omega) _)
  clear hw4 S3 F3 G3 B3 k0 k1 k2 k3 k4 s0 s1 s2 s3 s4 f0 f1 f2 f3 f4
  refine (Ri _).mono ?_
  rintro e w5 ⟨rfl, hb⟩
  have S5 := Lib.hid (S4.out.keep hb)
  have F5 := Lib.hid (F4.out.keep hb)
  have G5 := Lib.hid (G4.out.keep hb)
  have B5 := Lib.hid (B4.out.trans (hb.mono B4.out.size))
  clear hb S4 F4 G4 B4
  obtain ⟨k0, k1, k2, k3, k4⟩ := F5.out
  obtain ⟨⟨s0, s1, s2, s3, s4⟩, f0, f1, f2, f3, f4⟩ := S5.out
  go_wp2_with fail
  refine (R1 _).mono ?_
  rintro e w6 ⟨rfl, hb⟩
  have S6 := Lib.hid (S5.out.keep hb)
  have F6 := Lib.hid (F5.out.keep hb)
  have G6 := Lib.hid (G5.out.keep hb)
  have B6 := Lib.hid (B5.out.trans (hb.mono B5.out.size))
  clear hb S5 F5 G5 B5 k0 k1 k2 k3 k4 s0 s1 s2 s3 s4 f0 f1 f2 f3 f4
  obtain ⟨k0, k1, k2, k3, k4⟩ := F6.out
  obtain ⟨⟨s0, s1, s2, s3, s4⟩, f0, f1, f2, f3, f4⟩ := S6.out
  iterate 59 (first | go_values | go_skip | go_guarded | go_step | go_upon | go_back | (simp only at *; go_simp))
  refine region_letter 10 (by simp) ?_
  intro w7 hw
  have S7 := Lib.hid (show Slot5 w7 X W false A S d by rw [hw.out]; exact (((((((S6.out.set0 W).set1 r).set2 A).set3 S).set4 D).set1 false).set4 d))
  have F7 := Lib.hid (show Five w7 Z W r A S D by rw [hw.out]; exact ((((((F6.out.other (by omega) _ _).other (by omega) _ _).other (by omega) _ _).other (by omega) _ _).other (by omega) _ _).other (by omega) _ _).other (by omega) _ _)
  have G7 := Lib.hid (show Five w7 Y W r A S D by rw [hw.out]; exact ((((((G6.out.other (by omega) _ _).other (by omega) _ _).other (by omega) _ _).other (by omega) _ _).other (by omega) _ _).other (by omega) _ _).other (by omega) _ _)
  have B7 := Lib.hid (show Below w.heap.size w w7 by rw [hw.out]; exact ((((((B6.out.setCell (by simp; omega) _).setCell (by simp; omega) _).setCell (by simp; omega) _).setCell (by simp; omega) _).setCell (by simp; omega) _).setCell (by simp; omega) _).setCell (by simp; omega) _)
  clear hw S6 F6 G6 B6 k0 k1 k2 k3 k4 s0 s1 s2 s3 s4 f0 f1 f2 f3 f4
  obtain ⟨⟨s0, s1, s2, s3, s4⟩, f0, f1, f2, f3, f4⟩ := S7.out
  go_wp2_with fail
  refine (R2 _).mono ?_
  rintro e w8 ⟨rfl, hb⟩
  have S8 := Lib.hid (S7.out.keep hb)
  have F8 := Lib.hid (F7.out.keep hb)
  have G8 := Lib.hid (G7.out.keep hb)
  have B8 := Lib.hid (B7.out.trans (hb.mono B7.out.size))
  clear hb S7 F7 G7 B7 s0 s1 s2 s3 s4 f0 f1 f2 f3 f4
  obtain ⟨k0, k1, k2, k3, k4⟩ := F8.out
  obtain ⟨⟨s0, s1, s2, s3, s4⟩, f0, f1, f2, f3, f4⟩ := S8.out
  go_wp2_with fail
  refine code_letter ?_
  intro w9 hw
  have S9 := Lib.hid (show Slot5 w9 X W r y S D by rw [hw.out]; exact ((((((S8.out.set0 W).set1 r).set2 A).set3 S).set4 D).set2 y))
  have F9 := Lib.hid (show Five w9 Z W r A S D by rw [hw.out]; exact (((((F8.out.other (by omega) _ _).other (by omega) _ _).other (by omega) _ _).other (by omega) _ _).other (by omega) _ _).other (by omega) _ _)
  have G9 := Lib.hid (show Five w9 Y W r A S D by rw [hw.out]; exact (((((G8.out.other (by omega) _ _).other (by omega) _ _).other (by omega) _ _).other (by omega) _ _).other (by omega) _ _).other (by omega) _ _)
  have B9 := Lib.hid (show Below w.heap.size w w9 by rw [hw.out]; exact (((((B8.out.setCell (by simp; omega) _).setCell (by simp; omega) _).setCell (by simp; omega) _).setCell (by simp; omega) _).setCell (by simp; omega) _).setCell (by simp; omega) _)
  clear hw S8 F8 G8 B8 k0 k1 k2 k3 k4 s0 s1 s2 s3 s4 f0 f1 f2 f3 f4
  refine wp_region_ext (by kernel_rfl) (by kernel_rfl) ?_
  intro V hV
  have hV' := hV.out
  subst hV'
  have k0 := ext_cell F9.out.c0
  have k1 := ext_cell F9.out.c1
  have k2 := ext_cell F9.out.c2
  have k3 := ext_cell F9.out.c3
  have k4 := ext_cell F9.out.c4
  have s0 := ext_cell S9.out.five.c0
  have s1 := ext_cell S9.out.five.c1
  have s2 := ext_cell S9.out.five.c2
  have s3 := ext_cell S9.out.five.c3
  have s4 := ext_cell S9.out.five.c4
  repeat (go_big_quiet_step ((first | (go_at_call 14; with_reducible exact ext_of (Ri _)) | (go_at_call 14; with_reducible exact ext_of (R3 _)))))
  refine wpQuiet_nil ?_
  intro w10 hw10
  obtain ⟨q, rfl⟩ := hw10
  have hb := ext_below V q
  have F10 := Lib.hid (F9.out.keep hb)
  have G10 := Lib.hid (G9.out.keep hb)
  have B10 := Lib.hid (B9.out.trans (hb.mono B9.out.size))
  obtain ⟨w10, hw⟩ : ∃ x, ext V q = x := ⟨_, rfl⟩
  rw [hw] at F10 G10 B10
  rw [hw]
  clear hw hb hV S9 F9 G9 B9 k0 k1 k2 k3 k4 s0 s1 s2 s3 s4
  obtain ⟨k0, k1, k2, k3, k4⟩ := F10.out
  go_wp2_with fail
  refine (En _).mono ?_
  rintro e w11 ⟨ax, cx, rfl, hown, hb⟩
  have F11 := Lib.hid (F10.out.keep hb)
  have G11 := Lib.hid (G10.out.keep hb)
  have B11 := Lib.hid (B10.out.trans (hb.mono B10.out.size))
  have O11 := Lib.hid hown
  clear hown hb F10 G10 B10 k0 k1 k2 k3 k4
  obtain ⟨g0, g1, g2, g3, g4⟩ := G11.out
  go_wp2_with fail
  refine (En2 _).mono ?_
  rintro e w12 ⟨ay, cy, rfl, hown, hb⟩
  have F12 := Lib.hid (F11.out.keep hb)
  have G12 := Lib.hid (G11.out.keep hb)
  have B12 := Lib.hid (B11.out.trans (hb.mono B11.out.size))
  have O12 := Lib.hid (bown_below O11.out hb)
  have P12 := Lib.hid hown
  clear hown hb F11 G11 B11 O11 g0 g1 g2 g3 g4
  go_wp2_with fail
  refine wp_region_ext (by kernel_rfl) (by kernel_rfl) ?_
  intro V hV
  have hV' := hV.out
  subst hV'
  have k0 := ext_cell F12.out.c0
  have k1 := ext_cell F12.out.c1
  have k2 := ext_cell F12.out.c2
  have k3 := ext_cell F12.out.c3
  have k4 := ext_cell F12.out.c4
  have g0 := ext_cell G12.out.c0
  have g1 := ext_cell G12.out.c1
  have g2 := ext_cell G12.out.c2
  have g3 := ext_cell G12.out.c3
  have g4 := ext_cell G12.out.c4
  obtain ⟨gx, rfl⟩ := KitBytes.r_some O12.out (.inl (by omega))
  obtain ⟨gy, rfl⟩ := KitBytes.r_some P12.out (.inl (by omega))
  have So := fun q => Sm (ext V q) gx cx gy cy _ _ (bown_below O12.out (ext_below V q)) (bown_below P12.out (ext_below V q))
  repeat (go_big_quiet_step ((go_at_call 18; exact ext_of (So _))))
  refine wpQuiet_nil ?_
  intro w13 hw13
  obtain ⟨q, rfl⟩ := hw13
  go_wp2_with fail
  go_ret
  exact ⟨rfl, B12.out.trans ((ext_below V q).mono B12.out.size)⟩

set_option maxRecDepth 100000 in
set_option maxHeartbeats 2000000 in
theorem parts_ne0 (L M : List Int) (W : Int) (r : Bool) (A S D x p d y : Int) (W2 : Int) (r2 : Bool) (A2 S2 D2 : Int) (w : World)
    (Aw : ∀ w, Calls Try.prog 9 #[] w fun e w' => e = .returned (.bool true) ∧ Below w.heap.size w w')
    (Pk : ∀ w, Calls Try.prog 19 #[.int .i64 x, .int .i64 8] w fun e w' => e = .returned (.int .i64 p) ∧ w = w')
    (Ri : ∀ w, Calls Try.prog 14 #[acc W r A S D] w fun e w' => e = .returned (.bool true) ∧ Below w.heap.size w w')
    (R2 : ∀ w, Calls Try.prog 14 #[acc W false A S d] w fun e w' => e = .returned (.bool false) ∧ Below w.heap.size w w')
    (En : ∀ w, Calls Try.prog 13 #[acc W r A S D] w (EncRow 12 L 0 w))
    (En2 : ∀ w, Calls Try.prog 13 #[acc W2 r2 A2 S2 D2] w (EncRow 12 M 0 w))
    (ho : bits .or .u32 D 1 = d) (ho2 : bits .or .u32 A 1 = y)
    (R1 : ∀ w, Calls Try.prog 14 #[acc p r A S D] w fun e w' => e = .returned (.bool true) ∧ Below w.heap.size w w')
    (R3 : ∀ w, Calls Try.prog 14 #[acc W r y S D] w fun e w' => e = .returned (.bool (S == 1)) ∧ Below w.heap.size w w')
    (Sm : ∀ wz g cg h ch x z, wz.ownsRow x 5 1 (.slice (some ⟨g, 0, none⟩) 12 cg) 12 (bv L) → wz.ownsRow z 5 1 (.slice (some ⟨h, 0, none⟩) 12 ch) 12 (bv M) → Calls Try.prog 18 #[.slice (some ⟨g, 0, none⟩) 12 cg, .slice (some ⟨h, 0, none⟩) 12 ch] wz fun e w' => e = .returned (.bool false) ∧ Below wz.heap.size wz w')
    (hne : ¬ W = W2) :
    Calls Try.prog 7 #[acc W r A S D, acc W2 r2 A2 S2 D2, .int .i64 x] w fun e w' => e = .returned (.bool true) ∧ Below w.heap.size w w' := by
  go_enter Try.func7, Try.ntmps7
  go_wp2_with fail
  refine calls_letter ?_
  intro w1 hw1
  have F1 := Lib.hid (show Five w1 w.heap.size W r A S D by rw [hw1.out]; exact (five_new w W r A S D _).alloc _)
  have G1 := Lib.hid (show Five w1 (w.heap.size + 1) W2 r2 A2 S2 D2 by rw [hw1.out]; have := five_new (w.alloc (.cells #[.int .i64 W, .bool r, .int .u32 A, .int .i64 S, .int .u32 D] 24)) W2 r2 A2 S2 D2 24; simpa using this)
  have B1 := Lib.hid (show Below w.heap.size w w1 by rw [hw1.out]; exact ((Below.refl _ _).alloc (Nat.le_refl _) _).alloc (by simp) _)
  obtain ⟨Z, hZ⟩ : ∃ Z, w.heap.size = Z := ⟨_, rfl⟩
  obtain ⟨Y, hY⟩ : ∃ Y, w.heap.size + 1 = Y := ⟨_, rfl⟩
  rw [hY] at G1
  rw [hZ] at F1
  rw [hY, hZ]
  have HZ := Lib.hid hZ
  have HY := Lib.hid hY
  clear hZ hY hw1
  refine (Aw _).mono ?_
  rintro e w2 ⟨rfl, hb⟩
  have F2 := Lib.hid (F1.out.keep hb)
  have G2 := Lib.hid (G1.out.keep hb)
  have B2 := Lib.hid (B1.out.trans (hb.mono B1.out.size))
  clear hb F1 G1 B1
  have Y2 := World.block_lt_of_cell? w2 _ G2.out.c0
  have Z2 := World.block_lt_of_cell? w2 _ F2.out.c0
  simp only at Y2 Z2
  have ZB := B2.out.size
  obtain ⟨k0, k1, k2, k3, k4⟩ := F2.out
  go_wp2_with fail
  refine calls_letter ?_
  intro w3 hw3
  have hk : Below w2.heap.size w2 w3 := by rw [hw3.out]; exact (Below.refl _ _).alloc (Nat.le_refl _) _
  have S3 := Lib.hid (show Slot5 w3 w2.heap.size W r A S D by rw [hw3.out]; exact slot5_new w2 W r A S D _)
  have F3 := Lib.hid (F2.out.keep hk)
  have G3 := Lib.hid (G2.out.keep hk)
  have B3 := Lib.hid (B2.out.trans (hk.mono B2.out.size))
  obtain ⟨X, hX⟩ : ∃ X, w2.heap.size = X := ⟨_, rfl⟩
  rw [hX] at S3 Y2 Z2 ZB
  have ZX : Z ≠ X := by omega
  have oz : ∀ (V : World) (j i : Nat) (v : Value), (V.setCell ⟨X, j, none⟩ v).cell? ⟨Z, i, none⟩ = V.cell? ⟨Z, i, none⟩ := fun V j i v => World.cell?_setCell_other _ _ _ _ (fun e => ZX (congrArg Addr.block e).symm)
  rw [hX]
  clear hX hw3 hk F2 G2 B2 k0 k1 k2 k3 k4
  refine (Pk _).mono ?_
  rintro e w3' ⟨rfl, rfl⟩
  obtain ⟨k0, k1, k2, k3, k4⟩ := F3.out
  obtain ⟨⟨s0, s1, s2, s3, s4⟩, f0, f1, f2, f3, f4⟩ := S3.out
  go_wp2_with fail
  refine calls_letter ?_
  intro w4 hw4
  have S4 := Lib.hid (show Slot5 w4 X p r A S D by rw [hw4.out]; exact ⟨⟨by simp [go_sem, s0], by simp [go_sem, s1], by simp [go_sem, s2], by simp [go_sem, s3], by simp [go_sem, s4]⟩, by simp [go_sem, f0], by simp [go_sem, f1], by simp [go_sem, f2], by simp [go_sem, f3], by simp [go_sem, f4]⟩)
  have F4 := Lib.hid (show Five w4 Z W r A S D by rw [hw4.out]; exact F3.out.other (by omega) _ _)
  have G4 := Lib.hid (show Five w4 Y W2 r2 A2 S2 D2 by rw [hw4.out]; exact G3.out.other (by omega) _ _)
  have B4 := Lib.hid (show Below w.heap.size w w4 by rw [hw4.out]; exact B3.out.setCell (by simp; omega) _)
  clear hw4 S3 F3 G3 B3 k0 k1 k2 k3 k4 s0 s1 s2 s3 s4 f0 f1 f2 f3 f4
  refine (Ri _).mono ?_
  rintro e w5 ⟨rfl, hb⟩
  have S5 := Lib.hid (S4.out.keep hb)
  have F5 := Lib.hid (F4.out.keep hb)
  have G5 := Lib.hid (G4.out.keep hb)
  have B5 := Lib.hid (B4.out.trans (hb.mono B4.out.size))
  clear hb S4 F4 G4 B4
  obtain ⟨k0, k1, k2, k3, k4⟩ := F5.out
  obtain ⟨⟨s0, s1, s2, s3, s4⟩, f0, f1, f2, f3, f4⟩ := S5.out
  go_wp2_with fail
  refine (R1 _).mono ?_
  rintro e w6 ⟨rfl, hb⟩
  have S6 := Lib.hid (S5.out.keep hb)
  have F6 := Lib.hid (F5.out.keep hb)
  have G6 := Lib.hid (G5.out.keep hb)
  have B6 := Lib.hid (B5.out.trans (hb.mono B5.out.size))
  clear hb S5 F5 G5 B5 k0 k1 k2 k3 k4 s0 s1 s2 s3 s4 f0 f1 f2 f3 f4
  obtain ⟨k0, k1, k2, k3, k4⟩ := F6.out
  obtain ⟨⟨s0, s1, s2, s3, s4⟩, f0, f1, f2, f3, f4⟩ := S6.out
  iterate 59 (first | go_values | go_skip | go_guarded | go_step | go_upon | go_back | (simp only at *; go_simp))
  refine region_letter 10 (by simp) ?_
  intro w7 hw
  have S7 := Lib.hid (show Slot5 w7 X W false A S d by rw [hw.out]; exact (((((((S6.out.set0 W).set1 r).set2 A).set3 S).set4 D).set1 false).set4 d))
  have F7 := Lib.hid (show Five w7 Z W r A S D by rw [hw.out]; exact ((((((F6.out.other (by omega) _ _).other (by omega) _ _).other (by omega) _ _).other (by omega) _ _).other (by omega) _ _).other (by omega) _ _).other (by omega) _ _)
  have G7 := Lib.hid (show Five w7 Y W2 r2 A2 S2 D2 by rw [hw.out]; exact ((((((G6.out.other (by omega) _ _).other (by omega) _ _).other (by omega) _ _).other (by omega) _ _).other (by omega) _ _).other (by omega) _ _).other (by omega) _ _)
  have B7 := Lib.hid (show Below w.heap.size w w7 by rw [hw.out]; exact ((((((B6.out.setCell (by simp; omega) _).setCell (by simp; omega) _).setCell (by simp; omega) _).setCell (by simp; omega) _).setCell (by simp; omega) _).setCell (by simp; omega) _).setCell (by simp; omega) _)
  clear hw S6 F6 G6 B6 k0 k1 k2 k3 k4 s0 s1 s2 s3 s4 f0 f1 f2 f3 f4
  obtain ⟨⟨s0, s1, s2, s3, s4⟩, f0, f1, f2, f3, f4⟩ := S7.out
  go_wp2_with fail
  refine (R2 _).mono ?_
  rintro e w8 ⟨rfl, hb⟩
  have S8 := Lib.hid (S7.out.keep hb)
  have F8 := Lib.hid (F7.out.keep hb)
  have G8 := Lib.hid (G7.out.keep hb)
  have B8 := Lib.hid (B7.out.trans (hb.mono B7.out.size))
  clear hb S7 F7 G7 B7 s0 s1 s2 s3 s4 f0 f1 f2 f3 f4
  obtain ⟨k0, k1, k2, k3, k4⟩ := F8.out
  obtain ⟨⟨s0, s1, s2, s3, s4⟩, f0, f1, f2, f3, f4⟩ := S8.out
  go_wp2_with fail
  refine code_letter ?_
  intro w9 hw
  have S9 := Lib.hid (show Slot5 w9 X W r y S D by rw [hw.out]; exact ((((((S8.out.set0 W).set1 r).set2 A).set3 S).set4 D).set2 y))
  have F9 := Lib.hid (show Five w9 Z W r A S D by rw [hw.out]; exact (((((F8.out.other (by omega) _ _).other (by omega) _ _).other (by omega) _ _).other (by omega) _ _).other (by omega) _ _).other (by omega) _ _)
  have G9 := Lib.hid (show Five w9 Y W2 r2 A2 S2 D2 by rw [hw.out]; exact (((((G8.out.other (by omega) _ _).other (by omega) _ _).other (by omega) _ _).other (by omega) _ _).other (by omega) _ _).other (by omega) _ _)
  have B9 := Lib.hid (show Below w.heap.size w w9 by rw [hw.out]; exact (((((B8.out.setCell (by simp; omega) _).setCell (by simp; omega) _).setCell (by simp; omega) _).setCell (by simp; omega) _).setCell (by simp; omega) _).setCell (by simp; omega) _)
  clear hw S8 F8 G8 B8 k0 k1 k2 k3 k4 s0 s1 s2 s3 s4 f0 f1 f2 f3 f4
  refine wp_region_ext (by kernel_rfl) (by kernel_rfl) ?_
  intro V hV
  have hV' := hV.out
  subst hV'
  have k0 := ext_cell F9.out.c0
  have k1 := ext_cell F9.out.c1
  have k2 := ext_cell F9.out.c2
  have k3 := ext_cell F9.out.c3
  have k4 := ext_cell F9.out.c4
  have s0 := ext_cell S9.out.five.c0
  have s1 := ext_cell S9.out.five.c1
  have s2 := ext_cell S9.out.five.c2
  have s3 := ext_cell S9.out.five.c3
  have s4 := ext_cell S9.out.five.c4
  repeat (go_big_quiet_step ((first | (go_at_call 14; with_reducible exact ext_of (Ri _)) | (go_at_call 14; with_reducible exact ext_of (R3 _)))))
  refine wpQuiet_nil ?_
  intro w10 hw10
  obtain ⟨q, rfl⟩ := hw10
  have hb := ext_below V q
  have F10 := Lib.hid (F9.out.keep hb)
  have G10 := Lib.hid (G9.out.keep hb)
  have B10 := Lib.hid (B9.out.trans (hb.mono B9.out.size))
  obtain ⟨w10, hw⟩ : ∃ x, ext V q = x := ⟨_, rfl⟩
  rw [hw] at F10 G10 B10
  rw [hw]
  clear hw hb hV S9 F9 G9 B9 k0 k1 k2 k3 k4 s0 s1 s2 s3 s4
  obtain ⟨k0, k1, k2, k3, k4⟩ := F10.out
  go_wp2_with fail
  refine (En _).mono ?_
  rintro e w11 ⟨ax, cx, rfl, hown, hb⟩
  have F11 := Lib.hid (F10.out.keep hb)
  have G11 := Lib.hid (G10.out.keep hb)
  have B11 := Lib.hid (B10.out.trans (hb.mono B10.out.size))
  have O11 := Lib.hid hown
  clear hown hb F10 G10 B10 k0 k1 k2 k3 k4
  obtain ⟨g0, g1, g2, g3, g4⟩ := G11.out
  go_wp2_with fail
  refine (En2 _).mono ?_
  rintro e w12 ⟨ay, cy, rfl, hown, hb⟩
  have F12 := Lib.hid (F11.out.keep hb)
  have G12 := Lib.hid (G11.out.keep hb)
  have B12 := Lib.hid (B11.out.trans (hb.mono B11.out.size))
  have O12 := Lib.hid (bown_below O11.out hb)
  have P12 := Lib.hid hown
  clear hown hb F11 G11 B11 O11 g0 g1 g2 g3 g4
  go_wp2_with fail
  refine wp_region_ext (by kernel_rfl) (by kernel_rfl) ?_
  intro V hV
  have hV' := hV.out
  subst hV'
  have k0 := ext_cell F12.out.c0
  have k1 := ext_cell F12.out.c1
  have k2 := ext_cell F12.out.c2
  have k3 := ext_cell F12.out.c3
  have k4 := ext_cell F12.out.c4
  have g0 := ext_cell G12.out.c0
  have g1 := ext_cell G12.out.c1
  have g2 := ext_cell G12.out.c2
  have g3 := ext_cell G12.out.c3
  have g4 := ext_cell G12.out.c4
  obtain ⟨gx, rfl⟩ := KitBytes.r_some O12.out (.inl (by omega))
  obtain ⟨gy, rfl⟩ := KitBytes.r_some P12.out (.inl (by omega))
  have So := fun q => Sm (ext V q) gx cx gy cy _ _ (bown_below O12.out (ext_below V q)) (bown_below P12.out (ext_below V q))
  repeat (go_big_quiet_step ((go_at_call 18; exact ext_of (So _))))
  refine wpQuiet_nil ?_
  intro w13 hw13
  obtain ⟨q, rfl⟩ := hw13
  go_wp2_with fail
  go_ret
  exact ⟨rfl, B12.out.trans ((ext_below V q).mono B12.out.size)⟩

set_option maxRecDepth 100000 in
set_option maxHeartbeats 2000000 in
theorem parts_ne1t (L M : List Int) (W A S D x p d y : Int) (A2 S2 D2 : Int) (w : World)
    (Aw : ∀ w, Calls Try.prog 9 #[] w fun e w' => e = .returned (.bool true) ∧ Below w.heap.size w w')
    (Pk : ∀ w, Calls Try.prog 19 #[.int .i64 x, .int .i64 8] w fun e w' => e = .returned (.int .i64 p) ∧ w = w')
    (Ri : ∀ w, Calls Try.prog 14 #[acc W true A S D] w fun e w' => e = .returned (.bool true) ∧ Below w.heap.size w w')
    (R2 : ∀ w, Calls Try.prog 14 #[acc W false A S d] w fun e w' => e = .returned (.bool false) ∧ Below w.heap.size w w')
    (En : ∀ w, Calls Try.prog 13 #[acc W true A S D] w (EncRow 12 L 0 w))
    (En2 : ∀ w, Calls Try.prog 13 #[acc W false A2 S2 D2] w (EncRow 12 M 0 w))
    (ho : bits .or .u32 D 1 = d) (ho2 : bits .or .u32 A 1 = y)
    (R1 : ∀ w, Calls Try.prog 14 #[acc p true A S D] w fun e w' => e = .returned (.bool true) ∧ Below w.heap.size w w')
    (R3 : ∀ w, Calls Try.prog 14 #[acc W true y S D] w fun e w' => e = .returned (.bool (S == 1)) ∧ Below w.heap.size w w')
    (Sm : ∀ wz g cg h ch x z, wz.ownsRow x 5 1 (.slice (some ⟨g, 0, none⟩) 12 cg) 12 (bv L) → wz.ownsRow z 5 1 (.slice (some ⟨h, 0, none⟩) 12 ch) 12 (bv M) → Calls Try.prog 18 #[.slice (some ⟨g, 0, none⟩) 12 cg, .slice (some ⟨h, 0, none⟩) 12 ch] wz fun e w' => e = .returned (.bool false) ∧ Below wz.heap.size wz w') :
    Calls Try.prog 7 #[acc W true A S D, acc W false A2 S2 D2, .int .i64 x] w fun e w' => e = .returned (.bool true) ∧ Below w.heap.size w w' := by
  go_enter Try.func7, Try.ntmps7
  go_wp2_with fail
  refine calls_letter ?_
  intro w1 hw1
  have F1 := Lib.hid (show Five w1 w.heap.size W true A S D by rw [hw1.out]; exact (five_new w W true A S D _).alloc _)
  have G1 := Lib.hid (show Five w1 (w.heap.size + 1) W false A2 S2 D2 by rw [hw1.out]; have := five_new (w.alloc (.cells #[.int .i64 W, .bool true, .int .u32 A, .int .i64 S, .int .u32 D] 24)) W false A2 S2 D2 24; simpa using this)
  have B1 := Lib.hid (show Below w.heap.size w w1 by rw [hw1.out]; exact ((Below.refl _ _).alloc (Nat.le_refl _) _).alloc (by simp) _)
  obtain ⟨Z, hZ⟩ : ∃ Z, w.heap.size = Z := ⟨_, rfl⟩
  obtain ⟨Y, hY⟩ : ∃ Y, w.heap.size + 1 = Y := ⟨_, rfl⟩
  rw [hY] at G1
  rw [hZ] at F1
  rw [hY, hZ]
  have HZ := Lib.hid hZ
  have HY := Lib.hid hY
  clear hZ hY hw1
  refine (Aw _).mono ?_
  rintro e w2 ⟨rfl, hb⟩
  have F2 := Lib.hid (F1.out.keep hb)
  have G2 := Lib.hid (G1.out.keep hb)
  have B2 := Lib.hid (B1.out.trans (hb.mono B1.out.size))
  clear hb F1 G1 B1
  have Y2 := World.block_lt_of_cell? w2 _ G2.out.c0
  have Z2 := World.block_lt_of_cell? w2 _ F2.out.c0
  simp only at Y2 Z2
  have ZB := B2.out.size
  obtain ⟨k0, k1, k2, k3, k4⟩ := F2.out
  go_wp2_with fail
  refine calls_letter ?_
  intro w3 hw3
  have hk : Below w2.heap.size w2 w3 := by rw [hw3.out]; exact (Below.refl _ _).alloc (Nat.le_refl _) _
  have S3 := Lib.hid (show Slot5 w3 w2.heap.size W true A S D by rw [hw3.out]; exact slot5_new w2 W true A S D _)
  have F3 := Lib.hid (F2.out.keep hk)
  have G3 := Lib.hid (G2.out.keep hk)
  have B3 := Lib.hid (B2.out.trans (hk.mono B2.out.size))
  obtain ⟨X, hX⟩ : ∃ X, w2.heap.size = X := ⟨_, rfl⟩
  rw [hX] at S3 Y2 Z2 ZB
  have ZX : Z ≠ X := by omega
  have oz : ∀ (V : World) (j i : Nat) (v : Value), (V.setCell ⟨X, j, none⟩ v).cell? ⟨Z, i, none⟩ = V.cell? ⟨Z, i, none⟩ := fun V j i v => World.cell?_setCell_other _ _ _ _ (fun e => ZX (congrArg Addr.block e).symm)
  rw [hX]
  clear hX hw3 hk F2 G2 B2 k0 k1 k2 k3 k4
  refine (Pk _).mono ?_
  rintro e w3' ⟨rfl, rfl⟩
  obtain ⟨k0, k1, k2, k3, k4⟩ := F3.out
  obtain ⟨⟨s0, s1, s2, s3, s4⟩, f0, f1, f2, f3, f4⟩ := S3.out
  go_wp2_with fail
  refine calls_letter ?_
  intro w4 hw4
  have S4 := Lib.hid (show Slot5 w4 X p true A S D by rw [hw4.out]; exact ⟨⟨by simp [go_sem, s0], by simp [go_sem, s1], by simp [go_sem, s2], by simp [go_sem, s3], by simp [go_sem, s4]⟩, by simp [go_sem, f0], by simp [go_sem, f1], by simp [go_sem, f2], by simp [go_sem, f3], by simp [go_sem, f4]⟩)
  have F4 := Lib.hid (show Five w4 Z W true A S D by rw [hw4.out]; exact F3.out.other (by omega) _ _)
  have G4 := Lib.hid (show Five w4 Y W false A2 S2 D2 by rw [hw4.out]; exact G3.out.other (by omega) _ _)
  have B4 := Lib.hid (show Below w.heap.size w w4 by rw [hw4.out]; exact B3.out.setCell (by simp; omega) _)
  clear hw4 S3 F3 G3 B3 k0 k1 k2 k3 k4 s0 s1 s2 s3 s4 f0 f1 f2 f3 f4
  refine (Ri _).mono ?_
  rintro e w5 ⟨rfl, hb⟩
  have S5 := Lib.hid (S4.out.keep hb)
  have F5 := Lib.hid (F4.out.keep hb)
  have G5 := Lib.hid (G4.out.keep hb)
  have B5 := Lib.hid (B4.out.trans (hb.mono B4.out.size))
  clear hb S4 F4 G4 B4
  obtain ⟨k0, k1, k2, k3, k4⟩ := F5.out
  obtain ⟨⟨s0, s1, s2, s3, s4⟩, f0, f1, f2, f3, f4⟩ := S5.out
  go_wp2_with fail
  refine (R1 _).mono ?_
  rintro e w6 ⟨rfl, hb⟩
  have S6 := Lib.hid (S5.out.keep hb)
  have F6 := Lib.hid (F5.out.keep hb)
  have G6 := Lib.hid (G5.out.keep hb)
  have B6 := Lib.hid (B5.out.trans (hb.mono B5.out.size))
  clear hb S5 F5 G5 B5 k0 k1 k2 k3 k4 s0 s1 s2 s3 s4 f0 f1 f2 f3 f4
  obtain ⟨k0, k1, k2, k3, k4⟩ := F6.out
  obtain ⟨⟨s0, s1, s2, s3, s4⟩, f0, f1, f2, f3, f4⟩ := S6.out
  iterate 59 (first | go_values | go_skip | go_guarded | go_step | go_upon | go_back | (simp only at *; go_simp))
  refine region_letter 10 (by simp) ?_
  intro w7 hw
  have S7 := Lib.hid (show Slot5 w7 X W false A S d by rw [hw.out]; exact (((((((S6.out.set0 W).set1 true).set2 A).set3 S).set4 D).set1 false).set4 d))
  have F7 := Lib.hid (show Five w7 Z W true A S D by rw [hw.out]; exact ((((((F6.out.other (by omega) _ _).other (by omega) _ _).other (by omega) _ _).other (by omega) _ _).other (by omega) _ _).other (by omega) _ _).other (by omega) _ _)
  have G7 := Lib.hid (show Five w7 Y W false A2 S2 D2 by rw [hw.out]; exact ((((((G6.out.other (by omega) _ _).other (by omega) _ _).other (by omega) _ _).other (by omega) _ _).other (by omega) _ _).other (by omega) _ _).other (by omega) _ _)
  have B7 := Lib.hid (show Below w.heap.size w w7 by rw [hw.out]; exact ((((((B6.out.setCell (by simp; omega) _).setCell (by simp; omega) _).setCell (by simp; omega) _).setCell (by simp; omega) _).setCell (by simp; omega) _).setCell (by simp; omega) _).setCell (by simp; omega) _)
  clear hw S6 F6 G6 B6 k0 k1 k2 k3 k4 s0 s1 s2 s3 s4 f0 f1 f2 f3 f4
  obtain ⟨⟨s0, s1, s2, s3, s4⟩, f0, f1, f2, f3, f4⟩ := S7.out
  go_wp2_with fail
  refine (R2 _).mono ?_
  rintro e w8 ⟨rfl, hb⟩
  have S8 := Lib.hid (S7.out.keep hb)
  have F8 := Lib.hid (F7.out.keep hb)
  have G8 := Lib.hid (G7.out.keep hb)
  have B8 := Lib.hid (B7.out.trans (hb.mono B7.out.size))
  clear hb S7 F7 G7 B7 s0 s1 s2 s3 s4 f0 f1 f2 f3 f4
  obtain ⟨k0, k1, k2, k3, k4⟩ := F8.out
  obtain ⟨⟨s0, s1, s2, s3, s4⟩, f0, f1, f2, f3, f4⟩ := S8.out
  go_wp2_with fail
  refine code_letter ?_
  intro w9 hw
  have S9 := Lib.hid (show Slot5 w9 X W true y S D by rw [hw.out]; exact ((((((S8.out.set0 W).set1 true).set2 A).set3 S).set4 D).set2 y))
  have F9 := Lib.hid (show Five w9 Z W true A S D by rw [hw.out]; exact (((((F8.out.other (by omega) _ _).other (by omega) _ _).other (by omega) _ _).other (by omega) _ _).other (by omega) _ _).other (by omega) _ _)
  have G9 := Lib.hid (show Five w9 Y W false A2 S2 D2 by rw [hw.out]; exact (((((G8.out.other (by omega) _ _).other (by omega) _ _).other (by omega) _ _).other (by omega) _ _).other (by omega) _ _).other (by omega) _ _)
  have B9 := Lib.hid (show Below w.heap.size w w9 by rw [hw.out]; exact (((((B8.out.setCell (by simp; omega) _).setCell (by simp; omega) _).setCell (by simp; omega) _).setCell (by simp; omega) _).setCell (by simp; omega) _).setCell (by simp; omega) _)
  clear hw S8 F8 G8 B8 k0 k1 k2 k3 k4 s0 s1 s2 s3 s4 f0 f1 f2 f3 f4
  refine wp_region_ext (by kernel_rfl) (by kernel_rfl) ?_
  intro V hV
  have hV' := hV.out
  subst hV'
  have k0 := ext_cell F9.out.c0
  have k1 := ext_cell F9.out.c1
  have k2 := ext_cell F9.out.c2
  have k3 := ext_cell F9.out.c3
  have k4 := ext_cell F9.out.c4
  have s0 := ext_cell S9.out.five.c0
  have s1 := ext_cell S9.out.five.c1
  have s2 := ext_cell S9.out.five.c2
  have s3 := ext_cell S9.out.five.c3
  have s4 := ext_cell S9.out.five.c4
  repeat (go_big_quiet_step ((first | (go_at_call 14; with_reducible exact ext_of (Ri _)) | (go_at_call 14; with_reducible exact ext_of (R3 _)))))
  refine wpQuiet_nil ?_
  intro w10 hw10
  obtain ⟨q, rfl⟩ := hw10
  have hb := ext_below V q
  have F10 := Lib.hid (F9.out.keep hb)
  have G10 := Lib.hid (G9.out.keep hb)
  have B10 := Lib.hid (B9.out.trans (hb.mono B9.out.size))
  obtain ⟨w10, hw⟩ : ∃ x, ext V q = x := ⟨_, rfl⟩
  rw [hw] at F10 G10 B10
  rw [hw]
  clear hw hb hV S9 F9 G9 B9 k0 k1 k2 k3 k4 s0 s1 s2 s3 s4
  obtain ⟨k0, k1, k2, k3, k4⟩ := F10.out
  go_wp2_with fail
  refine (En _).mono ?_
  rintro e w11 ⟨ax, cx, rfl, hown, hb⟩
  have F11 := Lib.hid (F10.out.keep hb)
  have G11 := Lib.hid (G10.out.keep hb)
  have B11 := Lib.hid (B10.out.trans (hb.mono B10.out.size))
  have O11 := Lib.hid hown
  clear hown hb F10 G10 B10 k0 k1 k2 k3 k4
  obtain ⟨g0, g1, g2, g3, g4⟩ := G11.out
  go_wp2_with fail
  refine (En2 _).mono ?_
  rintro e w12 ⟨ay, cy, rfl, hown, hb⟩
  have F12 := Lib.hid (F11.out.keep hb)
  have G12 := Lib.hid (G11.out.keep hb)
  have B12 := Lib.hid (B11.out.trans (hb.mono B11.out.size))
  have O12 := Lib.hid (bown_below O11.out hb)
  have P12 := Lib.hid hown
  clear hown hb F11 G11 B11 O11 g0 g1 g2 g3 g4
  go_wp2_with fail
  refine wp_region_ext (by kernel_rfl) (by kernel_rfl) ?_
  intro V hV
  have hV' := hV.out
  subst hV'
  have k0 := ext_cell F12.out.c0
  have k1 := ext_cell F12.out.c1
  have k2 := ext_cell F12.out.c2
  have k3 := ext_cell F12.out.c3
  have k4 := ext_cell F12.out.c4
  have g0 := ext_cell G12.out.c0
  have g1 := ext_cell G12.out.c1
  have g2 := ext_cell G12.out.c2
  have g3 := ext_cell G12.out.c3
  have g4 := ext_cell G12.out.c4
  obtain ⟨gx, rfl⟩ := KitBytes.r_some O12.out (.inl (by omega))
  obtain ⟨gy, rfl⟩ := KitBytes.r_some P12.out (.inl (by omega))
  have So := fun q => Sm (ext V q) gx cx gy cy _ _ (bown_below O12.out (ext_below V q)) (bown_below P12.out (ext_below V q))
  repeat (go_big_quiet_step ((go_at_call 18; exact ext_of (So _))))
  refine wpQuiet_nil ?_
  intro w13 hw13
  obtain ⟨q, rfl⟩ := hw13
  go_wp2_with fail
  go_ret
  exact ⟨rfl, B12.out.trans ((ext_below V q).mono B12.out.size)⟩

set_option maxRecDepth 100000 in
set_option maxHeartbeats 2000000 in
theorem parts_ne1f (L M : List Int) (W A S D x p d y : Int) (A2 S2 D2 : Int) (w : World)
    (Aw : ∀ w, Calls Try.prog 9 #[] w fun e w' => e = .returned (.bool true) ∧ Below w.heap.size w w')
    (Pk : ∀ w, Calls Try.prog 19 #[.int .i64 x, .int .i64 8] w fun e w' => e = .returned (.int .i64 p) ∧ w = w')
    (Ri : ∀ w, Calls Try.prog 14 #[acc W false A S D] w fun e w' => e = .returned (.bool true) ∧ Below w.heap.size w w')
    (R2 : ∀ w, Calls Try.prog 14 #[acc W false A S d] w fun e w' => e = .returned (.bool false) ∧ Below w.heap.size w w')
    (En : ∀ w, Calls Try.prog 13 #[acc W false A S D] w (EncRow 12 L 0 w))
    (En2 : ∀ w, Calls Try.prog 13 #[acc W true A2 S2 D2] w (EncRow 12 M 0 w))
    (ho : bits .or .u32 D 1 = d) (ho2 : bits .or .u32 A 1 = y)
    (R1 : ∀ w, Calls Try.prog 14 #[acc p false A S D] w fun e w' => e = .returned (.bool true) ∧ Below w.heap.size w w')
    (R3 : ∀ w, Calls Try.prog 14 #[acc W false y S D] w fun e w' => e = .returned (.bool (S == 1)) ∧ Below w.heap.size w w')
    (Sm : ∀ wz g cg h ch x z, wz.ownsRow x 5 1 (.slice (some ⟨g, 0, none⟩) 12 cg) 12 (bv L) → wz.ownsRow z 5 1 (.slice (some ⟨h, 0, none⟩) 12 ch) 12 (bv M) → Calls Try.prog 18 #[.slice (some ⟨g, 0, none⟩) 12 cg, .slice (some ⟨h, 0, none⟩) 12 ch] wz fun e w' => e = .returned (.bool false) ∧ Below wz.heap.size wz w') :
    Calls Try.prog 7 #[acc W false A S D, acc W true A2 S2 D2, .int .i64 x] w fun e w' => e = .returned (.bool true) ∧ Below w.heap.size w w' := by
  go_enter Try.func7, Try.ntmps7
  go_wp2_with fail
  refine calls_letter ?_
  intro w1 hw1
  have F1 := Lib.hid (show Five w1 w.heap.size W false A S D by rw [hw1.out]; exact (five_new w W false A S D _).alloc _)
  have G1 := Lib.hid (show Five w1 (w.heap.size + 1) W true A2 S2 D2 by rw [hw1.out]; have := five_new (w.alloc (.cells #[.int .i64 W, .bool false, .int .u32 A, .int .i64 S, .int .u32 D] 24)) W true A2 S2 D2 24; simpa using this)
  have B1 := Lib.hid (show Below w.heap.size w w1 by rw [hw1.out]; exact ((Below.refl _ _).alloc (Nat.le_refl _) _).alloc (by simp) _)
  obtain ⟨Z, hZ⟩ : ∃ Z, w.heap.size = Z := ⟨_, rfl⟩
  obtain ⟨Y, hY⟩ : ∃ Y, w.heap.size + 1 = Y := ⟨_, rfl⟩
  rw [hY] at G1
  rw [hZ] at F1
  rw [hY, hZ]
  have HZ := Lib.hid hZ
  have HY := Lib.hid hY
  clear hZ hY hw1
  refine (Aw _).mono ?_
  rintro e w2 ⟨rfl, hb⟩
  have F2 := Lib.hid (F1.out.keep hb)
  have G2 := Lib.hid (G1.out.keep hb)
  have B2 := Lib.hid (B1.out.trans (hb.mono B1.out.size))
  clear hb F1 G1 B1
  have Y2 := World.block_lt_of_cell? w2 _ G2.out.c0
  have Z2 := World.block_lt_of_cell? w2 _ F2.out.c0
  simp only at Y2 Z2
  have ZB := B2.out.size
  obtain ⟨k0, k1, k2, k3, k4⟩ := F2.out
  go_wp2_with fail
  refine calls_letter ?_
  intro w3 hw3
  have hk : Below w2.heap.size w2 w3 := by rw [hw3.out]; exact (Below.refl _ _).alloc (Nat.le_refl _) _
  have S3 := Lib.hid (show Slot5 w3 w2.heap.size W false A S D by rw [hw3.out]; exact slot5_new w2 W false A S D _)
  have F3 := Lib.hid (F2.out.keep hk)
  have G3 := Lib.hid (G2.out.keep hk)
  have B3 := Lib.hid (B2.out.trans (hk.mono B2.out.size))
  obtain ⟨X, hX⟩ : ∃ X, w2.heap.size = X := ⟨_, rfl⟩
  rw [hX] at S3 Y2 Z2 ZB
  have ZX : Z ≠ X := by omega
  have oz : ∀ (V : World) (j i : Nat) (v : Value), (V.setCell ⟨X, j, none⟩ v).cell? ⟨Z, i, none⟩ = V.cell? ⟨Z, i, none⟩ := fun V j i v => World.cell?_setCell_other _ _ _ _ (fun e => ZX (congrArg Addr.block e).symm)
  rw [hX]
  clear hX hw3 hk F2 G2 B2 k0 k1 k2 k3 k4
  refine (Pk _).mono ?_
  rintro e w3' ⟨rfl, rfl⟩
  obtain ⟨k0, k1, k2, k3, k4⟩ := F3.out
  obtain ⟨⟨s0, s1, s2, s3, s4⟩, f0, f1, f2, f3, f4⟩ := S3.out
  go_wp2_with fail
  refine calls_letter ?_
  intro w4 hw4
  have S4 := Lib.hid (show Slot5 w4 X p false A S D by rw [hw4.out]; exact ⟨⟨by simp [go_sem, s0], by simp [go_sem, s1], by simp [go_sem, s2], by simp [go_sem, s3], by simp [go_sem, s4]⟩, by simp [go_sem, f0], by simp [go_sem, f1], by simp [go_sem, f2], by simp [go_sem, f3], by simp [go_sem, f4]⟩)
  have F4 := Lib.hid (show Five w4 Z W false A S D by rw [hw4.out]; exact F3.out.other (by omega) _ _)
  have G4 := Lib.hid (show Five w4 Y W true A2 S2 D2 by rw [hw4.out]; exact G3.out.other (by omega) _ _)
  have B4 := Lib.hid (show Below w.heap.size w w4 by rw [hw4.out]; exact B3.out.setCell (by simp; omega) _)
  clear hw4 S3 F3 G3 B3 k0 k1 k2 k3 k4 s0 s1 s2 s3 s4 f0 f1 f2 f3 f4
  refine (Ri _).mono ?_
  rintro e w5 ⟨rfl, hb⟩
  have S5 := Lib.hid (S4.out.keep hb)
  have F5 := Lib.hid (F4.out.keep hb)
  have G5 := Lib.hid (G4.out.keep hb)
  have B5 := Lib.hid (B4.out.trans (hb.mono B4.out.size))
  clear hb S4 F4 G4 B4
  obtain ⟨k0, k1, k2, k3, k4⟩ := F5.out
  obtain ⟨⟨s0, s1, s2, s3, s4⟩, f0, f1, f2, f3, f4⟩ := S5.out
  go_wp2_with fail
  refine (R1 _).mono ?_
  rintro e w6 ⟨rfl, hb⟩
  have S6 := Lib.hid (S5.out.keep hb)
  have F6 := Lib.hid (F5.out.keep hb)
  have G6 := Lib.hid (G5.out.keep hb)
  have B6 := Lib.hid (B5.out.trans (hb.mono B5.out.size))
  clear hb S5 F5 G5 B5 k0 k1 k2 k3 k4 s0 s1 s2 s3 s4 f0 f1 f2 f3 f4
  obtain ⟨k0, k1, k2, k3, k4⟩ := F6.out
  obtain ⟨⟨s0, s1, s2, s3, s4⟩, f0, f1, f2, f3, f4⟩ := S6.out
  iterate 59 (first | go_values | go_skip | go_guarded | go_step | go_upon | go_back | (simp only at *; go_simp))
  refine region_letter 10 (by simp) ?_
  intro w7 hw
  have S7 := Lib.hid (show Slot5 w7 X W false A S d by rw [hw.out]; exact (((((((S6.out.set0 W).set1 false).set2 A).set3 S).set4 D).set1 false).set4 d))
  have F7 := Lib.hid (show Five w7 Z W false A S D by rw [hw.out]; exact ((((((F6.out.other (by omega) _ _).other (by omega) _ _).other (by omega) _ _).other (by omega) _ _).other (by omega) _ _).other (by omega) _ _).other (by omega) _ _)
  have G7 := Lib.hid (show Five w7 Y W true A2 S2 D2 by rw [hw.out]; exact ((((((G6.out.other (by omega) _ _).other (by omega) _ _).other (by omega) _ _).other (by omega) _ _).other (by omega) _ _).other (by omega) _ _).other (by omega) _ _)
  have B7 := Lib.hid (show Below w.heap.size w w7 by rw [hw.out]; exact ((((((B6.out.setCell (by simp; omega) _).setCell (by simp; omega) _).setCell (by simp; omega) _).setCell (by simp; omega) _).setCell (by simp; omega) _).setCell (by simp; omega) _).setCell (by simp; omega) _)
  clear hw S6 F6 G6 B6 k0 k1 k2 k3 k4 s0 s1 s2 s3 s4 f0 f1 f2 f3 f4
  obtain ⟨⟨s0, s1, s2, s3, s4⟩, f0, f1, f2, f3, f4⟩ := S7.out
  go_wp2_with fail
  refine (R2 _).mono ?_
  rintro e w8 ⟨rfl, hb⟩
  have S8 := Lib.hid (S7.out.keep hb)
  have F8 := Lib.hid (F7.out.keep hb)
  have G8 := Lib.hid (G7.out.keep hb)
  have B8 := Lib.hid (B7.out.trans (hb.mono B7.out.size))
  clear hb S7 F7 G7 B7 s0 s1 s2 s3 s4 f0 f1 f2 f3 f4
  obtain ⟨k0, k1, k2, k3, k4⟩ := F8.out
  obtain ⟨⟨s0, s1, s2, s3, s4⟩, f0, f1, f2, f3, f4⟩ := S8.out
  go_wp2_with fail
  refine code_letter ?_
  intro w9 hw
  have S9 := Lib.hid (show Slot5 w9 X W false y S D by rw [hw.out]; exact ((((((S8.out.set0 W).set1 false).set2 A).set3 S).set4 D).set2 y))
  have F9 := Lib.hid (show Five w9 Z W false A S D by rw [hw.out]; exact (((((F8.out.other (by omega) _ _).other (by omega) _ _).other (by omega) _ _).other (by omega) _ _).other (by omega) _ _).other (by omega) _ _)
  have G9 := Lib.hid (show Five w9 Y W true A2 S2 D2 by rw [hw.out]; exact (((((G8.out.other (by omega) _ _).other (by omega) _ _).other (by omega) _ _).other (by omega) _ _).other (by omega) _ _).other (by omega) _ _)
  have B9 := Lib.hid (show Below w.heap.size w w9 by rw [hw.out]; exact (((((B8.out.setCell (by simp; omega) _).setCell (by simp; omega) _).setCell (by simp; omega) _).setCell (by simp; omega) _).setCell (by simp; omega) _).setCell (by simp; omega) _)
  clear hw S8 F8 G8 B8 k0 k1 k2 k3 k4 s0 s1 s2 s3 s4 f0 f1 f2 f3 f4
  refine wp_region_ext (by kernel_rfl) (by kernel_rfl) ?_
  intro V hV
  have hV' := hV.out
  subst hV'
  have k0 := ext_cell F9.out.c0
  have k1 := ext_cell F9.out.c1
  have k2 := ext_cell F9.out.c2
  have k3 := ext_cell F9.out.c3
  have k4 := ext_cell F9.out.c4
  have s0 := ext_cell S9.out.five.c0
  have s1 := ext_cell S9.out.five.c1
  have s2 := ext_cell S9.out.five.c2
  have s3 := ext_cell S9.out.five.c3
  have s4 := ext_cell S9.out.five.c4
  repeat (go_big_quiet_step ((first | (go_at_call 14; with_reducible exact ext_of (Ri _)) | (go_at_call 14; with_reducible exact ext_of (R3 _)))))
  refine wpQuiet_nil ?_
  intro w10 hw10
  obtain ⟨q, rfl⟩ := hw10
  have hb := ext_below V q
  have F10 := Lib.hid (F9.out.keep hb)
  have G10 := Lib.hid (G9.out.keep hb)
  have B10 := Lib.hid (B9.out.trans (hb.mono B9.out.size))
  obtain ⟨w10, hw⟩ : ∃ x, ext V q = x := ⟨_, rfl⟩
  rw [hw] at F10 G10 B10
  rw [hw]
  clear hw hb hV S9 F9 G9 B9 k0 k1 k2 k3 k4 s0 s1 s2 s3 s4
  obtain ⟨k0, k1, k2, k3, k4⟩ := F10.out
  go_wp2_with fail
  refine (En _).mono ?_
  rintro e w11 ⟨ax, cx, rfl, hown, hb⟩
  have F11 := Lib.hid (F10.out.keep hb)
  have G11 := Lib.hid (G10.out.keep hb)
  have B11 := Lib.hid (B10.out.trans (hb.mono B10.out.size))
  have O11 := Lib.hid hown
  clear hown hb F10 G10 B10 k0 k1 k2 k3 k4
  obtain ⟨g0, g1, g2, g3, g4⟩ := G11.out
  go_wp2_with fail
  refine (En2 _).mono ?_
  rintro e w12 ⟨ay, cy, rfl, hown, hb⟩
  have F12 := Lib.hid (F11.out.keep hb)
  have G12 := Lib.hid (G11.out.keep hb)
  have B12 := Lib.hid (B11.out.trans (hb.mono B11.out.size))
  have O12 := Lib.hid (bown_below O11.out hb)
  have P12 := Lib.hid hown
  clear hown hb F11 G11 B11 O11 g0 g1 g2 g3 g4
  go_wp2_with fail
  refine wp_region_ext (by kernel_rfl) (by kernel_rfl) ?_
  intro V hV
  have hV' := hV.out
  subst hV'
  have k0 := ext_cell F12.out.c0
  have k1 := ext_cell F12.out.c1
  have k2 := ext_cell F12.out.c2
  have k3 := ext_cell F12.out.c3
  have k4 := ext_cell F12.out.c4
  have g0 := ext_cell G12.out.c0
  have g1 := ext_cell G12.out.c1
  have g2 := ext_cell G12.out.c2
  have g3 := ext_cell G12.out.c3
  have g4 := ext_cell G12.out.c4
  obtain ⟨gx, rfl⟩ := KitBytes.r_some O12.out (.inl (by omega))
  obtain ⟨gy, rfl⟩ := KitBytes.r_some P12.out (.inl (by omega))
  have So := fun q => Sm (ext V q) gx cx gy cy _ _ (bown_below O12.out (ext_below V q)) (bown_below P12.out (ext_below V q))
  repeat (go_big_quiet_step ((go_at_call 18; exact ext_of (So _))))
  refine wpQuiet_nil ?_
  intro w13 hw13
  obtain ⟨q, rfl⟩ := hw13
  go_wp2_with fail
  go_ret
  exact ⟨rfl, B12.out.trans ((ext_below V q).mono B12.out.size)⟩

set_option maxRecDepth 100000 in
set_option maxHeartbeats 2000000 in
theorem parts_ne2 (L M : List Int) (W : Int) (r : Bool) (A S D x p d y : Int) (A2 S2 D2 : Int) (w : World)
    (Aw : ∀ w, Calls Try.prog 9 #[] w fun e w' => e = .returned (.bool true) ∧ Below w.heap.size w w')
    (Pk : ∀ w, Calls Try.prog 19 #[.int .i64 x, .int .i64 8] w fun e w' => e = .returned (.int .i64 p) ∧ w = w')
    (Ri : ∀ w, Calls Try.prog 14 #[acc W r A S D] w fun e w' => e = .returned (.bool true) ∧ Below w.heap.size w w')
    (R2 : ∀ w, Calls Try.prog 14 #[acc W false A S d] w fun e w' => e = .returned (.bool false) ∧ Below w.heap.size w w')
    (En : ∀ w, Calls Try.prog 13 #[acc W r A S D] w (EncRow 12 L 0 w))
    (En2 : ∀ w, Calls Try.prog 13 #[acc W r A2 S2 D2] w (EncRow 12 M 0 w))
    (ho : bits .or .u32 D 1 = d) (ho2 : bits .or .u32 A 1 = y)
    (R1 : ∀ w, Calls Try.prog 14 #[acc p r A S D] w fun e w' => e = .returned (.bool true) ∧ Below w.heap.size w w')
    (R3 : ∀ w, Calls Try.prog 14 #[acc W r y S D] w fun e w' => e = .returned (.bool (S == 1)) ∧ Below w.heap.size w w')
    (Sm : ∀ wz g cg h ch x z, wz.ownsRow x 5 1 (.slice (some ⟨g, 0, none⟩) 12 cg) 12 (bv L) → wz.ownsRow z 5 1 (.slice (some ⟨h, 0, none⟩) 12 ch) 12 (bv M) → Calls Try.prog 18 #[.slice (some ⟨g, 0, none⟩) 12 cg, .slice (some ⟨h, 0, none⟩) 12 ch] wz fun e w' => e = .returned (.bool false) ∧ Below wz.heap.size wz w')
    (hne : ¬ A = A2) :
    Calls Try.prog 7 #[acc W r A S D, acc W r A2 S2 D2, .int .i64 x] w fun e w' => e = .returned (.bool true) ∧ Below w.heap.size w w' := by
  go_enter Try.func7, Try.ntmps7
  go_wp2_with fail
  refine calls_letter ?_
  intro w1 hw1
  have F1 := Lib.hid (show Five w1 w.heap.size W r A S D by rw [hw1.out]; exact (five_new w W r A S D _).alloc _)
  have G1 := Lib.hid (show Five w1 (w.heap.size + 1) W r A2 S2 D2 by rw [hw1.out]; have := five_new (w.alloc (.cells #[.int .i64 W, .bool r, .int .u32 A, .int .i64 S, .int .u32 D] 24)) W r A2 S2 D2 24; simpa using this)
  have B1 := Lib.hid (show Below w.heap.size w w1 by rw [hw1.out]; exact ((Below.refl _ _).alloc (Nat.le_refl _) _).alloc (by simp) _)
  obtain ⟨Z, hZ⟩ : ∃ Z, w.heap.size = Z := ⟨_, rfl⟩
  obtain ⟨Y, hY⟩ : ∃ Y, w.heap.size + 1 = Y := ⟨_, rfl⟩
  rw [hY] at G1
  rw [hZ] at F1
  rw [hY, hZ]
  have HZ := Lib.hid hZ
  have HY := Lib.hid hY
  clear hZ hY hw1
  refine (Aw _).mono ?_
  rintro e w2 ⟨rfl, hb⟩
  have F2 := Lib.hid (F1.out.keep hb)
  have G2 := Lib.hid (G1.out.keep hb)
  have B2 := Lib.hid (B1.out.trans (hb.mono B1.out.size))
  clear hb F1 G1 B1
  have Y2 := World.block_lt_of_cell? w2 _ G2.out.c0
  have Z2 := World.block_lt_of_cell? w2 _ F2.out.c0
  simp only at Y2 Z2
  have ZB := B2.out.size
  obtain ⟨k0, k1, k2, k3, k4⟩ := F2.out
  go_wp2_with fail
  refine calls_letter ?_
  intro w3 hw3
  have hk : Below w2.heap.size w2 w3 := by rw [hw3.out]; exact (Below.refl _ _).alloc (Nat.le_refl _) _
  have S3 := Lib.hid (show Slot5 w3 w2.heap.size W r A S D by rw [hw3.out]; exact slot5_new w2 W r A S D _)
  have F3 := Lib.hid (F2.out.keep hk)
  have G3 := Lib.hid (G2.out.keep hk)
  have B3 := Lib.hid (B2.out.trans (hk.mono B2.out.size))
  obtain ⟨X, hX⟩ : ∃ X, w2.heap.size = X := ⟨_, rfl⟩
  rw [hX] at S3 Y2 Z2 ZB
  have ZX : Z ≠ X := by omega
  have oz : ∀ (V : World) (j i : Nat) (v : Value), (V.setCell ⟨X, j, none⟩ v).cell? ⟨Z, i, none⟩ = V.cell? ⟨Z, i, none⟩ := fun V j i v => World.cell?_setCell_other _ _ _ _ (fun e => ZX (congrArg Addr.block e).symm)
  rw [hX]
  clear hX hw3 hk F2 G2 B2 k0 k1 k2 k3 k4
  refine (Pk _).mono ?_
  rintro e w3' ⟨rfl, rfl⟩
  obtain ⟨k0, k1, k2, k3, k4⟩ := F3.out
  obtain ⟨⟨s0, s1, s2, s3, s4⟩, f0, f1, f2, f3, f4⟩ := S3.out
  go_wp2_with fail
  refine calls_letter ?_
  intro w4 hw4
  have S4 := Lib.hid (show Slot5 w4 X p r A S D by rw [hw4.out]; exact ⟨⟨by simp [go_sem, s0], by simp [go_sem, s1], by simp [go_sem, s2], by simp [go_sem, s3], by simp [go_sem, s4]⟩, by simp [go_sem, f0], by simp [go_sem, f1], by simp [go_sem, f2], by simp [go_sem, f3], by simp [go_sem, f4]⟩)
  have F4 := Lib.hid (show Five w4 Z W r A S D by rw [hw4.out]; exact F3.out.other (by omega) _ _)
  have G4 := Lib.hid (show Five w4 Y W r A2 S2 D2 by rw [hw4.out]; exact G3.out.other (by omega) _ _)
  have B4 := Lib.hid (show Below w.heap.size w w4 by rw [hw4.out]; exact B3.out.setCell (by simp; omega) _)
  clear hw4 S3 F3 G3 B3 k0 k1 k2 k3 k4 s0 s1 s2 s3 s4 f0 f1 f2 f3 f4
  refine (Ri _).mono ?_
  rintro e w5 ⟨rfl, hb⟩
  have S5 := Lib.hid (S4.out.keep hb)
  have F5 := Lib.hid (F4.out.keep hb)
  have G5 := Lib.hid (G4.out.keep hb)
  have B5 := Lib.hid (B4.out.trans (hb.mono B4.out.size))
  clear hb S4 F4 G4 B4
  obtain ⟨k0, k1, k2, k3, k4⟩ := F5.out
  obtain ⟨⟨s0, s1, s2, s3, s4⟩, f0, f1, f2, f3, f4⟩ := S5.out
  go_wp2_with fail
  refine (R1 _).mono ?_
  rintro e w6 ⟨rfl, hb⟩
  have S6 := Lib.hid (S5.out.keep hb)
  have F6 := Lib.hid (F5.out.keep hb)
  have G6 := Lib.hid (G5.out.keep hb)
  have B6 := Lib.hid (B5.out.trans (hb.mono B5.out.size))
  clear hb S5 F5 G5 B5 k0 k1 k2 k3 k4 s0 s1 s2 s3 s4 f0 f1 f2 f3 f4
  obtain ⟨k0, k1, k2, k3, k4⟩ := F6.out
  obtain ⟨⟨s0, s1, s2, s3, s4⟩, f0, f1, f2, f3, f4⟩ := S6.out
  iterate 59 (first | go_values | go_skip | go_guarded | go_step | go_upon | go_back | (simp only at *; go_simp))
  refine region_letter 10 (by simp) ?_
  intro w7 hw
  have S7 := Lib.hid (show Slot5 w7 X W false A S d by rw [hw.out]; exact (((((((S6.out.set0 W).set1 r).set2 A).set3 S).set4 D).set1 false).set4 d))
  have F7 := Lib.hid (show Five w7 Z W r A S D by rw [hw.out]; exact ((((((F6.out.other (by omega) _ _).other (by omega) _ _).other (by omega) _ _).other (by omega) _ _).other (by omega) _ _).other (by omega) _ _).other (by omega) _ _)
  have G7 := Lib.hid (show Five w7 Y W r A2 S2 D2 by rw [hw.out]; exact ((((((G6.out.other (by omega) _ _).other (by omega) _ _).other (by omega) _ _).other (by omega) _ _).other (by omega) _ _).other (by omega) _ _).other (by omega) _ _)
  have B7 := Lib.hid (show Below w.heap.size w w7 by rw [hw.out]; exact ((((((B6.out.setCell (by simp; omega) _).setCell (by simp; omega) _).setCell (by simp; omega) _).setCell (by simp; omega) _).setCell (by simp; omega) _).setCell (by simp; omega) _).setCell (by simp; omega) _)
  clear hw S6 F6 G6 B6 k0 k1 k2 k3 k4 s0 s1 s2 s3 s4 f0 f1 f2 f3 f4
  obtain ⟨⟨s0, s1, s2, s3, s4⟩, f0, f1, f2, f3, f4⟩ := S7.out
  go_wp2_with fail
  refine (R2 _).mono ?_
  rintro e w8 ⟨rfl, hb⟩
  have S8 := Lib.hid (S7.out.keep hb)
  have F8 := Lib.hid (F7.out.keep hb)
  have G8 := Lib.hid (G7.out.keep hb)
  have B8 := Lib.hid (B7.out.trans (hb.mono B7.out.size))
  clear hb S7 F7 G7 B7 s0 s1 s2 s3 s4 f0 f1 f2 f3 f4
  obtain ⟨k0, k1, k2, k3, k4⟩ := F8.out
  obtain ⟨⟨s0, s1, s2, s3, s4⟩, f0, f1, f2, f3, f4⟩ := S8.out
  go_wp2_with fail
  refine code_letter ?_
  intro w9 hw
  have S9 := Lib.hid (show Slot5 w9 X W r y S D by rw [hw.out]; exact ((((((S8.out.set0 W).set1 r).set2 A).set3 S).set4 D).set2 y))
  have F9 := Lib.hid (show Five w9 Z W r A S D by rw [hw.out]; exact (((((F8.out.other (by omega) _ _).other (by omega) _ _).other (by omega) _ _).other (by omega) _ _).other (by omega) _ _).other (by omega) _ _)
  have G9 := Lib.hid (show Five w9 Y W r A2 S2 D2 by rw [hw.out]; exact (((((G8.out.other (by omega) _ _).other (by omega) _ _).other (by omega) _ _).other (by omega) _ _).other (by omega) _ _).other (by omega) _ _)
  have B9 := Lib.hid (show Below w.heap.size w w9 by rw [hw.out]; exact (((((B8.out.setCell (by simp; omega) _).setCell (by simp; omega) _).setCell (by simp; omega) _).setCell (by simp; omega) _).setCell (by simp; omega) _).setCell (by simp; omega) _)
  clear hw S8 F8 G8 B8 k0 k1 k2 k3 k4 s0 s1 s2 s3 s4 f0 f1 f2 f3 f4
  refine wp_region_ext (by kernel_rfl) (by kernel_rfl) ?_
  intro V hV
  have hV' := hV.out
  subst hV'
  have k0 := ext_cell F9.out.c0
  have k1 := ext_cell F9.out.c1
  have k2 := ext_cell F9.out.c2
  have k3 := ext_cell F9.out.c3
  have k4 := ext_cell F9.out.c4
  have s0 := ext_cell S9.out.five.c0
  have s1 := ext_cell S9.out.five.c1
  have s2 := ext_cell S9.out.five.c2
  have s3 := ext_cell S9.out.five.c3
  have s4 := ext_cell S9.out.five.c4
  repeat (go_big_quiet_step ((first | (go_at_call 14; with_reducible exact ext_of (Ri _)) | (go_at_call 14; with_reducible exact ext_of (R3 _)))))
  refine wpQuiet_nil ?_
  intro w10 hw10
  obtain ⟨q, rfl⟩ := hw10
  have hb := ext_below V q
  have F10 := Lib.hid (F9.out.keep hb)
  have G10 := Lib.hid (G9.out.keep hb)
  have B10 := Lib.hid (B9.out.trans (hb.mono B9.out.size))
  obtain ⟨w10, hw⟩ : ∃ x, ext V q = x := ⟨_, rfl⟩
  rw [hw] at F10 G10 B10
  rw [hw]
  clear hw hb hV S9 F9 G9 B9 k0 k1 k2 k3 k4 s0 s1 s2 s3 s4
  obtain ⟨k0, k1, k2, k3, k4⟩ := F10.out
  go_wp2_with fail
  refine (En _).mono ?_
  rintro e w11 ⟨ax, cx, rfl, hown, hb⟩
  have F11 := Lib.hid (F10.out.keep hb)
  have G11 := Lib.hid (G10.out.keep hb)
  have B11 := Lib.hid (B10.out.trans (hb.mono B10.out.size))
  have O11 := Lib.hid hown
  clear hown hb F10 G10 B10 k0 k1 k2 k3 k4
  obtain ⟨g0, g1, g2, g3, g4⟩ := G11.out
  go_wp2_with fail
  refine (En2 _).mono ?_
  rintro e w12 ⟨ay, cy, rfl, hown, hb⟩
  have F12 := Lib.hid (F11.out.keep hb)
  have G12 := Lib.hid (G11.out.keep hb)
  have B12 := Lib.hid (B11.out.trans (hb.mono B11.out.size))
  have O12 := Lib.hid (bown_below O11.out hb)
  have P12 := Lib.hid hown
  clear hown hb F11 G11 B11 O11 g0 g1 g2 g3 g4
  go_wp2_with fail
  refine wp_region_ext (by kernel_rfl) (by kernel_rfl) ?_
  intro V hV
  have hV' := hV.out
  subst hV'
  have k0 := ext_cell F12.out.c0
  have k1 := ext_cell F12.out.c1
  have k2 := ext_cell F12.out.c2
  have k3 := ext_cell F12.out.c3
  have k4 := ext_cell F12.out.c4
  have g0 := ext_cell G12.out.c0
  have g1 := ext_cell G12.out.c1
  have g2 := ext_cell G12.out.c2
  have g3 := ext_cell G12.out.c3
  have g4 := ext_cell G12.out.c4
  obtain ⟨gx, rfl⟩ := KitBytes.r_some O12.out (.inl (by omega))
  obtain ⟨gy, rfl⟩ := KitBytes.r_some P12.out (.inl (by omega))
  have So := fun q => Sm (ext V q) gx cx gy cy _ _ (bown_below O12.out (ext_below V q)) (bown_below P12.out (ext_below V q))
  repeat (go_big_quiet_step ((go_at_call 18; exact ext_of (So _))))
  refine wpQuiet_nil ?_
  intro w13 hw13
  obtain ⟨q, rfl⟩ := hw13
  go_wp2_with fail
  go_ret
  exact ⟨rfl, B12.out.trans ((ext_below V q).mono B12.out.size)⟩

set_option maxRecDepth 100000 in
set_option maxHeartbeats 2000000 in
theorem parts_ne3 (L M : List Int) (W : Int) (r : Bool) (A S D x p d y : Int) (S2 D2 : Int) (w : World)
    (Aw : ∀ w, Calls Try.prog 9 #[] w fun e w' => e = .returned (.bool true) ∧ Below w.heap.size w w')
    (Pk : ∀ w, Calls Try.prog 19 #[.int .i64 x, .int .i64 8] w fun e w' => e = .returned (.int .i64 p) ∧ w = w')
    (Ri : ∀ w, Calls Try.prog 14 #[acc W r A S D] w fun e w' => e = .returned (.bool true) ∧ Below w.heap.size w w')
    (R2 : ∀ w, Calls Try.prog 14 #[acc W false A S d] w fun e w' => e = .returned (.bool false) ∧ Below w.heap.size w w')
    (En : ∀ w, Calls Try.prog 13 #[acc W r A S D] w (EncRow 12 L 0 w))
    (En2 : ∀ w, Calls Try.prog 13 #[acc W r A S2 D2] w (EncRow 12 M 0 w))
    (ho : bits .or .u32 D 1 = d) (ho2 : bits .or .u32 A 1 = y)
    (R1 : ∀ w, Calls Try.prog 14 #[acc p r A S D] w fun e w' => e = .returned (.bool true) ∧ Below w.heap.size w w')
    (R3 : ∀ w, Calls Try.prog 14 #[acc W r y S D] w fun e w' => e = .returned (.bool (S == 1)) ∧ Below w.heap.size w w')
    (Sm : ∀ wz g cg h ch x z, wz.ownsRow x 5 1 (.slice (some ⟨g, 0, none⟩) 12 cg) 12 (bv L) → wz.ownsRow z 5 1 (.slice (some ⟨h, 0, none⟩) 12 ch) 12 (bv M) → Calls Try.prog 18 #[.slice (some ⟨g, 0, none⟩) 12 cg, .slice (some ⟨h, 0, none⟩) 12 ch] wz fun e w' => e = .returned (.bool false) ∧ Below wz.heap.size wz w')
    (hne : ¬ S = S2) :
    Calls Try.prog 7 #[acc W r A S D, acc W r A S2 D2, .int .i64 x] w fun e w' => e = .returned (.bool true) ∧ Below w.heap.size w w' := by
  go_enter Try.func7, Try.ntmps7
  go_wp2_with fail
  refine calls_letter ?_
  intro w1 hw1
  have F1 := Lib.hid (show Five w1 w.heap.size W r A S D by rw [hw1.out]; exact (five_new w W r A S D _).alloc _)
  have G1 := Lib.hid (show Five w1 (w.heap.size + 1) W r A S2 D2 by rw [hw1.out]; have := five_new (w.alloc (.cells #[.int .i64 W, .bool r, .int .u32 A, .int .i64 S, .int .u32 D] 24)) W r A S2 D2 24; simpa using this)
  have B1 := Lib.hid (show Below w.heap.size w w1 by rw [hw1.out]; exact ((Below.refl _ _).alloc (Nat.le_refl _) _).alloc (by simp) _)
  obtain ⟨Z, hZ⟩ : ∃ Z, w.heap.size = Z := ⟨_, rfl⟩
  obtain ⟨Y, hY⟩ : ∃ Y, w.heap.size + 1 = Y := ⟨_, rfl⟩
  rw [hY] at G1
  rw [hZ] at F1
  rw [hY, hZ]
  have HZ := Lib.hid hZ
  have HY := Lib.hid hY
  clear hZ hY hw1
  refine (Aw _).mono ?_
  rintro e w2 ⟨rfl, hb⟩
  have F2 := Lib.hid (F1.out.keep hb)
  have G2 := Lib.hid (G1.out.keep hb)
  have B2 := Lib.hid (B1.out.trans (hb.mono B1.out.size))
  clear hb F1 G1 B1
  have Y2 := World.block_lt_of_cell? w2 _ G2.out.c0
  have Z2 := World.block_lt_of_cell? w2 _ F2.out.c0
  simp only at Y2 Z2
  have ZB := B2.out.size
  obtain ⟨k0, k1, k2, k3, k4⟩ := F2.out
  go_wp2_with fail
  refine calls_letter ?_
  intro w3 hw3
  have hk : Below w2.heap.size w2 w3 := by rw [hw3.out]; exact (Below.refl _ _).alloc (Nat.le_refl _) _
  have S3 := Lib.hid (show Slot5 w3 w2.heap.size W r A S D by rw [hw3.out]; exact slot5_new w2 W r A S D _)
  have F3 := Lib.hid (F2.out.keep hk)
  have G3 := Lib.hid (G2.out.keep hk)
  have B3 := Lib.hid (B2.out.trans (hk.mono B2.out.size))
  obtain ⟨X, hX⟩ : ∃ X, w2.heap.size = X := ⟨_, rfl⟩
  rw [hX] at S3 Y2 Z2 ZB
  have ZX : Z ≠ X := by omega
  have oz : ∀ (V : World) (j i : Nat) (v : Value), (V.setCell ⟨X, j, none⟩ v).cell? ⟨Z, i, none⟩ = V.cell? ⟨Z, i, none⟩ := fun V j i v => World.cell?_setCell_other _ _ _ _ (fun e => ZX (congrArg Addr.block e).symm)
  rw [hX]
  clear hX hw3 hk F2 G2 B2 k0 k1 k2 k3 k4
  refine (Pk _).mono ?_
  rintro e w3' ⟨rfl, rfl⟩
  obtain ⟨k0, k1, k2, k3, k4⟩ := F3.out
  obtain ⟨⟨s0, s1, s2, s3, s4⟩, f0, f1, f2, f3, f4⟩ := S3.out
  go_wp2_with fail
  refine calls_letter ?_
  intro w4 hw4
  have S4 := Lib.hid (show Slot5 w4 X p r A S D by rw [hw4.out]; exact ⟨⟨by simp [go_sem, s0], by simp [go_sem, s1], by simp [go_sem, s2], by simp [go_sem, s3], by simp [go_sem, s4]⟩, by simp [go_sem, f0], by simp [go_sem, f1], by simp [go_sem, f2], by simp [go_sem, f3], by simp [go_sem, f4]⟩)
  have F4 := Lib.hid (show Five w4 Z W r A S D by rw [hw4.out]; exact F3.out.other (by omega) _ _)
  have G4 := Lib.hid (show Five w4 Y W r A S2 D2 by rw [hw4.out]; exact G3.out.other (by omega) _ _)
  have B4 := Lib.hid (show Below w.heap.size w w4 by rw [hw4.out]; exact B3.out.setCell (by simp; omega) _)
  clear hw4 S3 F3 G3 B3 k0 k1 k2 k3 k4 s0 s1 s2 s3 s4 f0 f1 f2 f3 f4
  refine (Ri _).mono ?_
  rintro e w5 ⟨rfl, hb⟩
  have S5 := Lib.hid (S4.out.keep hb)
  have F5 := Lib.hid (F4.out.keep hb)
  have G5 := Lib.hid (G4.out.keep hb)
  have B5 := Lib.hid (B4.out.trans (hb.mono B4.out.size))
  clear hb S4 F4 G4 B4
  obtain ⟨k0, k1, k2, k3, k4⟩ := F5.out
  obtain ⟨⟨s0, s1, s2, s3, s4⟩, f0, f1, f2, f3, f4⟩ := S5.out
  go_wp2_with fail
  refine (R1 _).mono ?_
  rintro e w6 ⟨rfl, hb⟩
  have S6 := Lib.hid (S5.out.keep hb)
  have F6 := Lib.hid (F5.out.keep hb)
  have G6 := Lib.hid (G5.out.keep hb)
  have B6 := Lib.hid (B5.out.trans (hb.mono B5.out.size))
  clear hb S5 F5 G5 B5 k0 k1 k2 k3 k4 s0 s1 s2 s3 s4 f0 f1 f2 f3 f4
  obtain ⟨k0, k1, k2, k3, k4⟩ := F6.out
  obtain ⟨⟨s0, s1, s2, s3, s4⟩, f0, f1, f2, f3, f4⟩ := S6.out
  iterate 59 (first | go_values | go_skip | go_guarded | go_step | go_upon | go_back | (simp only at *; go_simp))
  refine region_letter 10 (by simp) ?_
  intro w7 hw
  have S7 := Lib.hid (show Slot5 w7 X W false A S d by rw [hw.out]; exact (((((((S6.out.set0 W).set1 r).set2 A).set3 S).set4 D).set1 false).set4 d))
  have F7 := Lib.hid (show Five w7 Z W r A S D by rw [hw.out]; exact ((((((F6.out.other (by omega) _ _).other (by omega) _ _).other (by omega) _ _).other (by omega) _ _).other (by omega) _ _).other (by omega) _ _).other (by omega) _ _)
  have G7 := Lib.hid (show Five w7 Y W r A S2 D2 by rw [hw.out]; exact ((((((G6.out.other (by omega) _ _).other (by omega) _ _).other (by omega) _ _).other (by omega) _ _).other (by omega) _ _).other (by omega) _ _).other (by omega) _ _)
  have B7 := Lib.hid (show Below w.heap.size w w7 by rw [hw.out]; exact ((((((B6.out.setCell (by simp; omega) _).setCell (by simp; omega) _).setCell (by simp; omega) _).setCell (by simp; omega) _).setCell (by simp; omega) _).setCell (by simp; omega) _).setCell (by simp; omega) _)
  clear hw S6 F6 G6 B6 k0 k1 k2 k3 k4 s0 s1 s2 s3 s4 f0 f1 f2 f3 f4
  obtain ⟨⟨s0, s1, s2, s3, s4⟩, f0, f1, f2, f3, f4⟩ := S7.out
  go_wp2_with fail
  refine (R2 _).mono ?_
  rintro e w8 ⟨rfl, hb⟩
  have S8 := Lib.hid (S7.out.keep hb)
  have F8 := Lib.hid (F7.out.keep hb)
  have G8 := Lib.hid (G7.out.keep hb)
  have B8 := Lib.hid (B7.out.trans (hb.mono B7.out.size))
  clear hb S7 F7 G7 B7 s0 s1 s2 s3 s4 f0 f1 f2 f3 f4
  obtain ⟨k0, k1, k2, k3, k4⟩ := F8.out
  obtain ⟨⟨s0, s1, s2, s3, s4⟩, f0, f1, f2, f3, f4⟩ := S8.out
  go_wp2_with fail
  refine code_letter ?_
  intro w9 hw
  have S9 := Lib.hid (show Slot5 w9 X W r y S D by rw [hw.out]; exact ((((((S8.out.set0 W).set1 r).set2 A).set3 S).set4 D).set2 y))
  have F9 := Lib.hid (show Five w9 Z W r A S D by rw [hw.out]; exact (((((F8.out.other (by omega) _ _).other (by omega) _ _).other (by omega) _ _).other (by omega) _ _).other (by omega) _ _).other (by omega) _ _)
  have G9 := Lib.hid (show Five w9 Y W r A S2 D2 by rw [hw.out]; exact (((((G8.out.other (by omega) _ _).other (by omega) _ _).other (by omega) _ _).other (by omega) _ _).other (by omega) _ _).other (by omega) _ _)
  have B9 := Lib.hid (show Below w.heap.size w w9 by rw [hw.out]; exact (((((B8.out.setCell (by simp; omega) _).setCell (by simp; omega) _).setCell (by simp; omega) _).setCell (by simp; omega) _).setCell (by simp; omega) _).setCell (by simp; omega) _)
  clear hw S8 F8 G8 B8 k0 k1 k2 k3 k4 s0 s1 s2 s3 s4 f0 f1 f2 f3 f4
  refine wp_region_ext (by kernel_rfl) (by kernel_rfl) ?_
  intro V hV
  have hV' := hV.out
  subst hV'
  have k0 := ext_cell F9.out.c0
  have k1 := ext_cell F9.out.c1
  have k2 := ext_cell F9.out.c2
  have k3 := ext_cell F9.out.c3
  have k4 := ext_cell F9.out.c4
  have s0 := ext_cell S9.out.five.c0
  have s1 := ext_cell S9.out.five.c1
  have s2 := ext_cell S9.out.five.c2
  have s3 := ext_cell S9.out.five.c3
  have s4 := ext_cell S9.out.five.c4
  repeat (go_big_quiet_step ((first | (go_at_call 14; with_reducible exact ext_of (Ri _)) | (go_at_call 14; with_reducible exact ext_of (R3 _)))))
  refine wpQuiet_nil ?_
  intro w10 hw10
  obtain ⟨q, rfl⟩ := hw10
  have hb := ext_below V q
  have F10 := Lib.hid (F9.out.keep hb)
  have G10 := Lib.hid (G9.out.keep hb)
  have B10 := Lib.hid (B9.out.trans (hb.mono B9.out.size))
  obtain ⟨w10, hw⟩ : ∃ x, ext V q = x := ⟨_, rfl⟩
  rw [hw] at F10 G10 B10
  rw [hw]
  clear hw hb hV S9 F9 G9 B9 k0 k1 k2 k3 k4 s0 s1 s2 s3 s4
  obtain ⟨k0, k1, k2, k3, k4⟩ := F10.out
  go_wp2_with fail
  refine (En _).mono ?_
  rintro e w11 ⟨ax, cx, rfl, hown, hb⟩
  have F11 := Lib.hid (F10.out.keep hb)
  have G11 := Lib.hid (G10.out.keep hb)
  have B11 := Lib.hid (B10.out.trans (hb.mono B10.out.size))
  have O11 := Lib.hid hown
  clear hown hb F10 G10 B10 k0 k1 k2 k3 k4
  obtain ⟨g0, g1, g2, g3, g4⟩ := G11.out
  go_wp2_with fail
  refine (En2 _).mono ?_
  rintro e w12 ⟨ay, cy, rfl, hown, hb⟩
  have F12 := Lib.hid (F11.out.keep hb)
  have G12 := Lib.hid (G11.out.keep hb)
  have B12 := Lib.hid (B11.out.trans (hb.mono B11.out.size))
  have O12 := Lib.hid (bown_below O11.out hb)
  have P12 := Lib.hid hown
  clear hown hb F11 G11 B11 O11 g0 g1 g2 g3 g4
  go_wp2_with fail
  refine wp_region_ext (by kernel_rfl) (by kernel_rfl) ?_
  intro V hV
  have hV' := hV.out
  subst hV'
  have k0 := ext_cell F12.out.c0
  have k1 := ext_cell F12.out.c1
  have k2 := ext_cell F12.out.c2
  have k3 := ext_cell F12.out.c3
  have k4 := ext_cell F12.out.c4
  have g0 := ext_cell G12.out.c0
  have g1 := ext_cell G12.out.c1
  have g2 := ext_cell G12.out.c2
  have g3 := ext_cell G12.out.c3
  have g4 := ext_cell G12.out.c4
  obtain ⟨gx, rfl⟩ := KitBytes.r_some O12.out (.inl (by omega))
  obtain ⟨gy, rfl⟩ := KitBytes.r_some P12.out (.inl (by omega))
  have So := fun q => Sm (ext V q) gx cx gy cy _ _ (bown_below O12.out (ext_below V q)) (bown_below P12.out (ext_below V q))
  repeat (go_big_quiet_step ((go_at_call 18; exact ext_of (So _))))
  refine wpQuiet_nil ?_
  intro w13 hw13
  obtain ⟨q, rfl⟩ := hw13
  go_wp2_with fail
  go_ret
  exact ⟨rfl, B12.out.trans ((ext_below V q).mono B12.out.size)⟩

set_option maxRecDepth 100000 in
set_option maxHeartbeats 2000000 in
theorem parts_ne4 (L M : List Int) (W : Int) (r : Bool) (A S D x p d y : Int) (D2 : Int) (w : World)
    (Aw : ∀ w, Calls Try.prog 9 #[] w fun e w' => e = .returned (.bool true) ∧ Below w.heap.size w w')
    (Pk : ∀ w, Calls Try.prog 19 #[.int .i64 x, .int .i64 8] w fun e w' => e = .returned (.int .i64 p) ∧ w = w')
    (Ri : ∀ w, Calls Try.prog 14 #[acc W r A S D] w fun e w' => e = .returned (.bool true) ∧ Below w.heap.size w w')
    (R2 : ∀ w, Calls Try.prog 14 #[acc W false A S d] w fun e w' => e = .returned (.bool false) ∧ Below w.heap.size w w')
    (En : ∀ w, Calls Try.prog 13 #[acc W r A S D] w (EncRow 12 L 0 w))
    (En2 : ∀ w, Calls Try.prog 13 #[acc W r A S D2] w (EncRow 12 M 0 w))
    (ho : bits .or .u32 D 1 = d) (ho2 : bits .or .u32 A 1 = y)
    (R1 : ∀ w, Calls Try.prog 14 #[acc p r A S D] w fun e w' => e = .returned (.bool true) ∧ Below w.heap.size w w')
    (R3 : ∀ w, Calls Try.prog 14 #[acc W r y S D] w fun e w' => e = .returned (.bool (S == 1)) ∧ Below w.heap.size w w')
    (Sm : ∀ wz g cg h ch x z, wz.ownsRow x 5 1 (.slice (some ⟨g, 0, none⟩) 12 cg) 12 (bv L) → wz.ownsRow z 5 1 (.slice (some ⟨h, 0, none⟩) 12 ch) 12 (bv M) → Calls Try.prog 18 #[.slice (some ⟨g, 0, none⟩) 12 cg, .slice (some ⟨h, 0, none⟩) 12 ch] wz fun e w' => e = .returned (.bool false) ∧ Below wz.heap.size wz w')
    (hne : ¬ D = D2) :
    Calls Try.prog 7 #[acc W r A S D, acc W r A S D2, .int .i64 x] w fun e w' => e = .returned (.bool true) ∧ Below w.heap.size w w' := by
  go_enter Try.func7, Try.ntmps7
  go_wp2_with fail
  refine calls_letter ?_
  intro w1 hw1
  have F1 := Lib.hid (show Five w1 w.heap.size W r A S D by rw [hw1.out]; exact (five_new w W r A S D _).alloc _)
  have G1 := Lib.hid (show Five w1 (w.heap.size + 1) W r A S D2 by rw [hw1.out]; have := five_new (w.alloc (.cells #[.int .i64 W, .bool r, .int .u32 A, .int .i64 S, .int .u32 D] 24)) W r A S D2 24; simpa using this)
  have B1 := Lib.hid (show Below w.heap.size w w1 by rw [hw1.out]; exact ((Below.refl _ _).alloc (Nat.le_refl _) _).alloc (by simp) _)
  obtain ⟨Z, hZ⟩ : ∃ Z, w.heap.size = Z := ⟨_, rfl⟩
  obtain ⟨Y, hY⟩ : ∃ Y, w.heap.size + 1 = Y := ⟨_, rfl⟩
  rw [hY] at G1
  rw [hZ] at F1
  rw [hY, hZ]
  have HZ := Lib.hid hZ
  have HY := Lib.hid hY
  clear hZ hY hw1
  refine (Aw _).mono ?_
  rintro e w2 ⟨rfl, hb⟩
  have F2 := Lib.hid (F1.out.keep hb)
  have G2 := Lib.hid (G1.out.keep hb)
  have B2 := Lib.hid (B1.out.trans (hb.mono B1.out.size))
  clear hb F1 G1 B1
  have Y2 := World.block_lt_of_cell? w2 _ G2.out.c0
  have Z2 := World.block_lt_of_cell? w2 _ F2.out.c0
  simp only at Y2 Z2
  have ZB := B2.out.size
  obtain ⟨k0, k1, k2, k3, k4⟩ := F2.out
  go_wp2_with fail
  refine calls_letter ?_
  intro w3 hw3
  have hk : Below w2.heap.size w2 w3 := by rw [hw3.out]; exact (Below.refl _ _).alloc (Nat.le_refl _) _
  have S3 := Lib.hid (show Slot5 w3 w2.heap.size W r A S D by rw [hw3.out]; exact slot5_new w2 W r A S D _)
  have F3 := Lib.hid (F2.out.keep hk)
  have G3 := Lib.hid (G2.out.keep hk)
  have B3 := Lib.hid (B2.out.trans (hk.mono B2.out.size))
  obtain ⟨X, hX⟩ : ∃ X, w2.heap.size = X := ⟨_, rfl⟩
  rw [hX] at S3 Y2 Z2 ZB
  have ZX : Z ≠ X := by omega
  have oz : ∀ (V : World) (j i : Nat) (v : Value), (V.setCell ⟨X, j, none⟩ v).cell? ⟨Z, i, none⟩ = V.cell? ⟨Z, i, none⟩ := fun V j i v => World.cell?_setCell_other _ _ _ _ (fun e => ZX (congrArg Addr.block e).symm)
  rw [hX]
  clear hX hw3 hk F2 G2 B2 k0 k1 k2 k3 k4
  refine (Pk _).mono ?_
  rintro e w3' ⟨rfl, rfl⟩
  obtain ⟨k0, k1, k2, k3, k4⟩ := F3.out
  obtain ⟨⟨s0, s1, s2, s3, s4⟩, f0, f1, f2, f3, f4⟩ := S3.out
  go_wp2_with fail
  refine calls_letter ?_
  intro w4 hw4
  have S4 := Lib.hid (show Slot5 w4 X p r A S D by rw [hw4.out]; exact ⟨⟨by simp [go_sem, s0], by simp [go_sem, s1], by simp [go_sem, s2], by simp [go_sem, s3], by simp [go_sem, s4]⟩, by simp [go_sem, f0], by simp [go_sem, f1], by simp [go_sem, f2], by simp [go_sem, f3], by simp [go_sem, f4]⟩)
  have F4 := Lib.hid (show Five w4 Z W r A S D by rw [hw4.out]; exact F3.out.other (by omega) _ _)
  have G4 := Lib.hid (show Five w4 Y W r A S D2 by rw [hw4.out]; exact G3.out.other (by omega) _ _)
  have B4 := Lib.hid (show Below w.heap.size w w4 by rw [hw4.out]; exact B3.out.setCell (by simp; omega) _)
  clear hw4 S3 F3 G3 B3 k0 k1 k2 k3 k4 s0 s1 s2 s3 s4 f0 f1 f2 f3 f4
  refine (Ri _).mono ?_
  rintro e w5 ⟨rfl, hb⟩
  have S5 := Lib.hid (S4.out.keep hb)
  have F5 := Lib.hid (F4.out.keep hb)
  have G5 := Lib.hid (G4.out.keep hb)
  have B5 := Lib.hid (B4.out.trans (hb.mono B4.out.size))
  clear hb S4 F4 G4 B4
  obtain ⟨k0, k1, k2, k3, k4⟩ := F5.out
  obtain ⟨⟨s0, s1, s2, s3, s4⟩, f0, f1, f2, f3, f4⟩ := S5.out
  go_wp2_with fail
  refine (R1 _).mono ?_
  rintro e w6 ⟨rfl, hb⟩
  have S6 := Lib.hid (S5.out.keep hb)
  have F6 := Lib.hid (F5.out.keep hb)
  have G6 := Lib.hid (G5.out.keep hb)
  have B6 := Lib.hid (B5.out.trans (hb.mono B5.out.size))
  clear hb S5 F5 G5 B5 k0 k1 k2 k3 k4 s0 s1 s2 s3 s4 f0 f1 f2 f3 f4
  obtain ⟨k0, k1, k2, k3, k4⟩ := F6.out
  obtain ⟨⟨s0, s1, s2, s3, s4⟩, f0, f1, f2, f3, f4⟩ := S6.out
  iterate 59 (first | go_values | go_skip | go_guarded | go_step | go_upon | go_back | (simp only at *; go_simp))
  refine region_letter 10 (by simp) ?_
  intro w7 hw
  have S7 := Lib.hid (show Slot5 w7 X W false A S d by rw [hw.out]; exact (((((((S6.out.set0 W).set1 r).set2 A).set3 S).set4 D).set1 false).set4 d))
  have F7 := Lib.hid (show Five w7 Z W r A S D by rw [hw.out]; exact ((((((F6.out.other (by omega) _ _).other (by omega) _ _).other (by omega) _ _).other (by omega) _ _).other (by omega) _ _).other (by omega) _ _).other (by omega) _ _)
  have G7 := Lib.hid (show Five w7 Y W r A S D2 by rw [hw.out]; exact ((((((G6.out.other (by omega) _ _).other (by omega) _ _).other (by omega) _ _).other (by omega) _ _).other (by omega) _ _).other (by omega) _ _).other (by omega) _ _)
  have B7 := Lib.hid (show Below w.heap.size w w7 by rw [hw.out]; exact ((((((B6.out.setCell (by simp; omega) _).setCell (by simp; omega) _).setCell (by simp; omega) _).setCell (by simp; omega) _).setCell (by simp; omega) _).setCell (by simp; omega) _).setCell (by simp; omega) _)
  clear hw S6 F6 G6 B6 k0 k1 k2 k3 k4 s0 s1 s2 s3 s4 f0 f1 f2 f3 f4
  obtain ⟨⟨s0, s1, s2, s3, s4⟩, f0, f1, f2, f3, f4⟩ := S7.out
  go_wp2_with fail
  refine (R2 _).mono ?_
  rintro e w8 ⟨rfl, hb⟩
  have S8 := Lib.hid (S7.out.keep hb)
  have F8 := Lib.hid (F7.out.keep hb)
  have G8 := Lib.hid (G7.out.keep hb)
  have B8 := Lib.hid (B7.out.trans (hb.mono B7.out.size))
  clear hb S7 F7 G7 B7 s0 s1 s2 s3 s4 f0 f1 f2 f3 f4
  obtain ⟨k0, k1, k2, k3, k4⟩ := F8.out
  obtain ⟨⟨s0, s1, s2, s3, s4⟩, f0, f1, f2, f3, f4⟩ := S8.out
  go_wp2_with fail
  refine code_letter ?_
  intro w9 hw
  have S9 := Lib.hid (show Slot5 w9 X W r y S D by rw [hw.out]; exact ((((((S8.out.set0 W).set1 r).set2 A).set3 S).set4 D).set2 y))
  have F9 := Lib.hid (show Five w9 Z W r A S D by rw [hw.out]; exact (((((F8.out.other (by omega) _ _).other (by omega) _ _).other (by omega) _ _).other (by omega) _ _).other (by omega) _ _).other (by omega) _ _)
  have G9 := Lib.hid (show Five w9 Y W r A S D2 by rw [hw.out]; exact (((((G8.out.other (by omega) _ _).other (by omega) _ _).other (by omega) _ _).other (by omega) _ _).other (by omega) _ _).other (by omega) _ _)
  have B9 := Lib.hid (show Below w.heap.size w w9 by rw [hw.out]; exact (((((B8.out.setCell (by simp; omega) _).setCell (by simp; omega) _).setCell (by simp; omega) _).setCell (by simp; omega) _).setCell (by simp; omega) _).setCell (by simp; omega) _)
  clear hw S8 F8 G8 B8 k0 k1 k2 k3 k4 s0 s1 s2 s3 s4 f0 f1 f2 f3 f4
  refine wp_region_ext (by kernel_rfl) (by kernel_rfl) ?_
  intro V hV
  have hV' := hV.out
  subst hV'
  have k0 := ext_cell F9.out.c0
  have k1 := ext_cell F9.out.c1
  have k2 := ext_cell F9.out.c2
  have k3 := ext_cell F9.out.c3
  have k4 := ext_cell F9.out.c4
  have s0 := ext_cell S9.out.five.c0
  have s1 := ext_cell S9.out.five.c1
  have s2 := ext_cell S9.out.five.c2
  have s3 := ext_cell S9.out.five.c3
  have s4 := ext_cell S9.out.five.c4
  repeat (go_big_quiet_step ((first | (go_at_call 14; with_reducible exact ext_of (Ri _)) | (go_at_call 14; with_reducible exact ext_of (R3 _)))))
  refine wpQuiet_nil ?_
  intro w10 hw10
  obtain ⟨q, rfl⟩ := hw10
  have hb := ext_below V q
  have F10 := Lib.hid (F9.out.keep hb)
  have G10 := Lib.hid (G9.out.keep hb)
  have B10 := Lib.hid (B9.out.trans (hb.mono B9.out.size))
  obtain ⟨w10, hw⟩ : ∃ x, ext V q = x := ⟨_, rfl⟩
  rw [hw] at F10 G10 B10
  rw [hw]
  clear hw hb hV S9 F9 G9 B9 k0 k1 k2 k3 k4 s0 s1 s2 s3 s4
  obtain ⟨k0, k1, k2, k3, k4⟩ := F10.out
  go_wp2_with fail
  refine (En _).mono ?_
  rintro e w11 ⟨ax, cx, rfl, hown, hb⟩
  have F11 := Lib.hid (F10.out.keep hb)
  have G11 := Lib.hid (G10.out.keep hb)
  have B11 := Lib.hid (B10.out.trans (hb.mono B10.out.size))
  have O11 := Lib.hid hown
  clear hown hb F10 G10 B10 k0 k1 k2 k3 k4
  obtain ⟨g0, g1, g2, g3, g4⟩ := G11.out
  go_wp2_with fail
  refine (En2 _).mono ?_
  rintro e w12 ⟨ay, cy, rfl, hown, hb⟩
  have F12 := Lib.hid (F11.out.keep hb)
  have G12 := Lib.hid (G11.out.keep hb)
  have B12 := Lib.hid (B11.out.trans (hb.mono B11.out.size))
  have O12 := Lib.hid (bown_below O11.out hb)
  have P12 := Lib.hid hown
  clear hown hb F11 G11 B11 O11 g0 g1 g2 g3 g4
  go_wp2_with fail
  refine wp_region_ext (by kernel_rfl) (by kernel_rfl) ?_
  intro V hV
  have hV' := hV.out
  subst hV'
  have k0 := ext_cell F12.out.c0
  have k1 := ext_cell F12.out.c1
  have k2 := ext_cell F12.out.c2
  have k3 := ext_cell F12.out.c3
  have k4 := ext_cell F12.out.c4
  have g0 := ext_cell G12.out.c0
  have g1 := ext_cell G12.out.c1
  have g2 := ext_cell G12.out.c2
  have g3 := ext_cell G12.out.c3
  have g4 := ext_cell G12.out.c4
  obtain ⟨gx, rfl⟩ := KitBytes.r_some O12.out (.inl (by omega))
  obtain ⟨gy, rfl⟩ := KitBytes.r_some P12.out (.inl (by omega))
  have So := fun q => Sm (ext V q) gx cx gy cy _ _ (bown_below O12.out (ext_below V q)) (bown_below P12.out (ext_below V q))
  repeat (go_big_quiet_step ((go_at_call 18; exact ext_of (So _))))
  refine wpQuiet_nil ?_
  intro w13 hw13
  obtain ⟨q, rfl⟩ := hw13
  go_wp2_with fail
  go_ret
  exact ⟨rfl, B12.out.trans ((ext_below V q).mono B12.out.size)⟩

end Go.Proofs.Ytblccnpdcnlhiaa.Access
