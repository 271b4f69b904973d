/- The walk of AccessBack. -/
import Derived.Test.YtblccnpdcnlhiaaCp
namespace Go.Proofs.Ytblccnpdcnlhiaa.Access
open Go.RowKit Go.Maps Go.ChangeShapes Go.WideShapes Go.ChangeAt Kit Word
set_option linter.unusedVariables false

theorem recL_wf {W : Int} {r : Bool} {A S D : Int} (h : rightB W r A S D = true) (hA : 0 ≤ A) (hA' : A < 4294967296) (hD : 0 ≤ D) (hD' : D < 4294967296) : ∀ c ∈ recL W r A S D, 0 ≤ c ∧ c < 256 := by
  obtain ⟨h0, h8, _⟩ := right_parts h
  exact recL_bd h0 (by omega) hA hA' hD hD'
theorem dec_rec {W : Int} {r : Bool} {A S D : Int} (h : rightB W r A S D = true) (hA : 0 ≤ A) (hA' : A < 4294967296) (hD : 0 ≤ D) (hD' : D < 4294967296) : Dec 12 (recL W r A S D) W r A S D 0 := by
  obtain ⟨_, _, hS, _⟩ := right_parts h
  have e1 : fW (recL W r A S D) = W := rfl
  have e2 : fr (recL W r A S D) = r := wr_flag
  have e3 : fA (recL W r A S D) = A := num_four hA hA'
  have e4 : fS (recL W r A S D) = S := sz_flag hS
  have e5 : fD (recL W r A S D) = D := num_four hD hD'
  refine .inr (.inr (.inr ⟨rfl, ?_, e1.symm, e2.symm, e3.symm, e4.symm, e5.symm, rfl⟩))
  unfold okB
  rw [e1, e2, e3, e4, e5, h]
  simp
theorem reach_end {W : Int} {r : Bool} {A S D : Int} (h : rightB W r A S D = true) (hA : 0 ≤ A) (hA' : A < 4294967296) :
    0 ≤ A + S - 1 ∧ A + S - 1 < 4294967296 ∧ Reach.sizeV A (A + S - 1) = S ∧ decide (A + S - 1 < A) = false ∧ decide ((A + S - 1) % 4 < A % 4) = false := by
  have ht := right_top h hA'
  obtain ⟨_, _, hS, ha, _⟩ := right_parts h
  have e : A ≤ A + S - 1 := by omega
  refine ⟨by omega, by omega, ?_, decide_eq_false (by omega), decide_eq_false ?_⟩
  · unfold Reach.sizeV; rw [if_pos e]; omega
  · rcases hS with rfl | rfl | rfl <;> omega
theorem Size_val (f t n : Int) (w : World) (hf : 0 ≤ f) (hf' : f < 4294967296) (ht : 0 ≤ t) (ht' : t < 4294967296) (hn : Reach.sizeV f t = n) :
    Calls Try.prog 17 #[.agg #[.int .u32 f, .int .u32 t]] w fun e w' => e = .returned (.int .i64 n) ∧ Below w.heap.size w w' := by
  subst hn; exact Reach.Size_any f t w hf hf' ht ht'
theorem ok_rec {n : Nat} {l : List Int} {W : Int} {r : Bool} {A S D : Int} (hn : n = 12) (h : okB l = true) (e1 : W = fW l) (e2 : r = fr l) (e3 : A = fA l) (e4 : S = fS l) (e5 : D = fD l) : rightB W r A S D = true ∧ recL W r A S D = l := by
  subst e1 e2 e3 e4 e5
  unfold okB at h
  simpa using h

set_option maxRecDepth 100000 in
set_option maxHeartbeats 2000000 in
theorem back_yes_long (a : Option Addr) (n cap : Nat) (l L : List Int) (W : Int) (r : Bool) (A S D T : Int) (w : World) (hrow : Row .u8 w a n l) (hn : 12 < n)
    (Aw : ∀ w, Calls Try.prog 9 #[] w fun e w' => e = .returned (.bool true) ∧ Below w.heap.size w w')
    (Ri : ∀ w, Calls Try.prog 14 #[acc W r A S D] w fun e w' => e = .returned (.bool true) ∧ Below w.heap.size w w')
    (En : ∀ w, Calls Try.prog 13 #[acc W r A S D] w (EncRow 12 L 0 w))
    (Dc : ∀ w, Row .u8 w a n l → Calls Try.prog 15 #[.slice a n cap] w fun e w' => e = .returned (.tuple #[acc 0 false 0 0 0, .int .i64 3]) ∧ Below w.heap.size w w')
    (Dx : ∀ w x y c, w.ownsRow x 5 1 (.slice (some ⟨y, 0, none⟩) 12 c) 12 (bv L) → Calls Try.prog 15 #[.slice (some ⟨y, 0, none⟩) 12 c] w fun e w' => e = .returned (.tuple #[acc W r A S D, .int .i64 0]) ∧ Below w.heap.size w w')
    (Rc : ∀ w, Calls Try.prog 16 #[acc W r A S D] w fun e w' => e = .returned (.tuple #[.agg #[.int .u32 A, .int .u32 T], .bool true]) ∧ Below w.heap.size w w')
    (Sz : ∀ w, Calls Try.prog 17 #[.agg #[.int .u32 A, .int .u32 T]] w fun e w' => e = .returned (.int .i64 S) ∧ Below w.heap.size w w')
    (hT0 : 0 ≤ T) (hA0 : 0 ≤ A) (hT : decide (T < A) = false) (hT4 : decide (T % 4 < A % 4) = false) :
    Calls Try.prog 6 #[acc W r A S D, .slice a n cap] w fun e w' => e = .returned (.bool true) ∧ Below w.heap.size w w' := by
  have d1 : decide ((12 : Int) < (n : Int)) = true := decide_eq_true (by omega)
  have d2 : decide (12 < n) = true := decide_eq_true (by omega)
  have Hrow := Lib.hid hrow
  have Hn := Lib.hid hn
  clear hrow hn
  go_enter Try.func6, Try.ntmps6
  go_wp2_with fail
  refine (Aw _).mono ?_
  rintro e w1 ⟨rfl, hb⟩
  have F1 := Lib.hid ((five_new w W r A S D _).keep hb)
  have B1 := Lib.hid (((Below.refl w.heap.size w).alloc (Nat.le_refl _) _).trans (hb.mono (by simp)))
  obtain ⟨Z, hZ⟩ : ∃ Z, w.heap.size = Z := ⟨_, rfl⟩
  rw [hZ] at F1
  rw [hZ]
  have HZ := Lib.hid hZ
  clear hb hZ
  obtain ⟨k0, k1, k2, k3, k4⟩ := F1.out
  go_wp2_with fail
  refine (En _).mono ?_
  rintro e w2 ⟨ac, cc, rfl, hown, hb⟩
  have F2 := Lib.hid (F1.out.keep hb)
  have B2 := Lib.hid (B1.out.trans (hb.mono B1.out.size))
  have O2 := Lib.hid hown
  clear hb hown F1 B1 k0 k1 k2 k3 k4
  obtain ⟨k0, k1, k2, k3, k4⟩ := F2.out
  go_wp2_with fail
  refine (Ri _).mono ?_
  rintro e w3 ⟨rfl, hb⟩
  have F3 := Lib.hid (F2.out.keep hb)
  have B3 := Lib.hid (B2.out.trans (hb.mono B2.out.size))
  have O3 := Lib.hid (bown_below O2.out hb)
  clear hb F2 B2 O2 k0 k1 k2 k3 k4
  obtain ⟨k0, k1, k2, k3, k4⟩ := F3.out
  go_wp2_with fail
  obtain ⟨gc, rfl⟩ := KitBytes.r_some O3.out (.inl (by omega))
  refine (Dx _ _ gc cc O3.out).mono ?_
  rintro e w4 ⟨rfl, hb⟩
  have F4 := Lib.hid ((F3.out.keep hb).alloc (.cells #[.int .i64 W, .bool r, .int .u32 A, .int .i64 S, .int .u32 D] 24))
  have G4 := Lib.hid (five_new w4 W r A S D 24)
  have B4' := B3.out.trans (hb.mono B3.out.size)
  have B4 := Lib.hid (B4'.alloc B4'.size (.cells #[.int .i64 W, .bool r, .int .u32 A, .int .i64 S, .int .u32 D] 24))
  clear hb F3 B3 O3 B4' k0 k1 k2 k3 k4
  obtain ⟨k0, k1, k2, k3, k4⟩ := F4.out
  go_wp2_with fail
  refine (Rc _).mono ?_
  rintro e w5 ⟨rfl, hb⟩
  have F5 := Lib.hid (F4.out.keep hb)
  have G5 := Lib.hid (G4.out.keep hb)
  have B5 := Lib.hid (B4.out.trans (hb.mono B4.out.size))
  obtain ⟨C, hC⟩ : ∃ C, w4.heap.size = C := ⟨_, rfl⟩
  rw [hC] at G5
  rw [hC]
  clear hb F4 G4 B4 hC k0 k1 k2 k3 k4
  go_wp2_with fail
  refine wp_region_ext (by kernel_rfl) (by kernel_rfl) ?_
  intro V hV
  have hk : Below w5.heap.size w5 V := by rw [hV.out]; exact (Below.refl _ _).alloc (Nat.le_refl _) _
  have T0 := ext_cell (show V.cell? ⟨w5.heap.size, 0, none⟩ = some (.int .u32 A) by rw [hV.out]; exact World.cell?_alloc_at _ _ _ 0 rfl)
  have T1 := ext_cell (show V.cell? ⟨w5.heap.size, 1, none⟩ = some (.int .u32 T) by rw [hV.out]; exact World.cell?_alloc_at _ _ _ 1 rfl)
  have k0 := ext_cell (F5.out.keep hk).c0
  have k1 := ext_cell (F5.out.keep hk).c1
  have k2 := ext_cell (F5.out.keep hk).c2
  have k3 := ext_cell (F5.out.keep hk).c3
  have k4 := ext_cell (F5.out.keep hk).c4
  have g0 := ext_cell (G5.out.keep hk).c0
  have g1 := ext_cell (G5.out.keep hk).c1
  have g2 := ext_cell (G5.out.keep hk).c2
  have g3 := ext_cell (G5.out.keep hk).c3
  have g4 := ext_cell (G5.out.keep hk).c4
  have B6 := Lib.hid (B5.out.trans (hk.mono B5.out.size))
  obtain ⟨E, hE⟩ : ∃ E, w5.heap.size = E := ⟨_, rfl⟩
  rw [hE] at T0 T1
  rw [hE]
  clear hk hV hE F5 G5 B5
  repeat (go_big_quiet_step ((go_at_call 17; exact ext_of (Sz _))))
  refine wpQuiet_nil ?_
  intro w7 hw7
  obtain ⟨p, rfl⟩ := hw7
  have B7 := Lib.hid (B6.out.trans ((ext_below V p).mono B6.out.size))
  clear T0 T1 k0 k1 k2 k3 k4 g0 g1 g2 g3 g4 B6
  go_wp2_with fail
  refine (Dc _ (Hrow.out.below B7.out)).mono ?_
  rintro e wd ⟨rfl, hb⟩
  have Bd := Lib.hid (B7.out.trans (hb.mono B7.out.size))
  clear hb
  go_wp2_with fail
  go_ret
  exact ⟨rfl, Bd.out.alloc Bd.out.size _⟩

set_option maxRecDepth 100000 in
set_option maxHeartbeats 2000000 in
theorem back_yes_shape (a : Option Addr) (n cap : Nat) (l L : List Int) (W : Int) (r : Bool) (A S D T : Int) (w : World) (hrow : Row .u8 w a n l) (hn : n ≤ 12)
    (Aw : ∀ w, Calls Try.prog 9 #[] w fun e w' => e = .returned (.bool true) ∧ Below w.heap.size w w')
    (Ri : ∀ w, Calls Try.prog 14 #[acc W r A S D] w fun e w' => e = .returned (.bool true) ∧ Below w.heap.size w w')
    (En : ∀ w, Calls Try.prog 13 #[acc W r A S D] w (EncRow 12 L 0 w))
    (Dc : ∀ w, Row .u8 w a n l → Calls Try.prog 15 #[.slice a n cap] w fun e w' => e = .returned (.tuple #[acc 0 false 0 0 0, .int .i64 4]) ∧ Below w.heap.size w w')
    (Dx : ∀ w x y c, w.ownsRow x 5 1 (.slice (some ⟨y, 0, none⟩) 12 c) 12 (bv L) → Calls Try.prog 15 #[.slice (some ⟨y, 0, none⟩) 12 c] w fun e w' => e = .returned (.tuple #[acc W r A S D, .int .i64 0]) ∧ Below w.heap.size w w')
    (Rc : ∀ w, Calls Try.prog 16 #[acc W r A S D] w fun e w' => e = .returned (.tuple #[.agg #[.int .u32 A, .int .u32 T], .bool true]) ∧ Below w.heap.size w w')
    (Sz : ∀ w, Calls Try.prog 17 #[.agg #[.int .u32 A, .int .u32 T]] w fun e w' => e = .returned (.int .i64 S) ∧ Below w.heap.size w w')
    (hT0 : 0 ≤ T) (hA0 : 0 ≤ A) (hT : decide (T < A) = false) (hT4 : decide (T % 4 < A % 4) = false) :
    Calls Try.prog 6 #[acc W r A S D, .slice a n cap] w fun e w' => e = .returned (.bool true) ∧ Below w.heap.size w w' := by
  have d1 : decide ((12 : Int) < (n : Int)) = false := decide_eq_false (by omega)
  have d2 : decide (12 < n) = false := decide_eq_false (by omega)
  have Hrow := Lib.hid hrow
  have Hn := Lib.hid hn
  clear hrow hn
  go_enter Try.func6, Try.ntmps6
  go_wp2_with fail
  refine (Aw _).mono ?_
  rintro e w1 ⟨rfl, hb⟩
  have F1 := Lib.hid ((five_new w W r A S D _).keep hb)
  have B1 := Lib.hid (((Below.refl w.heap.size w).alloc (Nat.le_refl _) _).trans (hb.mono (by simp)))
  obtain ⟨Z, hZ⟩ : ∃ Z, w.heap.size = Z := ⟨_, rfl⟩
  rw [hZ] at F1
  rw [hZ]
  have HZ := Lib.hid hZ
  clear hb hZ
  obtain ⟨k0, k1, k2, k3, k4⟩ := F1.out
  go_wp2_with fail
  refine (En _).mono ?_
  rintro e w2 ⟨ac, cc, rfl, hown, hb⟩
  have F2 := Lib.hid (F1.out.keep hb)
  have B2 := Lib.hid (B1.out.trans (hb.mono B1.out.size))
  have O2 := Lib.hid hown
  clear hb hown F1 B1 k0 k1 k2 k3 k4
  obtain ⟨k0, k1, k2, k3, k4⟩ := F2.out
  go_wp2_with fail
  refine (Ri _).mono ?_
  rintro e w3 ⟨rfl, hb⟩
  have F3 := Lib.hid (F2.out.keep hb)
  have B3 := Lib.hid (B2.out.trans (hb.mono B2.out.size))
  have O3 := Lib.hid (bown_below O2.out hb)
  clear hb F2 B2 O2 k0 k1 k2 k3 k4
  obtain ⟨k0, k1, k2, k3, k4⟩ := F3.out
  go_wp2_with fail
  obtain ⟨gc, rfl⟩ := KitBytes.r_some O3.out (.inl (by omega))
  refine (Dx _ _ gc cc O3.out).mono ?_
  rintro e w4 ⟨rfl, hb⟩
  have F4 := Lib.hid ((F3.out.keep hb).alloc (.cells #[.int .i64 W, .bool r, .int .u32 A, .int .i64 S, .int .u32 D] 24))
  have G4 := Lib.hid (five_new w4 W r A S D 24)
  have B4' := B3.out.trans (hb.mono B3.out.size)
  have B4 := Lib.hid (B4'.alloc B4'.size (.cells #[.int .i64 W, .bool r, .int .u32 A, .int .i64 S, .int .u32 D] 24))
  clear hb F3 B3 O3 B4' k0 k1 k2 k3 k4
  obtain ⟨k0, k1, k2, k3, k4⟩ := F4.out
  go_wp2_with fail
  refine (Rc _).mono ?_
  rintro e w5 ⟨rfl, hb⟩
  have F5 := Lib.hid (F4.out.keep hb)
  have G5 := Lib.hid (G4.out.keep hb)
  have B5 := Lib.hid (B4.out.trans (hb.mono B4.out.size))
  obtain ⟨C, hC⟩ : ∃ C, w4.heap.size = C := ⟨_, rfl⟩
  rw [hC] at G5
  rw [hC]
  clear hb F4 G4 B4 hC k0 k1 k2 k3 k4
  go_wp2_with fail
  refine wp_region_ext (by kernel_rfl) (by kernel_rfl) ?_
  intro V hV
  have hk : Below w5.heap.size w5 V := by rw [hV.out]; exact (Below.refl _ _).alloc (Nat.le_refl _) _
  have T0 := ext_cell (show V.cell? ⟨w5.heap.size, 0, none⟩ = some (.int .u32 A) by rw [hV.out]; exact World.cell?_alloc_at _ _ _ 0 rfl)
  have T1 := ext_cell (show V.cell? ⟨w5.heap.size, 1, none⟩ = some (.int .u32 T) by rw [hV.out]; exact World.cell?_alloc_at _ _ _ 1 rfl)
  have k0 := ext_cell (F5.out.keep hk).c0
  have k1 := ext_cell (F5.out.keep hk).c1
  have k2 := ext_cell (F5.out.keep hk).c2
  have k3 := ext_cell (F5.out.keep hk).c3
  have k4 := ext_cell (F5.out.keep hk).c4
  have g0 := ext_cell (G5.out.keep hk).c0
  have g1 := ext_cell (G5.out.keep hk).c1
  have g2 := ext_cell (G5.out.keep hk).c2
  have g3 := ext_cell (G5.out.keep hk).c3
  have g4 := ext_cell (G5.out.keep hk).c4
  have B6 := Lib.hid (B5.out.trans (hk.mono B5.out.size))
  obtain ⟨E, hE⟩ : ∃ E, w5.heap.size = E := ⟨_, rfl⟩
  rw [hE] at T0 T1
  rw [hE]
  clear hk hV hE F5 G5 B5
  repeat (go_big_quiet_step ((go_at_call 17; exact ext_of (Sz _))))
  refine wpQuiet_nil ?_
  intro w7 hw7
  obtain ⟨p, rfl⟩ := hw7
  have B7 := Lib.hid (B6.out.trans ((ext_below V p).mono B6.out.size))
  clear T0 T1 k0 k1 k2 k3 k4 g0 g1 g2 g3 g4 B6
  go_wp2_with fail
  refine (Dc _ (Hrow.out.below B7.out)).mono ?_
  rintro e wd ⟨rfl, hb⟩
  have Bd := Lib.hid (B7.out.trans (hb.mono B7.out.size))
  clear hb
  go_wp2_with fail
  go_ret
  exact ⟨rfl, Bd.out.alloc Bd.out.size _⟩

set_option maxRecDepth 100000 in
set_option maxHeartbeats 2000000 in
theorem back_yes_ok (a : Option Addr) (n cap : Nat) (l L : List Int) (W : Int) (r : Bool) (A S D T : Int) (W2 : Int) (r2 : Bool) (A2 S2 D2 : Int) (w : World) (hrow : Row .u8 w a n l) (hn : n = 12)
    (Aw : ∀ w, Calls Try.prog 9 #[] w fun e w' => e = .returned (.bool true) ∧ Below w.heap.size w w')
    (Ri : ∀ w, Calls Try.prog 14 #[acc W r A S D] w fun e w' => e = .returned (.bool true) ∧ Below w.heap.size w w')
    (En : ∀ w, Calls Try.prog 13 #[acc W r A S D] w (EncRow 12 L 0 w))
    (Dc : ∀ w, Row .u8 w a n l → Calls Try.prog 15 #[.slice a n cap] w fun e w' => e = .returned (.tuple #[acc W2 r2 A2 S2 D2, .int .i64 0]) ∧ Below w.heap.size w w')
    (Dx : ∀ w x y c, w.ownsRow x 5 1 (.slice (some ⟨y, 0, none⟩) 12 c) 12 (bv L) → Calls Try.prog 15 #[.slice (some ⟨y, 0, none⟩) 12 c] w fun e w' => e = .returned (.tuple #[acc W r A S D, .int .i64 0]) ∧ Below w.heap.size w w')
    (Rc : ∀ w, Calls Try.prog 16 #[acc W r A S D] w fun e w' => e = .returned (.tuple #[.agg #[.int .u32 A, .int .u32 T], .bool true]) ∧ Below w.heap.size w w')
    (Sz : ∀ w, Calls Try.prog 17 #[.agg #[.int .u32 A, .int .u32 T]] w fun e w' => e = .returned (.int .i64 S) ∧ Below w.heap.size w w')
    (hT0 : 0 ≤ T) (hA0 : 0 ≤ A) (hT : decide (T < A) = false) (hT4 : decide (T % 4 < A % 4) = false)
    (En2 : ∀ w, Calls Try.prog 13 #[acc W2 r2 A2 S2 D2] w (EncRow 12 l 0 w))
    (Sm : ∀ wz g cg x, Below w.heap.size w wz → wz.ownsRow x 5 1 (.slice (some ⟨g, 0, none⟩) 12 cg) 12 (bv l) → Calls Try.prog 18 #[.slice (some ⟨g, 0, none⟩) 12 cg, .slice a n cap] wz fun e w' => e = .returned (.bool true) ∧ Below wz.heap.size wz w') :
    Calls Try.prog 6 #[acc W r A S D, .slice a n cap] w fun e w' => e = .returned (.bool true) ∧ Below w.heap.size w w' := by
  have Hrow := Lib.hid hrow
  have Hn := Lib.hid hn
  clear hrow hn
  go_enter Try.func6, Try.ntmps6
  go_wp2_with fail
  refine (Aw _).mono ?_
  rintro e w1 ⟨rfl, hb⟩
  have F1 := Lib.hid ((five_new w W r A S D _).keep hb)
  have B1 := Lib.hid (((Below.refl w.heap.size w).alloc (Nat.le_refl _) _).trans (hb.mono (by simp)))
  obtain ⟨Z, hZ⟩ : ∃ Z, w.heap.size = Z := ⟨_, rfl⟩
  rw [hZ] at F1
  rw [hZ]
  have HZ := Lib.hid hZ
  clear hb hZ
  obtain ⟨k0, k1, k2, k3, k4⟩ := F1.out
  go_wp2_with fail
  refine (En _).mono ?_
  rintro e w2 ⟨ac, cc, rfl, hown, hb⟩
  have F2 := Lib.hid (F1.out.keep hb)
  have B2 := Lib.hid (B1.out.trans (hb.mono B1.out.size))
  have O2 := Lib.hid hown
  clear hb hown F1 B1 k0 k1 k2 k3 k4
  obtain ⟨k0, k1, k2, k3, k4⟩ := F2.out
  go_wp2_with fail
  refine (Ri _).mono ?_
  rintro e w3 ⟨rfl, hb⟩
  have F3 := Lib.hid (F2.out.keep hb)
  have B3 := Lib.hid (B2.out.trans (hb.mono B2.out.size))
  have O3 := Lib.hid (bown_below O2.out hb)
  clear hb F2 B2 O2 k0 k1 k2 k3 k4
  obtain ⟨k0, k1, k2, k3, k4⟩ := F3.out
  go_wp2_with fail
  obtain ⟨gc, rfl⟩ := KitBytes.r_some O3.out (.inl (by omega))
  refine (Dx _ _ gc cc O3.out).mono ?_
  rintro e w4 ⟨rfl, hb⟩
  have F4 := Lib.hid ((F3.out.keep hb).alloc (.cells #[.int .i64 W, .bool r, .int .u32 A, .int .i64 S, .int .u32 D] 24))
  have G4 := Lib.hid (five_new w4 W r A S D 24)
  have B4' := B3.out.trans (hb.mono B3.out.size)
  have B4 := Lib.hid (B4'.alloc B4'.size (.cells #[.int .i64 W, .bool r, .int .u32 A, .int .i64 S, .int .u32 D] 24))
  clear hb F3 B3 O3 B4' k0 k1 k2 k3 k4
  obtain ⟨k0, k1, k2, k3, k4⟩ := F4.out
  go_wp2_with fail
  refine (Rc _).mono ?_
  rintro e w5 ⟨rfl, hb⟩
  have F5 := Lib.hid (F4.out.keep hb)
  have G5 := Lib.hid (G4.out.keep hb)
  have B5 := Lib.hid (B4.out.trans (hb.mono B4.out.size))
  obtain ⟨C, hC⟩ : ∃ C, w4.heap.size = C := ⟨_, rfl⟩
  rw [hC] at G5
  rw [hC]
  clear hb F4 G4 B4 hC k0 k1 k2 k3 k4
  go_wp2_with fail
  refine wp_region_ext (by kernel_rfl) (by kernel_rfl) ?_
  intro V hV
  have hk : Below w5.heap.size w5 V := by rw [hV.out]; exact (Below.refl _ _).alloc (Nat.le_refl _) _
  have T0 := ext_cell (show V.cell? ⟨w5.heap.size, 0, none⟩ = some (.int .u32 A) by rw [hV.out]; exact World.cell?_alloc_at _ _ _ 0 rfl)
  have T1 := ext_cell (show V.cell? ⟨w5.heap.size, 1, none⟩ = some (.int .u32 T) by rw [hV.out]; exact World.cell?_alloc_at _ _ _ 1 rfl)
  have k0 := ext_cell (F5.out.keep hk).c0
  have k1 := ext_cell (F5.out.keep hk).c1
  have k2 := ext_cell (F5.out.keep hk).c2
  have k3 := ext_cell (F5.out.keep hk).c3
  have k4 := ext_cell (F5.out.keep hk).c4
  have g0 := ext_cell (G5.out.keep hk).c0
  have g1 := ext_cell (G5.out.keep hk).c1
  have g2 := ext_cell (G5.out.keep hk).c2
  have g3 := ext_cell (G5.out.keep hk).c3
  have g4 := ext_cell (G5.out.keep hk).c4
  have B6 := Lib.hid (B5.out.trans (hk.mono B5.out.size))
  obtain ⟨E, hE⟩ : ∃ E, w5.heap.size = E := ⟨_, rfl⟩
  rw [hE] at T0 T1
  rw [hE]
  clear hk hV hE F5 G5 B5
  repeat (go_big_quiet_step ((go_at_call 17; exact ext_of (Sz _))))
  refine wpQuiet_nil ?_
  intro w7 hw7
  obtain ⟨p, rfl⟩ := hw7
  have B7 := Lib.hid (B6.out.trans ((ext_below V p).mono B6.out.size))
  clear T0 T1 k0 k1 k2 k3 k4 g0 g1 g2 g3 g4 B6
  go_wp2_with fail
  refine (Dc _ (Hrow.out.below B7.out)).mono ?_
  rintro e wd ⟨rfl, hb⟩
  have Bd := Lib.hid (B7.out.trans (hb.mono B7.out.size))
  clear hb
  go_wp2_with fail
  refine (En2 _).mono ?_
  rintro e we ⟨ag, cg, rfl, hown, hb⟩
  obtain ⟨g, rfl⟩ := KitBytes.r_some hown (.inl (by omega))
  have Be := Lib.hid ((Bd.out.alloc Bd.out.size _).trans (hb.mono (Bd.out.alloc Bd.out.size _).size))
  have Og := Lib.hid hown
  clear hown hb
  go_wp2_with fail
  refine (Sm _ g cg _ Be.out Og.out).mono ?_
  rintro e wf ⟨rfl, hb⟩
  have Bf := Lib.hid (Be.out.trans (hb.mono Be.out.size))
  clear hb
  go_wp2_with fail
  go_ret
  exact ⟨rfl, Bf.out⟩

set_option maxRecDepth 100000 in
set_option maxHeartbeats 2000000 in
theorem back_no_long (a : Option Addr) (n cap : Nat) (l L : List Int) (W : Int) (r : Bool) (A S D T : Int) (w : World) (hrow : Row .u8 w a n l) (hn : 12 < n)
    (Aw : ∀ w, Calls Try.prog 9 #[] w fun e w' => e = .returned (.bool true) ∧ Below w.heap.size w w')
    (Ri : ∀ w, Calls Try.prog 14 #[acc W r A S D] w fun e w' => e = .returned (.bool false) ∧ Below w.heap.size w w')
    (En : ∀ w, Calls Try.prog 13 #[acc W r A S D] w (EncRow 0 [] 2 w))
    (Dc : ∀ w, Row .u8 w a n l → Calls Try.prog 15 #[.slice a n cap] w fun e w' => e = .returned (.tuple #[acc 0 false 0 0 0, .int .i64 3]) ∧ Below w.heap.size w w') :
    Calls Try.prog 6 #[acc W r A S D, .slice a n cap] w fun e w' => e = .returned (.bool true) ∧ Below w.heap.size w w' := by
  have d1 : decide ((12 : Int) < (n : Int)) = true := decide_eq_true (by omega)
  have d2 : decide (12 < n) = true := decide_eq_true (by omega)
  have Hrow := Lib.hid hrow
  have Hn := Lib.hid hn
  clear hrow hn
  go_enter Try.func6, Try.ntmps6
  go_wp2_with fail
  refine (Aw _).mono ?_
  rintro e w1 ⟨rfl, hb⟩
  have F1 := Lib.hid ((five_new w W r A S D _).keep hb)
  have B1 := Lib.hid (((Below.refl w.heap.size w).alloc (Nat.le_refl _) _).trans (hb.mono (by simp)))
  obtain ⟨Z, hZ⟩ : ∃ Z, w.heap.size = Z := ⟨_, rfl⟩
  rw [hZ] at F1
  rw [hZ]
  have HZ := Lib.hid hZ
  clear hb hZ
  obtain ⟨k0, k1, k2, k3, k4⟩ := F1.out
  go_wp2_with fail
  refine (En _).mono ?_
  rintro e w2 ⟨ac, cc, rfl, hown, hb⟩
  have F2 := Lib.hid (F1.out.keep hb)
  have B2 := Lib.hid (B1.out.trans (hb.mono B1.out.size))
  have O2 := Lib.hid hown
  clear hb hown F1 B1 k0 k1 k2 k3 k4
  obtain ⟨k0, k1, k2, k3, k4⟩ := F2.out
  go_wp2_with fail
  refine (Ri _).mono ?_
  rintro e w3 ⟨rfl, hb⟩
  have F3 := Lib.hid (F2.out.keep hb)
  have B3 := Lib.hid (B2.out.trans (hb.mono B2.out.size))
  have O3 := Lib.hid (bown_below O2.out hb)
  clear hb F2 B2 O2 k0 k1 k2 k3 k4
  obtain ⟨k0, k1, k2, k3, k4⟩ := F3.out
  go_wp2_with fail
  refine (Dc _ (Hrow.out.below B3.out)).mono ?_
  rintro e wd ⟨rfl, hb⟩
  have Bd := Lib.hid (B3.out.trans (hb.mono B3.out.size))
  clear hb
  go_wp2_with fail
  go_ret
  exact ⟨rfl, Bd.out.alloc Bd.out.size _⟩

set_option maxRecDepth 100000 in
set_option maxHeartbeats 2000000 in
theorem back_no_shape (a : Option Addr) (n cap : Nat) (l L : List Int) (W : Int) (r : Bool) (A S D T : Int) (w : World) (hrow : Row .u8 w a n l) (hn : n ≤ 12)
    (Aw : ∀ w, Calls Try.prog 9 #[] w fun e w' => e = .returned (.bool true) ∧ Below w.heap.size w w')
    (Ri : ∀ w, Calls Try.prog 14 #[acc W r A S D] w fun e w' => e = .returned (.bool false) ∧ Below w.heap.size w w')
    (En : ∀ w, Calls Try.prog 13 #[acc W r A S D] w (EncRow 0 [] 2 w))
    (Dc : ∀ w, Row .u8 w a n l → Calls Try.prog 15 #[.slice a n cap] w fun e w' => e = .returned (.tuple #[acc 0 false 0 0 0, .int .i64 4]) ∧ Below w.heap.size w w') :
    Calls Try.prog 6 #[acc W r A S D, .slice a n cap] w fun e w' => e = .returned (.bool true) ∧ Below w.heap.size w w' := by
  have d1 : decide ((12 : Int) < (n : Int)) = false := decide_eq_false (by omega)
  have d2 : decide (12 < n) = false := decide_eq_false (by omega)
  have Hrow := Lib.hid hrow
  have Hn := Lib.hid hn
  clear hrow hn
  go_enter Try.func6, Try.ntmps6
  go_wp2_with fail
  refine (Aw _).mono ?_
  rintro e w1 ⟨rfl, hb⟩
  have F1 := Lib.hid ((five_new w W r A S D _).keep hb)
  have B1 := Lib.hid (((Below.refl w.heap.size w).alloc (Nat.le_refl _) _).trans (hb.mono (by simp)))
  obtain ⟨Z, hZ⟩ : ∃ Z, w.heap.size = Z := ⟨_, rfl⟩
  rw [hZ] at F1
  rw [hZ]
  have HZ := Lib.hid hZ
  clear hb hZ
  obtain ⟨k0, k1, k2, k3, k4⟩ := F1.out
  go_wp2_with fail
  refine (En _).mono ?_
  rintro e w2 ⟨ac, cc, rfl, hown, hb⟩
  have F2 := Lib.hid (F1.out.keep hb)
  have B2 := Lib.hid (B1.out.trans (hb.mono B1.out.size))
  have O2 := Lib.hid hown
  clear hb hown F1 B1 k0 k1 k2 k3 k4
  obtain ⟨k0, k1, k2, k3, k4⟩ := F2.out
  go_wp2_with fail
  refine (Ri _).mono ?_
  rintro e w3 ⟨rfl, hb⟩
  have F3 := Lib.hid (F2.out.keep hb)
  have B3 := Lib.hid (B2.out.trans (hb.mono B2.out.size))
  have O3 := Lib.hid (bown_below O2.out hb)
  clear hb F2 B2 O2 k0 k1 k2 k3 k4
  obtain ⟨k0, k1, k2, k3, k4⟩ := F3.out
  go_wp2_with fail
  refine (Dc _ (Hrow.out.below B3.out)).mono ?_
  rintro e wd ⟨rfl, hb⟩
  have Bd := Lib.hid (B3.out.trans (hb.mono B3.out.size))
  clear hb
  go_wp2_with fail
  go_ret
  exact ⟨rfl, Bd.out.alloc Bd.out.size _⟩

set_option maxRecDepth 100000 in
set_option maxHeartbeats 2000000 in
theorem back_no_ok (a : Option Addr) (n cap : Nat) (l L : List Int) (W : Int) (r : Bool) (A S D T : Int) (W2 : Int) (r2 : Bool) (A2 S2 D2 : Int) (w : World) (hrow : Row .u8 w a n l) (hn : n = 12)
    (Aw : ∀ w, Calls Try.prog 9 #[] w fun e w' => e = .returned (.bool true) ∧ Below w.heap.size w w')
    (Ri : ∀ w, Calls Try.prog 14 #[acc W r A S D] w fun e w' => e = .returned (.bool false) ∧ Below w.heap.size w w')
    (En : ∀ w, Calls Try.prog 13 #[acc W r A S D] w (EncRow 0 [] 2 w))
    (Dc : ∀ w, Row .u8 w a n l → Calls Try.prog 15 #[.slice a n cap] w fun e w' => e = .returned (.tuple #[acc W2 r2 A2 S2 D2, .int .i64 0]) ∧ Below w.heap.size w w')
    (En2 : ∀ w, Calls Try.prog 13 #[acc W2 r2 A2 S2 D2] w (EncRow 12 l 0 w))
    (Sm : ∀ wz g cg x, Below w.heap.size w wz → wz.ownsRow x 5 1 (.slice (some ⟨g, 0, none⟩) 12 cg) 12 (bv l) → Calls Try.prog 18 #[.slice (some ⟨g, 0, none⟩) 12 cg, .slice a n cap] wz fun e w' => e = .returned (.bool true) ∧ Below wz.heap.size wz w') :
    Calls Try.prog 6 #[acc W r A S D, .slice a n cap] w fun e w' => e = .returned (.bool true) ∧ Below w.heap.size w w' := by
  have Hrow := Lib.hid hrow
  have Hn := Lib.hid hn
  clear hrow hn
  go_enter Try.func6, Try.ntmps6
  go_wp2_with fail
  refine (Aw _).mono ?_
  rintro e w1 ⟨rfl, hb⟩
  have F1 := Lib.hid ((five_new w W r A S D _).keep hb)
  have B1 := Lib.hid (((Below.refl w.heap.size w).alloc (Nat.le_refl _) _).trans (hb.mono (by simp)))
  obtain ⟨Z, hZ⟩ : ∃ Z, w.heap.size = Z := ⟨_, rfl⟩
  rw [hZ] at F1
  rw [hZ]
  have HZ := Lib.hid hZ
  clear hb hZ
  obtain ⟨k0, k1, k2, k3, k4⟩ := F1.out
  go_wp2_with fail
  refine (En _).mono ?_
  rintro e w2 ⟨ac, cc, rfl, hown, hb⟩
  have F2 := Lib.hid (F1.out.keep hb)
  have B2 := Lib.hid (B1.out.trans (hb.mono B1.out.size))
  have O2 := Lib.hid hown
  clear hb hown F1 B1 k0 k1 k2 k3 k4
  obtain ⟨k0, k1, k2, k3, k4⟩ := F2.out
  go_wp2_with fail
  refine (Ri _).mono ?_
  rintro e w3 ⟨rfl, hb⟩
  have F3 := Lib.hid (F2.out.keep hb)
  have B3 := Lib.hid (B2.out.trans (hb.mono B2.out.size))
  have O3 := Lib.hid (bown_below O2.out hb)
  clear hb F2 B2 O2 k0 k1 k2 k3 k4
  obtain ⟨k0, k1, k2, k3, k4⟩ := F3.out
  go_wp2_with fail
  refine (Dc _ (Hrow.out.below B3.out)).mono ?_
  rintro e wd ⟨rfl, hb⟩
  have Bd := Lib.hid (B3.out.trans (hb.mono B3.out.size))
  clear hb
  go_wp2_with fail
  refine (En2 _).mono ?_
  rintro e we ⟨ag, cg, rfl, hown, hb⟩
  obtain ⟨g, rfl⟩ := KitBytes.r_some hown (.inl (by omega))
  have Be := Lib.hid ((Bd.out.alloc Bd.out.size _).trans (hb.mono (Bd.out.alloc Bd.out.size _).size))
  have Og := Lib.hid hown
  clear hown hb
  go_wp2_with fail
  refine (Sm _ g cg _ Be.out Og.out).mono ?_
  rintro e wf ⟨rfl, hb⟩
  have Bf := Lib.hid (Be.out.trans (hb.mono Be.out.size))
  clear hb
  go_wp2_with fail
  go_ret
  exact ⟨rfl, Bf.out⟩

end Go.Proofs.Ytblccnpdcnlhiaa.Access
