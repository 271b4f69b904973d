/- Contracts: Has, Lets, Clash, Above, both ways. -/
import Derived.Test.YtploggfaihfeeaaHc
namespace Go.Proofs.Ytploggfaihfeeaa.Region
open Go.RowKit Go.Proofs.Ytploggfaihfeeaa.Access
set_option linter.unusedVariables false

theorem has_0 (o : Bool) (W F T : Int) (rd wr : Bool) (K : Int) (lk : Bool) (W2 : Int) (r2 : Bool) (A S D : Int) (x y : Int) (w : World)
    (q0 : ∀ w, Calls Try.prog 39 #[acc W2 r2 A S D] w fun e w' => e = .returned (.tuple #[.agg #[.int .u32 x, .int .u32 y], .bool false]) ∧ Below w.heap.size w w') :
    Calls Try.prog 27 #[reg o W F T rd wr K lk, acc W2 r2 A S D] w fun e w' => e = .returned (.bool false) ∧ Below w.heap.size w w' := by
  go_enter Try.func27, Try.ntmps27
  go_wp2_with fail
  refine (q0 _).mono ?_
  rintro e w1 ⟨rfl, hb⟩
  have P0 := Lib.hid (((eight_new w o W F T rd wr K lk 44).alloc _).keep hb)
  have R0 := Lib.hid ((show Five _ (w.heap.size + 1) W2 r2 A S D by have := five_new (w.alloc (.cells #[.bool o, .int .i64 W, .int .u32 F, .int .u32 T, .bool rd, .bool wr, .int .i64 K, .bool lk] 44)) W2 r2 A S D 28; simpa using this).keep hb)
  have B0 := Lib.hid ((((Below.refl w.heap.size w).alloc (Nat.le_refl _) _).alloc (by simp) _).trans (hb.mono (by simp; omega)))
  clear hb
  have T1 := Lib.hid (Reach.two_new w1 x y 24)
  have P1 := Lib.hid (P0.out.alloc (.cells #[.int .u32 x, .int .u32 y] 24))
  have R1 := Lib.hid (R0.out.alloc (.cells #[.int .u32 x, .int .u32 y] 24))
  have B1 := Lib.hid (B0.out.alloc B0.out.size (.cells #[.int .u32 x, .int .u32 y] 24))
  clear P0 R0 B0
  obtain ⟨k0, k1, k2, k3, k4, k5, k6, k7⟩ := P1.out
  obtain ⟨m0, m1, m2, m3, m4⟩ := R1.out
  go_wp2_with fail
  go_ret
  exact ⟨rfl, B1.out⟩

theorem has_1 (o : Bool) (W F T : Int) (rd wr : Bool) (K : Int) (lk : Bool) (W2 : Int) (r2 : Bool) (A S D : Int) (x y : Int) (w : World)
    (q0 : ∀ w, Calls Try.prog 39 #[acc W2 r2 A S D] w fun e w' => e = .returned (.tuple #[.agg #[.int .u32 x, .int .u32 y], .bool true]) ∧ Below w.heap.size w w') (q1 : ∀ w, Calls Try.prog 37 #[reg o W F T rd wr K lk] w fun e w' => e = .returned (.bool false) ∧ Below w.heap.size w w') :
    Calls Try.prog 27 #[reg o W F T rd wr K lk, acc W2 r2 A S D] w fun e w' => e = .returned (.bool false) ∧ Below w.heap.size w w' := by
  go_enter Try.func27, Try.ntmps27
  go_wp2_with fail
  refine (q0 _).mono ?_
  rintro e w1 ⟨rfl, hb⟩
  have P0 := Lib.hid (((eight_new w o W F T rd wr K lk 44).alloc _).keep hb)
  have R0 := Lib.hid ((show Five _ (w.heap.size + 1) W2 r2 A S D by have := five_new (w.alloc (.cells #[.bool o, .int .i64 W, .int .u32 F, .int .u32 T, .bool rd, .bool wr, .int .i64 K, .bool lk] 44)) W2 r2 A S D 28; simpa using this).keep hb)
  have B0 := Lib.hid ((((Below.refl w.heap.size w).alloc (Nat.le_refl _) _).alloc (by simp) _).trans (hb.mono (by simp; omega)))
  clear hb
  have T1 := Lib.hid (Reach.two_new w1 x y 24)
  have P1 := Lib.hid (P0.out.alloc (.cells #[.int .u32 x, .int .u32 y] 24))
  have R1 := Lib.hid (R0.out.alloc (.cells #[.int .u32 x, .int .u32 y] 24))
  have B1 := Lib.hid (B0.out.alloc B0.out.size (.cells #[.int .u32 x, .int .u32 y] 24))
  clear P0 R0 B0
  obtain ⟨k0, k1, k2, k3, k4, k5, k6, k7⟩ := P1.out
  obtain ⟨m0, m1, m2, m3, m4⟩ := R1.out
  go_wp2_with fail
  refine (q1 _).mono ?_
  rintro e w3 ⟨rfl, hb⟩
  have P2 := Lib.hid (P1.out.keep hb)
  have R2 := Lib.hid (R1.out.keep hb)
  have T2 := Lib.hid (T1.out.keep hb)
  have B2 := Lib.hid (B1.out.trans (hb.mono B1.out.size))
  clear hb
  clear k0 k1 k2 k3 k4 k5 k6 k7
  clear m0 m1 m2 m3 m4
  obtain ⟨k0, k1, k2, k3, k4, k5, k6, k7⟩ := P2.out
  obtain ⟨m0, m1, m2, m3, m4⟩ := R2.out
  obtain ⟨n0, n1⟩ := T2.out
  go_wp2_with fail
  go_ret
  exact ⟨rfl, B2.out⟩

theorem has_2 (o : Bool) (W F T : Int) (rd wr : Bool) (K : Int) (lk : Bool) (W2 : Int) (r2 : Bool) (A S D : Int) (x y : Int) (w : World)
    (q0 : ∀ w, Calls Try.prog 39 #[acc W2 r2 A S D] w fun e w' => e = .returned (.tuple #[.agg #[.int .u32 x, .int .u32 y], .bool true]) ∧ Below w.heap.size w w') (q1 : ∀ w, Calls Try.prog 37 #[reg o W F T rd wr K lk] w fun e w' => e = .returned (.bool true) ∧ Below w.heap.size w w') (h : ¬ W2 = W) :
    Calls Try.prog 27 #[reg o W F T rd wr K lk, acc W2 r2 A S D] w fun e w' => e = .returned (.bool false) ∧ Below w.heap.size w w' := by
  go_enter Try.func27, Try.ntmps27
  go_wp2_with fail
  refine (q0 _).mono ?_
  rintro e w1 ⟨rfl, hb⟩
  have P0 := Lib.hid (((eight_new w o W F T rd wr K lk 44).alloc _).keep hb)
  have R0 := Lib.hid ((show Five _ (w.heap.size + 1) W2 r2 A S D by have := five_new (w.alloc (.cells #[.bool o, .int .i64 W, .int .u32 F, .int .u32 T, .bool rd, .bool wr, .int .i64 K, .bool lk] 44)) W2 r2 A S D 28; simpa using this).keep hb)
  have B0 := Lib.hid ((((Below.refl w.heap.size w).alloc (Nat.le_refl _) _).alloc (by simp) _).trans (hb.mono (by simp; omega)))
  clear hb
  have T1 := Lib.hid (Reach.two_new w1 x y 24)
  have P1 := Lib.hid (P0.out.alloc (.cells #[.int .u32 x, .int .u32 y] 24))
  have R1 := Lib.hid (R0.out.alloc (.cells #[.int .u32 x, .int .u32 y] 24))
  have B1 := Lib.hid (B0.out.alloc B0.out.size (.cells #[.int .u32 x, .int .u32 y] 24))
  clear P0 R0 B0
  obtain ⟨k0, k1, k2, k3, k4, k5, k6, k7⟩ := P1.out
  obtain ⟨m0, m1, m2, m3, m4⟩ := R1.out
  go_wp2_with fail
  refine (q1 _).mono ?_
  rintro e w3 ⟨rfl, hb⟩
  have P2 := Lib.hid (P1.out.keep hb)
  have R2 := Lib.hid (R1.out.keep hb)
  have T2 := Lib.hid (T1.out.keep hb)
  have B2 := Lib.hid (B1.out.trans (hb.mono B1.out.size))
  clear hb
  clear k0 k1 k2 k3 k4 k5 k6 k7
  clear m0 m1 m2 m3 m4
  obtain ⟨k0, k1, k2, k3, k4, k5, k6, k7⟩ := P2.out
  obtain ⟨m0, m1, m2, m3, m4⟩ := R2.out
  obtain ⟨n0, n1⟩ := T2.out
  go_wp2_with fail
  go_ret
  exact ⟨rfl, B2.out⟩

theorem has_3 (o : Bool) (W F T : Int) (rd wr : Bool) (K : Int) (lk : Bool) (r2 : Bool) (A S D : Int) (x y : Int) (w : World)
    (q0 : ∀ w, Calls Try.prog 39 #[acc W r2 A S D] w fun e w' => e = .returned (.tuple #[.agg #[.int .u32 x, .int .u32 y], .bool true]) ∧ Below w.heap.size w w') (q1 : ∀ w, Calls Try.prog 37 #[reg o W F T rd wr K lk] w fun e w' => e = .returned (.bool true) ∧ Below w.heap.size w w') (b : Bool) (q2 : ∀ w, Calls Try.prog 16 #[.agg #[.int .u32 x, .int .u32 y], .agg #[.int .u32 F, .int .u32 T]] w fun e w' => e = .returned (.bool b) ∧ Below w.heap.size w w') :
    Calls Try.prog 27 #[reg o W F T rd wr K lk, acc W r2 A S D] w fun e w' => e = .returned (.bool b) ∧ Below w.heap.size w w' := by
  go_enter Try.func27, Try.ntmps27
  go_wp2_with fail
  refine (q0 _).mono ?_
  rintro e w1 ⟨rfl, hb⟩
  have P0 := Lib.hid (((eight_new w o W F T rd wr K lk 44).alloc _).keep hb)
  have R0 := Lib.hid ((show Five _ (w.heap.size + 1) W r2 A S D by have := five_new (w.alloc (.cells #[.bool o, .int .i64 W, .int .u32 F, .int .u32 T, .bool rd, .bool wr, .int .i64 K, .bool lk] 44)) W r2 A S D 28; simpa using this).keep hb)
  have B0 := Lib.hid ((((Below.refl w.heap.size w).alloc (Nat.le_refl _) _).alloc (by simp) _).trans (hb.mono (by simp; omega)))
  clear hb
  have T1 := Lib.hid (Reach.two_new w1 x y 24)
  have P1 := Lib.hid (P0.out.alloc (.cells #[.int .u32 x, .int .u32 y] 24))
  have R1 := Lib.hid (R0.out.alloc (.cells #[.int .u32 x, .int .u32 y] 24))
  have B1 := Lib.hid (B0.out.alloc B0.out.size (.cells #[.int .u32 x, .int .u32 y] 24))
  clear P0 R0 B0
  obtain ⟨k0, k1, k2, k3, k4, k5, k6, k7⟩ := P1.out
  obtain ⟨m0, m1, m2, m3, m4⟩ := R1.out
  go_wp2_with fail
  refine (q1 _).mono ?_
  rintro e w3 ⟨rfl, hb⟩
  have P2 := Lib.hid (P1.out.keep hb)
  have R2 := Lib.hid (R1.out.keep hb)
  have T2 := Lib.hid (T1.out.keep hb)
  have B2 := Lib.hid (B1.out.trans (hb.mono B1.out.size))
  clear hb
  clear k0 k1 k2 k3 k4 k5 k6 k7
  clear m0 m1 m2 m3 m4
  obtain ⟨k0, k1, k2, k3, k4, k5, k6, k7⟩ := P2.out
  obtain ⟨m0, m1, m2, m3, m4⟩ := R2.out
  obtain ⟨n0, n1⟩ := T2.out
  go_wp2_with fail
  refine (q2 _).mono ?_
  rintro e w4 ⟨rfl, hb⟩
  have B3 := Lib.hid (B2.out.trans (hb.mono B2.out.size))
  clear hb
  go_wp2_with fail
  go_ret
  exact ⟨rfl, B3.out⟩

theorem has_any (o : Bool) (W F T : Int) (rd wr : Bool) (K : Int) (lk : Bool) (W2 : Int) (r2 : Bool) (A S D : Int) (b : Bool) (w : World) (hA : 0 ≤ A) (hA' : A < 4294967296) (hD : 0 ≤ D) (hD' : D < 4294967296) (hb : hasV o W F T K W2 r2 A S D = b) :
    Calls Try.prog 27 #[reg o W F T rd wr K lk, acc W2 r2 A S D] w fun e w' => e = .returned (.bool b) ∧ Below w.heap.size w w' := by
  subst hb
  unfold hasV
  cases h1 : Access.rightB W2 r2 A S D
  · exact has_0 o W F T rd wr K lk W2 r2 A S D _ _ w (fun w => Access.Reach_any W2 r2 A S D _ _ _ w hA hA' hD hD' h1 rfl rfl)
  cases h2 : standB o W F T K
  · exact has_1 o W F T rd wr K lk W2 r2 A S D _ _ w (fun w => Access.Reach_any W2 r2 A S D _ _ _ w hA hA' hD hD' h1 rfl rfl) (fun w => stands_any o W F T rd wr K lk _ w h2)
  by_cases h3 : ¬ W2 = W
  · rw [decide_eq_false h3]
    exact has_2 o W F T rd wr K lk W2 r2 A S D _ _ w (fun w => Access.Reach_any W2 r2 A S D _ _ _ w hA hA' hD hD' h1 rfl rfl) (fun w => stands_any o W F T rd wr K lk _ w h2) h3
  · obtain rfl := Decidable.not_not.1 h3
    rw [decide_eq_true rfl]
    exact has_3 o W2 F T rd wr K lk r2 A S D _ _ w (fun w => Access.Reach_any W2 r2 A S D _ _ _ w hA hA' hD hD' h1 rfl rfl) (fun w => stands_any o W2 F T rd wr K lk _ w h2) _ (fun w => Reach.In_val _ _ _ _ _ w (by simp [reF, reT]))
theorem Has_any (o : Bool) (W F T : Int) (rd wr : Bool) (K : Int) (lk : Bool) (W2 : Int) (r2 : Bool) (A S D : Int) (b : Bool) (w : World) (hA : 0 ≤ A) (hA' : A < 4294967296) (hD : 0 ≤ D) (hD' : D < 4294967296) (hb : hasV o W F T K W2 r2 A S D = b) :
    Calls Try.prog 14 #[reg o W F T rd wr K lk, acc W2 r2 A S D] w fun e w' => e = .returned (.bool b) ∧ Below w.heap.size w w' := by
  have R := fun w => has_any o W F T rd wr K lk W2 r2 A S D b w hA hA' hD hD' hb
  clear hb
  go_enter Try.func14, Try.ntmps14
  go_wp2_with fail
  refine (R _).mono ?_
  rintro e w1 ⟨rfl, hb⟩
  have Hb := Lib.hid ((((Below.refl w.heap.size w).alloc (Nat.le_refl _) _).alloc (by simp) _).trans (hb.mono (by simp; omega)))
  clear hb
  go_wp2_with fail
  go_ret
  exact ⟨rfl, Hb.out⟩

theorem rhas_0 (o : Bool) (W F T : Int) (rd wr : Bool) (K : Int) (lk : Bool) (W2 : Int) (r2 : Bool) (A S D : Int) (x y : Int) (a : Bool) (w : World)
    (q0 : ∀ w, Calls Try.prog 32 #[acc W2 r2 A S D] w fun e w' => e = .returned (.tuple #[.agg #[.int .u32 x, .int .u32 y], .bool a]) ∧ Below w.heap.size w w') (q1 : ∀ w, Calls Try.prog 18 #[reg o W F T rd wr K lk] w fun e w' => e = .returned (.bool false) ∧ Below w.heap.size w w') :
    Calls Try.prog 19 #[reg o W F T rd wr K lk, acc W2 r2 A S D] w fun e w' => e = .returned (.bool false) ∧ Below w.heap.size w w' := by
  go_enter Try.func19, Try.ntmps19
  go_wp2_with fail
  refine (q0 _).mono ?_
  rintro e w1 ⟨rfl, hb⟩
  have P0 := Lib.hid (((eight_new w o W F T rd wr K lk 26).alloc _).keep hb)
  have R0 := Lib.hid ((show Five _ (w.heap.size + 1) W2 r2 A S D by have := five_new (w.alloc (.cells #[.bool o, .int .i64 W, .int .u32 F, .int .u32 T, .bool rd, .bool wr, .int .i64 K, .bool lk] 26)) W2 r2 A S D 28; simpa using this).keep hb)
  have B0 := Lib.hid ((((Below.refl w.heap.size w).alloc (Nat.le_refl _) _).alloc (by simp) _).trans (hb.mono (by simp; omega)))
  clear hb
  have T1 := Lib.hid (Reach.two_new w1 x y 24)
  have P1 := Lib.hid (P0.out.alloc (.cells #[.int .u32 x, .int .u32 y] 24))
  have R1 := Lib.hid (R0.out.alloc (.cells #[.int .u32 x, .int .u32 y] 24))
  have B1 := Lib.hid (B0.out.alloc B0.out.size (.cells #[.int .u32 x, .int .u32 y] 24))
  clear P0 R0 B0
  obtain ⟨k0, k1, k2, k3, k4, k5, k6, k7⟩ := P1.out
  obtain ⟨m0, m1, m2, m3, m4⟩ := R1.out
  go_wp2_with fail
  refine (q1 _).mono ?_
  rintro e w3 ⟨rfl, hb⟩
  have P2 := Lib.hid (P1.out.keep hb)
  have R2 := Lib.hid (R1.out.keep hb)
  have T2 := Lib.hid (T1.out.keep hb)
  have B2 := Lib.hid (B1.out.trans (hb.mono B1.out.size))
  clear hb
  clear k0 k1 k2 k3 k4 k5 k6 k7
  clear m0 m1 m2 m3 m4
  obtain ⟨k0, k1, k2, k3, k4, k5, k6, k7⟩ := P2.out
  obtain ⟨m0, m1, m2, m3, m4⟩ := R2.out
  obtain ⟨n0, n1⟩ := T2.out
  go_wp2_with fail
  go_ret
  exact ⟨rfl, B2.out⟩

theorem rhas_1 (W F T : Int) (rd wr : Bool) (K : Int) (lk : Bool) (W2 : Int) (r2 : Bool) (A S D : Int) (x y : Int) (a : Bool) (w : World)
    (q0 : ∀ w, Calls Try.prog 32 #[acc W2 r2 A S D] w fun e w' => e = .returned (.tuple #[.agg #[.int .u32 x, .int .u32 y], .bool a]) ∧ Below w.heap.size w w') (q1 : ∀ w, Calls Try.prog 18 #[reg false W F T rd wr K lk] w fun e w' => e = .returned (.bool true) ∧ Below w.heap.size w w') :
    Calls Try.prog 19 #[reg false W F T rd wr K lk, acc W2 r2 A S D] w fun e w' => e = .returned (.bool false) ∧ Below w.heap.size w w' := by
  go_enter Try.func19, Try.ntmps19
  go_wp2_with fail
  refine (q0 _).mono ?_
  rintro e w1 ⟨rfl, hb⟩
  have P0 := Lib.hid (((eight_new w false W F T rd wr K lk 26).alloc _).keep hb)
  have R0 := Lib.hid ((show Five _ (w.heap.size + 1) W2 r2 A S D by have := five_new (w.alloc (.cells #[.bool false, .int .i64 W, .int .u32 F, .int .u32 T, .bool rd, .bool wr, .int .i64 K, .bool lk] 26)) W2 r2 A S D 28; simpa using this).keep hb)
  have B0 := Lib.hid ((((Below.refl w.heap.size w).alloc (Nat.le_refl _) _).alloc (by simp) _).trans (hb.mono (by simp; omega)))
  clear hb
  have T1 := Lib.hid (Reach.two_new w1 x y 24)
  have P1 := Lib.hid (P0.out.alloc (.cells #[.int .u32 x, .int .u32 y] 24))
  have R1 := Lib.hid (R0.out.alloc (.cells #[.int .u32 x, .int .u32 y] 24))
  have B1 := Lib.hid (B0.out.alloc B0.out.size (.cells #[.int .u32 x, .int .u32 y] 24))
  clear P0 R0 B0
  obtain ⟨k0, k1, k2, k3, k4, k5, k6, k7⟩ := P1.out
  obtain ⟨m0, m1, m2, m3, m4⟩ := R1.out
  go_wp2_with fail
  refine (q1 _).mono ?_
  rintro e w3 ⟨rfl, hb⟩
  have P2 := Lib.hid (P1.out.keep hb)
  have R2 := Lib.hid (R1.out.keep hb)
  have T2 := Lib.hid (T1.out.keep hb)
  have B2 := Lib.hid (B1.out.trans (hb.mono B1.out.size))
  clear hb
  clear k0 k1 k2 k3 k4 k5 k6 k7
  clear m0 m1 m2 m3 m4
  obtain ⟨k0, k1, k2, k3, k4, k5, k6, k7⟩ := P2.out
  obtain ⟨m0, m1, m2, m3, m4⟩ := R2.out
  obtain ⟨n0, n1⟩ := T2.out
  go_wp2_with fail
  go_ret
  exact ⟨rfl, B2.out⟩

theorem rhas_2 (W F T : Int) (rd wr : Bool) (K : Int) (lk : Bool) (W2 : Int) (r2 : Bool) (A S D : Int) (x y : Int) (w : World)
    (q0 : ∀ w, Calls Try.prog 32 #[acc W2 r2 A S D] w fun e w' => e = .returned (.tuple #[.agg #[.int .u32 x, .int .u32 y], .bool false]) ∧ Below w.heap.size w w') (q1 : ∀ w, Calls Try.prog 18 #[reg true W F T rd wr K lk] w fun e w' => e = .returned (.bool true) ∧ Below w.heap.size w w') :
    Calls Try.prog 19 #[reg true W F T rd wr K lk, acc W2 r2 A S D] w fun e w' => e = .returned (.bool false) ∧ Below w.heap.size w w' := by
  go_enter Try.func19, Try.ntmps19
  go_wp2_with fail
  refine (q0 _).mono ?_
  rintro e w1 ⟨rfl, hb⟩
  have P0 := Lib.hid (((eight_new w true W F T rd wr K lk 26).alloc _).keep hb)
  have R0 := Lib.hid ((show Five _ (w.heap.size + 1) W2 r2 A S D by have := five_new (w.alloc (.cells #[.bool true, .int .i64 W, .int .u32 F, .int .u32 T, .bool rd, .bool wr, .int .i64 K, .bool lk] 26)) W2 r2 A S D 28; simpa using this).keep hb)
  have B0 := Lib.hid ((((Below.refl w.heap.size w).alloc (Nat.le_refl _) _).alloc (by simp) _).trans (hb.mono (by simp; omega)))
  clear hb
  have T1 := Lib.hid (Reach.two_new w1 x y 24)
  have P1 := Lib.hid (P0.out.alloc (.cells #[.int .u32 x, .int .u32 y] 24))
  have R1 := Lib.hid (R0.out.alloc (.cells #[.int .u32 x, .int .u32 y] 24))
  have B1 := Lib.hid (B0.out.alloc B0.out.size (.cells #[.int .u32 x, .int .u32 y] 24))
  clear P0 R0 B0
  obtain ⟨k0, k1, k2, k3, k4, k5, k6, k7⟩ := P1.out
  obtain ⟨m0, m1, m2, m3, m4⟩ := R1.out
  go_wp2_with fail
  refine (q1 _).mono ?_
  rintro e w3 ⟨rfl, hb⟩
  have P2 := Lib.hid (P1.out.keep hb)
  have R2 := Lib.hid (R1.out.keep hb)
  have T2 := Lib.hid (T1.out.keep hb)
  have B2 := Lib.hid (B1.out.trans (hb.mono B1.out.size))
  clear hb
  clear k0 k1 k2 k3 k4 k5 k6 k7
  clear m0 m1 m2 m3 m4
  obtain ⟨k0, k1, k2, k3, k4, k5, k6, k7⟩ := P2.out
  obtain ⟨m0, m1, m2, m3, m4⟩ := R2.out
  obtain ⟨n0, n1⟩ := T2.out
  go_wp2_with fail
  go_ret
  exact ⟨rfl, B2.out⟩

theorem rhas_3 (W F T : Int) (rd wr : Bool) (K : Int) (lk : Bool) (W2 : Int) (r2 : Bool) (A S D : Int) (x y : Int) (w : World)
    (q0 : ∀ w, Calls Try.prog 32 #[acc W2 r2 A S D] w fun e w' => e = .returned (.tuple #[.agg #[.int .u32 x, .int .u32 y], .bool true]) ∧ Below w.heap.size w w') (q1 : ∀ w, Calls Try.prog 18 #[reg true W F T rd wr K lk] w fun e w' => e = .returned (.bool true) ∧ Below w.heap.size w w') (h : ¬ W2 = W) :
    Calls Try.prog 19 #[reg true W F T rd wr K lk, acc W2 r2 A S D] w fun e w' => e = .returned (.bool false) ∧ Below w.heap.size w w' := by
  go_enter Try.func19, Try.ntmps19
  go_wp2_with fail
  refine (q0 _).mono ?_
  rintro e w1 ⟨rfl, hb⟩
  have P0 := Lib.hid (((eight_new w true W F T rd wr K lk 26).alloc _).keep hb)
  have R0 := Lib.hid ((show Five _ (w.heap.size + 1) W2 r2 A S D by have := five_new (w.alloc (.cells #[.bool true, .int .i64 W, .int .u32 F, .int .u32 T, .bool rd, .bool wr, .int .i64 K, .bool lk] 26)) W2 r2 A S D 28; simpa using this).keep hb)
  have B0 := Lib.hid ((((Below.refl w.heap.size w).alloc (Nat.le_refl _) _).alloc (by simp) _).trans (hb.mono (by simp; omega)))
  clear hb
  have T1 := Lib.hid (Reach.two_new w1 x y 24)
  have P1 := Lib.hid (P0.out.alloc (.cells #[.int .u32 x, .int .u32 y] 24))
  have R1 := Lib.hid (R0.out.alloc (.cells #[.int .u32 x, .int .u32 y] 24))
  have B1 := Lib.hid (B0.out.alloc B0.out.size (.cells #[.int .u32 x, .int .u32 y] 24))
  clear P0 R0 B0
  obtain ⟨k0, k1, k2, k3, k4, k5, k6, k7⟩ := P1.out
  obtain ⟨m0, m1, m2, m3, m4⟩ := R1.out
  go_wp2_with fail
  refine (q1 _).mono ?_
  rintro e w3 ⟨rfl, hb⟩
  have P2 := Lib.hid (P1.out.keep hb)
  have R2 := Lib.hid (R1.out.keep hb)
  have T2 := Lib.hid (T1.out.keep hb)
  have B2 := Lib.hid (B1.out.trans (hb.mono B1.out.size))
  clear hb
  clear k0 k1 k2 k3 k4 k5 k6 k7
  clear m0 m1 m2 m3 m4
  obtain ⟨k0, k1, k2, k3, k4, k5, k6, k7⟩ := P2.out
  obtain ⟨m0, m1, m2, m3, m4⟩ := R2.out
  obtain ⟨n0, n1⟩ := T2.out
  go_wp2_with fail
  go_ret
  exact ⟨rfl, B2.out⟩

theorem rhas_4 (W F T : Int) (rd wr : Bool) (K : Int) (lk : Bool) (r2 : Bool) (A S D : Int) (x y : Int) (w : World)
    (q0 : ∀ w, Calls Try.prog 32 #[acc W r2 A S D] w fun e w' => e = .returned (.tuple #[.agg #[.int .u32 x, .int .u32 y], .bool true]) ∧ Below w.heap.size w w') (q1 : ∀ w, Calls Try.prog 18 #[reg true W F T rd wr K lk] w fun e w' => e = .returned (.bool true) ∧ Below w.heap.size w w') (b : Bool) (q2 : ∀ w, Calls Try.prog 33 #[.agg #[.int .u32 x, .int .u32 y], .agg #[.int .u32 F, .int .u32 T]] w fun e w' => e = .returned (.bool b) ∧ Below w.heap.size w w') :
    Calls Try.prog 19 #[reg true W F T rd wr K lk, acc W r2 A S D] w fun e w' => e = .returned (.bool b) ∧ Below w.heap.size w w' := by
  go_enter Try.func19, Try.ntmps19
  go_wp2_with fail
  refine (q0 _).mono ?_
  rintro e w1 ⟨rfl, hb⟩
  have P0 := Lib.hid (((eight_new w true W F T rd wr K lk 26).alloc _).keep hb)
  have R0 := Lib.hid ((show Five _ (w.heap.size + 1) W r2 A S D by have := five_new (w.alloc (.cells #[.bool true, .int .i64 W, .int .u32 F, .int .u32 T, .bool rd, .bool wr, .int .i64 K, .bool lk] 26)) W r2 A S D 28; simpa using this).keep hb)
  have B0 := Lib.hid ((((Below.refl w.heap.size w).alloc (Nat.le_refl _) _).alloc (by simp) _).trans (hb.mono (by simp; omega)))
  clear hb
  have T1 := Lib.hid (Reach.two_new w1 x y 24)
  have P1 := Lib.hid (P0.out.alloc (.cells #[.int .u32 x, .int .u32 y] 24))
  have R1 := Lib.hid (R0.out.alloc (.cells #[.int .u32 x, .int .u32 y] 24))
  have B1 := Lib.hid (B0.out.alloc B0.out.size (.cells #[.int .u32 x, .int .u32 y] 24))
  clear P0 R0 B0
  obtain ⟨k0, k1, k2, k3, k4, k5, k6, k7⟩ := P1.out
  obtain ⟨m0, m1, m2, m3, m4⟩ := R1.out
  go_wp2_with fail
  refine (q1 _).mono ?_
  rintro e w3 ⟨rfl, hb⟩
  have P2 := Lib.hid (P1.out.keep hb)
  have R2 := Lib.hid (R1.out.keep hb)
  have T2 := Lib.hid (T1.out.keep hb)
  have B2 := Lib.hid (B1.out.trans (hb.mono B1.out.size))
  clear hb
  clear k0 k1 k2 k3 k4 k5 k6 k7
  clear m0 m1 m2 m3 m4
  obtain ⟨k0, k1, k2, k3, k4, k5, k6, k7⟩ := P2.out
  obtain ⟨m0, m1, m2, m3, m4⟩ := R2.out
  obtain ⟨n0, n1⟩ := T2.out
  go_wp2_with fail
  refine (q2 _).mono ?_
  rintro e w4 ⟨rfl, hb⟩
  have B3 := Lib.hid (B2.out.trans (hb.mono B2.out.size))
  clear hb
  go_wp2_with fail
  go_ret
  exact ⟨rfl, B3.out⟩

theorem rHas_any (o : Bool) (W F T : Int) (rd wr : Bool) (K : Int) (lk : Bool) (W2 : Int) (r2 : Bool) (A S D : Int) (b : Bool) (w : World) (hA : 0 ≤ A) (hA' : A < 4294967296) (hD : 0 ≤ D) (hD' : D < 4294967296) (hb : hasV o W F T K W2 r2 A S D = b) :
    Calls Try.prog 19 #[reg o W F T rd wr K lk, acc W2 r2 A S D] w fun e w' => e = .returned (.bool b) ∧ Below w.heap.size w w' := by
  subst hb
  unfold hasV
  cases hr : regB o W F T rd wr K lk
  · have e : standB o W F T K = false := by rw [← reg_and_on (rd := rd) (wr := wr) (lk := lk), hr]; rfl
    rw [e, Bool.and_false, Bool.false_and, Bool.false_and]
    exact rhas_0 o W F T rd wr K lk W2 r2 A S D _ _ _ w (fun w => Access.rReach_any W2 r2 A S D _ _ _ w hA hA' hD hD' rfl rfl rfl) (fun w => rRight_any o W F T rd wr K lk _ w hr)
  cases o
  · rw [stand_off, Bool.and_false, Bool.false_and, Bool.false_and]
    exact rhas_1 W F T rd wr K lk W2 r2 A S D _ _ _ w (fun w => Access.rReach_any W2 r2 A S D _ _ _ w hA hA' hD hD' rfl rfl rfl) (fun w => rRight_any false W F T rd wr K lk _ w hr)
  have e : standB true W F T K = true := by rw [← reg_and_on (rd := rd) (wr := wr) (lk := lk), hr]; rfl
  rw [e]
  cases h1 : Access.rightB W2 r2 A S D
  · exact rhas_2 W F T rd wr K lk W2 r2 A S D _ _ w (fun w => Access.rReach_any W2 r2 A S D _ _ _ w hA hA' hD hD' h1 rfl rfl) (fun w => rRight_any true W F T rd wr K lk _ w hr)
  by_cases h3 : ¬ W2 = W
  · rw [decide_eq_false h3]
    exact rhas_3 W F T rd wr K lk W2 r2 A S D _ _ w (fun w => Access.rReach_any W2 r2 A S D _ _ _ w hA hA' hD hD' h1 rfl rfl) (fun w => rRight_any true W F T rd wr K lk _ w hr) h3
  · obtain rfl := Decidable.not_not.1 h3
    rw [decide_eq_true rfl]
    exact rhas_4 W2 F T rd wr K lk r2 A S D _ _ w (fun w => Access.rReach_any W2 r2 A S D _ _ _ w hA hA' hD hD' h1 rfl rfl) (fun w => rRight_any true W2 F T rd wr K lk _ w hr) _ (fun w => Reach.rIn_val _ _ _ _ _ w (by simp [reF, reT]))

end Go.Proofs.Ytploggfaihfeeaa.Region
