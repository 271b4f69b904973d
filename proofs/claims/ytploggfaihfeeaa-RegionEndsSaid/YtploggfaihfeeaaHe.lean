/- Contracts: Lets, Clash, Above, both ways. -/
import Derived.Test.YtploggfaihfeeaaHd
namespace Go.Proofs.Ytploggfaihfeeaa.Region
open Go.RowKit Go.Proofs.Ytploggfaihfeeaa.Access
set_option linter.unusedVariables false

theorem lets_0 (o : Bool) (W F T : Int) (rd wr : Bool) (K : Int) (lk : Bool) (W2 : Int) (r2 : Bool) (A S D : Int) (w : World)
    (q0 : ∀ w, Calls Try.prog 14 #[reg o W F T rd wr K lk, acc W2 r2 A S D] w fun e w' => e = .returned (.bool false) ∧ Below w.heap.size w w') :
    Calls Try.prog 15 #[reg o W F T rd wr K lk, acc W2 r2 A S D] w fun e w' => e = .returned (.bool false) ∧ Below w.heap.size w w' := by
  go_enter Try.func15, Try.ntmps15
  go_wp2_with fail
  refine (q0 _).mono ?_
  rintro e w1 ⟨rfl, hb⟩
  have P0 := Lib.hid (((eight_new w o W F T rd wr K lk 26).alloc _).keep hb)
  have R0 := Lib.hid ((show Five _ (w.heap.size + 1) W2 r2 A S D by have := five_new (w.alloc (.cells #[.bool o, .int .i64 W, .int .u32 F, .int .u32 T, .bool rd, .bool wr, .int .i64 K, .bool lk] 26)) W2 r2 A S D 28; simpa using this).keep hb)
  have B0 := Lib.hid ((((Below.refl w.heap.size w).alloc (Nat.le_refl _) _).alloc (by simp) _).trans (hb.mono (by simp; omega)))
  clear hb
  obtain ⟨k0, k1, k2, k3, k4, k5, k6, k7⟩ := P0.out
  obtain ⟨m0, m1, m2, m3, m4⟩ := R0.out
  go_wp2_with fail
  go_ret
  exact ⟨rfl, B0.out⟩

theorem lets_1 (o : Bool) (W F T : Int) (rd wr : Bool) (K : Int) (lk : Bool) (W2 : Int) (r2 : Bool) (A S D : Int) (w : World)
    (q0 : ∀ w, Calls Try.prog 14 #[reg o W F T rd wr K lk, acc W2 r2 A S D] w fun e w' => e = .returned (.bool true) ∧ Below w.heap.size w w') (b : Bool) (q1 : ∀ w, Calls Try.prog 28 #[reg o W F T rd wr K lk, .bool r2] w fun e w' => e = .returned (.bool b) ∧ Below w.heap.size w w') :
    Calls Try.prog 15 #[reg o W F T rd wr K lk, acc W2 r2 A S D] w fun e w' => e = .returned (.bool b) ∧ Below w.heap.size w w' := by
  go_enter Try.func15, Try.ntmps15
  go_wp2_with fail
  refine (q0 _).mono ?_
  rintro e w1 ⟨rfl, hb⟩
  have P0 := Lib.hid (((eight_new w o W F T rd wr K lk 26).alloc _).keep hb)
  have R0 := Lib.hid ((show Five _ (w.heap.size + 1) W2 r2 A S D by have := five_new (w.alloc (.cells #[.bool o, .int .i64 W, .int .u32 F, .int .u32 T, .bool rd, .bool wr, .int .i64 K, .bool lk] 26)) W2 r2 A S D 28; simpa using this).keep hb)
  have B0 := Lib.hid ((((Below.refl w.heap.size w).alloc (Nat.le_refl _) _).alloc (by simp) _).trans (hb.mono (by simp; omega)))
  clear hb
  obtain ⟨k0, k1, k2, k3, k4, k5, k6, k7⟩ := P0.out
  obtain ⟨m0, m1, m2, m3, m4⟩ := R0.out
  go_wp2_with fail
  refine (q1 _).mono ?_
  rintro e w2 ⟨rfl, hb⟩
  have B1 := Lib.hid (B0.out.trans (hb.mono B0.out.size))
  clear hb
  go_wp2_with fail
  go_ret
  exact ⟨rfl, B1.out⟩

theorem Lets_any (o : Bool) (W F T : Int) (rd wr : Bool) (K : Int) (lk : Bool) (W2 : Int) (r2 : Bool) (A S D : Int) (b : Bool) (w : World) (hA : 0 ≤ A) (hA' : A < 4294967296) (hD : 0 ≤ D) (hD' : D < 4294967296) (hb : letsV o W F T rd wr K W2 r2 A S D = b) :
    Calls Try.prog 15 #[reg o W F T rd wr K lk, acc W2 r2 A S D] w fun e w' => e = .returned (.bool b) ∧ Below w.heap.size w w' := by
  subst hb
  unfold letsV
  cases h1 : hasV o W F T K W2 r2 A S D
  · exact lets_0 o W F T rd wr K lk W2 r2 A S D w (fun w => Has_any o W F T rd wr K lk W2 r2 A S D _ w hA hA' hD hD' h1)
  · exact lets_1 o W F T rd wr K lk W2 r2 A S D w (fun w => Has_any o W F T rd wr K lk W2 r2 A S D _ w hA hA' hD hD' h1) _ (fun w => open_any o W F T rd wr K lk _ _ w (by simp))

theorem rlets_0 (o : Bool) (W F T : Int) (rd wr : Bool) (K : Int) (lk : Bool) (W2 : Int) (A S D : Int) (w : World)
    (q0 : ∀ w, Calls Try.prog 19 #[reg o W F T rd wr K lk, acc W2 false A S D] w fun e w' => e = .returned (.bool false) ∧ Below w.heap.size w w') :
    Calls Try.prog 20 #[reg o W F T rd wr K lk, acc W2 false A S D] w fun e w' => e = .returned (.bool false) ∧ Below w.heap.size w w' := by
  go_enter Try.func20, Try.ntmps20
  go_wp2_with fail
  refine (q0 _).mono ?_
  rintro e w1 ⟨rfl, hb⟩
  have P0 := Lib.hid (((eight_new w o W F T rd wr K lk 26).alloc _).keep hb)
  have R0 := Lib.hid ((show Five _ (w.heap.size + 1) W2 false A S D by have := five_new (w.alloc (.cells #[.bool o, .int .i64 W, .int .u32 F, .int .u32 T, .bool rd, .bool wr, .int .i64 K, .bool lk] 26)) W2 false A S D 28; simpa using this).keep hb)
  have B0 := Lib.hid ((((Below.refl w.heap.size w).alloc (Nat.le_refl _) _).alloc (by simp) _).trans (hb.mono (by simp; omega)))
  clear hb
  obtain ⟨k0, k1, k2, k3, k4, k5, k6, k7⟩ := P0.out
  obtain ⟨m0, m1, m2, m3, m4⟩ := R0.out
  go_wp2_with fail
  go_ret
  exact ⟨rfl, B0.out⟩

theorem rlets_1 (o : Bool) (W F T : Int) (rd wr : Bool) (K : Int) (lk : Bool) (W2 : Int) (A S D : Int) (w : World)
    (q0 : ∀ w, Calls Try.prog 19 #[reg o W F T rd wr K lk, acc W2 false A S D] w fun e w' => e = .returned (.bool true) ∧ Below w.heap.size w w') :
    Calls Try.prog 20 #[reg o W F T rd wr K lk, acc W2 false A S D] w fun e w' => e = .returned (.bool rd) ∧ Below w.heap.size w w' := by
  go_enter Try.func20, Try.ntmps20
  go_wp2_with fail
  refine (q0 _).mono ?_
  rintro e w1 ⟨rfl, hb⟩
  have P0 := Lib.hid (((eight_new w o W F T rd wr K lk 26).alloc _).keep hb)
  have R0 := Lib.hid ((show Five _ (w.heap.size + 1) W2 false A S D by have := five_new (w.alloc (.cells #[.bool o, .int .i64 W, .int .u32 F, .int .u32 T, .bool rd, .bool wr, .int .i64 K, .bool lk] 26)) W2 false A S D 28; simpa using this).keep hb)
  have B0 := Lib.hid ((((Below.refl w.heap.size w).alloc (Nat.le_refl _) _).alloc (by simp) _).trans (hb.mono (by simp; omega)))
  clear hb
  obtain ⟨k0, k1, k2, k3, k4, k5, k6, k7⟩ := P0.out
  obtain ⟨m0, m1, m2, m3, m4⟩ := R0.out
  go_wp2_with fail
  go_ret
  exact ⟨rfl, B0.out⟩

theorem rlets_2 (o : Bool) (W F T : Int) (rd wr : Bool) (K : Int) (lk : Bool) (W2 : Int) (A S D : Int) (w : World)
    (q0 : ∀ w, Calls Try.prog 19 #[reg o W F T rd wr K lk, acc W2 true A S D] w fun e w' => e = .returned (.bool false) ∧ Below w.heap.size w w') :
    Calls Try.prog 20 #[reg o W F T rd wr K lk, acc W2 true A S D] w fun e w' => e = .returned (.bool false) ∧ Below w.heap.size w w' := by
  go_enter Try.func20, Try.ntmps20
  go_wp2_with fail
  refine (q0 _).mono ?_
  rintro e w1 ⟨rfl, hb⟩
  have P0 := Lib.hid (((eight_new w o W F T rd wr K lk 26).alloc _).keep hb)
  have R0 := Lib.hid ((show Five _ (w.heap.size + 1) W2 true A S D by have := five_new (w.alloc (.cells #[.bool o, .int .i64 W, .int .u32 F, .int .u32 T, .bool rd, .bool wr, .int .i64 K, .bool lk] 26)) W2 true A S D 28; simpa using this).keep hb)
  have B0 := Lib.hid ((((Below.refl w.heap.size w).alloc (Nat.le_refl _) _).alloc (by simp) _).trans (hb.mono (by simp; omega)))
  clear hb
  obtain ⟨k0, k1, k2, k3, k4, k5, k6, k7⟩ := P0.out
  obtain ⟨m0, m1, m2, m3, m4⟩ := R0.out
  go_wp2_with fail
  go_ret
  exact ⟨rfl, B0.out⟩

theorem rlets_3 (o : Bool) (W F T : Int) (rd wr : Bool) (K : Int) (lk : Bool) (W2 : Int) (A S D : Int) (w : World)
    (q0 : ∀ w, Calls Try.prog 19 #[reg o W F T rd wr K lk, acc W2 true A S D] w fun e w' => e = .returned (.bool true) ∧ Below w.heap.size w w') :
    Calls Try.prog 20 #[reg o W F T rd wr K lk, acc W2 true A S D] w fun e w' => e = .returned (.bool wr) ∧ Below w.heap.size w w' := by
  go_enter Try.func20, Try.ntmps20
  go_wp2_with fail
  refine (q0 _).mono ?_
  rintro e w1 ⟨rfl, hb⟩
  have P0 := Lib.hid (((eight_new w o W F T rd wr K lk 26).alloc _).keep hb)
  have R0 := Lib.hid ((show Five _ (w.heap.size + 1) W2 true A S D by have := five_new (w.alloc (.cells #[.bool o, .int .i64 W, .int .u32 F, .int .u32 T, .bool rd, .bool wr, .int .i64 K, .bool lk] 26)) W2 true A S D 28; simpa using this).keep hb)
  have B0 := Lib.hid ((((Below.refl w.heap.size w).alloc (Nat.le_refl _) _).alloc (by simp) _).trans (hb.mono (by simp; omega)))
  clear hb
  obtain ⟨k0, k1, k2, k3, k4, k5, k6, k7⟩ := P0.out
  obtain ⟨m0, m1, m2, m3, m4⟩ := R0.out
  go_wp2_with fail
  go_ret
  exact ⟨rfl, B0.out⟩

theorem rLets_any (o : Bool) (W F T : Int) (rd wr : Bool) (K : Int) (lk : Bool) (W2 : Int) (r2 : Bool) (A S D : Int) (b : Bool) (w : World) (hA : 0 ≤ A) (hA' : A < 4294967296) (hD : 0 ≤ D) (hD' : D < 4294967296) (hb : letsV o W F T rd wr K W2 r2 A S D = b) :
    Calls Try.prog 20 #[reg o W F T rd wr K lk, acc W2 r2 A S D] w fun e w' => e = .returned (.bool b) ∧ Below w.heap.size w w' := by
  subst hb
  unfold letsV
  cases r2
  · cases h1 : hasV o W F T K W2 false A S D
    · exact rlets_0 o W F T rd wr K lk W2 A S D w (fun w => rHas_any o W F T rd wr K lk W2 false A S D _ w hA hA' hD hD' h1)
    · simpa using rlets_1 o W F T rd wr K lk W2 A S D w (fun w => rHas_any o W F T rd wr K lk W2 false A S D _ w hA hA' hD hD' h1)
  · cases h1 : hasV o W F T K W2 true A S D
    · exact rlets_2 o W F T rd wr K lk W2 A S D w (fun w => rHas_any o W F T rd wr K lk W2 true A S D _ w hA hA' hD hD' h1)
    · simpa using rlets_3 o W F T rd wr K lk W2 A S D w (fun w => rHas_any o W F T rd wr K lk W2 true A S D _ w hA hA' hD hD' h1)

theorem bs_0 (o : Bool) (W F T : Int) (rd wr : Bool) (K : Int) (lk : Bool) (p : Bool) (V G U : Int) (re we : Bool) (L : Int) (ke : Bool) (w : World)
    (q0 : ∀ w, Calls Try.prog 37 #[reg o W F T rd wr K lk] w fun e w' => e = .returned (.bool false) ∧ Below w.heap.size w w') :
    Calls Try.prog 24 #[reg o W F T rd wr K lk, reg p V G U re we L ke] w fun e w' => e = .returned (.bool false) ∧ Below w.heap.size w w' := by
  go_enter Try.func24, Try.ntmps24
  go_wp2_with fail
  refine (q0 _).mono ?_
  rintro e w1 ⟨rfl, hb⟩
  have P0 := Lib.hid (((eight_new w o W F T rd wr K lk 26).alloc _).keep hb)
  have R0 := Lib.hid ((show Eight _ (w.heap.size + 1) p V G U re we L ke by have := eight_new (w.alloc (.cells #[.bool o, .int .i64 W, .int .u32 F, .int .u32 T, .bool rd, .bool wr, .int .i64 K, .bool lk] 26)) p V G U re we L ke 26; simpa using this).keep hb)
  have B0 := Lib.hid ((((Below.refl w.heap.size w).alloc (Nat.le_refl _) _).alloc (by simp) _).trans (hb.mono (by simp; omega)))
  clear hb
  obtain ⟨k0, k1, k2, k3, k4, k5, k6, k7⟩ := P0.out
  obtain ⟨m0, m1, m2, m3, m4, m5, m6, m7⟩ := R0.out
  go_wp2_with fail
  go_ret
  exact ⟨rfl, B0.out⟩

theorem bs_1 (o : Bool) (W F T : Int) (rd wr : Bool) (K : Int) (lk : Bool) (p : Bool) (V G U : Int) (re we : Bool) (L : Int) (ke : Bool) (w : World)
    (q0 : ∀ w, Calls Try.prog 37 #[reg o W F T rd wr K lk] w fun e w' => e = .returned (.bool true) ∧ Below w.heap.size w w') (b : Bool) (q1 : ∀ w, Calls Try.prog 37 #[reg p V G U re we L ke] w fun e w' => e = .returned (.bool b) ∧ Below w.heap.size w w') :
    Calls Try.prog 24 #[reg o W F T rd wr K lk, reg p V G U re we L ke] w fun e w' => e = .returned (.bool b) ∧ Below w.heap.size w w' := by
  go_enter Try.func24, Try.ntmps24
  go_wp2_with fail
  refine (q0 _).mono ?_
  rintro e w1 ⟨rfl, hb⟩
  have P0 := Lib.hid (((eight_new w o W F T rd wr K lk 26).alloc _).keep hb)
  have R0 := Lib.hid ((show Eight _ (w.heap.size + 1) p V G U re we L ke by have := eight_new (w.alloc (.cells #[.bool o, .int .i64 W, .int .u32 F, .int .u32 T, .bool rd, .bool wr, .int .i64 K, .bool lk] 26)) p V G U re we L ke 26; simpa using this).keep hb)
  have B0 := Lib.hid ((((Below.refl w.heap.size w).alloc (Nat.le_refl _) _).alloc (by simp) _).trans (hb.mono (by simp; omega)))
  clear hb
  obtain ⟨k0, k1, k2, k3, k4, k5, k6, k7⟩ := P0.out
  obtain ⟨m0, m1, m2, m3, m4, m5, m6, m7⟩ := R0.out
  go_wp2_with fail
  refine (q1 _).mono ?_
  rintro e w2 ⟨rfl, hb⟩
  have B1 := Lib.hid (B0.out.trans (hb.mono B0.out.size))
  clear hb
  go_wp2_with fail
  go_ret
  exact ⟨rfl, B1.out⟩

theorem both_any (o : Bool) (W F T : Int) (rd wr : Bool) (K : Int) (lk : Bool) (p : Bool) (V G U : Int) (re we : Bool) (L : Int) (ke : Bool) (b : Bool) (w : World) (hb : (standB o W F T K && standB p V G U L) = b) :
    Calls Try.prog 24 #[reg o W F T rd wr K lk, reg p V G U re we L ke] w fun e w' => e = .returned (.bool b) ∧ Below w.heap.size w w' := by
  subst hb
  cases h1 : standB o W F T K
  · exact bs_0 o W F T rd wr K lk p V G U re we L ke w (fun w => stands_any o W F T rd wr K lk _ w h1)
  · exact bs_1 o W F T rd wr K lk p V G U re we L ke w (fun w => stands_any o W F T rd wr K lk _ w h1) _ (fun w => stands_any p V G U re we L ke _ w (by simp))

theorem clash_0 (o : Bool) (W F T : Int) (rd wr : Bool) (K : Int) (lk : Bool) (p : Bool) (V G U : Int) (re we : Bool) (L : Int) (ke : Bool) (x y : Int) (m : Bool) (w : World)
    (q0 : ∀ w, Calls Try.prog 23 #[.agg #[.int .u32 F, .int .u32 T], .agg #[.int .u32 G, .int .u32 U]] w fun e w' => e = .returned (.tuple #[.agg #[.int .u32 x, .int .u32 y], .bool m]) ∧ Below w.heap.size w w') (q1 : ∀ w, Calls Try.prog 24 #[reg o W F T rd wr K lk, reg p V G U re we L ke] w fun e w' => e = .returned (.bool false) ∧ Below w.heap.size w w') :
    Calls Try.prog 11 #[reg o W F T rd wr K lk, reg p V G U re we L ke] w fun e w' => e = .returned (.bool false) ∧ Below w.heap.size w w' := by
  go_enter Try.func11, Try.ntmps11
  go_wp2_with fail
  refine (q0 _).mono ?_
  rintro e w1 ⟨rfl, hb⟩
  have P0 := Lib.hid (((eight_new w o W F T rd wr K lk 26).alloc _).keep hb)
  have R0 := Lib.hid ((show Eight _ (w.heap.size + 1) p V G U re we L ke by have := eight_new (w.alloc (.cells #[.bool o, .int .i64 W, .int .u32 F, .int .u32 T, .bool rd, .bool wr, .int .i64 K, .bool lk] 26)) p V G U re we L ke 26; simpa using this).keep hb)
  have B0 := Lib.hid ((((Below.refl w.heap.size w).alloc (Nat.le_refl _) _).alloc (by simp) _).trans (hb.mono (by simp; omega)))
  clear hb
  have T1 := Lib.hid (Reach.two_new w1 x y 24)
  have P1 := Lib.hid (P0.out.alloc (.cells #[.int .u32 x, .int .u32 y] 24))
  have R1 := Lib.hid (R0.out.alloc (.cells #[.int .u32 x, .int .u32 y] 24))
  have B1 := Lib.hid (B0.out.alloc B0.out.size (.cells #[.int .u32 x, .int .u32 y] 24))
  clear P0 R0 B0
  obtain ⟨k0, k1, k2, k3, k4, k5, k6, k7⟩ := P1.out
  obtain ⟨m0, m1, m2, m3, m4, m5, m6, m7⟩ := R1.out
  go_wp2_with fail
  refine (q1 _).mono ?_
  rintro e w3 ⟨rfl, hb⟩
  have P2 := Lib.hid (P1.out.keep hb)
  have R2 := Lib.hid (R1.out.keep hb)
  have B2 := Lib.hid (B1.out.trans (hb.mono B1.out.size))
  clear hb
  clear k0 k1 k2 k3 k4 k5 k6 k7
  clear m0 m1 m2 m3 m4 m5 m6 m7
  obtain ⟨k0, k1, k2, k3, k4, k5, k6, k7⟩ := P2.out
  obtain ⟨m0, m1, m2, m3, m4, m5, m6, m7⟩ := R2.out
  go_wp2_with fail
  go_ret
  exact ⟨rfl, B2.out⟩

theorem clash_1 (o : Bool) (W F T : Int) (rd wr : Bool) (K : Int) (lk : Bool) (p : Bool) (G U : Int) (re we : Bool) (L : Int) (ke : Bool) (x y : Int) (m : Bool) (w : World)
    (q0 : ∀ w, Calls Try.prog 23 #[.agg #[.int .u32 F, .int .u32 T], .agg #[.int .u32 G, .int .u32 U]] w fun e w' => e = .returned (.tuple #[.agg #[.int .u32 x, .int .u32 y], .bool m]) ∧ Below w.heap.size w w') (q1 : ∀ w, Calls Try.prog 24 #[reg o W F T rd wr K lk, reg p W G U re we L ke] w fun e w' => e = .returned (.bool true) ∧ Below w.heap.size w w') :
    Calls Try.prog 11 #[reg o W F T rd wr K lk, reg p W G U re we L ke] w fun e w' => e = .returned (.bool false) ∧ Below w.heap.size w w' := by
  go_enter Try.func11, Try.ntmps11
  go_wp2_with fail
  refine (q0 _).mono ?_
  rintro e w1 ⟨rfl, hb⟩
  have P0 := Lib.hid (((eight_new w o W F T rd wr K lk 26).alloc _).keep hb)
  have R0 := Lib.hid ((show Eight _ (w.heap.size + 1) p W G U re we L ke by have := eight_new (w.alloc (.cells #[.bool o, .int .i64 W, .int .u32 F, .int .u32 T, .bool rd, .bool wr, .int .i64 K, .bool lk] 26)) p W G U re we L ke 26; simpa using this).keep hb)
  have B0 := Lib.hid ((((Below.refl w.heap.size w).alloc (Nat.le_refl _) _).alloc (by simp) _).trans (hb.mono (by simp; omega)))
  clear hb
  have T1 := Lib.hid (Reach.two_new w1 x y 24)
  have P1 := Lib.hid (P0.out.alloc (.cells #[.int .u32 x, .int .u32 y] 24))
  have R1 := Lib.hid (R0.out.alloc (.cells #[.int .u32 x, .int .u32 y] 24))
  have B1 := Lib.hid (B0.out.alloc B0.out.size (.cells #[.int .u32 x, .int .u32 y] 24))
  clear P0 R0 B0
  obtain ⟨k0, k1, k2, k3, k4, k5, k6, k7⟩ := P1.out
  obtain ⟨m0, m1, m2, m3, m4, m5, m6, m7⟩ := R1.out
  go_wp2_with fail
  refine (q1 _).mono ?_
  rintro e w3 ⟨rfl, hb⟩
  have P2 := Lib.hid (P1.out.keep hb)
  have R2 := Lib.hid (R1.out.keep hb)
  have B2 := Lib.hid (B1.out.trans (hb.mono B1.out.size))
  clear hb
  clear k0 k1 k2 k3 k4 k5 k6 k7
  clear m0 m1 m2 m3 m4 m5 m6 m7
  obtain ⟨k0, k1, k2, k3, k4, k5, k6, k7⟩ := P2.out
  obtain ⟨m0, m1, m2, m3, m4, m5, m6, m7⟩ := R2.out
  go_wp2_with fail
  go_ret
  exact ⟨rfl, B2.out⟩

theorem clash_2 (o : Bool) (W F T : Int) (rd wr : Bool) (K : Int) (lk : Bool) (p : Bool) (V G U : Int) (re we : Bool) (L : Int) (ke : Bool) (x y : Int) (m : Bool) (w : World)
    (q0 : ∀ w, Calls Try.prog 23 #[.agg #[.int .u32 F, .int .u32 T], .agg #[.int .u32 G, .int .u32 U]] w fun e w' => e = .returned (.tuple #[.agg #[.int .u32 x, .int .u32 y], .bool m]) ∧ Below w.heap.size w w') (q1 : ∀ w, Calls Try.prog 24 #[reg o W F T rd wr K lk, reg p V G U re we L ke] w fun e w' => e = .returned (.bool true) ∧ Below w.heap.size w w') (h : ¬ W = V) :
    Calls Try.prog 11 #[reg o W F T rd wr K lk, reg p V G U re we L ke] w fun e w' => e = .returned (.bool m) ∧ Below w.heap.size w w' := by
  go_enter Try.func11, Try.ntmps11
  go_wp2_with fail
  refine (q0 _).mono ?_
  rintro e w1 ⟨rfl, hb⟩
  have P0 := Lib.hid (((eight_new w o W F T rd wr K lk 26).alloc _).keep hb)
  have R0 := Lib.hid ((show Eight _ (w.heap.size + 1) p V G U re we L ke by have := eight_new (w.alloc (.cells #[.bool o, .int .i64 W, .int .u32 F, .int .u32 T, .bool rd, .bool wr, .int .i64 K, .bool lk] 26)) p V G U re we L ke 26; simpa using this).keep hb)
  have B0 := Lib.hid ((((Below.refl w.heap.size w).alloc (Nat.le_refl _) _).alloc (by simp) _).trans (hb.mono (by simp; omega)))
  clear hb
  have T1 := Lib.hid (Reach.two_new w1 x y 24)
  have P1 := Lib.hid (P0.out.alloc (.cells #[.int .u32 x, .int .u32 y] 24))
  have R1 := Lib.hid (R0.out.alloc (.cells #[.int .u32 x, .int .u32 y] 24))
  have B1 := Lib.hid (B0.out.alloc B0.out.size (.cells #[.int .u32 x, .int .u32 y] 24))
  clear P0 R0 B0
  obtain ⟨k0, k1, k2, k3, k4, k5, k6, k7⟩ := P1.out
  obtain ⟨m0, m1, m2, m3, m4, m5, m6, m7⟩ := R1.out
  go_wp2_with fail
  refine (q1 _).mono ?_
  rintro e w3 ⟨rfl, hb⟩
  have P2 := Lib.hid (P1.out.keep hb)
  have R2 := Lib.hid (R1.out.keep hb)
  have B2 := Lib.hid (B1.out.trans (hb.mono B1.out.size))
  clear hb
  clear k0 k1 k2 k3 k4 k5 k6 k7
  clear m0 m1 m2 m3 m4 m5 m6 m7
  obtain ⟨k0, k1, k2, k3, k4, k5, k6, k7⟩ := P2.out
  obtain ⟨m0, m1, m2, m3, m4, m5, m6, m7⟩ := R2.out
  go_wp2_with fail
  go_ret
  exact ⟨ret_bool (by simp [h]), B2.out⟩

theorem Clash_any (o : Bool) (W F T : Int) (rd wr : Bool) (K : Int) (lk : Bool) (p : Bool) (V G U : Int) (re we : Bool) (L : Int) (ke : Bool) (b : Bool) (w : World) (hb : clashV o W F T K p V G U L = b) :
    Calls Try.prog 11 #[reg o W F T rd wr K lk, reg p V G U re we L ke] w fun e w' => e = .returned (.bool b) ∧ Below w.heap.size w w' := by
  subst hb
  unfold clashV
  cases h1 : (standB o W F T K && standB p V G U L)
  · exact clash_0 o W F T rd wr K lk p V G U re we L ke _ _ _ w (fun w => Reach.Meet_val F T G U _ _ _ w rfl rfl rfl) (fun w => both_any o W F T rd wr K lk p V G U re we L ke _ w h1)
  by_cases h : W = V
  · subst h
    rw [decide_eq_false (by simp)]
    exact clash_1 o W F T rd wr K lk p G U re we L ke _ _ _ w (fun w => Reach.Meet_val F T G U _ _ _ w rfl rfl rfl) (fun w => both_any o W F T rd wr K lk p W G U re we L ke _ w h1)
  · rw [decide_eq_true h]
    simpa using clash_2 o W F T rd wr K lk p V G U re we L ke _ _ _ w (fun w => Reach.Meet_val F T G U _ _ _ w rfl rfl rfl) (fun w => both_any o W F T rd wr K lk p V G U re we L ke _ w h1) h

theorem above_0 (o : Bool) (W F T : Int) (rd wr : Bool) (K : Int) (lk : Bool) (p : Bool) (V G U : Int) (re we : Bool) (L : Int) (ke : Bool) (w : World)
    (q0 : ∀ w, Calls Try.prog 24 #[reg o W F T rd wr K lk, reg p V G U re we L ke] w fun e w' => e = .returned (.bool false) ∧ Below w.heap.size w w') :
    Calls Try.prog 17 #[reg o W F T rd wr K lk, reg p V G U re we L ke] w fun e w' => e = .returned (.bool false) ∧ Below w.heap.size w w' := by
  go_enter Try.func17, Try.ntmps17
  go_wp2_with fail
  refine (q0 _).mono ?_
  rintro e w1 ⟨rfl, hb⟩
  have P0 := Lib.hid (((eight_new w o W F T rd wr K lk 26).alloc _).keep hb)
  have R0 := Lib.hid ((show Eight _ (w.heap.size + 1) p V G U re we L ke by have := eight_new (w.alloc (.cells #[.bool o, .int .i64 W, .int .u32 F, .int .u32 T, .bool rd, .bool wr, .int .i64 K, .bool lk] 26)) p V G U re we L ke 26; simpa using this).keep hb)
  have B0 := Lib.hid ((((Below.refl w.heap.size w).alloc (Nat.le_refl _) _).alloc (by simp) _).trans (hb.mono (by simp; omega)))
  clear hb
  obtain ⟨k0, k1, k2, k3, k4, k5, k6, k7⟩ := P0.out
  obtain ⟨m0, m1, m2, m3, m4, m5, m6, m7⟩ := R0.out
  go_wp2_with fail
  go_ret
  exact ⟨rfl, B0.out⟩

theorem above_1 (o : Bool) (W F T : Int) (rd wr : Bool) (K : Int) (lk : Bool) (p : Bool) (V G U : Int) (re we : Bool) (L : Int) (ke : Bool) (w : World)
    (q0 : ∀ w, Calls Try.prog 24 #[reg o W F T rd wr K lk, reg p V G U re we L ke] w fun e w' => e = .returned (.bool true) ∧ Below w.heap.size w w') :
    Calls Try.prog 17 #[reg o W F T rd wr K lk, reg p V G U re we L ke] w fun e w' => e = .returned (.bool (decide (L < K))) ∧ Below w.heap.size w w' := by
  go_enter Try.func17, Try.ntmps17
  go_wp2_with fail
  refine (q0 _).mono ?_
  rintro e w1 ⟨rfl, hb⟩
  have P0 := Lib.hid (((eight_new w o W F T rd wr K lk 26).alloc _).keep hb)
  have R0 := Lib.hid ((show Eight _ (w.heap.size + 1) p V G U re we L ke by have := eight_new (w.alloc (.cells #[.bool o, .int .i64 W, .int .u32 F, .int .u32 T, .bool rd, .bool wr, .int .i64 K, .bool lk] 26)) p V G U re we L ke 26; simpa using this).keep hb)
  have B0 := Lib.hid ((((Below.refl w.heap.size w).alloc (Nat.le_refl _) _).alloc (by simp) _).trans (hb.mono (by simp; omega)))
  clear hb
  obtain ⟨k0, k1, k2, k3, k4, k5, k6, k7⟩ := P0.out
  obtain ⟨m0, m1, m2, m3, m4, m5, m6, m7⟩ := R0.out
  go_wp2_with fail
  go_ret
  exact ⟨rfl, B0.out⟩

theorem Above_any (o : Bool) (W F T : Int) (rd wr : Bool) (K : Int) (lk : Bool) (p : Bool) (V G U : Int) (re we : Bool) (L : Int) (ke : Bool) (b : Bool) (w : World) (hb : aboveV o W F T K p V G U L = b) :
    Calls Try.prog 17 #[reg o W F T rd wr K lk, reg p V G U re we L ke] w fun e w' => e = .returned (.bool b) ∧ Below w.heap.size w w' := by
  subst hb
  unfold aboveV
  cases h1 : (standB o W F T K && standB p V G U L)
  · exact above_0 o W F T rd wr K lk p V G U re we L ke w (fun w => both_any o W F T rd wr K lk p V G U re we L ke _ w h1)
  · simpa using above_1 o W F T rd wr K lk p V G U re we L ke w (fun w => both_any o W F T rd wr K lk p V G U re we L ke _ w h1)

theorem rclash_0 (o : Bool) (W F T : Int) (rd wr : Bool) (K : Int) (lk : Bool) (p : Bool) (V G U : Int) (re we : Bool) (L : Int) (ke : Bool) (x y : Int) (m : Bool) (w : World)
    (q0 : ∀ w, Calls Try.prog 34 #[.agg #[.int .u32 F, .int .u32 T], .agg #[.int .u32 G, .int .u32 U]] w fun e w' => e = .returned (.tuple #[.agg #[.int .u32 x, .int .u32 y], .bool m]) ∧ Below w.heap.size w w') (q1 : ∀ w, Calls Try.prog 18 #[reg o W F T rd wr K lk] w fun e w' => e = .returned (.bool false) ∧ Below w.heap.size w w') :
    Calls Try.prog 21 #[reg o W F T rd wr K lk, reg p V G U re we L ke] w fun e w' => e = .returned (.bool false) ∧ Below w.heap.size w w' := by
  go_enter Try.func21, Try.ntmps21
  go_wp2_with fail
  refine (q0 _).mono ?_
  rintro e w1 ⟨rfl, hb⟩
  have P0 := Lib.hid (((eight_new w o W F T rd wr K lk 26).alloc _).keep hb)
  have R0 := Lib.hid ((show Eight _ (w.heap.size + 1) p V G U re we L ke by have := eight_new (w.alloc (.cells #[.bool o, .int .i64 W, .int .u32 F, .int .u32 T, .bool rd, .bool wr, .int .i64 K, .bool lk] 26)) p V G U re we L ke 26; simpa using this).keep hb)
  have B0 := Lib.hid ((((Below.refl w.heap.size w).alloc (Nat.le_refl _) _).alloc (by simp) _).trans (hb.mono (by simp; omega)))
  clear hb
  have T1 := Lib.hid (Reach.two_new w1 x y 24)
  have P1 := Lib.hid (P0.out.alloc (.cells #[.int .u32 x, .int .u32 y] 24))
  have R1 := Lib.hid (R0.out.alloc (.cells #[.int .u32 x, .int .u32 y] 24))
  have B1 := Lib.hid (B0.out.alloc B0.out.size (.cells #[.int .u32 x, .int .u32 y] 24))
  clear P0 R0 B0
  obtain ⟨k0, k1, k2, k3, k4, k5, k6, k7⟩ := P1.out
  obtain ⟨m0, m1, m2, m3, m4, m5, m6, m7⟩ := R1.out
  go_wp2_with fail
  refine (q1 _).mono ?_
  rintro e w3 ⟨rfl, hb⟩
  have P2 := Lib.hid (P1.out.keep hb)
  have R2 := Lib.hid (R1.out.keep hb)
  have B2 := Lib.hid (B1.out.trans (hb.mono B1.out.size))
  clear hb
  clear k0 k1 k2 k3 k4 k5 k6 k7
  clear m0 m1 m2 m3 m4 m5 m6 m7
  obtain ⟨k0, k1, k2, k3, k4, k5, k6, k7⟩ := P2.out
  obtain ⟨m0, m1, m2, m3, m4, m5, m6, m7⟩ := R2.out
  go_wp2_with fail
  go_ret
  exact ⟨rfl, B2.out⟩

theorem rclash_1 (o : Bool) (W F T : Int) (rd wr : Bool) (K : Int) (lk : Bool) (p : Bool) (V G U : Int) (re we : Bool) (L : Int) (ke : Bool) (x y : Int) (m : Bool) (w : World)
    (q0 : ∀ w, Calls Try.prog 34 #[.agg #[.int .u32 F, .int .u32 T], .agg #[.int .u32 G, .int .u32 U]] w fun e w' => e = .returned (.tuple #[.agg #[.int .u32 x, .int .u32 y], .bool m]) ∧ Below w.heap.size w w') (q1 : ∀ w, Calls Try.prog 18 #[reg o W F T rd wr K lk] w fun e w' => e = .returned (.bool true) ∧ Below w.heap.size w w') (q2 : ∀ w, Calls Try.prog 18 #[reg p V G U re we L ke] w fun e w' => e = .returned (.bool false) ∧ Below w.heap.size w w') :
    Calls Try.prog 21 #[reg o W F T rd wr K lk, reg p V G U re we L ke] w fun e w' => e = .returned (.bool false) ∧ Below w.heap.size w w' := by
  go_enter Try.func21, Try.ntmps21
  go_wp2_with fail
  refine (q0 _).mono ?_
  rintro e w1 ⟨rfl, hb⟩
  have P0 := Lib.hid (((eight_new w o W F T rd wr K lk 26).alloc _).keep hb)
  have R0 := Lib.hid ((show Eight _ (w.heap.size + 1) p V G U re we L ke by have := eight_new (w.alloc (.cells #[.bool o, .int .i64 W, .int .u32 F, .int .u32 T, .bool rd, .bool wr, .int .i64 K, .bool lk] 26)) p V G U re we L ke 26; simpa using this).keep hb)
  have B0 := Lib.hid ((((Below.refl w.heap.size w).alloc (Nat.le_refl _) _).alloc (by simp) _).trans (hb.mono (by simp; omega)))
  clear hb
  have T1 := Lib.hid (Reach.two_new w1 x y 24)
  have P1 := Lib.hid (P0.out.alloc (.cells #[.int .u32 x, .int .u32 y] 24))
  have R1 := Lib.hid (R0.out.alloc (.cells #[.int .u32 x, .int .u32 y] 24))
  have B1 := Lib.hid (B0.out.alloc B0.out.size (.cells #[.int .u32 x, .int .u32 y] 24))
  clear P0 R0 B0
  obtain ⟨k0, k1, k2, k3, k4, k5, k6, k7⟩ := P1.out
  obtain ⟨m0, m1, m2, m3, m4, m5, m6, m7⟩ := R1.out
  go_wp2_with fail
  refine (q1 _).mono ?_
  rintro e w3 ⟨rfl, hb⟩
  have P2 := Lib.hid (P1.out.keep hb)
  have R2 := Lib.hid (R1.out.keep hb)
  have B2 := Lib.hid (B1.out.trans (hb.mono B1.out.size))
  clear hb
  clear k0 k1 k2 k3 k4 k5 k6 k7
  clear m0 m1 m2 m3 m4 m5 m6 m7
  obtain ⟨k0, k1, k2, k3, k4, k5, k6, k7⟩ := P2.out
  obtain ⟨m0, m1, m2, m3, m4, m5, m6, m7⟩ := R2.out
  go_wp2_with fail
  refine (q2 _).mono ?_
  rintro e w4 ⟨rfl, hb⟩
  have P3 := Lib.hid (P2.out.keep hb)
  have R3 := Lib.hid (R2.out.keep hb)
  have B3 := Lib.hid (B2.out.trans (hb.mono B2.out.size))
  clear hb
  clear k0 k1 k2 k3 k4 k5 k6 k7
  clear m0 m1 m2 m3 m4 m5 m6 m7
  obtain ⟨k0, k1, k2, k3, k4, k5, k6, k7⟩ := P3.out
  obtain ⟨m0, m1, m2, m3, m4, m5, m6, m7⟩ := R3.out
  go_wp2_with fail
  go_ret
  exact ⟨rfl, B3.out⟩

theorem rclash_2 (W F T : Int) (rd wr : Bool) (K : Int) (lk : Bool) (p : Bool) (V G U : Int) (re we : Bool) (L : Int) (ke : Bool) (x y : Int) (m : Bool) (w : World)
    (q0 : ∀ w, Calls Try.prog 34 #[.agg #[.int .u32 F, .int .u32 T], .agg #[.int .u32 G, .int .u32 U]] w fun e w' => e = .returned (.tuple #[.agg #[.int .u32 x, .int .u32 y], .bool m]) ∧ Below w.heap.size w w') (q1 : ∀ w, Calls Try.prog 18 #[reg false W F T rd wr K lk] w fun e w' => e = .returned (.bool true) ∧ Below w.heap.size w w') (q2 : ∀ w, Calls Try.prog 18 #[reg p V G U re we L ke] w fun e w' => e = .returned (.bool true) ∧ Below w.heap.size w w') :
    Calls Try.prog 21 #[reg false W F T rd wr K lk, reg p V G U re we L ke] w fun e w' => e = .returned (.bool false) ∧ Below w.heap.size w w' := by
  go_enter Try.func21, Try.ntmps21
  go_wp2_with fail
  refine (q0 _).mono ?_
  rintro e w1 ⟨rfl, hb⟩
  have P0 := Lib.hid (((eight_new w false W F T rd wr K lk 26).alloc _).keep hb)
  have R0 := Lib.hid ((show Eight _ (w.heap.size + 1) p V G U re we L ke by have := eight_new (w.alloc (.cells #[.bool false, .int .i64 W, .int .u32 F, .int .u32 T, .bool rd, .bool wr, .int .i64 K, .bool lk] 26)) p V G U re we L ke 26; simpa using this).keep hb)
  have B0 := Lib.hid ((((Below.refl w.heap.size w).alloc (Nat.le_refl _) _).alloc (by simp) _).trans (hb.mono (by simp; omega)))
  clear hb
  have T1 := Lib.hid (Reach.two_new w1 x y 24)
  have P1 := Lib.hid (P0.out.alloc (.cells #[.int .u32 x, .int .u32 y] 24))
  have R1 := Lib.hid (R0.out.alloc (.cells #[.int .u32 x, .int .u32 y] 24))
  have B1 := Lib.hid (B0.out.alloc B0.out.size (.cells #[.int .u32 x, .int .u32 y] 24))
  clear P0 R0 B0
  obtain ⟨k0, k1, k2, k3, k4, k5, k6, k7⟩ := P1.out
  obtain ⟨m0, m1, m2, m3, m4, m5, m6, m7⟩ := R1.out
  go_wp2_with fail
  refine (q1 _).mono ?_
  rintro e w3 ⟨rfl, hb⟩
  have P2 := Lib.hid (P1.out.keep hb)
  have R2 := Lib.hid (R1.out.keep hb)
  have B2 := Lib.hid (B1.out.trans (hb.mono B1.out.size))
  clear hb
  clear k0 k1 k2 k3 k4 k5 k6 k7
  clear m0 m1 m2 m3 m4 m5 m6 m7
  obtain ⟨k0, k1, k2, k3, k4, k5, k6, k7⟩ := P2.out
  obtain ⟨m0, m1, m2, m3, m4, m5, m6, m7⟩ := R2.out
  go_wp2_with fail
  refine (q2 _).mono ?_
  rintro e w4 ⟨rfl, hb⟩
  have P3 := Lib.hid (P2.out.keep hb)
  have R3 := Lib.hid (R2.out.keep hb)
  have B3 := Lib.hid (B2.out.trans (hb.mono B2.out.size))
  clear hb
  clear k0 k1 k2 k3 k4 k5 k6 k7
  clear m0 m1 m2 m3 m4 m5 m6 m7
  obtain ⟨k0, k1, k2, k3, k4, k5, k6, k7⟩ := P3.out
  obtain ⟨m0, m1, m2, m3, m4, m5, m6, m7⟩ := R3.out
  go_wp2_with fail
  go_ret
  exact ⟨rfl, B3.out⟩

theorem rclash_3 (W F T : Int) (rd wr : Bool) (K : Int) (lk : Bool) (V G U : Int) (re we : Bool) (L : Int) (ke : Bool) (x y : Int) (m : Bool) (w : World)
    (q0 : ∀ w, Calls Try.prog 34 #[.agg #[.int .u32 F, .int .u32 T], .agg #[.int .u32 G, .int .u32 U]] w fun e w' => e = .returned (.tuple #[.agg #[.int .u32 x, .int .u32 y], .bool m]) ∧ Below w.heap.size w w') (q1 : ∀ w, Calls Try.prog 18 #[reg true W F T rd wr K lk] w fun e w' => e = .returned (.bool true) ∧ Below w.heap.size w w') (q2 : ∀ w, Calls Try.prog 18 #[reg false V G U re we L ke] w fun e w' => e = .returned (.bool true) ∧ Below w.heap.size w w') :
    Calls Try.prog 21 #[reg true W F T rd wr K lk, reg false V G U re we L ke] w fun e w' => e = .returned (.bool false) ∧ Below w.heap.size w w' := by
  go_enter Try.func21, Try.ntmps21
  go_wp2_with fail
  refine (q0 _).mono ?_
  rintro e w1 ⟨rfl, hb⟩
  have P0 := Lib.hid (((eight_new w true W F T rd wr K lk 26).alloc _).keep hb)
  have R0 := Lib.hid ((show Eight _ (w.heap.size + 1) false V G U re we L ke by have := eight_new (w.alloc (.cells #[.bool true, .int .i64 W, .int .u32 F, .int .u32 T, .bool rd, .bool wr, .int .i64 K, .bool lk] 26)) false V G U re we L ke 26; simpa using this).keep hb)
  have B0 := Lib.hid ((((Below.refl w.heap.size w).alloc (Nat.le_refl _) _).alloc (by simp) _).trans (hb.mono (by simp; omega)))
  clear hb
  have T1 := Lib.hid (Reach.two_new w1 x y 24)
  have P1 := Lib.hid (P0.out.alloc (.cells #[.int .u32 x, .int .u32 y] 24))
  have R1 := Lib.hid (R0.out.alloc (.cells #[.int .u32 x, .int .u32 y] 24))
  have B1 := Lib.hid (B0.out.alloc B0.out.size (.cells #[.int .u32 x, .int .u32 y] 24))
  clear P0 R0 B0
  obtain ⟨k0, k1, k2, k3, k4, k5, k6, k7⟩ := P1.out
  obtain ⟨m0, m1, m2, m3, m4, m5, m6, m7⟩ := R1.out
  go_wp2_with fail
  refine (q1 _).mono ?_
  rintro e w3 ⟨rfl, hb⟩
  have P2 := Lib.hid (P1.out.keep hb)
  have R2 := Lib.hid (R1.out.keep hb)
  have B2 := Lib.hid (B1.out.trans (hb.mono B1.out.size))
  clear hb
  clear k0 k1 k2 k3 k4 k5 k6 k7
  clear m0 m1 m2 m3 m4 m5 m6 m7
  obtain ⟨k0, k1, k2, k3, k4, k5, k6, k7⟩ := P2.out
  obtain ⟨m0, m1, m2, m3, m4, m5, m6, m7⟩ := R2.out
  go_wp2_with fail
  refine (q2 _).mono ?_
  rintro e w4 ⟨rfl, hb⟩
  have P3 := Lib.hid (P2.out.keep hb)
  have R3 := Lib.hid (R2.out.keep hb)
  have B3 := Lib.hid (B2.out.trans (hb.mono B2.out.size))
  clear hb
  clear k0 k1 k2 k3 k4 k5 k6 k7
  clear m0 m1 m2 m3 m4 m5 m6 m7
  obtain ⟨k0, k1, k2, k3, k4, k5, k6, k7⟩ := P3.out
  obtain ⟨m0, m1, m2, m3, m4, m5, m6, m7⟩ := R3.out
  go_wp2_with fail
  go_ret
  exact ⟨rfl, B3.out⟩

theorem rclash_4 (W F T : Int) (rd wr : Bool) (K : Int) (lk : Bool) (G U : Int) (re we : Bool) (L : Int) (ke : Bool) (x y : Int) (m : Bool) (w : World)
    (q0 : ∀ w, Calls Try.prog 34 #[.agg #[.int .u32 F, .int .u32 T], .agg #[.int .u32 G, .int .u32 U]] w fun e w' => e = .returned (.tuple #[.agg #[.int .u32 x, .int .u32 y], .bool m]) ∧ Below w.heap.size w w') (q1 : ∀ w, Calls Try.prog 18 #[reg true W F T rd wr K lk] w fun e w' => e = .returned (.bool true) ∧ Below w.heap.size w w') (q2 : ∀ w, Calls Try.prog 18 #[reg true W G U re we L ke] w fun e w' => e = .returned (.bool true) ∧ Below w.heap.size w w') :
    Calls Try.prog 21 #[reg true W F T rd wr K lk, reg true W G U re we L ke] w fun e w' => e = .returned (.bool false) ∧ Below w.heap.size w w' := by
  go_enter Try.func21, Try.ntmps21
  go_wp2_with fail
  refine (q0 _).mono ?_
  rintro e w1 ⟨rfl, hb⟩
  have P0 := Lib.hid (((eight_new w true W F T rd wr K lk 26).alloc _).keep hb)
  have R0 := Lib.hid ((show Eight _ (w.heap.size + 1) true W G U re we L ke by have := eight_new (w.alloc (.cells #[.bool true, .int .i64 W, .int .u32 F, .int .u32 T, .bool rd, .bool wr, .int .i64 K, .bool lk] 26)) true W G U re we L ke 26; simpa using this).keep hb)
  have B0 := Lib.hid ((((Below.refl w.heap.size w).alloc (Nat.le_refl _) _).alloc (by simp) _).trans (hb.mono (by simp; omega)))
  clear hb
  have T1 := Lib.hid (Reach.two_new w1 x y 24)
  have P1 := Lib.hid (P0.out.alloc (.cells #[.int .u32 x, .int .u32 y] 24))
  have R1 := Lib.hid (R0.out.alloc (.cells #[.int .u32 x, .int .u32 y] 24))
  have B1 := Lib.hid (B0.out.alloc B0.out.size (.cells #[.int .u32 x, .int .u32 y] 24))
  clear P0 R0 B0
  obtain ⟨k0, k1, k2, k3, k4, k5, k6, k7⟩ := P1.out
  obtain ⟨m0, m1, m2, m3, m4, m5, m6, m7⟩ := R1.out
  go_wp2_with fail
  refine (q1 _).mono ?_
  rintro e w3 ⟨rfl, hb⟩
  have P2 := Lib.hid (P1.out.keep hb)
  have R2 := Lib.hid (R1.out.keep hb)
  have B2 := Lib.hid (B1.out.trans (hb.mono B1.out.size))
  clear hb
  clear k0 k1 k2 k3 k4 k5 k6 k7
  clear m0 m1 m2 m3 m4 m5 m6 m7
  obtain ⟨k0, k1, k2, k3, k4, k5, k6, k7⟩ := P2.out
  obtain ⟨m0, m1, m2, m3, m4, m5, m6, m7⟩ := R2.out
  go_wp2_with fail
  refine (q2 _).mono ?_
  rintro e w4 ⟨rfl, hb⟩
  have P3 := Lib.hid (P2.out.keep hb)
  have R3 := Lib.hid (R2.out.keep hb)
  have B3 := Lib.hid (B2.out.trans (hb.mono B2.out.size))
  clear hb
  clear k0 k1 k2 k3 k4 k5 k6 k7
  clear m0 m1 m2 m3 m4 m5 m6 m7
  obtain ⟨k0, k1, k2, k3, k4, k5, k6, k7⟩ := P3.out
  obtain ⟨m0, m1, m2, m3, m4, m5, m6, m7⟩ := R3.out
  go_wp2_with fail
  go_ret
  exact ⟨rfl, B3.out⟩

theorem rclash_5 (W F T : Int) (rd wr : Bool) (K : Int) (lk : Bool) (V G U : Int) (re we : Bool) (L : Int) (ke : Bool) (x y : Int) (m : Bool) (w : World)
    (q0 : ∀ w, Calls Try.prog 34 #[.agg #[.int .u32 F, .int .u32 T], .agg #[.int .u32 G, .int .u32 U]] w fun e w' => e = .returned (.tuple #[.agg #[.int .u32 x, .int .u32 y], .bool m]) ∧ Below w.heap.size w w') (q1 : ∀ w, Calls Try.prog 18 #[reg true W F T rd wr K lk] w fun e w' => e = .returned (.bool true) ∧ Below w.heap.size w w') (q2 : ∀ w, Calls Try.prog 18 #[reg true V G U re we L ke] w fun e w' => e = .returned (.bool true) ∧ Below w.heap.size w w') (h : ¬ W = V) :
    Calls Try.prog 21 #[reg true W F T rd wr K lk, reg true V G U re we L ke] w fun e w' => e = .returned (.bool m) ∧ Below w.heap.size w w' := by
  go_enter Try.func21, Try.ntmps21
  go_wp2_with fail
  refine (q0 _).mono ?_
  rintro e w1 ⟨rfl, hb⟩
  have P0 := Lib.hid (((eight_new w true W F T rd wr K lk 26).alloc _).keep hb)
  have R0 := Lib.hid ((show Eight _ (w.heap.size + 1) true V G U re we L ke by have := eight_new (w.alloc (.cells #[.bool true, .int .i64 W, .int .u32 F, .int .u32 T, .bool rd, .bool wr, .int .i64 K, .bool lk] 26)) true V G U re we L ke 26; simpa using this).keep hb)
  have B0 := Lib.hid ((((Below.refl w.heap.size w).alloc (Nat.le_refl _) _).alloc (by simp) _).trans (hb.mono (by simp; omega)))
  clear hb
  have T1 := Lib.hid (Reach.two_new w1 x y 24)
  have P1 := Lib.hid (P0.out.alloc (.cells #[.int .u32 x, .int .u32 y] 24))
  have R1 := Lib.hid (R0.out.alloc (.cells #[.int .u32 x, .int .u32 y] 24))
  have B1 := Lib.hid (B0.out.alloc B0.out.size (.cells #[.int .u32 x, .int .u32 y] 24))
  clear P0 R0 B0
  obtain ⟨k0, k1, k2, k3, k4, k5, k6, k7⟩ := P1.out
  obtain ⟨m0, m1, m2, m3, m4, m5, m6, m7⟩ := R1.out
  go_wp2_with fail
  refine (q1 _).mono ?_
  rintro e w3 ⟨rfl, hb⟩
  have P2 := Lib.hid (P1.out.keep hb)
  have R2 := Lib.hid (R1.out.keep hb)
  have B2 := Lib.hid (B1.out.trans (hb.mono B1.out.size))
  clear hb
  clear k0 k1 k2 k3 k4 k5 k6 k7
  clear m0 m1 m2 m3 m4 m5 m6 m7
  obtain ⟨k0, k1, k2, k3, k4, k5, k6, k7⟩ := P2.out
  obtain ⟨m0, m1, m2, m3, m4, m5, m6, m7⟩ := R2.out
  go_wp2_with fail
  refine (q2 _).mono ?_
  rintro e w4 ⟨rfl, hb⟩
  have P3 := Lib.hid (P2.out.keep hb)
  have R3 := Lib.hid (R2.out.keep hb)
  have B3 := Lib.hid (B2.out.trans (hb.mono B2.out.size))
  clear hb
  clear k0 k1 k2 k3 k4 k5 k6 k7
  clear m0 m1 m2 m3 m4 m5 m6 m7
  obtain ⟨k0, k1, k2, k3, k4, k5, k6, k7⟩ := P3.out
  obtain ⟨m0, m1, m2, m3, m4, m5, m6, m7⟩ := R3.out
  go_wp2_with fail
  go_ret
  exact ⟨ret_bool (by simp [h]), B3.out⟩

theorem rabove_0 (o : Bool) (W F T : Int) (rd wr : Bool) (K : Int) (lk : Bool) (p : Bool) (V G U : Int) (re we : Bool) (L : Int) (ke : Bool) (w : World)
    (q0 : ∀ w, Calls Try.prog 18 #[reg o W F T rd wr K lk] w fun e w' => e = .returned (.bool false) ∧ Below w.heap.size w w') :
    Calls Try.prog 22 #[reg o W F T rd wr K lk, reg p V G U re we L ke] w fun e w' => e = .returned (.bool false) ∧ Below w.heap.size w w' := by
  go_enter Try.func22, Try.ntmps22
  go_wp2_with fail
  refine (q0 _).mono ?_
  rintro e w1 ⟨rfl, hb⟩
  have P0 := Lib.hid (((eight_new w o W F T rd wr K lk 26).alloc _).keep hb)
  have R0 := Lib.hid ((show Eight _ (w.heap.size + 1) p V G U re we L ke by have := eight_new (w.alloc (.cells #[.bool o, .int .i64 W, .int .u32 F, .int .u32 T, .bool rd, .bool wr, .int .i64 K, .bool lk] 26)) p V G U re we L ke 26; simpa using this).keep hb)
  have B0 := Lib.hid ((((Below.refl w.heap.size w).alloc (Nat.le_refl _) _).alloc (by simp) _).trans (hb.mono (by simp; omega)))
  clear hb
  obtain ⟨k0, k1, k2, k3, k4, k5, k6, k7⟩ := P0.out
  obtain ⟨m0, m1, m2, m3, m4, m5, m6, m7⟩ := R0.out
  go_wp2_with fail
  go_ret
  exact ⟨rfl, B0.out⟩

theorem rabove_1 (o : Bool) (W F T : Int) (rd wr : Bool) (K : Int) (lk : Bool) (p : Bool) (V G U : Int) (re we : Bool) (L : Int) (ke : Bool) (w : World)
    (q0 : ∀ w, Calls Try.prog 18 #[reg o W F T rd wr K lk] w fun e w' => e = .returned (.bool true) ∧ Below w.heap.size w w') (q1 : ∀ w, Calls Try.prog 18 #[reg p V G U re we L ke] w fun e w' => e = .returned (.bool false) ∧ Below w.heap.size w w') :
    Calls Try.prog 22 #[reg o W F T rd wr K lk, reg p V G U re we L ke] w fun e w' => e = .returned (.bool false) ∧ Below w.heap.size w w' := by
  go_enter Try.func22, Try.ntmps22
  go_wp2_with fail
  refine (q0 _).mono ?_
  rintro e w1 ⟨rfl, hb⟩
  have P0 := Lib.hid (((eight_new w o W F T rd wr K lk 26).alloc _).keep hb)
  have R0 := Lib.hid ((show Eight _ (w.heap.size + 1) p V G U re we L ke by have := eight_new (w.alloc (.cells #[.bool o, .int .i64 W, .int .u32 F, .int .u32 T, .bool rd, .bool wr, .int .i64 K, .bool lk] 26)) p V G U re we L ke 26; simpa using this).keep hb)
  have B0 := Lib.hid ((((Below.refl w.heap.size w).alloc (Nat.le_refl _) _).alloc (by simp) _).trans (hb.mono (by simp; omega)))
  clear hb
  obtain ⟨k0, k1, k2, k3, k4, k5, k6, k7⟩ := P0.out
  obtain ⟨m0, m1, m2, m3, m4, m5, m6, m7⟩ := R0.out
  go_wp2_with fail
  refine (q1 _).mono ?_
  rintro e w2 ⟨rfl, hb⟩
  have P1 := Lib.hid (P0.out.keep hb)
  have R1 := Lib.hid (R0.out.keep hb)
  have B1 := Lib.hid (B0.out.trans (hb.mono B0.out.size))
  clear hb
  clear k0 k1 k2 k3 k4 k5 k6 k7
  clear m0 m1 m2 m3 m4 m5 m6 m7
  obtain ⟨k0, k1, k2, k3, k4, k5, k6, k7⟩ := P1.out
  obtain ⟨m0, m1, m2, m3, m4, m5, m6, m7⟩ := R1.out
  go_wp2_with fail
  go_ret
  exact ⟨rfl, B1.out⟩

theorem rabove_2 (W F T : Int) (rd wr : Bool) (K : Int) (lk : Bool) (p : Bool) (V G U : Int) (re we : Bool) (L : Int) (ke : Bool) (w : World)
    (q0 : ∀ w, Calls Try.prog 18 #[reg false W F T rd wr K lk] w fun e w' => e = .returned (.bool true) ∧ Below w.heap.size w w') (q1 : ∀ w, Calls Try.prog 18 #[reg p V G U re we L ke] w fun e w' => e = .returned (.bool true) ∧ Below w.heap.size w w') :
    Calls Try.prog 22 #[reg false W F T rd wr K lk, reg p V G U re we L ke] w fun e w' => e = .returned (.bool false) ∧ Below w.heap.size w w' := by
  go_enter Try.func22, Try.ntmps22
  go_wp2_with fail
  refine (q0 _).mono ?_
  rintro e w1 ⟨rfl, hb⟩
  have P0 := Lib.hid (((eight_new w false W F T rd wr K lk 26).alloc _).keep hb)
  have R0 := Lib.hid ((show Eight _ (w.heap.size + 1) p V G U re we L ke by have := eight_new (w.alloc (.cells #[.bool false, .int .i64 W, .int .u32 F, .int .u32 T, .bool rd, .bool wr, .int .i64 K, .bool lk] 26)) p V G U re we L ke 26; simpa using this).keep hb)
  have B0 := Lib.hid ((((Below.refl w.heap.size w).alloc (Nat.le_refl _) _).alloc (by simp) _).trans (hb.mono (by simp; omega)))
  clear hb
  obtain ⟨k0, k1, k2, k3, k4, k5, k6, k7⟩ := P0.out
  obtain ⟨m0, m1, m2, m3, m4, m5, m6, m7⟩ := R0.out
  go_wp2_with fail
  refine (q1 _).mono ?_
  rintro e w2 ⟨rfl, hb⟩
  have P1 := Lib.hid (P0.out.keep hb)
  have R1 := Lib.hid (R0.out.keep hb)
  have B1 := Lib.hid (B0.out.trans (hb.mono B0.out.size))
  clear hb
  clear k0 k1 k2 k3 k4 k5 k6 k7
  clear m0 m1 m2 m3 m4 m5 m6 m7
  obtain ⟨k0, k1, k2, k3, k4, k5, k6, k7⟩ := P1.out
  obtain ⟨m0, m1, m2, m3, m4, m5, m6, m7⟩ := R1.out
  go_wp2_with fail
  go_ret
  exact ⟨rfl, B1.out⟩

theorem rabove_3 (W F T : Int) (rd wr : Bool) (K : Int) (lk : Bool) (V G U : Int) (re we : Bool) (L : Int) (ke : Bool) (w : World)
    (q0 : ∀ w, Calls Try.prog 18 #[reg true W F T rd wr K lk] w fun e w' => e = .returned (.bool true) ∧ Below w.heap.size w w') (q1 : ∀ w, Calls Try.prog 18 #[reg false V G U re we L ke] w fun e w' => e = .returned (.bool true) ∧ Below w.heap.size w w') :
    Calls Try.prog 22 #[reg true W F T rd wr K lk, reg false V G U re we L ke] w fun e w' => e = .returned (.bool false) ∧ Below w.heap.size w w' := by
  go_enter Try.func22, Try.ntmps22
  go_wp2_with fail
  refine (q0 _).mono ?_
  rintro e w1 ⟨rfl, hb⟩
  have P0 := Lib.hid (((eight_new w true W F T rd wr K lk 26).alloc _).keep hb)
  have R0 := Lib.hid ((show Eight _ (w.heap.size + 1) false V G U re we L ke by have := eight_new (w.alloc (.cells #[.bool true, .int .i64 W, .int .u32 F, .int .u32 T, .bool rd, .bool wr, .int .i64 K, .bool lk] 26)) false V G U re we L ke 26; simpa using this).keep hb)
  have B0 := Lib.hid ((((Below.refl w.heap.size w).alloc (Nat.le_refl _) _).alloc (by simp) _).trans (hb.mono (by simp; omega)))
  clear hb
  obtain ⟨k0, k1, k2, k3, k4, k5, k6, k7⟩ := P0.out
  obtain ⟨m0, m1, m2, m3, m4, m5, m6, m7⟩ := R0.out
  go_wp2_with fail
  refine (q1 _).mono ?_
  rintro e w2 ⟨rfl, hb⟩
  have P1 := Lib.hid (P0.out.keep hb)
  have R1 := Lib.hid (R0.out.keep hb)
  have B1 := Lib.hid (B0.out.trans (hb.mono B0.out.size))
  clear hb
  clear k0 k1 k2 k3 k4 k5 k6 k7
  clear m0 m1 m2 m3 m4 m5 m6 m7
  obtain ⟨k0, k1, k2, k3, k4, k5, k6, k7⟩ := P1.out
  obtain ⟨m0, m1, m2, m3, m4, m5, m6, m7⟩ := R1.out
  go_wp2_with fail
  go_ret
  exact ⟨rfl, B1.out⟩

theorem rabove_5 (W F T : Int) (rd wr : Bool) (K : Int) (lk : Bool) (V G U : Int) (re we : Bool) (L : Int) (ke : Bool) (w : World)
    (q0 : ∀ w, Calls Try.prog 18 #[reg true W F T rd wr K lk] w fun e w' => e = .returned (.bool true) ∧ Below w.heap.size w w') (q1 : ∀ w, Calls Try.prog 18 #[reg true V G U re we L ke] w fun e w' => e = .returned (.bool true) ∧ Below w.heap.size w w') :
    Calls Try.prog 22 #[reg true W F T rd wr K lk, reg true V G U re we L ke] w fun e w' => e = .returned (.bool (decide (L < K))) ∧ Below w.heap.size w w' := by
  go_enter Try.func22, Try.ntmps22
  go_wp2_with fail
  refine (q0 _).mono ?_
  rintro e w1 ⟨rfl, hb⟩
  have P0 := Lib.hid (((eight_new w true W F T rd wr K lk 26).alloc _).keep hb)
  have R0 := Lib.hid ((show Eight _ (w.heap.size + 1) true V G U re we L ke by have := eight_new (w.alloc (.cells #[.bool true, .int .i64 W, .int .u32 F, .int .u32 T, .bool rd, .bool wr, .int .i64 K, .bool lk] 26)) true V G U re we L ke 26; simpa using this).keep hb)
  have B0 := Lib.hid ((((Below.refl w.heap.size w).alloc (Nat.le_refl _) _).alloc (by simp) _).trans (hb.mono (by simp; omega)))
  clear hb
  obtain ⟨k0, k1, k2, k3, k4, k5, k6, k7⟩ := P0.out
  obtain ⟨m0, m1, m2, m3, m4, m5, m6, m7⟩ := R0.out
  go_wp2_with fail
  refine (q1 _).mono ?_
  rintro e w2 ⟨rfl, hb⟩
  have P1 := Lib.hid (P0.out.keep hb)
  have R1 := Lib.hid (R0.out.keep hb)
  have B1 := Lib.hid (B0.out.trans (hb.mono B0.out.size))
  clear hb
  clear k0 k1 k2 k3 k4 k5 k6 k7
  clear m0 m1 m2 m3 m4 m5 m6 m7
  obtain ⟨k0, k1, k2, k3, k4, k5, k6, k7⟩ := P1.out
  obtain ⟨m0, m1, m2, m3, m4, m5, m6, m7⟩ := R1.out
  go_wp2_with fail
  go_ret
  exact ⟨rfl, B1.out⟩

theorem rClash_any (o : Bool) (W F T : Int) (rd wr : Bool) (K : Int) (lk : Bool) (p : Bool) (V G U : Int) (re we : Bool) (L : Int) (ke : Bool) (b : Bool) (w : World) (hb : clashV o W F T K p V G U L = b) :
    Calls Try.prog 21 #[reg o W F T rd wr K lk, reg p V G U re we L ke] w fun e w' => e = .returned (.bool b) ∧ Below w.heap.size w w' := by
  subst hb
  unfold clashV
  cases hr : regB o W F T rd wr K lk
  · have e : standB o W F T K = false := by rw [← reg_and_on (rd := rd) (wr := wr) (lk := lk), hr]; rfl
    rw [e]
    exact rclash_0 o W F T rd wr K lk p V G U re we L ke _ _ _ w (fun w => Reach.rMeet_val F T G U _ _ _ w rfl rfl rfl) (fun w => rRight_any o W F T rd wr K lk _ w hr)
  cases hs : regB p V G U re we L ke
  · have e : standB p V G U L = false := by rw [← reg_and_on (rd := re) (wr := we) (lk := ke), hs]; rfl
    rw [e, Bool.and_false]
    exact rclash_1 o W F T rd wr K lk p V G U re we L ke _ _ _ w (fun w => Reach.rMeet_val F T G U _ _ _ w rfl rfl rfl) (fun w => rRight_any o W F T rd wr K lk _ w hr) (fun w => rRight_any p V G U re we L ke _ w hs)
  cases o
  · exact rclash_2 W F T rd wr K lk p V G U re we L ke _ _ _ w (fun w => Reach.rMeet_val F T G U _ _ _ w rfl rfl rfl) (fun w => rRight_any false W F T rd wr K lk _ w hr) (fun w => rRight_any p V G U re we L ke _ w hs)
  have er : standB true W F T K = true := by rw [← reg_and_on (rd := rd) (wr := wr) (lk := lk), hr]; rfl
  cases p
  · rw [stand_off, Bool.and_false]
    exact rclash_3 W F T rd wr K lk V G U re we L ke _ _ _ w (fun w => Reach.rMeet_val F T G U _ _ _ w rfl rfl rfl) (fun w => rRight_any true W F T rd wr K lk _ w hr) (fun w => rRight_any false V G U re we L ke _ w hs)
  have es : standB true V G U L = true := by rw [← reg_and_on (rd := re) (wr := we) (lk := ke), hs]; rfl
  rw [er, es]
  by_cases h : W = V
  · subst h
    rw [decide_eq_false (by simp)]
    exact rclash_4 W F T rd wr K lk G U re we L ke _ _ _ w (fun w => Reach.rMeet_val F T G U _ _ _ w rfl rfl rfl) (fun w => rRight_any true W F T rd wr K lk _ w hr) (fun w => rRight_any true W G U re we L ke _ w hs)
  · rw [decide_eq_true h]
    simpa using rclash_5 W F T rd wr K lk V G U re we L ke _ _ _ w (fun w => Reach.rMeet_val F T G U _ _ _ w rfl rfl rfl) (fun w => rRight_any true W F T rd wr K lk _ w hr) (fun w => rRight_any true V G U re we L ke _ w hs) h

theorem rAbove_any (o : Bool) (W F T : Int) (rd wr : Bool) (K : Int) (lk : Bool) (p : Bool) (V G U : Int) (re we : Bool) (L : Int) (ke : Bool) (b : Bool) (w : World) (hb : aboveV o W F T K p V G U L = b) :
    Calls Try.prog 22 #[reg o W F T rd wr K lk, reg p V G U re we L ke] w fun e w' => e = .returned (.bool b) ∧ Below w.heap.size w w' := by
  subst hb
  unfold aboveV
  cases hr : regB o W F T rd wr K lk
  · have e : standB o W F T K = false := by rw [← reg_and_on (rd := rd) (wr := wr) (lk := lk), hr]; rfl
    rw [e]
    exact rabove_0 o W F T rd wr K lk p V G U re we L ke w (fun w => rRight_any o W F T rd wr K lk _ w hr)
  cases hs : regB p V G U re we L ke
  · have e : standB p V G U L = false := by rw [← reg_and_on (rd := re) (wr := we) (lk := ke), hs]; rfl
    rw [e, Bool.and_false]
    exact rabove_1 o W F T rd wr K lk p V G U re we L ke w (fun w => rRight_any o W F T rd wr K lk _ w hr) (fun w => rRight_any p V G U re we L ke _ w hs)
  cases o
  · exact rabove_2 W F T rd wr K lk p V G U re we L ke w (fun w => rRight_any false W F T rd wr K lk _ w hr) (fun w => rRight_any p V G U re we L ke _ w hs)
  have er : standB true W F T K = true := by rw [← reg_and_on (rd := rd) (wr := wr) (lk := lk), hr]; rfl
  cases p
  · rw [stand_off, Bool.and_false]
    exact rabove_3 W F T rd wr K lk V G U re we L ke w (fun w => rRight_any true W F T rd wr K lk _ w hr) (fun w => rRight_any false V G U re we L ke _ w hs)
  have es : standB true V G U L = true := by rw [← reg_and_on (rd := re) (wr := we) (lk := ke), hs]; rfl
  rw [er, es]
  simpa using rabove_5 W F T rd wr K lk V G U re we L ke w (fun w => rRight_any true W F T rd wr K lk _ w hr) (fun w => rRight_any true V G U re we L ke _ w hs)

end Go.Proofs.Ytploggfaihfeeaa.Region
