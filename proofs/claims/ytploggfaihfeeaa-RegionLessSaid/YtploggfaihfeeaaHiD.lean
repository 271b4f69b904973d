/- RegionLess, path by path (part D). -/
import Derived.Test.YtploggfaihfeeaaHf
namespace Go.Proofs.Ytploggfaihfeeaa.Region
open Go.RowKit Go.Proofs.Ytploggfaihfeeaa.Access
set_option linter.unusedVariables false
set_option maxRecDepth 100000 in
set_option maxHeartbeats 1000000 in
theorem le_4i0e (W : Int) (F : Int) (T : Int) (rd : Bool) (wr : Bool) (K : Int) (lk : Bool) (G : Int) (U : Int) (re : Bool) (we : Bool) (ke : Bool) (W2 : Int) (r2 : Bool) (A : Int) (S : Int) (D : Int) (w : World)
    (qa : ∀ w, Calls Try.prog 15 #[reg true W F T rd wr K lk, acc W2 r2 A S D] w fun e w' => e = .returned (.bool false) ∧ Below w.heap.size w w')
    (qb : ∀ w, Calls Try.prog 14 #[reg true W F T rd wr K lk, acc W2 r2 A S D] w fun e w' => e = .returned (.bool true) ∧ Below w.heap.size w w')
    (qs : ∀ w, Calls Try.prog 12 #[reg true W G U re we K ke] w fun e w' => e = .returned (.bool true) ∧ Below w.heap.size w w')
    (qi : ∀ w, Calls Try.prog 16 #[.agg #[.int .u32 F, .int .u32 T], .agg #[.int .u32 G, .int .u32 U]] w fun e w' => e = .returned (.bool false) ∧ Below w.heap.size w w')
    (qt : ∀ w, Calls Try.prog 15 #[reg true W F T false false K lk, acc W2 r2 A S D] w fun e w' => e = .returned (.bool false) ∧ Below w.heap.size w w')
    (qo : ∀ w, Calls Try.prog 15 #[reg true W F T true true K lk, acc W2 r2 A S D] w fun e w' => e = .returned (.bool true) ∧ Below w.heap.size w w')
    (qr : ∀ w, Calls Try.prog 12 #[reg true W F T rd wr K lk] w fun e w' => e = .returned (.bool true) ∧ Below w.heap.size w w')
    (qx : ∀ w, Calls Try.prog 17 #[reg true W F T rd wr K lk, reg true W G U re we K ke] w fun e w' => e = .returned (.bool false) ∧ Below w.heap.size w w')
    (qy : ∀ w, Calls Try.prog 17 #[reg true W G U re we K ke, reg true W F T rd wr K lk] w fun e w' => e = .returned (.bool false) ∧ Below w.heap.size w w') :
    Calls Try.prog 6 #[reg true W F T rd wr K lk, reg true W G U re we K ke, acc W2 r2 A S D] w fun e w' => e = .returned (.bool true) ∧ Below w.heap.size w w' := by
  go_enter Try.func6, Try.ntmps6
  go_wp2_with fail
  refine calls_letter ?_
  intro X hX
  have B0 := Lib.hid (show Below w.heap.size w X by rw [hX.out]; exact (((Below.refl _ _).alloc (Nat.le_refl _) _).alloc (by simp) _).alloc (by simp; omega) _)
  have P0 := Lib.hid (show Eight X w.heap.size true W F T rd wr K lk by rw [hX.out]; exact ((eight_new w true W F T rd wr K lk 26).alloc _).alloc _)
  have S0 := Lib.hid (show Eight X (w.heap.size + 1) true W G U re we K ke by rw [hX.out]; have := (eight_new (w.alloc (.cells #[.bool true, .int .i64 W, .int .u32 F, .int .u32 T, .bool rd, .bool wr, .int .i64 K, .bool lk] 26)) true W G U re we K ke 26).alloc (.cells #[.int .i64 W2, .bool r2, .int .u32 A, .int .i64 S, .int .u32 D] 28); simpa using this)
  have R0 := Lib.hid (show Five X (w.heap.size + 2) W2 r2 A S D by rw [hX.out]; have := five_new ((w.alloc (.cells #[.bool true, .int .i64 W, .int .u32 F, .int .u32 T, .bool rd, .bool wr, .int .i64 K, .bool lk] 26)).alloc (.cells #[.bool true, .int .i64 W, .int .u32 G, .int .u32 U, .bool re, .bool we, .int .i64 K, .bool ke] 26)) W2 r2 A S D 28; simpa using this)
  clear hX
  refine (awake_any _).mono ?_
  rintro e w1 ⟨rfl, hb⟩
  have P1 := Lib.hid (P0.out.keep hb)
  have S1 := Lib.hid (S0.out.keep hb)
  have R1 := Lib.hid (R0.out.keep hb)
  have B1 := Lib.hid (B0.out.trans (hb.mono B0.out.size))
  clear hb P0 S0 R0 B0
  obtain ⟨k0, k1, k2, k3, k4, k5, k6, k7⟩ := P1.out
  obtain ⟨s0, s1, s2, s3, s4, s5, s6, s7⟩ := S1.out
  obtain ⟨m0, m1, m2, m3, m4⟩ := R1.out
  go_wp2_with fail
  refine (qa _).mono ?_
  rintro e w2 ⟨rfl, hb⟩
  clear k0 k1 k2 k3 k4 k5 k6 k7
  clear s0 s1 s2 s3 s4 s5 s6 s7
  clear m0 m1 m2 m3 m4
  have P2 := Lib.hid (P1.out.keep hb)
  have S2 := Lib.hid (S1.out.keep hb)
  have R2 := Lib.hid (R1.out.keep hb)
  have B2 := Lib.hid (B1.out.trans (hb.mono B1.out.size))
  clear hb P1 S1 R1 B1
  obtain ⟨k0, k1, k2, k3, k4, k5, k6, k7⟩ := P2.out
  obtain ⟨s0, s1, s2, s3, s4, s5, s6, s7⟩ := S2.out
  obtain ⟨m0, m1, m2, m3, m4⟩ := R2.out
  go_wp2_with fail
  refine (qb _).mono ?_
  rintro e w3 ⟨rfl, hb⟩
  clear k0 k1 k2 k3 k4 k5 k6 k7
  clear s0 s1 s2 s3 s4 s5 s6 s7
  clear m0 m1 m2 m3 m4
  have P3 := Lib.hid (P2.out.keep hb)
  have S3 := Lib.hid (S2.out.keep hb)
  have R3 := Lib.hid (R2.out.keep hb)
  have B3 := Lib.hid (B2.out.trans (hb.mono B2.out.size))
  clear hb P2 S2 R2 B2
  obtain ⟨k0, k1, k2, k3, k4, k5, k6, k7⟩ := P3.out
  obtain ⟨s0, s1, s2, s3, s4, s5, s6, s7⟩ := S3.out
  obtain ⟨m0, m1, m2, m3, m4⟩ := R3.out
  go_wp2_with fail
  refine (qs _).mono ?_
  rintro e w4 ⟨rfl, hb⟩
  clear k0 k1 k2 k3 k4 k5 k6 k7
  clear s0 s1 s2 s3 s4 s5 s6 s7
  clear m0 m1 m2 m3 m4
  have P4 := Lib.hid (P3.out.keep hb)
  have S4 := Lib.hid (S3.out.keep hb)
  have R4 := Lib.hid (R3.out.keep hb)
  have B4 := Lib.hid (B3.out.trans (hb.mono B3.out.size))
  clear hb P3 S3 R3 B3
  obtain ⟨k0, k1, k2, k3, k4, k5, k6, k7⟩ := P4.out
  obtain ⟨s0, s1, s2, s3, s4, s5, s6, s7⟩ := S4.out
  obtain ⟨m0, m1, m2, m3, m4⟩ := R4.out
  go_wp2_with fail
  refine (qi _).mono ?_
  rintro e w5 ⟨rfl, hb⟩
  clear k0 k1 k2 k3 k4 k5 k6 k7
  clear s0 s1 s2 s3 s4 s5 s6 s7
  clear m0 m1 m2 m3 m4
  have P5 := Lib.hid (P4.out.keep hb)
  have S5 := Lib.hid (S4.out.keep hb)
  have R5 := Lib.hid (R4.out.keep hb)
  have B5 := Lib.hid (B4.out.trans (hb.mono B4.out.size))
  clear hb P4 S4 R4 B4
  obtain ⟨k0, k1, k2, k3, k4, k5, k6, k7⟩ := P5.out
  obtain ⟨s0, s1, s2, s3, s4, s5, s6, s7⟩ := S5.out
  obtain ⟨m0, m1, m2, m3, m4⟩ := R5.out
  obtain ⟨u0, u1, u2, u3, u4, u5, u6, u7⟩ := P5.out.alloc (.cells #[.bool true, .int .i64 W, .int .u32 F, .int .u32 T, .bool false, .bool false, .int .i64 K, .bool lk] 26)
  obtain ⟨v0, v1, v2, v3, v4⟩ := (R5.out.alloc (.cells #[.bool true, .int .i64 W, .int .u32 F, .int .u32 T, .bool false, .bool false, .int .i64 K, .bool lk] 26)).alloc (.cells #[.bool true, .int .i64 W, .int .u32 F, .int .u32 T, .bool true, .bool true, .int .i64 K, .bool lk] 26)
  go_wp2_with fail
  refine calls_letter ?_
  intro Z hZ
  clear u0 u1 u2 u3 u4 u5 u6 u7 v0 v1 v2 v3 v4
  clear k0 k1 k2 k3 k4 k5 k6 k7
  clear s0 s1 s2 s3 s4 s5 s6 s7
  clear m0 m1 m2 m3 m4
  have hz : Below w5.heap.size w5 Z := by rw [hZ.out]; repeat (first | exact Below.refl _ _ | refine Below.setCell ?_ (by simp) _ | refine Below.alloc ?_ (by simp) _)
  have P6 := Lib.hid (P5.out.keep hz)
  have S6 := Lib.hid (S5.out.keep hz)
  have R6 := Lib.hid (R5.out.keep hz)
  have O6 := Lib.hid (show Eight Z (w5.heap.size + 1) true W F T true true K lk by rw [hZ.out]; constructor <;> simp [go_sem])
  have B6 := Lib.hid (B5.out.trans (hz.mono B5.out.size))
  clear hz hZ P5 S5 R5 B5
  obtain ⟨g, hg⟩ : ∃ g, w5.heap.size = g := ⟨_, rfl⟩
  rw [hg] at O6
  rw [hg]
  clear hg
  refine (qt _).mono ?_
  rintro e w7 ⟨rfl, hb⟩
  have P7 := Lib.hid (P6.out.keep hb)
  have S7 := Lib.hid (S6.out.keep hb)
  have R7 := Lib.hid (R6.out.keep hb)
  have O7 := Lib.hid (O6.out.keep hb)
  have B7 := Lib.hid (B6.out.trans (hb.mono B6.out.size))
  clear hb P6 S6 R6 O6 B6
  obtain ⟨k0, k1, k2, k3, k4, k5, k6, k7⟩ := P7.out
  obtain ⟨s0, s1, s2, s3, s4, s5, s6, s7⟩ := S7.out
  obtain ⟨m0, m1, m2, m3, m4⟩ := R7.out
  obtain ⟨n0, n1, n2, n3, n4, n5, n6, n7⟩ := O7.out
  go_wp2_with fail
  refine (qb _).mono ?_
  rintro e w8 ⟨rfl, hb⟩
  clear k0 k1 k2 k3 k4 k5 k6 k7
  clear s0 s1 s2 s3 s4 s5 s6 s7
  clear m0 m1 m2 m3 m4
  clear n0 n1 n2 n3 n4 n5 n6 n7
  have P8 := Lib.hid (P7.out.keep hb)
  have S8 := Lib.hid (S7.out.keep hb)
  have R8 := Lib.hid (R7.out.keep hb)
  have O8 := Lib.hid (O7.out.keep hb)
  have B8 := Lib.hid (B7.out.trans (hb.mono B7.out.size))
  clear hb P7 S7 R7 O7 B7
  obtain ⟨k0, k1, k2, k3, k4, k5, k6, k7⟩ := P8.out
  obtain ⟨s0, s1, s2, s3, s4, s5, s6, s7⟩ := S8.out
  obtain ⟨m0, m1, m2, m3, m4⟩ := R8.out
  obtain ⟨n0, n1, n2, n3, n4, n5, n6, n7⟩ := O8.out
  go_wp2_with fail
  refine (qo _).mono ?_
  rintro e w9 ⟨rfl, hb⟩
  clear k0 k1 k2 k3 k4 k5 k6 k7
  clear s0 s1 s2 s3 s4 s5 s6 s7
  clear m0 m1 m2 m3 m4
  clear n0 n1 n2 n3 n4 n5 n6 n7
  have P9 := Lib.hid (P8.out.keep hb)
  have S9 := Lib.hid (S8.out.keep hb)
  have R9 := Lib.hid (R8.out.keep hb)
  have O9 := Lib.hid (O8.out.keep hb)
  have B9 := Lib.hid (B8.out.trans (hb.mono B8.out.size))
  clear hb P8 S8 R8 O8 B8
  obtain ⟨k0, k1, k2, k3, k4, k5, k6, k7⟩ := P9.out
  obtain ⟨s0, s1, s2, s3, s4, s5, s6, s7⟩ := S9.out
  obtain ⟨m0, m1, m2, m3, m4⟩ := R9.out
  obtain ⟨n0, n1, n2, n3, n4, n5, n6, n7⟩ := O9.out
  go_wp2_with fail
  refine (qr _).mono ?_
  rintro e w10 ⟨rfl, hb⟩
  clear k0 k1 k2 k3 k4 k5 k6 k7
  clear s0 s1 s2 s3 s4 s5 s6 s7
  clear m0 m1 m2 m3 m4
  clear n0 n1 n2 n3 n4 n5 n6 n7
  have P10 := Lib.hid (P9.out.keep hb)
  have S10 := Lib.hid (S9.out.keep hb)
  have R10 := Lib.hid (R9.out.keep hb)
  have O10 := Lib.hid (O9.out.keep hb)
  have B10 := Lib.hid (B9.out.trans (hb.mono B9.out.size))
  clear hb P9 S9 R9 O9 B9
  obtain ⟨k0, k1, k2, k3, k4, k5, k6, k7⟩ := P10.out
  obtain ⟨s0, s1, s2, s3, s4, s5, s6, s7⟩ := S10.out
  obtain ⟨m0, m1, m2, m3, m4⟩ := R10.out
  obtain ⟨n0, n1, n2, n3, n4, n5, n6, n7⟩ := O10.out
  go_wp2_with fail
  refine (qs _).mono ?_
  rintro e w11 ⟨rfl, hb⟩
  clear k0 k1 k2 k3 k4 k5 k6 k7
  clear s0 s1 s2 s3 s4 s5 s6 s7
  clear m0 m1 m2 m3 m4
  clear n0 n1 n2 n3 n4 n5 n6 n7
  have P11 := Lib.hid (P10.out.keep hb)
  have S11 := Lib.hid (S10.out.keep hb)
  have R11 := Lib.hid (R10.out.keep hb)
  have O11 := Lib.hid (O10.out.keep hb)
  have B11 := Lib.hid (B10.out.trans (hb.mono B10.out.size))
  clear hb P10 S10 R10 O10 B10
  obtain ⟨k0, k1, k2, k3, k4, k5, k6, k7⟩ := P11.out
  obtain ⟨s0, s1, s2, s3, s4, s5, s6, s7⟩ := S11.out
  obtain ⟨m0, m1, m2, m3, m4⟩ := R11.out
  obtain ⟨n0, n1, n2, n3, n4, n5, n6, n7⟩ := O11.out
  go_wp2_with fail
  refine (qx _).mono ?_
  rintro e w12 ⟨rfl, hb⟩
  clear k0 k1 k2 k3 k4 k5 k6 k7
  clear s0 s1 s2 s3 s4 s5 s6 s7
  clear m0 m1 m2 m3 m4
  clear n0 n1 n2 n3 n4 n5 n6 n7
  have P12 := Lib.hid (P11.out.keep hb)
  have S12 := Lib.hid (S11.out.keep hb)
  have R12 := Lib.hid (R11.out.keep hb)
  have O12 := Lib.hid (O11.out.keep hb)
  have B12 := Lib.hid (B11.out.trans (hb.mono B11.out.size))
  clear hb P11 S11 R11 O11 B11
  obtain ⟨k0, k1, k2, k3, k4, k5, k6, k7⟩ := P12.out
  obtain ⟨s0, s1, s2, s3, s4, s5, s6, s7⟩ := S12.out
  obtain ⟨m0, m1, m2, m3, m4⟩ := R12.out
  obtain ⟨n0, n1, n2, n3, n4, n5, n6, n7⟩ := O12.out
  go_wp2_with fail
  refine (qy _).mono ?_
  rintro e w13 ⟨rfl, hb⟩
  clear k0 k1 k2 k3 k4 k5 k6 k7
  clear s0 s1 s2 s3 s4 s5 s6 s7
  clear m0 m1 m2 m3 m4
  clear n0 n1 n2 n3 n4 n5 n6 n7
  have P13 := Lib.hid (P12.out.keep hb)
  have S13 := Lib.hid (S12.out.keep hb)
  have R13 := Lib.hid (R12.out.keep hb)
  have O13 := Lib.hid (O12.out.keep hb)
  have B13 := Lib.hid (B12.out.trans (hb.mono B12.out.size))
  clear hb P12 S12 R12 O12 B12
  obtain ⟨k0, k1, k2, k3, k4, k5, k6, k7⟩ := P13.out
  obtain ⟨s0, s1, s2, s3, s4, s5, s6, s7⟩ := S13.out
  obtain ⟨m0, m1, m2, m3, m4⟩ := R13.out
  obtain ⟨n0, n1, n2, n3, n4, n5, n6, n7⟩ := O13.out
  go_wp2_with fail
  refine (qx _).mono ?_
  rintro e w14 ⟨rfl, hb⟩
  clear k0 k1 k2 k3 k4 k5 k6 k7
  clear s0 s1 s2 s3 s4 s5 s6 s7
  clear m0 m1 m2 m3 m4
  clear n0 n1 n2 n3 n4 n5 n6 n7
  have P14 := Lib.hid (P13.out.keep hb)
  have S14 := Lib.hid (S13.out.keep hb)
  have R14 := Lib.hid (R13.out.keep hb)
  have O14 := Lib.hid (O13.out.keep hb)
  have B14 := Lib.hid (B13.out.trans (hb.mono B13.out.size))
  clear hb P13 S13 R13 O13 B13
  obtain ⟨k0, k1, k2, k3, k4, k5, k6, k7⟩ := P14.out
  obtain ⟨s0, s1, s2, s3, s4, s5, s6, s7⟩ := S14.out
  obtain ⟨m0, m1, m2, m3, m4⟩ := R14.out
  obtain ⟨n0, n1, n2, n3, n4, n5, n6, n7⟩ := O14.out
  go_wp2_with fail
  go_ret
  exact ⟨rfl, B14.out⟩

set_option maxRecDepth 100000 in
set_option maxHeartbeats 1000000 in
theorem le_4y0e (W : Int) (F : Int) (T : Int) (rd : Bool) (wr : Bool) (K : Int) (lk : Bool) (G : Int) (U : Int) (re : Bool) (we : Bool) (ke : Bool) (W2 : Int) (r2 : Bool) (A : Int) (S : Int) (D : Int) (w : World)
    (qa : ∀ w, Calls Try.prog 15 #[reg true W F T rd wr K lk, acc W2 r2 A S D] w fun e w' => e = .returned (.bool false) ∧ Below w.heap.size w w')
    (qb : ∀ w, Calls Try.prog 14 #[reg true W F T rd wr K lk, acc W2 r2 A S D] w fun e w' => e = .returned (.bool true) ∧ Below w.heap.size w w')
    (qs : ∀ w, Calls Try.prog 12 #[reg true W G U re we K ke] w fun e w' => e = .returned (.bool true) ∧ Below w.heap.size w w')
    (qi : ∀ w, Calls Try.prog 16 #[.agg #[.int .u32 F, .int .u32 T], .agg #[.int .u32 G, .int .u32 U]] w fun e w' => e = .returned (.bool true) ∧ Below w.heap.size w w')
    (qh : ∀ w, Calls Try.prog 14 #[reg true W G U re we K ke, acc W2 r2 A S D] w fun e w' => e = .returned (.bool true) ∧ Below w.heap.size w w')
    (qt : ∀ w, Calls Try.prog 15 #[reg true W F T false false K lk, acc W2 r2 A S D] w fun e w' => e = .returned (.bool false) ∧ Below w.heap.size w w')
    (qo : ∀ w, Calls Try.prog 15 #[reg true W F T true true K lk, acc W2 r2 A S D] w fun e w' => e = .returned (.bool true) ∧ Below w.heap.size w w')
    (qr : ∀ w, Calls Try.prog 12 #[reg true W F T rd wr K lk] w fun e w' => e = .returned (.bool true) ∧ Below w.heap.size w w')
    (qx : ∀ w, Calls Try.prog 17 #[reg true W F T rd wr K lk, reg true W G U re we K ke] w fun e w' => e = .returned (.bool false) ∧ Below w.heap.size w w')
    (qy : ∀ w, Calls Try.prog 17 #[reg true W G U re we K ke, reg true W F T rd wr K lk] w fun e w' => e = .returned (.bool false) ∧ Below w.heap.size w w') :
    Calls Try.prog 6 #[reg true W F T rd wr K lk, reg true W G U re we K ke, acc W2 r2 A S D] w fun e w' => e = .returned (.bool true) ∧ Below w.heap.size w w' := by
  go_enter Try.func6, Try.ntmps6
  go_wp2_with fail
  refine calls_letter ?_
  intro X hX
  have B0 := Lib.hid (show Below w.heap.size w X by rw [hX.out]; exact (((Below.refl _ _).alloc (Nat.le_refl _) _).alloc (by simp) _).alloc (by simp; omega) _)
  have P0 := Lib.hid (show Eight X w.heap.size true W F T rd wr K lk by rw [hX.out]; exact ((eight_new w true W F T rd wr K lk 26).alloc _).alloc _)
  have S0 := Lib.hid (show Eight X (w.heap.size + 1) true W G U re we K ke by rw [hX.out]; have := (eight_new (w.alloc (.cells #[.bool true, .int .i64 W, .int .u32 F, .int .u32 T, .bool rd, .bool wr, .int .i64 K, .bool lk] 26)) true W G U re we K ke 26).alloc (.cells #[.int .i64 W2, .bool r2, .int .u32 A, .int .i64 S, .int .u32 D] 28); simpa using this)
  have R0 := Lib.hid (show Five X (w.heap.size + 2) W2 r2 A S D by rw [hX.out]; have := five_new ((w.alloc (.cells #[.bool true, .int .i64 W, .int .u32 F, .int .u32 T, .bool rd, .bool wr, .int .i64 K, .bool lk] 26)).alloc (.cells #[.bool true, .int .i64 W, .int .u32 G, .int .u32 U, .bool re, .bool we, .int .i64 K, .bool ke] 26)) W2 r2 A S D 28; simpa using this)
  clear hX
  refine (awake_any _).mono ?_
  rintro e w1 ⟨rfl, hb⟩
  have P1 := Lib.hid (P0.out.keep hb)
  have S1 := Lib.hid (S0.out.keep hb)
  have R1 := Lib.hid (R0.out.keep hb)
  have B1 := Lib.hid (B0.out.trans (hb.mono B0.out.size))
  clear hb P0 S0 R0 B0
  obtain ⟨k0, k1, k2, k3, k4, k5, k6, k7⟩ := P1.out
  obtain ⟨s0, s1, s2, s3, s4, s5, s6, s7⟩ := S1.out
  obtain ⟨m0, m1, m2, m3, m4⟩ := R1.out
  go_wp2_with fail
  refine (qa _).mono ?_
  rintro e w2 ⟨rfl, hb⟩
  clear k0 k1 k2 k3 k4 k5 k6 k7
  clear s0 s1 s2 s3 s4 s5 s6 s7
  clear m0 m1 m2 m3 m4
  have P2 := Lib.hid (P1.out.keep hb)
  have S2 := Lib.hid (S1.out.keep hb)
  have R2 := Lib.hid (R1.out.keep hb)
  have B2 := Lib.hid (B1.out.trans (hb.mono B1.out.size))
  clear hb P1 S1 R1 B1
  obtain ⟨k0, k1, k2, k3, k4, k5, k6, k7⟩ := P2.out
  obtain ⟨s0, s1, s2, s3, s4, s5, s6, s7⟩ := S2.out
  obtain ⟨m0, m1, m2, m3, m4⟩ := R2.out
  go_wp2_with fail
  refine (qb _).mono ?_
  rintro e w3 ⟨rfl, hb⟩
  clear k0 k1 k2 k3 k4 k5 k6 k7
  clear s0 s1 s2 s3 s4 s5 s6 s7
  clear m0 m1 m2 m3 m4
  have P3 := Lib.hid (P2.out.keep hb)
  have S3 := Lib.hid (S2.out.keep hb)
  have R3 := Lib.hid (R2.out.keep hb)
  have B3 := Lib.hid (B2.out.trans (hb.mono B2.out.size))
  clear hb P2 S2 R2 B2
  obtain ⟨k0, k1, k2, k3, k4, k5, k6, k7⟩ := P3.out
  obtain ⟨s0, s1, s2, s3, s4, s5, s6, s7⟩ := S3.out
  obtain ⟨m0, m1, m2, m3, m4⟩ := R3.out
  go_wp2_with fail
  refine (qs _).mono ?_
  rintro e w4 ⟨rfl, hb⟩
  clear k0 k1 k2 k3 k4 k5 k6 k7
  clear s0 s1 s2 s3 s4 s5 s6 s7
  clear m0 m1 m2 m3 m4
  have P4 := Lib.hid (P3.out.keep hb)
  have S4 := Lib.hid (S3.out.keep hb)
  have R4 := Lib.hid (R3.out.keep hb)
  have B4 := Lib.hid (B3.out.trans (hb.mono B3.out.size))
  clear hb P3 S3 R3 B3
  obtain ⟨k0, k1, k2, k3, k4, k5, k6, k7⟩ := P4.out
  obtain ⟨s0, s1, s2, s3, s4, s5, s6, s7⟩ := S4.out
  obtain ⟨m0, m1, m2, m3, m4⟩ := R4.out
  go_wp2_with fail
  refine (qi _).mono ?_
  rintro e w5 ⟨rfl, hb⟩
  clear k0 k1 k2 k3 k4 k5 k6 k7
  clear s0 s1 s2 s3 s4 s5 s6 s7
  clear m0 m1 m2 m3 m4
  have P5 := Lib.hid (P4.out.keep hb)
  have S5 := Lib.hid (S4.out.keep hb)
  have R5 := Lib.hid (R4.out.keep hb)
  have B5 := Lib.hid (B4.out.trans (hb.mono B4.out.size))
  clear hb P4 S4 R4 B4
  obtain ⟨k0, k1, k2, k3, k4, k5, k6, k7⟩ := P5.out
  obtain ⟨s0, s1, s2, s3, s4, s5, s6, s7⟩ := S5.out
  obtain ⟨m0, m1, m2, m3, m4⟩ := R5.out
  go_wp2_with fail
  refine (qh _).mono ?_
  rintro e w6 ⟨rfl, hb⟩
  clear k0 k1 k2 k3 k4 k5 k6 k7
  clear s0 s1 s2 s3 s4 s5 s6 s7
  clear m0 m1 m2 m3 m4
  have P6 := Lib.hid (P5.out.keep hb)
  have S6 := Lib.hid (S5.out.keep hb)
  have R6 := Lib.hid (R5.out.keep hb)
  have B6 := Lib.hid (B5.out.trans (hb.mono B5.out.size))
  clear hb P5 S5 R5 B5
  obtain ⟨k0, k1, k2, k3, k4, k5, k6, k7⟩ := P6.out
  obtain ⟨s0, s1, s2, s3, s4, s5, s6, s7⟩ := S6.out
  obtain ⟨m0, m1, m2, m3, m4⟩ := R6.out
  obtain ⟨u0, u1, u2, u3, u4, u5, u6, u7⟩ := P6.out.alloc (.cells #[.bool true, .int .i64 W, .int .u32 F, .int .u32 T, .bool false, .bool false, .int .i64 K, .bool lk] 26)
  obtain ⟨v0, v1, v2, v3, v4⟩ := (R6.out.alloc (.cells #[.bool true, .int .i64 W, .int .u32 F, .int .u32 T, .bool false, .bool false, .int .i64 K, .bool lk] 26)).alloc (.cells #[.bool true, .int .i64 W, .int .u32 F, .int .u32 T, .bool true, .bool true, .int .i64 K, .bool lk] 26)
  go_wp2_with fail
  refine calls_letter ?_
  intro Z hZ
  clear u0 u1 u2 u3 u4 u5 u6 u7 v0 v1 v2 v3 v4
  clear k0 k1 k2 k3 k4 k5 k6 k7
  clear s0 s1 s2 s3 s4 s5 s6 s7
  clear m0 m1 m2 m3 m4
  have hz : Below w6.heap.size w6 Z := by rw [hZ.out]; repeat (first | exact Below.refl _ _ | refine Below.setCell ?_ (by simp) _ | refine Below.alloc ?_ (by simp) _)
  have P7 := Lib.hid (P6.out.keep hz)
  have S7 := Lib.hid (S6.out.keep hz)
  have R7 := Lib.hid (R6.out.keep hz)
  have O7 := Lib.hid (show Eight Z (w6.heap.size + 1) true W F T true true K lk by rw [hZ.out]; constructor <;> simp [go_sem])
  have B7 := Lib.hid (B6.out.trans (hz.mono B6.out.size))
  clear hz hZ P6 S6 R6 B6
  obtain ⟨g, hg⟩ : ∃ g, w6.heap.size = g := ⟨_, rfl⟩
  rw [hg] at O7
  rw [hg]
  clear hg
  refine (qt _).mono ?_
  rintro e w8 ⟨rfl, hb⟩
  have P8 := Lib.hid (P7.out.keep hb)
  have S8 := Lib.hid (S7.out.keep hb)
  have R8 := Lib.hid (R7.out.keep hb)
  have O8 := Lib.hid (O7.out.keep hb)
  have B8 := Lib.hid (B7.out.trans (hb.mono B7.out.size))
  clear hb P7 S7 R7 O7 B7
  obtain ⟨k0, k1, k2, k3, k4, k5, k6, k7⟩ := P8.out
  obtain ⟨s0, s1, s2, s3, s4, s5, s6, s7⟩ := S8.out
  obtain ⟨m0, m1, m2, m3, m4⟩ := R8.out
  obtain ⟨n0, n1, n2, n3, n4, n5, n6, n7⟩ := O8.out
  go_wp2_with fail
  refine (qb _).mono ?_
  rintro e w9 ⟨rfl, hb⟩
  clear k0 k1 k2 k3 k4 k5 k6 k7
  clear s0 s1 s2 s3 s4 s5 s6 s7
  clear m0 m1 m2 m3 m4
  clear n0 n1 n2 n3 n4 n5 n6 n7
  have P9 := Lib.hid (P8.out.keep hb)
  have S9 := Lib.hid (S8.out.keep hb)
  have R9 := Lib.hid (R8.out.keep hb)
  have O9 := Lib.hid (O8.out.keep hb)
  have B9 := Lib.hid (B8.out.trans (hb.mono B8.out.size))
  clear hb P8 S8 R8 O8 B8
  obtain ⟨k0, k1, k2, k3, k4, k5, k6, k7⟩ := P9.out
  obtain ⟨s0, s1, s2, s3, s4, s5, s6, s7⟩ := S9.out
  obtain ⟨m0, m1, m2, m3, m4⟩ := R9.out
  obtain ⟨n0, n1, n2, n3, n4, n5, n6, n7⟩ := O9.out
  go_wp2_with fail
  refine (qo _).mono ?_
  rintro e w10 ⟨rfl, hb⟩
  clear k0 k1 k2 k3 k4 k5 k6 k7
  clear s0 s1 s2 s3 s4 s5 s6 s7
  clear m0 m1 m2 m3 m4
  clear n0 n1 n2 n3 n4 n5 n6 n7
  have P10 := Lib.hid (P9.out.keep hb)
  have S10 := Lib.hid (S9.out.keep hb)
  have R10 := Lib.hid (R9.out.keep hb)
  have O10 := Lib.hid (O9.out.keep hb)
  have B10 := Lib.hid (B9.out.trans (hb.mono B9.out.size))
  clear hb P9 S9 R9 O9 B9
  obtain ⟨k0, k1, k2, k3, k4, k5, k6, k7⟩ := P10.out
  obtain ⟨s0, s1, s2, s3, s4, s5, s6, s7⟩ := S10.out
  obtain ⟨m0, m1, m2, m3, m4⟩ := R10.out
  obtain ⟨n0, n1, n2, n3, n4, n5, n6, n7⟩ := O10.out
  go_wp2_with fail
  refine (qr _).mono ?_
  rintro e w11 ⟨rfl, hb⟩
  clear k0 k1 k2 k3 k4 k5 k6 k7
  clear s0 s1 s2 s3 s4 s5 s6 s7
  clear m0 m1 m2 m3 m4
  clear n0 n1 n2 n3 n4 n5 n6 n7
  have P11 := Lib.hid (P10.out.keep hb)
  have S11 := Lib.hid (S10.out.keep hb)
  have R11 := Lib.hid (R10.out.keep hb)
  have O11 := Lib.hid (O10.out.keep hb)
  have B11 := Lib.hid (B10.out.trans (hb.mono B10.out.size))
  clear hb P10 S10 R10 O10 B10
  obtain ⟨k0, k1, k2, k3, k4, k5, k6, k7⟩ := P11.out
  obtain ⟨s0, s1, s2, s3, s4, s5, s6, s7⟩ := S11.out
  obtain ⟨m0, m1, m2, m3, m4⟩ := R11.out
  obtain ⟨n0, n1, n2, n3, n4, n5, n6, n7⟩ := O11.out
  go_wp2_with fail
  refine (qs _).mono ?_
  rintro e w12 ⟨rfl, hb⟩
  clear k0 k1 k2 k3 k4 k5 k6 k7
  clear s0 s1 s2 s3 s4 s5 s6 s7
  clear m0 m1 m2 m3 m4
  clear n0 n1 n2 n3 n4 n5 n6 n7
  have P12 := Lib.hid (P11.out.keep hb)
  have S12 := Lib.hid (S11.out.keep hb)
  have R12 := Lib.hid (R11.out.keep hb)
  have O12 := Lib.hid (O11.out.keep hb)
  have B12 := Lib.hid (B11.out.trans (hb.mono B11.out.size))
  clear hb P11 S11 R11 O11 B11
  obtain ⟨k0, k1, k2, k3, k4, k5, k6, k7⟩ := P12.out
  obtain ⟨s0, s1, s2, s3, s4, s5, s6, s7⟩ := S12.out
  obtain ⟨m0, m1, m2, m3, m4⟩ := R12.out
  obtain ⟨n0, n1, n2, n3, n4, n5, n6, n7⟩ := O12.out
  go_wp2_with fail
  refine (qx _).mono ?_
  rintro e w13 ⟨rfl, hb⟩
  clear k0 k1 k2 k3 k4 k5 k6 k7
  clear s0 s1 s2 s3 s4 s5 s6 s7
  clear m0 m1 m2 m3 m4
  clear n0 n1 n2 n3 n4 n5 n6 n7
  have P13 := Lib.hid (P12.out.keep hb)
  have S13 := Lib.hid (S12.out.keep hb)
  have R13 := Lib.hid (R12.out.keep hb)
  have O13 := Lib.hid (O12.out.keep hb)
  have B13 := Lib.hid (B12.out.trans (hb.mono B12.out.size))
  clear hb P12 S12 R12 O12 B12
  obtain ⟨k0, k1, k2, k3, k4, k5, k6, k7⟩ := P13.out
  obtain ⟨s0, s1, s2, s3, s4, s5, s6, s7⟩ := S13.out
  obtain ⟨m0, m1, m2, m3, m4⟩ := R13.out
  obtain ⟨n0, n1, n2, n3, n4, n5, n6, n7⟩ := O13.out
  go_wp2_with fail
  refine (qy _).mono ?_
  rintro e w14 ⟨rfl, hb⟩
  clear k0 k1 k2 k3 k4 k5 k6 k7
  clear s0 s1 s2 s3 s4 s5 s6 s7
  clear m0 m1 m2 m3 m4
  clear n0 n1 n2 n3 n4 n5 n6 n7
  have P14 := Lib.hid (P13.out.keep hb)
  have S14 := Lib.hid (S13.out.keep hb)
  have R14 := Lib.hid (R13.out.keep hb)
  have O14 := Lib.hid (O13.out.keep hb)
  have B14 := Lib.hid (B13.out.trans (hb.mono B13.out.size))
  clear hb P13 S13 R13 O13 B13
  obtain ⟨k0, k1, k2, k3, k4, k5, k6, k7⟩ := P14.out
  obtain ⟨s0, s1, s2, s3, s4, s5, s6, s7⟩ := S14.out
  obtain ⟨m0, m1, m2, m3, m4⟩ := R14.out
  obtain ⟨n0, n1, n2, n3, n4, n5, n6, n7⟩ := O14.out
  go_wp2_with fail
  refine (qx _).mono ?_
  rintro e w15 ⟨rfl, hb⟩
  clear k0 k1 k2 k3 k4 k5 k6 k7
  clear s0 s1 s2 s3 s4 s5 s6 s7
  clear m0 m1 m2 m3 m4
  clear n0 n1 n2 n3 n4 n5 n6 n7
  have P15 := Lib.hid (P14.out.keep hb)
  have S15 := Lib.hid (S14.out.keep hb)
  have R15 := Lib.hid (R14.out.keep hb)
  have O15 := Lib.hid (O14.out.keep hb)
  have B15 := Lib.hid (B14.out.trans (hb.mono B14.out.size))
  clear hb P14 S14 R14 O14 B14
  obtain ⟨k0, k1, k2, k3, k4, k5, k6, k7⟩ := P15.out
  obtain ⟨s0, s1, s2, s3, s4, s5, s6, s7⟩ := S15.out
  obtain ⟨m0, m1, m2, m3, m4⟩ := R15.out
  obtain ⟨n0, n1, n2, n3, n4, n5, n6, n7⟩ := O15.out
  go_wp2_with fail
  go_ret
  exact ⟨rfl, B15.out⟩

set_option maxRecDepth 100000 in
set_option maxHeartbeats 1000000 in
theorem le_4w1e (W : Int) (F : Int) (T : Int) (rd : Bool) (K : Int) (lk : Bool) (V : Int) (G : Int) (U : Int) (re : Bool) (we : Bool) (ke : Bool) (W2 : Int) (A : Int) (S : Int) (D : Int) (h : ¬ V = W) (w : World)
    (qa : ∀ w, Calls Try.prog 15 #[reg true W F T rd true K lk, acc W2 true A S D] w fun e w' => e = .returned (.bool true) ∧ Below w.heap.size w w')
    (qb : ∀ w, Calls Try.prog 14 #[reg true W F T rd true K lk, acc W2 true A S D] w fun e w' => e = .returned (.bool true) ∧ Below w.heap.size w w')
    (qs : ∀ w, Calls Try.prog 12 #[reg true V G U re we K ke] w fun e w' => e = .returned (.bool true) ∧ Below w.heap.size w w')
    (qt : ∀ w, Calls Try.prog 15 #[reg true W F T false false K lk, acc W2 true A S D] w fun e w' => e = .returned (.bool false) ∧ Below w.heap.size w w')
    (qo : ∀ w, Calls Try.prog 15 #[reg true W F T true true K lk, acc W2 true A S D] w fun e w' => e = .returned (.bool true) ∧ Below w.heap.size w w')
    (qr : ∀ w, Calls Try.prog 12 #[reg true W F T rd true K lk] w fun e w' => e = .returned (.bool true) ∧ Below w.heap.size w w')
    (qx : ∀ w, Calls Try.prog 17 #[reg true W F T rd true K lk, reg true V G U re we K ke] w fun e w' => e = .returned (.bool false) ∧ Below w.heap.size w w')
    (qy : ∀ w, Calls Try.prog 17 #[reg true V G U re we K ke, reg true W F T rd true K lk] w fun e w' => e = .returned (.bool false) ∧ Below w.heap.size w w') :
    Calls Try.prog 6 #[reg true W F T rd true K lk, reg true V G U re we K ke, acc W2 true A S D] w fun e w' => e = .returned (.bool true) ∧ Below w.heap.size w w' := by
  have dv : (V == W) = false := by simpa using h
  go_enter Try.func6, Try.ntmps6
  go_wp2_with fail
  refine calls_letter ?_
  intro X hX
  have B0 := Lib.hid (show Below w.heap.size w X by rw [hX.out]; exact (((Below.refl _ _).alloc (Nat.le_refl _) _).alloc (by simp) _).alloc (by simp; omega) _)
  have P0 := Lib.hid (show Eight X w.heap.size true W F T rd true K lk by rw [hX.out]; exact ((eight_new w true W F T rd true K lk 26).alloc _).alloc _)
  have S0 := Lib.hid (show Eight X (w.heap.size + 1) true V G U re we K ke by rw [hX.out]; have := (eight_new (w.alloc (.cells #[.bool true, .int .i64 W, .int .u32 F, .int .u32 T, .bool rd, .bool true, .int .i64 K, .bool lk] 26)) true V G U re we K ke 26).alloc (.cells #[.int .i64 W2, .bool true, .int .u32 A, .int .i64 S, .int .u32 D] 28); simpa using this)
  have R0 := Lib.hid (show Five X (w.heap.size + 2) W2 true A S D by rw [hX.out]; have := five_new ((w.alloc (.cells #[.bool true, .int .i64 W, .int .u32 F, .int .u32 T, .bool rd, .bool true, .int .i64 K, .bool lk] 26)).alloc (.cells #[.bool true, .int .i64 V, .int .u32 G, .int .u32 U, .bool re, .bool we, .int .i64 K, .bool ke] 26)) W2 true A S D 28; simpa using this)
  clear hX
  refine (awake_any _).mono ?_
  rintro e w1 ⟨rfl, hb⟩
  have P1 := Lib.hid (P0.out.keep hb)
  have S1 := Lib.hid (S0.out.keep hb)
  have R1 := Lib.hid (R0.out.keep hb)
  have B1 := Lib.hid (B0.out.trans (hb.mono B0.out.size))
  clear hb P0 S0 R0 B0
  obtain ⟨k0, k1, k2, k3, k4, k5, k6, k7⟩ := P1.out
  obtain ⟨s0, s1, s2, s3, s4, s5, s6, s7⟩ := S1.out
  obtain ⟨m0, m1, m2, m3, m4⟩ := R1.out
  go_wp2_with fail
  refine (qa _).mono ?_
  rintro e w2 ⟨rfl, hb⟩
  clear k0 k1 k2 k3 k4 k5 k6 k7
  clear s0 s1 s2 s3 s4 s5 s6 s7
  clear m0 m1 m2 m3 m4
  have P2 := Lib.hid (P1.out.keep hb)
  have S2 := Lib.hid (S1.out.keep hb)
  have R2 := Lib.hid (R1.out.keep hb)
  have B2 := Lib.hid (B1.out.trans (hb.mono B1.out.size))
  clear hb P1 S1 R1 B1
  obtain ⟨k0, k1, k2, k3, k4, k5, k6, k7⟩ := P2.out
  obtain ⟨s0, s1, s2, s3, s4, s5, s6, s7⟩ := S2.out
  obtain ⟨m0, m1, m2, m3, m4⟩ := R2.out
  go_wp2_with fail
  refine (qb _).mono ?_
  rintro e w3 ⟨rfl, hb⟩
  clear k0 k1 k2 k3 k4 k5 k6 k7
  clear s0 s1 s2 s3 s4 s5 s6 s7
  clear m0 m1 m2 m3 m4
  have P3 := Lib.hid (P2.out.keep hb)
  have S3 := Lib.hid (S2.out.keep hb)
  have R3 := Lib.hid (R2.out.keep hb)
  have B3 := Lib.hid (B2.out.trans (hb.mono B2.out.size))
  clear hb P2 S2 R2 B2
  obtain ⟨k0, k1, k2, k3, k4, k5, k6, k7⟩ := P3.out
  obtain ⟨s0, s1, s2, s3, s4, s5, s6, s7⟩ := S3.out
  obtain ⟨m0, m1, m2, m3, m4⟩ := R3.out
  go_wp2_with fail
  refine (qb _).mono ?_
  rintro e w4 ⟨rfl, hb⟩
  clear k0 k1 k2 k3 k4 k5 k6 k7
  clear s0 s1 s2 s3 s4 s5 s6 s7
  clear m0 m1 m2 m3 m4
  have P4 := Lib.hid (P3.out.keep hb)
  have S4 := Lib.hid (S3.out.keep hb)
  have R4 := Lib.hid (R3.out.keep hb)
  have B4 := Lib.hid (B3.out.trans (hb.mono B3.out.size))
  clear hb P3 S3 R3 B3
  obtain ⟨k0, k1, k2, k3, k4, k5, k6, k7⟩ := P4.out
  obtain ⟨s0, s1, s2, s3, s4, s5, s6, s7⟩ := S4.out
  obtain ⟨m0, m1, m2, m3, m4⟩ := R4.out
  go_wp2_with fail
  refine (qs _).mono ?_
  rintro e w5 ⟨rfl, hb⟩
  clear k0 k1 k2 k3 k4 k5 k6 k7
  clear s0 s1 s2 s3 s4 s5 s6 s7
  clear m0 m1 m2 m3 m4
  have P5 := Lib.hid (P4.out.keep hb)
  have S5 := Lib.hid (S4.out.keep hb)
  have R5 := Lib.hid (R4.out.keep hb)
  have B5 := Lib.hid (B4.out.trans (hb.mono B4.out.size))
  clear hb P4 S4 R4 B4
  obtain ⟨k0, k1, k2, k3, k4, k5, k6, k7⟩ := P5.out
  obtain ⟨s0, s1, s2, s3, s4, s5, s6, s7⟩ := S5.out
  obtain ⟨m0, m1, m2, m3, m4⟩ := R5.out
  obtain ⟨u0, u1, u2, u3, u4, u5, u6, u7⟩ := P5.out.alloc (.cells #[.bool true, .int .i64 W, .int .u32 F, .int .u32 T, .bool false, .bool false, .int .i64 K, .bool lk] 26)
  obtain ⟨v0, v1, v2, v3, v4⟩ := (R5.out.alloc (.cells #[.bool true, .int .i64 W, .int .u32 F, .int .u32 T, .bool false, .bool false, .int .i64 K, .bool lk] 26)).alloc (.cells #[.bool true, .int .i64 W, .int .u32 F, .int .u32 T, .bool true, .bool true, .int .i64 K, .bool lk] 26)
  go_wp2_with fail
  refine calls_letter ?_
  intro Z hZ
  clear u0 u1 u2 u3 u4 u5 u6 u7 v0 v1 v2 v3 v4
  clear k0 k1 k2 k3 k4 k5 k6 k7
  clear s0 s1 s2 s3 s4 s5 s6 s7
  clear m0 m1 m2 m3 m4
  have hz : Below w5.heap.size w5 Z := by rw [hZ.out]; repeat (first | exact Below.refl _ _ | refine Below.setCell ?_ (by simp) _ | refine Below.alloc ?_ (by simp) _)
  have P6 := Lib.hid (P5.out.keep hz)
  have S6 := Lib.hid (S5.out.keep hz)
  have R6 := Lib.hid (R5.out.keep hz)
  have O6 := Lib.hid (show Eight Z (w5.heap.size + 1) true W F T true true K lk by rw [hZ.out]; constructor <;> simp [go_sem])
  have B6 := Lib.hid (B5.out.trans (hz.mono B5.out.size))
  clear hz hZ P5 S5 R5 B5
  obtain ⟨g, hg⟩ : ∃ g, w5.heap.size = g := ⟨_, rfl⟩
  rw [hg] at O6
  rw [hg]
  clear hg
  refine (qt _).mono ?_
  rintro e w7 ⟨rfl, hb⟩
  have P7 := Lib.hid (P6.out.keep hb)
  have S7 := Lib.hid (S6.out.keep hb)
  have R7 := Lib.hid (R6.out.keep hb)
  have O7 := Lib.hid (O6.out.keep hb)
  have B7 := Lib.hid (B6.out.trans (hb.mono B6.out.size))
  clear hb P6 S6 R6 O6 B6
  obtain ⟨k0, k1, k2, k3, k4, k5, k6, k7⟩ := P7.out
  obtain ⟨s0, s1, s2, s3, s4, s5, s6, s7⟩ := S7.out
  obtain ⟨m0, m1, m2, m3, m4⟩ := R7.out
  obtain ⟨n0, n1, n2, n3, n4, n5, n6, n7⟩ := O7.out
  go_wp2_with fail
  refine (qb _).mono ?_
  rintro e w8 ⟨rfl, hb⟩
  clear k0 k1 k2 k3 k4 k5 k6 k7
  clear s0 s1 s2 s3 s4 s5 s6 s7
  clear m0 m1 m2 m3 m4
  clear n0 n1 n2 n3 n4 n5 n6 n7
  have P8 := Lib.hid (P7.out.keep hb)
  have S8 := Lib.hid (S7.out.keep hb)
  have R8 := Lib.hid (R7.out.keep hb)
  have O8 := Lib.hid (O7.out.keep hb)
  have B8 := Lib.hid (B7.out.trans (hb.mono B7.out.size))
  clear hb P7 S7 R7 O7 B7
  obtain ⟨k0, k1, k2, k3, k4, k5, k6, k7⟩ := P8.out
  obtain ⟨s0, s1, s2, s3, s4, s5, s6, s7⟩ := S8.out
  obtain ⟨m0, m1, m2, m3, m4⟩ := R8.out
  obtain ⟨n0, n1, n2, n3, n4, n5, n6, n7⟩ := O8.out
  go_wp2_with fail
  refine (qo _).mono ?_
  rintro e w9 ⟨rfl, hb⟩
  clear k0 k1 k2 k3 k4 k5 k6 k7
  clear s0 s1 s2 s3 s4 s5 s6 s7
  clear m0 m1 m2 m3 m4
  clear n0 n1 n2 n3 n4 n5 n6 n7
  have P9 := Lib.hid (P8.out.keep hb)
  have S9 := Lib.hid (S8.out.keep hb)
  have R9 := Lib.hid (R8.out.keep hb)
  have O9 := Lib.hid (O8.out.keep hb)
  have B9 := Lib.hid (B8.out.trans (hb.mono B8.out.size))
  clear hb P8 S8 R8 O8 B8
  obtain ⟨k0, k1, k2, k3, k4, k5, k6, k7⟩ := P9.out
  obtain ⟨s0, s1, s2, s3, s4, s5, s6, s7⟩ := S9.out
  obtain ⟨m0, m1, m2, m3, m4⟩ := R9.out
  obtain ⟨n0, n1, n2, n3, n4, n5, n6, n7⟩ := O9.out
  go_wp2_with fail
  refine (qr _).mono ?_
  rintro e w10 ⟨rfl, hb⟩
  clear k0 k1 k2 k3 k4 k5 k6 k7
  clear s0 s1 s2 s3 s4 s5 s6 s7
  clear m0 m1 m2 m3 m4
  clear n0 n1 n2 n3 n4 n5 n6 n7
  have P10 := Lib.hid (P9.out.keep hb)
  have S10 := Lib.hid (S9.out.keep hb)
  have R10 := Lib.hid (R9.out.keep hb)
  have O10 := Lib.hid (O9.out.keep hb)
  have B10 := Lib.hid (B9.out.trans (hb.mono B9.out.size))
  clear hb P9 S9 R9 O9 B9
  obtain ⟨k0, k1, k2, k3, k4, k5, k6, k7⟩ := P10.out
  obtain ⟨s0, s1, s2, s3, s4, s5, s6, s7⟩ := S10.out
  obtain ⟨m0, m1, m2, m3, m4⟩ := R10.out
  obtain ⟨n0, n1, n2, n3, n4, n5, n6, n7⟩ := O10.out
  go_wp2_with fail
  refine (qs _).mono ?_
  rintro e w11 ⟨rfl, hb⟩
  clear k0 k1 k2 k3 k4 k5 k6 k7
  clear s0 s1 s2 s3 s4 s5 s6 s7
  clear m0 m1 m2 m3 m4
  clear n0 n1 n2 n3 n4 n5 n6 n7
  have P11 := Lib.hid (P10.out.keep hb)
  have S11 := Lib.hid (S10.out.keep hb)
  have R11 := Lib.hid (R10.out.keep hb)
  have O11 := Lib.hid (O10.out.keep hb)
  have B11 := Lib.hid (B10.out.trans (hb.mono B10.out.size))
  clear hb P10 S10 R10 O10 B10
  obtain ⟨k0, k1, k2, k3, k4, k5, k6, k7⟩ := P11.out
  obtain ⟨s0, s1, s2, s3, s4, s5, s6, s7⟩ := S11.out
  obtain ⟨m0, m1, m2, m3, m4⟩ := R11.out
  obtain ⟨n0, n1, n2, n3, n4, n5, n6, n7⟩ := O11.out
  go_wp2_with fail
  refine (qx _).mono ?_
  rintro e w12 ⟨rfl, hb⟩
  clear k0 k1 k2 k3 k4 k5 k6 k7
  clear s0 s1 s2 s3 s4 s5 s6 s7
  clear m0 m1 m2 m3 m4
  clear n0 n1 n2 n3 n4 n5 n6 n7
  have P12 := Lib.hid (P11.out.keep hb)
  have S12 := Lib.hid (S11.out.keep hb)
  have R12 := Lib.hid (R11.out.keep hb)
  have O12 := Lib.hid (O11.out.keep hb)
  have B12 := Lib.hid (B11.out.trans (hb.mono B11.out.size))
  clear hb P11 S11 R11 O11 B11
  obtain ⟨k0, k1, k2, k3, k4, k5, k6, k7⟩ := P12.out
  obtain ⟨s0, s1, s2, s3, s4, s5, s6, s7⟩ := S12.out
  obtain ⟨m0, m1, m2, m3, m4⟩ := R12.out
  obtain ⟨n0, n1, n2, n3, n4, n5, n6, n7⟩ := O12.out
  go_wp2_with fail
  refine (qy _).mono ?_
  rintro e w13 ⟨rfl, hb⟩
  clear k0 k1 k2 k3 k4 k5 k6 k7
  clear s0 s1 s2 s3 s4 s5 s6 s7
  clear m0 m1 m2 m3 m4
  clear n0 n1 n2 n3 n4 n5 n6 n7
  have P13 := Lib.hid (P12.out.keep hb)
  have S13 := Lib.hid (S12.out.keep hb)
  have R13 := Lib.hid (R12.out.keep hb)
  have O13 := Lib.hid (O12.out.keep hb)
  have B13 := Lib.hid (B12.out.trans (hb.mono B12.out.size))
  clear hb P12 S12 R12 O12 B12
  obtain ⟨k0, k1, k2, k3, k4, k5, k6, k7⟩ := P13.out
  obtain ⟨s0, s1, s2, s3, s4, s5, s6, s7⟩ := S13.out
  obtain ⟨m0, m1, m2, m3, m4⟩ := R13.out
  obtain ⟨n0, n1, n2, n3, n4, n5, n6, n7⟩ := O13.out
  go_wp2_with fail
  refine (qx _).mono ?_
  rintro e w14 ⟨rfl, hb⟩
  clear k0 k1 k2 k3 k4 k5 k6 k7
  clear s0 s1 s2 s3 s4 s5 s6 s7
  clear m0 m1 m2 m3 m4
  clear n0 n1 n2 n3 n4 n5 n6 n7
  have P14 := Lib.hid (P13.out.keep hb)
  have S14 := Lib.hid (S13.out.keep hb)
  have R14 := Lib.hid (R13.out.keep hb)
  have O14 := Lib.hid (O13.out.keep hb)
  have B14 := Lib.hid (B13.out.trans (hb.mono B13.out.size))
  clear hb P13 S13 R13 O13 B13
  obtain ⟨k0, k1, k2, k3, k4, k5, k6, k7⟩ := P14.out
  obtain ⟨s0, s1, s2, s3, s4, s5, s6, s7⟩ := S14.out
  obtain ⟨m0, m1, m2, m3, m4⟩ := R14.out
  obtain ⟨n0, n1, n2, n3, n4, n5, n6, n7⟩ := O14.out
  go_wp2_with fail
  go_ret
  exact ⟨rfl, B14.out⟩

set_option maxRecDepth 100000 in
set_option maxHeartbeats 1000000 in
theorem le_4i1e (W : Int) (F : Int) (T : Int) (rd : Bool) (K : Int) (lk : Bool) (G : Int) (U : Int) (re : Bool) (we : Bool) (ke : Bool) (W2 : Int) (A : Int) (S : Int) (D : Int) (w : World)
    (qa : ∀ w, Calls Try.prog 15 #[reg true W F T rd true K lk, acc W2 true A S D] w fun e w' => e = .returned (.bool true) ∧ Below w.heap.size w w')
    (qb : ∀ w, Calls Try.prog 14 #[reg true W F T rd true K lk, acc W2 true A S D] w fun e w' => e = .returned (.bool true) ∧ Below w.heap.size w w')
    (qs : ∀ w, Calls Try.prog 12 #[reg true W G U re we K ke] w fun e w' => e = .returned (.bool true) ∧ Below w.heap.size w w')
    (qi : ∀ w, Calls Try.prog 16 #[.agg #[.int .u32 F, .int .u32 T], .agg #[.int .u32 G, .int .u32 U]] w fun e w' => e = .returned (.bool false) ∧ Below w.heap.size w w')
    (qt : ∀ w, Calls Try.prog 15 #[reg true W F T false false K lk, acc W2 true A S D] w fun e w' => e = .returned (.bool false) ∧ Below w.heap.size w w')
    (qo : ∀ w, Calls Try.prog 15 #[reg true W F T true true K lk, acc W2 true A S D] w fun e w' => e = .returned (.bool true) ∧ Below w.heap.size w w')
    (qr : ∀ w, Calls Try.prog 12 #[reg true W F T rd true K lk] w fun e w' => e = .returned (.bool true) ∧ Below w.heap.size w w')
    (qx : ∀ w, Calls Try.prog 17 #[reg true W F T rd true K lk, reg true W G U re we K ke] w fun e w' => e = .returned (.bool false) ∧ Below w.heap.size w w')
    (qy : ∀ w, Calls Try.prog 17 #[reg true W G U re we K ke, reg true W F T rd true K lk] w fun e w' => e = .returned (.bool false) ∧ Below w.heap.size w w') :
    Calls Try.prog 6 #[reg true W F T rd true K lk, reg true W G U re we K ke, acc W2 true A S D] w fun e w' => e = .returned (.bool true) ∧ Below w.heap.size w w' := by
  go_enter Try.func6, Try.ntmps6
  go_wp2_with fail
  refine calls_letter ?_
  intro X hX
  have B0 := Lib.hid (show Below w.heap.size w X by rw [hX.out]; exact (((Below.refl _ _).alloc (Nat.le_refl _) _).alloc (by simp) _).alloc (by simp; omega) _)
  have P0 := Lib.hid (show Eight X w.heap.size true W F T rd true K lk by rw [hX.out]; exact ((eight_new w true W F T rd true K lk 26).alloc _).alloc _)
  have S0 := Lib.hid (show Eight X (w.heap.size + 1) true W G U re we K ke by rw [hX.out]; have := (eight_new (w.alloc (.cells #[.bool true, .int .i64 W, .int .u32 F, .int .u32 T, .bool rd, .bool true, .int .i64 K, .bool lk] 26)) true W G U re we K ke 26).alloc (.cells #[.int .i64 W2, .bool true, .int .u32 A, .int .i64 S, .int .u32 D] 28); simpa using this)
  have R0 := Lib.hid (show Five X (w.heap.size + 2) W2 true A S D by rw [hX.out]; have := five_new ((w.alloc (.cells #[.bool true, .int .i64 W, .int .u32 F, .int .u32 T, .bool rd, .bool true, .int .i64 K, .bool lk] 26)).alloc (.cells #[.bool true, .int .i64 W, .int .u32 G, .int .u32 U, .bool re, .bool we, .int .i64 K, .bool ke] 26)) W2 true A S D 28; simpa using this)
  clear hX
  refine (awake_any _).mono ?_
  rintro e w1 ⟨rfl, hb⟩
  have P1 := Lib.hid (P0.out.keep hb)
  have S1 := Lib.hid (S0.out.keep hb)
  have R1 := Lib.hid (R0.out.keep hb)
  have B1 := Lib.hid (B0.out.trans (hb.mono B0.out.size))
  clear hb P0 S0 R0 B0
  obtain ⟨k0, k1, k2, k3, k4, k5, k6, k7⟩ := P1.out
  obtain ⟨s0, s1, s2, s3, s4, s5, s6, s7⟩ := S1.out
  obtain ⟨m0, m1, m2, m3, m4⟩ := R1.out
  go_wp2_with fail
  refine (qa _).mono ?_
  rintro e w2 ⟨rfl, hb⟩
  clear k0 k1 k2 k3 k4 k5 k6 k7
  clear s0 s1 s2 s3 s4 s5 s6 s7
  clear m0 m1 m2 m3 m4
  have P2 := Lib.hid (P1.out.keep hb)
  have S2 := Lib.hid (S1.out.keep hb)
  have R2 := Lib.hid (R1.out.keep hb)
  have B2 := Lib.hid (B1.out.trans (hb.mono B1.out.size))
  clear hb P1 S1 R1 B1
  obtain ⟨k0, k1, k2, k3, k4, k5, k6, k7⟩ := P2.out
  obtain ⟨s0, s1, s2, s3, s4, s5, s6, s7⟩ := S2.out
  obtain ⟨m0, m1, m2, m3, m4⟩ := R2.out
  go_wp2_with fail
  refine (qb _).mono ?_
  rintro e w3 ⟨rfl, hb⟩
  clear k0 k1 k2 k3 k4 k5 k6 k7
  clear s0 s1 s2 s3 s4 s5 s6 s7
  clear m0 m1 m2 m3 m4
  have P3 := Lib.hid (P2.out.keep hb)
  have S3 := Lib.hid (S2.out.keep hb)
  have R3 := Lib.hid (R2.out.keep hb)
  have B3 := Lib.hid (B2.out.trans (hb.mono B2.out.size))
  clear hb P2 S2 R2 B2
  obtain ⟨k0, k1, k2, k3, k4, k5, k6, k7⟩ := P3.out
  obtain ⟨s0, s1, s2, s3, s4, s5, s6, s7⟩ := S3.out
  obtain ⟨m0, m1, m2, m3, m4⟩ := R3.out
  go_wp2_with fail
  refine (qb _).mono ?_
  rintro e w4 ⟨rfl, hb⟩
  clear k0 k1 k2 k3 k4 k5 k6 k7
  clear s0 s1 s2 s3 s4 s5 s6 s7
  clear m0 m1 m2 m3 m4
  have P4 := Lib.hid (P3.out.keep hb)
  have S4 := Lib.hid (S3.out.keep hb)
  have R4 := Lib.hid (R3.out.keep hb)
  have B4 := Lib.hid (B3.out.trans (hb.mono B3.out.size))
  clear hb P3 S3 R3 B3
  obtain ⟨k0, k1, k2, k3, k4, k5, k6, k7⟩ := P4.out
  obtain ⟨s0, s1, s2, s3, s4, s5, s6, s7⟩ := S4.out
  obtain ⟨m0, m1, m2, m3, m4⟩ := R4.out
  go_wp2_with fail
  refine (qs _).mono ?_
  rintro e w5 ⟨rfl, hb⟩
  clear k0 k1 k2 k3 k4 k5 k6 k7
  clear s0 s1 s2 s3 s4 s5 s6 s7
  clear m0 m1 m2 m3 m4
  have P5 := Lib.hid (P4.out.keep hb)
  have S5 := Lib.hid (S4.out.keep hb)
  have R5 := Lib.hid (R4.out.keep hb)
  have B5 := Lib.hid (B4.out.trans (hb.mono B4.out.size))
  clear hb P4 S4 R4 B4
  obtain ⟨k0, k1, k2, k3, k4, k5, k6, k7⟩ := P5.out
  obtain ⟨s0, s1, s2, s3, s4, s5, s6, s7⟩ := S5.out
  obtain ⟨m0, m1, m2, m3, m4⟩ := R5.out
  go_wp2_with fail
  refine (qi _).mono ?_
  rintro e w6 ⟨rfl, hb⟩
  clear k0 k1 k2 k3 k4 k5 k6 k7
  clear s0 s1 s2 s3 s4 s5 s6 s7
  clear m0 m1 m2 m3 m4
  have P6 := Lib.hid (P5.out.keep hb)
  have S6 := Lib.hid (S5.out.keep hb)
  have R6 := Lib.hid (R5.out.keep hb)
  have B6 := Lib.hid (B5.out.trans (hb.mono B5.out.size))
  clear hb P5 S5 R5 B5
  obtain ⟨k0, k1, k2, k3, k4, k5, k6, k7⟩ := P6.out
  obtain ⟨s0, s1, s2, s3, s4, s5, s6, s7⟩ := S6.out
  obtain ⟨m0, m1, m2, m3, m4⟩ := R6.out
  obtain ⟨u0, u1, u2, u3, u4, u5, u6, u7⟩ := P6.out.alloc (.cells #[.bool true, .int .i64 W, .int .u32 F, .int .u32 T, .bool false, .bool false, .int .i64 K, .bool lk] 26)
  obtain ⟨v0, v1, v2, v3, v4⟩ := (R6.out.alloc (.cells #[.bool true, .int .i64 W, .int .u32 F, .int .u32 T, .bool false, .bool false, .int .i64 K, .bool lk] 26)).alloc (.cells #[.bool true, .int .i64 W, .int .u32 F, .int .u32 T, .bool true, .bool true, .int .i64 K, .bool lk] 26)
  go_wp2_with fail
  refine calls_letter ?_
  intro Z hZ
  clear u0 u1 u2 u3 u4 u5 u6 u7 v0 v1 v2 v3 v4
  clear k0 k1 k2 k3 k4 k5 k6 k7
  clear s0 s1 s2 s3 s4 s5 s6 s7
  clear m0 m1 m2 m3 m4
  have hz : Below w6.heap.size w6 Z := by rw [hZ.out]; repeat (first | exact Below.refl _ _ | refine Below.setCell ?_ (by simp) _ | refine Below.alloc ?_ (by simp) _)
  have P7 := Lib.hid (P6.out.keep hz)
  have S7 := Lib.hid (S6.out.keep hz)
  have R7 := Lib.hid (R6.out.keep hz)
  have O7 := Lib.hid (show Eight Z (w6.heap.size + 1) true W F T true true K lk by rw [hZ.out]; constructor <;> simp [go_sem])
  have B7 := Lib.hid (B6.out.trans (hz.mono B6.out.size))
  clear hz hZ P6 S6 R6 B6
  obtain ⟨g, hg⟩ : ∃ g, w6.heap.size = g := ⟨_, rfl⟩
  rw [hg] at O7
  rw [hg]
  clear hg
  refine (qt _).mono ?_
  rintro e w8 ⟨rfl, hb⟩
  have P8 := Lib.hid (P7.out.keep hb)
  have S8 := Lib.hid (S7.out.keep hb)
  have R8 := Lib.hid (R7.out.keep hb)
  have O8 := Lib.hid (O7.out.keep hb)
  have B8 := Lib.hid (B7.out.trans (hb.mono B7.out.size))
  clear hb P7 S7 R7 O7 B7
  obtain ⟨k0, k1, k2, k3, k4, k5, k6, k7⟩ := P8.out
  obtain ⟨s0, s1, s2, s3, s4, s5, s6, s7⟩ := S8.out
  obtain ⟨m0, m1, m2, m3, m4⟩ := R8.out
  obtain ⟨n0, n1, n2, n3, n4, n5, n6, n7⟩ := O8.out
  go_wp2_with fail
  refine (qb _).mono ?_
  rintro e w9 ⟨rfl, hb⟩
  clear k0 k1 k2 k3 k4 k5 k6 k7
  clear s0 s1 s2 s3 s4 s5 s6 s7
  clear m0 m1 m2 m3 m4
  clear n0 n1 n2 n3 n4 n5 n6 n7
  have P9 := Lib.hid (P8.out.keep hb)
  have S9 := Lib.hid (S8.out.keep hb)
  have R9 := Lib.hid (R8.out.keep hb)
  have O9 := Lib.hid (O8.out.keep hb)
  have B9 := Lib.hid (B8.out.trans (hb.mono B8.out.size))
  clear hb P8 S8 R8 O8 B8
  obtain ⟨k0, k1, k2, k3, k4, k5, k6, k7⟩ := P9.out
  obtain ⟨s0, s1, s2, s3, s4, s5, s6, s7⟩ := S9.out
  obtain ⟨m0, m1, m2, m3, m4⟩ := R9.out
  obtain ⟨n0, n1, n2, n3, n4, n5, n6, n7⟩ := O9.out
  go_wp2_with fail
  refine (qo _).mono ?_
  rintro e w10 ⟨rfl, hb⟩
  clear k0 k1 k2 k3 k4 k5 k6 k7
  clear s0 s1 s2 s3 s4 s5 s6 s7
  clear m0 m1 m2 m3 m4
  clear n0 n1 n2 n3 n4 n5 n6 n7
  have P10 := Lib.hid (P9.out.keep hb)
  have S10 := Lib.hid (S9.out.keep hb)
  have R10 := Lib.hid (R9.out.keep hb)
  have O10 := Lib.hid (O9.out.keep hb)
  have B10 := Lib.hid (B9.out.trans (hb.mono B9.out.size))
  clear hb P9 S9 R9 O9 B9
  obtain ⟨k0, k1, k2, k3, k4, k5, k6, k7⟩ := P10.out
  obtain ⟨s0, s1, s2, s3, s4, s5, s6, s7⟩ := S10.out
  obtain ⟨m0, m1, m2, m3, m4⟩ := R10.out
  obtain ⟨n0, n1, n2, n3, n4, n5, n6, n7⟩ := O10.out
  go_wp2_with fail
  refine (qr _).mono ?_
  rintro e w11 ⟨rfl, hb⟩
  clear k0 k1 k2 k3 k4 k5 k6 k7
  clear s0 s1 s2 s3 s4 s5 s6 s7
  clear m0 m1 m2 m3 m4
  clear n0 n1 n2 n3 n4 n5 n6 n7
  have P11 := Lib.hid (P10.out.keep hb)
  have S11 := Lib.hid (S10.out.keep hb)
  have R11 := Lib.hid (R10.out.keep hb)
  have O11 := Lib.hid (O10.out.keep hb)
  have B11 := Lib.hid (B10.out.trans (hb.mono B10.out.size))
  clear hb P10 S10 R10 O10 B10
  obtain ⟨k0, k1, k2, k3, k4, k5, k6, k7⟩ := P11.out
  obtain ⟨s0, s1, s2, s3, s4, s5, s6, s7⟩ := S11.out
  obtain ⟨m0, m1, m2, m3, m4⟩ := R11.out
  obtain ⟨n0, n1, n2, n3, n4, n5, n6, n7⟩ := O11.out
  go_wp2_with fail
  refine (qs _).mono ?_
  rintro e w12 ⟨rfl, hb⟩
  clear k0 k1 k2 k3 k4 k5 k6 k7
  clear s0 s1 s2 s3 s4 s5 s6 s7
  clear m0 m1 m2 m3 m4
  clear n0 n1 n2 n3 n4 n5 n6 n7
  have P12 := Lib.hid (P11.out.keep hb)
  have S12 := Lib.hid (S11.out.keep hb)
  have R12 := Lib.hid (R11.out.keep hb)
  have O12 := Lib.hid (O11.out.keep hb)
  have B12 := Lib.hid (B11.out.trans (hb.mono B11.out.size))
  clear hb P11 S11 R11 O11 B11
  obtain ⟨k0, k1, k2, k3, k4, k5, k6, k7⟩ := P12.out
  obtain ⟨s0, s1, s2, s3, s4, s5, s6, s7⟩ := S12.out
  obtain ⟨m0, m1, m2, m3, m4⟩ := R12.out
  obtain ⟨n0, n1, n2, n3, n4, n5, n6, n7⟩ := O12.out
  go_wp2_with fail
  refine (qx _).mono ?_
  rintro e w13 ⟨rfl, hb⟩
  clear k0 k1 k2 k3 k4 k5 k6 k7
  clear s0 s1 s2 s3 s4 s5 s6 s7
  clear m0 m1 m2 m3 m4
  clear n0 n1 n2 n3 n4 n5 n6 n7
  have P13 := Lib.hid (P12.out.keep hb)
  have S13 := Lib.hid (S12.out.keep hb)
  have R13 := Lib.hid (R12.out.keep hb)
  have O13 := Lib.hid (O12.out.keep hb)
  have B13 := Lib.hid (B12.out.trans (hb.mono B12.out.size))
  clear hb P12 S12 R12 O12 B12
  obtain ⟨k0, k1, k2, k3, k4, k5, k6, k7⟩ := P13.out
  obtain ⟨s0, s1, s2, s3, s4, s5, s6, s7⟩ := S13.out
  obtain ⟨m0, m1, m2, m3, m4⟩ := R13.out
  obtain ⟨n0, n1, n2, n3, n4, n5, n6, n7⟩ := O13.out
  go_wp2_with fail
  refine (qy _).mono ?_
  rintro e w14 ⟨rfl, hb⟩
  clear k0 k1 k2 k3 k4 k5 k6 k7
  clear s0 s1 s2 s3 s4 s5 s6 s7
  clear m0 m1 m2 m3 m4
  clear n0 n1 n2 n3 n4 n5 n6 n7
  have P14 := Lib.hid (P13.out.keep hb)
  have S14 := Lib.hid (S13.out.keep hb)
  have R14 := Lib.hid (R13.out.keep hb)
  have O14 := Lib.hid (O13.out.keep hb)
  have B14 := Lib.hid (B13.out.trans (hb.mono B13.out.size))
  clear hb P13 S13 R13 O13 B13
  obtain ⟨k0, k1, k2, k3, k4, k5, k6, k7⟩ := P14.out
  obtain ⟨s0, s1, s2, s3, s4, s5, s6, s7⟩ := S14.out
  obtain ⟨m0, m1, m2, m3, m4⟩ := R14.out
  obtain ⟨n0, n1, n2, n3, n4, n5, n6, n7⟩ := O14.out
  go_wp2_with fail
  refine (qx _).mono ?_
  rintro e w15 ⟨rfl, hb⟩
  clear k0 k1 k2 k3 k4 k5 k6 k7
  clear s0 s1 s2 s3 s4 s5 s6 s7
  clear m0 m1 m2 m3 m4
  clear n0 n1 n2 n3 n4 n5 n6 n7
  have P15 := Lib.hid (P14.out.keep hb)
  have S15 := Lib.hid (S14.out.keep hb)
  have R15 := Lib.hid (R14.out.keep hb)
  have O15 := Lib.hid (O14.out.keep hb)
  have B15 := Lib.hid (B14.out.trans (hb.mono B14.out.size))
  clear hb P14 S14 R14 O14 B14
  obtain ⟨k0, k1, k2, k3, k4, k5, k6, k7⟩ := P15.out
  obtain ⟨s0, s1, s2, s3, s4, s5, s6, s7⟩ := S15.out
  obtain ⟨m0, m1, m2, m3, m4⟩ := R15.out
  obtain ⟨n0, n1, n2, n3, n4, n5, n6, n7⟩ := O15.out
  go_wp2_with fail
  go_ret
  exact ⟨rfl, B15.out⟩

set_option maxRecDepth 100000 in
set_option maxHeartbeats 1000000 in
theorem le_4y1e (W : Int) (F : Int) (T : Int) (rd : Bool) (K : Int) (lk : Bool) (G : Int) (U : Int) (re : Bool) (we : Bool) (ke : Bool) (W2 : Int) (A : Int) (S : Int) (D : Int) (w : World)
    (qa : ∀ w, Calls Try.prog 15 #[reg true W F T rd true K lk, acc W2 true A S D] w fun e w' => e = .returned (.bool true) ∧ Below w.heap.size w w')
    (qb : ∀ w, Calls Try.prog 14 #[reg true W F T rd true K lk, acc W2 true A S D] w fun e w' => e = .returned (.bool true) ∧ Below w.heap.size w w')
    (qs : ∀ w, Calls Try.prog 12 #[reg true W G U re we K ke] w fun e w' => e = .returned (.bool true) ∧ Below w.heap.size w w')
    (qi : ∀ w, Calls Try.prog 16 #[.agg #[.int .u32 F, .int .u32 T], .agg #[.int .u32 G, .int .u32 U]] w fun e w' => e = .returned (.bool true) ∧ Below w.heap.size w w')
    (qh : ∀ w, Calls Try.prog 14 #[reg true W G U re we K ke, acc W2 true A S D] w fun e w' => e = .returned (.bool true) ∧ Below w.heap.size w w')
    (qt : ∀ w, Calls Try.prog 15 #[reg true W F T false false K lk, acc W2 true A S D] w fun e w' => e = .returned (.bool false) ∧ Below w.heap.size w w')
    (qo : ∀ w, Calls Try.prog 15 #[reg true W F T true true K lk, acc W2 true A S D] w fun e w' => e = .returned (.bool true) ∧ Below w.heap.size w w')
    (qr : ∀ w, Calls Try.prog 12 #[reg true W F T rd true K lk] w fun e w' => e = .returned (.bool true) ∧ Below w.heap.size w w')
    (qx : ∀ w, Calls Try.prog 17 #[reg true W F T rd true K lk, reg true W G U re we K ke] w fun e w' => e = .returned (.bool false) ∧ Below w.heap.size w w')
    (qy : ∀ w, Calls Try.prog 17 #[reg true W G U re we K ke, reg true W F T rd true K lk] w fun e w' => e = .returned (.bool false) ∧ Below w.heap.size w w') :
    Calls Try.prog 6 #[reg true W F T rd true K lk, reg true W G U re we K ke, acc W2 true A S D] w fun e w' => e = .returned (.bool true) ∧ Below w.heap.size w w' := by
  go_enter Try.func6, Try.ntmps6
  go_wp2_with fail
  refine calls_letter ?_
  intro X hX
  have B0 := Lib.hid (show Below w.heap.size w X by rw [hX.out]; exact (((Below.refl _ _).alloc (Nat.le_refl _) _).alloc (by simp) _).alloc (by simp; omega) _)
  have P0 := Lib.hid (show Eight X w.heap.size true W F T rd true K lk by rw [hX.out]; exact ((eight_new w true W F T rd true K lk 26).alloc _).alloc _)
  have S0 := Lib.hid (show Eight X (w.heap.size + 1) true W G U re we K ke by rw [hX.out]; have := (eight_new (w.alloc (.cells #[.bool true, .int .i64 W, .int .u32 F, .int .u32 T, .bool rd, .bool true, .int .i64 K, .bool lk] 26)) true W G U re we K ke 26).alloc (.cells #[.int .i64 W2, .bool true, .int .u32 A, .int .i64 S, .int .u32 D] 28); simpa using this)
  have R0 := Lib.hid (show Five X (w.heap.size + 2) W2 true A S D by rw [hX.out]; have := five_new ((w.alloc (.cells #[.bool true, .int .i64 W, .int .u32 F, .int .u32 T, .bool rd, .bool true, .int .i64 K, .bool lk] 26)).alloc (.cells #[.bool true, .int .i64 W, .int .u32 G, .int .u32 U, .bool re, .bool we, .int .i64 K, .bool ke] 26)) W2 true A S D 28; simpa using this)
  clear hX
  refine (awake_any _).mono ?_
  rintro e w1 ⟨rfl, hb⟩
  have P1 := Lib.hid (P0.out.keep hb)
  have S1 := Lib.hid (S0.out.keep hb)
  have R1 := Lib.hid (R0.out.keep hb)
  have B1 := Lib.hid (B0.out.trans (hb.mono B0.out.size))
  clear hb P0 S0 R0 B0
  obtain ⟨k0, k1, k2, k3, k4, k5, k6, k7⟩ := P1.out
  obtain ⟨s0, s1, s2, s3, s4, s5, s6, s7⟩ := S1.out
  obtain ⟨m0, m1, m2, m3, m4⟩ := R1.out
  go_wp2_with fail
  refine (qa _).mono ?_
  rintro e w2 ⟨rfl, hb⟩
  clear k0 k1 k2 k3 k4 k5 k6 k7
  clear s0 s1 s2 s3 s4 s5 s6 s7
  clear m0 m1 m2 m3 m4
  have P2 := Lib.hid (P1.out.keep hb)
  have S2 := Lib.hid (S1.out.keep hb)
  have R2 := Lib.hid (R1.out.keep hb)
  have B2 := Lib.hid (B1.out.trans (hb.mono B1.out.size))
  clear hb P1 S1 R1 B1
  obtain ⟨k0, k1, k2, k3, k4, k5, k6, k7⟩ := P2.out
  obtain ⟨s0, s1, s2, s3, s4, s5, s6, s7⟩ := S2.out
  obtain ⟨m0, m1, m2, m3, m4⟩ := R2.out
  go_wp2_with fail
  refine (qb _).mono ?_
  rintro e w3 ⟨rfl, hb⟩
  clear k0 k1 k2 k3 k4 k5 k6 k7
  clear s0 s1 s2 s3 s4 s5 s6 s7
  clear m0 m1 m2 m3 m4
  have P3 := Lib.hid (P2.out.keep hb)
  have S3 := Lib.hid (S2.out.keep hb)
  have R3 := Lib.hid (R2.out.keep hb)
  have B3 := Lib.hid (B2.out.trans (hb.mono B2.out.size))
  clear hb P2 S2 R2 B2
  obtain ⟨k0, k1, k2, k3, k4, k5, k6, k7⟩ := P3.out
  obtain ⟨s0, s1, s2, s3, s4, s5, s6, s7⟩ := S3.out
  obtain ⟨m0, m1, m2, m3, m4⟩ := R3.out
  go_wp2_with fail
  refine (qb _).mono ?_
  rintro e w4 ⟨rfl, hb⟩
  clear k0 k1 k2 k3 k4 k5 k6 k7
  clear s0 s1 s2 s3 s4 s5 s6 s7
  clear m0 m1 m2 m3 m4
  have P4 := Lib.hid (P3.out.keep hb)
  have S4 := Lib.hid (S3.out.keep hb)
  have R4 := Lib.hid (R3.out.keep hb)
  have B4 := Lib.hid (B3.out.trans (hb.mono B3.out.size))
  clear hb P3 S3 R3 B3
  obtain ⟨k0, k1, k2, k3, k4, k5, k6, k7⟩ := P4.out
  obtain ⟨s0, s1, s2, s3, s4, s5, s6, s7⟩ := S4.out
  obtain ⟨m0, m1, m2, m3, m4⟩ := R4.out
  go_wp2_with fail
  refine (qs _).mono ?_
  rintro e w5 ⟨rfl, hb⟩
  clear k0 k1 k2 k3 k4 k5 k6 k7
  clear s0 s1 s2 s3 s4 s5 s6 s7
  clear m0 m1 m2 m3 m4
  have P5 := Lib.hid (P4.out.keep hb)
  have S5 := Lib.hid (S4.out.keep hb)
  have R5 := Lib.hid (R4.out.keep hb)
  have B5 := Lib.hid (B4.out.trans (hb.mono B4.out.size))
  clear hb P4 S4 R4 B4
  obtain ⟨k0, k1, k2, k3, k4, k5, k6, k7⟩ := P5.out
  obtain ⟨s0, s1, s2, s3, s4, s5, s6, s7⟩ := S5.out
  obtain ⟨m0, m1, m2, m3, m4⟩ := R5.out
  go_wp2_with fail
  refine (qi _).mono ?_
  rintro e w6 ⟨rfl, hb⟩
  clear k0 k1 k2 k3 k4 k5 k6 k7
  clear s0 s1 s2 s3 s4 s5 s6 s7
  clear m0 m1 m2 m3 m4
  have P6 := Lib.hid (P5.out.keep hb)
  have S6 := Lib.hid (S5.out.keep hb)
  have R6 := Lib.hid (R5.out.keep hb)
  have B6 := Lib.hid (B5.out.trans (hb.mono B5.out.size))
  clear hb P5 S5 R5 B5
  obtain ⟨k0, k1, k2, k3, k4, k5, k6, k7⟩ := P6.out
  obtain ⟨s0, s1, s2, s3, s4, s5, s6, s7⟩ := S6.out
  obtain ⟨m0, m1, m2, m3, m4⟩ := R6.out
  go_wp2_with fail
  refine (qh _).mono ?_
  rintro e w7 ⟨rfl, hb⟩
  clear k0 k1 k2 k3 k4 k5 k6 k7
  clear s0 s1 s2 s3 s4 s5 s6 s7
  clear m0 m1 m2 m3 m4
  have P7 := Lib.hid (P6.out.keep hb)
  have S7 := Lib.hid (S6.out.keep hb)
  have R7 := Lib.hid (R6.out.keep hb)
  have B7 := Lib.hid (B6.out.trans (hb.mono B6.out.size))
  clear hb P6 S6 R6 B6
  obtain ⟨k0, k1, k2, k3, k4, k5, k6, k7⟩ := P7.out
  obtain ⟨s0, s1, s2, s3, s4, s5, s6, s7⟩ := S7.out
  obtain ⟨m0, m1, m2, m3, m4⟩ := R7.out
  obtain ⟨u0, u1, u2, u3, u4, u5, u6, u7⟩ := P7.out.alloc (.cells #[.bool true, .int .i64 W, .int .u32 F, .int .u32 T, .bool false, .bool false, .int .i64 K, .bool lk] 26)
  obtain ⟨v0, v1, v2, v3, v4⟩ := (R7.out.alloc (.cells #[.bool true, .int .i64 W, .int .u32 F, .int .u32 T, .bool false, .bool false, .int .i64 K, .bool lk] 26)).alloc (.cells #[.bool true, .int .i64 W, .int .u32 F, .int .u32 T, .bool true, .bool true, .int .i64 K, .bool lk] 26)
  go_wp2_with fail
  refine calls_letter ?_
  intro Z hZ
  clear u0 u1 u2 u3 u4 u5 u6 u7 v0 v1 v2 v3 v4
  clear k0 k1 k2 k3 k4 k5 k6 k7
  clear s0 s1 s2 s3 s4 s5 s6 s7
  clear m0 m1 m2 m3 m4
  have hz : Below w7.heap.size w7 Z := by rw [hZ.out]; repeat (first | exact Below.refl _ _ | refine Below.setCell ?_ (by simp) _ | refine Below.alloc ?_ (by simp) _)
  have P8 := Lib.hid (P7.out.keep hz)
  have S8 := Lib.hid (S7.out.keep hz)
  have R8 := Lib.hid (R7.out.keep hz)
  have O8 := Lib.hid (show Eight Z (w7.heap.size + 1) true W F T true true K lk by rw [hZ.out]; constructor <;> simp [go_sem])
  have B8 := Lib.hid (B7.out.trans (hz.mono B7.out.size))
  clear hz hZ P7 S7 R7 B7
  obtain ⟨g, hg⟩ : ∃ g, w7.heap.size = g := ⟨_, rfl⟩
  rw [hg] at O8
  rw [hg]
  clear hg
  refine (qt _).mono ?_
  rintro e w9 ⟨rfl, hb⟩
  have P9 := Lib.hid (P8.out.keep hb)
  have S9 := Lib.hid (S8.out.keep hb)
  have R9 := Lib.hid (R8.out.keep hb)
  have O9 := Lib.hid (O8.out.keep hb)
  have B9 := Lib.hid (B8.out.trans (hb.mono B8.out.size))
  clear hb P8 S8 R8 O8 B8
  obtain ⟨k0, k1, k2, k3, k4, k5, k6, k7⟩ := P9.out
  obtain ⟨s0, s1, s2, s3, s4, s5, s6, s7⟩ := S9.out
  obtain ⟨m0, m1, m2, m3, m4⟩ := R9.out
  obtain ⟨n0, n1, n2, n3, n4, n5, n6, n7⟩ := O9.out
  go_wp2_with fail
  refine (qb _).mono ?_
  rintro e w10 ⟨rfl, hb⟩
  clear k0 k1 k2 k3 k4 k5 k6 k7
  clear s0 s1 s2 s3 s4 s5 s6 s7
  clear m0 m1 m2 m3 m4
  clear n0 n1 n2 n3 n4 n5 n6 n7
  have P10 := Lib.hid (P9.out.keep hb)
  have S10 := Lib.hid (S9.out.keep hb)
  have R10 := Lib.hid (R9.out.keep hb)
  have O10 := Lib.hid (O9.out.keep hb)
  have B10 := Lib.hid (B9.out.trans (hb.mono B9.out.size))
  clear hb P9 S9 R9 O9 B9
  obtain ⟨k0, k1, k2, k3, k4, k5, k6, k7⟩ := P10.out
  obtain ⟨s0, s1, s2, s3, s4, s5, s6, s7⟩ := S10.out
  obtain ⟨m0, m1, m2, m3, m4⟩ := R10.out
  obtain ⟨n0, n1, n2, n3, n4, n5, n6, n7⟩ := O10.out
  go_wp2_with fail
  refine (qo _).mono ?_
  rintro e w11 ⟨rfl, hb⟩
  clear k0 k1 k2 k3 k4 k5 k6 k7
  clear s0 s1 s2 s3 s4 s5 s6 s7
  clear m0 m1 m2 m3 m4
  clear n0 n1 n2 n3 n4 n5 n6 n7
  have P11 := Lib.hid (P10.out.keep hb)
  have S11 := Lib.hid (S10.out.keep hb)
  have R11 := Lib.hid (R10.out.keep hb)
  have O11 := Lib.hid (O10.out.keep hb)
  have B11 := Lib.hid (B10.out.trans (hb.mono B10.out.size))
  clear hb P10 S10 R10 O10 B10
  obtain ⟨k0, k1, k2, k3, k4, k5, k6, k7⟩ := P11.out
  obtain ⟨s0, s1, s2, s3, s4, s5, s6, s7⟩ := S11.out
  obtain ⟨m0, m1, m2, m3, m4⟩ := R11.out
  obtain ⟨n0, n1, n2, n3, n4, n5, n6, n7⟩ := O11.out
  go_wp2_with fail
  refine (qr _).mono ?_
  rintro e w12 ⟨rfl, hb⟩
  clear k0 k1 k2 k3 k4 k5 k6 k7
  clear s0 s1 s2 s3 s4 s5 s6 s7
  clear m0 m1 m2 m3 m4
  clear n0 n1 n2 n3 n4 n5 n6 n7
  have P12 := Lib.hid (P11.out.keep hb)
  have S12 := Lib.hid (S11.out.keep hb)
  have R12 := Lib.hid (R11.out.keep hb)
  have O12 := Lib.hid (O11.out.keep hb)
  have B12 := Lib.hid (B11.out.trans (hb.mono B11.out.size))
  clear hb P11 S11 R11 O11 B11
  obtain ⟨k0, k1, k2, k3, k4, k5, k6, k7⟩ := P12.out
  obtain ⟨s0, s1, s2, s3, s4, s5, s6, s7⟩ := S12.out
  obtain ⟨m0, m1, m2, m3, m4⟩ := R12.out
  obtain ⟨n0, n1, n2, n3, n4, n5, n6, n7⟩ := O12.out
  go_wp2_with fail
  refine (qs _).mono ?_
  rintro e w13 ⟨rfl, hb⟩
  clear k0 k1 k2 k3 k4 k5 k6 k7
  clear s0 s1 s2 s3 s4 s5 s6 s7
  clear m0 m1 m2 m3 m4
  clear n0 n1 n2 n3 n4 n5 n6 n7
  have P13 := Lib.hid (P12.out.keep hb)
  have S13 := Lib.hid (S12.out.keep hb)
  have R13 := Lib.hid (R12.out.keep hb)
  have O13 := Lib.hid (O12.out.keep hb)
  have B13 := Lib.hid (B12.out.trans (hb.mono B12.out.size))
  clear hb P12 S12 R12 O12 B12
  obtain ⟨k0, k1, k2, k3, k4, k5, k6, k7⟩ := P13.out
  obtain ⟨s0, s1, s2, s3, s4, s5, s6, s7⟩ := S13.out
  obtain ⟨m0, m1, m2, m3, m4⟩ := R13.out
  obtain ⟨n0, n1, n2, n3, n4, n5, n6, n7⟩ := O13.out
  go_wp2_with fail
  refine (qx _).mono ?_
  rintro e w14 ⟨rfl, hb⟩
  clear k0 k1 k2 k3 k4 k5 k6 k7
  clear s0 s1 s2 s3 s4 s5 s6 s7
  clear m0 m1 m2 m3 m4
  clear n0 n1 n2 n3 n4 n5 n6 n7
  have P14 := Lib.hid (P13.out.keep hb)
  have S14 := Lib.hid (S13.out.keep hb)
  have R14 := Lib.hid (R13.out.keep hb)
  have O14 := Lib.hid (O13.out.keep hb)
  have B14 := Lib.hid (B13.out.trans (hb.mono B13.out.size))
  clear hb P13 S13 R13 O13 B13
  obtain ⟨k0, k1, k2, k3, k4, k5, k6, k7⟩ := P14.out
  obtain ⟨s0, s1, s2, s3, s4, s5, s6, s7⟩ := S14.out
  obtain ⟨m0, m1, m2, m3, m4⟩ := R14.out
  obtain ⟨n0, n1, n2, n3, n4, n5, n6, n7⟩ := O14.out
  go_wp2_with fail
  refine (qy _).mono ?_
  rintro e w15 ⟨rfl, hb⟩
  clear k0 k1 k2 k3 k4 k5 k6 k7
  clear s0 s1 s2 s3 s4 s5 s6 s7
  clear m0 m1 m2 m3 m4
  clear n0 n1 n2 n3 n4 n5 n6 n7
  have P15 := Lib.hid (P14.out.keep hb)
  have S15 := Lib.hid (S14.out.keep hb)
  have R15 := Lib.hid (R14.out.keep hb)
  have O15 := Lib.hid (O14.out.keep hb)
  have B15 := Lib.hid (B14.out.trans (hb.mono B14.out.size))
  clear hb P14 S14 R14 O14 B14
  obtain ⟨k0, k1, k2, k3, k4, k5, k6, k7⟩ := P15.out
  obtain ⟨s0, s1, s2, s3, s4, s5, s6, s7⟩ := S15.out
  obtain ⟨m0, m1, m2, m3, m4⟩ := R15.out
  obtain ⟨n0, n1, n2, n3, n4, n5, n6, n7⟩ := O15.out
  go_wp2_with fail
  refine (qx _).mono ?_
  rintro e w16 ⟨rfl, hb⟩
  clear k0 k1 k2 k3 k4 k5 k6 k7
  clear s0 s1 s2 s3 s4 s5 s6 s7
  clear m0 m1 m2 m3 m4
  clear n0 n1 n2 n3 n4 n5 n6 n7
  have P16 := Lib.hid (P15.out.keep hb)
  have S16 := Lib.hid (S15.out.keep hb)
  have R16 := Lib.hid (R15.out.keep hb)
  have O16 := Lib.hid (O15.out.keep hb)
  have B16 := Lib.hid (B15.out.trans (hb.mono B15.out.size))
  clear hb P15 S15 R15 O15 B15
  obtain ⟨k0, k1, k2, k3, k4, k5, k6, k7⟩ := P16.out
  obtain ⟨s0, s1, s2, s3, s4, s5, s6, s7⟩ := S16.out
  obtain ⟨m0, m1, m2, m3, m4⟩ := R16.out
  obtain ⟨n0, n1, n2, n3, n4, n5, n6, n7⟩ := O16.out
  go_wp2_with fail
  go_ret
  exact ⟨rfl, B16.out⟩

set_option maxRecDepth 100000 in
set_option maxHeartbeats 1000000 in
theorem le_4w2e (W : Int) (F : Int) (T : Int) (wr : Bool) (K : Int) (lk : Bool) (V : Int) (G : Int) (U : Int) (re : Bool) (we : Bool) (ke : Bool) (W2 : Int) (A : Int) (S : Int) (D : Int) (h : ¬ V = W) (w : World)
    (qa : ∀ w, Calls Try.prog 15 #[reg true W F T true wr K lk, acc W2 false A S D] w fun e w' => e = .returned (.bool true) ∧ Below w.heap.size w w')
    (qb : ∀ w, Calls Try.prog 14 #[reg true W F T true wr K lk, acc W2 false A S D] w fun e w' => e = .returned (.bool true) ∧ Below w.heap.size w w')
    (qs : ∀ w, Calls Try.prog 12 #[reg true V G U re we K ke] w fun e w' => e = .returned (.bool true) ∧ Below w.heap.size w w')
    (qt : ∀ w, Calls Try.prog 15 #[reg true W F T false false K lk, acc W2 false A S D] w fun e w' => e = .returned (.bool false) ∧ Below w.heap.size w w')
    (qo : ∀ w, Calls Try.prog 15 #[reg true W F T true true K lk, acc W2 false A S D] w fun e w' => e = .returned (.bool true) ∧ Below w.heap.size w w')
    (qr : ∀ w, Calls Try.prog 12 #[reg true W F T true wr K lk] w fun e w' => e = .returned (.bool true) ∧ Below w.heap.size w w')
    (qx : ∀ w, Calls Try.prog 17 #[reg true W F T true wr K lk, reg true V G U re we K ke] w fun e w' => e = .returned (.bool false) ∧ Below w.heap.size w w')
    (qy : ∀ w, Calls Try.prog 17 #[reg true V G U re we K ke, reg true W F T true wr K lk] w fun e w' => e = .returned (.bool false) ∧ Below w.heap.size w w') :
    Calls Try.prog 6 #[reg true W F T true wr K lk, reg true V G U re we K ke, acc W2 false A S D] w fun e w' => e = .returned (.bool true) ∧ Below w.heap.size w w' := by
  have dv : (V == W) = false := by simpa using h
  go_enter Try.func6, Try.ntmps6
  go_wp2_with fail
  refine calls_letter ?_
  intro X hX
  have B0 := Lib.hid (show Below w.heap.size w X by rw [hX.out]; exact (((Below.refl _ _).alloc (Nat.le_refl _) _).alloc (by simp) _).alloc (by simp; omega) _)
  have P0 := Lib.hid (show Eight X w.heap.size true W F T true wr K lk by rw [hX.out]; exact ((eight_new w true W F T true wr K lk 26).alloc _).alloc _)
  have S0 := Lib.hid (show Eight X (w.heap.size + 1) true V G U re we K ke by rw [hX.out]; have := (eight_new (w.alloc (.cells #[.bool true, .int .i64 W, .int .u32 F, .int .u32 T, .bool true, .bool wr, .int .i64 K, .bool lk] 26)) true V G U re we K ke 26).alloc (.cells #[.int .i64 W2, .bool false, .int .u32 A, .int .i64 S, .int .u32 D] 28); simpa using this)
  have R0 := Lib.hid (show Five X (w.heap.size + 2) W2 false A S D by rw [hX.out]; have := five_new ((w.alloc (.cells #[.bool true, .int .i64 W, .int .u32 F, .int .u32 T, .bool true, .bool wr, .int .i64 K, .bool lk] 26)).alloc (.cells #[.bool true, .int .i64 V, .int .u32 G, .int .u32 U, .bool re, .bool we, .int .i64 K, .bool ke] 26)) W2 false A S D 28; simpa using this)
  clear hX
  refine (awake_any _).mono ?_
  rintro e w1 ⟨rfl, hb⟩
  have P1 := Lib.hid (P0.out.keep hb)
  have S1 := Lib.hid (S0.out.keep hb)
  have R1 := Lib.hid (R0.out.keep hb)
  have B1 := Lib.hid (B0.out.trans (hb.mono B0.out.size))
  clear hb P0 S0 R0 B0
  obtain ⟨k0, k1, k2, k3, k4, k5, k6, k7⟩ := P1.out
  obtain ⟨s0, s1, s2, s3, s4, s5, s6, s7⟩ := S1.out
  obtain ⟨m0, m1, m2, m3, m4⟩ := R1.out
  go_wp2_with fail
  refine (qa _).mono ?_
  rintro e w2 ⟨rfl, hb⟩
  clear k0 k1 k2 k3 k4 k5 k6 k7
  clear s0 s1 s2 s3 s4 s5 s6 s7
  clear m0 m1 m2 m3 m4
  have P2 := Lib.hid (P1.out.keep hb)
  have S2 := Lib.hid (S1.out.keep hb)
  have R2 := Lib.hid (R1.out.keep hb)
  have B2 := Lib.hid (B1.out.trans (hb.mono B1.out.size))
  clear hb P1 S1 R1 B1
  obtain ⟨k0, k1, k2, k3, k4, k5, k6, k7⟩ := P2.out
  obtain ⟨s0, s1, s2, s3, s4, s5, s6, s7⟩ := S2.out
  obtain ⟨m0, m1, m2, m3, m4⟩ := R2.out
  go_wp2_with fail
  refine (qb _).mono ?_
  rintro e w3 ⟨rfl, hb⟩
  clear k0 k1 k2 k3 k4 k5 k6 k7
  clear s0 s1 s2 s3 s4 s5 s6 s7
  clear m0 m1 m2 m3 m4
  have P3 := Lib.hid (P2.out.keep hb)
  have S3 := Lib.hid (S2.out.keep hb)
  have R3 := Lib.hid (R2.out.keep hb)
  have B3 := Lib.hid (B2.out.trans (hb.mono B2.out.size))
  clear hb P2 S2 R2 B2
  obtain ⟨k0, k1, k2, k3, k4, k5, k6, k7⟩ := P3.out
  obtain ⟨s0, s1, s2, s3, s4, s5, s6, s7⟩ := S3.out
  obtain ⟨m0, m1, m2, m3, m4⟩ := R3.out
  go_wp2_with fail
  refine (qb _).mono ?_
  rintro e w4 ⟨rfl, hb⟩
  clear k0 k1 k2 k3 k4 k5 k6 k7
  clear s0 s1 s2 s3 s4 s5 s6 s7
  clear m0 m1 m2 m3 m4
  have P4 := Lib.hid (P3.out.keep hb)
  have S4 := Lib.hid (S3.out.keep hb)
  have R4 := Lib.hid (R3.out.keep hb)
  have B4 := Lib.hid (B3.out.trans (hb.mono B3.out.size))
  clear hb P3 S3 R3 B3
  obtain ⟨k0, k1, k2, k3, k4, k5, k6, k7⟩ := P4.out
  obtain ⟨s0, s1, s2, s3, s4, s5, s6, s7⟩ := S4.out
  obtain ⟨m0, m1, m2, m3, m4⟩ := R4.out
  go_wp2_with fail
  refine (qs _).mono ?_
  rintro e w5 ⟨rfl, hb⟩
  clear k0 k1 k2 k3 k4 k5 k6 k7
  clear s0 s1 s2 s3 s4 s5 s6 s7
  clear m0 m1 m2 m3 m4
  have P5 := Lib.hid (P4.out.keep hb)
  have S5 := Lib.hid (S4.out.keep hb)
  have R5 := Lib.hid (R4.out.keep hb)
  have B5 := Lib.hid (B4.out.trans (hb.mono B4.out.size))
  clear hb P4 S4 R4 B4
  obtain ⟨k0, k1, k2, k3, k4, k5, k6, k7⟩ := P5.out
  obtain ⟨s0, s1, s2, s3, s4, s5, s6, s7⟩ := S5.out
  obtain ⟨m0, m1, m2, m3, m4⟩ := R5.out
  obtain ⟨u0, u1, u2, u3, u4, u5, u6, u7⟩ := P5.out.alloc (.cells #[.bool true, .int .i64 W, .int .u32 F, .int .u32 T, .bool false, .bool false, .int .i64 K, .bool lk] 26)
  obtain ⟨v0, v1, v2, v3, v4⟩ := (R5.out.alloc (.cells #[.bool true, .int .i64 W, .int .u32 F, .int .u32 T, .bool false, .bool false, .int .i64 K, .bool lk] 26)).alloc (.cells #[.bool true, .int .i64 W, .int .u32 F, .int .u32 T, .bool true, .bool true, .int .i64 K, .bool lk] 26)
  go_wp2_with fail
  refine calls_letter ?_
  intro Z hZ
  clear u0 u1 u2 u3 u4 u5 u6 u7 v0 v1 v2 v3 v4
  clear k0 k1 k2 k3 k4 k5 k6 k7
  clear s0 s1 s2 s3 s4 s5 s6 s7
  clear m0 m1 m2 m3 m4
  have hz : Below w5.heap.size w5 Z := by rw [hZ.out]; repeat (first | exact Below.refl _ _ | refine Below.setCell ?_ (by simp) _ | refine Below.alloc ?_ (by simp) _)
  have P6 := Lib.hid (P5.out.keep hz)
  have S6 := Lib.hid (S5.out.keep hz)
  have R6 := Lib.hid (R5.out.keep hz)
  have O6 := Lib.hid (show Eight Z (w5.heap.size + 1) true W F T true true K lk by rw [hZ.out]; constructor <;> simp [go_sem])
  have B6 := Lib.hid (B5.out.trans (hz.mono B5.out.size))
  clear hz hZ P5 S5 R5 B5
  obtain ⟨g, hg⟩ : ∃ g, w5.heap.size = g := ⟨_, rfl⟩
  rw [hg] at O6
  rw [hg]
  clear hg
  refine (qt _).mono ?_
  rintro e w7 ⟨rfl, hb⟩
  have P7 := Lib.hid (P6.out.keep hb)
  have S7 := Lib.hid (S6.out.keep hb)
  have R7 := Lib.hid (R6.out.keep hb)
  have O7 := Lib.hid (O6.out.keep hb)
  have B7 := Lib.hid (B6.out.trans (hb.mono B6.out.size))
  clear hb P6 S6 R6 O6 B6
  obtain ⟨k0, k1, k2, k3, k4, k5, k6, k7⟩ := P7.out
  obtain ⟨s0, s1, s2, s3, s4, s5, s6, s7⟩ := S7.out
  obtain ⟨m0, m1, m2, m3, m4⟩ := R7.out
  obtain ⟨n0, n1, n2, n3, n4, n5, n6, n7⟩ := O7.out
  go_wp2_with fail
  refine (qb _).mono ?_
  rintro e w8 ⟨rfl, hb⟩
  clear k0 k1 k2 k3 k4 k5 k6 k7
  clear s0 s1 s2 s3 s4 s5 s6 s7
  clear m0 m1 m2 m3 m4
  clear n0 n1 n2 n3 n4 n5 n6 n7
  have P8 := Lib.hid (P7.out.keep hb)
  have S8 := Lib.hid (S7.out.keep hb)
  have R8 := Lib.hid (R7.out.keep hb)
  have O8 := Lib.hid (O7.out.keep hb)
  have B8 := Lib.hid (B7.out.trans (hb.mono B7.out.size))
  clear hb P7 S7 R7 O7 B7
  obtain ⟨k0, k1, k2, k3, k4, k5, k6, k7⟩ := P8.out
  obtain ⟨s0, s1, s2, s3, s4, s5, s6, s7⟩ := S8.out
  obtain ⟨m0, m1, m2, m3, m4⟩ := R8.out
  obtain ⟨n0, n1, n2, n3, n4, n5, n6, n7⟩ := O8.out
  go_wp2_with fail
  refine (qo _).mono ?_
  rintro e w9 ⟨rfl, hb⟩
  clear k0 k1 k2 k3 k4 k5 k6 k7
  clear s0 s1 s2 s3 s4 s5 s6 s7
  clear m0 m1 m2 m3 m4
  clear n0 n1 n2 n3 n4 n5 n6 n7
  have P9 := Lib.hid (P8.out.keep hb)
  have S9 := Lib.hid (S8.out.keep hb)
  have R9 := Lib.hid (R8.out.keep hb)
  have O9 := Lib.hid (O8.out.keep hb)
  have B9 := Lib.hid (B8.out.trans (hb.mono B8.out.size))
  clear hb P8 S8 R8 O8 B8
  obtain ⟨k0, k1, k2, k3, k4, k5, k6, k7⟩ := P9.out
  obtain ⟨s0, s1, s2, s3, s4, s5, s6, s7⟩ := S9.out
  obtain ⟨m0, m1, m2, m3, m4⟩ := R9.out
  obtain ⟨n0, n1, n2, n3, n4, n5, n6, n7⟩ := O9.out
  go_wp2_with fail
  refine (qr _).mono ?_
  rintro e w10 ⟨rfl, hb⟩
  clear k0 k1 k2 k3 k4 k5 k6 k7
  clear s0 s1 s2 s3 s4 s5 s6 s7
  clear m0 m1 m2 m3 m4
  clear n0 n1 n2 n3 n4 n5 n6 n7
  have P10 := Lib.hid (P9.out.keep hb)
  have S10 := Lib.hid (S9.out.keep hb)
  have R10 := Lib.hid (R9.out.keep hb)
  have O10 := Lib.hid (O9.out.keep hb)
  have B10 := Lib.hid (B9.out.trans (hb.mono B9.out.size))
  clear hb P9 S9 R9 O9 B9
  obtain ⟨k0, k1, k2, k3, k4, k5, k6, k7⟩ := P10.out
  obtain ⟨s0, s1, s2, s3, s4, s5, s6, s7⟩ := S10.out
  obtain ⟨m0, m1, m2, m3, m4⟩ := R10.out
  obtain ⟨n0, n1, n2, n3, n4, n5, n6, n7⟩ := O10.out
  go_wp2_with fail
  refine (qs _).mono ?_
  rintro e w11 ⟨rfl, hb⟩
  clear k0 k1 k2 k3 k4 k5 k6 k7
  clear s0 s1 s2 s3 s4 s5 s6 s7
  clear m0 m1 m2 m3 m4
  clear n0 n1 n2 n3 n4 n5 n6 n7
  have P11 := Lib.hid (P10.out.keep hb)
  have S11 := Lib.hid (S10.out.keep hb)
  have R11 := Lib.hid (R10.out.keep hb)
  have O11 := Lib.hid (O10.out.keep hb)
  have B11 := Lib.hid (B10.out.trans (hb.mono B10.out.size))
  clear hb P10 S10 R10 O10 B10
  obtain ⟨k0, k1, k2, k3, k4, k5, k6, k7⟩ := P11.out
  obtain ⟨s0, s1, s2, s3, s4, s5, s6, s7⟩ := S11.out
  obtain ⟨m0, m1, m2, m3, m4⟩ := R11.out
  obtain ⟨n0, n1, n2, n3, n4, n5, n6, n7⟩ := O11.out
  go_wp2_with fail
  refine (qx _).mono ?_
  rintro e w12 ⟨rfl, hb⟩
  clear k0 k1 k2 k3 k4 k5 k6 k7
  clear s0 s1 s2 s3 s4 s5 s6 s7
  clear m0 m1 m2 m3 m4
  clear n0 n1 n2 n3 n4 n5 n6 n7
  have P12 := Lib.hid (P11.out.keep hb)
  have S12 := Lib.hid (S11.out.keep hb)
  have R12 := Lib.hid (R11.out.keep hb)
  have O12 := Lib.hid (O11.out.keep hb)
  have B12 := Lib.hid (B11.out.trans (hb.mono B11.out.size))
  clear hb P11 S11 R11 O11 B11
  obtain ⟨k0, k1, k2, k3, k4, k5, k6, k7⟩ := P12.out
  obtain ⟨s0, s1, s2, s3, s4, s5, s6, s7⟩ := S12.out
  obtain ⟨m0, m1, m2, m3, m4⟩ := R12.out
  obtain ⟨n0, n1, n2, n3, n4, n5, n6, n7⟩ := O12.out
  go_wp2_with fail
  refine (qy _).mono ?_
  rintro e w13 ⟨rfl, hb⟩
  clear k0 k1 k2 k3 k4 k5 k6 k7
  clear s0 s1 s2 s3 s4 s5 s6 s7
  clear m0 m1 m2 m3 m4
  clear n0 n1 n2 n3 n4 n5 n6 n7
  have P13 := Lib.hid (P12.out.keep hb)
  have S13 := Lib.hid (S12.out.keep hb)
  have R13 := Lib.hid (R12.out.keep hb)
  have O13 := Lib.hid (O12.out.keep hb)
  have B13 := Lib.hid (B12.out.trans (hb.mono B12.out.size))
  clear hb P12 S12 R12 O12 B12
  obtain ⟨k0, k1, k2, k3, k4, k5, k6, k7⟩ := P13.out
  obtain ⟨s0, s1, s2, s3, s4, s5, s6, s7⟩ := S13.out
  obtain ⟨m0, m1, m2, m3, m4⟩ := R13.out
  obtain ⟨n0, n1, n2, n3, n4, n5, n6, n7⟩ := O13.out
  go_wp2_with fail
  refine (qx _).mono ?_
  rintro e w14 ⟨rfl, hb⟩
  clear k0 k1 k2 k3 k4 k5 k6 k7
  clear s0 s1 s2 s3 s4 s5 s6 s7
  clear m0 m1 m2 m3 m4
  clear n0 n1 n2 n3 n4 n5 n6 n7
  have P14 := Lib.hid (P13.out.keep hb)
  have S14 := Lib.hid (S13.out.keep hb)
  have R14 := Lib.hid (R13.out.keep hb)
  have O14 := Lib.hid (O13.out.keep hb)
  have B14 := Lib.hid (B13.out.trans (hb.mono B13.out.size))
  clear hb P13 S13 R13 O13 B13
  obtain ⟨k0, k1, k2, k3, k4, k5, k6, k7⟩ := P14.out
  obtain ⟨s0, s1, s2, s3, s4, s5, s6, s7⟩ := S14.out
  obtain ⟨m0, m1, m2, m3, m4⟩ := R14.out
  obtain ⟨n0, n1, n2, n3, n4, n5, n6, n7⟩ := O14.out
  go_wp2_with fail
  go_ret
  exact ⟨rfl, B14.out⟩

set_option maxRecDepth 100000 in
set_option maxHeartbeats 1000000 in
theorem le_4i2e (W : Int) (F : Int) (T : Int) (wr : Bool) (K : Int) (lk : Bool) (G : Int) (U : Int) (re : Bool) (we : Bool) (ke : Bool) (W2 : Int) (A : Int) (S : Int) (D : Int) (w : World)
    (qa : ∀ w, Calls Try.prog 15 #[reg true W F T true wr K lk, acc W2 false A S D] w fun e w' => e = .returned (.bool true) ∧ Below w.heap.size w w')
    (qb : ∀ w, Calls Try.prog 14 #[reg true W F T true wr K lk, acc W2 false A S D] w fun e w' => e = .returned (.bool true) ∧ Below w.heap.size w w')
    (qs : ∀ w, Calls Try.prog 12 #[reg true W G U re we K ke] w fun e w' => e = .returned (.bool true) ∧ Below w.heap.size w w')
    (qi : ∀ w, Calls Try.prog 16 #[.agg #[.int .u32 F, .int .u32 T], .agg #[.int .u32 G, .int .u32 U]] w fun e w' => e = .returned (.bool false) ∧ Below w.heap.size w w')
    (qt : ∀ w, Calls Try.prog 15 #[reg true W F T false false K lk, acc W2 false A S D] w fun e w' => e = .returned (.bool false) ∧ Below w.heap.size w w')
    (qo : ∀ w, Calls Try.prog 15 #[reg true W F T true true K lk, acc W2 false A S D] w fun e w' => e = .returned (.bool true) ∧ Below w.heap.size w w')
    (qr : ∀ w, Calls Try.prog 12 #[reg true W F T true wr K lk] w fun e w' => e = .returned (.bool true) ∧ Below w.heap.size w w')
    (qx : ∀ w, Calls Try.prog 17 #[reg true W F T true wr K lk, reg true W G U re we K ke] w fun e w' => e = .returned (.bool false) ∧ Below w.heap.size w w')
    (qy : ∀ w, Calls Try.prog 17 #[reg true W G U re we K ke, reg true W F T true wr K lk] w fun e w' => e = .returned (.bool false) ∧ Below w.heap.size w w') :
    Calls Try.prog 6 #[reg true W F T true wr K lk, reg true W G U re we K ke, acc W2 false A S D] w fun e w' => e = .returned (.bool true) ∧ Below w.heap.size w w' := by
  go_enter Try.func6, Try.ntmps6
  go_wp2_with fail
  refine calls_letter ?_
  intro X hX
  have B0 := Lib.hid (show Below w.heap.size w X by rw [hX.out]; exact (((Below.refl _ _).alloc (Nat.le_refl _) _).alloc (by simp) _).alloc (by simp; omega) _)
  have P0 := Lib.hid (show Eight X w.heap.size true W F T true wr K lk by rw [hX.out]; exact ((eight_new w true W F T true wr K lk 26).alloc _).alloc _)
  have S0 := Lib.hid (show Eight X (w.heap.size + 1) true W G U re we K ke by rw [hX.out]; have := (eight_new (w.alloc (.cells #[.bool true, .int .i64 W, .int .u32 F, .int .u32 T, .bool true, .bool wr, .int .i64 K, .bool lk] 26)) true W G U re we K ke 26).alloc (.cells #[.int .i64 W2, .bool false, .int .u32 A, .int .i64 S, .int .u32 D] 28); simpa using this)
  have R0 := Lib.hid (show Five X (w.heap.size + 2) W2 false A S D by rw [hX.out]; have := five_new ((w.alloc (.cells #[.bool true, .int .i64 W, .int .u32 F, .int .u32 T, .bool true, .bool wr, .int .i64 K, .bool lk] 26)).alloc (.cells #[.bool true, .int .i64 W, .int .u32 G, .int .u32 U, .bool re, .bool we, .int .i64 K, .bool ke] 26)) W2 false A S D 28; simpa using this)
  clear hX
  refine (awake_any _).mono ?_
  rintro e w1 ⟨rfl, hb⟩
  have P1 := Lib.hid (P0.out.keep hb)
  have S1 := Lib.hid (S0.out.keep hb)
  have R1 := Lib.hid (R0.out.keep hb)
  have B1 := Lib.hid (B0.out.trans (hb.mono B0.out.size))
  clear hb P0 S0 R0 B0
  obtain ⟨k0, k1, k2, k3, k4, k5, k6, k7⟩ := P1.out
  obtain ⟨s0, s1, s2, s3, s4, s5, s6, s7⟩ := S1.out
  obtain ⟨m0, m1, m2, m3, m4⟩ := R1.out
  go_wp2_with fail
  refine (qa _).mono ?_
  rintro e w2 ⟨rfl, hb⟩
  clear k0 k1 k2 k3 k4 k5 k6 k7
  clear s0 s1 s2 s3 s4 s5 s6 s7
  clear m0 m1 m2 m3 m4
  have P2 := Lib.hid (P1.out.keep hb)
  have S2 := Lib.hid (S1.out.keep hb)
  have R2 := Lib.hid (R1.out.keep hb)
  have B2 := Lib.hid (B1.out.trans (hb.mono B1.out.size))
  clear hb P1 S1 R1 B1
  obtain ⟨k0, k1, k2, k3, k4, k5, k6, k7⟩ := P2.out
  obtain ⟨s0, s1, s2, s3, s4, s5, s6, s7⟩ := S2.out
  obtain ⟨m0, m1, m2, m3, m4⟩ := R2.out
  go_wp2_with fail
  refine (qb _).mono ?_
  rintro e w3 ⟨rfl, hb⟩
  clear k0 k1 k2 k3 k4 k5 k6 k7
  clear s0 s1 s2 s3 s4 s5 s6 s7
  clear m0 m1 m2 m3 m4
  have P3 := Lib.hid (P2.out.keep hb)
  have S3 := Lib.hid (S2.out.keep hb)
  have R3 := Lib.hid (R2.out.keep hb)
  have B3 := Lib.hid (B2.out.trans (hb.mono B2.out.size))
  clear hb P2 S2 R2 B2
  obtain ⟨k0, k1, k2, k3, k4, k5, k6, k7⟩ := P3.out
  obtain ⟨s0, s1, s2, s3, s4, s5, s6, s7⟩ := S3.out
  obtain ⟨m0, m1, m2, m3, m4⟩ := R3.out
  go_wp2_with fail
  refine (qb _).mono ?_
  rintro e w4 ⟨rfl, hb⟩
  clear k0 k1 k2 k3 k4 k5 k6 k7
  clear s0 s1 s2 s3 s4 s5 s6 s7
  clear m0 m1 m2 m3 m4
  have P4 := Lib.hid (P3.out.keep hb)
  have S4 := Lib.hid (S3.out.keep hb)
  have R4 := Lib.hid (R3.out.keep hb)
  have B4 := Lib.hid (B3.out.trans (hb.mono B3.out.size))
  clear hb P3 S3 R3 B3
  obtain ⟨k0, k1, k2, k3, k4, k5, k6, k7⟩ := P4.out
  obtain ⟨s0, s1, s2, s3, s4, s5, s6, s7⟩ := S4.out
  obtain ⟨m0, m1, m2, m3, m4⟩ := R4.out
  go_wp2_with fail
  refine (qs _).mono ?_
  rintro e w5 ⟨rfl, hb⟩
  clear k0 k1 k2 k3 k4 k5 k6 k7
  clear s0 s1 s2 s3 s4 s5 s6 s7
  clear m0 m1 m2 m3 m4
  have P5 := Lib.hid (P4.out.keep hb)
  have S5 := Lib.hid (S4.out.keep hb)
  have R5 := Lib.hid (R4.out.keep hb)
  have B5 := Lib.hid (B4.out.trans (hb.mono B4.out.size))
  clear hb P4 S4 R4 B4
  obtain ⟨k0, k1, k2, k3, k4, k5, k6, k7⟩ := P5.out
  obtain ⟨s0, s1, s2, s3, s4, s5, s6, s7⟩ := S5.out
  obtain ⟨m0, m1, m2, m3, m4⟩ := R5.out
  go_wp2_with fail
  refine (qi _).mono ?_
  rintro e w6 ⟨rfl, hb⟩
  clear k0 k1 k2 k3 k4 k5 k6 k7
  clear s0 s1 s2 s3 s4 s5 s6 s7
  clear m0 m1 m2 m3 m4
  have P6 := Lib.hid (P5.out.keep hb)
  have S6 := Lib.hid (S5.out.keep hb)
  have R6 := Lib.hid (R5.out.keep hb)
  have B6 := Lib.hid (B5.out.trans (hb.mono B5.out.size))
  clear hb P5 S5 R5 B5
  obtain ⟨k0, k1, k2, k3, k4, k5, k6, k7⟩ := P6.out
  obtain ⟨s0, s1, s2, s3, s4, s5, s6, s7⟩ := S6.out
  obtain ⟨m0, m1, m2, m3, m4⟩ := R6.out
  obtain ⟨u0, u1, u2, u3, u4, u5, u6, u7⟩ := P6.out.alloc (.cells #[.bool true, .int .i64 W, .int .u32 F, .int .u32 T, .bool false, .bool false, .int .i64 K, .bool lk] 26)
  obtain ⟨v0, v1, v2, v3, v4⟩ := (R6.out.alloc (.cells #[.bool true, .int .i64 W, .int .u32 F, .int .u32 T, .bool false, .bool false, .int .i64 K, .bool lk] 26)).alloc (.cells #[.bool true, .int .i64 W, .int .u32 F, .int .u32 T, .bool true, .bool true, .int .i64 K, .bool lk] 26)
  go_wp2_with fail
  refine calls_letter ?_
  intro Z hZ
  clear u0 u1 u2 u3 u4 u5 u6 u7 v0 v1 v2 v3 v4
  clear k0 k1 k2 k3 k4 k5 k6 k7
  clear s0 s1 s2 s3 s4 s5 s6 s7
  clear m0 m1 m2 m3 m4
  have hz : Below w6.heap.size w6 Z := by rw [hZ.out]; repeat (first | exact Below.refl _ _ | refine Below.setCell ?_ (by simp) _ | refine Below.alloc ?_ (by simp) _)
  have P7 := Lib.hid (P6.out.keep hz)
  have S7 := Lib.hid (S6.out.keep hz)
  have R7 := Lib.hid (R6.out.keep hz)
  have O7 := Lib.hid (show Eight Z (w6.heap.size + 1) true W F T true true K lk by rw [hZ.out]; constructor <;> simp [go_sem])
  have B7 := Lib.hid (B6.out.trans (hz.mono B6.out.size))
  clear hz hZ P6 S6 R6 B6
  obtain ⟨g, hg⟩ : ∃ g, w6.heap.size = g := ⟨_, rfl⟩
  rw [hg] at O7
  rw [hg]
  clear hg
  refine (qt _).mono ?_
  rintro e w8 ⟨rfl, hb⟩
  have P8 := Lib.hid (P7.out.keep hb)
  have S8 := Lib.hid (S7.out.keep hb)
  have R8 := Lib.hid (R7.out.keep hb)
  have O8 := Lib.hid (O7.out.keep hb)
  have B8 := Lib.hid (B7.out.trans (hb.mono B7.out.size))
  clear hb P7 S7 R7 O7 B7
  obtain ⟨k0, k1, k2, k3, k4, k5, k6, k7⟩ := P8.out
  obtain ⟨s0, s1, s2, s3, s4, s5, s6, s7⟩ := S8.out
  obtain ⟨m0, m1, m2, m3, m4⟩ := R8.out
  obtain ⟨n0, n1, n2, n3, n4, n5, n6, n7⟩ := O8.out
  go_wp2_with fail
  refine (qb _).mono ?_
  rintro e w9 ⟨rfl, hb⟩
  clear k0 k1 k2 k3 k4 k5 k6 k7
  clear s0 s1 s2 s3 s4 s5 s6 s7
  clear m0 m1 m2 m3 m4
  clear n0 n1 n2 n3 n4 n5 n6 n7
  have P9 := Lib.hid (P8.out.keep hb)
  have S9 := Lib.hid (S8.out.keep hb)
  have R9 := Lib.hid (R8.out.keep hb)
  have O9 := Lib.hid (O8.out.keep hb)
  have B9 := Lib.hid (B8.out.trans (hb.mono B8.out.size))
  clear hb P8 S8 R8 O8 B8
  obtain ⟨k0, k1, k2, k3, k4, k5, k6, k7⟩ := P9.out
  obtain ⟨s0, s1, s2, s3, s4, s5, s6, s7⟩ := S9.out
  obtain ⟨m0, m1, m2, m3, m4⟩ := R9.out
  obtain ⟨n0, n1, n2, n3, n4, n5, n6, n7⟩ := O9.out
  go_wp2_with fail
  refine (qo _).mono ?_
  rintro e w10 ⟨rfl, hb⟩
  clear k0 k1 k2 k3 k4 k5 k6 k7
  clear s0 s1 s2 s3 s4 s5 s6 s7
  clear m0 m1 m2 m3 m4
  clear n0 n1 n2 n3 n4 n5 n6 n7
  have P10 := Lib.hid (P9.out.keep hb)
  have S10 := Lib.hid (S9.out.keep hb)
  have R10 := Lib.hid (R9.out.keep hb)
  have O10 := Lib.hid (O9.out.keep hb)
  have B10 := Lib.hid (B9.out.trans (hb.mono B9.out.size))
  clear hb P9 S9 R9 O9 B9
  obtain ⟨k0, k1, k2, k3, k4, k5, k6, k7⟩ := P10.out
  obtain ⟨s0, s1, s2, s3, s4, s5, s6, s7⟩ := S10.out
  obtain ⟨m0, m1, m2, m3, m4⟩ := R10.out
  obtain ⟨n0, n1, n2, n3, n4, n5, n6, n7⟩ := O10.out
  go_wp2_with fail
  refine (qr _).mono ?_
  rintro e w11 ⟨rfl, hb⟩
  clear k0 k1 k2 k3 k4 k5 k6 k7
  clear s0 s1 s2 s3 s4 s5 s6 s7
  clear m0 m1 m2 m3 m4
  clear n0 n1 n2 n3 n4 n5 n6 n7
  have P11 := Lib.hid (P10.out.keep hb)
  have S11 := Lib.hid (S10.out.keep hb)
  have R11 := Lib.hid (R10.out.keep hb)
  have O11 := Lib.hid (O10.out.keep hb)
  have B11 := Lib.hid (B10.out.trans (hb.mono B10.out.size))
  clear hb P10 S10 R10 O10 B10
  obtain ⟨k0, k1, k2, k3, k4, k5, k6, k7⟩ := P11.out
  obtain ⟨s0, s1, s2, s3, s4, s5, s6, s7⟩ := S11.out
  obtain ⟨m0, m1, m2, m3, m4⟩ := R11.out
  obtain ⟨n0, n1, n2, n3, n4, n5, n6, n7⟩ := O11.out
  go_wp2_with fail
  refine (qs _).mono ?_
  rintro e w12 ⟨rfl, hb⟩
  clear k0 k1 k2 k3 k4 k5 k6 k7
  clear s0 s1 s2 s3 s4 s5 s6 s7
  clear m0 m1 m2 m3 m4
  clear n0 n1 n2 n3 n4 n5 n6 n7
  have P12 := Lib.hid (P11.out.keep hb)
  have S12 := Lib.hid (S11.out.keep hb)
  have R12 := Lib.hid (R11.out.keep hb)
  have O12 := Lib.hid (O11.out.keep hb)
  have B12 := Lib.hid (B11.out.trans (hb.mono B11.out.size))
  clear hb P11 S11 R11 O11 B11
  obtain ⟨k0, k1, k2, k3, k4, k5, k6, k7⟩ := P12.out
  obtain ⟨s0, s1, s2, s3, s4, s5, s6, s7⟩ := S12.out
  obtain ⟨m0, m1, m2, m3, m4⟩ := R12.out
  obtain ⟨n0, n1, n2, n3, n4, n5, n6, n7⟩ := O12.out
  go_wp2_with fail
  refine (qx _).mono ?_
  rintro e w13 ⟨rfl, hb⟩
  clear k0 k1 k2 k3 k4 k5 k6 k7
  clear s0 s1 s2 s3 s4 s5 s6 s7
  clear m0 m1 m2 m3 m4
  clear n0 n1 n2 n3 n4 n5 n6 n7
  have P13 := Lib.hid (P12.out.keep hb)
  have S13 := Lib.hid (S12.out.keep hb)
  have R13 := Lib.hid (R12.out.keep hb)
  have O13 := Lib.hid (O12.out.keep hb)
  have B13 := Lib.hid (B12.out.trans (hb.mono B12.out.size))
  clear hb P12 S12 R12 O12 B12
  obtain ⟨k0, k1, k2, k3, k4, k5, k6, k7⟩ := P13.out
  obtain ⟨s0, s1, s2, s3, s4, s5, s6, s7⟩ := S13.out
  obtain ⟨m0, m1, m2, m3, m4⟩ := R13.out
  obtain ⟨n0, n1, n2, n3, n4, n5, n6, n7⟩ := O13.out
  go_wp2_with fail
  refine (qy _).mono ?_
  rintro e w14 ⟨rfl, hb⟩
  clear k0 k1 k2 k3 k4 k5 k6 k7
  clear s0 s1 s2 s3 s4 s5 s6 s7
  clear m0 m1 m2 m3 m4
  clear n0 n1 n2 n3 n4 n5 n6 n7
  have P14 := Lib.hid (P13.out.keep hb)
  have S14 := Lib.hid (S13.out.keep hb)
  have R14 := Lib.hid (R13.out.keep hb)
  have O14 := Lib.hid (O13.out.keep hb)
  have B14 := Lib.hid (B13.out.trans (hb.mono B13.out.size))
  clear hb P13 S13 R13 O13 B13
  obtain ⟨k0, k1, k2, k3, k4, k5, k6, k7⟩ := P14.out
  obtain ⟨s0, s1, s2, s3, s4, s5, s6, s7⟩ := S14.out
  obtain ⟨m0, m1, m2, m3, m4⟩ := R14.out
  obtain ⟨n0, n1, n2, n3, n4, n5, n6, n7⟩ := O14.out
  go_wp2_with fail
  refine (qx _).mono ?_
  rintro e w15 ⟨rfl, hb⟩
  clear k0 k1 k2 k3 k4 k5 k6 k7
  clear s0 s1 s2 s3 s4 s5 s6 s7
  clear m0 m1 m2 m3 m4
  clear n0 n1 n2 n3 n4 n5 n6 n7
  have P15 := Lib.hid (P14.out.keep hb)
  have S15 := Lib.hid (S14.out.keep hb)
  have R15 := Lib.hid (R14.out.keep hb)
  have O15 := Lib.hid (O14.out.keep hb)
  have B15 := Lib.hid (B14.out.trans (hb.mono B14.out.size))
  clear hb P14 S14 R14 O14 B14
  obtain ⟨k0, k1, k2, k3, k4, k5, k6, k7⟩ := P15.out
  obtain ⟨s0, s1, s2, s3, s4, s5, s6, s7⟩ := S15.out
  obtain ⟨m0, m1, m2, m3, m4⟩ := R15.out
  obtain ⟨n0, n1, n2, n3, n4, n5, n6, n7⟩ := O15.out
  go_wp2_with fail
  go_ret
  exact ⟨rfl, B15.out⟩

set_option maxRecDepth 100000 in
set_option maxHeartbeats 1000000 in
theorem le_4y2e (W : Int) (F : Int) (T : Int) (wr : Bool) (K : Int) (lk : Bool) (G : Int) (U : Int) (re : Bool) (we : Bool) (ke : Bool) (W2 : Int) (A : Int) (S : Int) (D : Int) (w : World)
    (qa : ∀ w, Calls Try.prog 15 #[reg true W F T true wr K lk, acc W2 false A S D] w fun e w' => e = .returned (.bool true) ∧ Below w.heap.size w w')
    (qb : ∀ w, Calls Try.prog 14 #[reg true W F T true wr K lk, acc W2 false A S D] w fun e w' => e = .returned (.bool true) ∧ Below w.heap.size w w')
    (qs : ∀ w, Calls Try.prog 12 #[reg true W G U re we K ke] w fun e w' => e = .returned (.bool true) ∧ Below w.heap.size w w')
    (qi : ∀ w, Calls Try.prog 16 #[.agg #[.int .u32 F, .int .u32 T], .agg #[.int .u32 G, .int .u32 U]] w fun e w' => e = .returned (.bool true) ∧ Below w.heap.size w w')
    (qh : ∀ w, Calls Try.prog 14 #[reg true W G U re we K ke, acc W2 false A S D] w fun e w' => e = .returned (.bool true) ∧ Below w.heap.size w w')
    (qt : ∀ w, Calls Try.prog 15 #[reg true W F T false false K lk, acc W2 false A S D] w fun e w' => e = .returned (.bool false) ∧ Below w.heap.size w w')
    (qo : ∀ w, Calls Try.prog 15 #[reg true W F T true true K lk, acc W2 false A S D] w fun e w' => e = .returned (.bool true) ∧ Below w.heap.size w w')
    (qr : ∀ w, Calls Try.prog 12 #[reg true W F T true wr K lk] w fun e w' => e = .returned (.bool true) ∧ Below w.heap.size w w')
    (qx : ∀ w, Calls Try.prog 17 #[reg true W F T true wr K lk, reg true W G U re we K ke] w fun e w' => e = .returned (.bool false) ∧ Below w.heap.size w w')
    (qy : ∀ w, Calls Try.prog 17 #[reg true W G U re we K ke, reg true W F T true wr K lk] w fun e w' => e = .returned (.bool false) ∧ Below w.heap.size w w') :
    Calls Try.prog 6 #[reg true W F T true wr K lk, reg true W G U re we K ke, acc W2 false A S D] w fun e w' => e = .returned (.bool true) ∧ Below w.heap.size w w' := by
  go_enter Try.func6, Try.ntmps6
  go_wp2_with fail
  refine calls_letter ?_
  intro X hX
  have B0 := Lib.hid (show Below w.heap.size w X by rw [hX.out]; exact (((Below.refl _ _).alloc (Nat.le_refl _) _).alloc (by simp) _).alloc (by simp; omega) _)
  have P0 := Lib.hid (show Eight X w.heap.size true W F T true wr K lk by rw [hX.out]; exact ((eight_new w true W F T true wr K lk 26).alloc _).alloc _)
  have S0 := Lib.hid (show Eight X (w.heap.size + 1) true W G U re we K ke by rw [hX.out]; have := (eight_new (w.alloc (.cells #[.bool true, .int .i64 W, .int .u32 F, .int .u32 T, .bool true, .bool wr, .int .i64 K, .bool lk] 26)) true W G U re we K ke 26).alloc (.cells #[.int .i64 W2, .bool false, .int .u32 A, .int .i64 S, .int .u32 D] 28); simpa using this)
  have R0 := Lib.hid (show Five X (w.heap.size + 2) W2 false A S D by rw [hX.out]; have := five_new ((w.alloc (.cells #[.bool true, .int .i64 W, .int .u32 F, .int .u32 T, .bool true, .bool wr, .int .i64 K, .bool lk] 26)).alloc (.cells #[.bool true, .int .i64 W, .int .u32 G, .int .u32 U, .bool re, .bool we, .int .i64 K, .bool ke] 26)) W2 false A S D 28; simpa using this)
  clear hX
  refine (awake_any _).mono ?_
  rintro e w1 ⟨rfl, hb⟩
  have P1 := Lib.hid (P0.out.keep hb)
  have S1 := Lib.hid (S0.out.keep hb)
  have R1 := Lib.hid (R0.out.keep hb)
  have B1 := Lib.hid (B0.out.trans (hb.mono B0.out.size))
  clear hb P0 S0 R0 B0
  obtain ⟨k0, k1, k2, k3, k4, k5, k6, k7⟩ := P1.out
  obtain ⟨s0, s1, s2, s3, s4, s5, s6, s7⟩ := S1.out
  obtain ⟨m0, m1, m2, m3, m4⟩ := R1.out
  go_wp2_with fail
  refine (qa _).mono ?_
  rintro e w2 ⟨rfl, hb⟩
  clear k0 k1 k2 k3 k4 k5 k6 k7
  clear s0 s1 s2 s3 s4 s5 s6 s7
  clear m0 m1 m2 m3 m4
  have P2 := Lib.hid (P1.out.keep hb)
  have S2 := Lib.hid (S1.out.keep hb)
  have R2 := Lib.hid (R1.out.keep hb)
  have B2 := Lib.hid (B1.out.trans (hb.mono B1.out.size))
  clear hb P1 S1 R1 B1
  obtain ⟨k0, k1, k2, k3, k4, k5, k6, k7⟩ := P2.out
  obtain ⟨s0, s1, s2, s3, s4, s5, s6, s7⟩ := S2.out
  obtain ⟨m0, m1, m2, m3, m4⟩ := R2.out
  go_wp2_with fail
  refine (qb _).mono ?_
  rintro e w3 ⟨rfl, hb⟩
  clear k0 k1 k2 k3 k4 k5 k6 k7
  clear s0 s1 s2 s3 s4 s5 s6 s7
  clear m0 m1 m2 m3 m4
  have P3 := Lib.hid (P2.out.keep hb)
  have S3 := Lib.hid (S2.out.keep hb)
  have R3 := Lib.hid (R2.out.keep hb)
  have B3 := Lib.hid (B2.out.trans (hb.mono B2.out.size))
  clear hb P2 S2 R2 B2
  obtain ⟨k0, k1, k2, k3, k4, k5, k6, k7⟩ := P3.out
  obtain ⟨s0, s1, s2, s3, s4, s5, s6, s7⟩ := S3.out
  obtain ⟨m0, m1, m2, m3, m4⟩ := R3.out
  go_wp2_with fail
  refine (qb _).mono ?_
  rintro e w4 ⟨rfl, hb⟩
  clear k0 k1 k2 k3 k4 k5 k6 k7
  clear s0 s1 s2 s3 s4 s5 s6 s7
  clear m0 m1 m2 m3 m4
  have P4 := Lib.hid (P3.out.keep hb)
  have S4 := Lib.hid (S3.out.keep hb)
  have R4 := Lib.hid (R3.out.keep hb)
  have B4 := Lib.hid (B3.out.trans (hb.mono B3.out.size))
  clear hb P3 S3 R3 B3
  obtain ⟨k0, k1, k2, k3, k4, k5, k6, k7⟩ := P4.out
  obtain ⟨s0, s1, s2, s3, s4, s5, s6, s7⟩ := S4.out
  obtain ⟨m0, m1, m2, m3, m4⟩ := R4.out
  go_wp2_with fail
  refine (qs _).mono ?_
  rintro e w5 ⟨rfl, hb⟩
  clear k0 k1 k2 k3 k4 k5 k6 k7
  clear s0 s1 s2 s3 s4 s5 s6 s7
  clear m0 m1 m2 m3 m4
  have P5 := Lib.hid (P4.out.keep hb)
  have S5 := Lib.hid (S4.out.keep hb)
  have R5 := Lib.hid (R4.out.keep hb)
  have B5 := Lib.hid (B4.out.trans (hb.mono B4.out.size))
  clear hb P4 S4 R4 B4
  obtain ⟨k0, k1, k2, k3, k4, k5, k6, k7⟩ := P5.out
  obtain ⟨s0, s1, s2, s3, s4, s5, s6, s7⟩ := S5.out
  obtain ⟨m0, m1, m2, m3, m4⟩ := R5.out
  go_wp2_with fail
  refine (qi _).mono ?_
  rintro e w6 ⟨rfl, hb⟩
  clear k0 k1 k2 k3 k4 k5 k6 k7
  clear s0 s1 s2 s3 s4 s5 s6 s7
  clear m0 m1 m2 m3 m4
  have P6 := Lib.hid (P5.out.keep hb)
  have S6 := Lib.hid (S5.out.keep hb)
  have R6 := Lib.hid (R5.out.keep hb)
  have B6 := Lib.hid (B5.out.trans (hb.mono B5.out.size))
  clear hb P5 S5 R5 B5
  obtain ⟨k0, k1, k2, k3, k4, k5, k6, k7⟩ := P6.out
  obtain ⟨s0, s1, s2, s3, s4, s5, s6, s7⟩ := S6.out
  obtain ⟨m0, m1, m2, m3, m4⟩ := R6.out
  go_wp2_with fail
  refine (qh _).mono ?_
  rintro e w7 ⟨rfl, hb⟩
  clear k0 k1 k2 k3 k4 k5 k6 k7
  clear s0 s1 s2 s3 s4 s5 s6 s7
  clear m0 m1 m2 m3 m4
  have P7 := Lib.hid (P6.out.keep hb)
  have S7 := Lib.hid (S6.out.keep hb)
  have R7 := Lib.hid (R6.out.keep hb)
  have B7 := Lib.hid (B6.out.trans (hb.mono B6.out.size))
  clear hb P6 S6 R6 B6
  obtain ⟨k0, k1, k2, k3, k4, k5, k6, k7⟩ := P7.out
  obtain ⟨s0, s1, s2, s3, s4, s5, s6, s7⟩ := S7.out
  obtain ⟨m0, m1, m2, m3, m4⟩ := R7.out
  obtain ⟨u0, u1, u2, u3, u4, u5, u6, u7⟩ := P7.out.alloc (.cells #[.bool true, .int .i64 W, .int .u32 F, .int .u32 T, .bool false, .bool false, .int .i64 K, .bool lk] 26)
  obtain ⟨v0, v1, v2, v3, v4⟩ := (R7.out.alloc (.cells #[.bool true, .int .i64 W, .int .u32 F, .int .u32 T, .bool false, .bool false, .int .i64 K, .bool lk] 26)).alloc (.cells #[.bool true, .int .i64 W, .int .u32 F, .int .u32 T, .bool true, .bool true, .int .i64 K, .bool lk] 26)
  go_wp2_with fail
  refine calls_letter ?_
  intro Z hZ
  clear u0 u1 u2 u3 u4 u5 u6 u7 v0 v1 v2 v3 v4
  clear k0 k1 k2 k3 k4 k5 k6 k7
  clear s0 s1 s2 s3 s4 s5 s6 s7
  clear m0 m1 m2 m3 m4
  have hz : Below w7.heap.size w7 Z := by rw [hZ.out]; repeat (first | exact Below.refl _ _ | refine Below.setCell ?_ (by simp) _ | refine Below.alloc ?_ (by simp) _)
  have P8 := Lib.hid (P7.out.keep hz)
  have S8 := Lib.hid (S7.out.keep hz)
  have R8 := Lib.hid (R7.out.keep hz)
  have O8 := Lib.hid (show Eight Z (w7.heap.size + 1) true W F T true true K lk by rw [hZ.out]; constructor <;> simp [go_sem])
  have B8 := Lib.hid (B7.out.trans (hz.mono B7.out.size))
  clear hz hZ P7 S7 R7 B7
  obtain ⟨g, hg⟩ : ∃ g, w7.heap.size = g := ⟨_, rfl⟩
  rw [hg] at O8
  rw [hg]
  clear hg
  refine (qt _).mono ?_
  rintro e w9 ⟨rfl, hb⟩
  have P9 := Lib.hid (P8.out.keep hb)
  have S9 := Lib.hid (S8.out.keep hb)
  have R9 := Lib.hid (R8.out.keep hb)
  have O9 := Lib.hid (O8.out.keep hb)
  have B9 := Lib.hid (B8.out.trans (hb.mono B8.out.size))
  clear hb P8 S8 R8 O8 B8
  obtain ⟨k0, k1, k2, k3, k4, k5, k6, k7⟩ := P9.out
  obtain ⟨s0, s1, s2, s3, s4, s5, s6, s7⟩ := S9.out
  obtain ⟨m0, m1, m2, m3, m4⟩ := R9.out
  obtain ⟨n0, n1, n2, n3, n4, n5, n6, n7⟩ := O9.out
  go_wp2_with fail
  refine (qb _).mono ?_
  rintro e w10 ⟨rfl, hb⟩
  clear k0 k1 k2 k3 k4 k5 k6 k7
  clear s0 s1 s2 s3 s4 s5 s6 s7
  clear m0 m1 m2 m3 m4
  clear n0 n1 n2 n3 n4 n5 n6 n7
  have P10 := Lib.hid (P9.out.keep hb)
  have S10 := Lib.hid (S9.out.keep hb)
  have R10 := Lib.hid (R9.out.keep hb)
  have O10 := Lib.hid (O9.out.keep hb)
  have B10 := Lib.hid (B9.out.trans (hb.mono B9.out.size))
  clear hb P9 S9 R9 O9 B9
  obtain ⟨k0, k1, k2, k3, k4, k5, k6, k7⟩ := P10.out
  obtain ⟨s0, s1, s2, s3, s4, s5, s6, s7⟩ := S10.out
  obtain ⟨m0, m1, m2, m3, m4⟩ := R10.out
  obtain ⟨n0, n1, n2, n3, n4, n5, n6, n7⟩ := O10.out
  go_wp2_with fail
  refine (qo _).mono ?_
  rintro e w11 ⟨rfl, hb⟩
  clear k0 k1 k2 k3 k4 k5 k6 k7
  clear s0 s1 s2 s3 s4 s5 s6 s7
  clear m0 m1 m2 m3 m4
  clear n0 n1 n2 n3 n4 n5 n6 n7
  have P11 := Lib.hid (P10.out.keep hb)
  have S11 := Lib.hid (S10.out.keep hb)
  have R11 := Lib.hid (R10.out.keep hb)
  have O11 := Lib.hid (O10.out.keep hb)
  have B11 := Lib.hid (B10.out.trans (hb.mono B10.out.size))
  clear hb P10 S10 R10 O10 B10
  obtain ⟨k0, k1, k2, k3, k4, k5, k6, k7⟩ := P11.out
  obtain ⟨s0, s1, s2, s3, s4, s5, s6, s7⟩ := S11.out
  obtain ⟨m0, m1, m2, m3, m4⟩ := R11.out
  obtain ⟨n0, n1, n2, n3, n4, n5, n6, n7⟩ := O11.out
  go_wp2_with fail
  refine (qr _).mono ?_
  rintro e w12 ⟨rfl, hb⟩
  clear k0 k1 k2 k3 k4 k5 k6 k7
  clear s0 s1 s2 s3 s4 s5 s6 s7
  clear m0 m1 m2 m3 m4
  clear n0 n1 n2 n3 n4 n5 n6 n7
  have P12 := Lib.hid (P11.out.keep hb)
  have S12 := Lib.hid (S11.out.keep hb)
  have R12 := Lib.hid (R11.out.keep hb)
  have O12 := Lib.hid (O11.out.keep hb)
  have B12 := Lib.hid (B11.out.trans (hb.mono B11.out.size))
  clear hb P11 S11 R11 O11 B11
  obtain ⟨k0, k1, k2, k3, k4, k5, k6, k7⟩ := P12.out
  obtain ⟨s0, s1, s2, s3, s4, s5, s6, s7⟩ := S12.out
  obtain ⟨m0, m1, m2, m3, m4⟩ := R12.out
  obtain ⟨n0, n1, n2, n3, n4, n5, n6, n7⟩ := O12.out
  go_wp2_with fail
  refine (qs _).mono ?_
  rintro e w13 ⟨rfl, hb⟩
  clear k0 k1 k2 k3 k4 k5 k6 k7
  clear s0 s1 s2 s3 s4 s5 s6 s7
  clear m0 m1 m2 m3 m4
  clear n0 n1 n2 n3 n4 n5 n6 n7
  have P13 := Lib.hid (P12.out.keep hb)
  have S13 := Lib.hid (S12.out.keep hb)
  have R13 := Lib.hid (R12.out.keep hb)
  have O13 := Lib.hid (O12.out.keep hb)
  have B13 := Lib.hid (B12.out.trans (hb.mono B12.out.size))
  clear hb P12 S12 R12 O12 B12
  obtain ⟨k0, k1, k2, k3, k4, k5, k6, k7⟩ := P13.out
  obtain ⟨s0, s1, s2, s3, s4, s5, s6, s7⟩ := S13.out
  obtain ⟨m0, m1, m2, m3, m4⟩ := R13.out
  obtain ⟨n0, n1, n2, n3, n4, n5, n6, n7⟩ := O13.out
  go_wp2_with fail
  refine (qx _).mono ?_
  rintro e w14 ⟨rfl, hb⟩
  clear k0 k1 k2 k3 k4 k5 k6 k7
  clear s0 s1 s2 s3 s4 s5 s6 s7
  clear m0 m1 m2 m3 m4
  clear n0 n1 n2 n3 n4 n5 n6 n7
  have P14 := Lib.hid (P13.out.keep hb)
  have S14 := Lib.hid (S13.out.keep hb)
  have R14 := Lib.hid (R13.out.keep hb)
  have O14 := Lib.hid (O13.out.keep hb)
  have B14 := Lib.hid (B13.out.trans (hb.mono B13.out.size))
  clear hb P13 S13 R13 O13 B13
  obtain ⟨k0, k1, k2, k3, k4, k5, k6, k7⟩ := P14.out
  obtain ⟨s0, s1, s2, s3, s4, s5, s6, s7⟩ := S14.out
  obtain ⟨m0, m1, m2, m3, m4⟩ := R14.out
  obtain ⟨n0, n1, n2, n3, n4, n5, n6, n7⟩ := O14.out
  go_wp2_with fail
  refine (qy _).mono ?_
  rintro e w15 ⟨rfl, hb⟩
  clear k0 k1 k2 k3 k4 k5 k6 k7
  clear s0 s1 s2 s3 s4 s5 s6 s7
  clear m0 m1 m2 m3 m4
  clear n0 n1 n2 n3 n4 n5 n6 n7
  have P15 := Lib.hid (P14.out.keep hb)
  have S15 := Lib.hid (S14.out.keep hb)
  have R15 := Lib.hid (R14.out.keep hb)
  have O15 := Lib.hid (O14.out.keep hb)
  have B15 := Lib.hid (B14.out.trans (hb.mono B14.out.size))
  clear hb P14 S14 R14 O14 B14
  obtain ⟨k0, k1, k2, k3, k4, k5, k6, k7⟩ := P15.out
  obtain ⟨s0, s1, s2, s3, s4, s5, s6, s7⟩ := S15.out
  obtain ⟨m0, m1, m2, m3, m4⟩ := R15.out
  obtain ⟨n0, n1, n2, n3, n4, n5, n6, n7⟩ := O15.out
  go_wp2_with fail
  refine (qx _).mono ?_
  rintro e w16 ⟨rfl, hb⟩
  clear k0 k1 k2 k3 k4 k5 k6 k7
  clear s0 s1 s2 s3 s4 s5 s6 s7
  clear m0 m1 m2 m3 m4
  clear n0 n1 n2 n3 n4 n5 n6 n7
  have P16 := Lib.hid (P15.out.keep hb)
  have S16 := Lib.hid (S15.out.keep hb)
  have R16 := Lib.hid (R15.out.keep hb)
  have O16 := Lib.hid (O15.out.keep hb)
  have B16 := Lib.hid (B15.out.trans (hb.mono B15.out.size))
  clear hb P15 S15 R15 O15 B15
  obtain ⟨k0, k1, k2, k3, k4, k5, k6, k7⟩ := P16.out
  obtain ⟨s0, s1, s2, s3, s4, s5, s6, s7⟩ := S16.out
  obtain ⟨m0, m1, m2, m3, m4⟩ := R16.out
  obtain ⟨n0, n1, n2, n3, n4, n5, n6, n7⟩ := O16.out
  go_wp2_with fail
  go_ret
  exact ⟨rfl, B16.out⟩

end Go.Proofs.Ytploggfaihfeeaa.Region
