/- RegionClashes, path by path (part B). -/
import Derived.Test.YtploggfaihfeeaaHf
namespace Go.Proofs.Ytploggfaihfeeaa.Region
open Go.RowKit Go.Proofs.Ytploggfaihfeeaa.Access
set_option linter.unusedVariables false
set_option maxRecDepth 100000 in
set_option maxHeartbeats 1000000 in
theorem cl_e4tt (W F T : Int) (rd wr : Bool) (K : Int) (lk : Bool) (G U : Int) (re we : Bool) (L : Int) (ke : Bool) (W2 : Int) (r2 : Bool) (A S D : Int) (z : Int) (w : World)
    (qc : ∀ w, Calls Try.prog 11 #[reg true W F T rd wr K lk, reg true W G U re we L ke] w fun e w' => e = .returned (.bool false) ∧ Below w.heap.size w w')
    (qd : ∀ w, Calls Try.prog 11 #[reg true W G U re we L ke, reg true W F T rd wr K lk] w fun e w' => e = .returned (.bool false) ∧ Below w.heap.size w w')
    (q1 : ∀ w, Calls Try.prog 12 #[reg true W F T rd wr K lk] w fun e w' => e = .returned (.bool true) ∧ Below w.heap.size w w')
    (q2 : ∀ w, Calls Try.prog 12 #[reg true W G U re we L ke] w fun e w' => e = .returned (.bool true) ∧ Below w.heap.size w w')
    (q3 : ∀ w, Calls Try.prog 13 #[.agg #[.int .u32 F, .int .u32 T], .int .u32 z] w fun e w' => e = .returned (.bool false) ∧ Below w.heap.size w w')
    (q5 : ∀ w, Calls Try.prog 14 #[reg true W F T rd wr K lk, acc W2 r2 A S D] w fun e w' => e = .returned (.bool true) ∧ Below w.heap.size w w')
    (q6 : ∀ w, Calls Try.prog 14 #[reg true W G U re we L ke, acc W r2 A S D] w fun e w' => e = .returned (.bool true) ∧ Below w.heap.size w w') :
    Calls Try.prog 5 #[reg true W F T rd wr K lk, reg true W G U re we L ke, acc W2 r2 A S D, .int .u32 z] w fun e w' => e = .returned (.bool true) ∧ Below w.heap.size w w' := by
  go_enter Try.func5, Try.ntmps5
  go_wp2_with fail
  refine calls_letter ?_
  intro X hX
  have B0 := Lib.hid (show Below w.heap.size w X by rw [hX.out]; exact (((Below.refl _ _).alloc (Nat.le_refl _) _).alloc (by simp) _).alloc (by simp; omega) _)
  have P0 := Lib.hid (show Eight X w.heap.size true W F T rd wr K lk by rw [hX.out]; exact ((eight_new w true W F T rd wr K lk 26).alloc _).alloc _)
  have S0 := Lib.hid (show Eight X (w.heap.size + 1) true W G U re we L ke by rw [hX.out]; have := (eight_new (w.alloc (.cells #[.bool true, .int .i64 W, .int .u32 F, .int .u32 T, .bool rd, .bool wr, .int .i64 K, .bool lk] 26)) true W G U re we L ke 26).alloc (.cells #[.int .i64 W2, .bool r2, .int .u32 A, .int .i64 S, .int .u32 D] 28); simpa using this)
  have R0 := Lib.hid (show Five X (w.heap.size + 2) W2 r2 A S D by rw [hX.out]; have := five_new ((w.alloc (.cells #[.bool true, .int .i64 W, .int .u32 F, .int .u32 T, .bool rd, .bool wr, .int .i64 K, .bool lk] 26)).alloc (.cells #[.bool true, .int .i64 W, .int .u32 G, .int .u32 U, .bool re, .bool we, .int .i64 L, .bool ke] 26)) W2 r2 A S D 28; simpa using this)
  clear hX
  refine (awake_any _).mono ?_
  rintro e w1 ⟨rfl, hb⟩
  have P1 := Lib.hid (P0.out.keep hb)
  have S1 := Lib.hid (S0.out.keep hb)
  have R1 := Lib.hid (R0.out.keep hb)
  have B1 := Lib.hid (B0.out.trans (hb.mono B0.out.size))
  clear hb P0 S0 R0 B0
  go_wp2_with fail
  refine wp_region_ext (by kernel_rfl) (by kernel_rfl) ?_
  intro Y hY
  obtain rfl := hY.out
  clear hY
  have k0 := ext_cell P1.out.c0
  have k1 := ext_cell P1.out.c1
  have k2 := ext_cell P1.out.c2
  have k3 := ext_cell P1.out.c3
  have k4 := ext_cell P1.out.c4
  have k5 := ext_cell P1.out.c5
  have k6 := ext_cell P1.out.c6
  have k7 := ext_cell P1.out.c7
  have s0 := ext_cell S1.out.c0
  have s1 := ext_cell S1.out.c1
  have s2 := ext_cell S1.out.c2
  have s3 := ext_cell S1.out.c3
  have s4 := ext_cell S1.out.c4
  have s5 := ext_cell S1.out.c5
  have s6 := ext_cell S1.out.c6
  have s7 := ext_cell S1.out.c7
  have m0 := ext_cell R1.out.c0
  have m1 := ext_cell R1.out.c1
  have m2 := ext_cell R1.out.c2
  have m3 := ext_cell R1.out.c3
  have m4 := ext_cell R1.out.c4
  repeat (go_big_quiet_step ((first
    | (go_at_call 11; with_reducible exact ext_of (qc _))
    | (go_at_call 11; with_reducible exact ext_of (qd _)))))
  refine wpQuiet_nil ?_
  intro w' hw'
  obtain ⟨q, rfl⟩ := hw'
  clear k0 k1 k2 k3 k4 k5 k6 k7
  clear s0 s1 s2 s3 s4 s5 s6 s7
  clear m0 m1 m2 m3 m4
  have P2 := Lib.hid (P1.out.keep (ext_below Y q))
  have S2 := Lib.hid (S1.out.keep (ext_below Y q))
  have R2 := Lib.hid (R1.out.keep (ext_below Y q))
  have B2 := Lib.hid (B1.out.trans ((ext_below Y q).mono B1.out.size))
  obtain ⟨w2, hw2⟩ : ∃ Z, Z = ext Y q := ⟨_, rfl⟩
  rw [← hw2] at P2 S2 R2 B2
  rw [← hw2]
  clear hw2 P1 S1 R1 B1
  obtain ⟨k0, k1, k2, k3, k4, k5, k6, k7⟩ := P2.out
  obtain ⟨s0, s1, s2, s3, s4, s5, s6, s7⟩ := S2.out
  obtain ⟨m0, m1, m2, m3, m4⟩ := R2.out
  go_wp2_with fail
  refine (q1 _).mono ?_
  rintro e w3 ⟨rfl, hb⟩
  clear k0 k1 k2 k3 k4 k5 k6 k7
  clear s0 s1 s2 s3 s4 s5 s6 s7
  clear m0 m1 m2 m3 m4
  have P3 := Lib.hid (P2.out.keep hb)
  have S3 := Lib.hid (S2.out.keep hb)
  have R3 := Lib.hid (R2.out.keep hb)
  have B3 := Lib.hid (B2.out.trans (hb.mono B2.out.size))
  clear hb P2 S2 R2 B2
  obtain ⟨k0, k1, k2, k3, k4, k5, k6, k7⟩ := P3.out
  obtain ⟨s0, s1, s2, s3, s4, s5, s6, s7⟩ := S3.out
  obtain ⟨m0, m1, m2, m3, m4⟩ := R3.out
  go_wp2_with fail
  refine (q2 _).mono ?_
  rintro e w4 ⟨rfl, hb⟩
  clear k0 k1 k2 k3 k4 k5 k6 k7
  clear s0 s1 s2 s3 s4 s5 s6 s7
  clear m0 m1 m2 m3 m4
  have P4 := Lib.hid (P3.out.keep hb)
  have S4 := Lib.hid (S3.out.keep hb)
  have R4 := Lib.hid (R3.out.keep hb)
  have B4 := Lib.hid (B3.out.trans (hb.mono B3.out.size))
  clear hb P3 S3 R3 B3
  obtain ⟨k0, k1, k2, k3, k4, k5, k6, k7⟩ := P4.out
  obtain ⟨s0, s1, s2, s3, s4, s5, s6, s7⟩ := S4.out
  obtain ⟨m0, m1, m2, m3, m4⟩ := R4.out
  go_wp2_with fail
  refine (q3 _).mono ?_
  rintro e w5 ⟨rfl, hb⟩
  clear k0 k1 k2 k3 k4 k5 k6 k7
  clear s0 s1 s2 s3 s4 s5 s6 s7
  clear m0 m1 m2 m3 m4
  have P5 := Lib.hid (P4.out.keep hb)
  have S5 := Lib.hid (S4.out.keep hb)
  have R5 := Lib.hid (R4.out.keep hb)
  have B5 := Lib.hid (B4.out.trans (hb.mono B4.out.size))
  clear hb P4 S4 R4 B4
  obtain ⟨k0, k1, k2, k3, k4, k5, k6, k7⟩ := P5.out
  obtain ⟨s0, s1, s2, s3, s4, s5, s6, s7⟩ := S5.out
  obtain ⟨m0, m1, m2, m3, m4⟩ := R5.out
  have sx := (S5.out.alloc (.cells #[.int .i64 W2, .bool r2, .int .u32 A, .int .i64 S, .int .u32 D] 28)).c1
  obtain ⟨u0, u1, u2, u3, u4, u5, u6, u7⟩ := P5.out.alloc (.cells #[.int .i64 W, .bool r2, .int .u32 A, .int .i64 S, .int .u32 D] 28)
  obtain ⟨v0, v1, v2, v3, v4⟩ := R5.out.alloc (.cells #[.int .i64 W, .bool r2, .int .u32 A, .int .i64 S, .int .u32 D] 28)
  go_wp2_with fail
  refine calls_letter ?_
  intro Z hZ
  clear sx u0 u1 u2 u3 u4 u5 u6 u7 v0 v1 v2 v3 v4
  clear k0 k1 k2 k3 k4 k5 k6 k7
  clear s0 s1 s2 s3 s4 s5 s6 s7
  clear m0 m1 m2 m3 m4
  have hz : Below w5.heap.size w5 Z := by rw [hZ.out]; repeat (first | exact Below.refl _ _ | refine Below.setCell ?_ (by simp) _ | refine Below.alloc ?_ (by simp) _)
  have P6 := Lib.hid (P5.out.keep hz)
  have S6 := Lib.hid (S5.out.keep hz)
  have R6 := Lib.hid (R5.out.keep hz)
  have T6 := Lib.hid (show Five Z w5.heap.size W r2 A S D by rw [hZ.out]; constructor <;> simp [go_sem])
  have B6 := Lib.hid (B5.out.trans (hz.mono B5.out.size))
  clear hz hZ P5 S5 R5 B5
  obtain ⟨g, hg⟩ : ∃ g, w5.heap.size = g := ⟨_, rfl⟩
  rw [hg] at T6
  rw [hg]
  clear hg
  refine (q5 _).mono ?_
  rintro e w7 ⟨rfl, hb⟩
  have P7 := Lib.hid (P6.out.keep hb)
  have S7 := Lib.hid (S6.out.keep hb)
  have R7 := Lib.hid (R6.out.keep hb)
  have T7 := Lib.hid (T6.out.keep hb)
  have B7 := Lib.hid (B6.out.trans (hb.mono B6.out.size))
  clear hb P6 S6 R6 T6 B6
  obtain ⟨k0, k1, k2, k3, k4, k5, k6, k7⟩ := P7.out
  obtain ⟨s0, s1, s2, s3, s4, s5, s6, s7⟩ := S7.out
  obtain ⟨m0, m1, m2, m3, m4⟩ := R7.out
  obtain ⟨n0, n1, n2, n3, n4⟩ := T7.out
  go_wp2_with fail
  refine (q6 _).mono ?_
  rintro e w8 ⟨rfl, hb⟩
  clear k0 k1 k2 k3 k4 k5 k6 k7
  clear s0 s1 s2 s3 s4 s5 s6 s7
  clear m0 m1 m2 m3 m4
  clear n0 n1 n2 n3 n4
  have P8 := Lib.hid (P7.out.keep hb)
  have S8 := Lib.hid (S7.out.keep hb)
  have R8 := Lib.hid (R7.out.keep hb)
  have T8 := Lib.hid (T7.out.keep hb)
  have B8 := Lib.hid (B7.out.trans (hb.mono B7.out.size))
  clear hb P7 S7 R7 T7 B7
  obtain ⟨k0, k1, k2, k3, k4, k5, k6, k7⟩ := P8.out
  obtain ⟨s0, s1, s2, s3, s4, s5, s6, s7⟩ := S8.out
  obtain ⟨m0, m1, m2, m3, m4⟩ := R8.out
  obtain ⟨n0, n1, n2, n3, n4⟩ := T8.out
  go_wp2_with fail
  go_ret
  exact ⟨rfl, B8.out⟩

set_option maxRecDepth 100000 in
set_option maxHeartbeats 1000000 in
theorem cl_e5f (W F T : Int) (rd wr : Bool) (K : Int) (lk : Bool) (G U : Int) (re we : Bool) (L : Int) (ke : Bool) (W2 : Int) (r2 : Bool) (A S D : Int) (z : Int) (w : World)
    (qc : ∀ w, Calls Try.prog 11 #[reg true W F T rd wr K lk, reg true W G U re we L ke] w fun e w' => e = .returned (.bool false) ∧ Below w.heap.size w w')
    (qd : ∀ w, Calls Try.prog 11 #[reg true W G U re we L ke, reg true W F T rd wr K lk] w fun e w' => e = .returned (.bool false) ∧ Below w.heap.size w w')
    (q1 : ∀ w, Calls Try.prog 12 #[reg true W F T rd wr K lk] w fun e w' => e = .returned (.bool true) ∧ Below w.heap.size w w')
    (q2 : ∀ w, Calls Try.prog 12 #[reg true W G U re we L ke] w fun e w' => e = .returned (.bool true) ∧ Below w.heap.size w w')
    (q3 : ∀ w, Calls Try.prog 13 #[.agg #[.int .u32 F, .int .u32 T], .int .u32 z] w fun e w' => e = .returned (.bool true) ∧ Below w.heap.size w w')
    (q4 : ∀ w, Calls Try.prog 13 #[.agg #[.int .u32 G, .int .u32 U], .int .u32 z] w fun e w' => e = .returned (.bool false) ∧ Below w.heap.size w w')
    (q5 : ∀ w, Calls Try.prog 14 #[reg true W F T rd wr K lk, acc W2 r2 A S D] w fun e w' => e = .returned (.bool false) ∧ Below w.heap.size w w') :
    Calls Try.prog 5 #[reg true W F T rd wr K lk, reg true W G U re we L ke, acc W2 r2 A S D, .int .u32 z] w fun e w' => e = .returned (.bool true) ∧ Below w.heap.size w w' := by
  go_enter Try.func5, Try.ntmps5
  go_wp2_with fail
  refine calls_letter ?_
  intro X hX
  have B0 := Lib.hid (show Below w.heap.size w X by rw [hX.out]; exact (((Below.refl _ _).alloc (Nat.le_refl _) _).alloc (by simp) _).alloc (by simp; omega) _)
  have P0 := Lib.hid (show Eight X w.heap.size true W F T rd wr K lk by rw [hX.out]; exact ((eight_new w true W F T rd wr K lk 26).alloc _).alloc _)
  have S0 := Lib.hid (show Eight X (w.heap.size + 1) true W G U re we L ke by rw [hX.out]; have := (eight_new (w.alloc (.cells #[.bool true, .int .i64 W, .int .u32 F, .int .u32 T, .bool rd, .bool wr, .int .i64 K, .bool lk] 26)) true W G U re we L ke 26).alloc (.cells #[.int .i64 W2, .bool r2, .int .u32 A, .int .i64 S, .int .u32 D] 28); simpa using this)
  have R0 := Lib.hid (show Five X (w.heap.size + 2) W2 r2 A S D by rw [hX.out]; have := five_new ((w.alloc (.cells #[.bool true, .int .i64 W, .int .u32 F, .int .u32 T, .bool rd, .bool wr, .int .i64 K, .bool lk] 26)).alloc (.cells #[.bool true, .int .i64 W, .int .u32 G, .int .u32 U, .bool re, .bool we, .int .i64 L, .bool ke] 26)) W2 r2 A S D 28; simpa using this)
  clear hX
  refine (awake_any _).mono ?_
  rintro e w1 ⟨rfl, hb⟩
  have P1 := Lib.hid (P0.out.keep hb)
  have S1 := Lib.hid (S0.out.keep hb)
  have R1 := Lib.hid (R0.out.keep hb)
  have B1 := Lib.hid (B0.out.trans (hb.mono B0.out.size))
  clear hb P0 S0 R0 B0
  go_wp2_with fail
  refine wp_region_ext (by kernel_rfl) (by kernel_rfl) ?_
  intro Y hY
  obtain rfl := hY.out
  clear hY
  have k0 := ext_cell P1.out.c0
  have k1 := ext_cell P1.out.c1
  have k2 := ext_cell P1.out.c2
  have k3 := ext_cell P1.out.c3
  have k4 := ext_cell P1.out.c4
  have k5 := ext_cell P1.out.c5
  have k6 := ext_cell P1.out.c6
  have k7 := ext_cell P1.out.c7
  have s0 := ext_cell S1.out.c0
  have s1 := ext_cell S1.out.c1
  have s2 := ext_cell S1.out.c2
  have s3 := ext_cell S1.out.c3
  have s4 := ext_cell S1.out.c4
  have s5 := ext_cell S1.out.c5
  have s6 := ext_cell S1.out.c6
  have s7 := ext_cell S1.out.c7
  have m0 := ext_cell R1.out.c0
  have m1 := ext_cell R1.out.c1
  have m2 := ext_cell R1.out.c2
  have m3 := ext_cell R1.out.c3
  have m4 := ext_cell R1.out.c4
  repeat (go_big_quiet_step ((first
    | (go_at_call 11; with_reducible exact ext_of (qc _))
    | (go_at_call 11; with_reducible exact ext_of (qd _)))))
  refine wpQuiet_nil ?_
  intro w' hw'
  obtain ⟨q, rfl⟩ := hw'
  clear k0 k1 k2 k3 k4 k5 k6 k7
  clear s0 s1 s2 s3 s4 s5 s6 s7
  clear m0 m1 m2 m3 m4
  have P2 := Lib.hid (P1.out.keep (ext_below Y q))
  have S2 := Lib.hid (S1.out.keep (ext_below Y q))
  have R2 := Lib.hid (R1.out.keep (ext_below Y q))
  have B2 := Lib.hid (B1.out.trans ((ext_below Y q).mono B1.out.size))
  obtain ⟨w2, hw2⟩ : ∃ Z, Z = ext Y q := ⟨_, rfl⟩
  rw [← hw2] at P2 S2 R2 B2
  rw [← hw2]
  clear hw2 P1 S1 R1 B1
  obtain ⟨k0, k1, k2, k3, k4, k5, k6, k7⟩ := P2.out
  obtain ⟨s0, s1, s2, s3, s4, s5, s6, s7⟩ := S2.out
  obtain ⟨m0, m1, m2, m3, m4⟩ := R2.out
  go_wp2_with fail
  refine (q1 _).mono ?_
  rintro e w3 ⟨rfl, hb⟩
  clear k0 k1 k2 k3 k4 k5 k6 k7
  clear s0 s1 s2 s3 s4 s5 s6 s7
  clear m0 m1 m2 m3 m4
  have P3 := Lib.hid (P2.out.keep hb)
  have S3 := Lib.hid (S2.out.keep hb)
  have R3 := Lib.hid (R2.out.keep hb)
  have B3 := Lib.hid (B2.out.trans (hb.mono B2.out.size))
  clear hb P2 S2 R2 B2
  obtain ⟨k0, k1, k2, k3, k4, k5, k6, k7⟩ := P3.out
  obtain ⟨s0, s1, s2, s3, s4, s5, s6, s7⟩ := S3.out
  obtain ⟨m0, m1, m2, m3, m4⟩ := R3.out
  go_wp2_with fail
  refine (q2 _).mono ?_
  rintro e w4 ⟨rfl, hb⟩
  clear k0 k1 k2 k3 k4 k5 k6 k7
  clear s0 s1 s2 s3 s4 s5 s6 s7
  clear m0 m1 m2 m3 m4
  have P4 := Lib.hid (P3.out.keep hb)
  have S4 := Lib.hid (S3.out.keep hb)
  have R4 := Lib.hid (R3.out.keep hb)
  have B4 := Lib.hid (B3.out.trans (hb.mono B3.out.size))
  clear hb P3 S3 R3 B3
  obtain ⟨k0, k1, k2, k3, k4, k5, k6, k7⟩ := P4.out
  obtain ⟨s0, s1, s2, s3, s4, s5, s6, s7⟩ := S4.out
  obtain ⟨m0, m1, m2, m3, m4⟩ := R4.out
  go_wp2_with fail
  refine (q3 _).mono ?_
  rintro e w5 ⟨rfl, hb⟩
  clear k0 k1 k2 k3 k4 k5 k6 k7
  clear s0 s1 s2 s3 s4 s5 s6 s7
  clear m0 m1 m2 m3 m4
  have P5 := Lib.hid (P4.out.keep hb)
  have S5 := Lib.hid (S4.out.keep hb)
  have R5 := Lib.hid (R4.out.keep hb)
  have B5 := Lib.hid (B4.out.trans (hb.mono B4.out.size))
  clear hb P4 S4 R4 B4
  obtain ⟨k0, k1, k2, k3, k4, k5, k6, k7⟩ := P5.out
  obtain ⟨s0, s1, s2, s3, s4, s5, s6, s7⟩ := S5.out
  obtain ⟨m0, m1, m2, m3, m4⟩ := R5.out
  go_wp2_with fail
  refine (q4 _).mono ?_
  rintro e w6 ⟨rfl, hb⟩
  clear k0 k1 k2 k3 k4 k5 k6 k7
  clear s0 s1 s2 s3 s4 s5 s6 s7
  clear m0 m1 m2 m3 m4
  have P6 := Lib.hid (P5.out.keep hb)
  have S6 := Lib.hid (S5.out.keep hb)
  have R6 := Lib.hid (R5.out.keep hb)
  have B6 := Lib.hid (B5.out.trans (hb.mono B5.out.size))
  clear hb P5 S5 R5 B5
  obtain ⟨k0, k1, k2, k3, k4, k5, k6, k7⟩ := P6.out
  obtain ⟨s0, s1, s2, s3, s4, s5, s6, s7⟩ := S6.out
  obtain ⟨m0, m1, m2, m3, m4⟩ := R6.out
  have sx := (S6.out.alloc (.cells #[.int .i64 W2, .bool r2, .int .u32 A, .int .i64 S, .int .u32 D] 28)).c1
  obtain ⟨u0, u1, u2, u3, u4, u5, u6, u7⟩ := P6.out.alloc (.cells #[.int .i64 W, .bool r2, .int .u32 A, .int .i64 S, .int .u32 D] 28)
  obtain ⟨v0, v1, v2, v3, v4⟩ := R6.out.alloc (.cells #[.int .i64 W, .bool r2, .int .u32 A, .int .i64 S, .int .u32 D] 28)
  go_wp2_with fail
  refine calls_letter ?_
  intro Z hZ
  clear sx u0 u1 u2 u3 u4 u5 u6 u7 v0 v1 v2 v3 v4
  clear k0 k1 k2 k3 k4 k5 k6 k7
  clear s0 s1 s2 s3 s4 s5 s6 s7
  clear m0 m1 m2 m3 m4
  have hz : Below w6.heap.size w6 Z := by rw [hZ.out]; repeat (first | exact Below.refl _ _ | refine Below.setCell ?_ (by simp) _ | refine Below.alloc ?_ (by simp) _)
  have P7 := Lib.hid (P6.out.keep hz)
  have S7 := Lib.hid (S6.out.keep hz)
  have R7 := Lib.hid (R6.out.keep hz)
  have T7 := Lib.hid (show Five Z w6.heap.size W r2 A S D by rw [hZ.out]; constructor <;> simp [go_sem])
  have B7 := Lib.hid (B6.out.trans (hz.mono B6.out.size))
  clear hz hZ P6 S6 R6 B6
  obtain ⟨g, hg⟩ : ∃ g, w6.heap.size = g := ⟨_, rfl⟩
  rw [hg] at T7
  rw [hg]
  clear hg
  refine (q5 _).mono ?_
  rintro e w8 ⟨rfl, hb⟩
  have P8 := Lib.hid (P7.out.keep hb)
  have S8 := Lib.hid (S7.out.keep hb)
  have R8 := Lib.hid (R7.out.keep hb)
  have T8 := Lib.hid (T7.out.keep hb)
  have B8 := Lib.hid (B7.out.trans (hb.mono B7.out.size))
  clear hb P7 S7 R7 T7 B7
  obtain ⟨k0, k1, k2, k3, k4, k5, k6, k7⟩ := P8.out
  obtain ⟨s0, s1, s2, s3, s4, s5, s6, s7⟩ := S8.out
  obtain ⟨m0, m1, m2, m3, m4⟩ := R8.out
  obtain ⟨n0, n1, n2, n3, n4⟩ := T8.out
  go_wp2_with fail
  go_ret
  exact ⟨rfl, B8.out⟩

set_option maxRecDepth 100000 in
set_option maxHeartbeats 1000000 in
theorem cl_e5tf (W F T : Int) (rd wr : Bool) (K : Int) (lk : Bool) (G U : Int) (re we : Bool) (L : Int) (ke : Bool) (W2 : Int) (r2 : Bool) (A S D : Int) (z : Int) (w : World)
    (qc : ∀ w, Calls Try.prog 11 #[reg true W F T rd wr K lk, reg true W G U re we L ke] w fun e w' => e = .returned (.bool false) ∧ Below w.heap.size w w')
    (qd : ∀ w, Calls Try.prog 11 #[reg true W G U re we L ke, reg true W F T rd wr K lk] w fun e w' => e = .returned (.bool false) ∧ Below w.heap.size w w')
    (q1 : ∀ w, Calls Try.prog 12 #[reg true W F T rd wr K lk] w fun e w' => e = .returned (.bool true) ∧ Below w.heap.size w w')
    (q2 : ∀ w, Calls Try.prog 12 #[reg true W G U re we L ke] w fun e w' => e = .returned (.bool true) ∧ Below w.heap.size w w')
    (q3 : ∀ w, Calls Try.prog 13 #[.agg #[.int .u32 F, .int .u32 T], .int .u32 z] w fun e w' => e = .returned (.bool true) ∧ Below w.heap.size w w')
    (q4 : ∀ w, Calls Try.prog 13 #[.agg #[.int .u32 G, .int .u32 U], .int .u32 z] w fun e w' => e = .returned (.bool false) ∧ Below w.heap.size w w')
    (q5 : ∀ w, Calls Try.prog 14 #[reg true W F T rd wr K lk, acc W2 r2 A S D] w fun e w' => e = .returned (.bool true) ∧ Below w.heap.size w w')
    (q6 : ∀ w, Calls Try.prog 14 #[reg true W G U re we L ke, acc W r2 A S D] w fun e w' => e = .returned (.bool false) ∧ Below w.heap.size w w') :
    Calls Try.prog 5 #[reg true W F T rd wr K lk, reg true W G U re we L ke, acc W2 r2 A S D, .int .u32 z] w fun e w' => e = .returned (.bool true) ∧ Below w.heap.size w w' := by
  go_enter Try.func5, Try.ntmps5
  go_wp2_with fail
  refine calls_letter ?_
  intro X hX
  have B0 := Lib.hid (show Below w.heap.size w X by rw [hX.out]; exact (((Below.refl _ _).alloc (Nat.le_refl _) _).alloc (by simp) _).alloc (by simp; omega) _)
  have P0 := Lib.hid (show Eight X w.heap.size true W F T rd wr K lk by rw [hX.out]; exact ((eight_new w true W F T rd wr K lk 26).alloc _).alloc _)
  have S0 := Lib.hid (show Eight X (w.heap.size + 1) true W G U re we L ke by rw [hX.out]; have := (eight_new (w.alloc (.cells #[.bool true, .int .i64 W, .int .u32 F, .int .u32 T, .bool rd, .bool wr, .int .i64 K, .bool lk] 26)) true W G U re we L ke 26).alloc (.cells #[.int .i64 W2, .bool r2, .int .u32 A, .int .i64 S, .int .u32 D] 28); simpa using this)
  have R0 := Lib.hid (show Five X (w.heap.size + 2) W2 r2 A S D by rw [hX.out]; have := five_new ((w.alloc (.cells #[.bool true, .int .i64 W, .int .u32 F, .int .u32 T, .bool rd, .bool wr, .int .i64 K, .bool lk] 26)).alloc (.cells #[.bool true, .int .i64 W, .int .u32 G, .int .u32 U, .bool re, .bool we, .int .i64 L, .bool ke] 26)) W2 r2 A S D 28; simpa using this)
  clear hX
  refine (awake_any _).mono ?_
  rintro e w1 ⟨rfl, hb⟩
  have P1 := Lib.hid (P0.out.keep hb)
  have S1 := Lib.hid (S0.out.keep hb)
  have R1 := Lib.hid (R0.out.keep hb)
  have B1 := Lib.hid (B0.out.trans (hb.mono B0.out.size))
  clear hb P0 S0 R0 B0
  go_wp2_with fail
  refine wp_region_ext (by kernel_rfl) (by kernel_rfl) ?_
  intro Y hY
  obtain rfl := hY.out
  clear hY
  have k0 := ext_cell P1.out.c0
  have k1 := ext_cell P1.out.c1
  have k2 := ext_cell P1.out.c2
  have k3 := ext_cell P1.out.c3
  have k4 := ext_cell P1.out.c4
  have k5 := ext_cell P1.out.c5
  have k6 := ext_cell P1.out.c6
  have k7 := ext_cell P1.out.c7
  have s0 := ext_cell S1.out.c0
  have s1 := ext_cell S1.out.c1
  have s2 := ext_cell S1.out.c2
  have s3 := ext_cell S1.out.c3
  have s4 := ext_cell S1.out.c4
  have s5 := ext_cell S1.out.c5
  have s6 := ext_cell S1.out.c6
  have s7 := ext_cell S1.out.c7
  have m0 := ext_cell R1.out.c0
  have m1 := ext_cell R1.out.c1
  have m2 := ext_cell R1.out.c2
  have m3 := ext_cell R1.out.c3
  have m4 := ext_cell R1.out.c4
  repeat (go_big_quiet_step ((first
    | (go_at_call 11; with_reducible exact ext_of (qc _))
    | (go_at_call 11; with_reducible exact ext_of (qd _)))))
  refine wpQuiet_nil ?_
  intro w' hw'
  obtain ⟨q, rfl⟩ := hw'
  clear k0 k1 k2 k3 k4 k5 k6 k7
  clear s0 s1 s2 s3 s4 s5 s6 s7
  clear m0 m1 m2 m3 m4
  have P2 := Lib.hid (P1.out.keep (ext_below Y q))
  have S2 := Lib.hid (S1.out.keep (ext_below Y q))
  have R2 := Lib.hid (R1.out.keep (ext_below Y q))
  have B2 := Lib.hid (B1.out.trans ((ext_below Y q).mono B1.out.size))
  obtain ⟨w2, hw2⟩ : ∃ Z, Z = ext Y q := ⟨_, rfl⟩
  rw [← hw2] at P2 S2 R2 B2
  rw [← hw2]
  clear hw2 P1 S1 R1 B1
  obtain ⟨k0, k1, k2, k3, k4, k5, k6, k7⟩ := P2.out
  obtain ⟨s0, s1, s2, s3, s4, s5, s6, s7⟩ := S2.out
  obtain ⟨m0, m1, m2, m3, m4⟩ := R2.out
  go_wp2_with fail
  refine (q1 _).mono ?_
  rintro e w3 ⟨rfl, hb⟩
  clear k0 k1 k2 k3 k4 k5 k6 k7
  clear s0 s1 s2 s3 s4 s5 s6 s7
  clear m0 m1 m2 m3 m4
  have P3 := Lib.hid (P2.out.keep hb)
  have S3 := Lib.hid (S2.out.keep hb)
  have R3 := Lib.hid (R2.out.keep hb)
  have B3 := Lib.hid (B2.out.trans (hb.mono B2.out.size))
  clear hb P2 S2 R2 B2
  obtain ⟨k0, k1, k2, k3, k4, k5, k6, k7⟩ := P3.out
  obtain ⟨s0, s1, s2, s3, s4, s5, s6, s7⟩ := S3.out
  obtain ⟨m0, m1, m2, m3, m4⟩ := R3.out
  go_wp2_with fail
  refine (q2 _).mono ?_
  rintro e w4 ⟨rfl, hb⟩
  clear k0 k1 k2 k3 k4 k5 k6 k7
  clear s0 s1 s2 s3 s4 s5 s6 s7
  clear m0 m1 m2 m3 m4
  have P4 := Lib.hid (P3.out.keep hb)
  have S4 := Lib.hid (S3.out.keep hb)
  have R4 := Lib.hid (R3.out.keep hb)
  have B4 := Lib.hid (B3.out.trans (hb.mono B3.out.size))
  clear hb P3 S3 R3 B3
  obtain ⟨k0, k1, k2, k3, k4, k5, k6, k7⟩ := P4.out
  obtain ⟨s0, s1, s2, s3, s4, s5, s6, s7⟩ := S4.out
  obtain ⟨m0, m1, m2, m3, m4⟩ := R4.out
  go_wp2_with fail
  refine (q3 _).mono ?_
  rintro e w5 ⟨rfl, hb⟩
  clear k0 k1 k2 k3 k4 k5 k6 k7
  clear s0 s1 s2 s3 s4 s5 s6 s7
  clear m0 m1 m2 m3 m4
  have P5 := Lib.hid (P4.out.keep hb)
  have S5 := Lib.hid (S4.out.keep hb)
  have R5 := Lib.hid (R4.out.keep hb)
  have B5 := Lib.hid (B4.out.trans (hb.mono B4.out.size))
  clear hb P4 S4 R4 B4
  obtain ⟨k0, k1, k2, k3, k4, k5, k6, k7⟩ := P5.out
  obtain ⟨s0, s1, s2, s3, s4, s5, s6, s7⟩ := S5.out
  obtain ⟨m0, m1, m2, m3, m4⟩ := R5.out
  go_wp2_with fail
  refine (q4 _).mono ?_
  rintro e w6 ⟨rfl, hb⟩
  clear k0 k1 k2 k3 k4 k5 k6 k7
  clear s0 s1 s2 s3 s4 s5 s6 s7
  clear m0 m1 m2 m3 m4
  have P6 := Lib.hid (P5.out.keep hb)
  have S6 := Lib.hid (S5.out.keep hb)
  have R6 := Lib.hid (R5.out.keep hb)
  have B6 := Lib.hid (B5.out.trans (hb.mono B5.out.size))
  clear hb P5 S5 R5 B5
  obtain ⟨k0, k1, k2, k3, k4, k5, k6, k7⟩ := P6.out
  obtain ⟨s0, s1, s2, s3, s4, s5, s6, s7⟩ := S6.out
  obtain ⟨m0, m1, m2, m3, m4⟩ := R6.out
  have sx := (S6.out.alloc (.cells #[.int .i64 W2, .bool r2, .int .u32 A, .int .i64 S, .int .u32 D] 28)).c1
  obtain ⟨u0, u1, u2, u3, u4, u5, u6, u7⟩ := P6.out.alloc (.cells #[.int .i64 W, .bool r2, .int .u32 A, .int .i64 S, .int .u32 D] 28)
  obtain ⟨v0, v1, v2, v3, v4⟩ := R6.out.alloc (.cells #[.int .i64 W, .bool r2, .int .u32 A, .int .i64 S, .int .u32 D] 28)
  go_wp2_with fail
  refine calls_letter ?_
  intro Z hZ
  clear sx u0 u1 u2 u3 u4 u5 u6 u7 v0 v1 v2 v3 v4
  clear k0 k1 k2 k3 k4 k5 k6 k7
  clear s0 s1 s2 s3 s4 s5 s6 s7
  clear m0 m1 m2 m3 m4
  have hz : Below w6.heap.size w6 Z := by rw [hZ.out]; repeat (first | exact Below.refl _ _ | refine Below.setCell ?_ (by simp) _ | refine Below.alloc ?_ (by simp) _)
  have P7 := Lib.hid (P6.out.keep hz)
  have S7 := Lib.hid (S6.out.keep hz)
  have R7 := Lib.hid (R6.out.keep hz)
  have T7 := Lib.hid (show Five Z w6.heap.size W r2 A S D by rw [hZ.out]; constructor <;> simp [go_sem])
  have B7 := Lib.hid (B6.out.trans (hz.mono B6.out.size))
  clear hz hZ P6 S6 R6 B6
  obtain ⟨g, hg⟩ : ∃ g, w6.heap.size = g := ⟨_, rfl⟩
  rw [hg] at T7
  rw [hg]
  clear hg
  refine (q5 _).mono ?_
  rintro e w8 ⟨rfl, hb⟩
  have P8 := Lib.hid (P7.out.keep hb)
  have S8 := Lib.hid (S7.out.keep hb)
  have R8 := Lib.hid (R7.out.keep hb)
  have T8 := Lib.hid (T7.out.keep hb)
  have B8 := Lib.hid (B7.out.trans (hb.mono B7.out.size))
  clear hb P7 S7 R7 T7 B7
  obtain ⟨k0, k1, k2, k3, k4, k5, k6, k7⟩ := P8.out
  obtain ⟨s0, s1, s2, s3, s4, s5, s6, s7⟩ := S8.out
  obtain ⟨m0, m1, m2, m3, m4⟩ := R8.out
  obtain ⟨n0, n1, n2, n3, n4⟩ := T8.out
  go_wp2_with fail
  refine (q6 _).mono ?_
  rintro e w9 ⟨rfl, hb⟩
  clear k0 k1 k2 k3 k4 k5 k6 k7
  clear s0 s1 s2 s3 s4 s5 s6 s7
  clear m0 m1 m2 m3 m4
  clear n0 n1 n2 n3 n4
  have P9 := Lib.hid (P8.out.keep hb)
  have S9 := Lib.hid (S8.out.keep hb)
  have R9 := Lib.hid (R8.out.keep hb)
  have T9 := Lib.hid (T8.out.keep hb)
  have B9 := Lib.hid (B8.out.trans (hb.mono B8.out.size))
  clear hb P8 S8 R8 T8 B8
  obtain ⟨k0, k1, k2, k3, k4, k5, k6, k7⟩ := P9.out
  obtain ⟨s0, s1, s2, s3, s4, s5, s6, s7⟩ := S9.out
  obtain ⟨m0, m1, m2, m3, m4⟩ := R9.out
  obtain ⟨n0, n1, n2, n3, n4⟩ := T9.out
  go_wp2_with fail
  go_ret
  exact ⟨rfl, B9.out⟩

set_option maxRecDepth 100000 in
set_option maxHeartbeats 1000000 in
theorem cl_e5tt (W F T : Int) (rd wr : Bool) (K : Int) (lk : Bool) (G U : Int) (re we : Bool) (L : Int) (ke : Bool) (W2 : Int) (r2 : Bool) (A S D : Int) (z : Int) (w : World)
    (qc : ∀ w, Calls Try.prog 11 #[reg true W F T rd wr K lk, reg true W G U re we L ke] w fun e w' => e = .returned (.bool false) ∧ Below w.heap.size w w')
    (qd : ∀ w, Calls Try.prog 11 #[reg true W G U re we L ke, reg true W F T rd wr K lk] w fun e w' => e = .returned (.bool false) ∧ Below w.heap.size w w')
    (q1 : ∀ w, Calls Try.prog 12 #[reg true W F T rd wr K lk] w fun e w' => e = .returned (.bool true) ∧ Below w.heap.size w w')
    (q2 : ∀ w, Calls Try.prog 12 #[reg true W G U re we L ke] w fun e w' => e = .returned (.bool true) ∧ Below w.heap.size w w')
    (q3 : ∀ w, Calls Try.prog 13 #[.agg #[.int .u32 F, .int .u32 T], .int .u32 z] w fun e w' => e = .returned (.bool true) ∧ Below w.heap.size w w')
    (q4 : ∀ w, Calls Try.prog 13 #[.agg #[.int .u32 G, .int .u32 U], .int .u32 z] w fun e w' => e = .returned (.bool false) ∧ Below w.heap.size w w')
    (q5 : ∀ w, Calls Try.prog 14 #[reg true W F T rd wr K lk, acc W2 r2 A S D] w fun e w' => e = .returned (.bool true) ∧ Below w.heap.size w w')
    (q6 : ∀ w, Calls Try.prog 14 #[reg true W G U re we L ke, acc W r2 A S D] w fun e w' => e = .returned (.bool true) ∧ Below w.heap.size w w') :
    Calls Try.prog 5 #[reg true W F T rd wr K lk, reg true W G U re we L ke, acc W2 r2 A S D, .int .u32 z] w fun e w' => e = .returned (.bool true) ∧ Below w.heap.size w w' := by
  go_enter Try.func5, Try.ntmps5
  go_wp2_with fail
  refine calls_letter ?_
  intro X hX
  have B0 := Lib.hid (show Below w.heap.size w X by rw [hX.out]; exact (((Below.refl _ _).alloc (Nat.le_refl _) _).alloc (by simp) _).alloc (by simp; omega) _)
  have P0 := Lib.hid (show Eight X w.heap.size true W F T rd wr K lk by rw [hX.out]; exact ((eight_new w true W F T rd wr K lk 26).alloc _).alloc _)
  have S0 := Lib.hid (show Eight X (w.heap.size + 1) true W G U re we L ke by rw [hX.out]; have := (eight_new (w.alloc (.cells #[.bool true, .int .i64 W, .int .u32 F, .int .u32 T, .bool rd, .bool wr, .int .i64 K, .bool lk] 26)) true W G U re we L ke 26).alloc (.cells #[.int .i64 W2, .bool r2, .int .u32 A, .int .i64 S, .int .u32 D] 28); simpa using this)
  have R0 := Lib.hid (show Five X (w.heap.size + 2) W2 r2 A S D by rw [hX.out]; have := five_new ((w.alloc (.cells #[.bool true, .int .i64 W, .int .u32 F, .int .u32 T, .bool rd, .bool wr, .int .i64 K, .bool lk] 26)).alloc (.cells #[.bool true, .int .i64 W, .int .u32 G, .int .u32 U, .bool re, .bool we, .int .i64 L, .bool ke] 26)) W2 r2 A S D 28; simpa using this)
  clear hX
  refine (awake_any _).mono ?_
  rintro e w1 ⟨rfl, hb⟩
  have P1 := Lib.hid (P0.out.keep hb)
  have S1 := Lib.hid (S0.out.keep hb)
  have R1 := Lib.hid (R0.out.keep hb)
  have B1 := Lib.hid (B0.out.trans (hb.mono B0.out.size))
  clear hb P0 S0 R0 B0
  go_wp2_with fail
  refine wp_region_ext (by kernel_rfl) (by kernel_rfl) ?_
  intro Y hY
  obtain rfl := hY.out
  clear hY
  have k0 := ext_cell P1.out.c0
  have k1 := ext_cell P1.out.c1
  have k2 := ext_cell P1.out.c2
  have k3 := ext_cell P1.out.c3
  have k4 := ext_cell P1.out.c4
  have k5 := ext_cell P1.out.c5
  have k6 := ext_cell P1.out.c6
  have k7 := ext_cell P1.out.c7
  have s0 := ext_cell S1.out.c0
  have s1 := ext_cell S1.out.c1
  have s2 := ext_cell S1.out.c2
  have s3 := ext_cell S1.out.c3
  have s4 := ext_cell S1.out.c4
  have s5 := ext_cell S1.out.c5
  have s6 := ext_cell S1.out.c6
  have s7 := ext_cell S1.out.c7
  have m0 := ext_cell R1.out.c0
  have m1 := ext_cell R1.out.c1
  have m2 := ext_cell R1.out.c2
  have m3 := ext_cell R1.out.c3
  have m4 := ext_cell R1.out.c4
  repeat (go_big_quiet_step ((first
    | (go_at_call 11; with_reducible exact ext_of (qc _))
    | (go_at_call 11; with_reducible exact ext_of (qd _)))))
  refine wpQuiet_nil ?_
  intro w' hw'
  obtain ⟨q, rfl⟩ := hw'
  clear k0 k1 k2 k3 k4 k5 k6 k7
  clear s0 s1 s2 s3 s4 s5 s6 s7
  clear m0 m1 m2 m3 m4
  have P2 := Lib.hid (P1.out.keep (ext_below Y q))
  have S2 := Lib.hid (S1.out.keep (ext_below Y q))
  have R2 := Lib.hid (R1.out.keep (ext_below Y q))
  have B2 := Lib.hid (B1.out.trans ((ext_below Y q).mono B1.out.size))
  obtain ⟨w2, hw2⟩ : ∃ Z, Z = ext Y q := ⟨_, rfl⟩
  rw [← hw2] at P2 S2 R2 B2
  rw [← hw2]
  clear hw2 P1 S1 R1 B1
  obtain ⟨k0, k1, k2, k3, k4, k5, k6, k7⟩ := P2.out
  obtain ⟨s0, s1, s2, s3, s4, s5, s6, s7⟩ := S2.out
  obtain ⟨m0, m1, m2, m3, m4⟩ := R2.out
  go_wp2_with fail
  refine (q1 _).mono ?_
  rintro e w3 ⟨rfl, hb⟩
  clear k0 k1 k2 k3 k4 k5 k6 k7
  clear s0 s1 s2 s3 s4 s5 s6 s7
  clear m0 m1 m2 m3 m4
  have P3 := Lib.hid (P2.out.keep hb)
  have S3 := Lib.hid (S2.out.keep hb)
  have R3 := Lib.hid (R2.out.keep hb)
  have B3 := Lib.hid (B2.out.trans (hb.mono B2.out.size))
  clear hb P2 S2 R2 B2
  obtain ⟨k0, k1, k2, k3, k4, k5, k6, k7⟩ := P3.out
  obtain ⟨s0, s1, s2, s3, s4, s5, s6, s7⟩ := S3.out
  obtain ⟨m0, m1, m2, m3, m4⟩ := R3.out
  go_wp2_with fail
  refine (q2 _).mono ?_
  rintro e w4 ⟨rfl, hb⟩
  clear k0 k1 k2 k3 k4 k5 k6 k7
  clear s0 s1 s2 s3 s4 s5 s6 s7
  clear m0 m1 m2 m3 m4
  have P4 := Lib.hid (P3.out.keep hb)
  have S4 := Lib.hid (S3.out.keep hb)
  have R4 := Lib.hid (R3.out.keep hb)
  have B4 := Lib.hid (B3.out.trans (hb.mono B3.out.size))
  clear hb P3 S3 R3 B3
  obtain ⟨k0, k1, k2, k3, k4, k5, k6, k7⟩ := P4.out
  obtain ⟨s0, s1, s2, s3, s4, s5, s6, s7⟩ := S4.out
  obtain ⟨m0, m1, m2, m3, m4⟩ := R4.out
  go_wp2_with fail
  refine (q3 _).mono ?_
  rintro e w5 ⟨rfl, hb⟩
  clear k0 k1 k2 k3 k4 k5 k6 k7
  clear s0 s1 s2 s3 s4 s5 s6 s7
  clear m0 m1 m2 m3 m4
  have P5 := Lib.hid (P4.out.keep hb)
  have S5 := Lib.hid (S4.out.keep hb)
  have R5 := Lib.hid (R4.out.keep hb)
  have B5 := Lib.hid (B4.out.trans (hb.mono B4.out.size))
  clear hb P4 S4 R4 B4
  obtain ⟨k0, k1, k2, k3, k4, k5, k6, k7⟩ := P5.out
  obtain ⟨s0, s1, s2, s3, s4, s5, s6, s7⟩ := S5.out
  obtain ⟨m0, m1, m2, m3, m4⟩ := R5.out
  go_wp2_with fail
  refine (q4 _).mono ?_
  rintro e w6 ⟨rfl, hb⟩
  clear k0 k1 k2 k3 k4 k5 k6 k7
  clear s0 s1 s2 s3 s4 s5 s6 s7
  clear m0 m1 m2 m3 m4
  have P6 := Lib.hid (P5.out.keep hb)
  have S6 := Lib.hid (S5.out.keep hb)
  have R6 := Lib.hid (R5.out.keep hb)
  have B6 := Lib.hid (B5.out.trans (hb.mono B5.out.size))
  clear hb P5 S5 R5 B5
  obtain ⟨k0, k1, k2, k3, k4, k5, k6, k7⟩ := P6.out
  obtain ⟨s0, s1, s2, s3, s4, s5, s6, s7⟩ := S6.out
  obtain ⟨m0, m1, m2, m3, m4⟩ := R6.out
  have sx := (S6.out.alloc (.cells #[.int .i64 W2, .bool r2, .int .u32 A, .int .i64 S, .int .u32 D] 28)).c1
  obtain ⟨u0, u1, u2, u3, u4, u5, u6, u7⟩ := P6.out.alloc (.cells #[.int .i64 W, .bool r2, .int .u32 A, .int .i64 S, .int .u32 D] 28)
  obtain ⟨v0, v1, v2, v3, v4⟩ := R6.out.alloc (.cells #[.int .i64 W, .bool r2, .int .u32 A, .int .i64 S, .int .u32 D] 28)
  go_wp2_with fail
  refine calls_letter ?_
  intro Z hZ
  clear sx u0 u1 u2 u3 u4 u5 u6 u7 v0 v1 v2 v3 v4
  clear k0 k1 k2 k3 k4 k5 k6 k7
  clear s0 s1 s2 s3 s4 s5 s6 s7
  clear m0 m1 m2 m3 m4
  have hz : Below w6.heap.size w6 Z := by rw [hZ.out]; repeat (first | exact Below.refl _ _ | refine Below.setCell ?_ (by simp) _ | refine Below.alloc ?_ (by simp) _)
  have P7 := Lib.hid (P6.out.keep hz)
  have S7 := Lib.hid (S6.out.keep hz)
  have R7 := Lib.hid (R6.out.keep hz)
  have T7 := Lib.hid (show Five Z w6.heap.size W r2 A S D by rw [hZ.out]; constructor <;> simp [go_sem])
  have B7 := Lib.hid (B6.out.trans (hz.mono B6.out.size))
  clear hz hZ P6 S6 R6 B6
  obtain ⟨g, hg⟩ : ∃ g, w6.heap.size = g := ⟨_, rfl⟩
  rw [hg] at T7
  rw [hg]
  clear hg
  refine (q5 _).mono ?_
  rintro e w8 ⟨rfl, hb⟩
  have P8 := Lib.hid (P7.out.keep hb)
  have S8 := Lib.hid (S7.out.keep hb)
  have R8 := Lib.hid (R7.out.keep hb)
  have T8 := Lib.hid (T7.out.keep hb)
  have B8 := Lib.hid (B7.out.trans (hb.mono B7.out.size))
  clear hb P7 S7 R7 T7 B7
  obtain ⟨k0, k1, k2, k3, k4, k5, k6, k7⟩ := P8.out
  obtain ⟨s0, s1, s2, s3, s4, s5, s6, s7⟩ := S8.out
  obtain ⟨m0, m1, m2, m3, m4⟩ := R8.out
  obtain ⟨n0, n1, n2, n3, n4⟩ := T8.out
  go_wp2_with fail
  refine (q6 _).mono ?_
  rintro e w9 ⟨rfl, hb⟩
  clear k0 k1 k2 k3 k4 k5 k6 k7
  clear s0 s1 s2 s3 s4 s5 s6 s7
  clear m0 m1 m2 m3 m4
  clear n0 n1 n2 n3 n4
  have P9 := Lib.hid (P8.out.keep hb)
  have S9 := Lib.hid (S8.out.keep hb)
  have R9 := Lib.hid (R8.out.keep hb)
  have T9 := Lib.hid (T8.out.keep hb)
  have B9 := Lib.hid (B8.out.trans (hb.mono B8.out.size))
  clear hb P8 S8 R8 T8 B8
  obtain ⟨k0, k1, k2, k3, k4, k5, k6, k7⟩ := P9.out
  obtain ⟨s0, s1, s2, s3, s4, s5, s6, s7⟩ := S9.out
  obtain ⟨m0, m1, m2, m3, m4⟩ := R9.out
  obtain ⟨n0, n1, n2, n3, n4⟩ := T9.out
  go_wp2_with fail
  go_ret
  exact ⟨rfl, B9.out⟩

set_option maxRecDepth 100000 in
set_option maxHeartbeats 1000000 in
theorem cl_e6f (W F T : Int) (rd wr : Bool) (K : Int) (lk : Bool) (G U : Int) (re we : Bool) (L : Int) (ke : Bool) (W2 : Int) (r2 : Bool) (A S D : Int) (z : Int) (w : World)
    (qc : ∀ w, Calls Try.prog 11 #[reg true W F T rd wr K lk, reg true W G U re we L ke] w fun e w' => e = .returned (.bool false) ∧ Below w.heap.size w w')
    (qd : ∀ w, Calls Try.prog 11 #[reg true W G U re we L ke, reg true W F T rd wr K lk] w fun e w' => e = .returned (.bool false) ∧ Below w.heap.size w w')
    (q1 : ∀ w, Calls Try.prog 12 #[reg true W F T rd wr K lk] w fun e w' => e = .returned (.bool true) ∧ Below w.heap.size w w')
    (q2 : ∀ w, Calls Try.prog 12 #[reg true W G U re we L ke] w fun e w' => e = .returned (.bool true) ∧ Below w.heap.size w w')
    (q3 : ∀ w, Calls Try.prog 13 #[.agg #[.int .u32 F, .int .u32 T], .int .u32 z] w fun e w' => e = .returned (.bool true) ∧ Below w.heap.size w w')
    (q4 : ∀ w, Calls Try.prog 13 #[.agg #[.int .u32 G, .int .u32 U], .int .u32 z] w fun e w' => e = .returned (.bool true) ∧ Below w.heap.size w w')
    (q5 : ∀ w, Calls Try.prog 14 #[reg true W F T rd wr K lk, acc W2 r2 A S D] w fun e w' => e = .returned (.bool false) ∧ Below w.heap.size w w') :
    Calls Try.prog 5 #[reg true W F T rd wr K lk, reg true W G U re we L ke, acc W2 r2 A S D, .int .u32 z] w fun e w' => e = .returned (.bool true) ∧ Below w.heap.size w w' := by
  go_enter Try.func5, Try.ntmps5
  go_wp2_with fail
  refine calls_letter ?_
  intro X hX
  have B0 := Lib.hid (show Below w.heap.size w X by rw [hX.out]; exact (((Below.refl _ _).alloc (Nat.le_refl _) _).alloc (by simp) _).alloc (by simp; omega) _)
  have P0 := Lib.hid (show Eight X w.heap.size true W F T rd wr K lk by rw [hX.out]; exact ((eight_new w true W F T rd wr K lk 26).alloc _).alloc _)
  have S0 := Lib.hid (show Eight X (w.heap.size + 1) true W G U re we L ke by rw [hX.out]; have := (eight_new (w.alloc (.cells #[.bool true, .int .i64 W, .int .u32 F, .int .u32 T, .bool rd, .bool wr, .int .i64 K, .bool lk] 26)) true W G U re we L ke 26).alloc (.cells #[.int .i64 W2, .bool r2, .int .u32 A, .int .i64 S, .int .u32 D] 28); simpa using this)
  have R0 := Lib.hid (show Five X (w.heap.size + 2) W2 r2 A S D by rw [hX.out]; have := five_new ((w.alloc (.cells #[.bool true, .int .i64 W, .int .u32 F, .int .u32 T, .bool rd, .bool wr, .int .i64 K, .bool lk] 26)).alloc (.cells #[.bool true, .int .i64 W, .int .u32 G, .int .u32 U, .bool re, .bool we, .int .i64 L, .bool ke] 26)) W2 r2 A S D 28; simpa using this)
  clear hX
  refine (awake_any _).mono ?_
  rintro e w1 ⟨rfl, hb⟩
  have P1 := Lib.hid (P0.out.keep hb)
  have S1 := Lib.hid (S0.out.keep hb)
  have R1 := Lib.hid (R0.out.keep hb)
  have B1 := Lib.hid (B0.out.trans (hb.mono B0.out.size))
  clear hb P0 S0 R0 B0
  go_wp2_with fail
  refine wp_region_ext (by kernel_rfl) (by kernel_rfl) ?_
  intro Y hY
  obtain rfl := hY.out
  clear hY
  have k0 := ext_cell P1.out.c0
  have k1 := ext_cell P1.out.c1
  have k2 := ext_cell P1.out.c2
  have k3 := ext_cell P1.out.c3
  have k4 := ext_cell P1.out.c4
  have k5 := ext_cell P1.out.c5
  have k6 := ext_cell P1.out.c6
  have k7 := ext_cell P1.out.c7
  have s0 := ext_cell S1.out.c0
  have s1 := ext_cell S1.out.c1
  have s2 := ext_cell S1.out.c2
  have s3 := ext_cell S1.out.c3
  have s4 := ext_cell S1.out.c4
  have s5 := ext_cell S1.out.c5
  have s6 := ext_cell S1.out.c6
  have s7 := ext_cell S1.out.c7
  have m0 := ext_cell R1.out.c0
  have m1 := ext_cell R1.out.c1
  have m2 := ext_cell R1.out.c2
  have m3 := ext_cell R1.out.c3
  have m4 := ext_cell R1.out.c4
  repeat (go_big_quiet_step ((first
    | (go_at_call 11; with_reducible exact ext_of (qc _))
    | (go_at_call 11; with_reducible exact ext_of (qd _)))))
  refine wpQuiet_nil ?_
  intro w' hw'
  obtain ⟨q, rfl⟩ := hw'
  clear k0 k1 k2 k3 k4 k5 k6 k7
  clear s0 s1 s2 s3 s4 s5 s6 s7
  clear m0 m1 m2 m3 m4
  have P2 := Lib.hid (P1.out.keep (ext_below Y q))
  have S2 := Lib.hid (S1.out.keep (ext_below Y q))
  have R2 := Lib.hid (R1.out.keep (ext_below Y q))
  have B2 := Lib.hid (B1.out.trans ((ext_below Y q).mono B1.out.size))
  obtain ⟨w2, hw2⟩ : ∃ Z, Z = ext Y q := ⟨_, rfl⟩
  rw [← hw2] at P2 S2 R2 B2
  rw [← hw2]
  clear hw2 P1 S1 R1 B1
  obtain ⟨k0, k1, k2, k3, k4, k5, k6, k7⟩ := P2.out
  obtain ⟨s0, s1, s2, s3, s4, s5, s6, s7⟩ := S2.out
  obtain ⟨m0, m1, m2, m3, m4⟩ := R2.out
  go_wp2_with fail
  refine (q1 _).mono ?_
  rintro e w3 ⟨rfl, hb⟩
  clear k0 k1 k2 k3 k4 k5 k6 k7
  clear s0 s1 s2 s3 s4 s5 s6 s7
  clear m0 m1 m2 m3 m4
  have P3 := Lib.hid (P2.out.keep hb)
  have S3 := Lib.hid (S2.out.keep hb)
  have R3 := Lib.hid (R2.out.keep hb)
  have B3 := Lib.hid (B2.out.trans (hb.mono B2.out.size))
  clear hb P2 S2 R2 B2
  obtain ⟨k0, k1, k2, k3, k4, k5, k6, k7⟩ := P3.out
  obtain ⟨s0, s1, s2, s3, s4, s5, s6, s7⟩ := S3.out
  obtain ⟨m0, m1, m2, m3, m4⟩ := R3.out
  go_wp2_with fail
  refine (q2 _).mono ?_
  rintro e w4 ⟨rfl, hb⟩
  clear k0 k1 k2 k3 k4 k5 k6 k7
  clear s0 s1 s2 s3 s4 s5 s6 s7
  clear m0 m1 m2 m3 m4
  have P4 := Lib.hid (P3.out.keep hb)
  have S4 := Lib.hid (S3.out.keep hb)
  have R4 := Lib.hid (R3.out.keep hb)
  have B4 := Lib.hid (B3.out.trans (hb.mono B3.out.size))
  clear hb P3 S3 R3 B3
  obtain ⟨k0, k1, k2, k3, k4, k5, k6, k7⟩ := P4.out
  obtain ⟨s0, s1, s2, s3, s4, s5, s6, s7⟩ := S4.out
  obtain ⟨m0, m1, m2, m3, m4⟩ := R4.out
  go_wp2_with fail
  refine (q3 _).mono ?_
  rintro e w5 ⟨rfl, hb⟩
  clear k0 k1 k2 k3 k4 k5 k6 k7
  clear s0 s1 s2 s3 s4 s5 s6 s7
  clear m0 m1 m2 m3 m4
  have P5 := Lib.hid (P4.out.keep hb)
  have S5 := Lib.hid (S4.out.keep hb)
  have R5 := Lib.hid (R4.out.keep hb)
  have B5 := Lib.hid (B4.out.trans (hb.mono B4.out.size))
  clear hb P4 S4 R4 B4
  obtain ⟨k0, k1, k2, k3, k4, k5, k6, k7⟩ := P5.out
  obtain ⟨s0, s1, s2, s3, s4, s5, s6, s7⟩ := S5.out
  obtain ⟨m0, m1, m2, m3, m4⟩ := R5.out
  go_wp2_with fail
  refine (q4 _).mono ?_
  rintro e w6 ⟨rfl, hb⟩
  clear k0 k1 k2 k3 k4 k5 k6 k7
  clear s0 s1 s2 s3 s4 s5 s6 s7
  clear m0 m1 m2 m3 m4
  have P6 := Lib.hid (P5.out.keep hb)
  have S6 := Lib.hid (S5.out.keep hb)
  have R6 := Lib.hid (R5.out.keep hb)
  have B6 := Lib.hid (B5.out.trans (hb.mono B5.out.size))
  clear hb P5 S5 R5 B5
  obtain ⟨k0, k1, k2, k3, k4, k5, k6, k7⟩ := P6.out
  obtain ⟨s0, s1, s2, s3, s4, s5, s6, s7⟩ := S6.out
  obtain ⟨m0, m1, m2, m3, m4⟩ := R6.out
  have sx := (S6.out.alloc (.cells #[.int .i64 W2, .bool r2, .int .u32 A, .int .i64 S, .int .u32 D] 28)).c1
  obtain ⟨u0, u1, u2, u3, u4, u5, u6, u7⟩ := P6.out.alloc (.cells #[.int .i64 W, .bool r2, .int .u32 A, .int .i64 S, .int .u32 D] 28)
  obtain ⟨v0, v1, v2, v3, v4⟩ := R6.out.alloc (.cells #[.int .i64 W, .bool r2, .int .u32 A, .int .i64 S, .int .u32 D] 28)
  go_wp2_with fail
  refine calls_letter ?_
  intro Z hZ
  clear sx u0 u1 u2 u3 u4 u5 u6 u7 v0 v1 v2 v3 v4
  clear k0 k1 k2 k3 k4 k5 k6 k7
  clear s0 s1 s2 s3 s4 s5 s6 s7
  clear m0 m1 m2 m3 m4
  have hz : Below w6.heap.size w6 Z := by rw [hZ.out]; repeat (first | exact Below.refl _ _ | refine Below.setCell ?_ (by simp) _ | refine Below.alloc ?_ (by simp) _)
  have P7 := Lib.hid (P6.out.keep hz)
  have S7 := Lib.hid (S6.out.keep hz)
  have R7 := Lib.hid (R6.out.keep hz)
  have T7 := Lib.hid (show Five Z w6.heap.size W r2 A S D by rw [hZ.out]; constructor <;> simp [go_sem])
  have B7 := Lib.hid (B6.out.trans (hz.mono B6.out.size))
  clear hz hZ P6 S6 R6 B6
  obtain ⟨g, hg⟩ : ∃ g, w6.heap.size = g := ⟨_, rfl⟩
  rw [hg] at T7
  rw [hg]
  clear hg
  refine (q5 _).mono ?_
  rintro e w8 ⟨rfl, hb⟩
  have P8 := Lib.hid (P7.out.keep hb)
  have S8 := Lib.hid (S7.out.keep hb)
  have R8 := Lib.hid (R7.out.keep hb)
  have T8 := Lib.hid (T7.out.keep hb)
  have B8 := Lib.hid (B7.out.trans (hb.mono B7.out.size))
  clear hb P7 S7 R7 T7 B7
  obtain ⟨k0, k1, k2, k3, k4, k5, k6, k7⟩ := P8.out
  obtain ⟨s0, s1, s2, s3, s4, s5, s6, s7⟩ := S8.out
  obtain ⟨m0, m1, m2, m3, m4⟩ := R8.out
  obtain ⟨n0, n1, n2, n3, n4⟩ := T8.out
  go_wp2_with fail
  go_ret
  exact ⟨rfl, B8.out⟩

set_option maxRecDepth 100000 in
set_option maxHeartbeats 1000000 in
theorem cl_e6tf (W F T : Int) (rd wr : Bool) (K : Int) (lk : Bool) (G U : Int) (re we : Bool) (L : Int) (ke : Bool) (W2 : Int) (r2 : Bool) (A S D : Int) (z : Int) (w : World)
    (qc : ∀ w, Calls Try.prog 11 #[reg true W F T rd wr K lk, reg true W G U re we L ke] w fun e w' => e = .returned (.bool false) ∧ Below w.heap.size w w')
    (qd : ∀ w, Calls Try.prog 11 #[reg true W G U re we L ke, reg true W F T rd wr K lk] w fun e w' => e = .returned (.bool false) ∧ Below w.heap.size w w')
    (q1 : ∀ w, Calls Try.prog 12 #[reg true W F T rd wr K lk] w fun e w' => e = .returned (.bool true) ∧ Below w.heap.size w w')
    (q2 : ∀ w, Calls Try.prog 12 #[reg true W G U re we L ke] w fun e w' => e = .returned (.bool true) ∧ Below w.heap.size w w')
    (q3 : ∀ w, Calls Try.prog 13 #[.agg #[.int .u32 F, .int .u32 T], .int .u32 z] w fun e w' => e = .returned (.bool true) ∧ Below w.heap.size w w')
    (q4 : ∀ w, Calls Try.prog 13 #[.agg #[.int .u32 G, .int .u32 U], .int .u32 z] w fun e w' => e = .returned (.bool true) ∧ Below w.heap.size w w')
    (q5 : ∀ w, Calls Try.prog 14 #[reg true W F T rd wr K lk, acc W2 r2 A S D] w fun e w' => e = .returned (.bool true) ∧ Below w.heap.size w w')
    (q6 : ∀ w, Calls Try.prog 14 #[reg true W G U re we L ke, acc W r2 A S D] w fun e w' => e = .returned (.bool false) ∧ Below w.heap.size w w') :
    Calls Try.prog 5 #[reg true W F T rd wr K lk, reg true W G U re we L ke, acc W2 r2 A S D, .int .u32 z] w fun e w' => e = .returned (.bool true) ∧ Below w.heap.size w w' := by
  go_enter Try.func5, Try.ntmps5
  go_wp2_with fail
  refine calls_letter ?_
  intro X hX
  have B0 := Lib.hid (show Below w.heap.size w X by rw [hX.out]; exact (((Below.refl _ _).alloc (Nat.le_refl _) _).alloc (by simp) _).alloc (by simp; omega) _)
  have P0 := Lib.hid (show Eight X w.heap.size true W F T rd wr K lk by rw [hX.out]; exact ((eight_new w true W F T rd wr K lk 26).alloc _).alloc _)
  have S0 := Lib.hid (show Eight X (w.heap.size + 1) true W G U re we L ke by rw [hX.out]; have := (eight_new (w.alloc (.cells #[.bool true, .int .i64 W, .int .u32 F, .int .u32 T, .bool rd, .bool wr, .int .i64 K, .bool lk] 26)) true W G U re we L ke 26).alloc (.cells #[.int .i64 W2, .bool r2, .int .u32 A, .int .i64 S, .int .u32 D] 28); simpa using this)
  have R0 := Lib.hid (show Five X (w.heap.size + 2) W2 r2 A S D by rw [hX.out]; have := five_new ((w.alloc (.cells #[.bool true, .int .i64 W, .int .u32 F, .int .u32 T, .bool rd, .bool wr, .int .i64 K, .bool lk] 26)).alloc (.cells #[.bool true, .int .i64 W, .int .u32 G, .int .u32 U, .bool re, .bool we, .int .i64 L, .bool ke] 26)) W2 r2 A S D 28; simpa using this)
  clear hX
  refine (awake_any _).mono ?_
  rintro e w1 ⟨rfl, hb⟩
  have P1 := Lib.hid (P0.out.keep hb)
  have S1 := Lib.hid (S0.out.keep hb)
  have R1 := Lib.hid (R0.out.keep hb)
  have B1 := Lib.hid (B0.out.trans (hb.mono B0.out.size))
  clear hb P0 S0 R0 B0
  go_wp2_with fail
  refine wp_region_ext (by kernel_rfl) (by kernel_rfl) ?_
  intro Y hY
  obtain rfl := hY.out
  clear hY
  have k0 := ext_cell P1.out.c0
  have k1 := ext_cell P1.out.c1
  have k2 := ext_cell P1.out.c2
  have k3 := ext_cell P1.out.c3
  have k4 := ext_cell P1.out.c4
  have k5 := ext_cell P1.out.c5
  have k6 := ext_cell P1.out.c6
  have k7 := ext_cell P1.out.c7
  have s0 := ext_cell S1.out.c0
  have s1 := ext_cell S1.out.c1
  have s2 := ext_cell S1.out.c2
  have s3 := ext_cell S1.out.c3
  have s4 := ext_cell S1.out.c4
  have s5 := ext_cell S1.out.c5
  have s6 := ext_cell S1.out.c6
  have s7 := ext_cell S1.out.c7
  have m0 := ext_cell R1.out.c0
  have m1 := ext_cell R1.out.c1
  have m2 := ext_cell R1.out.c2
  have m3 := ext_cell R1.out.c3
  have m4 := ext_cell R1.out.c4
  repeat (go_big_quiet_step ((first
    | (go_at_call 11; with_reducible exact ext_of (qc _))
    | (go_at_call 11; with_reducible exact ext_of (qd _)))))
  refine wpQuiet_nil ?_
  intro w' hw'
  obtain ⟨q, rfl⟩ := hw'
  clear k0 k1 k2 k3 k4 k5 k6 k7
  clear s0 s1 s2 s3 s4 s5 s6 s7
  clear m0 m1 m2 m3 m4
  have P2 := Lib.hid (P1.out.keep (ext_below Y q))
  have S2 := Lib.hid (S1.out.keep (ext_below Y q))
  have R2 := Lib.hid (R1.out.keep (ext_below Y q))
  have B2 := Lib.hid (B1.out.trans ((ext_below Y q).mono B1.out.size))
  obtain ⟨w2, hw2⟩ : ∃ Z, Z = ext Y q := ⟨_, rfl⟩
  rw [← hw2] at P2 S2 R2 B2
  rw [← hw2]
  clear hw2 P1 S1 R1 B1
  obtain ⟨k0, k1, k2, k3, k4, k5, k6, k7⟩ := P2.out
  obtain ⟨s0, s1, s2, s3, s4, s5, s6, s7⟩ := S2.out
  obtain ⟨m0, m1, m2, m3, m4⟩ := R2.out
  go_wp2_with fail
  refine (q1 _).mono ?_
  rintro e w3 ⟨rfl, hb⟩
  clear k0 k1 k2 k3 k4 k5 k6 k7
  clear s0 s1 s2 s3 s4 s5 s6 s7
  clear m0 m1 m2 m3 m4
  have P3 := Lib.hid (P2.out.keep hb)
  have S3 := Lib.hid (S2.out.keep hb)
  have R3 := Lib.hid (R2.out.keep hb)
  have B3 := Lib.hid (B2.out.trans (hb.mono B2.out.size))
  clear hb P2 S2 R2 B2
  obtain ⟨k0, k1, k2, k3, k4, k5, k6, k7⟩ := P3.out
  obtain ⟨s0, s1, s2, s3, s4, s5, s6, s7⟩ := S3.out
  obtain ⟨m0, m1, m2, m3, m4⟩ := R3.out
  go_wp2_with fail
  refine (q2 _).mono ?_
  rintro e w4 ⟨rfl, hb⟩
  clear k0 k1 k2 k3 k4 k5 k6 k7
  clear s0 s1 s2 s3 s4 s5 s6 s7
  clear m0 m1 m2 m3 m4
  have P4 := Lib.hid (P3.out.keep hb)
  have S4 := Lib.hid (S3.out.keep hb)
  have R4 := Lib.hid (R3.out.keep hb)
  have B4 := Lib.hid (B3.out.trans (hb.mono B3.out.size))
  clear hb P3 S3 R3 B3
  obtain ⟨k0, k1, k2, k3, k4, k5, k6, k7⟩ := P4.out
  obtain ⟨s0, s1, s2, s3, s4, s5, s6, s7⟩ := S4.out
  obtain ⟨m0, m1, m2, m3, m4⟩ := R4.out
  go_wp2_with fail
  refine (q3 _).mono ?_
  rintro e w5 ⟨rfl, hb⟩
  clear k0 k1 k2 k3 k4 k5 k6 k7
  clear s0 s1 s2 s3 s4 s5 s6 s7
  clear m0 m1 m2 m3 m4
  have P5 := Lib.hid (P4.out.keep hb)
  have S5 := Lib.hid (S4.out.keep hb)
  have R5 := Lib.hid (R4.out.keep hb)
  have B5 := Lib.hid (B4.out.trans (hb.mono B4.out.size))
  clear hb P4 S4 R4 B4
  obtain ⟨k0, k1, k2, k3, k4, k5, k6, k7⟩ := P5.out
  obtain ⟨s0, s1, s2, s3, s4, s5, s6, s7⟩ := S5.out
  obtain ⟨m0, m1, m2, m3, m4⟩ := R5.out
  go_wp2_with fail
  refine (q4 _).mono ?_
  rintro e w6 ⟨rfl, hb⟩
  clear k0 k1 k2 k3 k4 k5 k6 k7
  clear s0 s1 s2 s3 s4 s5 s6 s7
  clear m0 m1 m2 m3 m4
  have P6 := Lib.hid (P5.out.keep hb)
  have S6 := Lib.hid (S5.out.keep hb)
  have R6 := Lib.hid (R5.out.keep hb)
  have B6 := Lib.hid (B5.out.trans (hb.mono B5.out.size))
  clear hb P5 S5 R5 B5
  obtain ⟨k0, k1, k2, k3, k4, k5, k6, k7⟩ := P6.out
  obtain ⟨s0, s1, s2, s3, s4, s5, s6, s7⟩ := S6.out
  obtain ⟨m0, m1, m2, m3, m4⟩ := R6.out
  have sx := (S6.out.alloc (.cells #[.int .i64 W2, .bool r2, .int .u32 A, .int .i64 S, .int .u32 D] 28)).c1
  obtain ⟨u0, u1, u2, u3, u4, u5, u6, u7⟩ := P6.out.alloc (.cells #[.int .i64 W, .bool r2, .int .u32 A, .int .i64 S, .int .u32 D] 28)
  obtain ⟨v0, v1, v2, v3, v4⟩ := R6.out.alloc (.cells #[.int .i64 W, .bool r2, .int .u32 A, .int .i64 S, .int .u32 D] 28)
  go_wp2_with fail
  refine calls_letter ?_
  intro Z hZ
  clear sx u0 u1 u2 u3 u4 u5 u6 u7 v0 v1 v2 v3 v4
  clear k0 k1 k2 k3 k4 k5 k6 k7
  clear s0 s1 s2 s3 s4 s5 s6 s7
  clear m0 m1 m2 m3 m4
  have hz : Below w6.heap.size w6 Z := by rw [hZ.out]; repeat (first | exact Below.refl _ _ | refine Below.setCell ?_ (by simp) _ | refine Below.alloc ?_ (by simp) _)
  have P7 := Lib.hid (P6.out.keep hz)
  have S7 := Lib.hid (S6.out.keep hz)
  have R7 := Lib.hid (R6.out.keep hz)
  have T7 := Lib.hid (show Five Z w6.heap.size W r2 A S D by rw [hZ.out]; constructor <;> simp [go_sem])
  have B7 := Lib.hid (B6.out.trans (hz.mono B6.out.size))
  clear hz hZ P6 S6 R6 B6
  obtain ⟨g, hg⟩ : ∃ g, w6.heap.size = g := ⟨_, rfl⟩
  rw [hg] at T7
  rw [hg]
  clear hg
  refine (q5 _).mono ?_
  rintro e w8 ⟨rfl, hb⟩
  have P8 := Lib.hid (P7.out.keep hb)
  have S8 := Lib.hid (S7.out.keep hb)
  have R8 := Lib.hid (R7.out.keep hb)
  have T8 := Lib.hid (T7.out.keep hb)
  have B8 := Lib.hid (B7.out.trans (hb.mono B7.out.size))
  clear hb P7 S7 R7 T7 B7
  obtain ⟨k0, k1, k2, k3, k4, k5, k6, k7⟩ := P8.out
  obtain ⟨s0, s1, s2, s3, s4, s5, s6, s7⟩ := S8.out
  obtain ⟨m0, m1, m2, m3, m4⟩ := R8.out
  obtain ⟨n0, n1, n2, n3, n4⟩ := T8.out
  go_wp2_with fail
  refine (q6 _).mono ?_
  rintro e w9 ⟨rfl, hb⟩
  clear k0 k1 k2 k3 k4 k5 k6 k7
  clear s0 s1 s2 s3 s4 s5 s6 s7
  clear m0 m1 m2 m3 m4
  clear n0 n1 n2 n3 n4
  have P9 := Lib.hid (P8.out.keep hb)
  have S9 := Lib.hid (S8.out.keep hb)
  have R9 := Lib.hid (R8.out.keep hb)
  have T9 := Lib.hid (T8.out.keep hb)
  have B9 := Lib.hid (B8.out.trans (hb.mono B8.out.size))
  clear hb P8 S8 R8 T8 B8
  obtain ⟨k0, k1, k2, k3, k4, k5, k6, k7⟩ := P9.out
  obtain ⟨s0, s1, s2, s3, s4, s5, s6, s7⟩ := S9.out
  obtain ⟨m0, m1, m2, m3, m4⟩ := R9.out
  obtain ⟨n0, n1, n2, n3, n4⟩ := T9.out
  go_wp2_with fail
  go_ret
  exact ⟨rfl, B9.out⟩

set_option maxRecDepth 100000 in
set_option maxHeartbeats 1000000 in
theorem cl_e6tt (W F T : Int) (rd wr : Bool) (K : Int) (lk : Bool) (G U : Int) (re we : Bool) (L : Int) (ke : Bool) (W2 : Int) (r2 : Bool) (A S D : Int) (z : Int) (w : World)
    (qc : ∀ w, Calls Try.prog 11 #[reg true W F T rd wr K lk, reg true W G U re we L ke] w fun e w' => e = .returned (.bool false) ∧ Below w.heap.size w w')
    (qd : ∀ w, Calls Try.prog 11 #[reg true W G U re we L ke, reg true W F T rd wr K lk] w fun e w' => e = .returned (.bool false) ∧ Below w.heap.size w w')
    (q1 : ∀ w, Calls Try.prog 12 #[reg true W F T rd wr K lk] w fun e w' => e = .returned (.bool true) ∧ Below w.heap.size w w')
    (q2 : ∀ w, Calls Try.prog 12 #[reg true W G U re we L ke] w fun e w' => e = .returned (.bool true) ∧ Below w.heap.size w w')
    (q3 : ∀ w, Calls Try.prog 13 #[.agg #[.int .u32 F, .int .u32 T], .int .u32 z] w fun e w' => e = .returned (.bool true) ∧ Below w.heap.size w w')
    (q4 : ∀ w, Calls Try.prog 13 #[.agg #[.int .u32 G, .int .u32 U], .int .u32 z] w fun e w' => e = .returned (.bool true) ∧ Below w.heap.size w w')
    (q5 : ∀ w, Calls Try.prog 14 #[reg true W F T rd wr K lk, acc W2 r2 A S D] w fun e w' => e = .returned (.bool true) ∧ Below w.heap.size w w')
    (q6 : ∀ w, Calls Try.prog 14 #[reg true W G U re we L ke, acc W r2 A S D] w fun e w' => e = .returned (.bool true) ∧ Below w.heap.size w w') :
    Calls Try.prog 5 #[reg true W F T rd wr K lk, reg true W G U re we L ke, acc W2 r2 A S D, .int .u32 z] w fun e w' => e = .returned (.bool true) ∧ Below w.heap.size w w' := by
  go_enter Try.func5, Try.ntmps5
  go_wp2_with fail
  refine calls_letter ?_
  intro X hX
  have B0 := Lib.hid (show Below w.heap.size w X by rw [hX.out]; exact (((Below.refl _ _).alloc (Nat.le_refl _) _).alloc (by simp) _).alloc (by simp; omega) _)
  have P0 := Lib.hid (show Eight X w.heap.size true W F T rd wr K lk by rw [hX.out]; exact ((eight_new w true W F T rd wr K lk 26).alloc _).alloc _)
  have S0 := Lib.hid (show Eight X (w.heap.size + 1) true W G U re we L ke by rw [hX.out]; have := (eight_new (w.alloc (.cells #[.bool true, .int .i64 W, .int .u32 F, .int .u32 T, .bool rd, .bool wr, .int .i64 K, .bool lk] 26)) true W G U re we L ke 26).alloc (.cells #[.int .i64 W2, .bool r2, .int .u32 A, .int .i64 S, .int .u32 D] 28); simpa using this)
  have R0 := Lib.hid (show Five X (w.heap.size + 2) W2 r2 A S D by rw [hX.out]; have := five_new ((w.alloc (.cells #[.bool true, .int .i64 W, .int .u32 F, .int .u32 T, .bool rd, .bool wr, .int .i64 K, .bool lk] 26)).alloc (.cells #[.bool true, .int .i64 W, .int .u32 G, .int .u32 U, .bool re, .bool we, .int .i64 L, .bool ke] 26)) W2 r2 A S D 28; simpa using this)
  clear hX
  refine (awake_any _).mono ?_
  rintro e w1 ⟨rfl, hb⟩
  have P1 := Lib.hid (P0.out.keep hb)
  have S1 := Lib.hid (S0.out.keep hb)
  have R1 := Lib.hid (R0.out.keep hb)
  have B1 := Lib.hid (B0.out.trans (hb.mono B0.out.size))
  clear hb P0 S0 R0 B0
  go_wp2_with fail
  refine wp_region_ext (by kernel_rfl) (by kernel_rfl) ?_
  intro Y hY
  obtain rfl := hY.out
  clear hY
  have k0 := ext_cell P1.out.c0
  have k1 := ext_cell P1.out.c1
  have k2 := ext_cell P1.out.c2
  have k3 := ext_cell P1.out.c3
  have k4 := ext_cell P1.out.c4
  have k5 := ext_cell P1.out.c5
  have k6 := ext_cell P1.out.c6
  have k7 := ext_cell P1.out.c7
  have s0 := ext_cell S1.out.c0
  have s1 := ext_cell S1.out.c1
  have s2 := ext_cell S1.out.c2
  have s3 := ext_cell S1.out.c3
  have s4 := ext_cell S1.out.c4
  have s5 := ext_cell S1.out.c5
  have s6 := ext_cell S1.out.c6
  have s7 := ext_cell S1.out.c7
  have m0 := ext_cell R1.out.c0
  have m1 := ext_cell R1.out.c1
  have m2 := ext_cell R1.out.c2
  have m3 := ext_cell R1.out.c3
  have m4 := ext_cell R1.out.c4
  repeat (go_big_quiet_step ((first
    | (go_at_call 11; with_reducible exact ext_of (qc _))
    | (go_at_call 11; with_reducible exact ext_of (qd _)))))
  refine wpQuiet_nil ?_
  intro w' hw'
  obtain ⟨q, rfl⟩ := hw'
  clear k0 k1 k2 k3 k4 k5 k6 k7
  clear s0 s1 s2 s3 s4 s5 s6 s7
  clear m0 m1 m2 m3 m4
  have P2 := Lib.hid (P1.out.keep (ext_below Y q))
  have S2 := Lib.hid (S1.out.keep (ext_below Y q))
  have R2 := Lib.hid (R1.out.keep (ext_below Y q))
  have B2 := Lib.hid (B1.out.trans ((ext_below Y q).mono B1.out.size))
  obtain ⟨w2, hw2⟩ : ∃ Z, Z = ext Y q := ⟨_, rfl⟩
  rw [← hw2] at P2 S2 R2 B2
  rw [← hw2]
  clear hw2 P1 S1 R1 B1
  obtain ⟨k0, k1, k2, k3, k4, k5, k6, k7⟩ := P2.out
  obtain ⟨s0, s1, s2, s3, s4, s5, s6, s7⟩ := S2.out
  obtain ⟨m0, m1, m2, m3, m4⟩ := R2.out
  go_wp2_with fail
  refine (q1 _).mono ?_
  rintro e w3 ⟨rfl, hb⟩
  clear k0 k1 k2 k3 k4 k5 k6 k7
  clear s0 s1 s2 s3 s4 s5 s6 s7
  clear m0 m1 m2 m3 m4
  have P3 := Lib.hid (P2.out.keep hb)
  have S3 := Lib.hid (S2.out.keep hb)
  have R3 := Lib.hid (R2.out.keep hb)
  have B3 := Lib.hid (B2.out.trans (hb.mono B2.out.size))
  clear hb P2 S2 R2 B2
  obtain ⟨k0, k1, k2, k3, k4, k5, k6, k7⟩ := P3.out
  obtain ⟨s0, s1, s2, s3, s4, s5, s6, s7⟩ := S3.out
  obtain ⟨m0, m1, m2, m3, m4⟩ := R3.out
  go_wp2_with fail
  refine (q2 _).mono ?_
  rintro e w4 ⟨rfl, hb⟩
  clear k0 k1 k2 k3 k4 k5 k6 k7
  clear s0 s1 s2 s3 s4 s5 s6 s7
  clear m0 m1 m2 m3 m4
  have P4 := Lib.hid (P3.out.keep hb)
  have S4 := Lib.hid (S3.out.keep hb)
  have R4 := Lib.hid (R3.out.keep hb)
  have B4 := Lib.hid (B3.out.trans (hb.mono B3.out.size))
  clear hb P3 S3 R3 B3
  obtain ⟨k0, k1, k2, k3, k4, k5, k6, k7⟩ := P4.out
  obtain ⟨s0, s1, s2, s3, s4, s5, s6, s7⟩ := S4.out
  obtain ⟨m0, m1, m2, m3, m4⟩ := R4.out
  go_wp2_with fail
  refine (q3 _).mono ?_
  rintro e w5 ⟨rfl, hb⟩
  clear k0 k1 k2 k3 k4 k5 k6 k7
  clear s0 s1 s2 s3 s4 s5 s6 s7
  clear m0 m1 m2 m3 m4
  have P5 := Lib.hid (P4.out.keep hb)
  have S5 := Lib.hid (S4.out.keep hb)
  have R5 := Lib.hid (R4.out.keep hb)
  have B5 := Lib.hid (B4.out.trans (hb.mono B4.out.size))
  clear hb P4 S4 R4 B4
  obtain ⟨k0, k1, k2, k3, k4, k5, k6, k7⟩ := P5.out
  obtain ⟨s0, s1, s2, s3, s4, s5, s6, s7⟩ := S5.out
  obtain ⟨m0, m1, m2, m3, m4⟩ := R5.out
  go_wp2_with fail
  refine (q4 _).mono ?_
  rintro e w6 ⟨rfl, hb⟩
  clear k0 k1 k2 k3 k4 k5 k6 k7
  clear s0 s1 s2 s3 s4 s5 s6 s7
  clear m0 m1 m2 m3 m4
  have P6 := Lib.hid (P5.out.keep hb)
  have S6 := Lib.hid (S5.out.keep hb)
  have R6 := Lib.hid (R5.out.keep hb)
  have B6 := Lib.hid (B5.out.trans (hb.mono B5.out.size))
  clear hb P5 S5 R5 B5
  obtain ⟨k0, k1, k2, k3, k4, k5, k6, k7⟩ := P6.out
  obtain ⟨s0, s1, s2, s3, s4, s5, s6, s7⟩ := S6.out
  obtain ⟨m0, m1, m2, m3, m4⟩ := R6.out
  have sx := (S6.out.alloc (.cells #[.int .i64 W2, .bool r2, .int .u32 A, .int .i64 S, .int .u32 D] 28)).c1
  obtain ⟨u0, u1, u2, u3, u4, u5, u6, u7⟩ := P6.out.alloc (.cells #[.int .i64 W, .bool r2, .int .u32 A, .int .i64 S, .int .u32 D] 28)
  obtain ⟨v0, v1, v2, v3, v4⟩ := R6.out.alloc (.cells #[.int .i64 W, .bool r2, .int .u32 A, .int .i64 S, .int .u32 D] 28)
  go_wp2_with fail
  refine calls_letter ?_
  intro Z hZ
  clear sx u0 u1 u2 u3 u4 u5 u6 u7 v0 v1 v2 v3 v4
  clear k0 k1 k2 k3 k4 k5 k6 k7
  clear s0 s1 s2 s3 s4 s5 s6 s7
  clear m0 m1 m2 m3 m4
  have hz : Below w6.heap.size w6 Z := by rw [hZ.out]; repeat (first | exact Below.refl _ _ | refine Below.setCell ?_ (by simp) _ | refine Below.alloc ?_ (by simp) _)
  have P7 := Lib.hid (P6.out.keep hz)
  have S7 := Lib.hid (S6.out.keep hz)
  have R7 := Lib.hid (R6.out.keep hz)
  have T7 := Lib.hid (show Five Z w6.heap.size W r2 A S D by rw [hZ.out]; constructor <;> simp [go_sem])
  have B7 := Lib.hid (B6.out.trans (hz.mono B6.out.size))
  clear hz hZ P6 S6 R6 B6
  obtain ⟨g, hg⟩ : ∃ g, w6.heap.size = g := ⟨_, rfl⟩
  rw [hg] at T7
  rw [hg]
  clear hg
  refine (q5 _).mono ?_
  rintro e w8 ⟨rfl, hb⟩
  have P8 := Lib.hid (P7.out.keep hb)
  have S8 := Lib.hid (S7.out.keep hb)
  have R8 := Lib.hid (R7.out.keep hb)
  have T8 := Lib.hid (T7.out.keep hb)
  have B8 := Lib.hid (B7.out.trans (hb.mono B7.out.size))
  clear hb P7 S7 R7 T7 B7
  obtain ⟨k0, k1, k2, k3, k4, k5, k6, k7⟩ := P8.out
  obtain ⟨s0, s1, s2, s3, s4, s5, s6, s7⟩ := S8.out
  obtain ⟨m0, m1, m2, m3, m4⟩ := R8.out
  obtain ⟨n0, n1, n2, n3, n4⟩ := T8.out
  go_wp2_with fail
  refine (q6 _).mono ?_
  rintro e w9 ⟨rfl, hb⟩
  clear k0 k1 k2 k3 k4 k5 k6 k7
  clear s0 s1 s2 s3 s4 s5 s6 s7
  clear m0 m1 m2 m3 m4
  clear n0 n1 n2 n3 n4
  have P9 := Lib.hid (P8.out.keep hb)
  have S9 := Lib.hid (S8.out.keep hb)
  have R9 := Lib.hid (R8.out.keep hb)
  have T9 := Lib.hid (T8.out.keep hb)
  have B9 := Lib.hid (B8.out.trans (hb.mono B8.out.size))
  clear hb P8 S8 R8 T8 B8
  obtain ⟨k0, k1, k2, k3, k4, k5, k6, k7⟩ := P9.out
  obtain ⟨s0, s1, s2, s3, s4, s5, s6, s7⟩ := S9.out
  obtain ⟨m0, m1, m2, m3, m4⟩ := R9.out
  obtain ⟨n0, n1, n2, n3, n4⟩ := T9.out
  go_wp2_with fail
  go_ret
  exact ⟨rfl, B9.out⟩

end Go.Proofs.Ytploggfaihfeeaa.Region
