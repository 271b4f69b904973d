/- The chapter's example: awake; asks: the package's answers are the document's; the walk of RegionAsks. -/
import Derived.Test.YtploggfaihfeeaaHe
import Derived.OpenShut
namespace Go.Proofs.Ytploggfaihfeeaa.Region
open Go.RowKit Go.Proofs.Ytploggfaihfeeaa.Access
set_option linter.unusedVariables false

theorem calls_letter {P : Program} {f : FuncId} {args : Array Value} {w : World} {Q : Ending → World → Prop} (h : ∀ W, Hid (W = w) → Calls P f args W Q) : Calls P f args w Q := h w (Lib.hid rfl)
theorem code_letter {P : Program} {c : Code} {Q : Exit → Act → World → Prop} {a : Act} {w : World} (h : ∀ W, Hid (W = w) → c.wp P Q a W) : c.wp P Q a w := h w (Lib.hid rfl)
theorem post_letter {P : Program} {F : Func} {Q : Ending → World → Prop} {e : Exit} {a : Act} {w : World} (h : ∀ X, Hid (X = w) → bodyPost P F Q e a X) : bodyPost P F Q e a w := h w (Lib.hid rfl)

theorem example_any (w : World) : Calls Try.prog 10 #[] w fun e w' => e = .returned (reg true 1 256 511 true false 3 false) ∧ Below w.heap.size w w' := by
  go_enter Try.func10, Try.ntmps10
  go_wp2_with fail
  refine bodyPost_ret (v := reg true 1 256 511 true false 3 false) ?_ rfl ⟨rfl, by repeat (first | exact (Below.refl _ _).alloc (Nat.le_refl _) _ | refine Below.setCell ?_ (by simp) _)⟩
  simp [results, Try.results10, go_sem]

set_option maxRecDepth 100000 in
set_option maxHeartbeats 2000000 in
theorem asks_any0 (o : Bool) (W F T : Int) (rd wr : Bool) (K : Int) (lk : Bool) (W2 : Int) (r2 : Bool) (A S D : Int) (p : Bool) (V G U : Int) (re we : Bool) (L : Int) (ke : Bool) (hA : 0 ≤ A) (hA' : A < 4294967296) (hD : 0 ≤ D) (hD' : D < 4294967296) (rb hb lb cb ab : Bool) (w : World) (Hr : Hid (regB o W F T rd wr K lk = rb)) (Hh : Hid (hasV o W F T K W2 r2 A S D = hb)) (Hl : Hid (letsV o W F T rd wr K W2 r2 A S D = lb)) (Hc : Hid (clashV o W F T K p V G U L = cb)) (Ha : Hid (aboveV o W F T K p V G U L = ab)) :
    Calls Try.prog 7 #[reg o W F T rd wr K lk, acc W2 r2 A S D, reg p V G U re we L ke] w fun e w' => e = .returned (.bool true) ∧ Below w.heap.size w w' := by
  go_enter Try.func7, Try.ntmps7
  go_wp2_with fail
  refine wp_region_ext (by kernel_rfl) (by kernel_rfl) ?_
  intro X hX
  have HB := Lib.hid (show Below w.heap.size w X by rw [hX.out]; exact (((Below.refl _ _).alloc (Nat.le_refl _) _).alloc (by simp) _).alloc (by simp; omega) _)
  have P := Lib.hid (show Eight X w.heap.size o W F T rd wr K lk by rw [hX.out]; exact ((eight_new w o W F T rd wr K lk 26).alloc _).alloc _)
  have R := Lib.hid (show Five X (w.heap.size + 1) W2 r2 A S D by rw [hX.out]; have := (five_new (w.alloc (.cells #[.bool o, .int .i64 W, .int .u32 F, .int .u32 T, .bool rd, .bool wr, .int .i64 K, .bool lk] 26)) W2 r2 A S D 28).alloc (.cells #[.bool p, .int .i64 V, .int .u32 G, .int .u32 U, .bool re, .bool we, .int .i64 L, .bool ke] 26); simpa using this)
  have S := Lib.hid (show Eight X (w.heap.size + 2) p V G U re we L ke by rw [hX.out]; have := eight_new ((w.alloc (.cells #[.bool o, .int .i64 W, .int .u32 F, .int .u32 T, .bool rd, .bool wr, .int .i64 K, .bool lk] 26)).alloc (.cells #[.int .i64 W2, .bool r2, .int .u32 A, .int .i64 S, .int .u32 D] 28)) p V G U re we L ke 26; simpa using this)
  clear hX
  have k0 := ext_cell P.out.c0
  have k1 := ext_cell P.out.c1
  have k2 := ext_cell P.out.c2
  have k3 := ext_cell P.out.c3
  have k4 := ext_cell P.out.c4
  have k5 := ext_cell P.out.c5
  have k6 := ext_cell P.out.c6
  have k7 := ext_cell P.out.c7
  have m0 := ext_cell R.out.c0
  have m1 := ext_cell R.out.c1
  have m2 := ext_cell R.out.c2
  have m3 := ext_cell R.out.c3
  have m4 := ext_cell R.out.c4
  have s0 := ext_cell S.out.c0
  have s1 := ext_cell S.out.c1
  have s2 := ext_cell S.out.c2
  have s3 := ext_cell S.out.c3
  have s4 := ext_cell S.out.c4
  have s5 := ext_cell S.out.c5
  have s6 := ext_cell S.out.c6
  have s7 := ext_cell S.out.c7
  clear P R S
  repeat (go_big_quiet_step ((first
    | (go_at_call 12; with_reducible exact ext_of (Right_any o W F T rd wr K lk rb _ Hr.out))
    | (go_at_call 18; with_reducible exact ext_of (rRight_any o W F T rd wr K lk rb _ Hr.out))
    | (go_at_call 14; with_reducible exact ext_of (Has_any o W F T rd wr K lk W2 r2 A S D hb _ hA hA' hD hD' Hh.out))
    | (go_at_call 19; with_reducible exact ext_of (rHas_any o W F T rd wr K lk W2 r2 A S D hb _ hA hA' hD hD' Hh.out))
    | (go_at_call 15; with_reducible exact ext_of (Lets_any o W F T rd wr K lk W2 r2 A S D lb _ hA hA' hD hD' Hl.out))
    | (go_at_call 20; with_reducible exact ext_of (rLets_any o W F T rd wr K lk W2 r2 A S D lb _ hA hA' hD hD' Hl.out))
    | (go_at_call 11; with_reducible exact ext_of (Clash_any o W F T rd wr K lk p V G U re we L ke cb _ Hc.out))
    | (go_at_call 21; with_reducible exact ext_of (rClash_any o W F T rd wr K lk p V G U re we L ke cb _ Hc.out))
    | (go_at_call 17; with_reducible exact ext_of (Above_any o W F T rd wr K lk p V G U re we L ke ab _ Ha.out))
    | (go_at_call 22; with_reducible exact ext_of (rAbove_any o W F T rd wr K lk p V G U re we L ke ab _ Ha.out)))))
  refine wpQuiet_nil ?_
  intro w' hw'
  obtain ⟨q, rfl⟩ := hw'
  go_wp2_with fail
  go_ret
  exact ⟨rfl, HB.out.trans ((ext_below X q).mono HB.out.size)⟩
theorem asks_any (o : Bool) (W F T : Int) (rd wr : Bool) (K : Int) (lk : Bool) (W2 : Int) (r2 : Bool) (A S D : Int) (p : Bool) (V G U : Int) (re we : Bool) (L : Int) (ke : Bool) (hA : 0 ≤ A) (hA' : A < 4294967296) (hD : 0 ≤ D) (hD' : D < 4294967296) (w : World) :
    Calls Try.prog 7 #[reg o W F T rd wr K lk, acc W2 r2 A S D, reg p V G U re we L ke] w fun e w' => e = .returned (.bool true) ∧ Below w.heap.size w w' :=
  asks_any0 o W F T rd wr K lk W2 r2 A S D p V G U re we L ke hA hA' hD hD' _ _ _ _ _ w (Lib.hid rfl) (Lib.hid rfl) (Lib.hid rfl) (Lib.hid rfl) (Lib.hid rfl)

set_option maxRecDepth 100000 in
set_option maxHeartbeats 2000000 in
theorem awake_any (w : World) : Calls Try.prog 8 #[] w fun e w' => e = .returned (.bool true) ∧ Below w.heap.size w w' := by
  go_enter Try.func8, Try.ntmps8
  go_wp2_with fail
  refine (example_any _).mono ?_
  rintro e w1 ⟨rfl, hb⟩
  have B0 := Lib.hid hb
  clear hb
  go_wp2_with fail
  refine calls_letter ?_
  intro X hX
  have B1 := Lib.hid (show Below w.heap.size w X by rw [hX.out]; repeat (first | exact B0.out | refine Below.setCell ?_ (by have := B0.out.size; simp; omega) _ | refine Below.alloc ?_ (by have := B0.out.size; simp; omega) _))
  have P1 := Lib.hid (show Eight X w1.heap.size true 1 256 511 true false 3 false by rw [hX.out]; constructor <;> simp [go_sem])
  have R1 := Lib.hid (show Five X (w1.heap.size + 1) 1 false 508 4 0 by rw [hX.out]; constructor <;> simp [go_sem])
  have T1 := Lib.hid (show Five X (w1.heap.size + 2) 1 true 508 4 0 by rw [hX.out]; constructor <;> simp [go_sem])
  have S1 := Lib.hid (show Eight X (w1.heap.size + 3) true 2 511 767 false false 0 false by rw [hX.out]; constructor <;> simp [go_sem])
  clear hX B0

  refine (Right_any true 1 256 511 true false 3 false true _ (by decide)).mono ?_
  rintro e y1 ⟨rfl, hb⟩
  have P2 := Lib.hid (P1.out.keep hb)
  have R2 := Lib.hid (R1.out.keep hb)
  have T2 := Lib.hid (T1.out.keep hb)
  have S2 := Lib.hid (S1.out.keep hb)
  have B2 := Lib.hid (B1.out.trans (hb.mono B1.out.size))
  clear hb P1 R1 T1 S1 B1
  obtain ⟨k0, k1, k2, k3, k4, k5, k6, k7⟩ := P2.out
  obtain ⟨m0, m1, m2, m3, m4⟩ := R2.out
  obtain ⟨n0, n1, n2, n3, n4⟩ := T2.out
  obtain ⟨s0, s1, s2, s3, s4, s5, s6, s7⟩ := S2.out
  go_wp2_with fail
  refine (Has_any true 1 256 511 true false 3 false 1 false 508 4 0 true _ (by omega) (by omega) (by omega) (by omega) (by decide)).mono ?_
  rintro e y2 ⟨rfl, hb⟩
  clear k0 k1 k2 k3 k4 k5 k6 k7
  clear m0 m1 m2 m3 m4
  clear n0 n1 n2 n3 n4
  clear s0 s1 s2 s3 s4 s5 s6 s7
  have P3 := Lib.hid (P2.out.keep hb)
  have R3 := Lib.hid (R2.out.keep hb)
  have T3 := Lib.hid (T2.out.keep hb)
  have S3 := Lib.hid (S2.out.keep hb)
  have B3 := Lib.hid (B2.out.trans (hb.mono B2.out.size))
  clear hb P2 R2 T2 S2 B2
  obtain ⟨k0, k1, k2, k3, k4, k5, k6, k7⟩ := P3.out
  obtain ⟨m0, m1, m2, m3, m4⟩ := R3.out
  obtain ⟨n0, n1, n2, n3, n4⟩ := T3.out
  obtain ⟨s0, s1, s2, s3, s4, s5, s6, s7⟩ := S3.out
  go_wp2_with fail
  refine (Lets_any true 1 256 511 true false 3 false 1 false 508 4 0 true _ (by omega) (by omega) (by omega) (by omega) (by decide)).mono ?_
  rintro e y3 ⟨rfl, hb⟩
  clear k0 k1 k2 k3 k4 k5 k6 k7
  clear m0 m1 m2 m3 m4
  clear n0 n1 n2 n3 n4
  clear s0 s1 s2 s3 s4 s5 s6 s7
  have P4 := Lib.hid (P3.out.keep hb)
  have R4 := Lib.hid (R3.out.keep hb)
  have T4 := Lib.hid (T3.out.keep hb)
  have S4 := Lib.hid (S3.out.keep hb)
  have B4 := Lib.hid (B3.out.trans (hb.mono B3.out.size))
  clear hb P3 R3 T3 S3 B3
  obtain ⟨k0, k1, k2, k3, k4, k5, k6, k7⟩ := P4.out
  obtain ⟨m0, m1, m2, m3, m4⟩ := R4.out
  obtain ⟨n0, n1, n2, n3, n4⟩ := T4.out
  obtain ⟨s0, s1, s2, s3, s4, s5, s6, s7⟩ := S4.out
  go_wp2_with fail
  refine (Has_any true 1 256 511 true false 3 false 1 true 508 4 0 true _ (by omega) (by omega) (by omega) (by omega) (by decide)).mono ?_
  rintro e y4 ⟨rfl, hb⟩
  clear k0 k1 k2 k3 k4 k5 k6 k7
  clear m0 m1 m2 m3 m4
  clear n0 n1 n2 n3 n4
  clear s0 s1 s2 s3 s4 s5 s6 s7
  have P5 := Lib.hid (P4.out.keep hb)
  have R5 := Lib.hid (R4.out.keep hb)
  have T5 := Lib.hid (T4.out.keep hb)
  have S5 := Lib.hid (S4.out.keep hb)
  have B5 := Lib.hid (B4.out.trans (hb.mono B4.out.size))
  clear hb P4 R4 T4 S4 B4
  obtain ⟨k0, k1, k2, k3, k4, k5, k6, k7⟩ := P5.out
  obtain ⟨m0, m1, m2, m3, m4⟩ := R5.out
  obtain ⟨n0, n1, n2, n3, n4⟩ := T5.out
  obtain ⟨s0, s1, s2, s3, s4, s5, s6, s7⟩ := S5.out
  go_wp2_with fail
  refine (Lets_any true 1 256 511 true false 3 false 1 true 508 4 0 false _ (by omega) (by omega) (by omega) (by omega) (by decide)).mono ?_
  rintro e y5 ⟨rfl, hb⟩
  clear k0 k1 k2 k3 k4 k5 k6 k7
  clear m0 m1 m2 m3 m4
  clear n0 n1 n2 n3 n4
  clear s0 s1 s2 s3 s4 s5 s6 s7
  have P6 := Lib.hid (P5.out.keep hb)
  have R6 := Lib.hid (R5.out.keep hb)
  have T6 := Lib.hid (T5.out.keep hb)
  have S6 := Lib.hid (S5.out.keep hb)
  have B6 := Lib.hid (B5.out.trans (hb.mono B5.out.size))
  clear hb P5 R5 T5 S5 B5
  obtain ⟨k0, k1, k2, k3, k4, k5, k6, k7⟩ := P6.out
  obtain ⟨m0, m1, m2, m3, m4⟩ := R6.out
  obtain ⟨n0, n1, n2, n3, n4⟩ := T6.out
  obtain ⟨s0, s1, s2, s3, s4, s5, s6, s7⟩ := S6.out
  go_wp2_with fail
  refine (Has_any true 1 256 511 true false 3 false 1 false 510 4 0 false _ (by omega) (by omega) (by omega) (by omega) (by decide)).mono ?_
  rintro e y6 ⟨rfl, hb⟩
  clear k0 k1 k2 k3 k4 k5 k6 k7
  clear m0 m1 m2 m3 m4
  clear n0 n1 n2 n3 n4
  clear s0 s1 s2 s3 s4 s5 s6 s7
  have P7 := Lib.hid (P6.out.keep hb)
  have R7 := Lib.hid (R6.out.keep hb)
  have T7 := Lib.hid (T6.out.keep hb)
  have S7 := Lib.hid (S6.out.keep hb)
  have B7 := Lib.hid (B6.out.trans (hb.mono B6.out.size))
  clear hb P6 R6 T6 S6 B6
  obtain ⟨k0, k1, k2, k3, k4, k5, k6, k7⟩ := P7.out
  obtain ⟨m0, m1, m2, m3, m4⟩ := R7.out
  obtain ⟨n0, n1, n2, n3, n4⟩ := T7.out
  obtain ⟨s0, s1, s2, s3, s4, s5, s6, s7⟩ := S7.out
  go_wp2_with fail
  refine (Lets_any true 1 256 511 true false 3 false 1 false 510 2 0 true _ (by omega) (by omega) (by omega) (by omega) (by decide)).mono ?_
  rintro e y7 ⟨rfl, hb⟩
  clear k0 k1 k2 k3 k4 k5 k6 k7
  clear m0 m1 m2 m3 m4
  clear n0 n1 n2 n3 n4
  clear s0 s1 s2 s3 s4 s5 s6 s7
  have P8 := Lib.hid (P7.out.keep hb)
  have R8 := Lib.hid (R7.out.keep hb)
  have T8 := Lib.hid (T7.out.keep hb)
  have S8 := Lib.hid (S7.out.keep hb)
  have B8 := Lib.hid (B7.out.trans (hb.mono B7.out.size))
  clear hb P7 R7 T7 S7 B7
  obtain ⟨k0, k1, k2, k3, k4, k5, k6, k7⟩ := P8.out
  obtain ⟨m0, m1, m2, m3, m4⟩ := R8.out
  obtain ⟨n0, n1, n2, n3, n4⟩ := T8.out
  obtain ⟨s0, s1, s2, s3, s4, s5, s6, s7⟩ := S8.out
  go_wp2_with fail
  refine (Clash_any true 1 256 511 true false 3 false true 2 511 767 false false 0 false true _ (by decide)).mono ?_
  rintro e y8 ⟨rfl, hb⟩
  clear k0 k1 k2 k3 k4 k5 k6 k7
  clear m0 m1 m2 m3 m4
  clear n0 n1 n2 n3 n4
  clear s0 s1 s2 s3 s4 s5 s6 s7
  have P9 := Lib.hid (P8.out.keep hb)
  have R9 := Lib.hid (R8.out.keep hb)
  have T9 := Lib.hid (T8.out.keep hb)
  have S9 := Lib.hid (S8.out.keep hb)
  have B9 := Lib.hid (B8.out.trans (hb.mono B8.out.size))
  clear hb P8 R8 T8 S8 B8
  obtain ⟨k0, k1, k2, k3, k4, k5, k6, k7⟩ := P9.out
  obtain ⟨m0, m1, m2, m3, m4⟩ := R9.out
  obtain ⟨n0, n1, n2, n3, n4⟩ := T9.out
  obtain ⟨s0, s1, s2, s3, s4, s5, s6, s7⟩ := S9.out
  go_wp2_with fail
  refine (Right_any false 0 0 0 false false 0 false true _ (by decide)).mono ?_
  rintro e y9 ⟨rfl, hb⟩
  clear k0 k1 k2 k3 k4 k5 k6 k7
  clear m0 m1 m2 m3 m4
  clear n0 n1 n2 n3 n4
  clear s0 s1 s2 s3 s4 s5 s6 s7
  have P10 := Lib.hid (P9.out.keep hb)
  have R10 := Lib.hid (R9.out.keep hb)
  have T10 := Lib.hid (T9.out.keep hb)
  have S10 := Lib.hid (S9.out.keep hb)
  have B10 := Lib.hid (B9.out.trans (hb.mono B9.out.size))
  clear hb P9 R9 T9 S9 B9
  obtain ⟨k0, k1, k2, k3, k4, k5, k6, k7⟩ := P10.out
  obtain ⟨m0, m1, m2, m3, m4⟩ := R10.out
  obtain ⟨n0, n1, n2, n3, n4⟩ := T10.out
  obtain ⟨s0, s1, s2, s3, s4, s5, s6, s7⟩ := S10.out
  go_wp2_with fail
  go_ret
  exact ⟨rfl, B10.out⟩

theorem asks_walk (o : Bool) (W F T : Int) (rd wr : Bool) (K : Int) (lk : Bool) (W2 : Int) (r2 : Bool) (A S D : Int) (p : Bool) (V G U : Int) (re we : Bool) (L : Int) (ke : Bool) (w : World) (hW : (Lit.int .i64 W).wf = true) (hF : (Lit.int .u32 F).wf = true) (hT : (Lit.int .u32 T).wf = true) (hK : (Lit.int .i64 K).wf = true)
    (hW2 : (Lit.int .i64 W2).wf = true) (hA : (Lit.int .u32 A).wf = true) (hS : (Lit.int .i64 S).wf = true) (hD : (Lit.int .u32 D).wf = true) (hV : (Lit.int .i64 V).wf = true) (hG : (Lit.int .u32 G).wf = true) (hU : (Lit.int .u32 U).wf = true) (hL : (Lit.int .i64 L).wf = true) :
    Calls Try.prog 3 #[reg o W F T rd wr K lk, acc W2 r2 A S D, reg p V G U re we L ke] w fun e w' => e = .returned (.bool true) ∧ Below w.heap.size w w' := by
  have a := bounds_u32 hA
  have d := bounds_u32 hD
  have As := fun w => asks_any o W F T rd wr K lk W2 r2 A S D p V G U re we L ke (by omega) (by omega) (by omega) (by omega) w
  have As2 := fun w => asks_any p V G U re we L ke W2 r2 A S D o W F T rd wr K lk (by omega) (by omega) (by omega) (by omega) w
  clear a d hW hF hT hK hW2 hA hS hD hV hG hU hL
  go_enter Try.func3, Try.ntmps3
  go_wp2_with fail
  refine calls_letter ?_
  intro X hX
  have B0 := Lib.hid (show Below w.heap.size w X by rw [hX.out]; exact (((Below.refl _ _).alloc (Nat.le_refl _) _).alloc (by simp) _).alloc (by simp; omega) _)
  have P0 := Lib.hid (show Eight X w.heap.size o W F T rd wr K lk by rw [hX.out]; exact ((eight_new w o W F T rd wr K lk 26).alloc _).alloc _)
  have R0 := Lib.hid (show Five X (w.heap.size + 1) W2 r2 A S D by rw [hX.out]; have := (five_new (w.alloc (.cells #[.bool o, .int .i64 W, .int .u32 F, .int .u32 T, .bool rd, .bool wr, .int .i64 K, .bool lk] 26)) W2 r2 A S D 28).alloc (.cells #[.bool p, .int .i64 V, .int .u32 G, .int .u32 U, .bool re, .bool we, .int .i64 L, .bool ke] 26); simpa using this)
  have S0 := Lib.hid (show Eight X (w.heap.size + 2) p V G U re we L ke by rw [hX.out]; have := eight_new ((w.alloc (.cells #[.bool o, .int .i64 W, .int .u32 F, .int .u32 T, .bool rd, .bool wr, .int .i64 K, .bool lk] 26)).alloc (.cells #[.int .i64 W2, .bool r2, .int .u32 A, .int .i64 S, .int .u32 D] 28)) p V G U re we L ke 26; simpa using this)
  clear hX
  refine (As _).mono ?_
  rintro e w1 ⟨rfl, hb⟩
  obtain ⟨k0, k1, k2, k3, k4, k5, k6, k7⟩ := P0.out.keep hb
  obtain ⟨m0, m1, m2, m3, m4⟩ := R0.out.keep hb
  obtain ⟨s0, s1, s2, s3, s4, s5, s6, s7⟩ := S0.out.keep hb
  have B1 := Lib.hid (B0.out.trans (hb.mono B0.out.size))
  clear hb P0 R0 S0 B0
  go_wp2_with fail
  refine (As2 _).mono ?_
  rintro e w2 ⟨rfl, hb⟩
  have B2 := Lib.hid (B1.out.trans (hb.mono B1.out.size))
  clear hb B1 k0 k1 k2 k3 k4 k5 k6 k7 m0 m1 m2 m3 m4 s0 s1 s2 s3 s4 s5 s6 s7
  go_wp2_with fail
  refine (awake_any _).mono ?_
  rintro e w3 ⟨rfl, hb⟩
  have B3 := Lib.hid (B2.out.trans (hb.mono B2.out.size))
  clear hb
  go_wp2_with fail
  go_ret
  exact ⟨rfl, B3.out⟩
end Go.Proofs.Ytploggfaihfeeaa.Region
