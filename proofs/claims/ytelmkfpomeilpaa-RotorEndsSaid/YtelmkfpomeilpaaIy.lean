/- Package rotor: sums, products, turns: the calls. -/
import Derived.Test.YtelmkfpomeilpaaIx
namespace Go.Proofs.Ytelmkfpomeilpaa.Rotor
open Go.RowKit Go.Maps Fifo Orow Exact Ring
set_option linter.unusedVariables false

theorem short_any' (x : Nat) (n : Int) (w : World) (h : Den x n) (h1 : -4294967296 ≤ n ∧ n ≤ 4294967296) :
    Calls Try.prog 48 #[.float .f64 x] w fun e w' => e = .returned (.float .f64 (floatOfInt .f64 (IntKind.i16.wrap n))) ∧ w = w' := by
  have q3 : ∀ W, (convert 25 2 (.float .f64 x)).run Try.prog W = .ok (.int .i64 n) W := fun W => run_convert_float_int (P := Try.prog) W 25 2 .f64 .i64 x n (by kernel_rfl) (by kernel_rfl) (to_int_den h ⟨by show (-9223372036854775808 : Int) ≤ n; omega, by show n ≤ (9223372036854775807 : Int); omega⟩)
  clear h h1
  go_enter Try.func48, Try.ntmps48
  go_wp2_with fail
  go_ret
  exact ⟨rfl, rfl⟩
theorem wrapped_any (x y : Nat) (m n : Int) (w : World) (h : Den x m) (k : Den y n) (h1 : -4294967296 ≤ m ∧ m ≤ 4294967296) (k1 : -4294967296 ≤ n ∧ n ≤ 4294967296) :
    Calls Try.prog 39 #[.complex .f64 x y] w fun e w' => (∃ c d, e = .returned (.complex .f64 c d) ∧ IsPt c d ⟨sh m, sh n⟩) ∧ w = w' := by
  have c1 := Lib.hid (fun W => short_any' x m W h h1)
  have c2 := Lib.hid (fun W => short_any' y n W k k1)
  clear h k h1 k1
  go_enter Try.func39, Try.ntmps39
  go_wp2_with fail
  refine (c1.out _).mono ?_
  rintro e w' ⟨rfl, rfl⟩
  go_wp2_with fail
  refine (c2.out _).mono ?_
  rintro e w' ⟨rfl, rfl⟩
  go_wp2_with fail
  go_ret
  have hr := sh_range
  refine ⟨⟨_, _, rfl, ?_, ?_, hr _, hr _⟩, rfl⟩
  · rw [i16_short]
    exact den_int (by have := hr m; omega)
  · rw [i16_short]
    exact den_int (by have := hr n; omega)
theorem Point_core (v : Int) (w : World) (h : 0 ≤ v ∧ v < 4294967296) :
    Calls Try.prog 23 #[.int .u32 v] w fun e w' => e = .returned (.complex .f64 (floatOfInt .f64 (pt v).re) (floatOfInt .f64 (pt v).im)) ∧ w = w' := by
  have e1 : IntKind.i16.wrap v = (pt v).re := by rw [i16_short]; unfold pt; simp only; unfold sh; omega
  have e2 : IntKind.i16.wrap (v / 65536) = (pt v).im := by rw [i16_short]; rfl
  obtain ⟨a, ha⟩ : ∃ a, (pt v).re = a := ⟨_, rfl⟩
  obtain ⟨b, hb⟩ : ∃ b, (pt v).im = b := ⟨_, rfl⟩
  rw [ha] at e1
  rw [hb] at e2
  rw [ha, hb]
  have h1 := h.1
  have h2 := h.2
  clear ha hb h
  go_enter Try.func23, Try.ntmps23
  go_wp2_with fail
  go_ret
  exact ⟨rfl, rfl⟩
theorem Point_any (v : Int) (w : World) (h : 0 ≤ v ∧ v < 4294967296) :
    Calls Try.prog 23 #[.int .u32 v] w fun e w' => (∃ x y, e = .returned (.complex .f64 x y) ∧ IsPt x y (pt v)) ∧ Below w.heap.size w w' := by
  refine (Point_core v w h).mono ?_
  rintro e w' ⟨rfl, rfl⟩
  have o := ok_pt v
  have o1 := o.1
  have o2 := o.2
  exact ⟨⟨_, _, rfl, den_int (by omega), den_int (by omega), o⟩, Below.refl _ _⟩
theorem den_nought : Den 0 0 := by
  have h := den_int (n := 0) (by decide)
  rwa [show floatOfInt .f64 0 = 0 by decide +kernel] at h
theorem den_unit : Den 4607182418800017408 1 := by
  have h := den_int (n := 1) (by decide)
  rwa [show floatOfInt .f64 1 = 4607182418800017408 by decide +kernel] at h
theorem by_i {x y : Nat} {m n : Int} (h : Den x m) (k : Den y n) (h1 : -32768 ≤ m ∧ m ≤ 32768) (k1 : -32768 ≤ n ∧ n ≤ 32768) :
    ∃ a b, (∀ W t, (binOp .mul t (.complex .f64 x y) (.complex .f64 0 4607182418800017408)).run Try.prog W = .ok (.complex .f64 a b) W) ∧ Den a (-n) ∧ Den b m := by
  obtain ⟨a, b, hm, da, db⟩ := mul_parts h k den_nought den_unit (by omega) (by omega) (by omega) (by omega)
  refine ⟨a, b, fun W t => run_complex_mul W t x y 0 4607182418800017408 a b hm, ?_, ?_⟩
  · rwa [show m * 0 - n * 1 = -n by omega] at da
  · rwa [show m * 1 + n * 0 = m by omega] at db
theorem tn_0 {p : Pt} (h : okP p) : turn p 0 = ⟨sh p.re, sh p.im⟩ := by
  obtain ⟨a, b⟩ := p
  show (⟨a, b⟩ : Pt) = ⟨sh a, sh b⟩
  rw [sh_self h.1, sh_self h.2]
theorem tn_1 (p : Pt) : turn p 1 = ⟨sh (-p.im), sh p.re⟩ := turn1_is p
theorem tn_3 (p : Pt) : turn p 3 = ⟨sh (- -p.im), sh (-p.re)⟩ := by
  rw [show (3 : Nat) = 2 + 1 from rfl, turn_add, turn_two, tn_1]
  simp only
  obtain ⟨q1, h1⟩ := sh_form (-p.im)
  obtain ⟨q2, h2⟩ := sh_form (-p.re)
  congr 1
  · exact sh_like (-q1) (by omega)
  · exact sh_like q2 (by omega)
theorem turned_0 (x y : Nat) (p : Pt) (k : Int) (w : World) (h : IsPt x y p) (hq : Int.tmod k 4 = 0) (hb : 0 ≤ k ∧ k < 4294967296) :
    Calls Try.prog 40 #[.complex .f64 x y, .int .u32 k] w fun e w' => (∃ c d, e = .returned (.complex .f64 c d) ∧ IsPt c d (turn p 0)) ∧ w = w' := by
  have o1 := h.ok.1
  have o2 := h.ok.2
  have d0 := h.re
  have e0 := h.im
  rw [tn_0 h.ok]
  have C := Lib.hid (fun W => wrapped_any x y _ _ W d0 e0 (by omega) (by omega))
  have k0 := hb.1
  have k1 := hb.2
  clear h hb o1 o2 d0 e0
  go_enter Try.func40, Try.ntmps40
  go_wp2_with fail
  refine wp_loop_rounds 1 ?_
  rw [rounds_succ]
  go_wp2_with fail
  refine (C.out _).mono ?_
  rintro e w' ⟨⟨c, d, rfl, hc⟩, rfl⟩
  have R := Lib.hid hc
  clear hc
  go_wp2_with fail
  go_ret
  exact ⟨⟨c, d, rfl, R.out⟩, rfl⟩
theorem turned_1 (x y : Nat) (p : Pt) (k : Int) (w : World) (h : IsPt x y p) (hq : Int.tmod k 4 = 1) (hb : 0 ≤ k ∧ k < 4294967296) :
    Calls Try.prog 40 #[.complex .f64 x y, .int .u32 k] w fun e w' => (∃ c d, e = .returned (.complex .f64 c d) ∧ IsPt c d (turn p 1)) ∧ w = w' := by
  have o1 := h.ok.1
  have o2 := h.ok.2
  have d0 := h.re
  have e0 := h.im
  rw [tn_1 p]
  obtain ⟨x1, y1, q1, d1, e1⟩ := by_i d0 e0 (by omega) (by omega)
  have C := Lib.hid (fun W => wrapped_any x1 y1 _ _ W d1 e1 (by omega) (by omega))
  have k0 := hb.1
  have k1 := hb.2
  clear h hb o1 o2 d0 e0 d1 e1
  go_enter Try.func40, Try.ntmps40
  go_wp2_with fail
  refine wp_loop_rounds 2 ?_
  rw [rounds_succ]
  go_wp2_with fail
  rw [rounds_succ]
  go_wp2_with fail
  refine (C.out _).mono ?_
  rintro e w' ⟨⟨c, d, rfl, hc⟩, rfl⟩
  have R := Lib.hid hc
  clear hc
  go_wp2_with fail
  go_ret
  exact ⟨⟨c, d, rfl, R.out⟩, rfl⟩
theorem turned_2 (x y : Nat) (p : Pt) (k : Int) (w : World) (h : IsPt x y p) (hq : Int.tmod k 4 = 2) (hb : 0 ≤ k ∧ k < 4294967296) :
    Calls Try.prog 40 #[.complex .f64 x y, .int .u32 k] w fun e w' => (∃ c d, e = .returned (.complex .f64 c d) ∧ IsPt c d (turn p 2)) ∧ w = w' := by
  have o1 := h.ok.1
  have o2 := h.ok.2
  have d0 := h.re
  have e0 := h.im
  rw [turn_two p]
  obtain ⟨x1, y1, q1, d1, e1⟩ := by_i d0 e0 (by omega) (by omega)
  obtain ⟨x2, y2, q2, d2, e2⟩ := by_i d1 e1 (by omega) (by omega)
  have C := Lib.hid (fun W => wrapped_any x2 y2 _ _ W d2 e2 (by omega) (by omega))
  have k0 := hb.1
  have k1 := hb.2
  clear h hb o1 o2 d0 e0 d1 e1 d2 e2
  go_enter Try.func40, Try.ntmps40
  go_wp2_with fail
  refine wp_loop_rounds 3 ?_
  rw [rounds_succ]
  go_wp2_with fail
  rw [rounds_succ]
  go_wp2_with fail
  rw [rounds_succ]
  go_wp2_with fail
  refine (C.out _).mono ?_
  rintro e w' ⟨⟨c, d, rfl, hc⟩, rfl⟩
  have R := Lib.hid hc
  clear hc
  go_wp2_with fail
  go_ret
  exact ⟨⟨c, d, rfl, R.out⟩, rfl⟩
theorem turned_3 (x y : Nat) (p : Pt) (k : Int) (w : World) (h : IsPt x y p) (hq : Int.tmod k 4 = 3) (hb : 0 ≤ k ∧ k < 4294967296) :
    Calls Try.prog 40 #[.complex .f64 x y, .int .u32 k] w fun e w' => (∃ c d, e = .returned (.complex .f64 c d) ∧ IsPt c d (turn p 3)) ∧ w = w' := by
  have o1 := h.ok.1
  have o2 := h.ok.2
  have d0 := h.re
  have e0 := h.im
  rw [tn_3 p]
  obtain ⟨x1, y1, q1, d1, e1⟩ := by_i d0 e0 (by omega) (by omega)
  obtain ⟨x2, y2, q2, d2, e2⟩ := by_i d1 e1 (by omega) (by omega)
  obtain ⟨x3, y3, q3, d3, e3⟩ := by_i d2 e2 (by omega) (by omega)
  have C := Lib.hid (fun W => wrapped_any x3 y3 _ _ W d3 e3 (by omega) (by omega))
  have k0 := hb.1
  have k1 := hb.2
  clear h hb o1 o2 d0 e0 d1 e1 d2 e2 d3 e3
  go_enter Try.func40, Try.ntmps40
  go_wp2_with fail
  refine wp_loop_rounds 4 ?_
  rw [rounds_succ]
  go_wp2_with fail
  rw [rounds_succ]
  go_wp2_with fail
  rw [rounds_succ]
  go_wp2_with fail
  rw [rounds_succ]
  go_wp2_with fail
  refine (C.out _).mono ?_
  rintro e w' ⟨⟨c, d, rfl, hc⟩, rfl⟩
  have R := Lib.hid hc
  clear hc
  go_wp2_with fail
  go_ret
  exact ⟨⟨c, d, rfl, R.out⟩, rfl⟩
theorem turned_any (x y : Nat) (p : Pt) (k : Int) (w : World) (h : IsPt x y p) (hb : 0 ≤ k ∧ k < 4294967296) :
    Calls Try.prog 40 #[.complex .f64 x y, .int .u32 k] w fun e w' => (∃ c d, e = .returned (.complex .f64 c d) ∧ IsPt c d (turn p k.toNat)) ∧ w = w' := by
  have e : Int.tmod k 4 = ((k.toNat % 4 : Nat) : Int) := by rw [Int.tmod_eq_emod_of_nonneg hb.1]; omega
  rw [turn_mod h.ok]
  obtain ⟨j, hj⟩ : ∃ j, k.toNat % 4 = j := ⟨_, rfl⟩
  have hlt : j < 4 := by omega
  rw [hj] at e ⊢
  obtain rfl | rfl | rfl | rfl : j = 0 ∨ j = 1 ∨ j = 2 ∨ j = 3 := by omega
  · exact turned_0 x y p k w h e hb
  · exact turned_1 x y p k w h e hb
  · exact turned_2 x y p k w h e hb
  · exact turned_3 x y p k w h e hb
theorem Word_yes (x y : Nat) (p : Pt) (w : World) (h : IsPt x y p) :
    Calls Try.prog 13 #[.complex .f64 x y] w fun e w' => e = .returned (.tuple #[.int .u32 (wd p), .bool true]) ∧ Below w.heap.size w w' := by
  obtain ⟨p1, p2⟩ := pt_parts h
  have C := Lib.hid (fun W => wordOf_any x y p W h)
  clear h
  have P1 := Lib.hid p1
  have P2 := Lib.hid p2
  clear p1 p2
  go_enter Try.func13, Try.ntmps13
  go_wp2_with fail
  refine calls_letter ?_
  intro W hW
  have B0 := Lib.hid (show Below w.heap.size w W by rw [hW.out]; exact (Below.refl _ _).alloc (Nat.le_refl _) _)
  have h0 : W.cell? ⟨w.heap.size, 0, none⟩ = some (.complex .f64 x y) := by rw [hW.out]; simp
  clear hW
  refine (are_one w.heap.size x y false false W h0 P1.out P2.out).mono ?_
  rintro e w1 ⟨rfl, hb⟩
  have B1 := Lib.hid (B0.out.trans (hb.mono B0.out.size))
  clear hb h0
  go_wp2_with fail
  refine (C.out _).mono ?_
  rintro e w2 ⟨rfl, rfl⟩
  go_wp2_with fail
  go_ret2
  exact ⟨rfl, B1.out⟩
theorem Word_no (x y : Nat) (w : World) (h : NotPt x y) :
    Calls Try.prog 13 #[.complex .f64 x y] w fun e w' => e = .returned (.tuple #[.int .u32 0, .bool false]) ∧ Below w.heap.size w w' := by
  obtain ⟨p, hp⟩ := part_ex x
  obtain ⟨q, hq⟩ := part_ex y
  have G := Lib.hid (show (!(p || q)) = false by rw [not_parts h hp hq]; rfl)
  have P1 := Lib.hid hp
  have P2 := Lib.hid hq
  clear h hp hq
  go_enter Try.func13, Try.ntmps13
  go_wp2_with fail
  refine calls_letter ?_
  intro W hW
  have B0 := Lib.hid (show Below w.heap.size w W by rw [hW.out]; exact (Below.refl _ _).alloc (Nat.le_refl _) _)
  have h0 : W.cell? ⟨w.heap.size, 0, none⟩ = some (.complex .f64 x y) := by rw [hW.out]; simp
  clear hW
  have A := Lib.hid (are_one w.heap.size x y p q W h0 P1.out P2.out)
  rw [G.out] at A
  refine A.out.mono ?_
  rintro e w1 ⟨rfl, hb⟩
  have B1 := Lib.hid (B0.out.trans (hb.mono B0.out.size))
  clear hb h0
  go_wp2_with fail
  go_ret2
  exact ⟨rfl, B1.out⟩
theorem Turn_yes (x y : Nat) (p : Pt) (k : Int) (w : World) (h : IsPt x y p) (hk : 0 ≤ k ∧ k < 4294967296) :
    Calls Try.prog 26 #[.complex .f64 x y, .int .u32 k] w fun e w' => (∃ c d, e = .returned (.tuple #[.complex .f64 c d, .bool true]) ∧ IsPt c d (turn p k.toNat)) ∧ Below w.heap.size w w' := by
  obtain ⟨p1, p2⟩ := pt_parts h
  have C := Lib.hid (fun W => turned_any x y p k W h hk)
  clear h hk
  have P1 := Lib.hid p1
  have P2 := Lib.hid p2
  clear p1 p2
  go_enter Try.func26, Try.ntmps26
  go_wp2_with fail
  refine calls_letter ?_
  intro W hW
  have B0 := Lib.hid (show Below w.heap.size w W by rw [hW.out]; exact (Below.refl _ _).alloc (Nat.le_refl _) _)
  have h0 : W.cell? ⟨w.heap.size, 0, none⟩ = some (.complex .f64 x y) := by rw [hW.out]; simp
  clear hW
  refine (are_one w.heap.size x y false false W h0 P1.out P2.out).mono ?_
  rintro e w1 ⟨rfl, hb⟩
  have B1 := Lib.hid (B0.out.trans (hb.mono B0.out.size))
  clear hb h0
  go_wp2_with fail
  refine (C.out _).mono ?_
  rintro e w2 ⟨⟨c', d', rfl, hc⟩, rfl⟩
  have R := Lib.hid hc
  clear hc
  go_wp2_with fail
  go_ret2
  exact ⟨⟨c', d', rfl, R.out⟩, B1.out⟩
theorem Turn_no (x y : Nat) (k : Int) (w : World) (h : NotPt x y) (hk : 0 ≤ k ∧ k < 4294967296) :
    Calls Try.prog 26 #[.complex .f64 x y, .int .u32 k] w fun e w' => (∃ c d, e = .returned (.tuple #[.complex .f64 c d, .bool false]) ∧ IsPt c d ⟨0, 0⟩) ∧ Below w.heap.size w w' := by
  obtain ⟨p, hp⟩ := part_ex x
  obtain ⟨q, hq⟩ := part_ex y
  have G := Lib.hid (show (!(p || q)) = false by rw [not_parts h hp hq]; rfl)
  have P1 := Lib.hid hp
  have P2 := Lib.hid hq
  clear h hp hq hk
  go_enter Try.func26, Try.ntmps26
  go_wp2_with fail
  refine calls_letter ?_
  intro W hW
  have B0 := Lib.hid (show Below w.heap.size w W by rw [hW.out]; exact (Below.refl _ _).alloc (Nat.le_refl _) _)
  have h0 : W.cell? ⟨w.heap.size, 0, none⟩ = some (.complex .f64 x y) := by rw [hW.out]; simp
  clear hW
  have A := Lib.hid (are_one w.heap.size x y p q W h0 P1.out P2.out)
  rw [G.out] at A
  refine A.out.mono ?_
  rintro e w1 ⟨rfl, hb⟩
  have B1 := Lib.hid (B0.out.trans (hb.mono B0.out.size))
  clear hb h0
  go_wp2_with fail
  go_ret2
  exact ⟨⟨0, 0, rfl, den_nought, den_nought, ⟨by show (-32768 : Int) ≤ 0; omega, by show (0 : Int) ≤ 32767; omega⟩, ⟨by show (-32768 : Int) ≤ 0; omega, by show (0 : Int) ≤ 32767; omega⟩⟩, B1.out⟩
theorem Plus_yes (x y a b : Nat) (p q : Pt) (w : World) (h : IsPt x y p) (k : IsPt a b q) :
    Calls Try.prog 24 #[.complex .f64 x y, .complex .f64 a b] w fun e w' => (∃ c d, e = .returned (.tuple #[.complex .f64 c d, .bool true]) ∧ IsPt c d (add p q)) ∧ Below w.heap.size w w' := by
  obtain ⟨p1, p2⟩ := pt_parts h
  obtain ⟨r1, r2⟩ := pt_parts k
  have o1 := h.ok.1
  have o2 := h.ok.2
  have o3 := k.ok.1
  have o4 := k.ok.2
  obtain ⟨c, d, hm, dx, dy⟩ := sum_parts h.re h.im k.re k.im (by omega) (by omega)
  have C := Lib.hid (fun W => wrapped_any c d _ _ W dx dy (by omega) (by omega))
  have q3 : ∀ W t, (binOp .add t (.complex .f64 x y) (.complex .f64 a b)).run Try.prog W = .ok (.complex .f64 c d) W := fun W t => run_complex_sum W .add (.inl rfl) t .f64 x y a b c d hm
  clear h k o1 o2 o3 o4 hm dx dy
  have P1 := Lib.hid p1
  have P2 := Lib.hid p2
  clear p1 p2
  have R1 := Lib.hid r1
  have R2 := Lib.hid r2
  clear r1 r2
  go_enter Try.func24, Try.ntmps24
  go_wp2_with fail
  refine calls_letter ?_
  intro W hW
  have B0 := Lib.hid (show Below w.heap.size w W by rw [hW.out]; exact (Below.refl _ _).alloc (Nat.le_refl _) _)
  have h0 : W.cell? ⟨w.heap.size, 0, none⟩ = some (.complex .f64 x y) := by rw [hW.out]; simp
  have h1 : W.cell? ⟨w.heap.size, 1, none⟩ = some (.complex .f64 a b) := by rw [hW.out]; simp
  clear hW
  refine (are_two w.heap.size x y a b false false false false W h0 h1 P1.out P2.out R1.out R2.out).mono ?_
  rintro e w1 ⟨rfl, hb⟩
  have B1 := Lib.hid (B0.out.trans (hb.mono B0.out.size))
  clear hb h0 h1
  go_wp2_with fail
  refine (C.out _).mono ?_
  rintro e w2 ⟨⟨c', d', rfl, hc⟩, rfl⟩
  have R := Lib.hid hc
  clear hc
  go_wp2_with fail
  go_ret2
  exact ⟨⟨c', d', rfl, R.out⟩, B1.out⟩
theorem Plus_no (x y a b : Nat) (w : World) (h : NotPt x y ∨ NotPt a b) :
    Calls Try.prog 24 #[.complex .f64 x y, .complex .f64 a b] w fun e w' => (∃ c d, e = .returned (.tuple #[.complex .f64 c d, .bool false]) ∧ IsPt c d ⟨0, 0⟩) ∧ Below w.heap.size w w' := by
  obtain ⟨p, hp⟩ := part_ex x
  obtain ⟨q, hq⟩ := part_ex y
  obtain ⟨r, hr⟩ := part_ex a
  obtain ⟨s, hs⟩ := part_ex b
  have G := Lib.hid (show (!((p || q) || (r || s))) = false by
    rcases h with h | h
    · rw [not_parts h hp hq]; rfl
    · rw [not_parts h hr hs, Bool.or_true]; rfl)
  have P1 := Lib.hid hp
  have P2 := Lib.hid hq
  have R1 := Lib.hid hr
  have R2 := Lib.hid hs
  clear h hp hq hr hs
  go_enter Try.func24, Try.ntmps24
  go_wp2_with fail
  refine calls_letter ?_
  intro W hW
  have B0 := Lib.hid (show Below w.heap.size w W by rw [hW.out]; exact (Below.refl _ _).alloc (Nat.le_refl _) _)
  have h0 : W.cell? ⟨w.heap.size, 0, none⟩ = some (.complex .f64 x y) := by rw [hW.out]; simp
  have h1 : W.cell? ⟨w.heap.size, 1, none⟩ = some (.complex .f64 a b) := by rw [hW.out]; simp
  clear hW
  have A := Lib.hid (are_two w.heap.size x y a b p q r s W h0 h1 P1.out P2.out R1.out R2.out)
  rw [G.out] at A
  refine A.out.mono ?_
  rintro e w1 ⟨rfl, hb⟩
  have B1 := Lib.hid (B0.out.trans (hb.mono B0.out.size))
  clear hb h0 h1
  go_wp2_with fail
  go_ret2
  exact ⟨⟨0, 0, rfl, den_nought, den_nought, ⟨by show (-32768 : Int) ≤ 0; omega, by show (0 : Int) ≤ 32767; omega⟩, ⟨by show (-32768 : Int) ≤ 0; omega, by show (0 : Int) ≤ 32767; omega⟩⟩, B1.out⟩
theorem Times_yes (x y a b : Nat) (p q : Pt) (w : World) (h : IsPt x y p) (k : IsPt a b q) :
    Calls Try.prog 25 #[.complex .f64 x y, .complex .f64 a b] w fun e w' => (∃ c d, e = .returned (.tuple #[.complex .f64 c d, .bool true]) ∧ IsPt c d (mul p q)) ∧ Below w.heap.size w w' := by
  obtain ⟨p1, p2⟩ := pt_parts h
  obtain ⟨r1, r2⟩ := pt_parts k
  obtain ⟨k1, k2, k3, k4⟩ := no_round h.ok k.ok
  obtain ⟨c, d, hm, dx, dy⟩ := mul_parts h.re h.im k.re k.im k1 k2 k3 k4
  have C := Lib.hid (fun W => wrapped_any c d _ _ W dx dy (by omega) (by omega))
  have q3 : ∀ W t, (binOp .mul t (.complex .f64 x y) (.complex .f64 a b)).run Try.prog W = .ok (.complex .f64 c d) W := fun W t => run_complex_mul W t x y a b c d hm
  clear h k k1 k2 k3 k4 hm dx dy
  have P1 := Lib.hid p1
  have P2 := Lib.hid p2
  clear p1 p2
  have R1 := Lib.hid r1
  have R2 := Lib.hid r2
  clear r1 r2
  go_enter Try.func25, Try.ntmps25
  go_wp2_with fail
  refine calls_letter ?_
  intro W hW
  have B0 := Lib.hid (show Below w.heap.size w W by rw [hW.out]; exact (Below.refl _ _).alloc (Nat.le_refl _) _)
  have h0 : W.cell? ⟨w.heap.size, 0, none⟩ = some (.complex .f64 x y) := by rw [hW.out]; simp
  have h1 : W.cell? ⟨w.heap.size, 1, none⟩ = some (.complex .f64 a b) := by rw [hW.out]; simp
  clear hW
  refine (are_two w.heap.size x y a b false false false false W h0 h1 P1.out P2.out R1.out R2.out).mono ?_
  rintro e w1 ⟨rfl, hb⟩
  have B1 := Lib.hid (B0.out.trans (hb.mono B0.out.size))
  clear hb h0 h1
  go_wp2_with fail
  refine (C.out _).mono ?_
  rintro e w2 ⟨⟨c', d', rfl, hc⟩, rfl⟩
  have R := Lib.hid hc
  clear hc
  go_wp2_with fail
  go_ret2
  exact ⟨⟨c', d', rfl, R.out⟩, B1.out⟩
theorem Times_no (x y a b : Nat) (w : World) (h : NotPt x y ∨ NotPt a b) :
    Calls Try.prog 25 #[.complex .f64 x y, .complex .f64 a b] w fun e w' => (∃ c d, e = .returned (.tuple #[.complex .f64 c d, .bool false]) ∧ IsPt c d ⟨0, 0⟩) ∧ Below w.heap.size w w' := by
  obtain ⟨p, hp⟩ := part_ex x
  obtain ⟨q, hq⟩ := part_ex y
  obtain ⟨r, hr⟩ := part_ex a
  obtain ⟨s, hs⟩ := part_ex b
  have G := Lib.hid (show (!((p || q) || (r || s))) = false by
    rcases h with h | h
    · rw [not_parts h hp hq]; rfl
    · rw [not_parts h hr hs, Bool.or_true]; rfl)
  have P1 := Lib.hid hp
  have P2 := Lib.hid hq
  have R1 := Lib.hid hr
  have R2 := Lib.hid hs
  clear h hp hq hr hs
  go_enter Try.func25, Try.ntmps25
  go_wp2_with fail
  refine calls_letter ?_
  intro W hW
  have B0 := Lib.hid (show Below w.heap.size w W by rw [hW.out]; exact (Below.refl _ _).alloc (Nat.le_refl _) _)
  have h0 : W.cell? ⟨w.heap.size, 0, none⟩ = some (.complex .f64 x y) := by rw [hW.out]; simp
  have h1 : W.cell? ⟨w.heap.size, 1, none⟩ = some (.complex .f64 a b) := by rw [hW.out]; simp
  clear hW
  have A := Lib.hid (are_two w.heap.size x y a b p q r s W h0 h1 P1.out P2.out R1.out R2.out)
  rw [G.out] at A
  refine A.out.mono ?_
  rintro e w1 ⟨rfl, hb⟩
  have B1 := Lib.hid (B0.out.trans (hb.mono B0.out.size))
  clear hb h0 h1
  go_wp2_with fail
  go_ret2
  exact ⟨⟨0, 0, rfl, den_nought, den_nought, ⟨by show (-32768 : Int) ≤ 0; omega, by show (0 : Int) ≤ 32767; omega⟩, ⟨by show (-32768 : Int) ≤ 0; omega, by show (0 : Int) ≤ 32767; omega⟩⟩, B1.out⟩
end Go.Proofs.Ytelmkfpomeilpaa.Rotor
