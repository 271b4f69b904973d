/- The chapter's examples; RotorPoints, RotorRing, RotorTurns, numbers that are no points, RotorOthers. -/
import Derived.Test.YtelmkfpomeilpaaIf
namespace Go.Proofs.Ytelmkfpomeilpaa.Rotor
open Go.RowKit Go.Maps Fifo Orow Exact Ring
set_option linter.unusedVariables false

theorem k_32 : IsPt 4613937818241073152 4611686018427387904 ⟨3, 2⟩ := isPt_of 3 2 (by decide +kernel) (by decide +kernel) (by omega) (by omega)
theorem k_23 : IsPt 13835058055282163712 4613937818241073152 ⟨-2, 3⟩ := isPt_of (-2) 3 (by decide +kernel) (by decide +kernel) (by omega) (by omega)
theorem k_hi : IsPt 4674736138332667904 0 ⟨32767, 0⟩ := isPt_of 32767 0 (by decide +kernel) (by decide +kernel) (by omega) (by omega)
theorem k_lo : IsPt 13898108450065350656 0 ⟨-32768, 0⟩ := isPt_of (-32768) 0 (by decide +kernel) (by decide +kernel) (by omega) (by omega)
theorem k_one : IsPt 4607182418800017408 0 ⟨1, 0⟩ := isPt_of 1 0 (by decide +kernel) (by decide +kernel) (by omega) (by omega)
theorem k_i : IsPt 0 4607182418800017408 ⟨0, 1⟩ := isPt_of 0 1 (by decide +kernel) (by decide +kernel) (by omega) (by omega)
theorem k_zero : IsPt 0 0 ⟨0, 0⟩ := isPt_of 0 0 (by decide +kernel) (by decide +kernel) (by omega) (by omega)
theorem k_300 : IsPt 4643985272004935680 0 ⟨300, 0⟩ := isPt_of 300 0 (by decide +kernel) (by decide +kernel) (by omega) (by omega)
theorem k_24464 : IsPt 4672453827071311872 0 ⟨24464, 0⟩ := isPt_of 24464 0 (by decide +kernel) (by decide +kernel) (by omega) (by omega)
theorem e_pt : pt 131075 = ⟨3, 2⟩ := rfl
theorem e_turn : turn ⟨3, 2⟩ (Int.toNat 1) = ⟨-2, 3⟩ := rfl
theorem e_wd : wd ⟨-2, 3⟩ = 262142 := rfl
theorem e_add : add ⟨32767, 0⟩ ⟨1, 0⟩ = ⟨-32768, 0⟩ := rfl
theorem e_mul : mul ⟨300, 0⟩ ⟨300, 0⟩ = ⟨24464, 0⟩ := rfl
theorem awake_any (w : World) : Calls Try.prog 10 #[] w fun e w' => e = .returned (.bool true) ∧ Below w.heap.size w w' := by
  go_enter Try.func10, Try.ntmps10
  go_wp2_with fail
  refine (Point_any 131075 w (by omega)).mono ?_
  rintro e w1 ⟨⟨zx_, zy_, rfl, h⟩, hb⟩
  have Pz := Lib.hid h
  have B1 := Lib.hid (hb)
  clear h hb
  rw [e_pt] at Pz
  go_wp2_with fail
  refine (Turn_yes zx_ zy_ _ 1 w1 Pz.out (by omega)).mono ?_
  rintro e w2 ⟨⟨tx_, ty_, rfl, h⟩, hb⟩
  have Pt := Lib.hid h
  have B2 := Lib.hid (B1.out.trans (hb.mono B1.out.size))
  clear h hb
  rw [e_turn] at Pt
  go_wp2_with fail
  refine (Word_yes tx_ ty_ _ w2 Pt.out).mono ?_
  rintro e w3 ⟨rfl, hb⟩
  have B3 := Lib.hid (B2.out.trans (hb.mono B2.out.size))
  clear hb
  go_wp2_with fail
  refine (Plus_yes _ _ _ _ _ _ w3 k_hi k_one).mono ?_
  rintro e w4 ⟨⟨sx_, sy_, rfl, h⟩, hb⟩
  have Ps := Lib.hid h
  have B4 := Lib.hid (B3.out.trans (hb.mono B3.out.size))
  clear h hb
  rw [e_add] at Ps
  go_wp2_with fail
  refine (Times_yes _ _ _ _ _ _ w4 k_300 k_300).mono ?_
  rintro e w5 ⟨⟨px_, py_, rfl, h⟩, hb⟩
  have Pp := Lib.hid h
  have B5 := Lib.hid (B4.out.trans (hb.mono B4.out.size))
  clear h hb
  rw [e_mul] at Pp
  obtain ⟨q1, q2⟩ := eq_yes Pz.out k_32
  obtain ⟨q3, q4⟩ := eq_yes Pt.out k_23
  obtain ⟨q5, q6⟩ := eq_yes Ps.out k_lo
  obtain ⟨q7, q8⟩ := eq_yes Pp.out k_24464
  have q9 : (wd ⟨-2, 3⟩ == 262142) = true := rfl
  go_wp2_with fail
  go_ret
  exact ⟨rfl, B5.out⟩
theorem rpoints_walk (v u k : Int) (w : World) (hv : 0 ≤ v ∧ v < 4294967296) (hu : 0 ≤ u ∧ u < 4294967296) (hk : 0 ≤ k ∧ k < 4294967296) :
    Calls Try.prog 3 #[.int .u32 v, .int .u32 u, .int .u32 k] w fun e w' => e = .returned (.bool true) ∧ Below w.heap.size w w' := by
  have A := Lib.hid (fun W => points_any v u k W hv hu hk)
  have C := Lib.hid (fun W => points_any u v v W hu hv hv)
  clear hv hu hk
  go_enter Try.func3, Try.ntmps3
  go_wp2_with fail
  refine (A.out w).mono ?_
  rintro e w1 ⟨rfl, hb⟩
  have B1 := Lib.hid (hb)
  clear hb
  go_wp2_with fail
  refine (C.out w1).mono ?_
  rintro e w2 ⟨rfl, hb⟩
  have B2 := Lib.hid (B1.out.trans (hb.mono B1.out.size))
  clear hb
  go_wp2_with fail
  refine (awake_any w2).mono ?_
  rintro e w3 ⟨rfl, hb⟩
  have B3 := Lib.hid (B2.out.trans (hb.mono B2.out.size))
  clear hb
  go_wp2_with fail
  go_ret
  exact ⟨rfl, B3.out⟩
set_option maxRecDepth 100000 in
set_option maxHeartbeats 1000000 in
theorem ring_walk (v u t : Int) (w : World) (hv : 0 ≤ v ∧ v < 4294967296) (hu : 0 ≤ u ∧ u < 4294967296) (ht : 0 ≤ t ∧ t < 4294967296) :
    Calls Try.prog 7 #[.int .u32 v, .int .u32 u, .int .u32 t] w fun e w' => e = .returned (.bool true) ∧ Below w.heap.size w w' := by
  have Hv := Lib.hid hv
  have Hu := Lib.hid hu
  have Ht := Lib.hid ht
  clear hv hu ht
  go_enter Try.func7, Try.ntmps7
  go_wp2_with fail
  refine (awake_any w).mono ?_
  rintro e w1 ⟨rfl, hb⟩
  have B1 := Lib.hid (hb)
  clear hb
  go_wp2_with fail
  refine (Point_any v w1 Hv.out).mono ?_
  rintro e w2 ⟨⟨ax_, ay_, rfl, h⟩, hb⟩
  have Pa := Lib.hid h
  have B2 := Lib.hid (B1.out.trans (hb.mono B1.out.size))
  clear h hb
  go_wp2_with fail
  refine (Point_any u w2 Hu.out).mono ?_
  rintro e w3 ⟨⟨bx_, by_, rfl, h⟩, hb⟩
  have Pb := Lib.hid h
  have B3 := Lib.hid (B2.out.trans (hb.mono B2.out.size))
  clear h hb
  go_wp2_with fail
  refine (Point_any t w3 Ht.out).mono ?_
  rintro e w4 ⟨⟨cx_, cy_, rfl, h⟩, hb⟩
  have Pc := Lib.hid h
  have B4 := Lib.hid (B3.out.trans (hb.mono B3.out.size))
  clear h hb
  go_wp2_with fail
  refine (Plus_yes ax_ ay_ bx_ by_ _ _ w4 Pa.out Pb.out).mono ?_
  rintro e w5 ⟨⟨sx_, sy_, rfl, h⟩, hb⟩
  have Ps := Lib.hid h
  have B5 := Lib.hid (B4.out.trans (hb.mono B4.out.size))
  clear h hb
  go_wp2_with fail
  refine (Plus_yes bx_ by_ ax_ ay_ _ _ w5 Pb.out Pa.out).mono ?_
  rintro e w6 ⟨⟨rx_, ry_, rfl, h⟩, hb⟩
  have Pr := Lib.hid h
  have B6 := Lib.hid (B5.out.trans (hb.mono B5.out.size))
  clear h hb
  go_wp2_with fail
  refine (Times_yes ax_ ay_ bx_ by_ _ _ w6 Pa.out Pb.out).mono ?_
  rintro e w7 ⟨⟨px_, py_, rfl, h⟩, hb⟩
  have Pp := Lib.hid h
  have B7 := Lib.hid (B6.out.trans (hb.mono B6.out.size))
  clear h hb
  go_wp2_with fail
  refine (Times_yes bx_ by_ ax_ ay_ _ _ w7 Pb.out Pa.out).mono ?_
  rintro e w8 ⟨⟨qx_, qy_, rfl, h⟩, hb⟩
  have Pq := Lib.hid h
  have B8 := Lib.hid (B7.out.trans (hb.mono B7.out.size))
  clear h hb
  rw [add_comm] at Pr
  rw [mul_comm] at Pq
  obtain ⟨n1, n2⟩ := eq_yes Ps.out Pr.out
  obtain ⟨n3, n4⟩ := eq_yes Pp.out Pq.out
  go_wp2_with fail
  refine (Plus_yes sx_ sy_ cx_ cy_ _ _ w8 Ps.out Pc.out).mono ?_
  rintro e w9 ⟨⟨xx_, xy_, rfl, h⟩, hb⟩
  have Px := Lib.hid h
  have B9 := Lib.hid (B8.out.trans (hb.mono B8.out.size))
  clear h hb
  clear n1 n2 n3 n4
  rw [add_assoc] at Px
  go_wp2_with fail
  refine (Plus_yes bx_ by_ cx_ cy_ _ _ w9 Pb.out Pc.out).mono ?_
  rintro e w10 ⟨⟨bcx_, bcy_, rfl, h⟩, hb⟩
  have Pbc := Lib.hid h
  have B10 := Lib.hid (B9.out.trans (hb.mono B9.out.size))
  clear h hb
  go_wp2_with fail
  refine (Plus_yes ax_ ay_ bcx_ bcy_ _ _ w10 Pa.out Pbc.out).mono ?_
  rintro e w11 ⟨⟨yx_, yy_, rfl, h⟩, hb⟩
  have Py := Lib.hid h
  have B11 := Lib.hid (B10.out.trans (hb.mono B10.out.size))
  clear h hb
  go_wp2_with fail
  refine (Times_yes px_ py_ cx_ cy_ _ _ w11 Pp.out Pc.out).mono ?_
  rintro e w12 ⟨⟨mx_, my_, rfl, h⟩, hb⟩
  have Pm := Lib.hid h
  have B12 := Lib.hid (B11.out.trans (hb.mono B11.out.size))
  clear h hb
  rw [mul_assoc] at Pm
  go_wp2_with fail
  refine (Times_yes bx_ by_ cx_ cy_ _ _ w12 Pb.out Pc.out).mono ?_
  rintro e w13 ⟨⟨mcx_, mcy_, rfl, h⟩, hb⟩
  have Pmc := Lib.hid h
  have B13 := Lib.hid (B12.out.trans (hb.mono B12.out.size))
  clear h hb
  go_wp2_with fail
  refine (Times_yes ax_ ay_ mcx_ mcy_ _ _ w13 Pa.out Pmc.out).mono ?_
  rintro e w14 ⟨⟨nx_, ny_, rfl, h⟩, hb⟩
  have Pn := Lib.hid h
  have B14 := Lib.hid (B13.out.trans (hb.mono B13.out.size))
  clear h hb
  go_wp2_with fail
  refine (Times_yes ax_ ay_ bcx_ bcy_ _ _ w14 Pa.out Pbc.out).mono ?_
  rintro e w15 ⟨⟨dx_, dy_, rfl, h⟩, hb⟩
  have Pd := Lib.hid h
  have B15 := Lib.hid (B14.out.trans (hb.mono B14.out.size))
  clear h hb
  rw [mul_add] at Pd
  go_wp2_with fail
  refine (Times_yes ax_ ay_ cx_ cy_ _ _ w15 Pa.out Pc.out).mono ?_
  rintro e w16 ⟨⟨acx_, acy_, rfl, h⟩, hb⟩
  have Pac := Lib.hid h
  have B16 := Lib.hid (B15.out.trans (hb.mono B15.out.size))
  clear h hb
  go_wp2_with fail
  refine (Plus_yes px_ py_ acx_ acy_ _ _ w16 Pp.out Pac.out).mono ?_
  rintro e w17 ⟨⟨ex_, ey_, rfl, h⟩, hb⟩
  have Pe := Lib.hid h
  have B17 := Lib.hid (B16.out.trans (hb.mono B16.out.size))
  clear h hb
  go_wp2_with fail
  refine (Plus_yes _ _ _ _ _ _ w17 Pa.out k_zero).mono ?_
  rintro e w18 ⟨⟨zx_, zy_, rfl, h⟩, hb⟩
  have Pz := Lib.hid h
  have B18 := Lib.hid (B17.out.trans (hb.mono B17.out.size))
  clear h hb
  rw [add_zero (ok_pt v)] at Pz
  go_wp2_with fail
  refine (Times_yes _ _ _ _ _ _ w18 Pa.out k_one).mono ?_
  rintro e w19 ⟨⟨ox_, oy_, rfl, h⟩, hb⟩
  have Po := Lib.hid h
  have B19 := Lib.hid (B18.out.trans (hb.mono B18.out.size))
  clear h hb
  rw [mul_one (ok_pt v)] at Po
  obtain ⟨q0, r0⟩ := eq_yes Px.out Py.out
  obtain ⟨q1, r1⟩ := eq_yes Pm.out Pn.out
  obtain ⟨q2, r2⟩ := eq_yes Pd.out Pe.out
  obtain ⟨q3, r3⟩ := eq_yes Pz.out Pa.out
  obtain ⟨q4, r4⟩ := eq_yes Po.out Pa.out
  go_wp2_with fail
  go_ret
  exact ⟨rfl, B19.out⟩
theorem tsum (j k : Int) (hj : 0 ≤ j ∧ j < 4294967296) (hk : 0 ≤ k ∧ k < 4294967296) (p : Pt) (hp : okP p) : turn (turn p j.toNat) k.toNat = turn p (j % 4 + k % 4).toNat := by
  obtain ⟨a, rfl⟩ := Int.eq_ofNat_of_zero_le hj.1
  obtain ⟨b, rfl⟩ := Int.eq_ofNat_of_zero_le hk.1
  rw [← turn_add, turn_mod hp, show ((a : Int) % 4 + (b : Int) % 4).toNat = a % 4 + b % 4 by omega, turn_mod hp (a % 4 + b % 4)]
  congr 1
  rw [show ((a : Int)).toNat = a from rfl, show ((b : Int)).toNat = b from rfl]
  omega
theorem turn_1 (p : Pt) : turn p (Int.toNat 1) = mul p ⟨0, 1⟩ := rfl
theorem turn_4 {p : Pt} (h : okP p) : turn p (Int.toNat 4) = p := turn_four h
set_option maxRecDepth 100000 in
set_option maxHeartbeats 1000000 in
theorem turns_walk (v j k : Int) (w : World) (hv : 0 ≤ v ∧ v < 4294967296) (hj : 0 ≤ j ∧ j < 4294967296) (hk : 0 ≤ k ∧ k < 4294967296) :
    Calls Try.prog 8 #[.int .u32 v, .int .u32 j, .int .u32 k] w fun e w' => e = .returned (.bool true) ∧ Below w.heap.size w w' := by
  have Hv := Lib.hid hv
  have Hj := Lib.hid hj
  have Hk := Lib.hid hk
  have hj1 := hj.1
  have hk1 := hk.1
  have j1 : Int.tmod j 4 = j % 4 := Int.tmod_eq_emod_of_nonneg hj1
  have k1 : Int.tmod k 4 = k % 4 := Int.tmod_eq_emod_of_nonneg hk1
  have HE := Lib.hid (tsum j k hj hk)
  have HS := Lib.hid (show 0 ≤ j % 4 + k % 4 ∧ j % 4 + k % 4 < 4294967296 by omega)
  clear hv hj hk
  go_enter Try.func8, Try.ntmps8
  go_wp2_with fail
  refine (awake_any w).mono ?_
  rintro e w1 ⟨rfl, hb⟩
  have B1 := Lib.hid (hb)
  clear hb
  go_wp2_with fail
  refine (Point_any v w1 Hv.out).mono ?_
  rintro e w2 ⟨⟨zx_, zy_, rfl, h⟩, hb⟩
  have Pz := Lib.hid h
  have B2 := Lib.hid (B1.out.trans (hb.mono B1.out.size))
  clear h hb
  go_wp2_with fail
  refine (Turn_yes zx_ zy_ _ j w2 Pz.out Hj.out).mono ?_
  rintro e w3 ⟨⟨ax_, ay_, rfl, h⟩, hb⟩
  have Pa := Lib.hid h
  have B3 := Lib.hid (B2.out.trans (hb.mono B2.out.size))
  clear h hb
  go_wp2_with fail
  refine (Turn_yes ax_ ay_ _ k w3 Pa.out Hk.out).mono ?_
  rintro e w4 ⟨⟨bx_, by_, rfl, h⟩, hb⟩
  have Pb := Lib.hid h
  have B4 := Lib.hid (B3.out.trans (hb.mono B3.out.size))
  clear h hb
  rw [HE.out _ (ok_pt v)] at Pb
  go_wp2_with fail
  refine (Turn_yes zx_ zy_ _ _ w4 Pz.out HS.out).mono ?_
  rintro e w5 ⟨⟨cx_, cy_, rfl, h⟩, hb⟩
  have Pc := Lib.hid h
  have B5 := Lib.hid (B4.out.trans (hb.mono B4.out.size))
  clear h hb
  go_wp2_with fail
  refine (Times_yes _ _ _ _ _ _ w5 Pz.out k_i).mono ?_
  rintro e w6 ⟨⟨ix_, iy_, rfl, h⟩, hb⟩
  have Pi := Lib.hid h
  have B6 := Lib.hid (B5.out.trans (hb.mono B5.out.size))
  clear h hb
  go_wp2_with fail
  refine (Turn_yes zx_ zy_ _ 1 w6 Pz.out (by omega)).mono ?_
  rintro e w7 ⟨⟨ox_, oy_, rfl, h⟩, hb⟩
  have Po := Lib.hid h
  have B7 := Lib.hid (B6.out.trans (hb.mono B6.out.size))
  clear h hb
  rw [turn_1] at Po
  go_wp2_with fail
  refine (Turn_yes zx_ zy_ _ 4 w7 Pz.out (by omega)).mono ?_
  rintro e w8 ⟨⟨fx_, fy_, rfl, h⟩, hb⟩
  have Pf := Lib.hid h
  have B8 := Lib.hid (B7.out.trans (hb.mono B7.out.size))
  clear h hb
  rw [turn_4 (ok_pt v)] at Pf
  go_wp2_with fail
  refine (Turn_yes zx_ zy_ _ 2 w8 Pz.out (by omega)).mono ?_
  rintro e w9 ⟨⟨tx_, ty_, rfl, h⟩, hb⟩
  have Pt := Lib.hid h
  have B9 := Lib.hid (B8.out.trans (hb.mono B8.out.size))
  clear h hb
  go_wp2_with fail
  refine (Plus_yes _ _ _ _ _ _ w9 Pz.out Pt.out).mono ?_
  rintro e w10 ⟨⟨sx_, sy_, rfl, h⟩, hb⟩
  have Ps := Lib.hid h
  have B10 := Lib.hid (B9.out.trans (hb.mono B9.out.size))
  clear h hb
  rw [show turn (pt v) (Int.toNat 2) = turn (pt v) 2 from rfl, add_turn_two] at Ps
  obtain ⟨q0, r0⟩ := eq_yes Pb.out Pc.out
  obtain ⟨q1, r1⟩ := eq_yes Pi.out Po.out
  obtain ⟨q2, r2⟩ := eq_yes Pf.out Pz.out
  obtain ⟨q3, r3⟩ := eq_yes Ps.out k_zero
  go_wp2_with fail
  go_ret
  exact ⟨rfl, B10.out⟩
set_option maxRecDepth 100000 in
set_option maxHeartbeats 1000000 in
theorem none_any (x y : Nat) (v : Int) (w : World) (h : NotPt x y) (hv : 0 ≤ v ∧ v < 4294967296) :
    Calls Try.prog 12 #[.complex .f64 x y, .int .u32 v] w fun e w' => e = .returned (.bool true) ∧ Below w.heap.size w w' := by
  have H := Lib.hid h
  have Hv := Lib.hid hv
  clear h hv
  go_enter Try.func12, Try.ntmps12
  go_wp2_with fail
  refine (Word_no x y w H.out).mono ?_
  rintro e w1 ⟨rfl, hb⟩
  have B1 := Lib.hid (hb)
  clear hb
  go_wp2_with fail
  refine (Point_any v w1 Hv.out).mono ?_
  rintro e w2 ⟨⟨ax_, ay_, rfl, h⟩, hb⟩
  have Pa := Lib.hid h
  have B2 := Lib.hid (B1.out.trans (hb.mono B1.out.size))
  clear h hb
  go_wp2_with fail
  refine (Plus_no x y _ _ w2 (.inl H.out)).mono ?_
  rintro e w3 ⟨⟨sx_, sy_, rfl, h⟩, hb⟩
  have Ps := Lib.hid h
  have B3 := Lib.hid (B2.out.trans (hb.mono B2.out.size))
  clear h hb
  go_wp2_with fail
  refine (Point_any v w3 Hv.out).mono ?_
  rintro e w4 ⟨⟨bx_, by_, rfl, h⟩, hb⟩
  have Pb := Lib.hid h
  have B4 := Lib.hid (B3.out.trans (hb.mono B3.out.size))
  clear h hb
  go_wp2_with fail
  refine (Plus_no _ _ x y w4 (.inr H.out)).mono ?_
  rintro e w5 ⟨⟨tx_, ty_, rfl, h⟩, hb⟩
  have Pt := Lib.hid h
  have B5 := Lib.hid (B4.out.trans (hb.mono B4.out.size))
  clear h hb
  go_wp2_with fail
  refine (Point_any v w5 Hv.out).mono ?_
  rintro e w6 ⟨⟨cx_, cy_, rfl, h⟩, hb⟩
  have Pc := Lib.hid h
  have B6 := Lib.hid (B5.out.trans (hb.mono B5.out.size))
  clear h hb
  go_wp2_with fail
  refine (Times_no x y _ _ w6 (.inl H.out)).mono ?_
  rintro e w7 ⟨⟨px_, py_, rfl, h⟩, hb⟩
  have Pp := Lib.hid h
  have B7 := Lib.hid (B6.out.trans (hb.mono B6.out.size))
  clear h hb
  go_wp2_with fail
  refine (Point_any v w7 Hv.out).mono ?_
  rintro e w8 ⟨⟨dx_, dy_, rfl, h⟩, hb⟩
  have Pd := Lib.hid h
  have B8 := Lib.hid (B7.out.trans (hb.mono B7.out.size))
  clear h hb
  go_wp2_with fail
  refine (Times_no _ _ x y w8 (.inr H.out)).mono ?_
  rintro e w9 ⟨⟨qx_, qy_, rfl, h⟩, hb⟩
  have Pq := Lib.hid h
  have B9 := Lib.hid (B8.out.trans (hb.mono B8.out.size))
  clear h hb
  go_wp2_with fail
  refine (Turn_no x y v w9 H.out Hv.out).mono ?_
  rintro e w10 ⟨⟨ux_, uy_, rfl, h⟩, hb⟩
  have Pu := Lib.hid h
  have B10 := Lib.hid (B9.out.trans (hb.mono B9.out.size))
  clear h hb
  obtain ⟨q0, r0⟩ := eq_yes Ps.out k_zero
  obtain ⟨q1, r1⟩ := eq_yes Pt.out k_zero
  obtain ⟨q2, r2⟩ := eq_yes Pp.out k_zero
  obtain ⟨q3, r3⟩ := eq_yes Pq.out k_zero
  obtain ⟨q4, r4⟩ := eq_yes Pu.out k_zero
  go_wp2_with fail
  go_ret
  exact ⟨rfl, B10.out⟩
end Go.Proofs.Ytelmkfpomeilpaa.Rotor
