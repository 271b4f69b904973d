/- The walk of TableKeeps, where both tell a table. -/
import Derived.Test.YtmkponhhinjpkaaTw
import Derived.Test.YtmkponhhinjpkaaTy
namespace Go.Proofs.Ytmkponhhinjpkaa.Table
open Go.RowKit Fifo Go.Maps Go.ChangeShapes Go.WideShapes Go.ChangeAt Go.Proofs.Ytmkponhhinjpkaa.Access
set_option linter.unusedVariables false

theorem clrR_ok {d : List Rg} {k : Nat} (h : openE d (k : Nat) = 0) : clrR d (k : Nat) = clrL d k := by unfold clrR; rw [if_pos h]; rfl
theorem clrR_no {d : List Rg} {k : Nat} {x : Int} (h : openE d (k : Nat) = x) (h0 : x ≠ 0) : clrR d (k : Nat) = [] := by unfold clrR; rw [if_neg (by rw [h]; exact h0)]
set_option maxRecDepth 100000 in
set_option maxHeartbeats 16000000 in
theorem keeps_told (a : Option Addr) (n cap : Nat) (d : List Rg) (k : Nat) (o : Bool) (W F T : Int) (rd wt : Bool) (K : Int) (lk : Bool) (V : Int) (w : World) (hn : n ≤ 100) (hc : n ≤ cap) (hno : a = none → cap = 0) (h : RowG w a n d) (hx : openE d (k : Nat) = 0) (hs : setE d (k : Nat) ⟨o, W, F, T, rd, wt, K, lk⟩ = 0) :
    Calls Try.prog 4 #[.slice a n cap, .int .i64 k, Region.reg o W F T rd wt K lk, .int .i64 V] w fun e w' => e = .returned (.bool true) ∧ Below w.heap.size w w' := by
  have d1 : decide ((100 : Int) < (n : Int)) = false := decide_eq_false (by omega)
  have hn6 : n ≤ 1000000 := by omega
  have hk32 : k < 32 := by have := (open_ok hx).2.2.1; omega
  have hl : setR d (k : Nat) ⟨o, W, F, T, rd, wt, K, lk⟩ = setL d k ⟨o, W, F, T, rd, wt, K, lk⟩ := by unfold setR; rw [if_pos hs]; rfl
  have hcl : clrR d (k : Nat) = clrL d k := by unfold clrR; rw [if_pos hx]; rfl
  have htabx : tabB (setL d k ⟨o, W, F, T, rd, wt, K, lk⟩) = true := tabB_iff.2 (setL_tab (open_ok hx).1 hk32 (set_ok hs).2.1 (set_ok hs).2.2)
  have htab : tabB (clrL d k) = true := tabB_iff.2 (clrL_tab (open_ok hx).1)
  obtain ⟨N, hN⟩ : ∃ N, (setL d k ⟨o, W, F, T, rd, wt, K, lk⟩).length = N := ⟨_, rfl⟩
  have hN2 : N = max n (k + 1) := by rw [← hN, setL_length, h.1]
  have hNk : k < N := by omega
  have hN3 : N ≤ 1000000 := by omega
  have hlen : (clrL d k).length = n := by unfold clrL; rw [List.length_set]; exact h.1
  have Hr := Lib.hid h
  have Hx := Lib.hid hx
  have Hs := Lib.hid hs
  have Hl := Lib.hid hl
  have Hcl := Lib.hid hcl
  have Hno := Lib.hid hno
  have Htab := Lib.hid htab
  have Htabx := Lib.hid htabx
  have Hlen := Lib.hid hlen
  have HN := Lib.hid hN
  have HN2 := Lib.hid hN2
  have hlenZ : (clrL (setL d k ⟨o, W, F, T, rd, wt, K, lk⟩) k).length = N := by unfold clrL; rw [List.length_set]; exact hN
  have HlenZ := Lib.hid hlenZ
  clear hlenZ
  obtain ⟨b0, hb0⟩ : ∃ b0, w.heap.size = b0 := ⟨_, rfl⟩
  have h8 := Region.eight_new w o W F T rd wt K lk 36
  rw [hb0] at h8
  have H8 := Lib.hid h8
  have H0 := Lib.hid ((Below.refl w.heap.size w).alloc (Nat.le_refl _) (.cells #[.bool o, .int .i64 W, .int .u32 F, .int .u32 T, .bool rd, .bool wt, .int .i64 K, .bool lk] 36))
  clear h hx hs hl hcl hno h8 htab htabx hlen hN hN2
  go_enter Try.func4, Try.ntmps4
  go_wp2_with fail
  refine (awake_any _).mono ?_
  rintro e w1 ⟨rfl, hb1⟩
  have B1 := Lib.hid (H0.out.trans (hb1.mono H0.out.size))
  have F1 := Lib.hid (H8.out.keep hb1)
  clear hb1 H0 H8 hb0
  obtain ⟨c0, c1, c2, c3, c4, c5, c6, c7⟩ := F1.out
  go_wp2_with fail
  refine (Set_any a n cap d k o W F T rd wt K lk 0 _ _ hn6 hc (Hr.out.keep B1.out) Hs.out Hl.out).mono ?_
  rintro e w2 ⟨v2, rfl, hv2, hb2⟩
  rw [HN.out] at hv2
  obtain ⟨a2, k2, rfl, hk2, hno2⟩ := ok_shape hv2
  have B2 := Lib.hid (B1.out.trans (hb2.mono B1.out.size))
  have F2 := Lib.hid (F1.out.keep hb2)
  have Hu := Lib.hid (rowG_of_own HN.out hv2)
  clear hb2 hv2 B1 F1 c0 c1 c2 c3 c4 c5 c6 c7
  go_wp2_with fail
  refine (Clear_any a n cap d k 0 (clrL d k) _ hn6 hc (Hr.out.keep B2.out) Hno.out Hx.out Hcl.out).mono ?_
  rintro e w3 ⟨v3, rfl, hv3, hb3⟩
  rw [Hlen.out] at hv3
  obtain ⟨a3, k3, rfl, hk3, hno3⟩ := ok_shape hv3
  have B3 := Lib.hid (B2.out.trans (hb3.mono B2.out.size))
  have F3 := Lib.hid (F2.out.keep hb3)
  have Hv := Lib.hid (Hu.out.keep hb3)
  have Hw := Lib.hid (rowG_of_own Hlen.out hv3)
  clear hb3 hv3 B2 F2 Hu
  have i1 : (0 : Int) ≤ (k : Int) := by omega
  have i2 : (k : Int) < (N : Int) := by omega
  have i3 : decide ((N : Int) ≤ (k : Int)) = false := decide_eq_false (by omega)
  have i4 : decide (N ≤ k) = false := decide_eq_false (by omega)
  obtain ⟨kn, hkn⟩ : ∃ kn, decide ((k : Int) < (n : Int)) = kn := ⟨_, rfl⟩
  have hkn2 : decide (k < n) = kn := by rw [← hkn]; simp
  go_wp2_with fail
  refine wp_region_ext (by kernel_rfl) (by kernel_rfl) ?_
  intro X hX
  obtain rfl := hX.out
  clear hX
  have HWX := Lib.hid (fun p => Hw.out.keep (ext_below X p))
  have HVX := Lib.hid (fun p => Hv.out.keep (ext_below X p))
  obtain ⟨bx, ox, hbo, cx⟩ := Hv.out.2 k hNk
  rw [setL_get, if_pos rfl] at cx
  subst hbo
  obtain ⟨z0, z1, z2, z3, z4, z5, z6, z7⟩ := cx
  have y0 := ext_cell z0
  have y1 := ext_cell z1
  have y2 := ext_cell z2
  have y3 := ext_cell z3
  have y4 := ext_cell z4
  have y5 := ext_cell z5
  have y6 := ext_cell z6
  have y7 := ext_cell z7
  have q0 := ext_cell F3.out.c0
  have q1 := ext_cell F3.out.c1
  have q2 := ext_cell F3.out.c2
  have q3 := ext_cell F3.out.c3
  have q4 := ext_cell F3.out.c4
  have q5 := ext_cell F3.out.c5
  have q6 := ext_cell F3.out.c6
  have q7 := ext_cell F3.out.c7
  clear z0 z1 z2 z3 z4 z5 z6 z7
  cases kn
  focus
    repeat (go_big_quiet_step ((go_at_call 7; with_reducible first | exact ext_of (Right_any _ N k2 (setL d k ⟨o, W, F, T, rd, wt, K, lk⟩) true _ hN3 hk2 (HVX.out _) Htabx.out) | exact ext_of (Right_any a3 n k3 (clrL d k) true _ hn6 hk3 (HWX.out _) Htab.out))))
    refine wpQuiet_nil ?_
    intro w9 hw9
    obtain ⟨p9, rfl⟩ := hw9
    clear HWX HVX y0 y1 y2 y3 y4 y5 y6 y7 q0 q1 q2 q3 q4 q5 q6 q7
  rotate_left
  focus
    have hlt : k < n := of_decide_eq_true hkn2
    have i5 : (k : Int) < (n : Int) := by omega
    obtain ⟨bw, ow, hbw, cw⟩ := Hw.out.2 k hlt
    rw [clrL_get, if_pos rfl] at cw
    subst hbw
    have cw : At8 _ bw (ow + k * 8) ⟨false, 0, 0, 0, false, false, 0, false⟩ := cw
    obtain ⟨z0, z1, z2, z3, z4, z5, z6, z7⟩ := cw
    have x0 := ext_cell z0
    have x1 := ext_cell z1
    have x2 := ext_cell z2
    have x3 := ext_cell z3
    have x4 := ext_cell z4
    have x5 := ext_cell z5
    have x6 := ext_cell z6
    have x7 := ext_cell z7
    clear z0 z1 z2 z3 z4 z5 z6 z7
    repeat (go_big_quiet_step ((go_at_call 7; with_reducible first | exact ext_of (Right_any _ N k2 (setL d k ⟨o, W, F, T, rd, wt, K, lk⟩) true _ hN3 hk2 (HVX.out _) Htabx.out) | exact ext_of (Right_any _ n k3 (clrL d k) true _ hn6 hk3 (HWX.out _) Htab.out))))
    refine wpQuiet_nil ?_
    intro w9 hw9
    obtain ⟨p9, rfl⟩ := hw9
    clear HWX HVX x0 x1 x2 x3 x4 x5 x6 x7 y0 y1 y2 y3 y4 y5 y6 y7 q0 q1 q2 q3 q4 q5 q6 q7
  all_goals (
    refine exit_letter ?_
    intro Y hY
    have BY := Lib.hid (show Below X.heap.size X Y by rw [hY.out]; exact ext_below X p9)
    have B5 := Lib.hid (B3.out.trans (BY.out.mono B3.out.size))
    have Ru := Lib.hid (Hr.out.keep B5.out)
    have Rv := Lib.hid (Hv.out.keep BY.out)
    have Rw := Lib.hid (Hw.out.keep BY.out)
    have FY := Lib.hid (F3.out.keep BY.out)
    clear hY Hv Hw F3 B3
    go_wp2_with fail
    go_loopw [13] (fun i wr => ∃ j : Nat, j ≤ N ∧ i = .int .i64 j ∧ Below Y.heap.size Y wr) (fun i _ => N - (intOf i).toNat)
    case atStart => exact ⟨0, Nat.zero_le _, rfl, Below.refl _ _⟩
    case round =>
      obtain ⟨j, hj, rfl, hb⟩ := hrel
      have Hb := Lib.hid hb
      have hsz := hb.size
      clear hb
      by_cases hlt : j < N
      · have j1 : (0 : Int) ≤ (j : Int) := by omega
        have j2 : (j : Int) < (N : Int) := by omega
        obtain ⟨g, hg⟩ : ∃ g, wr.heap.size = g := ⟨_, rfl⟩
        have G0 := Blk.new wr 36 [.bool false, .int .i64 0, .int .u32 0, .int .u32 0, .bool false, .bool false, .int .i64 0, .bool false]
        rw [hg] at G0
        have HG := Lib.hid G0
        have hYg : Y.heap.size ≤ g := by rw [← hg]; exact hsz
        have HA := Lib.hid (Hb.out.alloc Hb.out.size (.cells #[.bool false, .int .i64 0, .int .u32 0, .int .u32 0, .bool false, .bool false, .int .i64 0, .bool false] 36))
        clear G0
        go_wp2_with (with_reducible refine at_store _ _ _ rfl ?_)
        apply Lib.hid
        refine store_blk rfl _ _ _ rfl g [.bool false, .int .i64 0, .int .u32 0, .int .u32 0, .bool false, .bool false, .int .i64 0, .bool false] rfl rfl 36 _ HG.out (by kernel_rfl) rfl (by simp [Value.oneCell']) ?_
        intro X1 hX1 ho1
        have H1 := Lib.hid hX1
        have b1 : Below Y.heap.size Y X1 := HA.out.trans (ho1.below HA.out.size (fun k hk => by rw [hk]; exact hYg))
        have D1 := Lib.hid b1
        clear hX1 ho1 HG HA hg b1 Hb hsz
        by_cases hjn : j < n
        · have j3 : (j : Int) < (n : Int) := by omega
          obtain ⟨bl, ol, rfl, ce⟩ := Ru.out.2 j hjn
          have ce := ce.keep D1.out
          obtain ⟨x, hx⟩ : ∃ x, d[j]! = x := ⟨_, rfl⟩
          rw [hx] at ce
          have Hdx := Lib.hid hx
          clear hx
          obtain ⟨xo, xW, xF, xT, xr, xw, xK, xl⟩ := x
          obtain ⟨e0, e1, e2, e3, e4, e5, e6, e7⟩ := ce
          go_wp2_with (with_reducible refine at_store _ _ _ rfl ?_)
          apply Lib.hid
          refine store_blk rfl _ _ _ rfl g [.bool xo, .int .i64 xW, .int .u32 xF, .int .u32 xT, .bool xr, .bool xw, .int .i64 xK, .bool xl] rfl rfl 36 _ H1.out (by kernel_rfl) rfl (by simp [Value.oneCell']) ?_
          intro X2 hX2 ho2
          have H2 := Lib.hid hX2
          have D2 := Lib.hid (D1.out.trans (ho2.below D1.out.size (fun k hk => by rw [hk]; exact hYg)))
          clear hX2 ho2 H1 D1 e0 e1 e2 e3 e4 e5 e6 e7
          go_wp2_with fail
          have hwas := H2.out
          by_cases hjk : j = k
          · have t1 : ((j : Int) != (k : Int)) = false := by rw [hjk]; simp
            clear hjk hwas
            have t2 : decide ((j : Int) < (n : Int)) = true := decide_eq_true j3
            have t3 : decide (j < n) = true := decide_eq_true hjn
            refine wp_region_ext (by kernel_rfl) (by kernel_rfl) ?_
            intro Z hZ
            obtain rfl := hZ.out
            clear hZ
            try simp only [Act.put]
            repeat (go_big_quiet_step (fail))
            refine wpQuiet_nil ?_
            intro w8 hw8
            obtain ⟨p8, rfl⟩ := hw8
            have D4 := Lib.hid (D2.out.trans ((ext_below Z p8).mono D2.out.size))
            clear D2 t1 t2 t3
            go_wp2_with fail
            exact ⟨⟨j + 1, by omega, by go_num, D4.out⟩, by simp [intOf]; omega⟩
          · have t1 : ((j : Int) != (k : Int)) = true := by simp; omega
            have t2 : decide ((j : Int) < (n : Int)) = true := decide_eq_true j3
            have t3 : decide (j < n) = true := decide_eq_true hjn
            obtain ⟨b5, o5, hb5, cu⟩ := Rv.out.2 j (by omega)
            rw [setL_get, if_neg hjk, Hdx.out] at cu
            have hb5 : b5 = bx ∧ o5 = ox := by simpa using hb5.symm
            obtain ⟨rfl, rfl⟩ := hb5
            have cu := cu.keep D2.out
            obtain ⟨b6, o6, hb6, cv⟩ := Rw.out.2 j hjn
            first | subst hb6 | (have hb6 : b6 = bw ∧ o6 = ow := (by simpa using hb6.symm); obtain ⟨rfl, rfl⟩ := hb6)
            rw [clrL_get, if_neg hjk, Hdx.out] at cv
            have cv := cv.keep D2.out
            obtain ⟨e0, e1, e2, e3, e4, e5, e6, e7⟩ := cu
            obtain ⟨f0, f1, f2, f3, f4, f5, f6, f7⟩ := cv
            refine wp_region_ext (by kernel_rfl) (by kernel_rfl) ?_
            intro Z hZ
            obtain rfl := hZ.out
            clear hZ
            have x0 := ext_cell e0
            have y0 := ext_cell f0
            have q0 := ext_cell (hwas.at 0 rfl)
            have x1 := ext_cell e1
            have y1 := ext_cell f1
            have q1 := ext_cell (hwas.at 1 rfl)
            have x2 := ext_cell e2
            have y2 := ext_cell f2
            have q2 := ext_cell (hwas.at 2 rfl)
            have x3 := ext_cell e3
            have y3 := ext_cell f3
            have q3 := ext_cell (hwas.at 3 rfl)
            have x4 := ext_cell e4
            have y4 := ext_cell f4
            have q4 := ext_cell (hwas.at 4 rfl)
            have x5 := ext_cell e5
            have y5 := ext_cell f5
            have q5 := ext_cell (hwas.at 5 rfl)
            have x6 := ext_cell e6
            have y6 := ext_cell f6
            have q6 := ext_cell (hwas.at 6 rfl)
            have x7 := ext_cell e7
            have y7 := ext_cell f7
            have q7 := ext_cell (hwas.at 7 rfl)
            clear e0 e1 e2 e3 e4 e5 e6 e7 f0 f1 f2 f3 f4 f5 f6 f7 hwas
            try simp only [Act.put]
            repeat (go_big_quiet_step (fail))
            refine wpQuiet_nil ?_
            intro w8 hw8
            obtain ⟨p8, rfl⟩ := hw8
            have D4 := Lib.hid (D2.out.trans ((ext_below Z p8).mono D2.out.size))
            clear D2 t1 t2 t3 x0 x1 x2 x3 x4 x5 x6 x7 y0 y1 y2 y3 y4 y5 y6 y7 q0 q1 q2 q3 q4 q5 q6 q7
            go_wp2_with fail
            exact ⟨⟨j + 1, by omega, by go_num, D4.out⟩, by simp [intOf]; omega⟩
        · have j3 : decide ((j : Int) < (n : Int)) = false := decide_eq_false (by omega)
          have j4 : decide (j < n) = false := decide_eq_false hjn
          go_wp2_with fail
          have hwas := H1.out
          by_cases hjk : j = k
          · have t1 : ((j : Int) != (k : Int)) = false := by rw [hjk]; simp
            clear hjk hwas
            refine wp_region_ext (by kernel_rfl) (by kernel_rfl) ?_
            intro Z hZ
            obtain rfl := hZ.out
            clear hZ
            try simp only [Act.put]
            repeat (go_big_quiet_step (fail))
            refine wpQuiet_nil ?_
            intro w8 hw8
            obtain ⟨p8, rfl⟩ := hw8
            have D4 := Lib.hid (D1.out.trans ((ext_below Z p8).mono D1.out.size))
            clear D1 t1
            go_wp2_with fail
            exact ⟨⟨j + 1, by omega, by go_num, D4.out⟩, by simp [intOf]; omega⟩
          · have t1 : ((j : Int) != (k : Int)) = true := by simp; omega
            obtain ⟨b5, o5, hb5, cu⟩ := Rv.out.2 j (by omega)
            rw [setL_get, if_neg hjk, get_out (by rw [Ru.out.1]; omega)] at cu
            have hb5 : b5 = bx ∧ o5 = ox := by simpa using hb5.symm
            obtain ⟨rfl, rfl⟩ := hb5
            have cu : At8 _ b5 (o5 + j * 8) ⟨false, 0, 0, 0, false, false, 0, false⟩ := cu.keep D1.out
            obtain ⟨e0, e1, e2, e3, e4, e5, e6, e7⟩ := cu
            refine wp_region_ext (by kernel_rfl) (by kernel_rfl) ?_
            intro Z hZ
            obtain rfl := hZ.out
            clear hZ
            have x0 := ext_cell e0
            have q0 := ext_cell (hwas.at 0 rfl)
            have x1 := ext_cell e1
            have q1 := ext_cell (hwas.at 1 rfl)
            have x2 := ext_cell e2
            have q2 := ext_cell (hwas.at 2 rfl)
            have x3 := ext_cell e3
            have q3 := ext_cell (hwas.at 3 rfl)
            have x4 := ext_cell e4
            have q4 := ext_cell (hwas.at 4 rfl)
            have x5 := ext_cell e5
            have q5 := ext_cell (hwas.at 5 rfl)
            have x6 := ext_cell e6
            have q6 := ext_cell (hwas.at 6 rfl)
            have x7 := ext_cell e7
            have q7 := ext_cell (hwas.at 7 rfl)
            clear e0 e1 e2 e3 e4 e5 e6 e7 hwas
            try simp only [Act.put]
            repeat (go_big_quiet_step (fail))
            refine wpQuiet_nil ?_
            intro w8 hw8
            obtain ⟨p8, rfl⟩ := hw8
            have D4 := Lib.hid (D1.out.trans ((ext_below Z p8).mono D1.out.size))
            clear D1 t1 x0 x1 x2 x3 x4 x5 x6 x7 q0 q1 q2 q3 q4 q5 q6 q7
            go_wp2_with fail
            exact ⟨⟨j + 1, by omega, by go_num, D4.out⟩, by simp [intOf]; omega⟩
      · obtain rfl : N = j := by omega
        have HB0 := Lib.hid (B5.out.trans (Hb.out.mono B5.out.size))
        have Rd0 := Lib.hid (Ru.out.keep Hb.out)
        have Rx0 := Lib.hid (Rv.out.keep Hb.out)
        have Ry0 := Lib.hid (Rw.out.keep Hb.out)
        have F0 := Lib.hid (FY.out.keep Hb.out)
        clear Ru Rv Rw FY Hb B5 hsz hj hlt
        obtain ⟨L1, hL1⟩ : ∃ L, mapL d V = L := ⟨_, rfl⟩
        have HL1 := Lib.hid hL1
        obtain ⟨M, hM⟩ : ∃ M, L1.length = M := ⟨_, rfl⟩
        have HM := Lib.hid hM
        have hM6 : M ≤ 1000000 := by rw [← hM, ← hL1]; have := mapL_length d V; rw [Rd0.out.1] at this; omega
        clear hL1 hM
        obtain ⟨x, hx⟩ : ∃ x, d[k]! = x := ⟨_, rfl⟩
        have Hdk := Lib.hid hx
        clear hx
        by_cases hkk : k < n
        focus
          first
          | exact absurd hkk (of_decide_eq_false hkn2)
          |
            have i7 : (k : Int) < (n : Int) := by omega
            obtain ⟨bl, ol, hbl, ce⟩ := Rd0.out.2 k hkk
            subst hbl
            rw [Hdk.out] at ce
            obtain ⟨xo, xW, xF, xT, xr, xw, xK, xl⟩ := x
            obtain ⟨e0, e1, e2, e3, e4, e5, e6, e7⟩ := ce
            clear e2 e3 e4 e5 e6 e7 hkk
            cases xo
            focus
              have hold : ¬ (d[k]!.o = true ∧ d[k]!.W = V) := by rw [Hdk.out]; simp
              have HMx := Lib.hid (show W ≠ V → mapL (setL d k ⟨o, W, F, T, rd, wt, K, lk⟩) V = L1 from fun hne => (mapL_set Hx.out Hs.out (fun hh => hne hh.2) hold).trans HL1.out)
              have HMy := Lib.hid (show mapL (clrL d k) V = L1 from (mapL_clr Hx.out hold).trans HL1.out)
              clear hold
              have f1 := F0.out.c1
              by_cases hWV : W = V
              focus
                have t9 : (W != V) = false := by rw [hWV]; simp
                clear hWV
                go_wp2_with fail
                refine (Map_any _ n k3 (clrL d k) V _ hn6 hk3 Ry0.out).mono ?_
                rintro e w5 ⟨v5, rfl, hv5, hb5⟩
                rw [HMy.out, HM.out] at hv5
                obtain ⟨apa, cpa, rfl, _⟩ := ok_shape hv5
                have hrow := rowG_of_own HM.out hv5
                clear hv5
                have Mpa_0 := Lib.hid hrow
                clear hrow
                have HB11 := Lib.hid (HB0.out.trans (hb5.mono HB0.out.size))
                have Rd11 := Lib.hid (Rd0.out.keep hb5)
                have Rx11 := Lib.hid (Rx0.out.keep hb5)
                have Ry11 := Lib.hid (Ry0.out.keep hb5)
                have F11 := Lib.hid (F0.out.keep hb5)
                clear HB0 Rd0 Rx0 Ry0 F0  hb5
                have Mpa := Mpa_0
                clear Mpa_0
                -- keep the first
                go_wp2_with fail
                refine (Map_any _ n cap d V _ hn6 hc Rd11.out).mono ?_
                rintro e w5 ⟨v5, rfl, hv5, hb5⟩
                rw [HL1.out, HM.out] at hv5
                obtain ⟨apb, cpb, rfl, _⟩ := ok_shape hv5
                have Mpb := Lib.hid (rowG_of_own HM.out hv5)
                have Mpk := Lib.hid (Mpa.out.keep hb5)
                clear hv5 Mpa
                have HB12 := Lib.hid (HB11.out.trans (hb5.mono HB11.out.size))
                have Rd12 := Lib.hid (Rd11.out.keep hb5)
                have Rx12 := Lib.hid (Rx11.out.keep hb5)
                have Ry12 := Lib.hid (Ry11.out.keep hb5)
                have F12 := Lib.hid (F11.out.keep hb5)
                clear HB11 Rd11 Rx11 Ry11 F11 hb5
                go_wp2_with fail
                refine (same_any _ _ M _ _ L1 _ hM6 Mpk.out Mpb.out).mono ?_
                rintro e w5 ⟨rfl, hb5⟩
                clear Mpk Mpb
                have HB13 := Lib.hid (HB12.out.trans (hb5.mono HB12.out.size))
                have Rd13 := Lib.hid (Rd12.out.keep hb5)
                have Rx13 := Lib.hid (Rx12.out.keep hb5)
                have Ry13 := Lib.hid (Ry12.out.keep hb5)
                have F13 := Lib.hid (F12.out.keep hb5)
                clear HB12 Rd12 Rx12 Ry12 F12 hb5
                cases lk
                focus
                  have HX0 := Lib.hid (open_set_free Hx.out Hs.out)
                  have HC0 := Lib.hid (clrR_ok HX0.out)
                  go_wp2_with fail
                  refine (Clear_any _ N k2 (setL d k ⟨o, W, F, T, rd, wt, K, false⟩) k 0 (clrL (setL d k ⟨o, W, F, T, rd, wt, K, false⟩) k) _ hN3 hk2 Rx13.out (fun h => (hno2 h).2) HX0.out HC0.out).mono ?_
                  rintro e w5 ⟨v5, rfl, hv5, hb5⟩
                  rw [HlenZ.out] at hv5
                  obtain ⟨az, kz, rfl, hkz, _⟩ := ok_shape hv5
                  have Rz0 := Lib.hid (rowG_of_own HlenZ.out hv5)
                  clear hv5
                  have HB14 := Lib.hid (HB13.out.trans (hb5.mono HB13.out.size))
                  have Rd14 := Lib.hid (Rd13.out.keep hb5)
                  have Rx14 := Lib.hid (Rx13.out.keep hb5)
                  have Ry14 := Lib.hid (Ry13.out.keep hb5)
                  have F14 := Lib.hid (F13.out.keep hb5)
                  clear HB13 Rd13 Rx13 Ry13 F13 hb5
                  have Rz14 := Rz0
                  clear Rz0
                  have e6 := F14.out.c6
                  have e7 := F14.out.c7
                  obtain ⟨L2, hL2⟩ : ∃ L, mapL (clrL d k) V = L := ⟨_, rfl⟩
                  have HZ := Lib.hid ((mapL_clr_set Hx.out Hs.out (V := V)).trans hL2)
                  have HY := Lib.hid hL2
                  obtain ⟨M2, hM2⟩ : ∃ M, L2.length = M := ⟨_, rfl⟩
                  have HM2 := Lib.hid hM2
                  have hM26 : M2 ≤ 1000000 := by rw [← hM2, ← hL2]; have := mapL_length (clrL d k) V; rw [Hlen.out] at this; omega
                  clear hL2 hM2
                  go_wp2_with fail
                  refine (Map_any _ N kz (clrL (setL d k ⟨o, W, F, T, rd, wt, K, false⟩) k) V _ hN3 hkz Rz14.out).mono ?_
                  rintro e w5 ⟨v5, rfl, hv5, hb5⟩
                  rw [HZ.out, HM2.out] at hv5
                  obtain ⟨aza, cza, rfl, _⟩ := ok_shape hv5
                  have Mza := Lib.hid (rowG_of_own HM2.out hv5)
                  clear hv5 e6 e7 Rz14
                  have HB15 := Lib.hid (HB14.out.trans (hb5.mono HB14.out.size))
                  have Rd15 := Lib.hid (Rd14.out.keep hb5)
                  have Rx15 := Lib.hid (Rx14.out.keep hb5)
                  have Ry15 := Lib.hid (Ry14.out.keep hb5)
                  have F15 := Lib.hid (F14.out.keep hb5)
                  clear HB14 Rd14 Rx14 Ry14 F14 hb5
                  go_wp2_with fail
                  refine (Map_any _ n k3 (clrL d k) V _ hn6 hk3 Ry15.out).mono ?_
                  rintro e w5 ⟨v5, rfl, hv5, hb5⟩
                  rw [HY.out, HM2.out] at hv5
                  obtain ⟨azb, czb, rfl, _⟩ := ok_shape hv5
                  have Mzb := Lib.hid (rowG_of_own HM2.out hv5)
                  have Mzk := Lib.hid (Mza.out.keep hb5)
                  clear hv5 Mza
                  have HB16 := Lib.hid (HB15.out.trans (hb5.mono HB15.out.size))
                  have Rd16 := Lib.hid (Rd15.out.keep hb5)
                  have Rx16 := Lib.hid (Rx15.out.keep hb5)
                  have Ry16 := Lib.hid (Ry15.out.keep hb5)
                  have F16 := Lib.hid (F15.out.keep hb5)
                  clear HB15 Rd15 Rx15 Ry15 F15 hb5
                  go_wp2_with fail
                  refine (same_any _ _ M2 _ _ L2 _ hM26 Mzk.out Mzb.out).mono ?_
                  rintro e w5 ⟨rfl, hb5⟩
                  have HB17 := Lib.hid (HB16.out.trans (hb5.mono HB16.out.size))
                  have Rd17 := Lib.hid (Rd16.out.keep hb5)
                  have Rx17 := Lib.hid (Rx16.out.keep hb5)
                  have Ry17 := Lib.hid (Ry16.out.keep hb5)
                  have F17 := Lib.hid (F16.out.keep hb5)
                  clear HB16 Rd16 Rx16 Ry16 F16 hb5
                  go_wp2_with fail
                  go_ret
                  exact ⟨rfl, HB17.out⟩
                have HX0 := Lib.hid (open_set_held Hx.out Hs.out)
                have HC0 := Lib.hid (clrR_no HX0.out (by decide))
                go_wp2_with fail
                refine (Clear_any _ N k2 (setL d k ⟨o, W, F, T, rd, wt, K, true⟩) k 15 [] _ hN3 hk2 Rx13.out (fun h => (hno2 h).2) HX0.out HC0.out).mono ?_
                rintro e w5 ⟨v5, rfl, hv5, hb5⟩
                obtain ⟨az, kz, rfl, hkz, _⟩ := ok_shape hv5
                clear hv5
                have HB18 := Lib.hid (HB13.out.trans (hb5.mono HB13.out.size))
                have Rd18 := Lib.hid (Rd13.out.keep hb5)
                have Rx18 := Lib.hid (Rx13.out.keep hb5)
                have Ry18 := Lib.hid (Ry13.out.keep hb5)
                have F18 := Lib.hid (F13.out.keep hb5)
                clear HB13 Rd13 Rx13 Ry13 F13 hb5
                have e6 := F18.out.c6
                have e7 := F18.out.c7
                simp only [List.length_nil]
                go_wp2_with fail
                go_ret
                exact ⟨rfl, HB18.out⟩
              have t9 : (W != V) = true := by simpa using hWV
              have HMx := Lib.hid (HMx.out hWV)
              clear hWV
              go_wp2_with fail
              refine (Map_any _ N k2 (setL d k ⟨o, W, F, T, rd, wt, K, lk⟩) V _ hN3 hk2 Rx0.out).mono ?_
              rintro e w5 ⟨v5, rfl, hv5, hb5⟩
              rw [HMx.out, HM.out] at hv5
              obtain ⟨aqa, cqa, rfl, _⟩ := ok_shape hv5
              have hrow := rowG_of_own HM.out hv5
              clear hv5
              have Mqa_0 := Lib.hid hrow
              clear hrow
              have HB19 := Lib.hid (HB0.out.trans (hb5.mono HB0.out.size))
              have Rd19 := Lib.hid (Rd0.out.keep hb5)
              have Rx19 := Lib.hid (Rx0.out.keep hb5)
              have Ry19 := Lib.hid (Ry0.out.keep hb5)
              have F19 := Lib.hid (F0.out.keep hb5)
              clear HB0 Rd0 Rx0 Ry0 F0  hb5
              have Mqa := Mqa_0
              clear Mqa_0
              -- keep the first
              go_wp2_with fail
              refine (Map_any _ n cap d V _ hn6 hc Rd19.out).mono ?_
              rintro e w5 ⟨v5, rfl, hv5, hb5⟩
              rw [HL1.out, HM.out] at hv5
              obtain ⟨aqb, cqb, rfl, _⟩ := ok_shape hv5
              have Mqb := Lib.hid (rowG_of_own HM.out hv5)
              have Mqk := Lib.hid (Mqa.out.keep hb5)
              clear hv5 Mqa
              have HB20 := Lib.hid (HB19.out.trans (hb5.mono HB19.out.size))
              have Rd20 := Lib.hid (Rd19.out.keep hb5)
              have Rx20 := Lib.hid (Rx19.out.keep hb5)
              have Ry20 := Lib.hid (Ry19.out.keep hb5)
              have F20 := Lib.hid (F19.out.keep hb5)
              clear HB19 Rd19 Rx19 Ry19 F19 hb5
              go_wp2_with fail
              refine (same_any _ _ M _ _ L1 _ hM6 Mqk.out Mqb.out).mono ?_
              rintro e w5 ⟨rfl, hb5⟩
              clear Mqk Mqb
              have HB21 := Lib.hid (HB20.out.trans (hb5.mono HB20.out.size))
              have Rd21 := Lib.hid (Rd20.out.keep hb5)
              have Rx21 := Lib.hid (Rx20.out.keep hb5)
              have Ry21 := Lib.hid (Ry20.out.keep hb5)
              have F21 := Lib.hid (F20.out.keep hb5)
              clear HB20 Rd20 Rx20 Ry20 F20 hb5
              go_wp2_with fail
              refine (Map_any _ n k3 (clrL d k) V _ hn6 hk3 Ry21.out).mono ?_
              rintro e w5 ⟨v5, rfl, hv5, hb5⟩
              rw [HMy.out, HM.out] at hv5
              obtain ⟨apa, cpa, rfl, _⟩ := ok_shape hv5
              have hrow := rowG_of_own HM.out hv5
              clear hv5
              have Mpa_21 := Lib.hid hrow
              clear hrow
              have HB22 := Lib.hid (HB21.out.trans (hb5.mono HB21.out.size))
              have Rd22 := Lib.hid (Rd21.out.keep hb5)
              have Rx22 := Lib.hid (Rx21.out.keep hb5)
              have Ry22 := Lib.hid (Ry21.out.keep hb5)
              have F22 := Lib.hid (F21.out.keep hb5)
              clear HB21 Rd21 Rx21 Ry21 F21  hb5
              have Mpa := Mpa_21
              clear Mpa_21
              -- keep the first
              go_wp2_with fail
              refine (Map_any _ n cap d V _ hn6 hc Rd22.out).mono ?_
              rintro e w5 ⟨v5, rfl, hv5, hb5⟩
              rw [HL1.out, HM.out] at hv5
              obtain ⟨apb, cpb, rfl, _⟩ := ok_shape hv5
              have Mpb := Lib.hid (rowG_of_own HM.out hv5)
              have Mpk := Lib.hid (Mpa.out.keep hb5)
              clear hv5 Mpa
              have HB23 := Lib.hid (HB22.out.trans (hb5.mono HB22.out.size))
              have Rd23 := Lib.hid (Rd22.out.keep hb5)
              have Rx23 := Lib.hid (Rx22.out.keep hb5)
              have Ry23 := Lib.hid (Ry22.out.keep hb5)
              have F23 := Lib.hid (F22.out.keep hb5)
              clear HB22 Rd22 Rx22 Ry22 F22 hb5
              go_wp2_with fail
              refine (same_any _ _ M _ _ L1 _ hM6 Mpk.out Mpb.out).mono ?_
              rintro e w5 ⟨rfl, hb5⟩
              clear Mpk Mpb
              have HB24 := Lib.hid (HB23.out.trans (hb5.mono HB23.out.size))
              have Rd24 := Lib.hid (Rd23.out.keep hb5)
              have Rx24 := Lib.hid (Rx23.out.keep hb5)
              have Ry24 := Lib.hid (Ry23.out.keep hb5)
              have F24 := Lib.hid (F23.out.keep hb5)
              clear HB23 Rd23 Rx23 Ry23 F23 hb5
              cases lk
              focus
                have HX0 := Lib.hid (open_set_free Hx.out Hs.out)
                have HC0 := Lib.hid (clrR_ok HX0.out)
                go_wp2_with fail
                refine (Clear_any _ N k2 (setL d k ⟨o, W, F, T, rd, wt, K, false⟩) k 0 (clrL (setL d k ⟨o, W, F, T, rd, wt, K, false⟩) k) _ hN3 hk2 Rx24.out (fun h => (hno2 h).2) HX0.out HC0.out).mono ?_
                rintro e w5 ⟨v5, rfl, hv5, hb5⟩
                rw [HlenZ.out] at hv5
                obtain ⟨az, kz, rfl, hkz, _⟩ := ok_shape hv5
                have Rz0 := Lib.hid (rowG_of_own HlenZ.out hv5)
                clear hv5
                have HB25 := Lib.hid (HB24.out.trans (hb5.mono HB24.out.size))
                have Rd25 := Lib.hid (Rd24.out.keep hb5)
                have Rx25 := Lib.hid (Rx24.out.keep hb5)
                have Ry25 := Lib.hid (Ry24.out.keep hb5)
                have F25 := Lib.hid (F24.out.keep hb5)
                clear HB24 Rd24 Rx24 Ry24 F24 hb5
                have Rz25 := Rz0
                clear Rz0
                have e6 := F25.out.c6
                have e7 := F25.out.c7
                obtain ⟨L2, hL2⟩ : ∃ L, mapL (clrL d k) V = L := ⟨_, rfl⟩
                have HZ := Lib.hid ((mapL_clr_set Hx.out Hs.out (V := V)).trans hL2)
                have HY := Lib.hid hL2
                obtain ⟨M2, hM2⟩ : ∃ M, L2.length = M := ⟨_, rfl⟩
                have HM2 := Lib.hid hM2
                have hM26 : M2 ≤ 1000000 := by rw [← hM2, ← hL2]; have := mapL_length (clrL d k) V; rw [Hlen.out] at this; omega
                clear hL2 hM2
                go_wp2_with fail
                refine (Map_any _ N kz (clrL (setL d k ⟨o, W, F, T, rd, wt, K, false⟩) k) V _ hN3 hkz Rz25.out).mono ?_
                rintro e w5 ⟨v5, rfl, hv5, hb5⟩
                rw [HZ.out, HM2.out] at hv5
                obtain ⟨aza, cza, rfl, _⟩ := ok_shape hv5
                have Mza := Lib.hid (rowG_of_own HM2.out hv5)
                clear hv5 e6 e7 Rz25
                have HB26 := Lib.hid (HB25.out.trans (hb5.mono HB25.out.size))
                have Rd26 := Lib.hid (Rd25.out.keep hb5)
                have Rx26 := Lib.hid (Rx25.out.keep hb5)
                have Ry26 := Lib.hid (Ry25.out.keep hb5)
                have F26 := Lib.hid (F25.out.keep hb5)
                clear HB25 Rd25 Rx25 Ry25 F25 hb5
                go_wp2_with fail
                refine (Map_any _ n k3 (clrL d k) V _ hn6 hk3 Ry26.out).mono ?_
                rintro e w5 ⟨v5, rfl, hv5, hb5⟩
                rw [HY.out, HM2.out] at hv5
                obtain ⟨azb, czb, rfl, _⟩ := ok_shape hv5
                have Mzb := Lib.hid (rowG_of_own HM2.out hv5)
                have Mzk := Lib.hid (Mza.out.keep hb5)
                clear hv5 Mza
                have HB27 := Lib.hid (HB26.out.trans (hb5.mono HB26.out.size))
                have Rd27 := Lib.hid (Rd26.out.keep hb5)
                have Rx27 := Lib.hid (Rx26.out.keep hb5)
                have Ry27 := Lib.hid (Ry26.out.keep hb5)
                have F27 := Lib.hid (F26.out.keep hb5)
                clear HB26 Rd26 Rx26 Ry26 F26 hb5
                go_wp2_with fail
                refine (same_any _ _ M2 _ _ L2 _ hM26 Mzk.out Mzb.out).mono ?_
                rintro e w5 ⟨rfl, hb5⟩
                have HB28 := Lib.hid (HB27.out.trans (hb5.mono HB27.out.size))
                have Rd28 := Lib.hid (Rd27.out.keep hb5)
                have Rx28 := Lib.hid (Rx27.out.keep hb5)
                have Ry28 := Lib.hid (Ry27.out.keep hb5)
                have F28 := Lib.hid (F27.out.keep hb5)
                clear HB27 Rd27 Rx27 Ry27 F27 hb5
                go_wp2_with fail
                go_ret
                exact ⟨rfl, HB28.out⟩
              have HX0 := Lib.hid (open_set_held Hx.out Hs.out)
              have HC0 := Lib.hid (clrR_no HX0.out (by decide))
              go_wp2_with fail
              refine (Clear_any _ N k2 (setL d k ⟨o, W, F, T, rd, wt, K, true⟩) k 15 [] _ hN3 hk2 Rx24.out (fun h => (hno2 h).2) HX0.out HC0.out).mono ?_
              rintro e w5 ⟨v5, rfl, hv5, hb5⟩
              obtain ⟨az, kz, rfl, hkz, _⟩ := ok_shape hv5
              clear hv5
              have HB29 := Lib.hid (HB24.out.trans (hb5.mono HB24.out.size))
              have Rd29 := Lib.hid (Rd24.out.keep hb5)
              have Rx29 := Lib.hid (Rx24.out.keep hb5)
              have Ry29 := Lib.hid (Ry24.out.keep hb5)
              have F29 := Lib.hid (F24.out.keep hb5)
              clear HB24 Rd24 Rx24 Ry24 F24 hb5
              have e6 := F29.out.c6
              have e7 := F29.out.c7
              simp only [List.length_nil]
              go_wp2_with fail
              go_ret
              exact ⟨rfl, HB29.out⟩
            obtain ⟨ov, hov⟩ : ∃ ov, (xW == V) = ov := ⟨_, rfl⟩
            cases ov
            focus
              have hold : ¬ (d[k]!.o = true ∧ d[k]!.W = V) := by rw [Hdk.out]; simpa using hov
              have HMx := Lib.hid (show W ≠ V → mapL (setL d k ⟨o, W, F, T, rd, wt, K, lk⟩) V = L1 from fun hne => (mapL_set Hx.out Hs.out (fun hh => hne hh.2) hold).trans HL1.out)
              have HMy := Lib.hid (show mapL (clrL d k) V = L1 from (mapL_clr Hx.out hold).trans HL1.out)
              clear hold
              have f1 := F0.out.c1
              by_cases hWV : W = V
              focus
                have t9 : (W != V) = false := by rw [hWV]; simp
                clear hWV
                go_wp2_with fail
                refine (Map_any _ n k3 (clrL d k) V _ hn6 hk3 Ry0.out).mono ?_
                rintro e w5 ⟨v5, rfl, hv5, hb5⟩
                rw [HMy.out, HM.out] at hv5
                obtain ⟨apa, cpa, rfl, _⟩ := ok_shape hv5
                have hrow := rowG_of_own HM.out hv5
                clear hv5
                have Mpa_0 := Lib.hid hrow
                clear hrow
                have HB30 := Lib.hid (HB0.out.trans (hb5.mono HB0.out.size))
                have Rd30 := Lib.hid (Rd0.out.keep hb5)
                have Rx30 := Lib.hid (Rx0.out.keep hb5)
                have Ry30 := Lib.hid (Ry0.out.keep hb5)
                have F30 := Lib.hid (F0.out.keep hb5)
                clear HB0 Rd0 Rx0 Ry0 F0  hb5
                have Mpa := Mpa_0
                clear Mpa_0
                -- keep the first
                go_wp2_with fail
                refine (Map_any _ n cap d V _ hn6 hc Rd30.out).mono ?_
                rintro e w5 ⟨v5, rfl, hv5, hb5⟩
                rw [HL1.out, HM.out] at hv5
                obtain ⟨apb, cpb, rfl, _⟩ := ok_shape hv5
                have Mpb := Lib.hid (rowG_of_own HM.out hv5)
                have Mpk := Lib.hid (Mpa.out.keep hb5)
                clear hv5 Mpa
                have HB31 := Lib.hid (HB30.out.trans (hb5.mono HB30.out.size))
                have Rd31 := Lib.hid (Rd30.out.keep hb5)
                have Rx31 := Lib.hid (Rx30.out.keep hb5)
                have Ry31 := Lib.hid (Ry30.out.keep hb5)
                have F31 := Lib.hid (F30.out.keep hb5)
                clear HB30 Rd30 Rx30 Ry30 F30 hb5
                go_wp2_with fail
                refine (same_any _ _ M _ _ L1 _ hM6 Mpk.out Mpb.out).mono ?_
                rintro e w5 ⟨rfl, hb5⟩
                clear Mpk Mpb
                have HB32 := Lib.hid (HB31.out.trans (hb5.mono HB31.out.size))
                have Rd32 := Lib.hid (Rd31.out.keep hb5)
                have Rx32 := Lib.hid (Rx31.out.keep hb5)
                have Ry32 := Lib.hid (Ry31.out.keep hb5)
                have F32 := Lib.hid (F31.out.keep hb5)
                clear HB31 Rd31 Rx31 Ry31 F31 hb5
                cases lk
                focus
                  have HX0 := Lib.hid (open_set_free Hx.out Hs.out)
                  have HC0 := Lib.hid (clrR_ok HX0.out)
                  go_wp2_with fail
                  refine (Clear_any _ N k2 (setL d k ⟨o, W, F, T, rd, wt, K, false⟩) k 0 (clrL (setL d k ⟨o, W, F, T, rd, wt, K, false⟩) k) _ hN3 hk2 Rx32.out (fun h => (hno2 h).2) HX0.out HC0.out).mono ?_
                  rintro e w5 ⟨v5, rfl, hv5, hb5⟩
                  rw [HlenZ.out] at hv5
                  obtain ⟨az, kz, rfl, hkz, _⟩ := ok_shape hv5
                  have Rz0 := Lib.hid (rowG_of_own HlenZ.out hv5)
                  clear hv5
                  have HB33 := Lib.hid (HB32.out.trans (hb5.mono HB32.out.size))
                  have Rd33 := Lib.hid (Rd32.out.keep hb5)
                  have Rx33 := Lib.hid (Rx32.out.keep hb5)
                  have Ry33 := Lib.hid (Ry32.out.keep hb5)
                  have F33 := Lib.hid (F32.out.keep hb5)
                  clear HB32 Rd32 Rx32 Ry32 F32 hb5
                  have Rz33 := Rz0
                  clear Rz0
                  have e6 := F33.out.c6
                  have e7 := F33.out.c7
                  obtain ⟨L2, hL2⟩ : ∃ L, mapL (clrL d k) V = L := ⟨_, rfl⟩
                  have HZ := Lib.hid ((mapL_clr_set Hx.out Hs.out (V := V)).trans hL2)
                  have HY := Lib.hid hL2
                  obtain ⟨M2, hM2⟩ : ∃ M, L2.length = M := ⟨_, rfl⟩
                  have HM2 := Lib.hid hM2
                  have hM26 : M2 ≤ 1000000 := by rw [← hM2, ← hL2]; have := mapL_length (clrL d k) V; rw [Hlen.out] at this; omega
                  clear hL2 hM2
                  go_wp2_with fail
                  refine (Map_any _ N kz (clrL (setL d k ⟨o, W, F, T, rd, wt, K, false⟩) k) V _ hN3 hkz Rz33.out).mono ?_
                  rintro e w5 ⟨v5, rfl, hv5, hb5⟩
                  rw [HZ.out, HM2.out] at hv5
                  obtain ⟨aza, cza, rfl, _⟩ := ok_shape hv5
                  have Mza := Lib.hid (rowG_of_own HM2.out hv5)
                  clear hv5 e6 e7 Rz33
                  have HB34 := Lib.hid (HB33.out.trans (hb5.mono HB33.out.size))
                  have Rd34 := Lib.hid (Rd33.out.keep hb5)
                  have Rx34 := Lib.hid (Rx33.out.keep hb5)
                  have Ry34 := Lib.hid (Ry33.out.keep hb5)
                  have F34 := Lib.hid (F33.out.keep hb5)
                  clear HB33 Rd33 Rx33 Ry33 F33 hb5
                  go_wp2_with fail
                  refine (Map_any _ n k3 (clrL d k) V _ hn6 hk3 Ry34.out).mono ?_
                  rintro e w5 ⟨v5, rfl, hv5, hb5⟩
                  rw [HY.out, HM2.out] at hv5
                  obtain ⟨azb, czb, rfl, _⟩ := ok_shape hv5
                  have Mzb := Lib.hid (rowG_of_own HM2.out hv5)
                  have Mzk := Lib.hid (Mza.out.keep hb5)
                  clear hv5 Mza
                  have HB35 := Lib.hid (HB34.out.trans (hb5.mono HB34.out.size))
                  have Rd35 := Lib.hid (Rd34.out.keep hb5)
                  have Rx35 := Lib.hid (Rx34.out.keep hb5)
                  have Ry35 := Lib.hid (Ry34.out.keep hb5)
                  have F35 := Lib.hid (F34.out.keep hb5)
                  clear HB34 Rd34 Rx34 Ry34 F34 hb5
                  go_wp2_with fail
                  refine (same_any _ _ M2 _ _ L2 _ hM26 Mzk.out Mzb.out).mono ?_
                  rintro e w5 ⟨rfl, hb5⟩
                  have HB36 := Lib.hid (HB35.out.trans (hb5.mono HB35.out.size))
                  have Rd36 := Lib.hid (Rd35.out.keep hb5)
                  have Rx36 := Lib.hid (Rx35.out.keep hb5)
                  have Ry36 := Lib.hid (Ry35.out.keep hb5)
                  have F36 := Lib.hid (F35.out.keep hb5)
                  clear HB35 Rd35 Rx35 Ry35 F35 hb5
                  go_wp2_with fail
                  go_ret
                  exact ⟨rfl, HB36.out⟩
                have HX0 := Lib.hid (open_set_held Hx.out Hs.out)
                have HC0 := Lib.hid (clrR_no HX0.out (by decide))
                go_wp2_with fail
                refine (Clear_any _ N k2 (setL d k ⟨o, W, F, T, rd, wt, K, true⟩) k 15 [] _ hN3 hk2 Rx32.out (fun h => (hno2 h).2) HX0.out HC0.out).mono ?_
                rintro e w5 ⟨v5, rfl, hv5, hb5⟩
                obtain ⟨az, kz, rfl, hkz, _⟩ := ok_shape hv5
                clear hv5
                have HB37 := Lib.hid (HB32.out.trans (hb5.mono HB32.out.size))
                have Rd37 := Lib.hid (Rd32.out.keep hb5)
                have Rx37 := Lib.hid (Rx32.out.keep hb5)
                have Ry37 := Lib.hid (Ry32.out.keep hb5)
                have F37 := Lib.hid (F32.out.keep hb5)
                clear HB32 Rd32 Rx32 Ry32 F32 hb5
                have e6 := F37.out.c6
                have e7 := F37.out.c7
                simp only [List.length_nil]
                go_wp2_with fail
                go_ret
                exact ⟨rfl, HB37.out⟩
              have t9 : (W != V) = true := by simpa using hWV
              have HMx := Lib.hid (HMx.out hWV)
              clear hWV
              go_wp2_with fail
              refine (Map_any _ N k2 (setL d k ⟨o, W, F, T, rd, wt, K, lk⟩) V _ hN3 hk2 Rx0.out).mono ?_
              rintro e w5 ⟨v5, rfl, hv5, hb5⟩
              rw [HMx.out, HM.out] at hv5
              obtain ⟨aqa, cqa, rfl, _⟩ := ok_shape hv5
              have hrow := rowG_of_own HM.out hv5
              clear hv5
              have Mqa_0 := Lib.hid hrow
              clear hrow
              have HB38 := Lib.hid (HB0.out.trans (hb5.mono HB0.out.size))
              have Rd38 := Lib.hid (Rd0.out.keep hb5)
              have Rx38 := Lib.hid (Rx0.out.keep hb5)
              have Ry38 := Lib.hid (Ry0.out.keep hb5)
              have F38 := Lib.hid (F0.out.keep hb5)
              clear HB0 Rd0 Rx0 Ry0 F0  hb5
              have Mqa := Mqa_0
              clear Mqa_0
              -- keep the first
              go_wp2_with fail
              refine (Map_any _ n cap d V _ hn6 hc Rd38.out).mono ?_
              rintro e w5 ⟨v5, rfl, hv5, hb5⟩
              rw [HL1.out, HM.out] at hv5
              obtain ⟨aqb, cqb, rfl, _⟩ := ok_shape hv5
              have Mqb := Lib.hid (rowG_of_own HM.out hv5)
              have Mqk := Lib.hid (Mqa.out.keep hb5)
              clear hv5 Mqa
              have HB39 := Lib.hid (HB38.out.trans (hb5.mono HB38.out.size))
              have Rd39 := Lib.hid (Rd38.out.keep hb5)
              have Rx39 := Lib.hid (Rx38.out.keep hb5)
              have Ry39 := Lib.hid (Ry38.out.keep hb5)
              have F39 := Lib.hid (F38.out.keep hb5)
              clear HB38 Rd38 Rx38 Ry38 F38 hb5
              go_wp2_with fail
              refine (same_any _ _ M _ _ L1 _ hM6 Mqk.out Mqb.out).mono ?_
              rintro e w5 ⟨rfl, hb5⟩
              clear Mqk Mqb
              have HB40 := Lib.hid (HB39.out.trans (hb5.mono HB39.out.size))
              have Rd40 := Lib.hid (Rd39.out.keep hb5)
              have Rx40 := Lib.hid (Rx39.out.keep hb5)
              have Ry40 := Lib.hid (Ry39.out.keep hb5)
              have F40 := Lib.hid (F39.out.keep hb5)
              clear HB39 Rd39 Rx39 Ry39 F39 hb5
              go_wp2_with fail
              refine (Map_any _ n k3 (clrL d k) V _ hn6 hk3 Ry40.out).mono ?_
              rintro e w5 ⟨v5, rfl, hv5, hb5⟩
              rw [HMy.out, HM.out] at hv5
              obtain ⟨apa, cpa, rfl, _⟩ := ok_shape hv5
              have hrow := rowG_of_own HM.out hv5
              clear hv5
              have Mpa_40 := Lib.hid hrow
              clear hrow
              have HB41 := Lib.hid (HB40.out.trans (hb5.mono HB40.out.size))
              have Rd41 := Lib.hid (Rd40.out.keep hb5)
              have Rx41 := Lib.hid (Rx40.out.keep hb5)
              have Ry41 := Lib.hid (Ry40.out.keep hb5)
              have F41 := Lib.hid (F40.out.keep hb5)
              clear HB40 Rd40 Rx40 Ry40 F40  hb5
              have Mpa := Mpa_40
              clear Mpa_40
              -- keep the first
              go_wp2_with fail
              refine (Map_any _ n cap d V _ hn6 hc Rd41.out).mono ?_
              rintro e w5 ⟨v5, rfl, hv5, hb5⟩
              rw [HL1.out, HM.out] at hv5
              obtain ⟨apb, cpb, rfl, _⟩ := ok_shape hv5
              have Mpb := Lib.hid (rowG_of_own HM.out hv5)
              have Mpk := Lib.hid (Mpa.out.keep hb5)
              clear hv5 Mpa
              have HB42 := Lib.hid (HB41.out.trans (hb5.mono HB41.out.size))
              have Rd42 := Lib.hid (Rd41.out.keep hb5)
              have Rx42 := Lib.hid (Rx41.out.keep hb5)
              have Ry42 := Lib.hid (Ry41.out.keep hb5)
              have F42 := Lib.hid (F41.out.keep hb5)
              clear HB41 Rd41 Rx41 Ry41 F41 hb5
              go_wp2_with fail
              refine (same_any _ _ M _ _ L1 _ hM6 Mpk.out Mpb.out).mono ?_
              rintro e w5 ⟨rfl, hb5⟩
              clear Mpk Mpb
              have HB43 := Lib.hid (HB42.out.trans (hb5.mono HB42.out.size))
              have Rd43 := Lib.hid (Rd42.out.keep hb5)
              have Rx43 := Lib.hid (Rx42.out.keep hb5)
              have Ry43 := Lib.hid (Ry42.out.keep hb5)
              have F43 := Lib.hid (F42.out.keep hb5)
              clear HB42 Rd42 Rx42 Ry42 F42 hb5
              cases lk
              focus
                have HX0 := Lib.hid (open_set_free Hx.out Hs.out)
                have HC0 := Lib.hid (clrR_ok HX0.out)
                go_wp2_with fail
                refine (Clear_any _ N k2 (setL d k ⟨o, W, F, T, rd, wt, K, false⟩) k 0 (clrL (setL d k ⟨o, W, F, T, rd, wt, K, false⟩) k) _ hN3 hk2 Rx43.out (fun h => (hno2 h).2) HX0.out HC0.out).mono ?_
                rintro e w5 ⟨v5, rfl, hv5, hb5⟩
                rw [HlenZ.out] at hv5
                obtain ⟨az, kz, rfl, hkz, _⟩ := ok_shape hv5
                have Rz0 := Lib.hid (rowG_of_own HlenZ.out hv5)
                clear hv5
                have HB44 := Lib.hid (HB43.out.trans (hb5.mono HB43.out.size))
                have Rd44 := Lib.hid (Rd43.out.keep hb5)
                have Rx44 := Lib.hid (Rx43.out.keep hb5)
                have Ry44 := Lib.hid (Ry43.out.keep hb5)
                have F44 := Lib.hid (F43.out.keep hb5)
                clear HB43 Rd43 Rx43 Ry43 F43 hb5
                have Rz44 := Rz0
                clear Rz0
                have e6 := F44.out.c6
                have e7 := F44.out.c7
                obtain ⟨L2, hL2⟩ : ∃ L, mapL (clrL d k) V = L := ⟨_, rfl⟩
                have HZ := Lib.hid ((mapL_clr_set Hx.out Hs.out (V := V)).trans hL2)
                have HY := Lib.hid hL2
                obtain ⟨M2, hM2⟩ : ∃ M, L2.length = M := ⟨_, rfl⟩
                have HM2 := Lib.hid hM2
                have hM26 : M2 ≤ 1000000 := by rw [← hM2, ← hL2]; have := mapL_length (clrL d k) V; rw [Hlen.out] at this; omega
                clear hL2 hM2
                go_wp2_with fail
                refine (Map_any _ N kz (clrL (setL d k ⟨o, W, F, T, rd, wt, K, false⟩) k) V _ hN3 hkz Rz44.out).mono ?_
                rintro e w5 ⟨v5, rfl, hv5, hb5⟩
                rw [HZ.out, HM2.out] at hv5
                obtain ⟨aza, cza, rfl, _⟩ := ok_shape hv5
                have Mza := Lib.hid (rowG_of_own HM2.out hv5)
                clear hv5 e6 e7 Rz44
                have HB45 := Lib.hid (HB44.out.trans (hb5.mono HB44.out.size))
                have Rd45 := Lib.hid (Rd44.out.keep hb5)
                have Rx45 := Lib.hid (Rx44.out.keep hb5)
                have Ry45 := Lib.hid (Ry44.out.keep hb5)
                have F45 := Lib.hid (F44.out.keep hb5)
                clear HB44 Rd44 Rx44 Ry44 F44 hb5
                go_wp2_with fail
                refine (Map_any _ n k3 (clrL d k) V _ hn6 hk3 Ry45.out).mono ?_
                rintro e w5 ⟨v5, rfl, hv5, hb5⟩
                rw [HY.out, HM2.out] at hv5
                obtain ⟨azb, czb, rfl, _⟩ := ok_shape hv5
                have Mzb := Lib.hid (rowG_of_own HM2.out hv5)
                have Mzk := Lib.hid (Mza.out.keep hb5)
                clear hv5 Mza
                have HB46 := Lib.hid (HB45.out.trans (hb5.mono HB45.out.size))
                have Rd46 := Lib.hid (Rd45.out.keep hb5)
                have Rx46 := Lib.hid (Rx45.out.keep hb5)
                have Ry46 := Lib.hid (Ry45.out.keep hb5)
                have F46 := Lib.hid (F45.out.keep hb5)
                clear HB45 Rd45 Rx45 Ry45 F45 hb5
                go_wp2_with fail
                refine (same_any _ _ M2 _ _ L2 _ hM26 Mzk.out Mzb.out).mono ?_
                rintro e w5 ⟨rfl, hb5⟩
                have HB47 := Lib.hid (HB46.out.trans (hb5.mono HB46.out.size))
                have Rd47 := Lib.hid (Rd46.out.keep hb5)
                have Rx47 := Lib.hid (Rx46.out.keep hb5)
                have Ry47 := Lib.hid (Ry46.out.keep hb5)
                have F47 := Lib.hid (F46.out.keep hb5)
                clear HB46 Rd46 Rx46 Ry46 F46 hb5
                go_wp2_with fail
                go_ret
                exact ⟨rfl, HB47.out⟩
              have HX0 := Lib.hid (open_set_held Hx.out Hs.out)
              have HC0 := Lib.hid (clrR_no HX0.out (by decide))
              go_wp2_with fail
              refine (Clear_any _ N k2 (setL d k ⟨o, W, F, T, rd, wt, K, true⟩) k 15 [] _ hN3 hk2 Rx43.out (fun h => (hno2 h).2) HX0.out HC0.out).mono ?_
              rintro e w5 ⟨v5, rfl, hv5, hb5⟩
              obtain ⟨az, kz, rfl, hkz, _⟩ := ok_shape hv5
              clear hv5
              have HB48 := Lib.hid (HB43.out.trans (hb5.mono HB43.out.size))
              have Rd48 := Lib.hid (Rd43.out.keep hb5)
              have Rx48 := Lib.hid (Rx43.out.keep hb5)
              have Ry48 := Lib.hid (Ry43.out.keep hb5)
              have F48 := Lib.hid (F43.out.keep hb5)
              clear HB43 Rd43 Rx43 Ry43 F43 hb5
              have e6 := F48.out.c6
              have e7 := F48.out.c7
              simp only [List.length_nil]
              go_wp2_with fail
              go_ret
              exact ⟨rfl, HB48.out⟩
            cases lk
            focus
              have HX0 := Lib.hid (open_set_free Hx.out Hs.out)
              have HC0 := Lib.hid (clrR_ok HX0.out)
              go_wp2_with fail
              refine (Clear_any _ N k2 (setL d k ⟨o, W, F, T, rd, wt, K, false⟩) k 0 (clrL (setL d k ⟨o, W, F, T, rd, wt, K, false⟩) k) _ hN3 hk2 Rx0.out (fun h => (hno2 h).2) HX0.out HC0.out).mono ?_
              rintro e w5 ⟨v5, rfl, hv5, hb5⟩
              rw [HlenZ.out] at hv5
              obtain ⟨az, kz, rfl, hkz, _⟩ := ok_shape hv5
              have Rz0 := Lib.hid (rowG_of_own HlenZ.out hv5)
              clear hv5
              have HB49 := Lib.hid (HB0.out.trans (hb5.mono HB0.out.size))
              have Rd49 := Lib.hid (Rd0.out.keep hb5)
              have Rx49 := Lib.hid (Rx0.out.keep hb5)
              have Ry49 := Lib.hid (Ry0.out.keep hb5)
              have F49 := Lib.hid (F0.out.keep hb5)
              clear HB0 Rd0 Rx0 Ry0 F0 hb5
              have Rz49 := Rz0
              clear Rz0
              have e6 := F49.out.c6
              have e7 := F49.out.c7
              obtain ⟨L2, hL2⟩ : ∃ L, mapL (clrL d k) V = L := ⟨_, rfl⟩
              have HZ := Lib.hid ((mapL_clr_set Hx.out Hs.out (V := V)).trans hL2)
              have HY := Lib.hid hL2
              obtain ⟨M2, hM2⟩ : ∃ M, L2.length = M := ⟨_, rfl⟩
              have HM2 := Lib.hid hM2
              have hM26 : M2 ≤ 1000000 := by rw [← hM2, ← hL2]; have := mapL_length (clrL d k) V; rw [Hlen.out] at this; omega
              clear hL2 hM2
              go_wp2_with fail
              refine (Map_any _ N kz (clrL (setL d k ⟨o, W, F, T, rd, wt, K, false⟩) k) V _ hN3 hkz Rz49.out).mono ?_
              rintro e w5 ⟨v5, rfl, hv5, hb5⟩
              rw [HZ.out, HM2.out] at hv5
              obtain ⟨aza, cza, rfl, _⟩ := ok_shape hv5
              have Mza := Lib.hid (rowG_of_own HM2.out hv5)
              clear hv5 e6 e7 Rz49
              have HB50 := Lib.hid (HB49.out.trans (hb5.mono HB49.out.size))
              have Rd50 := Lib.hid (Rd49.out.keep hb5)
              have Rx50 := Lib.hid (Rx49.out.keep hb5)
              have Ry50 := Lib.hid (Ry49.out.keep hb5)
              have F50 := Lib.hid (F49.out.keep hb5)
              clear HB49 Rd49 Rx49 Ry49 F49 hb5
              go_wp2_with fail
              refine (Map_any _ n k3 (clrL d k) V _ hn6 hk3 Ry50.out).mono ?_
              rintro e w5 ⟨v5, rfl, hv5, hb5⟩
              rw [HY.out, HM2.out] at hv5
              obtain ⟨azb, czb, rfl, _⟩ := ok_shape hv5
              have Mzb := Lib.hid (rowG_of_own HM2.out hv5)
              have Mzk := Lib.hid (Mza.out.keep hb5)
              clear hv5 Mza
              have HB51 := Lib.hid (HB50.out.trans (hb5.mono HB50.out.size))
              have Rd51 := Lib.hid (Rd50.out.keep hb5)
              have Rx51 := Lib.hid (Rx50.out.keep hb5)
              have Ry51 := Lib.hid (Ry50.out.keep hb5)
              have F51 := Lib.hid (F50.out.keep hb5)
              clear HB50 Rd50 Rx50 Ry50 F50 hb5
              go_wp2_with fail
              refine (same_any _ _ M2 _ _ L2 _ hM26 Mzk.out Mzb.out).mono ?_
              rintro e w5 ⟨rfl, hb5⟩
              have HB52 := Lib.hid (HB51.out.trans (hb5.mono HB51.out.size))
              have Rd52 := Lib.hid (Rd51.out.keep hb5)
              have Rx52 := Lib.hid (Rx51.out.keep hb5)
              have Ry52 := Lib.hid (Ry51.out.keep hb5)
              have F52 := Lib.hid (F51.out.keep hb5)
              clear HB51 Rd51 Rx51 Ry51 F51 hb5
              go_wp2_with fail
              go_ret
              exact ⟨rfl, HB52.out⟩
            have HX0 := Lib.hid (open_set_held Hx.out Hs.out)
            have HC0 := Lib.hid (clrR_no HX0.out (by decide))
            go_wp2_with fail
            refine (Clear_any _ N k2 (setL d k ⟨o, W, F, T, rd, wt, K, true⟩) k 15 [] _ hN3 hk2 Rx0.out (fun h => (hno2 h).2) HX0.out HC0.out).mono ?_
            rintro e w5 ⟨v5, rfl, hv5, hb5⟩
            obtain ⟨az, kz, rfl, hkz, _⟩ := ok_shape hv5
            clear hv5
            have HB53 := Lib.hid (HB0.out.trans (hb5.mono HB0.out.size))
            have Rd53 := Lib.hid (Rd0.out.keep hb5)
            have Rx53 := Lib.hid (Rx0.out.keep hb5)
            have Ry53 := Lib.hid (Ry0.out.keep hb5)
            have F53 := Lib.hid (F0.out.keep hb5)
            clear HB0 Rd0 Rx0 Ry0 F0 hb5
            have e6 := F53.out.c6
            have e7 := F53.out.c7
            simp only [List.length_nil]
            go_wp2_with fail
            go_ret
            exact ⟨rfl, HB53.out⟩
        first
        | exact absurd (of_decide_eq_true hkn2) hkk
        |
          have hold : ¬ (d[k]!.o = true ∧ d[k]!.W = V) := by rw [get_out (by rw [Rd0.out.1]; omega)]; exact zero_not V
          clear hkk
          have HMx := Lib.hid (show W ≠ V → mapL (setL d k ⟨o, W, F, T, rd, wt, K, lk⟩) V = L1 from fun hne => (mapL_set Hx.out Hs.out (fun hh => hne hh.2) hold).trans HL1.out)
          have HMy := Lib.hid (show mapL (clrL d k) V = L1 from (mapL_clr Hx.out hold).trans HL1.out)
          clear hold
          have f1 := F0.out.c1
          by_cases hWV : W = V
          focus
            have t9 : (W != V) = false := by rw [hWV]; simp
            clear hWV
            go_wp2_with fail
            refine (Map_any _ n k3 (clrL d k) V _ hn6 hk3 Ry0.out).mono ?_
            rintro e w5 ⟨v5, rfl, hv5, hb5⟩
            rw [HMy.out, HM.out] at hv5
            obtain ⟨apa, cpa, rfl, _⟩ := ok_shape hv5
            have hrow := rowG_of_own HM.out hv5
            clear hv5
            have Mpa_0 := Lib.hid hrow
            clear hrow
            have HB54 := Lib.hid (HB0.out.trans (hb5.mono HB0.out.size))
            have Rd54 := Lib.hid (Rd0.out.keep hb5)
            have Rx54 := Lib.hid (Rx0.out.keep hb5)
            have Ry54 := Lib.hid (Ry0.out.keep hb5)
            have F54 := Lib.hid (F0.out.keep hb5)
            clear HB0 Rd0 Rx0 Ry0 F0  hb5
            have Mpa := Mpa_0
            clear Mpa_0
            -- keep the first
            go_wp2_with fail
            refine (Map_any _ n cap d V _ hn6 hc Rd54.out).mono ?_
            rintro e w5 ⟨v5, rfl, hv5, hb5⟩
            rw [HL1.out, HM.out] at hv5
            obtain ⟨apb, cpb, rfl, _⟩ := ok_shape hv5
            have Mpb := Lib.hid (rowG_of_own HM.out hv5)
            have Mpk := Lib.hid (Mpa.out.keep hb5)
            clear hv5 Mpa
            have HB55 := Lib.hid (HB54.out.trans (hb5.mono HB54.out.size))
            have Rd55 := Lib.hid (Rd54.out.keep hb5)
            have Rx55 := Lib.hid (Rx54.out.keep hb5)
            have Ry55 := Lib.hid (Ry54.out.keep hb5)
            have F55 := Lib.hid (F54.out.keep hb5)
            clear HB54 Rd54 Rx54 Ry54 F54 hb5
            go_wp2_with fail
            refine (same_any _ _ M _ _ L1 _ hM6 Mpk.out Mpb.out).mono ?_
            rintro e w5 ⟨rfl, hb5⟩
            clear Mpk Mpb
            have HB56 := Lib.hid (HB55.out.trans (hb5.mono HB55.out.size))
            have Rd56 := Lib.hid (Rd55.out.keep hb5)
            have Rx56 := Lib.hid (Rx55.out.keep hb5)
            have Ry56 := Lib.hid (Ry55.out.keep hb5)
            have F56 := Lib.hid (F55.out.keep hb5)
            clear HB55 Rd55 Rx55 Ry55 F55 hb5
            cases lk
            focus
              have HX0 := Lib.hid (open_set_free Hx.out Hs.out)
              have HC0 := Lib.hid (clrR_ok HX0.out)
              go_wp2_with fail
              refine (Clear_any _ N k2 (setL d k ⟨o, W, F, T, rd, wt, K, false⟩) k 0 (clrL (setL d k ⟨o, W, F, T, rd, wt, K, false⟩) k) _ hN3 hk2 Rx56.out (fun h => (hno2 h).2) HX0.out HC0.out).mono ?_
              rintro e w5 ⟨v5, rfl, hv5, hb5⟩
              rw [HlenZ.out] at hv5
              obtain ⟨az, kz, rfl, hkz, _⟩ := ok_shape hv5
              have Rz0 := Lib.hid (rowG_of_own HlenZ.out hv5)
              clear hv5
              have HB57 := Lib.hid (HB56.out.trans (hb5.mono HB56.out.size))
              have Rd57 := Lib.hid (Rd56.out.keep hb5)
              have Rx57 := Lib.hid (Rx56.out.keep hb5)
              have Ry57 := Lib.hid (Ry56.out.keep hb5)
              have F57 := Lib.hid (F56.out.keep hb5)
              clear HB56 Rd56 Rx56 Ry56 F56 hb5
              have Rz57 := Rz0
              clear Rz0
              have e6 := F57.out.c6
              have e7 := F57.out.c7
              obtain ⟨L2, hL2⟩ : ∃ L, mapL (clrL d k) V = L := ⟨_, rfl⟩
              have HZ := Lib.hid ((mapL_clr_set Hx.out Hs.out (V := V)).trans hL2)
              have HY := Lib.hid hL2
              obtain ⟨M2, hM2⟩ : ∃ M, L2.length = M := ⟨_, rfl⟩
              have HM2 := Lib.hid hM2
              have hM26 : M2 ≤ 1000000 := by rw [← hM2, ← hL2]; have := mapL_length (clrL d k) V; rw [Hlen.out] at this; omega
              clear hL2 hM2
              go_wp2_with fail
              refine (Map_any _ N kz (clrL (setL d k ⟨o, W, F, T, rd, wt, K, false⟩) k) V _ hN3 hkz Rz57.out).mono ?_
              rintro e w5 ⟨v5, rfl, hv5, hb5⟩
              rw [HZ.out, HM2.out] at hv5
              obtain ⟨aza, cza, rfl, _⟩ := ok_shape hv5
              have Mza := Lib.hid (rowG_of_own HM2.out hv5)
              clear hv5 e6 e7 Rz57
              have HB58 := Lib.hid (HB57.out.trans (hb5.mono HB57.out.size))
              have Rd58 := Lib.hid (Rd57.out.keep hb5)
              have Rx58 := Lib.hid (Rx57.out.keep hb5)
              have Ry58 := Lib.hid (Ry57.out.keep hb5)
              have F58 := Lib.hid (F57.out.keep hb5)
              clear HB57 Rd57 Rx57 Ry57 F57 hb5
              go_wp2_with fail
              refine (Map_any _ n k3 (clrL d k) V _ hn6 hk3 Ry58.out).mono ?_
              rintro e w5 ⟨v5, rfl, hv5, hb5⟩
              rw [HY.out, HM2.out] at hv5
              obtain ⟨azb, czb, rfl, _⟩ := ok_shape hv5
              have Mzb := Lib.hid (rowG_of_own HM2.out hv5)
              have Mzk := Lib.hid (Mza.out.keep hb5)
              clear hv5 Mza
              have HB59 := Lib.hid (HB58.out.trans (hb5.mono HB58.out.size))
              have Rd59 := Lib.hid (Rd58.out.keep hb5)
              have Rx59 := Lib.hid (Rx58.out.keep hb5)
              have Ry59 := Lib.hid (Ry58.out.keep hb5)
              have F59 := Lib.hid (F58.out.keep hb5)
              clear HB58 Rd58 Rx58 Ry58 F58 hb5
              go_wp2_with fail
              refine (same_any _ _ M2 _ _ L2 _ hM26 Mzk.out Mzb.out).mono ?_
              rintro e w5 ⟨rfl, hb5⟩
              have HB60 := Lib.hid (HB59.out.trans (hb5.mono HB59.out.size))
              have Rd60 := Lib.hid (Rd59.out.keep hb5)
              have Rx60 := Lib.hid (Rx59.out.keep hb5)
              have Ry60 := Lib.hid (Ry59.out.keep hb5)
              have F60 := Lib.hid (F59.out.keep hb5)
              clear HB59 Rd59 Rx59 Ry59 F59 hb5
              go_wp2_with fail
              go_ret
              exact ⟨rfl, HB60.out⟩
            have HX0 := Lib.hid (open_set_held Hx.out Hs.out)
            have HC0 := Lib.hid (clrR_no HX0.out (by decide))
            go_wp2_with fail
            refine (Clear_any _ N k2 (setL d k ⟨o, W, F, T, rd, wt, K, true⟩) k 15 [] _ hN3 hk2 Rx56.out (fun h => (hno2 h).2) HX0.out HC0.out).mono ?_
            rintro e w5 ⟨v5, rfl, hv5, hb5⟩
            obtain ⟨az, kz, rfl, hkz, _⟩ := ok_shape hv5
            clear hv5
            have HB61 := Lib.hid (HB56.out.trans (hb5.mono HB56.out.size))
            have Rd61 := Lib.hid (Rd56.out.keep hb5)
            have Rx61 := Lib.hid (Rx56.out.keep hb5)
            have Ry61 := Lib.hid (Ry56.out.keep hb5)
            have F61 := Lib.hid (F56.out.keep hb5)
            clear HB56 Rd56 Rx56 Ry56 F56 hb5
            have e6 := F61.out.c6
            have e7 := F61.out.c7
            simp only [List.length_nil]
            go_wp2_with fail
            go_ret
            exact ⟨rfl, HB61.out⟩
          have t9 : (W != V) = true := by simpa using hWV
          have HMx := Lib.hid (HMx.out hWV)
          clear hWV
          go_wp2_with fail
          refine (Map_any _ N k2 (setL d k ⟨o, W, F, T, rd, wt, K, lk⟩) V _ hN3 hk2 Rx0.out).mono ?_
          rintro e w5 ⟨v5, rfl, hv5, hb5⟩
          rw [HMx.out, HM.out] at hv5
          obtain ⟨aqa, cqa, rfl, _⟩ := ok_shape hv5
          have hrow := rowG_of_own HM.out hv5
          clear hv5
          have Mqa_0 := Lib.hid hrow
          clear hrow
          have HB62 := Lib.hid (HB0.out.trans (hb5.mono HB0.out.size))
          have Rd62 := Lib.hid (Rd0.out.keep hb5)
          have Rx62 := Lib.hid (Rx0.out.keep hb5)
          have Ry62 := Lib.hid (Ry0.out.keep hb5)
          have F62 := Lib.hid (F0.out.keep hb5)
          clear HB0 Rd0 Rx0 Ry0 F0  hb5
          have Mqa := Mqa_0
          clear Mqa_0
          -- keep the first
          go_wp2_with fail
          refine (Map_any _ n cap d V _ hn6 hc Rd62.out).mono ?_
          rintro e w5 ⟨v5, rfl, hv5, hb5⟩
          rw [HL1.out, HM.out] at hv5
          obtain ⟨aqb, cqb, rfl, _⟩ := ok_shape hv5
          have Mqb := Lib.hid (rowG_of_own HM.out hv5)
          have Mqk := Lib.hid (Mqa.out.keep hb5)
          clear hv5 Mqa
          have HB63 := Lib.hid (HB62.out.trans (hb5.mono HB62.out.size))
          have Rd63 := Lib.hid (Rd62.out.keep hb5)
          have Rx63 := Lib.hid (Rx62.out.keep hb5)
          have Ry63 := Lib.hid (Ry62.out.keep hb5)
          have F63 := Lib.hid (F62.out.keep hb5)
          clear HB62 Rd62 Rx62 Ry62 F62 hb5
          go_wp2_with fail
          refine (same_any _ _ M _ _ L1 _ hM6 Mqk.out Mqb.out).mono ?_
          rintro e w5 ⟨rfl, hb5⟩
          clear Mqk Mqb
          have HB64 := Lib.hid (HB63.out.trans (hb5.mono HB63.out.size))
          have Rd64 := Lib.hid (Rd63.out.keep hb5)
          have Rx64 := Lib.hid (Rx63.out.keep hb5)
          have Ry64 := Lib.hid (Ry63.out.keep hb5)
          have F64 := Lib.hid (F63.out.keep hb5)
          clear HB63 Rd63 Rx63 Ry63 F63 hb5
          go_wp2_with fail
          refine (Map_any _ n k3 (clrL d k) V _ hn6 hk3 Ry64.out).mono ?_
          rintro e w5 ⟨v5, rfl, hv5, hb5⟩
          rw [HMy.out, HM.out] at hv5
          obtain ⟨apa, cpa, rfl, _⟩ := ok_shape hv5
          have hrow := rowG_of_own HM.out hv5
          clear hv5
          have Mpa_64 := Lib.hid hrow
          clear hrow
          have HB65 := Lib.hid (HB64.out.trans (hb5.mono HB64.out.size))
          have Rd65 := Lib.hid (Rd64.out.keep hb5)
          have Rx65 := Lib.hid (Rx64.out.keep hb5)
          have Ry65 := Lib.hid (Ry64.out.keep hb5)
          have F65 := Lib.hid (F64.out.keep hb5)
          clear HB64 Rd64 Rx64 Ry64 F64  hb5
          have Mpa := Mpa_64
          clear Mpa_64
          -- keep the first
          go_wp2_with fail
          refine (Map_any _ n cap d V _ hn6 hc Rd65.out).mono ?_
          rintro e w5 ⟨v5, rfl, hv5, hb5⟩
          rw [HL1.out, HM.out] at hv5
          obtain ⟨apb, cpb, rfl, _⟩ := ok_shape hv5
          have Mpb := Lib.hid (rowG_of_own HM.out hv5)
          have Mpk := Lib.hid (Mpa.out.keep hb5)
          clear hv5 Mpa
          have HB66 := Lib.hid (HB65.out.trans (hb5.mono HB65.out.size))
          have Rd66 := Lib.hid (Rd65.out.keep hb5)
          have Rx66 := Lib.hid (Rx65.out.keep hb5)
          have Ry66 := Lib.hid (Ry65.out.keep hb5)
          have F66 := Lib.hid (F65.out.keep hb5)
          clear HB65 Rd65 Rx65 Ry65 F65 hb5
          go_wp2_with fail
          refine (same_any _ _ M _ _ L1 _ hM6 Mpk.out Mpb.out).mono ?_
          rintro e w5 ⟨rfl, hb5⟩
          clear Mpk Mpb
          have HB67 := Lib.hid (HB66.out.trans (hb5.mono HB66.out.size))
          have Rd67 := Lib.hid (Rd66.out.keep hb5)
          have Rx67 := Lib.hid (Rx66.out.keep hb5)
          have Ry67 := Lib.hid (Ry66.out.keep hb5)
          have F67 := Lib.hid (F66.out.keep hb5)
          clear HB66 Rd66 Rx66 Ry66 F66 hb5
          cases lk
          focus
            have HX0 := Lib.hid (open_set_free Hx.out Hs.out)
            have HC0 := Lib.hid (clrR_ok HX0.out)
            go_wp2_with fail
            refine (Clear_any _ N k2 (setL d k ⟨o, W, F, T, rd, wt, K, false⟩) k 0 (clrL (setL d k ⟨o, W, F, T, rd, wt, K, false⟩) k) _ hN3 hk2 Rx67.out (fun h => (hno2 h).2) HX0.out HC0.out).mono ?_
            rintro e w5 ⟨v5, rfl, hv5, hb5⟩
            rw [HlenZ.out] at hv5
            obtain ⟨az, kz, rfl, hkz, _⟩ := ok_shape hv5
            have Rz0 := Lib.hid (rowG_of_own HlenZ.out hv5)
            clear hv5
            have HB68 := Lib.hid (HB67.out.trans (hb5.mono HB67.out.size))
            have Rd68 := Lib.hid (Rd67.out.keep hb5)
            have Rx68 := Lib.hid (Rx67.out.keep hb5)
            have Ry68 := Lib.hid (Ry67.out.keep hb5)
            have F68 := Lib.hid (F67.out.keep hb5)
            clear HB67 Rd67 Rx67 Ry67 F67 hb5
            have Rz68 := Rz0
            clear Rz0
            have e6 := F68.out.c6
            have e7 := F68.out.c7
            obtain ⟨L2, hL2⟩ : ∃ L, mapL (clrL d k) V = L := ⟨_, rfl⟩
            have HZ := Lib.hid ((mapL_clr_set Hx.out Hs.out (V := V)).trans hL2)
            have HY := Lib.hid hL2
            obtain ⟨M2, hM2⟩ : ∃ M, L2.length = M := ⟨_, rfl⟩
            have HM2 := Lib.hid hM2
            have hM26 : M2 ≤ 1000000 := by rw [← hM2, ← hL2]; have := mapL_length (clrL d k) V; rw [Hlen.out] at this; omega
            clear hL2 hM2
            go_wp2_with fail
            refine (Map_any _ N kz (clrL (setL d k ⟨o, W, F, T, rd, wt, K, false⟩) k) V _ hN3 hkz Rz68.out).mono ?_
            rintro e w5 ⟨v5, rfl, hv5, hb5⟩
            rw [HZ.out, HM2.out] at hv5
            obtain ⟨aza, cza, rfl, _⟩ := ok_shape hv5
            have Mza := Lib.hid (rowG_of_own HM2.out hv5)
            clear hv5 e6 e7 Rz68
            have HB69 := Lib.hid (HB68.out.trans (hb5.mono HB68.out.size))
            have Rd69 := Lib.hid (Rd68.out.keep hb5)
            have Rx69 := Lib.hid (Rx68.out.keep hb5)
            have Ry69 := Lib.hid (Ry68.out.keep hb5)
            have F69 := Lib.hid (F68.out.keep hb5)
            clear HB68 Rd68 Rx68 Ry68 F68 hb5
            go_wp2_with fail
            refine (Map_any _ n k3 (clrL d k) V _ hn6 hk3 Ry69.out).mono ?_
            rintro e w5 ⟨v5, rfl, hv5, hb5⟩
            rw [HY.out, HM2.out] at hv5
            obtain ⟨azb, czb, rfl, _⟩ := ok_shape hv5
            have Mzb := Lib.hid (rowG_of_own HM2.out hv5)
            have Mzk := Lib.hid (Mza.out.keep hb5)
            clear hv5 Mza
            have HB70 := Lib.hid (HB69.out.trans (hb5.mono HB69.out.size))
            have Rd70 := Lib.hid (Rd69.out.keep hb5)
            have Rx70 := Lib.hid (Rx69.out.keep hb5)
            have Ry70 := Lib.hid (Ry69.out.keep hb5)
            have F70 := Lib.hid (F69.out.keep hb5)
            clear HB69 Rd69 Rx69 Ry69 F69 hb5
            go_wp2_with fail
            refine (same_any _ _ M2 _ _ L2 _ hM26 Mzk.out Mzb.out).mono ?_
            rintro e w5 ⟨rfl, hb5⟩
            have HB71 := Lib.hid (HB70.out.trans (hb5.mono HB70.out.size))
            have Rd71 := Lib.hid (Rd70.out.keep hb5)
            have Rx71 := Lib.hid (Rx70.out.keep hb5)
            have Ry71 := Lib.hid (Ry70.out.keep hb5)
            have F71 := Lib.hid (F70.out.keep hb5)
            clear HB70 Rd70 Rx70 Ry70 F70 hb5
            go_wp2_with fail
            go_ret
            exact ⟨rfl, HB71.out⟩
          have HX0 := Lib.hid (open_set_held Hx.out Hs.out)
          have HC0 := Lib.hid (clrR_no HX0.out (by decide))
          go_wp2_with fail
          refine (Clear_any _ N k2 (setL d k ⟨o, W, F, T, rd, wt, K, true⟩) k 15 [] _ hN3 hk2 Rx67.out (fun h => (hno2 h).2) HX0.out HC0.out).mono ?_
          rintro e w5 ⟨v5, rfl, hv5, hb5⟩
          obtain ⟨az, kz, rfl, hkz, _⟩ := ok_shape hv5
          clear hv5
          have HB72 := Lib.hid (HB67.out.trans (hb5.mono HB67.out.size))
          have Rd72 := Lib.hid (Rd67.out.keep hb5)
          have Rx72 := Lib.hid (Rx67.out.keep hb5)
          have Ry72 := Lib.hid (Ry67.out.keep hb5)
          have F72 := Lib.hid (F67.out.keep hb5)
          clear HB67 Rd67 Rx67 Ry67 F67 hb5
          have e6 := F72.out.c6
          have e7 := F72.out.c7
          simp only [List.length_nil]
          go_wp2_with fail
          go_ret
          exact ⟨rfl, HB72.out⟩

  )
end Go.Proofs.Ytmkponhhinjpkaa.Table
