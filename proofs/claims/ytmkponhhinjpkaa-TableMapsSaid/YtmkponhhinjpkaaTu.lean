/- The walk of TableMaps. -/
import Derived.Test.YtmkponhhinjpkaaTs
namespace Go.Proofs.Ytmkponhhinjpkaa.Table
open Go.RowKit Fifo Go.Maps Go.ChangeShapes Go.WideShapes Go.ChangeAt Go.Proofs.Ytmkponhhinjpkaa.Access
set_option linter.unusedVariables false

/-- The first part: the verdict is the map's, and no other world's map lets it through. -/
theorem may_none {d : List Rg} {ac : Ac} (h : dec d ac = none) : may d ac = false := by unfold may; rw [h]; rfl
theorem may_some {d : List Rg} {ac : Ac} {b : Nat} (h : dec d ac = some b) : may d ac = d[b]!.lets ac := by unfold may; rw [h]; rfl
theorem dec_is {d : List Rg} {ac : Ac} (ht : tabB d = true) : dec d ac = decTo d ac d.length := by unfold dec; rw [if_pos ht]

set_option maxRecDepth 100000 in
set_option maxHeartbeats 8000000 in
theorem maps_core (a : Option Addr) (n cap : Nat) (d : List Rg) (W2 : Int) (r2 : Bool) (A S D : Int) (V2 : Int) (w : World) (hn : n ≤ 100) (hc : n ≤ cap) (hA : 0 ≤ A) (hA' : A < 4294967296) (hD : 0 ≤ D) (hD' : D < 4294967296) (h : RowG w a n d) :
    Calls Try.prog 3 #[.slice a n cap, acc W2 r2 A S D, .int .i64 V2] w fun e w' => e = .returned (.bool true) ∧ Below w.heap.size w w' := by
  have d1 : decide ((100 : Int) < (n : Int)) = false := decide_eq_false (by omega)
  have hn6 : n ≤ 1000000 := by omega
  have Hr := Lib.hid h
  obtain ⟨tb, htb⟩ : ∃ tb, tabB d = tb := ⟨_, rfl⟩
  have Htb := Lib.hid htb
  obtain ⟨b0, hb0⟩ : ∃ b0, w.heap.size = b0 := ⟨_, rfl⟩
  have h5 := five_new w W2 r2 A S D 25
  rw [hb0] at h5
  have H5 := Lib.hid h5
  have H0 := Lib.hid ((Below.refl w.heap.size w).alloc (Nat.le_refl _) (.cells #[.int .i64 W2, .bool r2, .int .u32 A, .int .i64 S, .int .u32 D] 25))
  clear h htb h5
  go_enter Try.func3, Try.ntmps3
  go_wp2_with fail
  refine (awake_any _).mono ?_
  rintro e w1 ⟨rfl, hb1⟩
  have B1 := Lib.hid (H0.out.trans (hb1.mono H0.out.size))
  have F1 := Lib.hid (H5.out.keep hb1)
  clear hb1 H0 H5
  go_wp2_with fail
  refine (Right_any a n cap d tb _ hn6 hc (Hr.out.keep B1.out) Htb.out).mono ?_
  rintro e w2 ⟨rfl, hb2⟩
  have B2 := Lib.hid (B1.out.trans (hb2.mono B1.out.size))
  have F2 := Lib.hid (F1.out.keep hb2)
  clear hb2 B1 F1 hb0
  cases tb with
  | false =>
    go_wp2_with fail
    go_ret
    exact ⟨rfl, B2.out⟩
  | true =>
    obtain ⟨k0, k1, k2, k3, k4⟩ := F2.out
    go_wp2_with fail
    refine (Map_any a n cap d W2 _ hn6 hc (Hr.out.keep B2.out)).mono ?_
    rintro e w3 ⟨v, rfl, hv, hb3⟩
    obtain ⟨N, hN⟩ : ∃ N, (mapL d W2).length = N := ⟨_, rfl⟩
    rw [hN] at hv
    obtain ⟨am, cm, hvm, hNc, _⟩ := ok_shape hv
    subst hvm
    have htab := tabB_iff.1 Htb.out
    have hmL : mapL d W2 = rmap d W2 := by unfold mapL; rw [if_pos Htb.out]
    have hN1 : N ≤ 100 := by rw [← hN, hmL]; have := rmap_length htab W2; rw [Hr.out.1] at this; omega
    have Hm := Lib.hid (rowG_of_own hN hv)
    have HmL := Lib.hid hmL
    have Htab := Lib.hid htab
    have B3 := Lib.hid (B2.out.trans (hb3.mono B2.out.size))
    have F3 := Lib.hid (F2.out.keep hb3)
    clear hv hb3 k0 k1 k2 k3 k4 F2 B2 hmL htab hN
    obtain ⟨mb, hmb⟩ : ∃ mb, may d ⟨W2, r2, A, S, D⟩ = mb := ⟨_, rfl⟩
    have Hmb := Lib.hid hmb
    have hmb2 : among (mapL d W2) ⟨W2, r2, A, S, D⟩ = mb := by rw [HmL.out, ← hmb]; exact (may_among Htab.out ⟨W2, r2, A, S, D⟩).symm
    have hmb3 : may (mapL d W2) ⟨W2, r2, A, S, D⟩ = mb := by rw [HmL.out, ← hmb]; exact may_map Htab.out ⟨W2, r2, A, S, D⟩
    have Hmb2 := Lib.hid hmb2
    have Hmb3 := Lib.hid hmb3
    clear hmb hmb2 hmb3
    go_wp2_with fail
    refine wp_region_ext (by kernel_rfl) (by kernel_rfl) ?_
    intro X hX
    obtain rfl := hX.out
    clear hX
    obtain ⟨c0, c1, c2, c3, c4⟩ := F3.out
    have q0 := ext_cell c0
    have q1 := ext_cell c1
    have q2 := ext_cell c2
    have q3 := ext_cell c3
    have q4 := ext_cell c4
    have hRX := fun p => (Hr.out.keep B3.out).keep (ext_below X p)
    have hMX := fun p => Hm.out.keep (ext_below X p)
    have HRX := Lib.hid hRX
    have HMX := Lib.hid hMX
    clear hRX hMX c0 c1 c2 c3 c4
    repeat (go_big_quiet_step ((first
      | (go_at_call 9; with_reducible exact ext_of (May_any a n cap d W2 r2 A S D _ _ hn6 hc hA hA' hD hD' (HRX.out _) Hmb.out))
      | (go_at_call 9; with_reducible exact ext_of (May_any am N cm (mapL d W2) W2 r2 A S D _ _ (by omega) hNc hA hA' hD hD' (HMX.out _) Hmb3.out))
      | (go_at_call 10; with_reducible exact ext_of (Among_any am N cm (mapL d W2) W2 r2 A S D _ _ (by omega) hA hA' hD hD' (HMX.out _) Hmb2.out)))))
    refine wpQuiet_nil ?_
    intro w' hw'
    obtain ⟨p, rfl⟩ := hw'
    refine exit_letter ?_
    intro Y hY
    have hbY : Below X.heap.size X Y := by rw [hY.out]; exact ext_below X p
    have BY := Lib.hid (B3.out.trans (hbY.mono B3.out.size))
    have FY := Lib.hid (F3.out.keep hbY)
    have RY := Lib.hid (Hr.out.keep BY.out)
    clear hY hbY HRX HMX q0 q1 q2 q3 q4
    obtain ⟨sv, hsv⟩ : ∃ sv, (V2 == W2) = sv := ⟨_, rfl⟩
    have hne2 : (V2 != W2) = !sv := by rw [bne, hsv]
    have hot : sv = false → among (mapL d V2) ⟨W2, r2, A, S, D⟩ = false := fun hs => by
      unfold mapL
      rw [if_pos Htb.out]
      exact among_other Htab.out ⟨W2, r2, A, S, D⟩ (by rw [hs] at hsv; simpa using hsv)
    have HN2 := Lib.hid (show (mapL d V2).length ≤ 1000000 by unfold mapL; rw [if_pos Htb.out]; have := rmap_length Htab.out V2; rw [Hr.out.1] at this; omega)
    clear hsv
    cases sv
    · simp only [Bool.not_false] at hne2
      have HO := Lib.hid (hot rfl)
      clear hot
      have a0 := load_below (B := 0) FY.out.c0
      have a1 := load_below (B := 0) FY.out.c1
      have a2 := load_below (B := 0) FY.out.c2
      have a3 := load_below (B := 0) FY.out.c3
      have a4 := load_below (B := 0) FY.out.c4
      go_wp2_with fail
      go_region_held3 (fun w' => Below Y.heap.size Y w')
        (first | assumption | exact (Below.refl _ _).drew)
        (first
          | (go_at_call 8; refine (Map_any a n cap d V2 _ hn6 hc (RY.out.keep (by assumption))).mono ?_; rintro e w' ⟨v, rfl, hv, hb⟩; obtain ⟨am2, cm2, hvm2, _, _⟩ := ok_shape hv; subst hvm2; have hrow2 := rowG_of_own rfl hv; have hbS : Below Y.heap.size Y w' := Below.trans (by assumption) (Below.mono hb (Below.size (by assumption))))
          | (go_at_call 10; refine (Among_any _ _ _ (mapL d V2) W2 r2 A S D false _ HN2.out hA hA' hD hD' (by assumption) HO.out).mono ?_; rintro e w' ⟨rfl, hb⟩; have hbS : Below Y.heap.size Y w' := Below.trans (by assumption) (Below.mono hb (Below.size (by assumption)))))
      have BZ := Lib.hid (BY.out.trans (hbS.mono BY.out.size))
      have FZ := Lib.hid (FY.out.keep hbS)
      have RZ := Lib.hid (Hr.out.keep BZ.out)
      clear FY BY RY a0 a1 a2 a3 a4
      obtain ⟨a0, a1, a2, a3, a4⟩ := FZ.out
      obtain ⟨od, hod⟩ : ∃ od, dec d ⟨W2, r2, A, S, D⟩ = od := ⟨_, rfl⟩
      have Hod := Lib.hid hod
      have HodT := Lib.hid (show decTo d ⟨W2, r2, A, S, D⟩ d.length = od by rw [← dec_is Htb.out]; exact hod)
      clear hod
      cases od with
      | none =>
        go_wp2_with fail
        refine (Decides_any a n cap d W2 r2 A S D 0 false _ hn6 hc hA hA' hD hD' RZ.out (by rw [Hod.out]; rfl) (by rw [Hod.out]; rfl)).mono ?_
        rintro e w7 ⟨rfl, hb7⟩
        have B7 := Lib.hid (BZ.out.trans (hb7.mono BZ.out.size))
        have F7 := Lib.hid (FZ.out.keep hb7)
        clear hb7 a0 a1 a2 a3 a4 RZ
        go_wp2_with fail
        go_loopw [10] (fun i wr => ∃ k : Nat, k ≤ n ∧ i = .int .i64 k ∧ Five wr b0 W2 r2 A S D ∧ Below w.heap.size w wr) (fun i _ => n - (intOf i).toNat)
        case atStart => exact ⟨0, Nat.zero_le _, rfl, F7.out, B7.out⟩
        case round =>
          obtain ⟨k, hk, rfl, hf, hb⟩ := hrel
          have Hf := Lib.hid hf
          have Hb := Lib.hid hb
          have hsz := hb.size
          clear hf hb
          by_cases hlt : k < n
          · obtain ⟨b, off, rfl, ce⟩ := Hr.out.2 k hlt
            have ce := ce.keep Hb.out
            have hno := dec_none HodT.out k (by rw [Hr.out.1]; exact hlt)
            obtain ⟨y, hy⟩ : ∃ y, d[k]! = y := ⟨_, rfl⟩
            rw [hy] at ce hno
            clear hy
            obtain ⟨o, V, F, T, rd, wt, K, lk⟩ := y
            have Hno := Lib.hid (show Region.hasV o V F T K W2 r2 A S D = false from hno)
            have i1 : (0 : Int) ≤ (k : Int) := by omega
            have i2 : (k : Int) < (n : Int) := by omega
            clear hno
            go_wp2_with fail
            refine wp_region_ext (by kernel_rfl) (by kernel_rfl) ?_
            intro X hX
            obtain rfl := hX.out
            clear hX
            obtain ⟨e0, e1, e2, e3, e4, e5, e6, e7⟩ := ce
            have x0 := ext_cell e0
            have x1 := ext_cell e1
            have x2 := ext_cell e2
            have x3 := ext_cell e3
            have x4 := ext_cell e4
            have x5 := ext_cell e5
            have x6 := ext_cell e6
            have x7 := ext_cell e7
            have q0 := ext_cell Hf.out.c0
            have q1 := ext_cell Hf.out.c1
            have q2 := ext_cell Hf.out.c2
            have q3 := ext_cell Hf.out.c3
            have q4 := ext_cell Hf.out.c4
            clear e0 e1 e2 e3 e4 e5 e6 e7
            repeat (go_big_quiet_step ((go_at_call 12; with_reducible exact ext_of (Region.Has_any o V F T rd wt K lk W2 r2 A S D false _ hA hA' hD hD' Hno.out))))
            refine wpQuiet_nil ?_
            intro w9 hw9
            obtain ⟨p9, rfl⟩ := hw9
            have h9 := ext_below X p9
            have H9 := Lib.hid (Hb.out.trans (h9.mono hsz))
            have F9 := Lib.hid (Hf.out.keep h9)
            clear h9 x0 x1 x2 x3 x4 x5 x6 x7 q0 q1 q2 q3 q4
            go_wp2_with fail
            exact ⟨⟨k + 1, by omega, by go_num, F9.out, H9.out⟩, by simp [intOf]; omega⟩
          · obtain rfl : k = n := by omega
            have Rk := Lib.hid (Hr.out.keep Hb.out)
            obtain ⟨q0, q1, q2, q3, q4⟩ := Hf.out
            go_wp2_with fail
            refine (May_any a k cap d W2 r2 A S D false _ hn6 hc hA hA' hD hD' Rk.out (may_none Hod.out)).mono ?_
            rintro e w10 ⟨rfl, hb10⟩
            have H10 := Lib.hid (Hb.out.trans (hb10.mono hsz))
            clear hb10
            go_wp2_with fail
            go_ret
            exact ⟨rfl, H10.out⟩
      | some bi =>
        have hds := dec_some HodT.out
        have g1 : decide ((bi : Int) < 0) = false := decide_eq_false (by omega)
        have g2 : decide ((n : Int) ≤ (bi : Int)) = false := decide_eq_false (by have := hds.1; rw [Hr.out.1] at this; omega)
        have hbn : bi < n := by have := hds.1; rw [Hr.out.1] at this; exact this
        have g3 : decide (n ≤ bi) = false := decide_eq_false (by omega)
        obtain ⟨z, hz⟩ : ∃ z, d[bi]! = z := ⟨_, rfl⟩
        have hlz := may_some Hod.out
        rw [Hmb.out, hz] at hlz
        rw [hz] at hds
        have Hz := Lib.hid hz
        obtain ⟨zo, zV, zF, zT, zr, zw, zK, zl⟩ := z
        have HzH := Lib.hid (show Region.hasV zo zV zF zT zK W2 r2 A S D = true from hds.2.1)
        have HzL := Lib.hid (show Region.letsV zo zV zF zT zr zw zK W2 r2 A S D = _ from hlz.symm)
        have Hds := Lib.hid hds
        clear hz hds hlz
        go_wp2_with fail
        refine (Decides_any a n cap d W2 r2 A S D bi true _ hn6 hc hA hA' hD hD' RZ.out (by rw [Hod.out]; rfl) (by rw [Hod.out]; rfl)).mono ?_
        rintro e w7 ⟨rfl, hb7⟩
        have B7 := Lib.hid (BZ.out.trans (hb7.mono BZ.out.size))
        have F7 := Lib.hid (FZ.out.keep hb7)
        clear hb7 a0 a1 a2 a3 a4 RZ
        have j1 : (0 : Int) ≤ (bi : Int) := by omega
        have j2 : (bi : Int) < (n : Int) := by omega
        go_wp2_with fail
        go_loopw [10] (fun i wr => ∃ k : Nat, k ≤ n ∧ i = .int .i64 k ∧ Five wr b0 W2 r2 A S D ∧ Below w.heap.size w wr) (fun i _ => n - (intOf i).toNat)
        case atStart => exact ⟨0, Nat.zero_le _, rfl, F7.out, B7.out⟩
        case round =>
          obtain ⟨k, hk, rfl, hf, hb⟩ := hrel
          have Hf := Lib.hid hf
          have Hb := Lib.hid hb
          have hsz := hb.size
          clear hf hb
          by_cases hlt : k < n
          · obtain ⟨b, off, rfl, ce⟩ := Hr.out.2 k hlt
            obtain ⟨b', off', hbo, cz⟩ := Hr.out.2 bi hbn
            obtain ⟨rfl, rfl⟩ : b = b' ∧ off = off' := by simpa using hbo
            clear hbo
            have ce := ce.keep Hb.out
            have cz := cz.keep Hb.out
            rw [Hz.out] at cz
            have hyy := Hds.out.2.2 k (by rw [Hr.out.1]; exact hlt)
            obtain ⟨y, hy⟩ : ∃ y, d[k]! = y := ⟨_, rfl⟩
            rw [hy] at ce hyy
            clear hy
            obtain ⟨o, V, F, T, rd, wt, K, lk⟩ := y
            have i1 : (0 : Int) ≤ (k : Int) := by omega
            have i2 : (k : Int) < (n : Int) := by omega
            obtain ⟨e0, e1, e2, e3, e4, e5, e6, e7⟩ := ce
            obtain ⟨f0, f1, f2, f3, f4, f5, f6, f7⟩ := cz
            obtain ⟨hq, hhq⟩ : ∃ hq, Region.hasV o V F T K W2 r2 A S D = hq := ⟨_, rfl⟩
            have Hhq := Lib.hid hhq
            have Hab := Lib.hid (show hq = true → Region.aboveV o V F T K zo zV zF zT zK = false from fun ht => by
              rw [ht] at hhq
              have h1 := (hyy hhq).1
              have h2 := above_has (a := ⟨W2, r2, A, S, D⟩) (g := ⟨o, V, F, T, rd, wt, K, lk⟩) (h := ⟨zo, zV, zF, zT, zr, zw, zK, zl⟩) hhq HzH.out
              exact h2.trans (decide_eq_false (by have h1 : K ≤ zK := h1; show ¬ zK < K; omega)))
            obtain ⟨eq, heq⟩ : ∃ eq, (K == zK) = eq := ⟨_, rfl⟩
            have hlt2 : hq = true → eq = true → decide ((k : Int) < (bi : Int)) = false := fun ht he => by
              rw [ht] at hhq
              rw [he] at heq
              have h1 : k < bi → K < zK := (hyy hhq).2
              have h3 : K = zK := by simpa using heq
              exact decide_eq_false (by omega)
            clear hyy hhq
            have Hlt2 := Lib.hid hlt2
            clear hlt2
            go_wp2_with fail
            refine wp_region_ext (by kernel_rfl) (by kernel_rfl) ?_
            intro X hX
            obtain rfl := hX.out
            clear hX
            have x0 := ext_cell e0
            have x1 := ext_cell e1
            have x2 := ext_cell e2
            have x3 := ext_cell e3
            have x4 := ext_cell e4
            have x5 := ext_cell e5
            have x6 := ext_cell e6
            have x7 := ext_cell e7
            have y0 := ext_cell f0
            have y1 := ext_cell f1
            have y2 := ext_cell f2
            have y3 := ext_cell f3
            have y4 := ext_cell f4
            have y5 := ext_cell f5
            have y6 := ext_cell f6
            have y7 := ext_cell f7
            have q0 := ext_cell Hf.out.c0
            have q1 := ext_cell Hf.out.c1
            have q2 := ext_cell Hf.out.c2
            have q3 := ext_cell Hf.out.c3
            have q4 := ext_cell Hf.out.c4
            clear e0 e1 e2 e3 e4 e5 e6 e7 f0 f1 f2 f3 f4 f5 f6 f7
            cases hq
            · repeat (go_big_quiet_step ((go_at_call 12; with_reducible exact ext_of (Region.Has_any o V F T rd wt K lk W2 r2 A S D _ _ hA hA' hD hD' Hhq.out))))
              refine wpQuiet_nil ?_
              intro w9 hw9
              obtain ⟨p9, rfl⟩ := hw9
              have h9 := ext_below X p9
              have H9 := Lib.hid (Hb.out.trans (h9.mono hsz))
              have F9 := Lib.hid (Hf.out.keep h9)
              clear h9 x0 x1 x2 x3 x4 x5 x6 x7 q0 q1 q2 q3 q4 y0 y1 y2 y3 y4 y5 y6 y7 heq
              go_wp2_with fail
              exact ⟨⟨k + 1, by omega, by go_num, F9.out, H9.out⟩, by simp [intOf]; omega⟩
            · have Hab2 := Lib.hid (Hab.out rfl)
              cases eq
              · repeat (go_big_quiet_step ((first
                  | (go_at_call 12; with_reducible exact ext_of (Region.Has_any o V F T rd wt K lk W2 r2 A S D _ _ hA hA' hD hD' Hhq.out))
                  | (go_at_call 13; with_reducible exact ext_of (Region.Above_any o V F T rd wt K lk zo zV zF zT zr zw zK zl _ _ Hab2.out)))))
                refine wpQuiet_nil ?_
                intro w9 hw9
                obtain ⟨p9, rfl⟩ := hw9
                have h9 := ext_below X p9
                have H9 := Lib.hid (Hb.out.trans (h9.mono hsz))
                have F9 := Lib.hid (Hf.out.keep h9)
                clear h9 x0 x1 x2 x3 x4 x5 x6 x7 q0 q1 q2 q3 q4 y0 y1 y2 y3 y4 y5 y6 y7 heq
                go_wp2_with fail
                exact ⟨⟨k + 1, by omega, by go_num, F9.out, H9.out⟩, by simp [intOf]; omega⟩
              · have hl2 := Hlt2.out rfl rfl
                have hnl : ¬ k < bi := fun hh => by have := of_decide_eq_false hl2; omega
                repeat (go_big_quiet_step ((first
                  | (go_at_call 12; with_reducible exact ext_of (Region.Has_any o V F T rd wt K lk W2 r2 A S D _ _ hA hA' hD hD' Hhq.out))
                  | (go_at_call 13; with_reducible exact ext_of (Region.Above_any o V F T rd wt K lk zo zV zF zT zr zw zK zl _ _ Hab2.out)))))
                refine wpQuiet_nil ?_
                intro w9 hw9
                obtain ⟨p9, rfl⟩ := hw9
                have h9 := ext_below X p9
                have H9 := Lib.hid (Hb.out.trans (h9.mono hsz))
                have F9 := Lib.hid (Hf.out.keep h9)
                clear h9 hl2 x0 x1 x2 x3 x4 x5 x6 x7 q0 q1 q2 q3 q4 y0 y1 y2 y3 y4 y5 y6 y7 heq
                go_wp2_with fail
                all_goals first | (exfalso; omega) | exact ⟨⟨k + 1, by omega, by go_num, F9.out, H9.out⟩, by simp [intOf]; omega⟩
          · obtain rfl : k = n := by omega
            have Rk := Lib.hid (Hr.out.keep Hb.out)
            obtain ⟨b', off', hbo, cz⟩ := Rk.out.2 bi hbn
            rw [Hz.out] at cz
            subst hbo
            obtain ⟨f0, f1, f2, f3, f4, f5, f6, f7⟩ := cz
            go_wp2_with fail
            refine wp_region_ext (by kernel_rfl) (by kernel_rfl) ?_
            intro X hX
            obtain rfl := hX.out
            clear hX
            have y0 := ext_cell f0
            have y1 := ext_cell f1
            have y2 := ext_cell f2
            have y3 := ext_cell f3
            have y4 := ext_cell f4
            have y5 := ext_cell f5
            have y6 := ext_cell f6
            have y7 := ext_cell f7
            have q0 := ext_cell Hf.out.c0
            have q1 := ext_cell Hf.out.c1
            have q2 := ext_cell Hf.out.c2
            have q3 := ext_cell Hf.out.c3
            have q4 := ext_cell Hf.out.c4
            have HRk := Lib.hid (fun p => Rk.out.keep (ext_below X p))
            clear f0 f1 f2 f3 f4 f5 f6 f7
            repeat (go_big_quiet_step ((first
              | (go_at_call 12; with_reducible exact ext_of (Region.Has_any zo zV zF zT zr zw zK zl W2 r2 A S D _ _ hA hA' hD hD' HzH.out))
              | (go_at_call 14; with_reducible exact ext_of (Region.Lets_any zo zV zF zT zr zw zK zl W2 r2 A S D _ _ hA hA' hD hD' HzL.out))
              | (go_at_call 9; with_reducible exact ext_of (May_any _ k cap d W2 r2 A S D _ _ hn6 hc hA hA' hD hD' (HRk.out _) Hmb.out)))))
            refine wpQuiet_nil ?_
            intro w9 hw9
            obtain ⟨p9, rfl⟩ := hw9
            have h9 := ext_below X p9
            have H9 := Lib.hid (Hb.out.trans (h9.mono hsz))
            clear h9 q0 q1 q2 q3 q4 y0 y1 y2 y3 y4 y5 y6 y7
            go_wp2_with fail
            go_ret
            exact ⟨rfl, H9.out⟩
    · simp only [Bool.not_true] at hne2
      clear hot
      go_wp2_with fail
      refine wp_region_ext (by kernel_rfl) (by kernel_rfl) ?_
      intro Z hZ
      obtain rfl := hZ.out
      clear hZ
      have a0 := ext_cell FY.out.c0
      have a1 := ext_cell FY.out.c1
      have a2 := ext_cell FY.out.c2
      have a3 := ext_cell FY.out.c3
      have a4 := ext_cell FY.out.c4
      repeat (go_big_quiet_step (fail))
      refine wpQuiet_nil ?_
      intro w8 hw8
      obtain ⟨p8, rfl⟩ := hw8
      have hbS := ext_below Z p8
      have BZ := Lib.hid (BY.out.trans (hbS.mono BY.out.size))
      have FZ := Lib.hid (FY.out.keep hbS)
      have RZ := Lib.hid (Hr.out.keep BZ.out)
      clear FY BY RY a0 a1 a2 a3 a4
      obtain ⟨a0, a1, a2, a3, a4⟩ := FZ.out
      obtain ⟨od, hod⟩ : ∃ od, dec d ⟨W2, r2, A, S, D⟩ = od := ⟨_, rfl⟩
      have Hod := Lib.hid hod
      have HodT := Lib.hid (show decTo d ⟨W2, r2, A, S, D⟩ d.length = od by rw [← dec_is Htb.out]; exact hod)
      clear hod
      cases od with
      | none =>
        go_wp2_with fail
        refine (Decides_any a n cap d W2 r2 A S D 0 false _ hn6 hc hA hA' hD hD' RZ.out (by rw [Hod.out]; rfl) (by rw [Hod.out]; rfl)).mono ?_
        rintro e w7 ⟨rfl, hb7⟩
        have B7 := Lib.hid (BZ.out.trans (hb7.mono BZ.out.size))
        have F7 := Lib.hid (FZ.out.keep hb7)
        clear hb7 a0 a1 a2 a3 a4 RZ
        go_wp2_with fail
        go_loopw [10] (fun i wr => ∃ k : Nat, k ≤ n ∧ i = .int .i64 k ∧ Five wr b0 W2 r2 A S D ∧ Below w.heap.size w wr) (fun i _ => n - (intOf i).toNat)
        case atStart => exact ⟨0, Nat.zero_le _, rfl, F7.out, B7.out⟩
        case round =>
          obtain ⟨k, hk, rfl, hf, hb⟩ := hrel
          have Hf := Lib.hid hf
          have Hb := Lib.hid hb
          have hsz := hb.size
          clear hf hb
          by_cases hlt : k < n
          · obtain ⟨b, off, rfl, ce⟩ := Hr.out.2 k hlt
            have ce := ce.keep Hb.out
            have hno := dec_none HodT.out k (by rw [Hr.out.1]; exact hlt)
            obtain ⟨y, hy⟩ : ∃ y, d[k]! = y := ⟨_, rfl⟩
            rw [hy] at ce hno
            clear hy
            obtain ⟨o, V, F, T, rd, wt, K, lk⟩ := y
            have Hno := Lib.hid (show Region.hasV o V F T K W2 r2 A S D = false from hno)
            have i1 : (0 : Int) ≤ (k : Int) := by omega
            have i2 : (k : Int) < (n : Int) := by omega
            clear hno
            go_wp2_with fail
            refine wp_region_ext (by kernel_rfl) (by kernel_rfl) ?_
            intro X hX
            obtain rfl := hX.out
            clear hX
            obtain ⟨e0, e1, e2, e3, e4, e5, e6, e7⟩ := ce
            have x0 := ext_cell e0
            have x1 := ext_cell e1
            have x2 := ext_cell e2
            have x3 := ext_cell e3
            have x4 := ext_cell e4
            have x5 := ext_cell e5
            have x6 := ext_cell e6
            have x7 := ext_cell e7
            have q0 := ext_cell Hf.out.c0
            have q1 := ext_cell Hf.out.c1
            have q2 := ext_cell Hf.out.c2
            have q3 := ext_cell Hf.out.c3
            have q4 := ext_cell Hf.out.c4
            clear e0 e1 e2 e3 e4 e5 e6 e7
            repeat (go_big_quiet_step ((go_at_call 12; with_reducible exact ext_of (Region.Has_any o V F T rd wt K lk W2 r2 A S D false _ hA hA' hD hD' Hno.out))))
            refine wpQuiet_nil ?_
            intro w9 hw9
            obtain ⟨p9, rfl⟩ := hw9
            have h9 := ext_below X p9
            have H9 := Lib.hid (Hb.out.trans (h9.mono hsz))
            have F9 := Lib.hid (Hf.out.keep h9)
            clear h9 x0 x1 x2 x3 x4 x5 x6 x7 q0 q1 q2 q3 q4
            go_wp2_with fail
            exact ⟨⟨k + 1, by omega, by go_num, F9.out, H9.out⟩, by simp [intOf]; omega⟩
          · obtain rfl : k = n := by omega
            have Rk := Lib.hid (Hr.out.keep Hb.out)
            obtain ⟨q0, q1, q2, q3, q4⟩ := Hf.out
            go_wp2_with fail
            refine (May_any a k cap d W2 r2 A S D false _ hn6 hc hA hA' hD hD' Rk.out (may_none Hod.out)).mono ?_
            rintro e w10 ⟨rfl, hb10⟩
            have H10 := Lib.hid (Hb.out.trans (hb10.mono hsz))
            clear hb10
            go_wp2_with fail
            go_ret
            exact ⟨rfl, H10.out⟩
      | some bi =>
        have hds := dec_some HodT.out
        have g1 : decide ((bi : Int) < 0) = false := decide_eq_false (by omega)
        have g2 : decide ((n : Int) ≤ (bi : Int)) = false := decide_eq_false (by have := hds.1; rw [Hr.out.1] at this; omega)
        have hbn : bi < n := by have := hds.1; rw [Hr.out.1] at this; exact this
        have g3 : decide (n ≤ bi) = false := decide_eq_false (by omega)
        obtain ⟨z, hz⟩ : ∃ z, d[bi]! = z := ⟨_, rfl⟩
        have hlz := may_some Hod.out
        rw [Hmb.out, hz] at hlz
        rw [hz] at hds
        have Hz := Lib.hid hz
        obtain ⟨zo, zV, zF, zT, zr, zw, zK, zl⟩ := z
        have HzH := Lib.hid (show Region.hasV zo zV zF zT zK W2 r2 A S D = true from hds.2.1)
        have HzL := Lib.hid (show Region.letsV zo zV zF zT zr zw zK W2 r2 A S D = _ from hlz.symm)
        have Hds := Lib.hid hds
        clear hz hds hlz
        go_wp2_with fail
        refine (Decides_any a n cap d W2 r2 A S D bi true _ hn6 hc hA hA' hD hD' RZ.out (by rw [Hod.out]; rfl) (by rw [Hod.out]; rfl)).mono ?_
        rintro e w7 ⟨rfl, hb7⟩
        have B7 := Lib.hid (BZ.out.trans (hb7.mono BZ.out.size))
        have F7 := Lib.hid (FZ.out.keep hb7)
        clear hb7 a0 a1 a2 a3 a4 RZ
        have j1 : (0 : Int) ≤ (bi : Int) := by omega
        have j2 : (bi : Int) < (n : Int) := by omega
        go_wp2_with fail
        go_loopw [10] (fun i wr => ∃ k : Nat, k ≤ n ∧ i = .int .i64 k ∧ Five wr b0 W2 r2 A S D ∧ Below w.heap.size w wr) (fun i _ => n - (intOf i).toNat)
        case atStart => exact ⟨0, Nat.zero_le _, rfl, F7.out, B7.out⟩
        case round =>
          obtain ⟨k, hk, rfl, hf, hb⟩ := hrel
          have Hf := Lib.hid hf
          have Hb := Lib.hid hb
          have hsz := hb.size
          clear hf hb
          by_cases hlt : k < n
          · obtain ⟨b, off, rfl, ce⟩ := Hr.out.2 k hlt
            obtain ⟨b', off', hbo, cz⟩ := Hr.out.2 bi hbn
            obtain ⟨rfl, rfl⟩ : b = b' ∧ off = off' := by simpa using hbo
            clear hbo
            have ce := ce.keep Hb.out
            have cz := cz.keep Hb.out
            rw [Hz.out] at cz
            have hyy := Hds.out.2.2 k (by rw [Hr.out.1]; exact hlt)
            obtain ⟨y, hy⟩ : ∃ y, d[k]! = y := ⟨_, rfl⟩
            rw [hy] at ce hyy
            clear hy
            obtain ⟨o, V, F, T, rd, wt, K, lk⟩ := y
            have i1 : (0 : Int) ≤ (k : Int) := by omega
            have i2 : (k : Int) < (n : Int) := by omega
            obtain ⟨e0, e1, e2, e3, e4, e5, e6, e7⟩ := ce
            obtain ⟨f0, f1, f2, f3, f4, f5, f6, f7⟩ := cz
            obtain ⟨hq, hhq⟩ : ∃ hq, Region.hasV o V F T K W2 r2 A S D = hq := ⟨_, rfl⟩
            have Hhq := Lib.hid hhq
            have Hab := Lib.hid (show hq = true → Region.aboveV o V F T K zo zV zF zT zK = false from fun ht => by
              rw [ht] at hhq
              have h1 := (hyy hhq).1
              have h2 := above_has (a := ⟨W2, r2, A, S, D⟩) (g := ⟨o, V, F, T, rd, wt, K, lk⟩) (h := ⟨zo, zV, zF, zT, zr, zw, zK, zl⟩) hhq HzH.out
              exact h2.trans (decide_eq_false (by have h1 : K ≤ zK := h1; show ¬ zK < K; omega)))
            obtain ⟨eq, heq⟩ : ∃ eq, (K == zK) = eq := ⟨_, rfl⟩
            have hlt2 : hq = true → eq = true → decide ((k : Int) < (bi : Int)) = false := fun ht he => by
              rw [ht] at hhq
              rw [he] at heq
              have h1 : k < bi → K < zK := (hyy hhq).2
              have h3 : K = zK := by simpa using heq
              exact decide_eq_false (by omega)
            clear hyy hhq
            have Hlt2 := Lib.hid hlt2
            clear hlt2
            go_wp2_with fail
            refine wp_region_ext (by kernel_rfl) (by kernel_rfl) ?_
            intro X hX
            obtain rfl := hX.out
            clear hX
            have x0 := ext_cell e0
            have x1 := ext_cell e1
            have x2 := ext_cell e2
            have x3 := ext_cell e3
            have x4 := ext_cell e4
            have x5 := ext_cell e5
            have x6 := ext_cell e6
            have x7 := ext_cell e7
            have y0 := ext_cell f0
            have y1 := ext_cell f1
            have y2 := ext_cell f2
            have y3 := ext_cell f3
            have y4 := ext_cell f4
            have y5 := ext_cell f5
            have y6 := ext_cell f6
            have y7 := ext_cell f7
            have q0 := ext_cell Hf.out.c0
            have q1 := ext_cell Hf.out.c1
            have q2 := ext_cell Hf.out.c2
            have q3 := ext_cell Hf.out.c3
            have q4 := ext_cell Hf.out.c4
            clear e0 e1 e2 e3 e4 e5 e6 e7 f0 f1 f2 f3 f4 f5 f6 f7
            cases hq
            · repeat (go_big_quiet_step ((go_at_call 12; with_reducible exact ext_of (Region.Has_any o V F T rd wt K lk W2 r2 A S D _ _ hA hA' hD hD' Hhq.out))))
              refine wpQuiet_nil ?_
              intro w9 hw9
              obtain ⟨p9, rfl⟩ := hw9
              have h9 := ext_below X p9
              have H9 := Lib.hid (Hb.out.trans (h9.mono hsz))
              have F9 := Lib.hid (Hf.out.keep h9)
              clear h9 x0 x1 x2 x3 x4 x5 x6 x7 q0 q1 q2 q3 q4 y0 y1 y2 y3 y4 y5 y6 y7 heq
              go_wp2_with fail
              exact ⟨⟨k + 1, by omega, by go_num, F9.out, H9.out⟩, by simp [intOf]; omega⟩
            · have Hab2 := Lib.hid (Hab.out rfl)
              cases eq
              · repeat (go_big_quiet_step ((first
                  | (go_at_call 12; with_reducible exact ext_of (Region.Has_any o V F T rd wt K lk W2 r2 A S D _ _ hA hA' hD hD' Hhq.out))
                  | (go_at_call 13; with_reducible exact ext_of (Region.Above_any o V F T rd wt K lk zo zV zF zT zr zw zK zl _ _ Hab2.out)))))
                refine wpQuiet_nil ?_
                intro w9 hw9
                obtain ⟨p9, rfl⟩ := hw9
                have h9 := ext_below X p9
                have H9 := Lib.hid (Hb.out.trans (h9.mono hsz))
                have F9 := Lib.hid (Hf.out.keep h9)
                clear h9 x0 x1 x2 x3 x4 x5 x6 x7 q0 q1 q2 q3 q4 y0 y1 y2 y3 y4 y5 y6 y7 heq
                go_wp2_with fail
                exact ⟨⟨k + 1, by omega, by go_num, F9.out, H9.out⟩, by simp [intOf]; omega⟩
              · have hl2 := Hlt2.out rfl rfl
                have hnl : ¬ k < bi := fun hh => by have := of_decide_eq_false hl2; omega
                repeat (go_big_quiet_step ((first
                  | (go_at_call 12; with_reducible exact ext_of (Region.Has_any o V F T rd wt K lk W2 r2 A S D _ _ hA hA' hD hD' Hhq.out))
                  | (go_at_call 13; with_reducible exact ext_of (Region.Above_any o V F T rd wt K lk zo zV zF zT zr zw zK zl _ _ Hab2.out)))))
                refine wpQuiet_nil ?_
                intro w9 hw9
                obtain ⟨p9, rfl⟩ := hw9
                have h9 := ext_below X p9
                have H9 := Lib.hid (Hb.out.trans (h9.mono hsz))
                have F9 := Lib.hid (Hf.out.keep h9)
                clear h9 hl2 x0 x1 x2 x3 x4 x5 x6 x7 q0 q1 q2 q3 q4 y0 y1 y2 y3 y4 y5 y6 y7 heq
                go_wp2_with fail
                all_goals first | (exfalso; omega) | exact ⟨⟨k + 1, by omega, by go_num, F9.out, H9.out⟩, by simp [intOf]; omega⟩
          · obtain rfl : k = n := by omega
            have Rk := Lib.hid (Hr.out.keep Hb.out)
            obtain ⟨b', off', hbo, cz⟩ := Rk.out.2 bi hbn
            rw [Hz.out] at cz
            subst hbo
            obtain ⟨f0, f1, f2, f3, f4, f5, f6, f7⟩ := cz
            go_wp2_with fail
            refine wp_region_ext (by kernel_rfl) (by kernel_rfl) ?_
            intro X hX
            obtain rfl := hX.out
            clear hX
            have y0 := ext_cell f0
            have y1 := ext_cell f1
            have y2 := ext_cell f2
            have y3 := ext_cell f3
            have y4 := ext_cell f4
            have y5 := ext_cell f5
            have y6 := ext_cell f6
            have y7 := ext_cell f7
            have q0 := ext_cell Hf.out.c0
            have q1 := ext_cell Hf.out.c1
            have q2 := ext_cell Hf.out.c2
            have q3 := ext_cell Hf.out.c3
            have q4 := ext_cell Hf.out.c4
            have HRk := Lib.hid (fun p => Rk.out.keep (ext_below X p))
            clear f0 f1 f2 f3 f4 f5 f6 f7
            repeat (go_big_quiet_step ((first
              | (go_at_call 12; with_reducible exact ext_of (Region.Has_any zo zV zF zT zr zw zK zl W2 r2 A S D _ _ hA hA' hD hD' HzH.out))
              | (go_at_call 14; with_reducible exact ext_of (Region.Lets_any zo zV zF zT zr zw zK zl W2 r2 A S D _ _ hA hA' hD hD' HzL.out))
              | (go_at_call 9; with_reducible exact ext_of (May_any _ k cap d W2 r2 A S D _ _ hn6 hc hA hA' hD hD' (HRk.out _) Hmb.out)))))
            refine wpQuiet_nil ?_
            intro w9 hw9
            obtain ⟨p9, rfl⟩ := hw9
            have h9 := ext_below X p9
            have H9 := Lib.hid (Hb.out.trans (h9.mono hsz))
            clear h9 q0 q1 q2 q3 q4 y0 y1 y2 y3 y4 y5 y6 y7
            go_wp2_with fail
            go_ret
            exact ⟨rfl, H9.out⟩
theorem maps_walk (a : Option Addr) (n cap : Nat) (d : List Rg) (W2 : Int) (r2 : Bool) (A S D : Int) (V2 : Int) (w : World) (h : RowG w a n d) (hno : a = none → n = 0 ∧ cap = 0) (hc : n ≤ cap) (hm : n ≤ maxLen) (hW2 : (Lit.int .i64 W2).wf = true) (hA : (Lit.int .u32 A).wf = true) (hS : (Lit.int .i64 S).wf = true) (hD : (Lit.int .u32 D).wf = true) (hV : (Lit.int .i64 V2).wf = true) :
    Calls Try.prog 3 #[.slice a n cap, acc W2 r2 A S D, .int .i64 V2] w fun e w' => e = .returned (.bool true) ∧ Below w.heap.size w w' := by
  have ba := bounds_u32 hA
  have bd := bounds_u32 hD
  by_cases hn : n ≤ 100
  · exact maps_core a n cap d W2 r2 A S D V2 w hn hc (by omega) (by omega) (by omega) (by omega) h
  · have d1 : decide ((100 : Int) < (n : Int)) = true := decide_eq_true (by omega)
    have H0 := Lib.hid ((Below.refl w.heap.size w).alloc (Nat.le_refl _) (.cells #[.int .i64 W2, .bool r2, .int .u32 A, .int .i64 S, .int .u32 D] 25))
    clear ba bd hW2 hA hS hD hV hm hno h hc
    go_enter Try.func3, Try.ntmps3
    go_wp2_with fail
    refine (awake_any _).mono ?_
    rintro e w1 ⟨rfl, hb1⟩
    have B1 := Lib.hid (H0.out.trans (hb1.mono H0.out.size))
    clear hb1
    go_wp2_with fail
    go_ret
    exact ⟨rfl, B1.out⟩
end Go.Proofs.Ytmkponhhinjpkaa.Table
