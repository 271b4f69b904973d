/- The document's table: Set. -/
import Derived.Test.YtmkponhhinjpkaaGreatUb
namespace Go.Proofs.YtmkponhhinjpkaaGreat.Table
open Go.RowKit Fifo Go.Maps Go.ChangeShapes Go.WideShapes Go.ChangeAt
open Go.Proofs.YtmkponhhinjpkaaGreat.Orow (own_keep own_only own_mono own_blk own_lt own_shape own_put own_pos own_none own_some blk_own ba_self ba_some BA pb_ba)
open Go.Proofs.YtmkponhhinjpkaaGreat.Region (Eight eight_new)
set_option linter.unusedVariables false

set_option maxRecDepth 100000 in
set_option maxHeartbeats 1000000 in
theorem tSet_err (a : Option Addr) (n cap : Nat) (d : List Rg) (m : Int) (o : Bool) (W F T : Int) (rd wt : Bool) (K : Int) (lk : Bool) (x : Int) (w : World) (hn : n ≤ 1000000) (h : RowG w a n d) (hx : openE d m = x) (h0 : x ≠ 0) :
    Calls Tryz.prog 33 #[.slice a n cap, .int .i64 m, Region.reg o W F T rd wt K lk] w fun e w' => e = .returned (.tuple #[.slice none 0 0, .int .i64 x]) ∧ Below w.heap.size w w' := by
  have HB := Lib.hid ((Below.refl w.heap.size w).alloc (Nat.le_refl _) (.cells #[.bool o, .int .i64 W, .int .u32 F, .int .u32 T, .bool rd, .bool wt, .int .i64 K, .bool lk] 37))
  have O := Lib.hid (tPlace_err a n cap d m x _ hn (h.keep HB.out) hx h0)
  have hq : (x != 0) = true := by simpa using h0
  clear h hx h0
  go_enter Tryz.func33, Tryz.ntmps33
  go_wp2_with fail
  refine O.out.mono ?_
  rintro e w1 ⟨rfl, hb1⟩
  have Hb1 := Lib.hid (HB.out.trans (hb1.mono HB.out.size))
  clear hb1 O
  go_wp2_with fail
  go_ret2
  exact ⟨rfl, Hb1.out⟩
/-- A slice's length. -/
def lenV : Value → Nat
  | .slice _ n _ => n
  | _ => 0
/-- The table widened to j places. -/
def padL (d : List Rg) (j : Nat) : List Rg := d ++ List.replicate (j - d.length) zero
theorem padL_len {d : List Rg} {j : Nat} (h : d.length ≤ j) : (padL d j).length = j := by unfold padL; simp; omega
theorem padL_step {d : List Rg} {j : Nat} (h : d.length ≤ j) : padL d (j + 1) = padL d j ++ [zero] := by
  unfold padL
  rw [show j + 1 - d.length = (j - d.length) + 1 by omega, List.replicate_succ', List.append_assoc]
theorem padL_self (d : List Rg) : padL d d.length = d := by unfold padL; simp
theorem padL_get (d : List Rg) (j i : Nat) : (padL d j)[i]! = d[i]! := get_pad d _ i
theorem setL_pad (d : List Rg) (k : Nat) (r : Rg) : setL d k r = (padL d (max d.length (k + 1))).set k r := by
  unfold setL padL
  rw [show max d.length (k + 1) - d.length = k + 1 - d.length by omega]
set_option maxRecDepth 100000 in
set_option maxHeartbeats 4000000 in
theorem tSet_core (a : Option Addr) (n cap : Nat) (d : List Rg) (k : Nat) (o : Bool) (W F T : Int) (rd wt : Bool) (K : Int) (lk : Bool) (q c : Bool) (w : World) (hn : n ≤ 1000000) (h : RowG w a n d) (hno : a = none → cap = 0) (hx : openE d (k : Nat) = 0)
    (hq : Region.regB o W F T rd wt K lk = q) (hc : clB d ⟨o, W, F, T, rd, wt, K, lk⟩ k = c) :
    Calls Tryz.prog 33 #[.slice a n cap, .int .i64 (k : Nat), Region.reg o W F T rd wt K lk] w fun e w' => Below w.heap.size w w' ∧ SetPost o q c (setL d k ⟨o, W, F, T, rd, wt, K, lk⟩) w.heap.size e w' := by
  obtain ⟨i0, hi, hz0, hz1, hz2⟩ := info_parts info_g2
  have Hi := Lib.hid hi
  have Hz0 := Lib.hid hz0
  have Hz1 := Lib.hid hz1
  have Hz2 := Lib.hid hz2
  have hk32 : k < 32 := by have := (open_ok hx).2.2.1; omega
  have hdl : d.length = n := h.1
  have HB := Lib.hid ((Below.refl w.heap.size w).alloc (Nat.le_refl _) (.cells #[.bool o, .int .i64 W, .int .u32 F, .int .u32 T, .bool rd, .bool wt, .int .i64 K, .bool lk] 37))
  have O := Lib.hid (tPlace_ok a n cap d k _ hn (h.keep HB.out) hno hx)
  obtain ⟨g, hg⟩ : ∃ g, w.heap.size = g := ⟨_, rfl⟩
  have h8 := eight_new w o W F T rd wt K lk 37
  rw [hg] at h8
  have H8 := Lib.hid h8
  have Hg := Lib.hid hg
  have HQ := Lib.hid hq
  have HC := Lib.hid hc
  have i1 : (0 : Int) ≤ (k : Int) := by omega
  clear hi hz0 hz1 hz2 h hno hx hq hc h8
  go_enter Tryz.func33, Tryz.ntmps33
  go_wp2_with fail
  refine O.out.mono ?_
  rintro e w1 ⟨v, rfl, hv, hb1⟩
  have Hb1 := Lib.hid (HB.out.trans (hb1.mono HB.out.size))
  have HV := Lib.hid (show w1.ownsRow (g + 1) 37 8 v n (flG d) from own_mono hv (by rw [World.size_alloc, Hg.out]; exact Nat.le_refl _))
  have F1 := Lib.hid (H8.out.keep hb1)
  obtain ⟨av, cv, rfl, _⟩ := own_shape hv
  have hs1 : g < w1.heap.size := by have := hb1.size; rw [World.size_alloc, Hg.out] at this; omega
  clear hb1 O hv HB H8 hg
  obtain ⟨e0, e1, e2, e3, e4, e5, e6, e7⟩ := F1.out
  cases o with
  | false =>
    go_wp2_with fail
    go_ret2
    exact ⟨Hb1.out, .inl ⟨rfl, rfl⟩⟩
  | true =>
  go_wp2_with fail
  refine (Region.rRight_any true W F T rd wt K lk q _ HQ.out).mono ?_
  rintro e w2 ⟨rfl, hb2⟩
  have Hb2 := Lib.hid (Hb1.out.trans (hb2.mono Hb1.out.size))
  have HV2 := Lib.hid (own_keep HV.out hb2)
  have F2 := Lib.hid (F1.out.keep hb2)
  have hs2 : g < w2.heap.size := by have := hb2.size; omega
  clear hb2 HV F1 Hb1 hs1 e0 e1 e2 e3 e4 e5 e6 e7
  cases q with
  | false =>
    go_wp2_with fail
    go_ret2
    exact ⟨Hb2.out, .inl ⟨rfl, rfl⟩⟩
  | true =>
  go_wp2_with fail
  go_loopw [8] (fun v wr => ∃ j : Nat, n ≤ j ∧ j ≤ max n (k + 1) ∧ wr.ownsRow (g + 1) 37 8 v j (flG (padL d j)) ∧ Eight wr g true W F T rd wt K lk ∧ g < wr.heap.size ∧ Below w.heap.size w wr) (fun v _ => max n (k + 1) - lenV v)
  case atStart => exact ⟨n, Nat.le_refl _, by omega, by rw [← hdl, padL_self, hdl]; exact HV2.out, F2.out, hs2, Hb2.out⟩
  case round =>
  obtain ⟨j, hj1, hj2, hown, hf, hsg, hb⟩ := hrel
  obtain ⟨aj, cj, rfl, _⟩ := own_shape hown
  have HO := Lib.hid hown
  have HF := Lib.hid hf
  have Hb := Lib.hid hb
  clear hown hf hb
  by_cases hlt : j ≤ k
  · have d1 : decide ((j : Int) ≤ (k : Int)) = true := decide_eq_true (by omega)
    go_wp2_with (at_builtin; refine wpList_append_own _ rfl _ _ 22 rfl (g + 1) 37 i0 (.agg #[.bool false, .int .i64 0, .int .u32 0, .int .u32 0, .bool false, .bool false, .int .i64 0, .bool false]) 8 48 Tryz.underlying22 Hi.out Hz0.out Hz1.out Hz2.out rfl (by decide) (.slice aj j cj) j (flG (padL d j)) rfl (HO.out.alloc _) ⟨wr.heap.size, 0, none⟩ 1 1 [.bool false, .int .i64 0, .int .u32 0, .int .u32 0, .bool false, .bool false, .int .i64 0, .bool false] rfl rfl (Orow.cells_new _ _ _) (by simp [Value.oneCell']) (by unfold maxLen; omega) (by omega) (by simp; omega) ?_; intro v' w5 r1 r2 _; have R1 := Lib.hid r1; have R2 := Lib.hid r2; obtain ⟨a5, c5, hv5, _⟩ := own_shape r1; subst hv5; clear r1 r2)
    have hon : Only (PB (.slice aj j cj)) wr w5 := (Only.of_below ((Below.refl _ _).alloc (Nat.le_refl _) _)).trans (Orow.grown_only R2.out)
    have hng : ¬ PB (.slice aj j cj) g := fun hp => by have := (HO.out.lt g hp).1; omega
    refine ⟨⟨j + 1, by omega, by omega, ?_, ⟨Orow.only_cell hon hng HF.out.c0, Orow.only_cell hon hng HF.out.c1, Orow.only_cell hon hng HF.out.c2, Orow.only_cell hon hng HF.out.c3, Orow.only_cell hon hng HF.out.c4, Orow.only_cell hon hng HF.out.c5, Orow.only_cell hon hng HF.out.c6, Orow.only_cell hon hng HF.out.c7⟩, Nat.lt_of_lt_of_le hsg hon.size, Hb.out.trans (hon.below Hb.out.size (fun i hi => by have := (HO.out.lt i hi).1; have := Hg.out; omega))⟩, by simp [lenV]; omega⟩
    rw [padL_step (by omega), flG_snoc]
    exact R1.out
  · obtain ⟨N, hN⟩ : ∃ N, max n (k + 1) = N := ⟨_, rfl⟩
    have HN := Lib.hid hN
    have hjN : j = N := by omega
    subst hjN
    have d1 : decide ((j : Int) ≤ (k : Int)) = false := decide_eq_false (by omega)
    have hkj : k < j := by omega
    have hj6 : j ≤ 1000100 := by omega
    obtain ⟨v2, rfl⟩ : ∃ W : World, W = wr := ⟨_, rfl⟩
    have HR := Lib.hid (rowG_of_own (padL_len (by omega)) HO.out)
    clear hN HN
    go_wp2_with fail
    go_loopw [10] (fun i wr => ∃ t : Nat, t ≤ j ∧ i = .int .i64 t ∧ Hid (∀ s, s < t → s ≠ k → clash d[s]! ⟨true, W, F, T, rd, wt, K, lk⟩ = false) ∧ Below v2.heap.size v2 wr) (fun i _ => j - (intOf i).toNat)
    case atStart => exact ⟨0, Nat.zero_le _, rfl, Lib.hid (fun s hs => by omega), Below.refl _ _⟩
    case round =>
    obtain ⟨t, ht, rfl, hno, hb⟩ := hrel
    have Hb3 := Lib.hid hb
    have hs3 := hb.size
    clear hb
    by_cases hlt2 : t < j
    · have t1 : (0 : Int) ≤ (t : Int) := by omega
      have t2 : (t : Int) < (j : Int) := by omega
      by_cases htk : t = k
      · have t3 : ((t : Int) != (k : Int)) = false := by rw [htk]; simp
        have Htk := Lib.hid htk
        clear htk
        go_wp2_with fail
        refine wp_region_ext (by kernel_rfl) (by kernel_rfl) ?_
        intro Y hY
        obtain rfl := hY.out
        clear hY
        repeat (go_big_quiet_step (fail))
        refine wpQuiet_nil ?_
        intro w9 hw9
        have h9 : Below Y.heap.size Y w9 := by obtain ⟨p9, rfl⟩ := hw9; exact ext_below Y p9
        have H9 := Lib.hid (Hb3.out.trans (h9.mono hs3))
        clear hw9 h9 t3
        go_wp2_with fail
        refine ⟨⟨t + 1, by omega, by go_num, Lib.hid (fun s hs hsk => ?_), H9.out⟩, by simp [intOf]; omega⟩
        exact hno.out s (by have := Htk.out; omega) hsk
      · have t3 : ((t : Int) != (k : Int)) = true := by simp; omega
        obtain ⟨b, off, rfl, ce⟩ := HR.out.2 t hlt2
        rw [padL_get] at ce
        have ce := ce.keep Hb3.out
        obtain ⟨x, hxx⟩ : ∃ x, d[t]! = x := ⟨_, rfl⟩
        rw [hxx] at ce
        have Hxx := Lib.hid hxx
        clear hxx
        obtain ⟨xo, xW, xF, xT, xr, xw, xK, xl⟩ := x
        obtain ⟨c2, hc2⟩ : ∃ c2, clash ⟨xo, xW, xF, xT, xr, xw, xK, xl⟩ ⟨true, W, F, T, rd, wt, K, lk⟩ = c2 := ⟨_, rfl⟩
        have HC2 := Lib.hid (show Region.clashV xo xW xF xT xK true W F T K = c2 from hc2)
        have HC2d := Lib.hid hc2
        clear hc2
        obtain ⟨e0, e1, e2, e3, e4, e5, e6, e7⟩ := ce
        have F3 := HF.out.keep Hb3.out
        have Htk := Lib.hid htk
        clear htk
        go_wp2_with fail
        refine wp_region_ext (by kernel_rfl) (by kernel_rfl) ?_
        intro Y hY
        obtain rfl := hY.out
        clear hY
        have x0 := ext_cell e0
        have x1 := ext_cell e1
        have x2 := ext_cell e2
        have x3 := ext_cell e3
        have x4 := ext_cell e4
        have x5 := ext_cell e5
        have x6 := ext_cell e6
        have x7 := ext_cell e7
        have y0 := ext_cell F3.c0
        have y1 := ext_cell F3.c1
        have y2 := ext_cell F3.c2
        have y3 := ext_cell F3.c3
        have y4 := ext_cell F3.c4
        have y5 := ext_cell F3.c5
        have y6 := ext_cell F3.c6
        have y7 := ext_cell F3.c7
        clear F3 e0 e1 e2 e3 e4 e5 e6 e7
        repeat (go_big_quiet_step ((go_at_call 51; with_reducible exact ext_of (Region.rClash_any xo xW xF xT xr xw xK xl true W F T rd wt K lk c2 _ HC2.out))))
        refine wpQuiet_nil ?_
        intro w9 hw9
        have h9 : Below Y.heap.size Y w9 := by obtain ⟨p9, rfl⟩ := hw9; exact ext_below Y p9
        have H9 := Lib.hid (Hb3.out.trans (h9.mono hs3))
        clear hw9 h9 t3 x0 x1 x2 x3 x4 x5 x6 x7 y0 y1 y2 y3 y4 y5 y6 y7
        cases c2
        · go_wp2_with fail
          refine ⟨⟨t + 1, by omega, by go_num, Lib.hid (fun s hs hsk => ?_), H9.out⟩, by simp [intOf]; omega⟩
          by_cases e : s = t
          · subst e; rw [Hxx.out]; exact HC2d.out
          · exact hno.out s (by omega) hsk
        · go_wp2_with fail
          go_ret2
          have htn : t < n := by
            refine Nat.lt_of_not_le fun hle => ?_
            have e1 := Hxx.out
            rw [get_out (by omega)] at e1
            have e2 := HC2d.out
            rw [← e1, clash_comm, clash_zero] at e2
            cases e2
          have hcy : clB d ⟨true, W, F, T, rd, wt, K, lk⟩ k = true := clB_yes (k := t) (by omega) (by have := Htk.out; omega) (by rw [clash_comm, Hxx.out]; exact HC2d.out)
          have hct : c = true := HC.out.symm.trans hcy
          exact ⟨Hb.out.trans (H9.out.mono Hb.out.size), .inr (.inl ⟨rfl, hct, rfl⟩)⟩
    · obtain rfl : t = j := by omega
      have hcn : clB d ⟨true, W, F, T, rd, wt, K, lk⟩ k = false := clB_no (fun s hs hsk => by rw [clash_comm]; exact hno.out s (by omega) (by omega))
      have hcf : c = false := HC.out.symm.trans hcn
      have HO3 := Lib.hid (own_keep HO.out Hb3.out)
      have Hb4 := Lib.hid (Hb.out.trans (Hb3.out.mono Hb.out.size))
      obtain ⟨gj, rfl⟩ := own_some HO3.out (.inl (by omega))
      obtain ⟨e0, e1, e2, e3, e4, e5, e6, e7⟩ := HF.out.keep Hb3.out
      have t2 : (k : Int) < (t : Int) := by omega
      clear HR hno hcn
      go_wp2_with (with_reducible refine Orow.at_store _ _ _ rfl ?_)
      apply Lib.hid
      obtain ⟨cur, u1, u2, u3, u4, u5, u6⟩ := own_blk HO3.out
      have hfit : k * 8 + 8 ≤ cur.length := by omega
      refine Orow.store_at rfl _ _ _ rfl gj (k * 8) [.bool true, .int .i64 W, .int .u32 F, .int .u32 T, .bool rd, .bool wt, .int .i64 K, .bool lk] rfl rfl 37 cur u1 (by kernel_rfl) (by simpa using hfit) (by simp [Value.oneCell']) ?_
      intro Y hY hoY
      have hrow2 := own_put HO3.out u1 hkj rfl hY
      rw [show [.bool true, .int .i64 W, .int .u32 F, .int .u32 T, .bool rd, .bool wt, .int .i64 K, .bool lk] = encG ⟨true, W, F, T, rd, wt, K, lk⟩ from rfl] at hrow2
      have e8 : (encG ⟨true, W, F, T, rd, wt, K, lk⟩).length = 8 := rfl
      rw [e8, flG_put (by rw [padL_len (by omega)]; exact hkj)] at hrow2
      have R2 := Lib.hid (own_mono hrow2 (show w.heap.size ≤ g + 1 by have := Hg.out; omega))
      have B2 := Lib.hid (Hb4.out.trans (hoY.below Hb4.out.size (fun i hi => by rw [hi]; have := Hg.out; omega)))
      clear hY hoY hrow2 u1 u2 u3 e0 e1 e2 e3 e4 e5 e6 e7
      go_wp2_with fail
      go_ret2
      refine ⟨B2.out, .inr (.inr ⟨rfl, hcf, _, rfl, ?_⟩)⟩
      have e1 : setL d k ⟨true, W, F, T, rd, wt, K, lk⟩ = (padL d t).set k ⟨true, W, F, T, rd, wt, K, lk⟩ := by rw [setL_pad, hdl]; congr 2; omega
      have e2 : ((padL d t).set k ⟨true, W, F, T, rd, wt, K, lk⟩).length = t := by rw [List.length_set]; exact padL_len (by omega)
      rw [e1, e2]
      exact R2.out
theorem tSet_any (a : Option Addr) (n cap : Nat) (d : List Rg) (m : Int) (o : Bool) (W F T : Int) (rd wt : Bool) (K : Int) (lk : Bool) (x : Int) (L : List Rg) (w : World) (hn : n ≤ 1000000) (h : RowG w a n d) (hno : a = none → cap = 0) (hx : setE d m ⟨o, W, F, T, rd, wt, K, lk⟩ = x) (hL : setR d m ⟨o, W, F, T, rd, wt, K, lk⟩ = L) :
    Calls Tryz.prog 33 #[.slice a n cap, .int .i64 m, Region.reg o W F T rd wt K lk] w fun e w' => ∃ v, e = .returned (.tuple #[v, .int .i64 x]) ∧ w'.ownsRow w.heap.size 37 8 v L.length (flG L) ∧ Below w.heap.size w w' := by
  subst hL
  by_cases h0 : openE d m = 0
  · obtain ⟨k, rfl⟩ := Int.eq_ofNat_of_zero_le (open_ok h0).2.1
    refine (tSet_core a n cap d k o W F T rd wt K lk _ _ w hn h hno h0 rfl rfl).mono ?_
    rintro e w' ⟨hb, ⟨h1, rfl⟩ | ⟨h1, h2, rfl⟩ | ⟨h1, h2, v, rfl, hv⟩⟩
    · have e4 : setE d (k : Nat) ⟨o, W, F, T, rd, wt, K, lk⟩ = 4 := by unfold setE; rw [if_pos h0, if_neg (by show ¬ (o && Region.regB o W F T rd wt K lk) = true; rw [h1]; simp)]
      rw [e4] at hx; subst hx
      refine ⟨_, rfl, ?_, hb⟩
      unfold setR; rw [e4]
      exact ⟨rfl, .inl ⟨rfl, rfl⟩⟩
    · have e13 : setE d (k : Nat) ⟨o, W, F, T, rd, wt, K, lk⟩ = 13 := by unfold setE; rw [if_pos h0]; exact (if_pos h1).trans (if_pos h2)
      rw [e13] at hx; subst hx
      refine ⟨_, rfl, ?_, hb⟩
      unfold setR; rw [e13]
      exact ⟨rfl, .inl ⟨rfl, rfl⟩⟩
    · have e0 : setE d (k : Nat) ⟨o, W, F, T, rd, wt, K, lk⟩ = 0 := by unfold setE; rw [if_pos h0]; exact (if_pos h1).trans (if_neg (by rw [h2]; simp))
      rw [e0] at hx; subst hx
      refine ⟨_, rfl, ?_, hb⟩
      unfold setR; rw [if_pos e0]
      exact hv
  · have e : setE d m ⟨o, W, F, T, rd, wt, K, lk⟩ = openE d m := by unfold setE; rw [if_neg h0]
    have hx0 : x ≠ 0 := by rw [← hx, e]; exact h0
    refine (tSet_err a n cap d m o W F T rd wt K lk x w hn h (e.symm.trans hx) hx0).mono ?_
    rintro e' w' ⟨rfl, hb⟩
    refine ⟨_, rfl, ?_, hb⟩
    unfold setR; rw [if_neg (by rw [hx]; exact hx0)]
    exact ⟨rfl, .inl ⟨rfl, rfl⟩⟩
end Go.Proofs.YtmkponhhinjpkaaGreat.Table
