/- The walk of TableKeeps, where nothing is told: Set and Clear refuse alike. -/
import Derived.Test.YtmkponhhinjpkaaTs
import Derived.Test.YtmkponhhinjpkaaTv
namespace Go.Proofs.Ytmkponhhinjpkaa.Table
open Go.RowKit Fifo Go.Maps Go.ChangeShapes Go.WideShapes Go.ChangeAt Go.Proofs.Ytmkponhhinjpkaa.Access
set_option linter.unusedVariables false

set_option maxRecDepth 100000 in
set_option maxHeartbeats 4000000 in
theorem keeps_shut (a : Option Addr) (n cap : Nat) (d : List Rg) (m : Int) (o : Bool) (W F T : Int) (rd wt : Bool) (K : Int) (lk : Bool) (V : Int) (x : Int) (w : World) (hn : n ≤ 100) (hc : n ≤ cap) (hno : a = none → cap = 0) (h : RowG w a n d) (hx : openE d m = x) (h0 : (x == 0) = false) :
    Calls Try.prog 4 #[.slice a n cap, .int .i64 m, Region.reg o W F T rd wt K lk, .int .i64 V] w fun e w' => e = .returned (.bool true) ∧ Below w.heap.size w w' := by
  have d1 : decide ((100 : Int) < (n : Int)) = false := decide_eq_false (by omega)
  have hn6 : n ≤ 1000000 := by omega
  have x0 : x ≠ 0 := by simpa using h0
  have hs : setE d m ⟨o, W, F, T, rd, wt, K, lk⟩ = x := by unfold setE; rw [if_neg (by rw [hx]; exact x0)]; exact hx
  have hl : setR d m ⟨o, W, F, T, rd, wt, K, lk⟩ = [] := by unfold setR; rw [if_neg (by rw [hs]; exact x0)]
  have hcl : clrR d m = [] := by unfold clrR; rw [if_neg (by rw [hx]; exact x0)]
  have Hr := Lib.hid h
  have Hx := Lib.hid hx
  have Hs := Lib.hid hs
  have Hl := Lib.hid hl
  have Hcl := Lib.hid hcl
  have Hno := Lib.hid hno
  have h0' : (x != 0) = true := by rw [bne, h0]; rfl
  obtain ⟨b0, hb0⟩ : ∃ b0, w.heap.size = b0 := ⟨_, rfl⟩
  have h8 := Region.eight_new w o W F T rd wt K lk 36
  rw [hb0] at h8
  have H8 := Lib.hid h8
  have H0 := Lib.hid ((Below.refl w.heap.size w).alloc (Nat.le_refl _) (.cells #[.bool o, .int .i64 W, .int .u32 F, .int .u32 T, .bool rd, .bool wt, .int .i64 K, .bool lk] 36))
  clear h hx hs hl hcl hno x0 h8
  go_enter Try.func4, Try.ntmps4
  go_wp2_with fail
  refine (awake_any _).mono ?_
  rintro e w1 ⟨rfl, hb1⟩
  have B1 := Lib.hid (H0.out.trans (hb1.mono H0.out.size))
  have F1 := Lib.hid (H8.out.keep hb1)
  clear hb1 H0 H8 hb0
  obtain ⟨c0, c1, c2, c3, c4, c5, c6, c7⟩ := F1.out
  go_wp2_with fail
  refine (Set_any a n cap d m o W F T rd wt K lk x [] _ hn6 hc (Hr.out.keep B1.out) Hs.out Hl.out).mono ?_
  rintro e w2 ⟨v2, rfl, hv2, hb2⟩
  obtain ⟨a2, k2, rfl, _, _⟩ := ok_shape hv2
  have B2 := Lib.hid (B1.out.trans (hb2.mono B1.out.size))
  have F2 := Lib.hid (F1.out.keep hb2)
  clear hb2 hv2 B1 F1 c0 c1 c2 c3 c4 c5 c6 c7
  simp only [List.length_nil]
  go_wp2_with fail
  refine (Clear_any a n cap d m x [] _ hn6 hc (Hr.out.keep B2.out) Hno.out Hx.out Hcl.out).mono ?_
  rintro e w3 ⟨v3, rfl, hv3, hb3⟩
  obtain ⟨a3, k3, rfl, _, _⟩ := ok_shape hv3
  have B3 := Lib.hid (B2.out.trans (hb3.mono B2.out.size))
  clear hb3 hv3 B2 F2
  simp only [List.length_nil]
  go_wp2_with fail
  have hxx : (x == x) = true := by simp
  refine wp_region_ext (by kernel_rfl) (by kernel_rfl) ?_
  intro X hX
  obtain rfl := hX.out
  clear hX
  repeat (go_big_quiet_step (fail))
  refine wpQuiet_nil ?_
  intro w9 hw9
  obtain ⟨p9, rfl⟩ := hw9
  have B4 := Lib.hid (B3.out.trans ((ext_below X p9).mono B3.out.size))
  clear B3
  go_wp2_with fail
  repeat (first
    | (refine wp_region_ext (by kernel_rfl) (by kernel_rfl) ?_
       intro Y hY
       have B5 := Lib.hid (show Below w.heap.size w Y by rw [hY.out]; exact B4.out)
       clear hY
       repeat (go_big_quiet_step (fail))
       refine wpQuiet_nil ?_
       intro w9 hw9
       obtain ⟨p9, rfl⟩ := hw9
       have B4 := Lib.hid (B5.out.trans ((ext_below Y p9).mono B5.out.size))
       clear B5
       go_wp2_with fail))
  go_ret
  exact ⟨rfl, B4.out⟩

set_option maxRecDepth 100000 in
set_option maxHeartbeats 4000000 in
theorem keeps_some (a : Option Addr) (n cap : Nat) (d : List Rg) (k : Nat) (o : Bool) (W F T : Int) (rd wt : Bool) (K : Int) (lk : Bool) (V : Int) (y : Int) (w : World) (hn : n ≤ 100) (hc : n ≤ cap) (hno : a = none → cap = 0) (h : RowG w a n d) (hx : openE d (k : Nat) = 0) (hs : setE d (k : Nat) ⟨o, W, F, T, rd, wt, K, lk⟩ = y) (hy : y = 4 ∨ y = 13) :
    Calls Try.prog 4 #[.slice a n cap, .int .i64 k, Region.reg o W F T rd wt K lk, .int .i64 V] w fun e w' => e = .returned (.bool true) ∧ Below w.heap.size w w' := by
  have d1 : decide ((100 : Int) < (n : Int)) = false := decide_eq_false (by omega)
  have hn6 : n ≤ 1000000 := by omega
  have h0 : (y == 0) = false := by rcases hy with rfl | rfl <;> rfl
  have h0' : (y != 0) = true := by rw [bne, h0]; rfl
  obtain ⟨q4, hq4⟩ : ∃ q, (y == 4) = q := ⟨_, rfl⟩
  have h13 : q4 = false → (y == 13) = true := fun hh => hy.elim (fun h => by rw [h, hh] at hq4; exact absurd hq4 (by decide)) (fun h => by rw [h]; rfl)
  have y0 : y ≠ 0 := by simpa using h0
  have hl : setR d (k : Nat) ⟨o, W, F, T, rd, wt, K, lk⟩ = [] := by unfold setR; rw [if_neg (by rw [hs]; exact y0)]
  have hcl : clrR d (k : Nat) = clrL d k := by unfold clrR; rw [if_pos hx]; rfl
  have htab : tabB (clrL d k) = true := tabB_iff.2 (clrL_tab (open_ok hx).1)
  have hz : (clrL d k)[k]! = zero := by rw [clrL_get, if_pos rfl]
  have hlen : (clrL d k).length = n := by unfold clrL; rw [List.length_set]; exact h.1
  have Hr := Lib.hid h
  have Hx := Lib.hid hx
  have Hs := Lib.hid hs
  have Hl := Lib.hid hl
  have Hcl := Lib.hid hcl
  have Hno := Lib.hid hno
  have Htab := Lib.hid htab
  have Hz := Lib.hid hz
  have H13 := Lib.hid h13
  have Hlen := Lib.hid hlen
  obtain ⟨b0, hb0⟩ : ∃ b0, w.heap.size = b0 := ⟨_, rfl⟩
  have h8 := Region.eight_new w o W F T rd wt K lk 36
  rw [hb0] at h8
  have H8 := Lib.hid h8
  have H0 := Lib.hid ((Below.refl w.heap.size w).alloc (Nat.le_refl _) (.cells #[.bool o, .int .i64 W, .int .u32 F, .int .u32 T, .bool rd, .bool wt, .int .i64 K, .bool lk] 36))
  clear h hx hs hl hcl hno y0 h8 hy htab hz h13 hlen
  go_enter Try.func4, Try.ntmps4
  go_wp2_with fail
  refine (awake_any _).mono ?_
  rintro e w1 ⟨rfl, hb1⟩
  have B1 := Lib.hid (H0.out.trans (hb1.mono H0.out.size))
  have F1 := Lib.hid (H8.out.keep hb1)
  clear hb1 H0 H8 hb0
  obtain ⟨c0, c1, c2, c3, c4, c5, c6, c7⟩ := F1.out
  go_wp2_with fail
  refine (Set_any a n cap d k o W F T rd wt K lk y [] _ hn6 hc (Hr.out.keep B1.out) Hs.out Hl.out).mono ?_
  rintro e w2 ⟨v2, rfl, hv2, hb2⟩
  obtain ⟨a2, k2, rfl, _, _⟩ := ok_shape hv2
  have B2 := Lib.hid (B1.out.trans (hb2.mono B1.out.size))
  have F2 := Lib.hid (F1.out.keep hb2)
  clear hb2 hv2 B1 F1 c0 c1 c2 c3 c4 c5 c6 c7
  simp only [List.length_nil]
  go_wp2_with fail
  refine (Clear_any a n cap d k 0 (clrL d k) _ hn6 hc (Hr.out.keep B2.out) Hno.out Hx.out Hcl.out).mono ?_
  rintro e w3 ⟨v3, rfl, hv3, hb3⟩
  rw [Hlen.out] at hv3
  obtain ⟨a3, k3, rfl, hk3, _⟩ := ok_shape hv3
  have B3 := Lib.hid (B2.out.trans (hb3.mono B2.out.size))
  have hrow := rowG_of_own Hlen.out hv3
  have Hw := Lib.hid hrow
  clear hb3 hv3 B2 F2 hrow
  have i1 : (0 : Int) ≤ (k : Int) := by omega
  obtain ⟨kn, hkn⟩ : ∃ kn, decide ((k : Int) < (n : Int)) = kn := ⟨_, rfl⟩
  have hkn2 : decide (k < n) = kn := by rw [← hkn]; simp
  go_wp2_with fail
  refine wp_region_ext (by kernel_rfl) (by kernel_rfl) ?_
  intro X hX
  obtain rfl := hX.out
  clear hX
  have HWX := Lib.hid (fun p => Hw.out.keep (ext_below X p))
  cases kn with
  | false =>
    repeat (go_big_quiet_step ((go_at_call 7; with_reducible exact ext_of (Right_any a3 n k3 (clrL d k) true _ hn6 hk3 (HWX.out _) Htab.out))))
    refine wpQuiet_nil ?_
    intro w9 hw9
    obtain ⟨p9, rfl⟩ := hw9
    have B4 := Lib.hid (B3.out.trans ((ext_below X p9).mono B3.out.size))
    clear B3 HWX
    have h13 := H13.out
    go_wp2_with fail
    all_goals (go_ret; exact ⟨rfl, B4.out⟩)
  | true =>
    have hlt : k < n := of_decide_eq_true hkn2
    obtain ⟨b, off, rfl, ce⟩ := Hw.out.2 k hlt
    rw [Hz.out] at ce
    have ce : At8 _ b (off + k * 8) ⟨false, 0, 0, 0, false, false, 0, false⟩ := ce
    have i2 : (k : Int) < (n : Int) := by omega
    obtain ⟨e0, e1, e2, e3, e4, e5, e6, e7⟩ := ce
    have x0 := ext_cell e0
    have x1 := ext_cell e1
    have x2 := ext_cell e2
    have x3 := ext_cell e3
    have x4 := ext_cell e4
    have x5 := ext_cell e5
    have x6 := ext_cell e6
    have x7 := ext_cell e7
    clear e0 e1 e2 e3 e4 e5 e6 e7
    repeat (go_big_quiet_step ((go_at_call 7; with_reducible exact ext_of (Right_any _ n k3 (clrL d k) true _ hn6 hk3 (HWX.out _) Htab.out))))
    refine wpQuiet_nil ?_
    intro w9 hw9
    obtain ⟨p9, rfl⟩ := hw9
    have B4 := Lib.hid (B3.out.trans ((ext_below X p9).mono B3.out.size))
    clear B3 HWX x0 x1 x2 x3 x4 x5 x6 x7
    have h13 := H13.out
    go_wp2_with fail
    all_goals (go_ret; exact ⟨rfl, B4.out⟩)
end Go.Proofs.Ytmkponhhinjpkaa.Table
