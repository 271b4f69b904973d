/- The walk of TableAsks. -/
import Derived.Test.YtmkponhhinjpkaaGreatUe
import Derived.Test.YtmkponhhinjpkaaGreatTs
import Derived.Deep.RegionHeld3
namespace Go.Proofs.YtmkponhhinjpkaaGreat.Table
open Go.RowKit Fifo Go.Maps Go.ChangeShapes Go.WideShapes Go.ChangeAt Go.Proofs.YtmkponhhinjpkaaGreat.Access
open Go.Proofs.YtmkponhhinjpkaaGreat.Orow (own_keep own_only own_mono own_blk own_lt own_shape own_put own_pos own_none own_some blk_own own_prefix ba_self ba_some BA pb_ba)
open Go.Proofs.YtmkponhhinjpkaaGreat.Region (Eight eight_new)
set_option linter.unusedVariables false

set_option maxRecDepth 100000 in
set_option maxHeartbeats 4000000 in
theorem tasks_core (a : Option Addr) (n cap : Nat) (d : List Rg) (W2 : Int) (r2 : Bool) (A S D : Int) (V : Int) (w : World) (hn : n ≤ 100) (hno : a = none → n = 0 ∧ cap = 0) (hA : 0 ≤ A) (hA' : A < 4294967296) (hD : 0 ≤ D) (hD' : D < 4294967296) (h : RowG w a n d) :
    Calls Tryz.prog 3 #[.slice a n cap, acc W2 r2 A S D, .int .i64 V] w fun e w' => e = .returned (.bool true) ∧ Below w.heap.size w w' := by
  have d1 : decide ((100 : Int) < (n : Int)) = false := decide_eq_false (by omega)
  have hn6 : n ≤ 1000000 := by omega
  obtain ⟨b0, hb0⟩ : ∃ b0, w.heap.size = b0 := ⟨_, rfl⟩
  have h5 := five_new w W2 r2 A S D 25
  rw [hb0] at h5
  have H5 := Lib.hid h5
  have B0 := Lib.hid ((Below.refl w.heap.size w).alloc (Nat.le_refl _) (.cells #[.int .i64 W2, .bool r2, .int .u32 A, .int .i64 S, .int .u32 D] 25))
  have Hr := Lib.hid h
  have hdl : d.length = n := h.1
  have Hdl := Lib.hid hdl
  have Hno := Lib.hid hno
  obtain ⟨L, hL⟩ : ∃ L, mapL d V = L := ⟨_, rfl⟩
  obtain ⟨M, hM⟩ : ∃ M, mapL d W2 = M := ⟨_, rfl⟩
  obtain ⟨l, hl⟩ : ∃ l, L.length = l := ⟨_, rfl⟩
  obtain ⟨k, hk⟩ : ∃ k, M.length = k := ⟨_, rfl⟩
  have hl6 : l ≤ 1000000 := by rw [← hl, ← hL]; have := mapL_length d V; omega
  have hk6 : k ≤ 1000000 := by rw [← hk, ← hM]; have := mapL_length d W2; omega
  have HL := Lib.hid hL
  have HM := Lib.hid hM
  have Hl := Lib.hid hl
  have Hk := Lib.hid hk
  clear h h5 hno hL hM hl hk hdl
  go_enter Tryz.func3, Tryz.ntmps3
  go_wp2_with fail
  refine (lent_any a n cap d _ (Hr.out.keep B0.out) Hno.out (by omega)).mono ?_
  rintro e w1 ⟨i, rfl, hown, hb1⟩
  have B1 := Lib.hid (B0.out.trans (hb1.mono B0.out.size))
  have F1 := Lib.hid (H5.out.keep hb1)
  have HI := Lib.hid (own_mono hown B0.out.size)
  have hi1 : w.heap.size ≤ i := (HI.out.lt i rfl).1
  have hi2 : i < w1.heap.size := (HI.out.lt i rfl).2
  have HRi := Lib.hid (lent_row hown Hdl.out)
  clear hb1 hown B0 H5 hb0
  go_wp2_with fail
  have a0 := load_below (B := 0) F1.out.c0
  go_region_held3 (fun w' => Below w1.heap.size w1 w')
    (first | assumption | exact (Below.refl _ _).drew)
    (first
      | (go_at_call 8; with_reducible refine (Map_any _ n (n + 12) d V _ hn6 (by omega) (HRi.out.keep (by assumption))).mono ?_; rintro e w2 ⟨v2, rfl, hv2, hb2⟩; have hS2 : Below w1.heap.size w1 w2 := Below.trans (by assumption) (Below.mono hb2 (Below.size (by assumption))); rw [HL.out, Hl.out] at hv2; obtain ⟨a2, k2, rfl, _, _⟩ := own_shape hv2)
      | (go_at_call 8; with_reducible refine (Map_any _ n (n + 12) d W2 _ hn6 (by omega) (HRi.out.keep (by assumption))).mono ?_; rintro e w4 ⟨v4, rfl, hv4, hb4⟩; have hS4 : Below w1.heap.size w1 w4 := Below.trans (by assumption) (Below.mono hb4 (Below.size (by assumption))); rw [HM.out, Hk.out] at hv4; obtain ⟨a4, k4, rfl, _, _⟩ := own_shape hv4))
  have B4 := Lib.hid (B1.out.trans (hS4.mono B1.out.size))
  have F4 := Lib.hid (F1.out.keep hS4)
  have HI4 := Lib.hid (own_keep HI.out hS4)
  have HV4 := Lib.hid (own_keep hv2 hb4)
  have HZ4 := Lib.hid hv4
  have Hl2 := Lib.hid (show ∀ j, BA a2 j → w1.heap.size ≤ j ∧ j < w2.heap.size from fun j hj => own_lt hv2 j hj)
  have Hl4 := Lib.hid (show ∀ j, BA a4 j → w2.heap.size ≤ j from fun j hj => (own_lt hv4 j hj).1)
  have hs2 := hS2.size
  clear hv2 hv4 hb2 hb4 hS2 hS4 HI F1 a0 HRi
  obtain ⟨q0, q1, q2, q3, q4⟩ := F4.out
  go_wp2_with fail
  refine (asks_any (some ⟨i, 0, none⟩) n (n + 12) d W2 r2 A S D _ hn6 (by omega) hA hA' hD hD' (lent_row HI4.out Hdl.out)).mono ?_
  rintro e w5 ⟨rfl, hb5⟩
  have B5 := Lib.hid (B4.out.trans (hb5.mono B4.out.size))
  have F5 := Lib.hid (F4.out.keep hb5)
  have HI5 := Lib.hid (own_keep HI4.out hb5)
  have HV5 := Lib.hid (own_keep HV4.out hb5)
  have HZ5 := Lib.hid (own_keep HZ4.out hb5)
  clear hb5 F4 HI4 HV4 HZ4 q0 q1 q2 q3 q4
  go_wp2_with fail
  refine (tMap_any a n cap d V _ hn6 (Hr.out.keep B5.out)).mono ?_
  rintro e w6 ⟨v6, rfl, hv6, hb6⟩
  rw [HL.out, Hl.out] at hv6
  obtain ⟨a6, k6, rfl, _, _⟩ := own_shape hv6
  have B6 := Lib.hid (B5.out.trans (hb6.mono B5.out.size))
  have F6 := Lib.hid (F5.out.keep hb6)
  have HI6 := Lib.hid (own_keep HI5.out hb6)
  have HV6 := Lib.hid (own_keep HV5.out hb6)
  have HZ6 := Lib.hid (own_keep HZ5.out hb6)
  have HU6 := Lib.hid hv6
  clear hb6 hv6 F5 HI5 HV5 HZ5
  go_wp2_with fail
  refine (same_any a2 a6 l k2 k6 L _ hl6 (rowG_of_own Hl.out HV6.out) (rowG_of_own Hl.out HU6.out)).mono ?_
  rintro e w7 ⟨rfl, hb7⟩
  have B7 := Lib.hid (B6.out.trans (hb7.mono B6.out.size))
  have F7 := Lib.hid (F6.out.keep hb7)
  have HI7 := Lib.hid (own_keep HI6.out hb7)
  have HV7 := Lib.hid (own_keep HV6.out hb7)
  have HZ7 := Lib.hid (own_keep HZ6.out hb7)
  clear hb7 F6 HI6 HV6 HZ6 HU6
  have q0 := F7.out.c0
  go_wp2_with fail
  refine (tMap_any a n cap d W2 _ hn6 (Hr.out.keep B7.out)).mono ?_
  rintro e w8 ⟨v8, rfl, hv8, hb8⟩
  rw [HM.out, Hk.out] at hv8
  obtain ⟨a8, k8, rfl, _, _⟩ := own_shape hv8
  have B8 := Lib.hid (B7.out.trans (hb8.mono B7.out.size))
  have HI8 := Lib.hid (own_keep HI7.out hb8)
  have HV8 := Lib.hid (own_keep HV7.out hb8)
  have HZ8 := Lib.hid (own_keep HZ7.out hb8)
  have HU8 := Lib.hid hv8
  clear hb8 hv8 F7 HI7 HV7 HZ7 q0
  go_wp2_with fail
  refine (same_any a4 a8 k k4 k8 M _ hk6 (rowG_of_own Hk.out HZ8.out) (rowG_of_own Hk.out HU8.out)).mono ?_
  rintro e w9 ⟨rfl, hb9⟩
  have B9 := Lib.hid (B8.out.trans (hb9.mono B8.out.size))
  have HI9 := Lib.hid (own_keep HI8.out hb9)
  have HV9 := Lib.hid (own_keep HV8.out hb9)
  have HZ9 := Lib.hid (own_keep HZ8.out hb9)
  clear hb9 HI8 HV8 HZ8 HU8
  go_wp2_with fail
  refine (kept_any w.heap.size i n cap a d _ (by omega) (Hr.out.keep B9.out) HI9.out).mono ?_
  rintro e w10 ⟨rfl, hb10⟩
  have B10 := Lib.hid (B9.out.trans (hb10.mono B9.out.size))
  have HI10 := Lib.hid (own_keep HI9.out hb10)
  have HV10 := Lib.hid (own_keep HV9.out hb10)
  have HZ10 := Lib.hid (own_keep HZ9.out hb10)
  clear hb10 HI9 HV9 HZ9
  go_wp2_with fail
  have hA2 := (Below.refl w10.heap.size w10).alloc (Nat.le_refl _) (.cells #[.slice a2 l k2, .slice a4 k k4, .slice (some ⟨i, 0, none⟩) n (n + 12)] 22)
  have hB2 := Blk.new w10 22 [.slice a2 l k2, .slice a4 k k4, .slice (some ⟨i, 0, none⟩) n (n + 12)]
  refine (apart_three a2 a4 (some ⟨i, 0, none⟩) l k n k2 k4 (n + 12) _ _ _ w10.heap.size _ (own_mono (own_keep HV10.out hA2) (Nat.zero_le _)) (own_mono (own_keep HZ10.out hA2) (Nat.zero_le _)) (own_mono (own_prefix (n := n) (own_keep HI10.out hA2) (by omega)) (Nat.zero_le _))
    (fun j h1 h2 => ?_) (fun j h1 h2 => ?_) (fun j h1 h2 => ?_) hl6 hk6 hn6 (hB2.at 0 rfl) (hB2.at 1 rfl) (hB2.at 2 rfl)).mono ?_
  · have := Hl2.out j h1; have := Hl4.out j h2; omega
  · have := Hl2.out j h1; have := ba_some h2; omega
  · have := Hl4.out j h1; have := ba_some h2; omega
  · rintro e w11 ⟨rfl, ho11⟩
    have B11 := Lib.hid ((B10.out.trans (hA2.mono B10.out.size)).trans (ho11.below (Nat.le_trans B10.out.size hA2.size) (fun j hj => by
      have hw1 := B1.out.size
      rcases hj with hj | hj | hj
      · have := Hl2.out j hj; omega
      · have := Hl4.out j hj; omega
      · have := ba_some hj; omega)))
    clear ho11 hA2 hB2
    go_wp2_with fail
    refine (awake_any _).mono ?_
    rintro e w12 ⟨rfl, hb12⟩
    have B12 := Lib.hid (B11.out.trans (hb12.mono B11.out.size))
    clear hb12
    go_wp2_with fail
    go_ret
    exact ⟨rfl, B12.out⟩
set_option maxRecDepth 100000 in
set_option maxHeartbeats 1000000 in
theorem tasks_walk (a : Option Addr) (n cap : Nat) (d : List Rg) (W2 : Int) (r2 : Bool) (A S D : Int) (V2 : Int) (w : World) (h : RowG w a n d) (hno : a = none → n = 0 ∧ cap = 0) (hc : n ≤ cap) (hm : n ≤ maxLen) (hW2 : (Lit.int .i64 W2).wf = true) (hA : (Lit.int .u32 A).wf = true) (hS : (Lit.int .i64 S).wf = true) (hD : (Lit.int .u32 D).wf = true) (hV : (Lit.int .i64 V2).wf = true) :
    Calls Tryz.prog 3 #[.slice a n cap, acc W2 r2 A S D, .int .i64 V2] w fun e w' => e = .returned (.bool true) ∧ Below w.heap.size w w' := by
  have ba := bounds_u32 hA
  have bd := bounds_u32 hD
  by_cases hn : n ≤ 100
  · exact tasks_core a n cap d W2 r2 A S D V2 w hn hno (by omega) (by omega) (by omega) (by omega) h
  · have d1 : decide ((100 : Int) < (n : Int)) = true := decide_eq_true (by omega)
    have H0 := Lib.hid ((Below.refl w.heap.size w).alloc (Nat.le_refl _) (.cells #[.int .i64 W2, .bool r2, .int .u32 A, .int .i64 S, .int .u32 D] 25))
    clear ba bd hW2 hA hS hD hV hm hno h hc
    go_enter Tryz.func3, Tryz.ntmps3
    go_wp2_with fail
    refine (awake_any _).mono ?_
    rintro e w1 ⟨rfl, hb1⟩
    have B1 := Lib.hid (H0.out.trans (hb1.mono H0.out.size))
    clear hb1
    go_wp2_with fail
    go_ret
    exact ⟨rfl, B1.out⟩
end Go.Proofs.YtmkponhhinjpkaaGreat.Table
