/- The walk of MailboxDoes. -/
import Derived.Test.YtkcghcoacjpbkaaJm
import Derived.Test.YtkcghcoacjpbkaaJe
import Derived.Test.YtkcghcoacjpbkaaJd
import Derived.Test.YtkcghcoacjpbkaaPk
import Derived.Deep.RegionHeld3
namespace Go.Proofs.Ytkcghcoacjpbkaa.Mbox
open Go.RowKit Go.Maps Go.ChangeShapes Go.WideShapes Go.ChangeAt Fifo Orow Word OffL
set_option linter.unusedVariables false

theorem does_far (a : Option Addr) (len cap : Nat) (w : World) (h300 : 300 < len) :
    Calls Try.prog 3 #[.slice a len cap] w fun e w' => e = .returned (.bool true) ∧ Below w.heap.size w w' := by
  have d1 : decide ((300 : Int) < (len : Int)) = true := decide_eq_true (by omega)
  go_enter Try.func3, Try.ntmps3
  go_wp2_with fail
  refine (awake_any _).mono ?_
  rintro e w1 ⟨rfl, hb⟩
  have B1 := Lib.hid hb
  clear hb
  go_wp2_with fail
  go_ret
  exact ⟨rfl, B1.out⟩
set_option maxRecDepth 100000 in
set_option maxHeartbeats 8000000 in
theorem does_in (a : Option Addr) (len cap : Nat) (l : List Dd) (w : World) (hl : RowDd w a len l) (h300 : len ≤ 300) :
    Calls Try.prog 3 #[.slice a len cap] w fun e w' => e = .returned (.bool true) ∧ Below w.heap.size w w' := by
  have Hl := Lib.hid hl
  have d1 : decide ((300 : Int) < (len : Int)) = false := decide_eq_false (by omega)
  obtain ⟨B, hB⟩ : ∃ B, w.heap.size = B := ⟨_, rfl⟩
  have HB := Lib.hid hB
  clear hl hB
  go_enter Try.func3, Try.ntmps3
  go_wp2_with fail
  refine (New_any _).mono ?_
  rintro e w1 ⟨⟨b0, O0, rfl, hU, hO⟩, hb⟩
  have U1 := Lib.hid hU
  have HO := Lib.hid hO
  have B1 := Lib.hid hb
  have L1 := Lib.hid hU.lt
  clear hU hO hb
  go_wp2_with fail
  obtain ⟨r, hr⟩ : ∃ r, w1.heap.size = r := ⟨_, rfl⟩
  rw [hr]
  refine code_letter ?_
  intro X0 hX0
  have hal := (Below.refl w1.heap.size w1).alloc (Nat.le_refl _) (.cells #[.slice none 0 0, .int .u32 0, .int .u32 0] 30)
  have hB1 := B1.out.size
  have P0 := Lib.hid (show PairX (fun j => j < B) X0 b0 r zeroX zeroX by
    rw [hX0.out]
    have hR := RefB.new w1
    rw [hr] at hR
    exact ⟨O0, _, U1.out.keep hal, hR, fun j hj => ⟨fun k => by have := HO.out j hj; have := HB.out; omega, fun e => by have := L1.out j hj; omega⟩, fun j e k => by have := HB.out; omega, fun j hj => by have := hal.size; have := HB.out; omega⟩)
  have B0 := Lib.hid (show Below B w X0 by rw [hX0.out, ← HB.out]; exact B1.out.trans (hal.mono hB1))
  clear hal hX0 hr U1 HO B1 L1 hB1 d1
  go_loopw [3, 5] (fun bv iv wr => ∃ (k b : Nat) (u : Bx), k ≤ len ∧ bv = .pointer (some ⟨b, 0, none⟩) ∧ iv = .int .i64 k ∧ PairX (fun j => j < B) wr b r u u ∧ Below B w wr) (fun _ iv _ => len - (intOf iv).toNat)
  case atStart => exact ⟨0, b0, zeroX, Nat.zero_le _, rfl, rfl, P0.out, B0.out⟩
  case round =>
  clear P0 B0
  obtain ⟨k, b, u, hk, rfl, rfl, hP, hBl⟩ := hrel
  have P := Lib.hid hP
  have BL := Lib.hid hBl
  clear hP hBl
  by_cases hlt : k < len
  · have d1 : decide ((k : Int) < (len : Int)) = true := decide_eq_true (by omega)
    obtain ⟨lb, off, rfl, ce⟩ := Hl.out.2.2 k hlt
    have ce := ce.keep (by rw [HB.out]; exact BL.out)
    have hok := Hl.out.2.1 k hlt
    obtain ⟨x, hx⟩ : ∃ x, l[k]! = x := ⟨_, rfl⟩
    rw [hx] at ce hok
    obtain ⟨xw, xr, xv⟩ := x
    obtain ⟨e0, e1, e2⟩ := ce
    obtain ⟨hw, hr, hv⟩ := hok
    obtain ⟨p, hp, HPk⟩ := Pk.pick_is xw 3 (by omega) (by omega)
    have HPk := Lib.hid HPk
    have i1 : (0 : Int) ≤ (k : Int) := by omega
    have i2 : (k : Int) < (len : Int) := by omega
    clear hx
    go_wp2_with fail
    obtain ⟨D, hD⟩ : ∃ D, wr.heap.size = D := ⟨_, rfl⟩
    rw [hD]
    refine calls_letter ?_
    intro X hX
    have AX := Lib.hid (show AtDd X D 0 ⟨xw, xr, xv⟩ by rw [hX.out, ← hD]; exact atDd_new wr ⟨xw, xr, xv⟩ _)
    have hal := (Below.refl wr.heap.size wr).alloc (Nat.le_refl _) (.cells #[.int .i64 xw, .int .i64 xr, .int .u32 xv] 32)
    obtain ⟨K, hK⟩ : ∃ K : Nat → Prop, K = fun j => j < B ∨ j = D := ⟨_, rfl⟩
    have PX := Lib.hid (show PairX K X b r u u by rw [hX.out, hK]; exact P.out.also hal (fun j => j = D) (fun j e => by rw [e, ← hD]; exact ⟨Nat.le_refl _, by simp⟩))
    have KD : K D := by rw [hK]; exact .inr rfl
    have KB := Lib.hid (show ∀ j, j < B → K j by intro j hj; rw [hK]; exact .inl hj)
    have hBL := BL.out.size
    have BX := Lib.hid (show Below B w X by rw [hX.out]; exact BL.out.alloc (by rw [← HB.out]; exact hBL) _)
    have q1 : ∀ w', Only (fun j => ¬ K j) X w' → w'.cell? ⟨D, 1, none⟩ = some (.int .i64 xr) := fun w' h => by
      have := (AX.out.only h (fun e => e KD)).c1
      rwa [Nat.zero_add] at this
    have q2 : ∀ w', Only (fun j => ¬ K j) X w' → w'.cell? ⟨D, 2, none⟩ = some (.int .u32 xv) := fun w' h => by
      have := (AX.out.only h (fun e => e KD)).c2
      rwa [Nat.zero_add] at this
    have oX : Only (fun j => ¬ K j) X X := Only.refl _ _
    have oXd : Only (fun j => ¬ K j) X X.drew := only_drew2 (Only.refl _ _)
    have PXd := PX.out.keep (Below.refl _ _).drew
    clear hX hal hK hD P BL hBL e0 e1 e2
    refine (HPk.out _).mono ?_
    rintro e w1 ⟨rfl, rfl⟩
    clear HPk
    have hcase : p = 0 ∨ p = 1 ∨ p = 2 := by omega
    clear hp
    rcases hcase with rfl | rfl | rfl
    · -- read
      have HRu := Lib.hid (fun W v (h : PairX K W b r u v) => Read_pair K b r u v xr W hr h)
      have HRr := Lib.hid (fun W u2 (h : PairX K W b r u2 u) => rRead_pair K b r u2 u xr W hr h)
      obtain ⟨rv, hrv⟩ : ∃ q, (readX u xr).1 = q := ⟨_, rfl⟩
      obtain ⟨u5, hu5⟩ : ∃ q, (readX u xr).2 = q := ⟨_, rfl⟩
      rw [hrv, hu5] at HRu HRr
      have nn : (rv != rv) = false := by simp
      clear hrv hu5 PX
      go_wp2_with fail
      go_region_held3 (fun w' => Only (fun j => ¬ K j) X w')
        (first | assumption)
        (first
          | (go_at_call 10; refine (HRu.out _ _ (by assumption)).mono ?_; rintro e w' ⟨rfl, hp, ho⟩; have hoS : Only (fun j => ¬ K j) X w' := Only.trans (by assumption) ho)
          | (go_at_call 11; refine (HRr.out _ _ (by assumption)).mono ?_; rintro e w' ⟨rfl, hp, ho⟩; have hoS : Only (fun j => ¬ K j) X w' := Only.trans (by assumption) ho))
      all_goals
        refine exit_letter ?_
        intro Y hY
        have P5 := Lib.hid (show PairX K Y b r u5 u5 by rw [hY.out]; assumption)
        have B5 := Lib.hid (below_only BX.out (show Only (fun j => ¬ K j) X Y by rw [hY.out]; assumption) (by rw [HB.out]; exact Nat.le_refl _) KB.out)
        obtain ⟨b5, rfl⟩ : ∃ q, q = b := ⟨_, rfl⟩
        clear hY hp ho hoS q1 q2 nn HRu HRr oX oXd PXd AX BX
        have Ok5 := Lib.hid P5.out.ok.1
        go_wp2_with fail
        refine (same_pair K b5 r u5 Y P5.out).mono ?_
        rintro e Y2 ⟨rfl, hb⟩
        have hB5 := B5.out.size
        have P6 := Lib.hid (P5.out.keep hb)
        have B6 := Lib.hid (B5.out.trans (hb.mono (by rw [← HB.out]; exact hB5)))
        clear hb P5 B5 hB5
        go_wp2_with fail
        refine (state_pair K b5 r u5 u5 Y2 P6.out).mono ?_
        rintro e Y3 ⟨⟨s1, n1, rfl, ho1⟩, hb⟩
        obtain ⟨l1, hl1⟩ : ∃ q, u5.W.length = q := ⟨_, rfl⟩
        have l18 : l1 ≤ 4 := by rw [← hl1]; exact Ok5.out.w.2
        rw [hl1] at ho1 ⊢
        obtain ⟨g, hg⟩ : ∃ g, Y3.heap.size = g := ⟨_, rfl⟩
        have R1 := Lib.hid ho1
        have B7 := Lib.hid hb
        clear ho1 hb hl1
        go_wp2_with (with_reducible refine at_store _ _ _ rfl ?_)
        refine Lib.hid ?_
        have hnew := Blk.new Y3 37 [.slice none 0 0, .int .u32 0, .int .u32 0]
        rw [hg] at hnew
        refine store_all rfl _ _ _ rfl g [.slice s1 l1 n1, .int .u32 u5.C, .int .u32 u5.L] rfl rfl _ _ hnew (by kernel_rfl) rfl (by simp [Value.oneCell']) ?_
        intro X9 hX hoX
        have hal := (Below.refl Y3.heap.size Y3).alloc (Nat.le_refl _) (.cells #[.slice none 0 0, .int .u32 0, .int .u32 0] 37)
        have hbX : Below Y3.heap.size Y3 X9 := hal.trans (hoX.below hal.size (fun j e => by rw [e, ← hg]; exact Nat.le_refl _))
        have B9 := Lib.hid (B7.out.trans (hbX.mono B7.out.size))
        have RX1 := Lib.hid (own_keep R1.out hbX)
        have P9 := Lib.hid (P6.out.also B9.out (fun j => Y2.heap.size ≤ j ∧ j < X9.heap.size) (fun j e => e))
        have d0 := hX.at 0 rfl
        clear hX hoX hal hbX hnew R1 hg
        go_wp2_with fail
        refine (OvL.over_own Y2.heap.size l1 n1 s1 _ X9 (by omega) RX1.out).mono ?_
        rintro e X11 ⟨rfl, ho⟩
        have P11 := Lib.hid ((P9.out.far (S := PB (.slice s1 l1 n1)) (fun j e => .inr (own_lt RX1.out j (pb_ba.1 e))) ho).less (fun j (hj : j < B) => .inl (KB.out j hj)))
        have hB6 := B6.out.size
        have B10 := Lib.hid (B6.out.trans (B9.out.mono (by rw [← HB.out]; exact hB6)))
        have hB10 := B10.out.size
        have B11 := Lib.hid (B10.out.trans (ho.below (by rw [← HB.out]; exact hB10) (fun j e => Nat.le_trans (by rw [← HB.out]; exact hB6) (own_lt RX1.out j (pb_ba.1 e)).1)))
        clear ho d0 P9 P6 B6 B9 B10 RX1
        go_wp2_with fail
        exact ⟨⟨k + 1, b5, u5, by omega, rfl, by go_num, P11.out, B11.out⟩, by simp [intOf]; omega⟩
    · -- written
      have c1 := q1 X oX
      have c2 := q2 X oX
      obtain ⟨u5, hu5⟩ : ∃ q, writeX u xr xv = q := ⟨_, rfl⟩
      have HWr := Lib.hid (fun W u2 (h : PairX K W b r u2 u) => rWrite_pair K b r u2 u xr xv W hr hv h)
      have HWu := Lib.hid (fun W v (h : PairX K W b r u v) => Write_pair K b r u v xr xv W hr hv h)
      rw [hu5] at HWr HWu
      clear hu5 PXd oXd oX
      go_wp2_with fail
      refine (HWu.out X _ PX.out).mono ?_
      rintro e X2 ⟨rfl, hp, ho⟩
      have P2 := Lib.hid hp
      have O2 := Lib.hid ho
      have c1 := q1 X2 ho
      have c2 := q2 X2 ho
      clear hp ho
      go_wp2_with fail
      refine (HWr.out X2 _ P2.out).mono ?_
      rintro e Y ⟨rfl, hp, ho⟩
      have P5 := Lib.hid hp
      have B5 := Lib.hid (below_only BX.out (O2.out.trans ho) (by rw [HB.out]; exact Nat.le_refl _) KB.out)
      obtain ⟨b5, rfl⟩ : ∃ q, q = b := ⟨_, rfl⟩
      clear hp ho c1 c2 q1 q2 HWr HWu P2 O2 PX AX BX
      have Ok5 := Lib.hid P5.out.ok.1
      go_wp2_with fail
      refine (same_pair K b5 r u5 Y P5.out).mono ?_
      rintro e Y2 ⟨rfl, hb⟩
      have hB5 := B5.out.size
      have P6 := Lib.hid (P5.out.keep hb)
      have B6 := Lib.hid (B5.out.trans (hb.mono (by rw [← HB.out]; exact hB5)))
      clear hb P5 B5 hB5
      go_wp2_with fail
      refine (state_pair K b5 r u5 u5 Y2 P6.out).mono ?_
      rintro e Y3 ⟨⟨s1, n1, rfl, ho1⟩, hb⟩
      obtain ⟨l1, hl1⟩ : ∃ q, u5.W.length = q := ⟨_, rfl⟩
      have l18 : l1 ≤ 4 := by rw [← hl1]; exact Ok5.out.w.2
      rw [hl1] at ho1 ⊢
      obtain ⟨g, hg⟩ : ∃ g, Y3.heap.size = g := ⟨_, rfl⟩
      have R1 := Lib.hid ho1
      have B7 := Lib.hid hb
      clear ho1 hb hl1
      go_wp2_with (with_reducible refine at_store _ _ _ rfl ?_)
      refine Lib.hid ?_
      have hnew := Blk.new Y3 37 [.slice none 0 0, .int .u32 0, .int .u32 0]
      rw [hg] at hnew
      refine store_all rfl _ _ _ rfl g [.slice s1 l1 n1, .int .u32 u5.C, .int .u32 u5.L] rfl rfl _ _ hnew (by kernel_rfl) rfl (by simp [Value.oneCell']) ?_
      intro X9 hX hoX
      have hal := (Below.refl Y3.heap.size Y3).alloc (Nat.le_refl _) (.cells #[.slice none 0 0, .int .u32 0, .int .u32 0] 37)
      have hbX : Below Y3.heap.size Y3 X9 := hal.trans (hoX.below hal.size (fun j e => by rw [e, ← hg]; exact Nat.le_refl _))
      have B9 := Lib.hid (B7.out.trans (hbX.mono B7.out.size))
      have RX1 := Lib.hid (own_keep R1.out hbX)
      have P9 := Lib.hid (P6.out.also B9.out (fun j => Y2.heap.size ≤ j ∧ j < X9.heap.size) (fun j e => e))
      have d0 := hX.at 0 rfl
      clear hX hoX hal hbX hnew R1 hg
      go_wp2_with fail
      refine (OvL.over_own Y2.heap.size l1 n1 s1 _ X9 (by omega) RX1.out).mono ?_
      rintro e X11 ⟨rfl, ho⟩
      have P11 := Lib.hid ((P9.out.far (S := PB (.slice s1 l1 n1)) (fun j e => .inr (own_lt RX1.out j (pb_ba.1 e))) ho).less (fun j (hj : j < B) => .inl (KB.out j hj)))
      have hB6 := B6.out.size
      have B10 := Lib.hid (B6.out.trans (B9.out.mono (by rw [← HB.out]; exact hB6)))
      have hB10 := B10.out.size
      have B11 := Lib.hid (B10.out.trans (ho.below (by rw [← HB.out]; exact hB10) (fun j e => Nat.le_trans (by rw [← HB.out]; exact hB6) (own_lt RX1.out j (pb_ba.1 e)).1)))
      clear ho d0 P9 P6 B6 B9 B10 RX1
      go_wp2_with fail
      exact ⟨⟨k + 1, b5, u5, by omega, rfl, by go_num, P11.out, B11.out⟩, by simp [intOf]; omega⟩
    · -- left for a copy
      obtain ⟨O, P, a1, a2, a3, a4, a5⟩ := PX.out
      have A1 := Lib.hid a1
      have A2 := Lib.hid a2
      have A3 := Lib.hid a3
      have A4 := Lib.hid a4
      have A5 := Lib.hid a5
      have hC := a1.ok.c
      have hC2 : u.C = 0 ∨ u.C = 1 := by omega
      have c2 : ∀ w', Below X.heap.size X w' → w'.cell? ⟨D, 2, none⟩ = some (.int .u32 xv) := fun w' h => q2 w' (Only.of_below h)
      clear a1 a2 a3 a4 a5 PXd oXd oX q1 q2 PX hC
      go_wp2_with fail
      refine (Copy_any b u O X A1.out).mono ?_
      rintro e X2 ⟨⟨c, O2, rfl, hm2, hO2⟩, hb2⟩
      have C2 := Lib.hid hm2
      have HO2 := Lib.hid hO2
      have HB2 := Lib.hid hb2
      have c2 := c2 X2 hb2
      obtain ⟨K2, hK2⟩ : ∃ K2 : Nat → Prop, K2 = fun j => K j ∨ O2 j ∨ P j := ⟨_, rfl⟩
      have HK2 := Lib.hid hK2
      have hL := A1.out.lt
      have hLP := A2.out.lt
      have hX2 := hb2.size
      have H2 := Lib.hid (show Hold K2 X2 b u from ⟨O, A1.out.keep hb2, fun j hj k => by
        rw [hK2] at k
        rcases k with k | k | k
        · exact (A3.out j hj).1 k
        · have := hO2 j k; have := hL j hj; omega
        · exact (A3.out j hj).2 k, fun j k => by
        rw [hK2] at k
        rcases k with k | k | k
        · exact Nat.lt_of_lt_of_le (A5.out j k) hX2
        · exact hm2.lt j k
        · exact Nat.lt_of_lt_of_le (hLP j k) hX2⟩)
      have R2 := Lib.hid (A2.out.keep hb2)
      clear hm2 hO2 hb2 hK2 hL hLP hX2
      go_wp2_with fail
      refine (Write_hold K2 b u 0 xv X2 ⟨by omega, by omega⟩ hv H2.out).mono ?_
      rintro e X4 ⟨rfl, h3, o3⟩
      have H4 := Lib.hid h3
      have O4 := Lib.hid o3
      clear h3 o3 H2
      go_wp2_with fail
      refine (Read_hold K2 b _ 0 X4 ⟨by omega, by omega⟩ H4.out).mono ?_
      rintro e X5 ⟨rfl, h3, o3⟩
      have H5 := Lib.hid h3
      have O5 := Lib.hid (O4.out.trans o3)
      have R5 := Lib.hid (R2.out.only O5.out (fun j hj e => e (by rw [HK2.out]; exact .inr (.inr hj))))
      obtain ⟨va, hrv, _⟩ := R5.out
      have c4 := hrv.head.at 1 rfl
      clear h3 o3 H4 O4 hrv
      have hWR : ∀ x : Int, 0 ≤ x ∧ x < 4294967296 → Calls Try.prog 12 #[.pointer (some ⟨b, 0, none⟩), .int .i64 2, .int .u32 x] X5 fun e w' => e = .returned (.tuple #[]) ∧ (∃ u7, Hold K2 w' b u7) ∧ Only (fun j => ¬ K2 j) X5 w' := fun x hx =>
        (Write_hold K2 b _ 2 x X5 ⟨by omega, by omega⟩ hx H5.out).mono (by rintro e w' ⟨rfl, h, o⟩; exact ⟨rfl, ⟨_, h⟩, o⟩)
      have HWR := Lib.hid hWR
      clear hWR
      rcases hC2 with hC2 | hC2
      all_goals
        rw [hC2] at c4
        have HC2 := Lib.hid hC2
        clear hC2
        go_wp2_with fail
        refine (HWR.out _ (by decide)).mono ?_
        rintro e X6 ⟨rfl, ⟨u7, h3⟩, o3⟩
        have H6 := Lib.hid h3
        have O6 := Lib.hid (O5.out.trans o3)
        have c6 := only_cell O6.out (fun e => e (by rw [HK2.out]; exact .inl KD)) c2
        clear h3 o3 c4
        go_wp2_with fail
        refine (Write_hold K2 b u7 0 xv X6 ⟨by omega, by omega⟩ hv H6.out).mono ?_
        rintro e Y ⟨rfl, h3, o3⟩
        have O7 := Lib.hid (O6.out.trans o3)
        have P5 := Lib.hid (show PairX K Y c r u u from ⟨O2, P, C2.out.only O7.out (fun j hj e => e (by rw [HK2.out]; exact .inr (.inl hj))), R2.out.only O7.out (fun j hj e => e (by rw [HK2.out]; exact .inr (.inr hj))),
          fun j hj => ⟨fun kk => by have := A5.out j kk; have := HO2.out j hj; omega, fun kk => by have := A2.out.lt j kk; have := HO2.out j hj; omega⟩, A4.out, fun j hj => Nat.lt_of_lt_of_le (A5.out j hj) (Nat.le_trans HB2.out.size O7.out.size)⟩)
        have hBX := BX.out.size
        have B2 := Lib.hid (BX.out.trans (HB2.out.mono (by rw [← HB.out]; exact hBX)))
        have B5 := Lib.hid (below_only B2.out O7.out (by rw [HB.out]; exact Nat.le_refl _) (fun j hj => by rw [HK2.out]; exact .inl (KB.out j hj)))
        obtain ⟨b5, rfl⟩ : ∃ q, q = c := ⟨_, rfl⟩
        obtain ⟨u5, rfl⟩ : ∃ q, q = u := ⟨_, rfl⟩
        clear h3 o3 H6 O6 O7 O5 H5 R5 R2 C2 HO2 HB2 HK2 A1 A2 A3 A4 A5 AX BX B2 hBX HWR
        have Ok5 := Lib.hid P5.out.ok.1
        go_wp2_with fail
        refine (same_pair K b5 r u5 Y P5.out).mono ?_
        rintro e Y2 ⟨rfl, hb⟩
        have hB5 := B5.out.size
        have P6 := Lib.hid (P5.out.keep hb)
        have B6 := Lib.hid (B5.out.trans (hb.mono (by rw [← HB.out]; exact hB5)))
        clear hb P5 B5 hB5
        go_wp2_with fail
        refine (state_pair K b5 r u5 u5 Y2 P6.out).mono ?_
        rintro e Y3 ⟨⟨s1, n1, rfl, ho1⟩, hb⟩
        obtain ⟨l1, hl1⟩ : ∃ q, u5.W.length = q := ⟨_, rfl⟩
        have l18 : l1 ≤ 4 := by rw [← hl1]; exact Ok5.out.w.2
        rw [hl1] at ho1 ⊢
        obtain ⟨g, hg⟩ : ∃ g, Y3.heap.size = g := ⟨_, rfl⟩
        have R1 := Lib.hid ho1
        have B7 := Lib.hid hb
        clear ho1 hb hl1
        go_wp2_with (with_reducible refine at_store _ _ _ rfl ?_)
        refine Lib.hid ?_
        have hnew := Blk.new Y3 37 [.slice none 0 0, .int .u32 0, .int .u32 0]
        rw [hg] at hnew
        refine store_all rfl _ _ _ rfl g [.slice s1 l1 n1, .int .u32 u5.C, .int .u32 u5.L] rfl rfl _ _ hnew (by kernel_rfl) rfl (by simp [Value.oneCell']) ?_
        intro X9 hX hoX
        have hal := (Below.refl Y3.heap.size Y3).alloc (Nat.le_refl _) (.cells #[.slice none 0 0, .int .u32 0, .int .u32 0] 37)
        have hbX : Below Y3.heap.size Y3 X9 := hal.trans (hoX.below hal.size (fun j e => by rw [e, ← hg]; exact Nat.le_refl _))
        have B9 := Lib.hid (B7.out.trans (hbX.mono B7.out.size))
        have RX1 := Lib.hid (own_keep R1.out hbX)
        have P9 := Lib.hid (P6.out.also B9.out (fun j => Y2.heap.size ≤ j ∧ j < X9.heap.size) (fun j e => e))
        have d0 := hX.at 0 rfl
        clear hX hoX hal hbX hnew R1 hg
        go_wp2_with fail
        refine (OvL.over_own Y2.heap.size l1 n1 s1 _ X9 (by omega) RX1.out).mono ?_
        rintro e X11 ⟨rfl, ho⟩
        have P11 := Lib.hid ((P9.out.far (S := PB (.slice s1 l1 n1)) (fun j e => .inr (own_lt RX1.out j (pb_ba.1 e))) ho).less (fun j (hj : j < B) => .inl (KB.out j hj)))
        have hB6 := B6.out.size
        have B10 := Lib.hid (B6.out.trans (B9.out.mono (by rw [← HB.out]; exact hB6)))
        have hB10 := B10.out.size
        have B11 := Lib.hid (B10.out.trans (ho.below (by rw [← HB.out]; exact hB10) (fun j e => Nat.le_trans (by rw [← HB.out]; exact hB6) (own_lt RX1.out j (pb_ba.1 e)).1)))
        clear ho d0 P9 P6 B6 B9 B10 RX1
        go_wp2_with fail
        exact ⟨⟨k + 1, b5, u5, by omega, rfl, by go_num, P11.out, B11.out⟩, by simp [intOf]; omega⟩
  · have d1 : decide ((k : Int) < (len : Int)) = false := decide_eq_false (by omega)
    have d2 : decide (k < len) = false := decide_eq_false hlt
    go_wp2_with fail
    refine (same_pair _ b r u wr P.out).mono ?_
    rintro e w1 ⟨rfl, hb⟩
    have hBl := BL.out.size
    have B1 := Lib.hid (BL.out.trans (hb.mono (by rw [← HB.out]; exact hBl)))
    have hB1 := B1.out.size
    clear hb
    go_wp2_with fail
    refine (awake_any _).mono ?_
    rintro e w2 ⟨rfl, hb⟩
    have B2 := Lib.hid (B1.out.trans (hb.mono (by rw [← HB.out]; exact hB1)))
    clear hb
    go_wp2_with fail
    go_ret
    exact ⟨rfl, by rw [HB.out]; exact B2.out⟩
theorem does_any (a : Option Addr) (len cap : Nat) (l : List Dd) (w : World) (hl : RowDd w a len l) :
    Calls Try.prog 3 #[.slice a len cap] w fun e w' => e = .returned (.bool true) ∧ Below w.heap.size w w' := by
  by_cases h : 300 < len
  · exact does_far a len cap w h
  · exact does_in a len cap l w hl (by omega)
theorem does_walk (a : Option Addr) (len cap : Nat) (l : List Dd) (w : World) (hl : RowDd w a len l) (h1 : a = none → len = 0 ∧ cap = 0) (h2 : len ≤ cap) (h3 : len ≤ maxLen) :
    Calls Try.prog 3 #[.slice a len cap] w fun e w' => e = .returned (.bool true) ∧ Below w.heap.size w w' :=
  does_any a len cap l w hl
end Go.Proofs.Ytkcghcoacjpbkaa.Mbox
