/- The walk of MailboxApart. -/
import Derived.Test.YtkcghcoacjpbkaaJo
namespace Go.Proofs.Ytkcghcoacjpbkaa.Mbox
open Go.RowKit Go.Maps Go.ChangeShapes Go.WideShapes Go.ChangeAt Fifo Orow Word
set_option linter.unusedVariables false

theorem write_keeps (u : Bx) {reg : Int} (v : Int) (h : ¬ reg = 0) : (writeX u reg v).W = u.W := by
  unfold writeX
  rw [if_neg h]
  split
  · rfl
  · split <;> rfl
theorem read_keeps (u : Bx) {reg : Int} (h : ¬ reg = 0) : (readX u reg).2 = u := by
  unfold readX
  rw [if_neg h]
  split
  · rfl
  · split
    · rfl
    · split <;> rfl
set_option maxRecDepth 100000 in
set_option maxHeartbeats 8000000 in
theorem apart_walk (a : Option Addr) (len cap : Nat) (l : List Int) (reg v : Int) (w : World) (hl : Row .u32 w a len l) (h0 : a = none → cap = 0) (hreg : (Lit.int .i64 reg).wf = true) (hvw : (Lit.int .u32 v).wf = true) :
    Calls Try.prog 6 #[.slice a len cap, .int .i64 reg, .int .u32 v] w fun e w' => e = .returned (.bool true) ∧ Below w.heap.size w w' := by
  have hI : I64 reg := by
    simp only [Lit.wf, Bool.and_eq_true, decide_eq_true_eq] at hreg
    have h1 : IntKind.i64.min = -9223372036854775808 := rfl
    have h2 : IntKind.i64.max = 9223372036854775807 := rfl
    unfold I64
    omega
  have hv : 0 ≤ v ∧ v < 4294967296 := by
    simp only [Lit.wf, Bool.and_eq_true, decide_eq_true_eq] at hvw
    have h1 : IntKind.u32.min = 0 := rfl
    have h2 : IntKind.u32.max = 4294967295 := rfl
    omega
  have Hl := Lib.hid hl
  clear hl h0 hreg hvw
  obtain ⟨B, hB⟩ : ∃ B, w.heap.size = B := ⟨_, rfl⟩
  have HB := Lib.hid hB
  clear hB
  by_cases h300 : 300 < len
  · have d1 : decide ((300 : Int) < (len : Int)) = true := decide_eq_true (by omega)
    go_enter Try.func6, Try.ntmps6
    go_wp2_with fail
    refine (awake_any _).mono ?_
    rintro e w1 ⟨rfl, hb⟩
    have B1 := Lib.hid hb
    clear hb
    go_wp2_with fail
    go_ret
    exact ⟨rfl, B1.out⟩
  have d1 : decide ((300 : Int) < (len : Int)) = false := decide_eq_false (by omega)
  go_enter Try.func6, Try.ntmps6
  go_wp2_with fail
  refine (awake_any _).mono ?_
  rintro e w1 ⟨rfl, hb⟩
  have B1 := Lib.hid (show Below B w w1 by rw [← HB.out]; exact hb)
  clear hb
  go_wp2_with fail
  refine (New_hold (fun j => j < B) w1 (fun j hj => by have := B1.out.size; have := HB.out; omega)).mono ?_
  rintro e w2 ⟨⟨b, rfl, hh⟩, hb⟩
  have H2 := Lib.hid hh
  have B2 := Lib.hid (B1.out.trans (hb.mono (by rw [← HB.out]; exact B1.out.size)))
  have h300' : len ≤ 300 := by omega
  clear hh hb B1 d1 h300
  go_wp2_with fail
  go_loopw [8] (fun iv wr => ∃ (i : Nat) (u : Bx), i ≤ len ∧ iv = .int .i64 i ∧ Hold (fun j => j < B) wr b u ∧ Below B w wr) (fun iv _ => len - (intOf iv).toNat)
  case atStart => exact ⟨0, zeroX, Nat.zero_le _, rfl, H2.out, B2.out⟩
  case round =>
  clear H2 B2
  obtain ⟨i, u, hi, rfl, hH, hBl⟩ := hrel
  have H := Lib.hid hH
  have BL := Lib.hid hBl
  clear hH hBl
  by_cases hlt : i < len
  · have d1 : decide ((i : Int) < (len : Int)) = true := decide_eq_true (by omega)
    obtain ⟨lb, off, x, rfl, hcx, x0, x1, _⟩ := word_at Hl.out hlt
    have cx := cell_keep (show Below w.heap.size w wr by rw [HB.out]; exact BL.out) hcx
    have i1 : (0 : Int) ≤ (i : Int) := by omega
    have i2 : (i : Int) < (len : Int) := by omega
    clear hcx
    go_wp2_with fail
    refine (Write_hold _ b u 0 x wr ⟨by omega, by omega⟩ ⟨x0, x1⟩ H.out).mono ?_
    rintro e X ⟨rfl, h3, o3⟩
    have H3 := Lib.hid h3
    have B3 := Lib.hid (below_only BL.out o3 (by rw [HB.out]; exact Nat.le_refl _) (fun j hj => hj))
    clear h3 o3 cx
    go_wp2_with fail
    exact ⟨⟨i + 1, _, by omega, by go_num, H3.out, B3.out⟩, by simp [intOf]; omega⟩
  · have d1 : decide ((i : Int) < (len : Int)) = false := decide_eq_false (by omega)
    have d2 : decide (i < len) = false := decide_eq_false hlt
    obtain ⟨Ws, C, L⟩ := u
    obtain ⟨n, hn⟩ : ∃ n, Ws.length = n := ⟨_, rfl⟩
    have hn4 : n ≤ 4 := by rw [← hn]; exact H.out.ok.w.2
    have Hn := Lib.hid hn
    obtain ⟨O, hU, hO1, hO2⟩ := H.out
    have U := Lib.hid hU
    have HO1 := Lib.hid hO1
    clear hn hU hO1 hO2 hi hlt
    go_wp2_with fail
    refine (State_any b _ _ wr U.out).mono ?_
    rintro e X1a ⟨⟨sa, sc, rfl, hso⟩, hb⟩
    simp only [Hn.out] at hso ⊢
    have R0 := Lib.hid hso
    have B0 := Lib.hid hb
    obtain ⟨g9, hg⟩ : ∃ g, X1a.heap.size = g := ⟨_, rfl⟩
    clear hso hb
    go_wp2_with (with_reducible refine at_store _ _ _ rfl ?_)
    refine Lib.hid ?_
    have hnew := Blk.new X1a 37 [.slice none 0 0, .int .u32 0, .int .u32 0]
    rw [hg] at hnew
    refine store_all rfl _ _ _ rfl g9 [.slice sa n sc, .int .u32 C, .int .u32 L] rfl rfl _ _ hnew (by kernel_rfl) rfl (by simp [Value.oneCell']) ?_
    intro X1 hX hoX
    have hal := (Below.refl X1a.heap.size X1a).alloc (Nat.le_refl _) (.cells #[.slice none 0 0, .int .u32 0, .int .u32 0] 37)
    have hbX : Below X1a.heap.size X1a X1 := hal.trans (hoX.below hal.size (fun j e => by rw [e, ← hg]; exact Nat.le_refl _))
    have BX1 := Lib.hid (B0.out.trans (hbX.mono B0.out.size))
    have RW := Lib.hid (own_keep R0.out hbX)
    have AX1 := Lib.hid hX
    have hgX1 : wr.heap.size ≤ g9 ∧ g9 < X1.heap.size := ⟨by rw [← hg]; exact B0.out.size, hX.lt⟩
    clear hX hoX hal hbX hnew hg R0 B0
    have U1 := Lib.hid (U.out.keep BX1.out)
    have LU := Lib.hid U.out.lt
    have B3 := Lib.hid (BL.out.trans (BX1.out.mono (by rw [← HB.out]; exact BL.out.size)))
    go_wp2_with fail
    refine (Copy_any b _ O X1 U1.out).mono ?_
    rintro e X2 ⟨⟨c, O2, rfl, hc, hO2⟩, hb⟩
    obtain ⟨K, hK⟩ : ∃ K : Nat → Prop, K = fun j => j < B ∨ (wr.heap.size ≤ j ∧ j < X1.heap.size) ∨ O2 j := ⟨_, rfl⟩
    have hX2 := hb.size
    have hw := BX1.out.size
    have hBw := BL.out.size
    have C2 := Lib.hid hc
    have H2 := Lib.hid (show Hold K X2 b ⟨Ws, C, L⟩ from ⟨O, U1.out.keep hb, fun j hj k => by
      rw [hK] at k
      rcases k with k | k | k
      · exact HO1.out j hj k
      · have := LU.out j hj; omega
      · have := LU.out j hj; have := hO2 j k; omega, fun j k => by
      rw [hK] at k
      rcases k with k | k | k
      · have := HB.out; omega
      · omega
      · exact hc.lt j k⟩)
    have KC := Lib.hid (show ∀ j, O2 j → K j from fun j hj => by rw [hK]; exact .inr (.inr hj))
    have KR := Lib.hid (show ∀ j, BA sa j → K j from fun j hj => by rw [hK]; exact .inr (.inl (own_lt RW.out j hj)))
    have Kg := Lib.hid (show K g9 by rw [hK]; exact .inr (.inl hgX1))
    have KB := Lib.hid (show ∀ j, j < B → K j from fun j hj => by rw [hK]; exact .inl hj)
    have R2 := Lib.hid (own_keep RW.out hb)
    have A2 := Lib.hid (AX1.out.keep hb)
    have B4 := Lib.hid (B3.out.trans (hb.mono (by rw [← HB.out]; exact B3.out.size)))
    clear hK hX2 hw hBw hc hO2 hb U1 LU B3 BX1 U HO1 hgX1 RW AX1
    by_cases hr0 : reg = 0
    · have e0 : (reg != 0) = false := by simpa using hr0
      have hr1 := Lib.hid hr0
      clear hr0
      go_wp2_with fail
      refine (Read_hold K b _ 0 X2 ⟨by omega, by omega⟩ H2.out).mono ?_
      rintro e T1 ⟨rfl, h3, o3⟩
      have HT1 := Lib.hid h3
      have OT1 := Lib.hid o3
      clear h3 o3
      go_wp2_with fail
      refine (Write_hold K b _ 0 v T1 ⟨by omega, by omega⟩ hv HT1.out).mono ?_
      rintro e T2 ⟨rfl, h3, o3⟩
      have HT2 := Lib.hid h3
      have OT2 := Lib.hid (OT1.out.trans o3)
      clear h3 o3 HT1 OT1
      go_wp2_with fail
      refine (Write_hold K b _ 2 1 T2 ⟨by omega, by omega⟩ ⟨by omega, by omega⟩ HT2.out).mono ?_
      rintro e T3 ⟨rfl, h3, o3⟩
      have OT3 := Lib.hid (OT2.out.trans o3)
      have C3 := Lib.hid (C2.out.only OT3.out (fun j hj e => e (KC.out j hj)))
      have R3 := Lib.hid (own_only R2.out OT3.out (fun j hj e => e (KR.out j hj)))
      have A3 := Lib.hid (A2.out.only OT3.out (fun e => e Kg.out))
      have BT := Lib.hid (below_only B4.out OT3.out (by rw [HB.out]; exact Nat.le_refl _) KB.out)
      clear h3 o3 HT2 OT2 OT3
      go_wp2_with fail
      refine (State_any c _ _ T3 C3.out).mono ?_
      rintro e T4a ⟨⟨sd, se, rfl, hso⟩, hb⟩
      simp only [Hn.out] at hso ⊢
      have R0 := Lib.hid hso
      have B0 := Lib.hid hb
      obtain ⟨g12, hg⟩ : ∃ g, T4a.heap.size = g := ⟨_, rfl⟩
      clear hso hb
      go_wp2_with (with_reducible refine at_store _ _ _ rfl ?_)
      refine Lib.hid ?_
      have hnew := Blk.new T4a 37 [.slice none 0 0, .int .u32 0, .int .u32 0]
      rw [hg] at hnew
      refine store_all rfl _ _ _ rfl g12 [.slice sd n se, .int .u32 C, .int .u32 L] rfl rfl _ _ hnew (by kernel_rfl) rfl (by simp [Value.oneCell']) ?_
      intro T4 hX hoX
      have hal := (Below.refl T4a.heap.size T4a).alloc (Nat.le_refl _) (.cells #[.slice none 0 0, .int .u32 0, .int .u32 0] 37)
      have hbX : Below T4a.heap.size T4a T4 := hal.trans (hoX.below hal.size (fun j e => by rw [e, ← hg]; exact Nat.le_refl _))
      have BT4 := Lib.hid (B0.out.trans (hbX.mono B0.out.size))
      have R4 := Lib.hid (own_keep R0.out hbX)
      have AT4 := Lib.hid hX
      have hgT4 : T3.heap.size ≤ g12 ∧ g12 < T4.heap.size := ⟨by rw [← hg]; exact B0.out.size, hX.lt⟩
      clear hX hoX hal hbX hnew hg R0 B0
      have R5 := Lib.hid (own_keep R3.out BT4.out)
      have A5 := Lib.hid (A3.out.keep BT4.out)
      have BT5 := Lib.hid (BT.out.trans (BT4.out.mono (by rw [← HB.out]; exact BT.out.size)))
      have f0 := AT4.out.at 0 rfl
      have k0 := A5.out.at 0 rfl
      go_wp2_with fail
      refine (same_own R4.out R5.out (by omega)).mono ?_
      rintro e T5 ⟨rfl, hb⟩
      have BT6 := Lib.hid (BT5.out.trans (hb.mono (by rw [← HB.out]; exact BT5.out.size)))
      have f1 := (AT4.out.keep hb).at 1 rfl
      have f2 := (AT4.out.keep hb).at 2 rfl
      have k1 := (A5.out.keep hb).at 1 rfl
      have k2 := (A5.out.keep hb).at 2 rfl
      have y1 : (C == C) = true := by simp
      have y2 : (L == L) = true := by simp
      clear hb f0 k0
      go_wp2_with fail
      go_ret
      exact ⟨rfl, by rw [HB.out]; exact BT6.out⟩
    · have e0 : (reg != 0) = true := by simpa using hr0
      go_wp2_with fail
      obtain ⟨O5, hU5, hO5, hK5⟩ := H2.out
      have U5 := Lib.hid hU5
      have HO5 := Lib.hid hO5
      have HK5 := Lib.hid hK5
      clear hU5 hO5 hK5
      refine (Read_quiet b _ O5 reg X2 hI hr0 U5.out).mono ?_
      rintro e X3 ⟨rfl, hb⟩
      have U6 := Lib.hid (U5.out.keep hb)
      have B23 := Lib.hid hb
      clear hb
      go_wp2_with fail
      refine (State_any b _ _ X3 U6.out).mono ?_
      rintro e X4a ⟨⟨s2, t2, rfl, hso⟩, hb⟩
      simp only [Hn.out] at hso ⊢
      have R0 := Lib.hid hso
      have B0 := Lib.hid hb
      obtain ⟨g11, hg⟩ : ∃ g, X4a.heap.size = g := ⟨_, rfl⟩
      clear hso hb
      go_wp2_with (with_reducible refine at_store _ _ _ rfl ?_)
      refine Lib.hid ?_
      have hnew := Blk.new X4a 37 [.slice none 0 0, .int .u32 0, .int .u32 0]
      rw [hg] at hnew
      refine store_all rfl _ _ _ rfl g11 [.slice s2 n t2, .int .u32 C, .int .u32 L] rfl rfl _ _ hnew (by kernel_rfl) rfl (by simp [Value.oneCell']) ?_
      intro X4 hX hoX
      have hal := (Below.refl X4a.heap.size X4a).alloc (Nat.le_refl _) (.cells #[.slice none 0 0, .int .u32 0, .int .u32 0] 37)
      have hbX : Below X4a.heap.size X4a X4 := hal.trans (hoX.below hal.size (fun j e => by rw [e, ← hg]; exact Nat.le_refl _))
      have BX4 := Lib.hid (B0.out.trans (hbX.mono B0.out.size))
      have RV := Lib.hid (own_keep R0.out hbX)
      have AX4 := Lib.hid hX
      have hgX4 : X3.heap.size ≤ g11 ∧ g11 < X4.heap.size := ⟨by rw [← hg]; exact B0.out.size, hX.lt⟩
      clear hX hoX hal hbX hnew hg R0 B0
      have B24 := Lib.hid (B23.out.trans (BX4.out.mono B23.out.size))
      have R3 := Lib.hid (own_keep R2.out B24.out)
      have A3 := Lib.hid (A2.out.keep B24.out)
      have f0 := AX4.out.at 0 rfl
      have k0 := A3.out.at 0 rfl
      go_wp2_with fail
      refine (same_own RV.out R3.out (by omega)).mono ?_
      rintro e X5 ⟨rfl, hb⟩
      have B25 := Lib.hid (B24.out.trans (hb.mono B24.out.size))
      have f1 := (AX4.out.keep hb).at 1 rfl
      have f2 := (AX4.out.keep hb).at 2 rfl
      have k1 := (A3.out.keep hb).at 1 rfl
      have k2 := (A3.out.keep hb).at 2 rfl
      have AG := Lib.hid (AX4.out.keep hb)
      have y1 : (C != C) = false := by simp
      have y2 : (L != L) = false := by simp
      have hg5 : X2.heap.size ≤ g11 ∧ g11 < X5.heap.size := ⟨Nat.le_trans B23.out.size hgX4.1, Nat.lt_of_lt_of_le hgX4.2 hb.size⟩
      clear hb f0 k0
      go_wp2_with fail
      have H5 := Lib.hid (H2.out.also B25.out (fun j => j = g11) (fun j e => by rw [e]; exact hg5))
      refine (Write_hold _ b _ reg v X5 hI hv H5.out).mono ?_
      rintro e X6 ⟨rfl, h3, o3⟩
      have H6 := Lib.hid h3
      have O6 := Lib.hid o3
      have hwk := write_keeps ⟨Ws, C, L⟩ v hr0
      obtain ⟨u6, hu6⟩ : ∃ q, writeX ⟨Ws, C, L⟩ reg v = q := ⟨_, rfl⟩
      rw [hu6] at H6 hwk
      obtain ⟨W6, C6, L6⟩ := u6
      obtain rfl : W6 = Ws := hwk
      have AG6 := Lib.hid (AG.out.only O6.out (fun e => e (.inr rfl)))
      have R6 := Lib.hid (own_only (own_keep R2.out B25.out) O6.out (fun j hj e => e (.inl (KR.out j hj))))
      have A6 := Lib.hid ((A2.out.keep B25.out).only O6.out (fun e => e (.inl Kg.out)))
      have C6' := Lib.hid ((C2.out.keep B25.out).only O6.out (fun j hj e => e (.inl (KC.out j hj))))
      have B5' := Lib.hid (B4.out.trans (B25.out.mono (by rw [← HB.out]; exact B4.out.size)))
      have B6 := Lib.hid (below_only B5'.out O6.out (by rw [HB.out]; exact Nat.le_refl _) (fun j hj => .inl (KB.out j hj)))
      obtain ⟨O7, hU7, hO7, hK7⟩ := H6.out
      have U7 := Lib.hid hU7
      have HH7 := Lib.hid H6.out
      have hG := Lib.hid hg5
      have hKlt := Lib.hid (show ∀ j, K j → j < X2.heap.size from HK5.out)
      have hX56 := Lib.hid (And.intro B25.out.size O6.out.size)
      clear h3 o3 hU7 hO7 hK7 hu6 f1 f2 k1 k2 y1 y2 hg5 AG O6 H5 H6 B25 B24 B23 U5 U6 HO5 HK5 R3 A3 RV AX4 BX4 hgX4 R2 A2 C2 B4 B5' H2
      go_wp2_with fail
      refine (State_any b _ O7 X6 U7.out).mono ?_
      rintro e X7 ⟨⟨s3, t3, rfl, hso⟩, hb⟩
      simp only [Hn.out] at hso ⊢
      have R7 := Lib.hid (own_keep R6.out hb)
      have RS := Lib.hid hso
      have A7 := Lib.hid (A6.out.keep hb)
      have AG7 := Lib.hid (AG6.out.keep hb)
      have C7 := Lib.hid (C6'.out.keep hb)
      have B7 := Lib.hid (B6.out.trans (hb.mono (by rw [← HB.out]; exact B6.out.size)))
      have H7 := Lib.hid (HH7.out.keep hb)
      have hs7 := Lib.hid hb.size
      clear hb hso R6 A6 AG6 C6' B6 HH7 U7
      go_wp2_with (with_reducible refine at_store _ _ _ rfl ?_)
      refine Lib.hid ?_
      refine store_all rfl _ _ _ rfl g11 [.slice s3 n t3, .int .u32 C6, .int .u32 L6] rfl rfl _ _ AG7.out (by kernel_rfl) rfl (by simp [Value.oneCell']) ?_
      intro X8 hX hoX
      have hgK : ¬ K g11 := fun e => by have h1 := hKlt.out g11 e; have h2 := hG.out.1; omega
      have RS8 := Lib.hid (own_only RS.out hoX (fun j hj e => by have h1 := (own_lt RS.out j hj).1; have h2 := hG.out.2; have h3 := hX56.out.2; omega))
      have R8 := Lib.hid (own_only R7.out hoX (fun j hj e => hgK (by rw [← e]; exact KR.out j hj)))
      have A8 := Lib.hid (A7.out.only hoX (fun e => hgK (by rw [← e]; exact Kg.out)))
      have C8 := Lib.hid (C7.out.only hoX (fun j hj e => hgK (by rw [← e]; exact KC.out j hj)))
      have H8 := Lib.hid ((H7.out.far (S := fun j => j = g11) (fun j e => .inr e) hoX).less (K' := K) (fun j hj => .inl hj))
      have B8 := Lib.hid (B7.out.trans (hoX.below (by rw [← HB.out]; exact B7.out.size) (fun j e => by have h1 := hG.out.1; have h2 := (KB.out); rw [e]; exact Nat.le_of_not_lt (fun h => hgK (h2 g11 h)))))
      have f0 := hX.at 0 rfl
      have k0 := A8.out.at 0 rfl
      clear hX hoX hgK RS R7 A7 C7 H7 B7 AG7
      go_wp2_with fail
      refine (same_own RS8.out R8.out (by omega)).mono ?_
      rintro e X9 ⟨rfl, hb⟩
      have H9 := Lib.hid (H8.out.keep hb)
      have R9 := Lib.hid (own_keep R8.out hb)
      have A9 := Lib.hid (A8.out.keep hb)
      have C9 := Lib.hid (C8.out.keep hb)
      have B9 := Lib.hid (B8.out.trans (hb.mono (by rw [← HB.out]; exact B8.out.size)))
      clear hb f0 k0 H8 R8 A8 C8 B8 RS8
      go_wp2_with fail
      refine (Read_hold K b _ 0 X9 ⟨by omega, by omega⟩ H9.out).mono ?_
      rintro e T1 ⟨rfl, h3, o3⟩
      have HT1 := Lib.hid h3
      have OT1 := Lib.hid o3
      clear h3 o3
      go_wp2_with fail
      refine (Write_hold K b _ 0 v T1 ⟨by omega, by omega⟩ hv HT1.out).mono ?_
      rintro e T2 ⟨rfl, h3, o3⟩
      have HT2 := Lib.hid h3
      have OT2 := Lib.hid (OT1.out.trans o3)
      clear h3 o3 HT1 OT1
      go_wp2_with fail
      refine (Write_hold K b _ 2 1 T2 ⟨by omega, by omega⟩ ⟨by omega, by omega⟩ HT2.out).mono ?_
      rintro e T3 ⟨rfl, h3, o3⟩
      have OT3 := Lib.hid (OT2.out.trans o3)
      have C3 := Lib.hid (C9.out.only OT3.out (fun j hj e => e (KC.out j hj)))
      have R3 := Lib.hid (own_only R9.out OT3.out (fun j hj e => e (KR.out j hj)))
      have A3 := Lib.hid (A9.out.only OT3.out (fun e => e Kg.out))
      have BT := Lib.hid (below_only B9.out OT3.out (by rw [HB.out]; exact Nat.le_refl _) KB.out)
      clear h3 o3 HT2 OT2 OT3
      go_wp2_with fail
      refine (State_any c _ _ T3 C3.out).mono ?_
      rintro e T4a ⟨⟨sd, se, rfl, hso⟩, hb⟩
      simp only [Hn.out] at hso ⊢
      have R0 := Lib.hid hso
      have B0 := Lib.hid hb
      obtain ⟨g12, hg⟩ : ∃ g, T4a.heap.size = g := ⟨_, rfl⟩
      clear hso hb
      go_wp2_with (with_reducible refine at_store _ _ _ rfl ?_)
      refine Lib.hid ?_
      have hnew := Blk.new T4a 37 [.slice none 0 0, .int .u32 0, .int .u32 0]
      rw [hg] at hnew
      refine store_all rfl _ _ _ rfl g12 [.slice sd n se, .int .u32 C, .int .u32 L] rfl rfl _ _ hnew (by kernel_rfl) rfl (by simp [Value.oneCell']) ?_
      intro T4 hX hoX
      have hal := (Below.refl T4a.heap.size T4a).alloc (Nat.le_refl _) (.cells #[.slice none 0 0, .int .u32 0, .int .u32 0] 37)
      have hbX : Below T4a.heap.size T4a T4 := hal.trans (hoX.below hal.size (fun j e => by rw [e, ← hg]; exact Nat.le_refl _))
      have BT4 := Lib.hid (B0.out.trans (hbX.mono B0.out.size))
      have R4 := Lib.hid (own_keep R0.out hbX)
      have AT4 := Lib.hid hX
      have hgT4 : T3.heap.size ≤ g12 ∧ g12 < T4.heap.size := ⟨by rw [← hg]; exact B0.out.size, hX.lt⟩
      clear hX hoX hal hbX hnew hg R0 B0
      have R5 := Lib.hid (own_keep R3.out BT4.out)
      have A5 := Lib.hid (A3.out.keep BT4.out)
      have BT5 := Lib.hid (BT.out.trans (BT4.out.mono (by rw [← HB.out]; exact BT.out.size)))
      have f0 := AT4.out.at 0 rfl
      have k0 := A5.out.at 0 rfl
      go_wp2_with fail
      refine (same_own R4.out R5.out (by omega)).mono ?_
      rintro e T5 ⟨rfl, hb⟩
      have BT6 := Lib.hid (BT5.out.trans (hb.mono (by rw [← HB.out]; exact BT5.out.size)))
      have f1 := (AT4.out.keep hb).at 1 rfl
      have f2 := (AT4.out.keep hb).at 2 rfl
      have k1 := (A5.out.keep hb).at 1 rfl
      have k2 := (A5.out.keep hb).at 2 rfl
      have y1 : (C == C) = true := by simp
      have y2 : (L == L) = true := by simp
      clear hb f0 k0
      go_wp2_with fail
      go_ret
      exact ⟨rfl, by rw [HB.out]; exact BT6.out⟩
end Go.Proofs.Ytkcghcoacjpbkaa.Mbox
