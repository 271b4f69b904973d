/- DeviceRefuses. -/
import Derived.Test.YtknhgfofmkpnfaaGreatS5l
import Derived.Test.YtknhgfofmkpnfaaGreatSv
namespace Go.Proofs.YtknhgfofmkpnfaaGreat.Devs
set_option linter.unusedSectionVars false
variable [Inhabited Lane.OTab]
open Go.RowKit Go.Maps Go.ChangeShapes Go.WideShapes Go.ChangeAt Fifo Orow Word Win Mbox
set_option linter.unusedVariables false

/-- Does it fit? -/
def fitsD (d : Dv) (off size : Int) : Bool := match d with
  | .ram bs => Ram.placeB bs.length off size
  | _ => decide (size = 4 ∧ 0 ≤ off ∧ off ≤ 28 ∧ off % 4 = 0)
theorem fits_zero (d : Dv) (off size : Int) : fitsD (zeroD d) off size = fitsD d off size := by cases d <;> simp [fitsD, zeroD, Ram.zerosB]
theorem fits_ram {E : Dv} {k S off size : Int} (hz : zeroD E = newD k S) (hk : k = 1) (hS : 4 ≤ S) : fitsD E off size = true ↔ ((size = 1 ∨ size = 2 ∨ size = 4) ∧ 0 ≤ off ∧ off < S ∧ off % size = 0) := by
  rw [← fits_zero, hz, hk]
  show Ram.placeB (Ram.zerosB S.toNat).length off size = true ↔ _
  unfold Ram.placeB Word.sizeB
  simp only [Ram.zerosB, List.length_replicate, Bool.and_eq_true, decide_eq_true_eq, Int.toNat_of_nonneg (show 0 ≤ S by omega)]
  try omega
theorem fits_reg {E : Dv} {k S off size : Int} (hz : zeroD E = newD k S) (hk : k ≠ 1) (h6 : 1 ≤ k ∧ k ≤ 6) : fitsD E off size = true ↔ (size = 4 ∧ 0 ≤ off ∧ off ≤ 28 ∧ off % 4 = 0) := by
  have hkd : kindD E = k := by rw [← kind_zero, hz]; exact kind_new h6
  cases E with
  | ram bs => exact absurd hkd.symm hk
  | _ => simp [fitsD]
theorem read_fits (d : Dv) (off size : Int) : (readD d off size).2.1 = fitsD d off size := by
  cases d with
  | ram bs => rfl
  | _ =>
    simp only [readD, fitsD]
    by_cases h : regD off size < 0
    · rw [if_pos h]; exact (decide_eq_false (reg_no h)).symm
    · rw [if_neg h]; exact (decide_eq_true (reg_yes h).1).symm
theorem read_none {d : Dv} {off size : Int} (h : fitsD d off size = false) : readD d off size = (0, false, d) := by
  cases d with
  | ram bs =>
    have h : Ram.placeB bs.length off size = false := h
    simp only [readD, Ram.read_no h, h]
  | _ =>
    simp only [readD, fitsD] at h ⊢
    have h := of_decide_eq_false h
    rw [if_pos (by have := reg_b off size; exact Decidable.byContradiction fun e => h (reg_yes e).1)]
theorem read_same {d : Dv} {off size : Int} (h : ¬ (off = 0 ∧ (kindD d = 3 ∨ kindD d = 4))) : (readD d off size).2.2 = d := by
  cases d with
  | ram bs => rfl
  | uar u =>
    have h0 : off ≠ 0 := fun e => h ⟨e, .inl rfl⟩
    simp only [readD]
    by_cases hr : regD off size < 0
    · rw [if_pos hr]
    · rw [if_neg hr]
      obtain ⟨h1, h2⟩ := reg_yes hr
      show Dv.uar (Uart.readU u (regD off size)).2 = _
      rw [h2]
      have : (Uart.readU u (off / 4)).2 = u := by
        unfold Uart.readU
        rw [if_neg (by omega)]
        split
        · rfl
        split <;> rfl
      rw [this]
  | box u =>
    have h0 : off ≠ 0 := fun e => h ⟨e, .inr rfl⟩
    simp only [readD]
    by_cases hr : regD off size < 0
    · rw [if_pos hr]
    · rw [if_neg hr]
      obtain ⟨h1, h2⟩ := reg_yes hr
      show Dv.box (Mbox.readX u (regD off size)).2 = _
      rw [h2]
      have : (Mbox.readX u (off / 4)).2 = u := by
        unfold Mbox.readX
        rw [if_neg (by omega)]
        split
        · rfl
        split
        · rfl
        split <;> rfl
      rw [this]
  | _ =>
    simp only [readD]
    split <;> rfl
theorem write_fits (d : Dv) (off size v : Int) : (writeD d off size v).1 = fitsD d off size := by
  cases d with
  | ram bs => rfl
  | _ =>
    simp only [writeD, fitsD]
    by_cases h : regD off size < 0
    · rw [if_pos h]; exact (decide_eq_false (reg_no h)).symm
    · rw [if_neg h]; exact (decide_eq_true (reg_yes h).1).symm
theorem write_none {d : Dv} {off size v : Int} (h : fitsD d off size = false) : writeD d off size v = (false, d) := by
  cases d with
  | ram bs =>
    have h : Ram.placeB bs.length off size = false := h
    simp only [writeD, Ram.write_no h, h]
  | _ =>
    simp only [writeD, fitsD] at h ⊢
    have h := of_decide_eq_false h
    rw [if_pos (by have := reg_b off size; exact Decidable.byContradiction fun e => h (reg_yes e).1)]
set_option maxRecDepth 100000 in
set_option maxHeartbeats 16000000 in
theorem refuses_walk (Bk : Nat) (k Bv S o l : Int) (a1 : Option Addr) (len1 cap1 : Nat) (l1 : List Dd) (off size v : Int) (w : World) (hL : Laid w Bk) (hBk0 : Bk ≤ w.heap.size) (hk : I64 k) (hBv : 0 ≤ Bv ∧ Bv < 4294967296) (hS : I64 S) (ho : I64 o) (hl : I64 l) (h1 : RowDd w a1 len1 l1) (hoff : I64 off) (hsize : I64 size) (hv0 : 0 ≤ v ∧ v < 4294967296) :
    Calls Tryz.prog 4 #[devA k Bv S o l, .slice a1 len1 cap1, .int .i64 off, .int .i64 size, .int .u32 v] w fun z w' => z = .returned (.bool true) ∧ Below w.heap.size w w' := by
  obtain ⟨B, hBe⟩ : ∃ B, w.heap.size = B := ⟨_, rfl⟩
  rw [hBe] at hBk0 ⊢
  have HBw := Lib.hid hBe
  have HB := Lib.hid (show B ≤ w.heap.size by omega)
  have HBk := Lib.hid hBk0
  have HLd := Lib.hid hL
  have HV := Lib.hid (show I64 k ∧ (0 ≤ Bv ∧ Bv < 4294967296) ∧ I64 S ∧ I64 o ∧ I64 l from ⟨hk, hBv, hS, ho, hl⟩)
  have H1 := Lib.hid h1
  have HI := Lib.hid (show I64 off ∧ I64 size ∧ (0 ≤ v ∧ v < 4294967296) from ⟨hoff, hsize, hv0⟩)
  clear hoff hsize hv0
  clear hBe hBk0 hL hk hBv hS ho hl h1
  go_enter Tryz.func4, Tryz.ntmps4
  go_wp2_with fail
  refine calls_letter' ?_
  intro x0 hx
  have C0 := Lib.hid (show Below B w x0 from by rw [hx.out]; exact (Below.refl _ _).alloc HB.out _)
  have FX := Lib.hid (show Blk x0 B 25 [.int .i64 k, .int .u32 Bv, .int .i64 S, .int .i64 o, .int .i64 l] from by rw [hx.out, ← HBw.out]; exact Blk.new w _ _)
  clear hx
  refine (awake_any Bk x0.heap.size x0 (HLd.out.keep (C0.out.mono HBk.out)) (Nat.le_trans HBk.out (Nat.le_trans HB.out C0.out.size)) (Nat.le_refl _)).mono ?_
  rintro z x1 ⟨rfl, hb⟩
  have C1 := Lib.hid (C0.out.trans (hb.mono (Nat.le_trans HB.out C0.out.size)))
  have FX1 := Lib.hid (FX.out.keep hb)
  clear hb FX C0
  have e0 := FX1.out.at 0 rfl
  have e1 := FX1.out.at 1 rfl
  have e2 := FX1.out.at 2 rfl
  have e3 := FX1.out.at 3 rfl
  have e4 := FX1.out.at 4 rfl
  rw [← HBw.out] at e0 e1 e2 e3 e4
  cases hv : devV k Bv S o l with
  | false =>
    go_wp2_with fail
    refine (New_no k Bv S o l x1 HV.out.1 HV.out.2.1 HV.out.2.2.1 HV.out.2.2.2.1 HV.out.2.2.2.2 hv).mono ?_
    rintro z x21 ⟨rfl, hb⟩
    have F22 := Lib.hid (FX1.out.keep hb)
    clear FX1
    have C23 := Lib.hid (cbl HB.out C1.out hb)
    clear C1
    clear hb
    go_wp2_with fail
    go_ret
    exact ⟨rfl, C23.out⟩
  | true =>
    obtain ⟨hk6, hS4, -⟩ := dev_parts hv
    have HZ := Lib.hid (zero_newD (S := S) hk6)
    go_wp2_with fail
    have LTx := Lib.hid (ltb FX1.out)
    refine (New_yes Bk k Bv S o l x1 HV.out.2.1 (HLd.out.keep (C1.out.mono HBk.out)) (Nat.le_trans HBk.out (csz HB.out C1.out)) hv).mono ?_
    rintro z x21 ⟨⟨b21, O21, X21, rfl, hd, hn, hx⟩, hb⟩
    have F21d := Lib.hid hd
    have HO21 := Lib.hid (ogn HB.out C1.out hn)
    have F22 := Lib.hid (FX1.out.keep hb)
    clear FX1
    have C23 := Lib.hid (cbl HB.out C1.out hb)
    clear C1
    have A24 := Lib.hid (apn hn LTx.out)
    clear hd hn hx hb
    clear LTx 
    clear e0 e1 e2 e3 e4
    by_cases h1 : len1 ≤ 120
    rotate_left
    · have d1 : decide ((120 : Int) < (len1 : Int)) = true := decide_eq_true (by omega)
      go_wp2_with fail
      go_ret
      exact ⟨rfl, C23.out⟩
    have d1 : decide ((120 : Int) < (len1 : Int)) = false := decide_eq_false (by omega)
    go_wp2_with fail
    have LTx := Lib.hid (ltb F22.out)
    have LTd := Lib.hid (ltd F21d.out)
    refine (run_any Bk B b21 (newD k S) O21 a1 len1 cap1 l1 w x21 H1.out HBw.out C23.out HO21.out HBk.out h1 F21d.out).mono ?_
    rintro z x25 ⟨v25, n25, O25, rfl, hS⟩
    have e := hS.len
    subst e
    have hk2 := hS.only
    have hk3 := hS.own
    have hr := hS.row
    have F25d := Lib.hid hS.dev
    have F25r := Lib.hid hS.row
    have A25a := Lib.hid hS.ap
    have N25 := Lib.hid hS.few
    have F26 := Lib.hid (F22.out.only hk2 ((ops A24.out) _ rfl))
    clear F22
    have A27 := Lib.hid (apt hk3 (ops A24.out) LTx.out)
    clear A24
    have HO28 := Lib.hid (ogt HB.out C23.out hk3 HO21.out)
    have C29 := Lib.hid (cto HB.out C23.out hk2 HO21.out)
    clear C23 HO21 F21d
    have A30 := Lib.hid (apn (gtr hr) LTx.out)
    clear hS hk2 hk3 hr
    clear LTx LTd 
    clear F25r
    obtain ⟨E, hE⟩ : ∃ E, (runV (newD k S) l1).2 = E := ⟨_, rfl⟩
    have hzE : zeroD E = newD k S := by rw [← hE, runV_zero, HZ.out]
    have hkE : kindD E = k := by rw [← kind_zero, hzE]; exact kind_new hk6
    have F31 := Lib.hid (show Dev Bk x25 b21 E O25 X21 from by have := F25d.out; rw [hE] at this; exact this)
    clear F25d
    clear hE
    go_wp2_with fail
    have LTx := Lib.hid (ltb F26.out)
    have LTd := Lib.hid (ltd F31.out)
    refine (look_row Bk B b21 E O25 x25 (csz HB.out C29.out) F31.out).mono ?_
    rintro z x32 ⟨⟨v32, rfl, hv⟩, hb⟩
    have F32r := Lib.hid hv
    have F33 := Lib.hid (F26.out.keep hb)
    clear F26
    have F34 := Lib.hid (F31.out.keep hb)
    clear F31
    have C35 := Lib.hid (cbl HB.out C29.out hb)
    clear C29
    have A36 := Lib.hid (apn (gtr hv) LTx.out)
    have A37 := Lib.hid (apn (gtr hv) LTd.out)
    clear hv hb
    clear LTx LTd 
    obtain ⟨e0, e1, e2, e3, e4⟩ := five HBw.out F33.out
    have HBX := Lib.hid True.intro
    have HKb := Lib.hid hk6
    by_cases hk1 : k = 1
    ·
     by_cases g1 : size = 4
     ·
      subst g1
      by_cases g2 : 0 ≤ off
      ·
       by_cases g3 : off < 32
       ·
        by_cases g4 : off % 4 = 0
        ·
         by_cases g5 : off < S
         ·
          by_cases g6 : off = 0
          ·
           first | have q0 := qt (a := off) (b := 0) (by omega) | have q0 := qf (a := off) (b := 0) (by omega) | skip
           first | have q1 := qt (a := k) (b := 1) (by omega) | have q1 := qf (a := k) (b := 1) (by omega) | skip
           first | have q2 := qt (a := k) (b := 3) (by omega) | have q2 := qf (a := k) (b := 3) (by omega) | skip
           first | have q3 := qt (a := k) (b := 4) (by omega) | have q3 := qf (a := k) (b := 4) (by omega) | skip
           first | have p0 := decide_eq_true (p := 0 ≤ off) (by omega) | have p0 := decide_eq_false (p := 0 ≤ off) (by omega) | skip
           first | have p1 := decide_eq_true (p := off < 32) (by omega) | have p1 := decide_eq_false (p := off < 32) (by omega) | skip
           first | have p2 := decide_eq_true (p := off < S) (by omega) | have p2 := decide_eq_false (p := off < S) (by omega) | skip
           first | have s0 := st (a := off) (n := 4) (by omega) (by omega) | have s0 := sf (a := off) (n := 4) (by omega) (by omega) | skip
           first | have s1 := st (a := off) (n := 2) (by omega) (by omega) | have s1 := sf (a := off) (n := 2) (by omega) (by omega) | skip
           first | have s2 := st (a := off) (n := 1) (by omega) (by omega) | have s2 := sf (a := off) (n := 1) (by omega) (by omega) | skip
           have HFit := Lib.hid (show fitsD E off 4 = true from (fits_ram hzE (by omega) (by omega)).2 ⟨by omega, by omega, by omega, by omega⟩)
           have HSm := Lib.hid (read_same (d := E) (off := off) (size := 4) (by rw [hkE]; omega))
           have HRd := Lib.hid (fun (b : Nat) (O X : Nat → Prop) (W : World) (h : Dev Bk W b E O X) => Read_any Bk b E O off 4 W HI.out.1 HI.out.2.1 h)
           rw [read_fits, HFit.out] at HRd
           rw [HSm.out] at HRd
           obtain ⟨rv, hrv⟩ : ∃ rv, (readD E off 4).1 = rv := ⟨_, rfl⟩
           rw [hrv] at HRd
           clear hrv
           clear hzE hkE hS4 hk6 hk1 g2 g3 g4 g5 g6
           go_wp2_with fail
           have LTx := Lib.hid (ltb F33.out)
           have LTd := Lib.hid (ltd F34.out)
           have LTwas := Lib.hid (ltr F32r.out)
           refine (HRd.out _ _ _ _ F34.out).mono ?_
           rintro z x38 ⟨rfl, O38, k1, k2, k3⟩
           have F38d := Lib.hid (k1)
           have F39 := Lib.hid (F33.out.only k2 (A27.out _ rfl))
           clear F33
           have A40 := Lib.hid (apt k3 A27.out LTx.out)
           clear A27
           have F41 := Lib.hid (row_only F32r.out k2 A37.out)
           clear F32r
           have A42 := Lib.hid (apt k3 A37.out LTwas.out)
           clear A37
           have HO43 := Lib.hid (ogt HB.out C35.out k3 HO28.out)
           have C44 := Lib.hid (cto HB.out C35.out k2 HO28.out)
           clear C35 HO28 F34
           clear k1 k2 k3
           clear LTx LTd LTwas 
           clear e0 e1 e2 e3 e4
           obtain ⟨e0, e1, e2, e3, e4⟩ := five HBw.out F39.out
           go_wp2_with fail
           have LTx := Lib.hid (ltb F39.out)
           have LTd := Lib.hid (ltd F38d.out)
           have LTwas := Lib.hid (ltr F41.out)
           refine (look_row Bk B b21 E O38 x38 (csz HB.out C44.out) F38d.out).mono ?_
           rintro z x45 ⟨⟨v45, rfl, hv⟩, hb⟩
           have F45r := Lib.hid hv
           have F46 := Lib.hid (F39.out.keep hb)
           clear F39
           have F47 := Lib.hid (F38d.out.keep hb)
           clear F38d
           have F48 := Lib.hid (Orow.own_keep F41.out hb)
           clear F41
           have C49 := Lib.hid (cbl HB.out C44.out hb)
           clear C44
           have A50 := Lib.hid (apn (gtr hv) LTx.out)
           have A51 := Lib.hid (apn (gtr hv) LTd.out)
           have A52 := Lib.hid (apn (gtr hv) LTwas.out)
           clear hv hb
           clear LTx LTd LTwas 
           go_wp2_with fail
           refine (same_limbs F45r.out F48.out (by have := (look_len F47.out.ok).2; omega)).mono ?_
           rintro z x53 ⟨rfl, hb⟩
           have F54 := Lib.hid (F46.out.keep hb)
           clear F46
           have F55 := Lib.hid (F47.out.keep hb)
           clear F47
           have F56 := Lib.hid (Orow.own_keep F48.out hb)
           clear F48
           have F57 := Lib.hid (Orow.own_keep F45r.out hb)
           clear F45r
           have C58 := Lib.hid (cbl HB.out C49.out hb)
           clear C49
           clear hb
           clear F57
           clear F56
           go_wp2_with fail
           have LTx := Lib.hid (ltb F54.out)
           have LTd := Lib.hid (ltd F55.out)
           refine (look_row Bk B b21 E O38 x53 (csz HB.out C58.out) F55.out).mono ?_
           rintro z x59 ⟨⟨v59, rfl, hv⟩, hb⟩
           have F59r := Lib.hid hv
           have F60 := Lib.hid (F54.out.keep hb)
           clear F54
           have F61 := Lib.hid (F55.out.keep hb)
           clear F55
           have C62 := Lib.hid (cbl HB.out C58.out hb)
           clear C58
           have A63 := Lib.hid (apn (gtr hv) LTx.out)
           have A64 := Lib.hid (apn (gtr hv) LTd.out)
           clear hv hb
           clear LTx LTd 
           go_wp2_with fail
           have LTx := Lib.hid (ltb F60.out)
           have LTd := Lib.hid (ltd F61.out)
           have LTwas := Lib.hid (ltr F59r.out)
           refine (Write_any Bk b21 E O38 off 4 v x59 HI.out.1 HI.out.2.1 HI.out.2.2 F61.out).mono ?_
           rintro z x65 ⟨hz, O65, k1, k2, k3⟩
           rw [write_fits, HFit.out] at hz
           subst hz
           have F65d := Lib.hid (k1)
           have F66 := Lib.hid (F60.out.only k2 (A40.out _ rfl))
           clear F60
           have A67 := Lib.hid (apt k3 A40.out LTx.out)
           clear A40
           have F68 := Lib.hid (row_only F59r.out k2 A64.out)
           clear F59r
           have A69 := Lib.hid (apt k3 A64.out LTwas.out)
           clear A64
           have HO70 := Lib.hid (ogt HB.out C62.out k3 HO43.out)
           have C71 := Lib.hid (cto HB.out C62.out k2 HO43.out)
           clear C62 HO43 F61
           clear k1 k2 k3
           clear LTx LTd LTwas 
           go_wp2_with fail
           go_ret
           exact ⟨rfl, C71.out⟩
          ·
           first | have q0 := qt (a := off) (b := 0) (by omega) | have q0 := qf (a := off) (b := 0) (by omega) | skip
           first | have q1 := qt (a := k) (b := 1) (by omega) | have q1 := qf (a := k) (b := 1) (by omega) | skip
           first | have q2 := qt (a := k) (b := 3) (by omega) | have q2 := qf (a := k) (b := 3) (by omega) | skip
           first | have q3 := qt (a := k) (b := 4) (by omega) | have q3 := qf (a := k) (b := 4) (by omega) | skip
           first | have p0 := decide_eq_true (p := 0 ≤ off) (by omega) | have p0 := decide_eq_false (p := 0 ≤ off) (by omega) | skip
           first | have p1 := decide_eq_true (p := off < 32) (by omega) | have p1 := decide_eq_false (p := off < 32) (by omega) | skip
           first | have p2 := decide_eq_true (p := off < S) (by omega) | have p2 := decide_eq_false (p := off < S) (by omega) | skip
           first | have s0 := st (a := off) (n := 4) (by omega) (by omega) | have s0 := sf (a := off) (n := 4) (by omega) (by omega) | skip
           first | have s1 := st (a := off) (n := 2) (by omega) (by omega) | have s1 := sf (a := off) (n := 2) (by omega) (by omega) | skip
           first | have s2 := st (a := off) (n := 1) (by omega) (by omega) | have s2 := sf (a := off) (n := 1) (by omega) (by omega) | skip
           have HFit := Lib.hid (show fitsD E off 4 = true from (fits_ram hzE (by omega) (by omega)).2 ⟨by omega, by omega, by omega, by omega⟩)
           have HSm := Lib.hid (read_same (d := E) (off := off) (size := 4) (by rw [hkE]; omega))
           have HRd := Lib.hid (fun (b : Nat) (O X : Nat → Prop) (W : World) (h : Dev Bk W b E O X) => Read_any Bk b E O off 4 W HI.out.1 HI.out.2.1 h)
           rw [read_fits, HFit.out] at HRd
           rw [HSm.out] at HRd
           obtain ⟨rv, hrv⟩ : ∃ rv, (readD E off 4).1 = rv := ⟨_, rfl⟩
           rw [hrv] at HRd
           clear hrv
           clear hzE hkE hS4 hk6 hk1 g2 g3 g4 g5 g6
           go_wp2_with fail
           have LTx := Lib.hid (ltb F33.out)
           have LTd := Lib.hid (ltd F34.out)
           have LTwas := Lib.hid (ltr F32r.out)
           refine (HRd.out _ _ _ _ F34.out).mono ?_
           rintro z x38 ⟨rfl, O38, k1, k2, k3⟩
           have F38d := Lib.hid (k1)
           have F39 := Lib.hid (F33.out.only k2 (A27.out _ rfl))
           clear F33
           have A40 := Lib.hid (apt k3 A27.out LTx.out)
           clear A27
           have F41 := Lib.hid (row_only F32r.out k2 A37.out)
           clear F32r
           have A42 := Lib.hid (apt k3 A37.out LTwas.out)
           clear A37
           have HO43 := Lib.hid (ogt HB.out C35.out k3 HO28.out)
           have C44 := Lib.hid (cto HB.out C35.out k2 HO28.out)
           clear C35 HO28 F34
           clear k1 k2 k3
           clear LTx LTd LTwas 
           clear e0 e1 e2 e3 e4
           obtain ⟨e0, e1, e2, e3, e4⟩ := five HBw.out F39.out
           go_wp2_with fail
           have LTx := Lib.hid (ltb F39.out)
           have LTd := Lib.hid (ltd F38d.out)
           have LTwas := Lib.hid (ltr F41.out)
           refine (look_row Bk B b21 E O38 x38 (csz HB.out C44.out) F38d.out).mono ?_
           rintro z x45 ⟨⟨v45, rfl, hv⟩, hb⟩
           have F45r := Lib.hid hv
           have F46 := Lib.hid (F39.out.keep hb)
           clear F39
           have F47 := Lib.hid (F38d.out.keep hb)
           clear F38d
           have F48 := Lib.hid (Orow.own_keep F41.out hb)
           clear F41
           have C49 := Lib.hid (cbl HB.out C44.out hb)
           clear C44
           have A50 := Lib.hid (apn (gtr hv) LTx.out)
           have A51 := Lib.hid (apn (gtr hv) LTd.out)
           have A52 := Lib.hid (apn (gtr hv) LTwas.out)
           clear hv hb
           clear LTx LTd LTwas 
           go_wp2_with fail
           refine (same_limbs F45r.out F48.out (by have := (look_len F47.out.ok).2; omega)).mono ?_
           rintro z x53 ⟨rfl, hb⟩
           have F54 := Lib.hid (F46.out.keep hb)
           clear F46
           have F55 := Lib.hid (F47.out.keep hb)
           clear F47
           have F56 := Lib.hid (Orow.own_keep F48.out hb)
           clear F48
           have F57 := Lib.hid (Orow.own_keep F45r.out hb)
           clear F45r
           have C58 := Lib.hid (cbl HB.out C49.out hb)
           clear C49
           clear hb
           clear F57
           clear F56
           go_wp2_with fail
           have LTx := Lib.hid (ltb F54.out)
           have LTd := Lib.hid (ltd F55.out)
           refine (look_row Bk B b21 E O38 x53 (csz HB.out C58.out) F55.out).mono ?_
           rintro z x59 ⟨⟨v59, rfl, hv⟩, hb⟩
           have F59r := Lib.hid hv
           have F60 := Lib.hid (F54.out.keep hb)
           clear F54
           have F61 := Lib.hid (F55.out.keep hb)
           clear F55
           have C62 := Lib.hid (cbl HB.out C58.out hb)
           clear C58
           have A63 := Lib.hid (apn (gtr hv) LTx.out)
           have A64 := Lib.hid (apn (gtr hv) LTd.out)
           clear hv hb
           clear LTx LTd 
           go_wp2_with fail
           have LTx := Lib.hid (ltb F60.out)
           have LTd := Lib.hid (ltd F61.out)
           have LTwas := Lib.hid (ltr F59r.out)
           refine (Write_any Bk b21 E O38 off 4 v x59 HI.out.1 HI.out.2.1 HI.out.2.2 F61.out).mono ?_
           rintro z x65 ⟨hz, O65, k1, k2, k3⟩
           rw [write_fits, HFit.out] at hz
           subst hz
           have F65d := Lib.hid (k1)
           have F66 := Lib.hid (F60.out.only k2 (A40.out _ rfl))
           clear F60
           have A67 := Lib.hid (apt k3 A40.out LTx.out)
           clear A40
           have F68 := Lib.hid (row_only F59r.out k2 A64.out)
           clear F59r
           have A69 := Lib.hid (apt k3 A64.out LTwas.out)
           clear A64
           have HO70 := Lib.hid (ogt HB.out C62.out k3 HO43.out)
           have C71 := Lib.hid (cto HB.out C62.out k2 HO43.out)
           clear C62 HO43 F61
           clear k1 k2 k3
           clear LTx LTd LTwas 
           go_wp2_with fail
           go_ret
           exact ⟨rfl, C71.out⟩
         ·
          first | have q0 := qt (a := off) (b := 0) (by omega) | have q0 := qf (a := off) (b := 0) (by omega) | skip
          first | have q1 := qt (a := k) (b := 1) (by omega) | have q1 := qf (a := k) (b := 1) (by omega) | skip
          first | have q2 := qt (a := k) (b := 3) (by omega) | have q2 := qf (a := k) (b := 3) (by omega) | skip
          first | have q3 := qt (a := k) (b := 4) (by omega) | have q3 := qf (a := k) (b := 4) (by omega) | skip
          first | have p0 := decide_eq_true (p := 0 ≤ off) (by omega) | have p0 := decide_eq_false (p := 0 ≤ off) (by omega) | skip
          first | have p1 := decide_eq_true (p := off < 32) (by omega) | have p1 := decide_eq_false (p := off < 32) (by omega) | skip
          first | have p2 := decide_eq_true (p := off < S) (by omega) | have p2 := decide_eq_false (p := off < S) (by omega) | skip
          first | have s0 := st (a := off) (n := 4) (by omega) (by omega) | have s0 := sf (a := off) (n := 4) (by omega) (by omega) | skip
          first | have s1 := st (a := off) (n := 2) (by omega) (by omega) | have s1 := sf (a := off) (n := 2) (by omega) (by omega) | skip
          first | have s2 := st (a := off) (n := 1) (by omega) (by omega) | have s2 := sf (a := off) (n := 1) (by omega) (by omega) | skip
          have HFit := Lib.hid (show fitsD E off 4 = false from Bool.eq_false_iff.2 (fun e => by have := (fits_ram hzE (by omega) (by omega)).1 e; omega))
          have HRd := Lib.hid (fun (b : Nat) (O X : Nat → Prop) (W : World) (h : Dev Bk W b E O X) => Read_any Bk b E O off 4 W HI.out.1 HI.out.2.1 h)
          rw [read_none HFit.out] at HRd
          clear hzE hkE hS4 hk6 hk1 g2 g3 g4 g5
          go_wp2_with fail
          have LTx := Lib.hid (ltb F33.out)
          have LTd := Lib.hid (ltd F34.out)
          have LTwas := Lib.hid (ltr F32r.out)
          refine (HRd.out _ _ _ _ F34.out).mono ?_
          rintro z x38 ⟨rfl, O38, k1, k2, k3⟩
          have F38d := Lib.hid (k1)
          have F39 := Lib.hid (F33.out.only k2 (A27.out _ rfl))
          clear F33
          have A40 := Lib.hid (apt k3 A27.out LTx.out)
          clear A27
          have F41 := Lib.hid (row_only F32r.out k2 A37.out)
          clear F32r
          have A42 := Lib.hid (apt k3 A37.out LTwas.out)
          clear A37
          have HO43 := Lib.hid (ogt HB.out C35.out k3 HO28.out)
          have C44 := Lib.hid (cto HB.out C35.out k2 HO28.out)
          clear C35 HO28 F34
          clear k1 k2 k3
          clear LTx LTd LTwas 
          clear e0 e1 e2 e3 e4
          obtain ⟨e0, e1, e2, e3, e4⟩ := five HBw.out F39.out
          go_wp2_with fail
          have LTx := Lib.hid (ltb F39.out)
          have LTd := Lib.hid (ltd F38d.out)
          have LTwas := Lib.hid (ltr F41.out)
          refine (look_row Bk B b21 E O38 x38 (csz HB.out C44.out) F38d.out).mono ?_
          rintro z x45 ⟨⟨v45, rfl, hv⟩, hb⟩
          have F45r := Lib.hid hv
          have F46 := Lib.hid (F39.out.keep hb)
          clear F39
          have F47 := Lib.hid (F38d.out.keep hb)
          clear F38d
          have F48 := Lib.hid (Orow.own_keep F41.out hb)
          clear F41
          have C49 := Lib.hid (cbl HB.out C44.out hb)
          clear C44
          have A50 := Lib.hid (apn (gtr hv) LTx.out)
          have A51 := Lib.hid (apn (gtr hv) LTd.out)
          have A52 := Lib.hid (apn (gtr hv) LTwas.out)
          clear hv hb
          clear LTx LTd LTwas 
          go_wp2_with fail
          refine (same_limbs F45r.out F48.out (by have := (look_len F47.out.ok).2; omega)).mono ?_
          rintro z x53 ⟨rfl, hb⟩
          have F54 := Lib.hid (F46.out.keep hb)
          clear F46
          have F55 := Lib.hid (F47.out.keep hb)
          clear F47
          have F56 := Lib.hid (Orow.own_keep F48.out hb)
          clear F48
          have F57 := Lib.hid (Orow.own_keep F45r.out hb)
          clear F45r
          have C58 := Lib.hid (cbl HB.out C49.out hb)
          clear C49
          clear hb
          clear F57
          clear F56
          go_wp2_with fail
          have LTx := Lib.hid (ltb F54.out)
          have LTd := Lib.hid (ltd F55.out)
          refine (look_row Bk B b21 E O38 x53 (csz HB.out C58.out) F55.out).mono ?_
          rintro z x59 ⟨⟨v59, rfl, hv⟩, hb⟩
          have F59r := Lib.hid hv
          have F60 := Lib.hid (F54.out.keep hb)
          clear F54
          have F61 := Lib.hid (F55.out.keep hb)
          clear F55
          have C62 := Lib.hid (cbl HB.out C58.out hb)
          clear C58
          have A63 := Lib.hid (apn (gtr hv) LTx.out)
          have A64 := Lib.hid (apn (gtr hv) LTd.out)
          clear hv hb
          clear LTx LTd 
          go_wp2_with fail
          have LTx := Lib.hid (ltb F60.out)
          have LTd := Lib.hid (ltd F61.out)
          have LTwas := Lib.hid (ltr F59r.out)
          refine (Write_any Bk b21 E O38 off 4 v x59 HI.out.1 HI.out.2.1 HI.out.2.2 F61.out).mono ?_
          rintro z x65 ⟨hz, O65, k1, k2, k3⟩
          rw [write_none HFit.out] at hz
          subst hz
          have F65d := Lib.hid (show Dev Bk x65 b21 E O65 X21 from by have := k1; rw [write_none HFit.out] at this; exact this)
          have F66 := Lib.hid (F60.out.only k2 (A40.out _ rfl))
          clear F60
          have A67 := Lib.hid (apt k3 A40.out LTx.out)
          clear A40
          have F68 := Lib.hid (row_only F59r.out k2 A64.out)
          clear F59r
          have A69 := Lib.hid (apt k3 A64.out LTwas.out)
          clear A64
          have HO70 := Lib.hid (ogt HB.out C62.out k3 HO43.out)
          have C71 := Lib.hid (cto HB.out C62.out k2 HO43.out)
          clear C62 HO43 F61
          clear k1 k2 k3
          clear LTx LTd LTwas 
          go_wp2_with fail
          have LTx := Lib.hid (ltb F66.out)
          have LTd := Lib.hid (ltd F65d.out)
          have LTwas := Lib.hid (ltr F68.out)
          refine (look_row Bk B b21 E O65 x65 (csz HB.out C71.out) F65d.out).mono ?_
          rintro z x72 ⟨⟨v72, rfl, hv⟩, hb⟩
          have F72r := Lib.hid hv
          have F73 := Lib.hid (F66.out.keep hb)
          clear F66
          have F74 := Lib.hid (F65d.out.keep hb)
          clear F65d
          have F75 := Lib.hid (Orow.own_keep F68.out hb)
          clear F68
          have C76 := Lib.hid (cbl HB.out C71.out hb)
          clear C71
          have A77 := Lib.hid (apn (gtr hv) LTx.out)
          have A78 := Lib.hid (apn (gtr hv) LTd.out)
          have A79 := Lib.hid (apn (gtr hv) LTwas.out)
          clear hv hb
          clear LTx LTd LTwas 
          go_wp2_with fail
          refine (same_limbs F72r.out F75.out (by have := (look_len F74.out.ok).2; omega)).mono ?_
          rintro z x80 ⟨rfl, hb⟩
          have F81 := Lib.hid (F73.out.keep hb)
          clear F73
          have F82 := Lib.hid (F74.out.keep hb)
          clear F74
          have F83 := Lib.hid (Orow.own_keep F75.out hb)
          clear F75
          have F84 := Lib.hid (Orow.own_keep F72r.out hb)
          clear F72r
          have C85 := Lib.hid (cbl HB.out C76.out hb)
          clear C76
          clear hb
          go_wp2_with fail
          go_ret
          exact ⟨rfl, C85.out⟩
        ·
         by_cases g7 : off < S
         ·
          first | have q0 := qt (a := off) (b := 0) (by omega) | have q0 := qf (a := off) (b := 0) (by omega) | skip
          first | have q1 := qt (a := k) (b := 1) (by omega) | have q1 := qf (a := k) (b := 1) (by omega) | skip
          first | have q2 := qt (a := k) (b := 3) (by omega) | have q2 := qf (a := k) (b := 3) (by omega) | skip
          first | have q3 := qt (a := k) (b := 4) (by omega) | have q3 := qf (a := k) (b := 4) (by omega) | skip
          first | have p0 := decide_eq_true (p := 0 ≤ off) (by omega) | have p0 := decide_eq_false (p := 0 ≤ off) (by omega) | skip
          first | have p1 := decide_eq_true (p := off < 32) (by omega) | have p1 := decide_eq_false (p := off < 32) (by omega) | skip
          first | have p2 := decide_eq_true (p := off < S) (by omega) | have p2 := decide_eq_false (p := off < S) (by omega) | skip
          first | have s0 := st (a := off) (n := 4) (by omega) (by omega) | have s0 := sf (a := off) (n := 4) (by omega) (by omega) | skip
          first | have s1 := st (a := off) (n := 2) (by omega) (by omega) | have s1 := sf (a := off) (n := 2) (by omega) (by omega) | skip
          first | have s2 := st (a := off) (n := 1) (by omega) (by omega) | have s2 := sf (a := off) (n := 1) (by omega) (by omega) | skip
          have HFit := Lib.hid (show fitsD E off 4 = false from Bool.eq_false_iff.2 (fun e => by have := (fits_ram hzE (by omega) (by omega)).1 e; omega))
          have HRd := Lib.hid (fun (b : Nat) (O X : Nat → Prop) (W : World) (h : Dev Bk W b E O X) => Read_any Bk b E O off 4 W HI.out.1 HI.out.2.1 h)
          rw [read_none HFit.out] at HRd
          clear hzE hkE hS4 hk6 hk1 g2 g3 g4 g7
          go_wp2_with fail
          have LTx := Lib.hid (ltb F33.out)
          have LTd := Lib.hid (ltd F34.out)
          have LTwas := Lib.hid (ltr F32r.out)
          refine (HRd.out _ _ _ _ F34.out).mono ?_
          rintro z x38 ⟨rfl, O38, k1, k2, k3⟩
          have F38d := Lib.hid (k1)
          have F39 := Lib.hid (F33.out.only k2 (A27.out _ rfl))
          clear F33
          have A40 := Lib.hid (apt k3 A27.out LTx.out)
          clear A27
          have F41 := Lib.hid (row_only F32r.out k2 A37.out)
          clear F32r
          have A42 := Lib.hid (apt k3 A37.out LTwas.out)
          clear A37
          have HO43 := Lib.hid (ogt HB.out C35.out k3 HO28.out)
          have C44 := Lib.hid (cto HB.out C35.out k2 HO28.out)
          clear C35 HO28 F34
          clear k1 k2 k3
          clear LTx LTd LTwas 
          clear e0 e1 e2 e3 e4
          obtain ⟨e0, e1, e2, e3, e4⟩ := five HBw.out F39.out
          go_wp2_with fail
          have LTx := Lib.hid (ltb F39.out)
          have LTd := Lib.hid (ltd F38d.out)
          have LTwas := Lib.hid (ltr F41.out)
          refine (look_row Bk B b21 E O38 x38 (csz HB.out C44.out) F38d.out).mono ?_
          rintro z x45 ⟨⟨v45, rfl, hv⟩, hb⟩
          have F45r := Lib.hid hv
          have F46 := Lib.hid (F39.out.keep hb)
          clear F39
          have F47 := Lib.hid (F38d.out.keep hb)
          clear F38d
          have F48 := Lib.hid (Orow.own_keep F41.out hb)
          clear F41
          have C49 := Lib.hid (cbl HB.out C44.out hb)
          clear C44
          have A50 := Lib.hid (apn (gtr hv) LTx.out)
          have A51 := Lib.hid (apn (gtr hv) LTd.out)
          have A52 := Lib.hid (apn (gtr hv) LTwas.out)
          clear hv hb
          clear LTx LTd LTwas 
          go_wp2_with fail
          refine (same_limbs F45r.out F48.out (by have := (look_len F47.out.ok).2; omega)).mono ?_
          rintro z x53 ⟨rfl, hb⟩
          have F54 := Lib.hid (F46.out.keep hb)
          clear F46
          have F55 := Lib.hid (F47.out.keep hb)
          clear F47
          have F56 := Lib.hid (Orow.own_keep F48.out hb)
          clear F48
          have F57 := Lib.hid (Orow.own_keep F45r.out hb)
          clear F45r
          have C58 := Lib.hid (cbl HB.out C49.out hb)
          clear C49
          clear hb
          clear F57
          clear F56
          go_wp2_with fail
          have LTx := Lib.hid (ltb F54.out)
          have LTd := Lib.hid (ltd F55.out)
          refine (look_row Bk B b21 E O38 x53 (csz HB.out C58.out) F55.out).mono ?_
          rintro z x59 ⟨⟨v59, rfl, hv⟩, hb⟩
          have F59r := Lib.hid hv
          have F60 := Lib.hid (F54.out.keep hb)
          clear F54
          have F61 := Lib.hid (F55.out.keep hb)
          clear F55
          have C62 := Lib.hid (cbl HB.out C58.out hb)
          clear C58
          have A63 := Lib.hid (apn (gtr hv) LTx.out)
          have A64 := Lib.hid (apn (gtr hv) LTd.out)
          clear hv hb
          clear LTx LTd 
          go_wp2_with fail
          have LTx := Lib.hid (ltb F60.out)
          have LTd := Lib.hid (ltd F61.out)
          have LTwas := Lib.hid (ltr F59r.out)
          refine (Write_any Bk b21 E O38 off 4 v x59 HI.out.1 HI.out.2.1 HI.out.2.2 F61.out).mono ?_
          rintro z x65 ⟨hz, O65, k1, k2, k3⟩
          rw [write_none HFit.out] at hz
          subst hz
          have F65d := Lib.hid (show Dev Bk x65 b21 E O65 X21 from by have := k1; rw [write_none HFit.out] at this; exact this)
          have F66 := Lib.hid (F60.out.only k2 (A40.out _ rfl))
          clear F60
          have A67 := Lib.hid (apt k3 A40.out LTx.out)
          clear A40
          have F68 := Lib.hid (row_only F59r.out k2 A64.out)
          clear F59r
          have A69 := Lib.hid (apt k3 A64.out LTwas.out)
          clear A64
          have HO70 := Lib.hid (ogt HB.out C62.out k3 HO43.out)
          have C71 := Lib.hid (cto HB.out C62.out k2 HO43.out)
          clear C62 HO43 F61
          clear k1 k2 k3
          clear LTx LTd LTwas 
          go_wp2_with fail
          have LTx := Lib.hid (ltb F66.out)
          have LTd := Lib.hid (ltd F65d.out)
          have LTwas := Lib.hid (ltr F68.out)
          refine (look_row Bk B b21 E O65 x65 (csz HB.out C71.out) F65d.out).mono ?_
          rintro z x72 ⟨⟨v72, rfl, hv⟩, hb⟩
          have F72r := Lib.hid hv
          have F73 := Lib.hid (F66.out.keep hb)
          clear F66
          have F74 := Lib.hid (F65d.out.keep hb)
          clear F65d
          have F75 := Lib.hid (Orow.own_keep F68.out hb)
          clear F68
          have C76 := Lib.hid (cbl HB.out C71.out hb)
          clear C71
          have A77 := Lib.hid (apn (gtr hv) LTx.out)
          have A78 := Lib.hid (apn (gtr hv) LTd.out)
          have A79 := Lib.hid (apn (gtr hv) LTwas.out)
          clear hv hb
          clear LTx LTd LTwas 
          go_wp2_with fail
          refine (same_limbs F72r.out F75.out (by have := (look_len F74.out.ok).2; omega)).mono ?_
          rintro z x80 ⟨rfl, hb⟩
          have F81 := Lib.hid (F73.out.keep hb)
          clear F73
          have F82 := Lib.hid (F74.out.keep hb)
          clear F74
          have F83 := Lib.hid (Orow.own_keep F75.out hb)
          clear F75
          have F84 := Lib.hid (Orow.own_keep F72r.out hb)
          clear F72r
          have C85 := Lib.hid (cbl HB.out C76.out hb)
          clear C76
          clear hb
          go_wp2_with fail
          go_ret
          exact ⟨rfl, C85.out⟩
         ·
          first | have q0 := qt (a := off) (b := 0) (by omega) | have q0 := qf (a := off) (b := 0) (by omega) | skip
          first | have q1 := qt (a := k) (b := 1) (by omega) | have q1 := qf (a := k) (b := 1) (by omega) | skip
          first | have q2 := qt (a := k) (b := 3) (by omega) | have q2 := qf (a := k) (b := 3) (by omega) | skip
          first | have q3 := qt (a := k) (b := 4) (by omega) | have q3 := qf (a := k) (b := 4) (by omega) | skip
          first | have p0 := decide_eq_true (p := 0 ≤ off) (by omega) | have p0 := decide_eq_false (p := 0 ≤ off) (by omega) | skip
          first | have p1 := decide_eq_true (p := off < 32) (by omega) | have p1 := decide_eq_false (p := off < 32) (by omega) | skip
          first | have p2 := decide_eq_true (p := off < S) (by omega) | have p2 := decide_eq_false (p := off < S) (by omega) | skip
          first | have s0 := st (a := off) (n := 4) (by omega) (by omega) | have s0 := sf (a := off) (n := 4) (by omega) (by omega) | skip
          first | have s1 := st (a := off) (n := 2) (by omega) (by omega) | have s1 := sf (a := off) (n := 2) (by omega) (by omega) | skip
          first | have s2 := st (a := off) (n := 1) (by omega) (by omega) | have s2 := sf (a := off) (n := 1) (by omega) (by omega) | skip
          have HFit := Lib.hid (show fitsD E off 4 = false from Bool.eq_false_iff.2 (fun e => by have := (fits_ram hzE (by omega) (by omega)).1 e; omega))
          have HRd := Lib.hid (fun (b : Nat) (O X : Nat → Prop) (W : World) (h : Dev Bk W b E O X) => Read_any Bk b E O off 4 W HI.out.1 HI.out.2.1 h)
          rw [read_none HFit.out] at HRd
          clear hzE hkE hS4 hk6 hk1 g2 g3 g4 g7
          go_wp2_with fail
          have LTx := Lib.hid (ltb F33.out)
          have LTd := Lib.hid (ltd F34.out)
          have LTwas := Lib.hid (ltr F32r.out)
          refine (HRd.out _ _ _ _ F34.out).mono ?_
          rintro z x38 ⟨rfl, O38, k1, k2, k3⟩
          have F38d := Lib.hid (k1)
          have F39 := Lib.hid (F33.out.only k2 (A27.out _ rfl))
          clear F33
          have A40 := Lib.hid (apt k3 A27.out LTx.out)
          clear A27
          have F41 := Lib.hid (row_only F32r.out k2 A37.out)
          clear F32r
          have A42 := Lib.hid (apt k3 A37.out LTwas.out)
          clear A37
          have HO43 := Lib.hid (ogt HB.out C35.out k3 HO28.out)
          have C44 := Lib.hid (cto HB.out C35.out k2 HO28.out)
          clear C35 HO28 F34
          clear k1 k2 k3
          clear LTx LTd LTwas 
          clear e0 e1 e2 e3 e4
          obtain ⟨e0, e1, e2, e3, e4⟩ := five HBw.out F39.out
          go_wp2_with fail
          have LTx := Lib.hid (ltb F39.out)
          have LTd := Lib.hid (ltd F38d.out)
          have LTwas := Lib.hid (ltr F41.out)
          refine (look_row Bk B b21 E O38 x38 (csz HB.out C44.out) F38d.out).mono ?_
          rintro z x45 ⟨⟨v45, rfl, hv⟩, hb⟩
          have F45r := Lib.hid hv
          have F46 := Lib.hid (F39.out.keep hb)
          clear F39
          have F47 := Lib.hid (F38d.out.keep hb)
          clear F38d
          have F48 := Lib.hid (Orow.own_keep F41.out hb)
          clear F41
          have C49 := Lib.hid (cbl HB.out C44.out hb)
          clear C44
          have A50 := Lib.hid (apn (gtr hv) LTx.out)
          have A51 := Lib.hid (apn (gtr hv) LTd.out)
          have A52 := Lib.hid (apn (gtr hv) LTwas.out)
          clear hv hb
          clear LTx LTd LTwas 
          go_wp2_with fail
          refine (same_limbs F45r.out F48.out (by have := (look_len F47.out.ok).2; omega)).mono ?_
          rintro z x53 ⟨rfl, hb⟩
          have F54 := Lib.hid (F46.out.keep hb)
          clear F46
          have F55 := Lib.hid (F47.out.keep hb)
          clear F47
          have F56 := Lib.hid (Orow.own_keep F48.out hb)
          clear F48
          have F57 := Lib.hid (Orow.own_keep F45r.out hb)
          clear F45r
          have C58 := Lib.hid (cbl HB.out C49.out hb)
          clear C49
          clear hb
          clear F57
          clear F56
          go_wp2_with fail
          have LTx := Lib.hid (ltb F54.out)
          have LTd := Lib.hid (ltd F55.out)
          refine (look_row Bk B b21 E O38 x53 (csz HB.out C58.out) F55.out).mono ?_
          rintro z x59 ⟨⟨v59, rfl, hv⟩, hb⟩
          have F59r := Lib.hid hv
          have F60 := Lib.hid (F54.out.keep hb)
          clear F54
          have F61 := Lib.hid (F55.out.keep hb)
          clear F55
          have C62 := Lib.hid (cbl HB.out C58.out hb)
          clear C58
          have A63 := Lib.hid (apn (gtr hv) LTx.out)
          have A64 := Lib.hid (apn (gtr hv) LTd.out)
          clear hv hb
          clear LTx LTd 
          go_wp2_with fail
          have LTx := Lib.hid (ltb F60.out)
          have LTd := Lib.hid (ltd F61.out)
          have LTwas := Lib.hid (ltr F59r.out)
          refine (Write_any Bk b21 E O38 off 4 v x59 HI.out.1 HI.out.2.1 HI.out.2.2 F61.out).mono ?_
          rintro z x65 ⟨hz, O65, k1, k2, k3⟩
          rw [write_none HFit.out] at hz
          subst hz
          have F65d := Lib.hid (show Dev Bk x65 b21 E O65 X21 from by have := k1; rw [write_none HFit.out] at this; exact this)
          have F66 := Lib.hid (F60.out.only k2 (A40.out _ rfl))
          clear F60
          have A67 := Lib.hid (apt k3 A40.out LTx.out)
          clear A40
          have F68 := Lib.hid (row_only F59r.out k2 A64.out)
          clear F59r
          have A69 := Lib.hid (apt k3 A64.out LTwas.out)
          clear A64
          have HO70 := Lib.hid (ogt HB.out C62.out k3 HO43.out)
          have C71 := Lib.hid (cto HB.out C62.out k2 HO43.out)
          clear C62 HO43 F61
          clear k1 k2 k3
          clear LTx LTd LTwas 
          go_wp2_with fail
          have LTx := Lib.hid (ltb F66.out)
          have LTd := Lib.hid (ltd F65d.out)
          have LTwas := Lib.hid (ltr F68.out)
          refine (look_row Bk B b21 E O65 x65 (csz HB.out C71.out) F65d.out).mono ?_
          rintro z x72 ⟨⟨v72, rfl, hv⟩, hb⟩
          have F72r := Lib.hid hv
          have F73 := Lib.hid (F66.out.keep hb)
          clear F66
          have F74 := Lib.hid (F65d.out.keep hb)
          clear F65d
          have F75 := Lib.hid (Orow.own_keep F68.out hb)
          clear F68
          have C76 := Lib.hid (cbl HB.out C71.out hb)
          clear C71
          have A77 := Lib.hid (apn (gtr hv) LTx.out)
          have A78 := Lib.hid (apn (gtr hv) LTd.out)
          have A79 := Lib.hid (apn (gtr hv) LTwas.out)
          clear hv hb
          clear LTx LTd LTwas 
          go_wp2_with fail
          refine (same_limbs F72r.out F75.out (by have := (look_len F74.out.ok).2; omega)).mono ?_
          rintro z x80 ⟨rfl, hb⟩
          have F81 := Lib.hid (F73.out.keep hb)
          clear F73
          have F82 := Lib.hid (F74.out.keep hb)
          clear F74
          have F83 := Lib.hid (Orow.own_keep F75.out hb)
          clear F75
          have F84 := Lib.hid (Orow.own_keep F72r.out hb)
          clear F72r
          have C85 := Lib.hid (cbl HB.out C76.out hb)
          clear C76
          clear hb
          go_wp2_with fail
          go_ret
          exact ⟨rfl, C85.out⟩
       ·
        by_cases g8 : off < S
        ·
         by_cases g9 : off % 4 = 0
         ·
          first | have q0 := qt (a := off) (b := 0) (by omega) | have q0 := qf (a := off) (b := 0) (by omega) | skip
          first | have q1 := qt (a := k) (b := 1) (by omega) | have q1 := qf (a := k) (b := 1) (by omega) | skip
          first | have q2 := qt (a := k) (b := 3) (by omega) | have q2 := qf (a := k) (b := 3) (by omega) | skip
          first | have q3 := qt (a := k) (b := 4) (by omega) | have q3 := qf (a := k) (b := 4) (by omega) | skip
          first | have p0 := decide_eq_true (p := 0 ≤ off) (by omega) | have p0 := decide_eq_false (p := 0 ≤ off) (by omega) | skip
          first | have p1 := decide_eq_true (p := off < 32) (by omega) | have p1 := decide_eq_false (p := off < 32) (by omega) | skip
          first | have p2 := decide_eq_true (p := off < S) (by omega) | have p2 := decide_eq_false (p := off < S) (by omega) | skip
          first | have s0 := st (a := off) (n := 4) (by omega) (by omega) | have s0 := sf (a := off) (n := 4) (by omega) (by omega) | skip
          first | have s1 := st (a := off) (n := 2) (by omega) (by omega) | have s1 := sf (a := off) (n := 2) (by omega) (by omega) | skip
          first | have s2 := st (a := off) (n := 1) (by omega) (by omega) | have s2 := sf (a := off) (n := 1) (by omega) (by omega) | skip
          have HFit := Lib.hid (show fitsD E off 4 = true from (fits_ram hzE (by omega) (by omega)).2 ⟨by omega, by omega, by omega, by omega⟩)
          have HSm := Lib.hid (read_same (d := E) (off := off) (size := 4) (by rw [hkE]; omega))
          have HRd := Lib.hid (fun (b : Nat) (O X : Nat → Prop) (W : World) (h : Dev Bk W b E O X) => Read_any Bk b E O off 4 W HI.out.1 HI.out.2.1 h)
          rw [read_fits, HFit.out] at HRd
          rw [HSm.out] at HRd
          obtain ⟨rv, hrv⟩ : ∃ rv, (readD E off 4).1 = rv := ⟨_, rfl⟩
          rw [hrv] at HRd
          clear hrv
          clear hzE hkE hS4 hk6 hk1 g2 g3 g8 g9
          go_wp2_with fail
          have LTx := Lib.hid (ltb F33.out)
          have LTd := Lib.hid (ltd F34.out)
          have LTwas := Lib.hid (ltr F32r.out)
          refine (HRd.out _ _ _ _ F34.out).mono ?_
          rintro z x38 ⟨rfl, O38, k1, k2, k3⟩
          have F38d := Lib.hid (k1)
          have F39 := Lib.hid (F33.out.only k2 (A27.out _ rfl))
          clear F33
          have A40 := Lib.hid (apt k3 A27.out LTx.out)
          clear A27
          have F41 := Lib.hid (row_only F32r.out k2 A37.out)
          clear F32r
          have A42 := Lib.hid (apt k3 A37.out LTwas.out)
          clear A37
          have HO43 := Lib.hid (ogt HB.out C35.out k3 HO28.out)
          have C44 := Lib.hid (cto HB.out C35.out k2 HO28.out)
          clear C35 HO28 F34
          clear k1 k2 k3
          clear LTx LTd LTwas 
          clear e0 e1 e2 e3 e4
          obtain ⟨e0, e1, e2, e3, e4⟩ := five HBw.out F39.out
          go_wp2_with fail
          have LTx := Lib.hid (ltb F39.out)
          have LTd := Lib.hid (ltd F38d.out)
          have LTwas := Lib.hid (ltr F41.out)
          refine (look_row Bk B b21 E O38 x38 (csz HB.out C44.out) F38d.out).mono ?_
          rintro z x45 ⟨⟨v45, rfl, hv⟩, hb⟩
          have F45r := Lib.hid hv
          have F46 := Lib.hid (F39.out.keep hb)
          clear F39
          have F47 := Lib.hid (F38d.out.keep hb)
          clear F38d
          have F48 := Lib.hid (Orow.own_keep F41.out hb)
          clear F41
          have C49 := Lib.hid (cbl HB.out C44.out hb)
          clear C44
          have A50 := Lib.hid (apn (gtr hv) LTx.out)
          have A51 := Lib.hid (apn (gtr hv) LTd.out)
          have A52 := Lib.hid (apn (gtr hv) LTwas.out)
          clear hv hb
          clear LTx LTd LTwas 
          go_wp2_with fail
          refine (same_limbs F45r.out F48.out (by have := (look_len F47.out.ok).2; omega)).mono ?_
          rintro z x53 ⟨rfl, hb⟩
          have F54 := Lib.hid (F46.out.keep hb)
          clear F46
          have F55 := Lib.hid (F47.out.keep hb)
          clear F47
          have F56 := Lib.hid (Orow.own_keep F48.out hb)
          clear F48
          have F57 := Lib.hid (Orow.own_keep F45r.out hb)
          clear F45r
          have C58 := Lib.hid (cbl HB.out C49.out hb)
          clear C49
          clear hb
          clear F57
          clear F56
          go_wp2_with fail
          have LTx := Lib.hid (ltb F54.out)
          have LTd := Lib.hid (ltd F55.out)
          refine (look_row Bk B b21 E O38 x53 (csz HB.out C58.out) F55.out).mono ?_
          rintro z x59 ⟨⟨v59, rfl, hv⟩, hb⟩
          have F59r := Lib.hid hv
          have F60 := Lib.hid (F54.out.keep hb)
          clear F54
          have F61 := Lib.hid (F55.out.keep hb)
          clear F55
          have C62 := Lib.hid (cbl HB.out C58.out hb)
          clear C58
          have A63 := Lib.hid (apn (gtr hv) LTx.out)
          have A64 := Lib.hid (apn (gtr hv) LTd.out)
          clear hv hb
          clear LTx LTd 
          go_wp2_with fail
          have LTx := Lib.hid (ltb F60.out)
          have LTd := Lib.hid (ltd F61.out)
          have LTwas := Lib.hid (ltr F59r.out)
          refine (Write_any Bk b21 E O38 off 4 v x59 HI.out.1 HI.out.2.1 HI.out.2.2 F61.out).mono ?_
          rintro z x65 ⟨hz, O65, k1, k2, k3⟩
          rw [write_fits, HFit.out] at hz
          subst hz
          have F65d := Lib.hid (k1)
          have F66 := Lib.hid (F60.out.only k2 (A40.out _ rfl))
          clear F60
          have A67 := Lib.hid (apt k3 A40.out LTx.out)
          clear A40
          have F68 := Lib.hid (row_only F59r.out k2 A64.out)
          clear F59r
          have A69 := Lib.hid (apt k3 A64.out LTwas.out)
          clear A64
          have HO70 := Lib.hid (ogt HB.out C62.out k3 HO43.out)
          have C71 := Lib.hid (cto HB.out C62.out k2 HO43.out)
          clear C62 HO43 F61
          clear k1 k2 k3
          clear LTx LTd LTwas 
          go_wp2_with fail
          go_ret
          exact ⟨rfl, C71.out⟩
         ·
          first | have q0 := qt (a := off) (b := 0) (by omega) | have q0 := qf (a := off) (b := 0) (by omega) | skip
          first | have q1 := qt (a := k) (b := 1) (by omega) | have q1 := qf (a := k) (b := 1) (by omega) | skip
          first | have q2 := qt (a := k) (b := 3) (by omega) | have q2 := qf (a := k) (b := 3) (by omega) | skip
          first | have q3 := qt (a := k) (b := 4) (by omega) | have q3 := qf (a := k) (b := 4) (by omega) | skip
          first | have p0 := decide_eq_true (p := 0 ≤ off) (by omega) | have p0 := decide_eq_false (p := 0 ≤ off) (by omega) | skip
          first | have p1 := decide_eq_true (p := off < 32) (by omega) | have p1 := decide_eq_false (p := off < 32) (by omega) | skip
          first | have p2 := decide_eq_true (p := off < S) (by omega) | have p2 := decide_eq_false (p := off < S) (by omega) | skip
          first | have s0 := st (a := off) (n := 4) (by omega) (by omega) | have s0 := sf (a := off) (n := 4) (by omega) (by omega) | skip
          first | have s1 := st (a := off) (n := 2) (by omega) (by omega) | have s1 := sf (a := off) (n := 2) (by omega) (by omega) | skip
          first | have s2 := st (a := off) (n := 1) (by omega) (by omega) | have s2 := sf (a := off) (n := 1) (by omega) (by omega) | skip
          have HFit := Lib.hid (show fitsD E off 4 = false from Bool.eq_false_iff.2 (fun e => by have := (fits_ram hzE (by omega) (by omega)).1 e; omega))
          have HRd := Lib.hid (fun (b : Nat) (O X : Nat → Prop) (W : World) (h : Dev Bk W b E O X) => Read_any Bk b E O off 4 W HI.out.1 HI.out.2.1 h)
          rw [read_none HFit.out] at HRd
          clear hzE hkE hS4 hk6 hk1 g2 g3 g8 g9
          go_wp2_with fail
          have LTx := Lib.hid (ltb F33.out)
          have LTd := Lib.hid (ltd F34.out)
          have LTwas := Lib.hid (ltr F32r.out)
          refine (HRd.out _ _ _ _ F34.out).mono ?_
          rintro z x38 ⟨rfl, O38, k1, k2, k3⟩
          have F38d := Lib.hid (k1)
          have F39 := Lib.hid (F33.out.only k2 (A27.out _ rfl))
          clear F33
          have A40 := Lib.hid (apt k3 A27.out LTx.out)
          clear A27
          have F41 := Lib.hid (row_only F32r.out k2 A37.out)
          clear F32r
          have A42 := Lib.hid (apt k3 A37.out LTwas.out)
          clear A37
          have HO43 := Lib.hid (ogt HB.out C35.out k3 HO28.out)
          have C44 := Lib.hid (cto HB.out C35.out k2 HO28.out)
          clear C35 HO28 F34
          clear k1 k2 k3
          clear LTx LTd LTwas 
          clear e0 e1 e2 e3 e4
          obtain ⟨e0, e1, e2, e3, e4⟩ := five HBw.out F39.out
          go_wp2_with fail
          have LTx := Lib.hid (ltb F39.out)
          have LTd := Lib.hid (ltd F38d.out)
          have LTwas := Lib.hid (ltr F41.out)
          refine (look_row Bk B b21 E O38 x38 (csz HB.out C44.out) F38d.out).mono ?_
          rintro z x45 ⟨⟨v45, rfl, hv⟩, hb⟩
          have F45r := Lib.hid hv
          have F46 := Lib.hid (F39.out.keep hb)
          clear F39
          have F47 := Lib.hid (F38d.out.keep hb)
          clear F38d
          have F48 := Lib.hid (Orow.own_keep F41.out hb)
          clear F41
          have C49 := Lib.hid (cbl HB.out C44.out hb)
          clear C44
          have A50 := Lib.hid (apn (gtr hv) LTx.out)
          have A51 := Lib.hid (apn (gtr hv) LTd.out)
          have A52 := Lib.hid (apn (gtr hv) LTwas.out)
          clear hv hb
          clear LTx LTd LTwas 
          go_wp2_with fail
          refine (same_limbs F45r.out F48.out (by have := (look_len F47.out.ok).2; omega)).mono ?_
          rintro z x53 ⟨rfl, hb⟩
          have F54 := Lib.hid (F46.out.keep hb)
          clear F46
          have F55 := Lib.hid (F47.out.keep hb)
          clear F47
          have F56 := Lib.hid (Orow.own_keep F48.out hb)
          clear F48
          have F57 := Lib.hid (Orow.own_keep F45r.out hb)
          clear F45r
          have C58 := Lib.hid (cbl HB.out C49.out hb)
          clear C49
          clear hb
          clear F57
          clear F56
          go_wp2_with fail
          have LTx := Lib.hid (ltb F54.out)
          have LTd := Lib.hid (ltd F55.out)
          refine (look_row Bk B b21 E O38 x53 (csz HB.out C58.out) F55.out).mono ?_
          rintro z x59 ⟨⟨v59, rfl, hv⟩, hb⟩
          have F59r := Lib.hid hv
          have F60 := Lib.hid (F54.out.keep hb)
          clear F54
          have F61 := Lib.hid (F55.out.keep hb)
          clear F55
          have C62 := Lib.hid (cbl HB.out C58.out hb)
          clear C58
          have A63 := Lib.hid (apn (gtr hv) LTx.out)
          have A64 := Lib.hid (apn (gtr hv) LTd.out)
          clear hv hb
          clear LTx LTd 
          go_wp2_with fail
          have LTx := Lib.hid (ltb F60.out)
          have LTd := Lib.hid (ltd F61.out)
          have LTwas := Lib.hid (ltr F59r.out)
          refine (Write_any Bk b21 E O38 off 4 v x59 HI.out.1 HI.out.2.1 HI.out.2.2 F61.out).mono ?_
          rintro z x65 ⟨hz, O65, k1, k2, k3⟩
          rw [write_none HFit.out] at hz
          subst hz
          have F65d := Lib.hid (show Dev Bk x65 b21 E O65 X21 from by have := k1; rw [write_none HFit.out] at this; exact this)
          have F66 := Lib.hid (F60.out.only k2 (A40.out _ rfl))
          clear F60
          have A67 := Lib.hid (apt k3 A40.out LTx.out)
          clear A40
          have F68 := Lib.hid (row_only F59r.out k2 A64.out)
          clear F59r
          have A69 := Lib.hid (apt k3 A64.out LTwas.out)
          clear A64
          have HO70 := Lib.hid (ogt HB.out C62.out k3 HO43.out)
          have C71 := Lib.hid (cto HB.out C62.out k2 HO43.out)
          clear C62 HO43 F61
          clear k1 k2 k3
          clear LTx LTd LTwas 
          go_wp2_with fail
          have LTx := Lib.hid (ltb F66.out)
          have LTd := Lib.hid (ltd F65d.out)
          have LTwas := Lib.hid (ltr F68.out)
          refine (look_row Bk B b21 E O65 x65 (csz HB.out C71.out) F65d.out).mono ?_
          rintro z x72 ⟨⟨v72, rfl, hv⟩, hb⟩
          have F72r := Lib.hid hv
          have F73 := Lib.hid (F66.out.keep hb)
          clear F66
          have F74 := Lib.hid (F65d.out.keep hb)
          clear F65d
          have F75 := Lib.hid (Orow.own_keep F68.out hb)
          clear F68
          have C76 := Lib.hid (cbl HB.out C71.out hb)
          clear C71
          have A77 := Lib.hid (apn (gtr hv) LTx.out)
          have A78 := Lib.hid (apn (gtr hv) LTd.out)
          have A79 := Lib.hid (apn (gtr hv) LTwas.out)
          clear hv hb
          clear LTx LTd LTwas 
          go_wp2_with fail
          refine (same_limbs F72r.out F75.out (by have := (look_len F74.out.ok).2; omega)).mono ?_
          rintro z x80 ⟨rfl, hb⟩
          have F81 := Lib.hid (F73.out.keep hb)
          clear F73
          have F82 := Lib.hid (F74.out.keep hb)
          clear F74
          have F83 := Lib.hid (Orow.own_keep F75.out hb)
          clear F75
          have F84 := Lib.hid (Orow.own_keep F72r.out hb)
          clear F72r
          have C85 := Lib.hid (cbl HB.out C76.out hb)
          clear C76
          clear hb
          go_wp2_with fail
          go_ret
          exact ⟨rfl, C85.out⟩
        ·
         first | have q0 := qt (a := off) (b := 0) (by omega) | have q0 := qf (a := off) (b := 0) (by omega) | skip
         first | have q1 := qt (a := k) (b := 1) (by omega) | have q1 := qf (a := k) (b := 1) (by omega) | skip
         first | have q2 := qt (a := k) (b := 3) (by omega) | have q2 := qf (a := k) (b := 3) (by omega) | skip
         first | have q3 := qt (a := k) (b := 4) (by omega) | have q3 := qf (a := k) (b := 4) (by omega) | skip
         first | have p0 := decide_eq_true (p := 0 ≤ off) (by omega) | have p0 := decide_eq_false (p := 0 ≤ off) (by omega) | skip
         first | have p1 := decide_eq_true (p := off < 32) (by omega) | have p1 := decide_eq_false (p := off < 32) (by omega) | skip
         first | have p2 := decide_eq_true (p := off < S) (by omega) | have p2 := decide_eq_false (p := off < S) (by omega) | skip
         first | have s0 := st (a := off) (n := 4) (by omega) (by omega) | have s0 := sf (a := off) (n := 4) (by omega) (by omega) | skip
         first | have s1 := st (a := off) (n := 2) (by omega) (by omega) | have s1 := sf (a := off) (n := 2) (by omega) (by omega) | skip
         first | have s2 := st (a := off) (n := 1) (by omega) (by omega) | have s2 := sf (a := off) (n := 1) (by omega) (by omega) | skip
         have HFit := Lib.hid (show fitsD E off 4 = false from Bool.eq_false_iff.2 (fun e => by have := (fits_ram hzE (by omega) (by omega)).1 e; omega))
         have HRd := Lib.hid (fun (b : Nat) (O X : Nat → Prop) (W : World) (h : Dev Bk W b E O X) => Read_any Bk b E O off 4 W HI.out.1 HI.out.2.1 h)
         rw [read_none HFit.out] at HRd
         clear hzE hkE hS4 hk6 hk1 g2 g3 g8
         go_wp2_with fail
         have LTx := Lib.hid (ltb F33.out)
         have LTd := Lib.hid (ltd F34.out)
         have LTwas := Lib.hid (ltr F32r.out)
         refine (HRd.out _ _ _ _ F34.out).mono ?_
         rintro z x38 ⟨rfl, O38, k1, k2, k3⟩
         have F38d := Lib.hid (k1)
         have F39 := Lib.hid (F33.out.only k2 (A27.out _ rfl))
         clear F33
         have A40 := Lib.hid (apt k3 A27.out LTx.out)
         clear A27
         have F41 := Lib.hid (row_only F32r.out k2 A37.out)
         clear F32r
         have A42 := Lib.hid (apt k3 A37.out LTwas.out)
         clear A37
         have HO43 := Lib.hid (ogt HB.out C35.out k3 HO28.out)
         have C44 := Lib.hid (cto HB.out C35.out k2 HO28.out)
         clear C35 HO28 F34
         clear k1 k2 k3
         clear LTx LTd LTwas 
         clear e0 e1 e2 e3 e4
         obtain ⟨e0, e1, e2, e3, e4⟩ := five HBw.out F39.out
         go_wp2_with fail
         have LTx := Lib.hid (ltb F39.out)
         have LTd := Lib.hid (ltd F38d.out)
         have LTwas := Lib.hid (ltr F41.out)
         refine (look_row Bk B b21 E O38 x38 (csz HB.out C44.out) F38d.out).mono ?_
         rintro z x45 ⟨⟨v45, rfl, hv⟩, hb⟩
         have F45r := Lib.hid hv
         have F46 := Lib.hid (F39.out.keep hb)
         clear F39
         have F47 := Lib.hid (F38d.out.keep hb)
         clear F38d
         have F48 := Lib.hid (Orow.own_keep F41.out hb)
         clear F41
         have C49 := Lib.hid (cbl HB.out C44.out hb)
         clear C44
         have A50 := Lib.hid (apn (gtr hv) LTx.out)
         have A51 := Lib.hid (apn (gtr hv) LTd.out)
         have A52 := Lib.hid (apn (gtr hv) LTwas.out)
         clear hv hb
         clear LTx LTd LTwas 
         go_wp2_with fail
         refine (same_limbs F45r.out F48.out (by have := (look_len F47.out.ok).2; omega)).mono ?_
         rintro z x53 ⟨rfl, hb⟩
         have F54 := Lib.hid (F46.out.keep hb)
         clear F46
         have F55 := Lib.hid (F47.out.keep hb)
         clear F47
         have F56 := Lib.hid (Orow.own_keep F48.out hb)
         clear F48
         have F57 := Lib.hid (Orow.own_keep F45r.out hb)
         clear F45r
         have C58 := Lib.hid (cbl HB.out C49.out hb)
         clear C49
         clear hb
         clear F57
         clear F56
         go_wp2_with fail
         have LTx := Lib.hid (ltb F54.out)
         have LTd := Lib.hid (ltd F55.out)
         refine (look_row Bk B b21 E O38 x53 (csz HB.out C58.out) F55.out).mono ?_
         rintro z x59 ⟨⟨v59, rfl, hv⟩, hb⟩
         have F59r := Lib.hid hv
         have F60 := Lib.hid (F54.out.keep hb)
         clear F54
         have F61 := Lib.hid (F55.out.keep hb)
         clear F55
         have C62 := Lib.hid (cbl HB.out C58.out hb)
         clear C58
         have A63 := Lib.hid (apn (gtr hv) LTx.out)
         have A64 := Lib.hid (apn (gtr hv) LTd.out)
         clear hv hb
         clear LTx LTd 
         go_wp2_with fail
         have LTx := Lib.hid (ltb F60.out)
         have LTd := Lib.hid (ltd F61.out)
         have LTwas := Lib.hid (ltr F59r.out)
         refine (Write_any Bk b21 E O38 off 4 v x59 HI.out.1 HI.out.2.1 HI.out.2.2 F61.out).mono ?_
         rintro z x65 ⟨hz, O65, k1, k2, k3⟩
         rw [write_none HFit.out] at hz
         subst hz
         have F65d := Lib.hid (show Dev Bk x65 b21 E O65 X21 from by have := k1; rw [write_none HFit.out] at this; exact this)
         have F66 := Lib.hid (F60.out.only k2 (A40.out _ rfl))
         clear F60
         have A67 := Lib.hid (apt k3 A40.out LTx.out)
         clear A40
         have F68 := Lib.hid (row_only F59r.out k2 A64.out)
         clear F59r
         have A69 := Lib.hid (apt k3 A64.out LTwas.out)
         clear A64
         have HO70 := Lib.hid (ogt HB.out C62.out k3 HO43.out)
         have C71 := Lib.hid (cto HB.out C62.out k2 HO43.out)
         clear C62 HO43 F61
         clear k1 k2 k3
         clear LTx LTd LTwas 
         go_wp2_with fail
         have LTx := Lib.hid (ltb F66.out)
         have LTd := Lib.hid (ltd F65d.out)
         have LTwas := Lib.hid (ltr F68.out)
         refine (look_row Bk B b21 E O65 x65 (csz HB.out C71.out) F65d.out).mono ?_
         rintro z x72 ⟨⟨v72, rfl, hv⟩, hb⟩
         have F72r := Lib.hid hv
         have F73 := Lib.hid (F66.out.keep hb)
         clear F66
         have F74 := Lib.hid (F65d.out.keep hb)
         clear F65d
         have F75 := Lib.hid (Orow.own_keep F68.out hb)
         clear F68
         have C76 := Lib.hid (cbl HB.out C71.out hb)
         clear C71
         have A77 := Lib.hid (apn (gtr hv) LTx.out)
         have A78 := Lib.hid (apn (gtr hv) LTd.out)
         have A79 := Lib.hid (apn (gtr hv) LTwas.out)
         clear hv hb
         clear LTx LTd LTwas 
         go_wp2_with fail
         refine (same_limbs F72r.out F75.out (by have := (look_len F74.out.ok).2; omega)).mono ?_
         rintro z x80 ⟨rfl, hb⟩
         have F81 := Lib.hid (F73.out.keep hb)
         clear F73
         have F82 := Lib.hid (F74.out.keep hb)
         clear F74
         have F83 := Lib.hid (Orow.own_keep F75.out hb)
         clear F75
         have F84 := Lib.hid (Orow.own_keep F72r.out hb)
         clear F72r
         have C85 := Lib.hid (cbl HB.out C76.out hb)
         clear C76
         clear hb
         go_wp2_with fail
         go_ret
         exact ⟨rfl, C85.out⟩
      ·
       first | have q0 := qt (a := off) (b := 0) (by omega) | have q0 := qf (a := off) (b := 0) (by omega) | skip
       first | have q1 := qt (a := k) (b := 1) (by omega) | have q1 := qf (a := k) (b := 1) (by omega) | skip
       first | have q2 := qt (a := k) (b := 3) (by omega) | have q2 := qf (a := k) (b := 3) (by omega) | skip
       first | have q3 := qt (a := k) (b := 4) (by omega) | have q3 := qf (a := k) (b := 4) (by omega) | skip
       first | have p0 := decide_eq_true (p := 0 ≤ off) (by omega) | have p0 := decide_eq_false (p := 0 ≤ off) (by omega) | skip
       first | have p1 := decide_eq_true (p := off < 32) (by omega) | have p1 := decide_eq_false (p := off < 32) (by omega) | skip
       first | have p2 := decide_eq_true (p := off < S) (by omega) | have p2 := decide_eq_false (p := off < S) (by omega) | skip
       first | have s0 := st (a := off) (n := 4) (by omega) (by omega) | have s0 := sf (a := off) (n := 4) (by omega) (by omega) | skip
       first | have s1 := st (a := off) (n := 2) (by omega) (by omega) | have s1 := sf (a := off) (n := 2) (by omega) (by omega) | skip
       first | have s2 := st (a := off) (n := 1) (by omega) (by omega) | have s2 := sf (a := off) (n := 1) (by omega) (by omega) | skip
       have HFit := Lib.hid (show fitsD E off 4 = false from Bool.eq_false_iff.2 (fun e => by have := (fits_ram hzE (by omega) (by omega)).1 e; omega))
       have HRd := Lib.hid (fun (b : Nat) (O X : Nat → Prop) (W : World) (h : Dev Bk W b E O X) => Read_any Bk b E O off 4 W HI.out.1 HI.out.2.1 h)
       rw [read_none HFit.out] at HRd
       clear hzE hkE hS4 hk6 hk1 g2
       go_wp2_with fail
       have LTx := Lib.hid (ltb F33.out)
       have LTd := Lib.hid (ltd F34.out)
       have LTwas := Lib.hid (ltr F32r.out)
       refine (HRd.out _ _ _ _ F34.out).mono ?_
       rintro z x38 ⟨rfl, O38, k1, k2, k3⟩
       have F38d := Lib.hid (k1)
       have F39 := Lib.hid (F33.out.only k2 (A27.out _ rfl))
       clear F33
       have A40 := Lib.hid (apt k3 A27.out LTx.out)
       clear A27
       have F41 := Lib.hid (row_only F32r.out k2 A37.out)
       clear F32r
       have A42 := Lib.hid (apt k3 A37.out LTwas.out)
       clear A37
       have HO43 := Lib.hid (ogt HB.out C35.out k3 HO28.out)
       have C44 := Lib.hid (cto HB.out C35.out k2 HO28.out)
       clear C35 HO28 F34
       clear k1 k2 k3
       clear LTx LTd LTwas 
       clear e0 e1 e2 e3 e4
       obtain ⟨e0, e1, e2, e3, e4⟩ := five HBw.out F39.out
       go_wp2_with fail
       have LTx := Lib.hid (ltb F39.out)
       have LTd := Lib.hid (ltd F38d.out)
       have LTwas := Lib.hid (ltr F41.out)
       refine (look_row Bk B b21 E O38 x38 (csz HB.out C44.out) F38d.out).mono ?_
       rintro z x45 ⟨⟨v45, rfl, hv⟩, hb⟩
       have F45r := Lib.hid hv
       have F46 := Lib.hid (F39.out.keep hb)
       clear F39
       have F47 := Lib.hid (F38d.out.keep hb)
       clear F38d
       have F48 := Lib.hid (Orow.own_keep F41.out hb)
       clear F41
       have C49 := Lib.hid (cbl HB.out C44.out hb)
       clear C44
       have A50 := Lib.hid (apn (gtr hv) LTx.out)
       have A51 := Lib.hid (apn (gtr hv) LTd.out)
       have A52 := Lib.hid (apn (gtr hv) LTwas.out)
       clear hv hb
       clear LTx LTd LTwas 
       go_wp2_with fail
       refine (same_limbs F45r.out F48.out (by have := (look_len F47.out.ok).2; omega)).mono ?_
       rintro z x53 ⟨rfl, hb⟩
       have F54 := Lib.hid (F46.out.keep hb)
       clear F46
       have F55 := Lib.hid (F47.out.keep hb)
       clear F47
       have F56 := Lib.hid (Orow.own_keep F48.out hb)
       clear F48
       have F57 := Lib.hid (Orow.own_keep F45r.out hb)
       clear F45r
       have C58 := Lib.hid (cbl HB.out C49.out hb)
       clear C49
       clear hb
       clear F57
       clear F56
       go_wp2_with fail
       have LTx := Lib.hid (ltb F54.out)
       have LTd := Lib.hid (ltd F55.out)
       refine (look_row Bk B b21 E O38 x53 (csz HB.out C58.out) F55.out).mono ?_
       rintro z x59 ⟨⟨v59, rfl, hv⟩, hb⟩
       have F59r := Lib.hid hv
       have F60 := Lib.hid (F54.out.keep hb)
       clear F54
       have F61 := Lib.hid (F55.out.keep hb)
       clear F55
       have C62 := Lib.hid (cbl HB.out C58.out hb)
       clear C58
       have A63 := Lib.hid (apn (gtr hv) LTx.out)
       have A64 := Lib.hid (apn (gtr hv) LTd.out)
       clear hv hb
       clear LTx LTd 
       go_wp2_with fail
       have LTx := Lib.hid (ltb F60.out)
       have LTd := Lib.hid (ltd F61.out)
       have LTwas := Lib.hid (ltr F59r.out)
       refine (Write_any Bk b21 E O38 off 4 v x59 HI.out.1 HI.out.2.1 HI.out.2.2 F61.out).mono ?_
       rintro z x65 ⟨hz, O65, k1, k2, k3⟩
       rw [write_none HFit.out] at hz
       subst hz
       have F65d := Lib.hid (show Dev Bk x65 b21 E O65 X21 from by have := k1; rw [write_none HFit.out] at this; exact this)
       have F66 := Lib.hid (F60.out.only k2 (A40.out _ rfl))
       clear F60
       have A67 := Lib.hid (apt k3 A40.out LTx.out)
       clear A40
       have F68 := Lib.hid (row_only F59r.out k2 A64.out)
       clear F59r
       have A69 := Lib.hid (apt k3 A64.out LTwas.out)
       clear A64
       have HO70 := Lib.hid (ogt HB.out C62.out k3 HO43.out)
       have C71 := Lib.hid (cto HB.out C62.out k2 HO43.out)
       clear C62 HO43 F61
       clear k1 k2 k3
       clear LTx LTd LTwas 
       go_wp2_with fail
       have LTx := Lib.hid (ltb F66.out)
       have LTd := Lib.hid (ltd F65d.out)
       have LTwas := Lib.hid (ltr F68.out)
       refine (look_row Bk B b21 E O65 x65 (csz HB.out C71.out) F65d.out).mono ?_
       rintro z x72 ⟨⟨v72, rfl, hv⟩, hb⟩
       have F72r := Lib.hid hv
       have F73 := Lib.hid (F66.out.keep hb)
       clear F66
       have F74 := Lib.hid (F65d.out.keep hb)
       clear F65d
       have F75 := Lib.hid (Orow.own_keep F68.out hb)
       clear F68
       have C76 := Lib.hid (cbl HB.out C71.out hb)
       clear C71
       have A77 := Lib.hid (apn (gtr hv) LTx.out)
       have A78 := Lib.hid (apn (gtr hv) LTd.out)
       have A79 := Lib.hid (apn (gtr hv) LTwas.out)
       clear hv hb
       clear LTx LTd LTwas 
       go_wp2_with fail
       refine (same_limbs F72r.out F75.out (by have := (look_len F74.out.ok).2; omega)).mono ?_
       rintro z x80 ⟨rfl, hb⟩
       have F81 := Lib.hid (F73.out.keep hb)
       clear F73
       have F82 := Lib.hid (F74.out.keep hb)
       clear F74
       have F83 := Lib.hid (Orow.own_keep F75.out hb)
       clear F75
       have F84 := Lib.hid (Orow.own_keep F72r.out hb)
       clear F72r
       have C85 := Lib.hid (cbl HB.out C76.out hb)
       clear C76
       clear hb
       go_wp2_with fail
       go_ret
       exact ⟨rfl, C85.out⟩
     ·
      by_cases g10 : size = 2
      ·
       subst g10
       by_cases g11 : 0 ≤ off
       ·
        by_cases g12 : off < S
        ·
         by_cases g13 : off % 2 = 0
         ·
          by_cases g14 : off = 0
          ·
           first | have q0 := qt (a := off) (b := 0) (by omega) | have q0 := qf (a := off) (b := 0) (by omega) | skip
           first | have q1 := qt (a := k) (b := 1) (by omega) | have q1 := qf (a := k) (b := 1) (by omega) | skip
           first | have q2 := qt (a := k) (b := 3) (by omega) | have q2 := qf (a := k) (b := 3) (by omega) | skip
           first | have q3 := qt (a := k) (b := 4) (by omega) | have q3 := qf (a := k) (b := 4) (by omega) | skip
           first | have p0 := decide_eq_true (p := 0 ≤ off) (by omega) | have p0 := decide_eq_false (p := 0 ≤ off) (by omega) | skip
           first | have p1 := decide_eq_true (p := off < 32) (by omega) | have p1 := decide_eq_false (p := off < 32) (by omega) | skip
           first | have p2 := decide_eq_true (p := off < S) (by omega) | have p2 := decide_eq_false (p := off < S) (by omega) | skip
           first | have s0 := st (a := off) (n := 4) (by omega) (by omega) | have s0 := sf (a := off) (n := 4) (by omega) (by omega) | skip
           first | have s1 := st (a := off) (n := 2) (by omega) (by omega) | have s1 := sf (a := off) (n := 2) (by omega) (by omega) | skip
           first | have s2 := st (a := off) (n := 1) (by omega) (by omega) | have s2 := sf (a := off) (n := 1) (by omega) (by omega) | skip
           have HFit := Lib.hid (show fitsD E off 2 = true from (fits_ram hzE (by omega) (by omega)).2 ⟨by omega, by omega, by omega, by omega⟩)
           have HSm := Lib.hid (read_same (d := E) (off := off) (size := 2) (by rw [hkE]; omega))
           have HRd := Lib.hid (fun (b : Nat) (O X : Nat → Prop) (W : World) (h : Dev Bk W b E O X) => Read_any Bk b E O off 2 W HI.out.1 HI.out.2.1 h)
           rw [read_fits, HFit.out] at HRd
           rw [HSm.out] at HRd
           obtain ⟨rv, hrv⟩ : ∃ rv, (readD E off 2).1 = rv := ⟨_, rfl⟩
           rw [hrv] at HRd
           clear hrv
           clear hzE hkE hS4 hk6 hk1 g1 g11 g12 g13 g14
           go_wp2_with fail
           have LTx := Lib.hid (ltb F33.out)
           have LTd := Lib.hid (ltd F34.out)
           have LTwas := Lib.hid (ltr F32r.out)
           refine (HRd.out _ _ _ _ F34.out).mono ?_
           rintro z x38 ⟨rfl, O38, k1, k2, k3⟩
           have F38d := Lib.hid (k1)
           have F39 := Lib.hid (F33.out.only k2 (A27.out _ rfl))
           clear F33
           have A40 := Lib.hid (apt k3 A27.out LTx.out)
           clear A27
           have F41 := Lib.hid (row_only F32r.out k2 A37.out)
           clear F32r
           have A42 := Lib.hid (apt k3 A37.out LTwas.out)
           clear A37
           have HO43 := Lib.hid (ogt HB.out C35.out k3 HO28.out)
           have C44 := Lib.hid (cto HB.out C35.out k2 HO28.out)
           clear C35 HO28 F34
           clear k1 k2 k3
           clear LTx LTd LTwas 
           clear e0 e1 e2 e3 e4
           obtain ⟨e0, e1, e2, e3, e4⟩ := five HBw.out F39.out
           go_wp2_with fail
           have LTx := Lib.hid (ltb F39.out)
           have LTd := Lib.hid (ltd F38d.out)
           have LTwas := Lib.hid (ltr F41.out)
           refine (look_row Bk B b21 E O38 x38 (csz HB.out C44.out) F38d.out).mono ?_
           rintro z x45 ⟨⟨v45, rfl, hv⟩, hb⟩
           have F45r := Lib.hid hv
           have F46 := Lib.hid (F39.out.keep hb)
           clear F39
           have F47 := Lib.hid (F38d.out.keep hb)
           clear F38d
           have F48 := Lib.hid (Orow.own_keep F41.out hb)
           clear F41
           have C49 := Lib.hid (cbl HB.out C44.out hb)
           clear C44
           have A50 := Lib.hid (apn (gtr hv) LTx.out)
           have A51 := Lib.hid (apn (gtr hv) LTd.out)
           have A52 := Lib.hid (apn (gtr hv) LTwas.out)
           clear hv hb
           clear LTx LTd LTwas 
           go_wp2_with fail
           refine (same_limbs F45r.out F48.out (by have := (look_len F47.out.ok).2; omega)).mono ?_
           rintro z x53 ⟨rfl, hb⟩
           have F54 := Lib.hid (F46.out.keep hb)
           clear F46
           have F55 := Lib.hid (F47.out.keep hb)
           clear F47
           have F56 := Lib.hid (Orow.own_keep F48.out hb)
           clear F48
           have F57 := Lib.hid (Orow.own_keep F45r.out hb)
           clear F45r
           have C58 := Lib.hid (cbl HB.out C49.out hb)
           clear C49
           clear hb
           clear F57
           clear F56
           go_wp2_with fail
           have LTx := Lib.hid (ltb F54.out)
           have LTd := Lib.hid (ltd F55.out)
           refine (look_row Bk B b21 E O38 x53 (csz HB.out C58.out) F55.out).mono ?_
           rintro z x59 ⟨⟨v59, rfl, hv⟩, hb⟩
           have F59r := Lib.hid hv
           have F60 := Lib.hid (F54.out.keep hb)
           clear F54
           have F61 := Lib.hid (F55.out.keep hb)
           clear F55
           have C62 := Lib.hid (cbl HB.out C58.out hb)
           clear C58
           have A63 := Lib.hid (apn (gtr hv) LTx.out)
           have A64 := Lib.hid (apn (gtr hv) LTd.out)
           clear hv hb
           clear LTx LTd 
           go_wp2_with fail
           have LTx := Lib.hid (ltb F60.out)
           have LTd := Lib.hid (ltd F61.out)
           have LTwas := Lib.hid (ltr F59r.out)
           refine (Write_any Bk b21 E O38 off 2 v x59 HI.out.1 HI.out.2.1 HI.out.2.2 F61.out).mono ?_
           rintro z x65 ⟨hz, O65, k1, k2, k3⟩
           rw [write_fits, HFit.out] at hz
           subst hz
           have F65d := Lib.hid (k1)
           have F66 := Lib.hid (F60.out.only k2 (A40.out _ rfl))
           clear F60
           have A67 := Lib.hid (apt k3 A40.out LTx.out)
           clear A40
           have F68 := Lib.hid (row_only F59r.out k2 A64.out)
           clear F59r
           have A69 := Lib.hid (apt k3 A64.out LTwas.out)
           clear A64
           have HO70 := Lib.hid (ogt HB.out C62.out k3 HO43.out)
           have C71 := Lib.hid (cto HB.out C62.out k2 HO43.out)
           clear C62 HO43 F61
           clear k1 k2 k3
           clear LTx LTd LTwas 
           go_wp2_with fail
           go_ret
           exact ⟨rfl, C71.out⟩
          ·
           first | have q0 := qt (a := off) (b := 0) (by omega) | have q0 := qf (a := off) (b := 0) (by omega) | skip
           first | have q1 := qt (a := k) (b := 1) (by omega) | have q1 := qf (a := k) (b := 1) (by omega) | skip
           first | have q2 := qt (a := k) (b := 3) (by omega) | have q2 := qf (a := k) (b := 3) (by omega) | skip
           first | have q3 := qt (a := k) (b := 4) (by omega) | have q3 := qf (a := k) (b := 4) (by omega) | skip
           first | have p0 := decide_eq_true (p := 0 ≤ off) (by omega) | have p0 := decide_eq_false (p := 0 ≤ off) (by omega) | skip
           first | have p1 := decide_eq_true (p := off < 32) (by omega) | have p1 := decide_eq_false (p := off < 32) (by omega) | skip
           first | have p2 := decide_eq_true (p := off < S) (by omega) | have p2 := decide_eq_false (p := off < S) (by omega) | skip
           first | have s0 := st (a := off) (n := 4) (by omega) (by omega) | have s0 := sf (a := off) (n := 4) (by omega) (by omega) | skip
           first | have s1 := st (a := off) (n := 2) (by omega) (by omega) | have s1 := sf (a := off) (n := 2) (by omega) (by omega) | skip
           first | have s2 := st (a := off) (n := 1) (by omega) (by omega) | have s2 := sf (a := off) (n := 1) (by omega) (by omega) | skip
           have HFit := Lib.hid (show fitsD E off 2 = true from (fits_ram hzE (by omega) (by omega)).2 ⟨by omega, by omega, by omega, by omega⟩)
           have HSm := Lib.hid (read_same (d := E) (off := off) (size := 2) (by rw [hkE]; omega))
           have HRd := Lib.hid (fun (b : Nat) (O X : Nat → Prop) (W : World) (h : Dev Bk W b E O X) => Read_any Bk b E O off 2 W HI.out.1 HI.out.2.1 h)
           rw [read_fits, HFit.out] at HRd
           rw [HSm.out] at HRd
           obtain ⟨rv, hrv⟩ : ∃ rv, (readD E off 2).1 = rv := ⟨_, rfl⟩
           rw [hrv] at HRd
           clear hrv
           clear hzE hkE hS4 hk6 hk1 g1 g11 g12 g13 g14
           go_wp2_with fail
           have LTx := Lib.hid (ltb F33.out)
           have LTd := Lib.hid (ltd F34.out)
           have LTwas := Lib.hid (ltr F32r.out)
           refine (HRd.out _ _ _ _ F34.out).mono ?_
           rintro z x38 ⟨rfl, O38, k1, k2, k3⟩
           have F38d := Lib.hid (k1)
           have F39 := Lib.hid (F33.out.only k2 (A27.out _ rfl))
           clear F33
           have A40 := Lib.hid (apt k3 A27.out LTx.out)
           clear A27
           have F41 := Lib.hid (row_only F32r.out k2 A37.out)
           clear F32r
           have A42 := Lib.hid (apt k3 A37.out LTwas.out)
           clear A37
           have HO43 := Lib.hid (ogt HB.out C35.out k3 HO28.out)
           have C44 := Lib.hid (cto HB.out C35.out k2 HO28.out)
           clear C35 HO28 F34
           clear k1 k2 k3
           clear LTx LTd LTwas 
           clear e0 e1 e2 e3 e4
           obtain ⟨e0, e1, e2, e3, e4⟩ := five HBw.out F39.out
           go_wp2_with fail
           have LTx := Lib.hid (ltb F39.out)
           have LTd := Lib.hid (ltd F38d.out)
           have LTwas := Lib.hid (ltr F41.out)
           refine (look_row Bk B b21 E O38 x38 (csz HB.out C44.out) F38d.out).mono ?_
           rintro z x45 ⟨⟨v45, rfl, hv⟩, hb⟩
           have F45r := Lib.hid hv
           have F46 := Lib.hid (F39.out.keep hb)
           clear F39
           have F47 := Lib.hid (F38d.out.keep hb)
           clear F38d
           have F48 := Lib.hid (Orow.own_keep F41.out hb)
           clear F41
           have C49 := Lib.hid (cbl HB.out C44.out hb)
           clear C44
           have A50 := Lib.hid (apn (gtr hv) LTx.out)
           have A51 := Lib.hid (apn (gtr hv) LTd.out)
           have A52 := Lib.hid (apn (gtr hv) LTwas.out)
           clear hv hb
           clear LTx LTd LTwas 
           go_wp2_with fail
           refine (same_limbs F45r.out F48.out (by have := (look_len F47.out.ok).2; omega)).mono ?_
           rintro z x53 ⟨rfl, hb⟩
           have F54 := Lib.hid (F46.out.keep hb)
           clear F46
           have F55 := Lib.hid (F47.out.keep hb)
           clear F47
           have F56 := Lib.hid (Orow.own_keep F48.out hb)
           clear F48
           have F57 := Lib.hid (Orow.own_keep F45r.out hb)
           clear F45r
           have C58 := Lib.hid (cbl HB.out C49.out hb)
           clear C49
           clear hb
           clear F57
           clear F56
           go_wp2_with fail
           have LTx := Lib.hid (ltb F54.out)
           have LTd := Lib.hid (ltd F55.out)
           refine (look_row Bk B b21 E O38 x53 (csz HB.out C58.out) F55.out).mono ?_
           rintro z x59 ⟨⟨v59, rfl, hv⟩, hb⟩
           have F59r := Lib.hid hv
           have F60 := Lib.hid (F54.out.keep hb)
           clear F54
           have F61 := Lib.hid (F55.out.keep hb)
           clear F55
           have C62 := Lib.hid (cbl HB.out C58.out hb)
           clear C58
           have A63 := Lib.hid (apn (gtr hv) LTx.out)
           have A64 := Lib.hid (apn (gtr hv) LTd.out)
           clear hv hb
           clear LTx LTd 
           go_wp2_with fail
           have LTx := Lib.hid (ltb F60.out)
           have LTd := Lib.hid (ltd F61.out)
           have LTwas := Lib.hid (ltr F59r.out)
           refine (Write_any Bk b21 E O38 off 2 v x59 HI.out.1 HI.out.2.1 HI.out.2.2 F61.out).mono ?_
           rintro z x65 ⟨hz, O65, k1, k2, k3⟩
           rw [write_fits, HFit.out] at hz
           subst hz
           have F65d := Lib.hid (k1)
           have F66 := Lib.hid (F60.out.only k2 (A40.out _ rfl))
           clear F60
           have A67 := Lib.hid (apt k3 A40.out LTx.out)
           clear A40
           have F68 := Lib.hid (row_only F59r.out k2 A64.out)
           clear F59r
           have A69 := Lib.hid (apt k3 A64.out LTwas.out)
           clear A64
           have HO70 := Lib.hid (ogt HB.out C62.out k3 HO43.out)
           have C71 := Lib.hid (cto HB.out C62.out k2 HO43.out)
           clear C62 HO43 F61
           clear k1 k2 k3
           clear LTx LTd LTwas 
           go_wp2_with fail
           go_ret
           exact ⟨rfl, C71.out⟩
         ·
          first | have q0 := qt (a := off) (b := 0) (by omega) | have q0 := qf (a := off) (b := 0) (by omega) | skip
          first | have q1 := qt (a := k) (b := 1) (by omega) | have q1 := qf (a := k) (b := 1) (by omega) | skip
          first | have q2 := qt (a := k) (b := 3) (by omega) | have q2 := qf (a := k) (b := 3) (by omega) | skip
          first | have q3 := qt (a := k) (b := 4) (by omega) | have q3 := qf (a := k) (b := 4) (by omega) | skip
          first | have p0 := decide_eq_true (p := 0 ≤ off) (by omega) | have p0 := decide_eq_false (p := 0 ≤ off) (by omega) | skip
          first | have p1 := decide_eq_true (p := off < 32) (by omega) | have p1 := decide_eq_false (p := off < 32) (by omega) | skip
          first | have p2 := decide_eq_true (p := off < S) (by omega) | have p2 := decide_eq_false (p := off < S) (by omega) | skip
          first | have s0 := st (a := off) (n := 4) (by omega) (by omega) | have s0 := sf (a := off) (n := 4) (by omega) (by omega) | skip
          first | have s1 := st (a := off) (n := 2) (by omega) (by omega) | have s1 := sf (a := off) (n := 2) (by omega) (by omega) | skip
          first | have s2 := st (a := off) (n := 1) (by omega) (by omega) | have s2 := sf (a := off) (n := 1) (by omega) (by omega) | skip
          have HFit := Lib.hid (show fitsD E off 2 = false from Bool.eq_false_iff.2 (fun e => by have := (fits_ram hzE (by omega) (by omega)).1 e; omega))
          have HRd := Lib.hid (fun (b : Nat) (O X : Nat → Prop) (W : World) (h : Dev Bk W b E O X) => Read_any Bk b E O off 2 W HI.out.1 HI.out.2.1 h)
          rw [read_none HFit.out] at HRd
          clear hzE hkE hS4 hk6 hk1 g1 g11 g12 g13
          go_wp2_with fail
          have LTx := Lib.hid (ltb F33.out)
          have LTd := Lib.hid (ltd F34.out)
          have LTwas := Lib.hid (ltr F32r.out)
          refine (HRd.out _ _ _ _ F34.out).mono ?_
          rintro z x38 ⟨rfl, O38, k1, k2, k3⟩
          have F38d := Lib.hid (k1)
          have F39 := Lib.hid (F33.out.only k2 (A27.out _ rfl))
          clear F33
          have A40 := Lib.hid (apt k3 A27.out LTx.out)
          clear A27
          have F41 := Lib.hid (row_only F32r.out k2 A37.out)
          clear F32r
          have A42 := Lib.hid (apt k3 A37.out LTwas.out)
          clear A37
          have HO43 := Lib.hid (ogt HB.out C35.out k3 HO28.out)
          have C44 := Lib.hid (cto HB.out C35.out k2 HO28.out)
          clear C35 HO28 F34
          clear k1 k2 k3
          clear LTx LTd LTwas 
          clear e0 e1 e2 e3 e4
          obtain ⟨e0, e1, e2, e3, e4⟩ := five HBw.out F39.out
          go_wp2_with fail
          have LTx := Lib.hid (ltb F39.out)
          have LTd := Lib.hid (ltd F38d.out)
          have LTwas := Lib.hid (ltr F41.out)
          refine (look_row Bk B b21 E O38 x38 (csz HB.out C44.out) F38d.out).mono ?_
          rintro z x45 ⟨⟨v45, rfl, hv⟩, hb⟩
          have F45r := Lib.hid hv
          have F46 := Lib.hid (F39.out.keep hb)
          clear F39
          have F47 := Lib.hid (F38d.out.keep hb)
          clear F38d
          have F48 := Lib.hid (Orow.own_keep F41.out hb)
          clear F41
          have C49 := Lib.hid (cbl HB.out C44.out hb)
          clear C44
          have A50 := Lib.hid (apn (gtr hv) LTx.out)
          have A51 := Lib.hid (apn (gtr hv) LTd.out)
          have A52 := Lib.hid (apn (gtr hv) LTwas.out)
          clear hv hb
          clear LTx LTd LTwas 
          go_wp2_with fail
          refine (same_limbs F45r.out F48.out (by have := (look_len F47.out.ok).2; omega)).mono ?_
          rintro z x53 ⟨rfl, hb⟩
          have F54 := Lib.hid (F46.out.keep hb)
          clear F46
          have F55 := Lib.hid (F47.out.keep hb)
          clear F47
          have F56 := Lib.hid (Orow.own_keep F48.out hb)
          clear F48
          have F57 := Lib.hid (Orow.own_keep F45r.out hb)
          clear F45r
          have C58 := Lib.hid (cbl HB.out C49.out hb)
          clear C49
          clear hb
          clear F57
          clear F56
          go_wp2_with fail
          have LTx := Lib.hid (ltb F54.out)
          have LTd := Lib.hid (ltd F55.out)
          refine (look_row Bk B b21 E O38 x53 (csz HB.out C58.out) F55.out).mono ?_
          rintro z x59 ⟨⟨v59, rfl, hv⟩, hb⟩
          have F59r := Lib.hid hv
          have F60 := Lib.hid (F54.out.keep hb)
          clear F54
          have F61 := Lib.hid (F55.out.keep hb)
          clear F55
          have C62 := Lib.hid (cbl HB.out C58.out hb)
          clear C58
          have A63 := Lib.hid (apn (gtr hv) LTx.out)
          have A64 := Lib.hid (apn (gtr hv) LTd.out)
          clear hv hb
          clear LTx LTd 
          go_wp2_with fail
          have LTx := Lib.hid (ltb F60.out)
          have LTd := Lib.hid (ltd F61.out)
          have LTwas := Lib.hid (ltr F59r.out)
          refine (Write_any Bk b21 E O38 off 2 v x59 HI.out.1 HI.out.2.1 HI.out.2.2 F61.out).mono ?_
          rintro z x65 ⟨hz, O65, k1, k2, k3⟩
          rw [write_none HFit.out] at hz
          subst hz
          have F65d := Lib.hid (show Dev Bk x65 b21 E O65 X21 from by have := k1; rw [write_none HFit.out] at this; exact this)
          have F66 := Lib.hid (F60.out.only k2 (A40.out _ rfl))
          clear F60
          have A67 := Lib.hid (apt k3 A40.out LTx.out)
          clear A40
          have F68 := Lib.hid (row_only F59r.out k2 A64.out)
          clear F59r
          have A69 := Lib.hid (apt k3 A64.out LTwas.out)
          clear A64
          have HO70 := Lib.hid (ogt HB.out C62.out k3 HO43.out)
          have C71 := Lib.hid (cto HB.out C62.out k2 HO43.out)
          clear C62 HO43 F61
          clear k1 k2 k3
          clear LTx LTd LTwas 
          go_wp2_with fail
          have LTx := Lib.hid (ltb F66.out)
          have LTd := Lib.hid (ltd F65d.out)
          have LTwas := Lib.hid (ltr F68.out)
          refine (look_row Bk B b21 E O65 x65 (csz HB.out C71.out) F65d.out).mono ?_
          rintro z x72 ⟨⟨v72, rfl, hv⟩, hb⟩
          have F72r := Lib.hid hv
          have F73 := Lib.hid (F66.out.keep hb)
          clear F66
          have F74 := Lib.hid (F65d.out.keep hb)
          clear F65d
          have F75 := Lib.hid (Orow.own_keep F68.out hb)
          clear F68
          have C76 := Lib.hid (cbl HB.out C71.out hb)
          clear C71
          have A77 := Lib.hid (apn (gtr hv) LTx.out)
          have A78 := Lib.hid (apn (gtr hv) LTd.out)
          have A79 := Lib.hid (apn (gtr hv) LTwas.out)
          clear hv hb
          clear LTx LTd LTwas 
          go_wp2_with fail
          refine (same_limbs F72r.out F75.out (by have := (look_len F74.out.ok).2; omega)).mono ?_
          rintro z x80 ⟨rfl, hb⟩
          have F81 := Lib.hid (F73.out.keep hb)
          clear F73
          have F82 := Lib.hid (F74.out.keep hb)
          clear F74
          have F83 := Lib.hid (Orow.own_keep F75.out hb)
          clear F75
          have F84 := Lib.hid (Orow.own_keep F72r.out hb)
          clear F72r
          have C85 := Lib.hid (cbl HB.out C76.out hb)
          clear C76
          clear hb
          go_wp2_with fail
          go_ret
          exact ⟨rfl, C85.out⟩
        ·
         first | have q0 := qt (a := off) (b := 0) (by omega) | have q0 := qf (a := off) (b := 0) (by omega) | skip
         first | have q1 := qt (a := k) (b := 1) (by omega) | have q1 := qf (a := k) (b := 1) (by omega) | skip
         first | have q2 := qt (a := k) (b := 3) (by omega) | have q2 := qf (a := k) (b := 3) (by omega) | skip
         first | have q3 := qt (a := k) (b := 4) (by omega) | have q3 := qf (a := k) (b := 4) (by omega) | skip
         first | have p0 := decide_eq_true (p := 0 ≤ off) (by omega) | have p0 := decide_eq_false (p := 0 ≤ off) (by omega) | skip
         first | have p1 := decide_eq_true (p := off < 32) (by omega) | have p1 := decide_eq_false (p := off < 32) (by omega) | skip
         first | have p2 := decide_eq_true (p := off < S) (by omega) | have p2 := decide_eq_false (p := off < S) (by omega) | skip
         first | have s0 := st (a := off) (n := 4) (by omega) (by omega) | have s0 := sf (a := off) (n := 4) (by omega) (by omega) | skip
         first | have s1 := st (a := off) (n := 2) (by omega) (by omega) | have s1 := sf (a := off) (n := 2) (by omega) (by omega) | skip
         first | have s2 := st (a := off) (n := 1) (by omega) (by omega) | have s2 := sf (a := off) (n := 1) (by omega) (by omega) | skip
         have HFit := Lib.hid (show fitsD E off 2 = false from Bool.eq_false_iff.2 (fun e => by have := (fits_ram hzE (by omega) (by omega)).1 e; omega))
         have HRd := Lib.hid (fun (b : Nat) (O X : Nat → Prop) (W : World) (h : Dev Bk W b E O X) => Read_any Bk b E O off 2 W HI.out.1 HI.out.2.1 h)
         rw [read_none HFit.out] at HRd
         clear hzE hkE hS4 hk6 hk1 g1 g11 g12
         go_wp2_with fail
         have LTx := Lib.hid (ltb F33.out)
         have LTd := Lib.hid (ltd F34.out)
         have LTwas := Lib.hid (ltr F32r.out)
         refine (HRd.out _ _ _ _ F34.out).mono ?_
         rintro z x38 ⟨rfl, O38, k1, k2, k3⟩
         have F38d := Lib.hid (k1)
         have F39 := Lib.hid (F33.out.only k2 (A27.out _ rfl))
         clear F33
         have A40 := Lib.hid (apt k3 A27.out LTx.out)
         clear A27
         have F41 := Lib.hid (row_only F32r.out k2 A37.out)
         clear F32r
         have A42 := Lib.hid (apt k3 A37.out LTwas.out)
         clear A37
         have HO43 := Lib.hid (ogt HB.out C35.out k3 HO28.out)
         have C44 := Lib.hid (cto HB.out C35.out k2 HO28.out)
         clear C35 HO28 F34
         clear k1 k2 k3
         clear LTx LTd LTwas 
         clear e0 e1 e2 e3 e4
         obtain ⟨e0, e1, e2, e3, e4⟩ := five HBw.out F39.out
         go_wp2_with fail
         have LTx := Lib.hid (ltb F39.out)
         have LTd := Lib.hid (ltd F38d.out)
         have LTwas := Lib.hid (ltr F41.out)
         refine (look_row Bk B b21 E O38 x38 (csz HB.out C44.out) F38d.out).mono ?_
         rintro z x45 ⟨⟨v45, rfl, hv⟩, hb⟩
         have F45r := Lib.hid hv
         have F46 := Lib.hid (F39.out.keep hb)
         clear F39
         have F47 := Lib.hid (F38d.out.keep hb)
         clear F38d
         have F48 := Lib.hid (Orow.own_keep F41.out hb)
         clear F41
         have C49 := Lib.hid (cbl HB.out C44.out hb)
         clear C44
         have A50 := Lib.hid (apn (gtr hv) LTx.out)
         have A51 := Lib.hid (apn (gtr hv) LTd.out)
         have A52 := Lib.hid (apn (gtr hv) LTwas.out)
         clear hv hb
         clear LTx LTd LTwas 
         go_wp2_with fail
         refine (same_limbs F45r.out F48.out (by have := (look_len F47.out.ok).2; omega)).mono ?_
         rintro z x53 ⟨rfl, hb⟩
         have F54 := Lib.hid (F46.out.keep hb)
         clear F46
         have F55 := Lib.hid (F47.out.keep hb)
         clear F47
         have F56 := Lib.hid (Orow.own_keep F48.out hb)
         clear F48
         have F57 := Lib.hid (Orow.own_keep F45r.out hb)
         clear F45r
         have C58 := Lib.hid (cbl HB.out C49.out hb)
         clear C49
         clear hb
         clear F57
         clear F56
         go_wp2_with fail
         have LTx := Lib.hid (ltb F54.out)
         have LTd := Lib.hid (ltd F55.out)
         refine (look_row Bk B b21 E O38 x53 (csz HB.out C58.out) F55.out).mono ?_
         rintro z x59 ⟨⟨v59, rfl, hv⟩, hb⟩
         have F59r := Lib.hid hv
         have F60 := Lib.hid (F54.out.keep hb)
         clear F54
         have F61 := Lib.hid (F55.out.keep hb)
         clear F55
         have C62 := Lib.hid (cbl HB.out C58.out hb)
         clear C58
         have A63 := Lib.hid (apn (gtr hv) LTx.out)
         have A64 := Lib.hid (apn (gtr hv) LTd.out)
         clear hv hb
         clear LTx LTd 
         go_wp2_with fail
         have LTx := Lib.hid (ltb F60.out)
         have LTd := Lib.hid (ltd F61.out)
         have LTwas := Lib.hid (ltr F59r.out)
         refine (Write_any Bk b21 E O38 off 2 v x59 HI.out.1 HI.out.2.1 HI.out.2.2 F61.out).mono ?_
         rintro z x65 ⟨hz, O65, k1, k2, k3⟩
         rw [write_none HFit.out] at hz
         subst hz
         have F65d := Lib.hid (show Dev Bk x65 b21 E O65 X21 from by have := k1; rw [write_none HFit.out] at this; exact this)
         have F66 := Lib.hid (F60.out.only k2 (A40.out _ rfl))
         clear F60
         have A67 := Lib.hid (apt k3 A40.out LTx.out)
         clear A40
         have F68 := Lib.hid (row_only F59r.out k2 A64.out)
         clear F59r
         have A69 := Lib.hid (apt k3 A64.out LTwas.out)
         clear A64
         have HO70 := Lib.hid (ogt HB.out C62.out k3 HO43.out)
         have C71 := Lib.hid (cto HB.out C62.out k2 HO43.out)
         clear C62 HO43 F61
         clear k1 k2 k3
         clear LTx LTd LTwas 
         go_wp2_with fail
         have LTx := Lib.hid (ltb F66.out)
         have LTd := Lib.hid (ltd F65d.out)
         have LTwas := Lib.hid (ltr F68.out)
         refine (look_row Bk B b21 E O65 x65 (csz HB.out C71.out) F65d.out).mono ?_
         rintro z x72 ⟨⟨v72, rfl, hv⟩, hb⟩
         have F72r := Lib.hid hv
         have F73 := Lib.hid (F66.out.keep hb)
         clear F66
         have F74 := Lib.hid (F65d.out.keep hb)
         clear F65d
         have F75 := Lib.hid (Orow.own_keep F68.out hb)
         clear F68
         have C76 := Lib.hid (cbl HB.out C71.out hb)
         clear C71
         have A77 := Lib.hid (apn (gtr hv) LTx.out)
         have A78 := Lib.hid (apn (gtr hv) LTd.out)
         have A79 := Lib.hid (apn (gtr hv) LTwas.out)
         clear hv hb
         clear LTx LTd LTwas 
         go_wp2_with fail
         refine (same_limbs F72r.out F75.out (by have := (look_len F74.out.ok).2; omega)).mono ?_
         rintro z x80 ⟨rfl, hb⟩
         have F81 := Lib.hid (F73.out.keep hb)
         clear F73
         have F82 := Lib.hid (F74.out.keep hb)
         clear F74
         have F83 := Lib.hid (Orow.own_keep F75.out hb)
         clear F75
         have F84 := Lib.hid (Orow.own_keep F72r.out hb)
         clear F72r
         have C85 := Lib.hid (cbl HB.out C76.out hb)
         clear C76
         clear hb
         go_wp2_with fail
         go_ret
         exact ⟨rfl, C85.out⟩
       ·
        first | have q0 := qt (a := off) (b := 0) (by omega) | have q0 := qf (a := off) (b := 0) (by omega) | skip
        first | have q1 := qt (a := k) (b := 1) (by omega) | have q1 := qf (a := k) (b := 1) (by omega) | skip
        first | have q2 := qt (a := k) (b := 3) (by omega) | have q2 := qf (a := k) (b := 3) (by omega) | skip
        first | have q3 := qt (a := k) (b := 4) (by omega) | have q3 := qf (a := k) (b := 4) (by omega) | skip
        first | have p0 := decide_eq_true (p := 0 ≤ off) (by omega) | have p0 := decide_eq_false (p := 0 ≤ off) (by omega) | skip
        first | have p1 := decide_eq_true (p := off < 32) (by omega) | have p1 := decide_eq_false (p := off < 32) (by omega) | skip
        first | have p2 := decide_eq_true (p := off < S) (by omega) | have p2 := decide_eq_false (p := off < S) (by omega) | skip
        first | have s0 := st (a := off) (n := 4) (by omega) (by omega) | have s0 := sf (a := off) (n := 4) (by omega) (by omega) | skip
        first | have s1 := st (a := off) (n := 2) (by omega) (by omega) | have s1 := sf (a := off) (n := 2) (by omega) (by omega) | skip
        first | have s2 := st (a := off) (n := 1) (by omega) (by omega) | have s2 := sf (a := off) (n := 1) (by omega) (by omega) | skip
        have HFit := Lib.hid (show fitsD E off 2 = false from Bool.eq_false_iff.2 (fun e => by have := (fits_ram hzE (by omega) (by omega)).1 e; omega))
        have HRd := Lib.hid (fun (b : Nat) (O X : Nat → Prop) (W : World) (h : Dev Bk W b E O X) => Read_any Bk b E O off 2 W HI.out.1 HI.out.2.1 h)
        rw [read_none HFit.out] at HRd
        clear hzE hkE hS4 hk6 hk1 g1 g11
        go_wp2_with fail
        have LTx := Lib.hid (ltb F33.out)
        have LTd := Lib.hid (ltd F34.out)
        have LTwas := Lib.hid (ltr F32r.out)
        refine (HRd.out _ _ _ _ F34.out).mono ?_
        rintro z x38 ⟨rfl, O38, k1, k2, k3⟩
        have F38d := Lib.hid (k1)
        have F39 := Lib.hid (F33.out.only k2 (A27.out _ rfl))
        clear F33
        have A40 := Lib.hid (apt k3 A27.out LTx.out)
        clear A27
        have F41 := Lib.hid (row_only F32r.out k2 A37.out)
        clear F32r
        have A42 := Lib.hid (apt k3 A37.out LTwas.out)
        clear A37
        have HO43 := Lib.hid (ogt HB.out C35.out k3 HO28.out)
        have C44 := Lib.hid (cto HB.out C35.out k2 HO28.out)
        clear C35 HO28 F34
        clear k1 k2 k3
        clear LTx LTd LTwas 
        clear e0 e1 e2 e3 e4
        obtain ⟨e0, e1, e2, e3, e4⟩ := five HBw.out F39.out
        go_wp2_with fail
        have LTx := Lib.hid (ltb F39.out)
        have LTd := Lib.hid (ltd F38d.out)
        have LTwas := Lib.hid (ltr F41.out)
        refine (look_row Bk B b21 E O38 x38 (csz HB.out C44.out) F38d.out).mono ?_
        rintro z x45 ⟨⟨v45, rfl, hv⟩, hb⟩
        have F45r := Lib.hid hv
        have F46 := Lib.hid (F39.out.keep hb)
        clear F39
        have F47 := Lib.hid (F38d.out.keep hb)
        clear F38d
        have F48 := Lib.hid (Orow.own_keep F41.out hb)
        clear F41
        have C49 := Lib.hid (cbl HB.out C44.out hb)
        clear C44
        have A50 := Lib.hid (apn (gtr hv) LTx.out)
        have A51 := Lib.hid (apn (gtr hv) LTd.out)
        have A52 := Lib.hid (apn (gtr hv) LTwas.out)
        clear hv hb
        clear LTx LTd LTwas 
        go_wp2_with fail
        refine (same_limbs F45r.out F48.out (by have := (look_len F47.out.ok).2; omega)).mono ?_
        rintro z x53 ⟨rfl, hb⟩
        have F54 := Lib.hid (F46.out.keep hb)
        clear F46
        have F55 := Lib.hid (F47.out.keep hb)
        clear F47
        have F56 := Lib.hid (Orow.own_keep F48.out hb)
        clear F48
        have F57 := Lib.hid (Orow.own_keep F45r.out hb)
        clear F45r
        have C58 := Lib.hid (cbl HB.out C49.out hb)
        clear C49
        clear hb
        clear F57
        clear F56
        go_wp2_with fail
        have LTx := Lib.hid (ltb F54.out)
        have LTd := Lib.hid (ltd F55.out)
        refine (look_row Bk B b21 E O38 x53 (csz HB.out C58.out) F55.out).mono ?_
        rintro z x59 ⟨⟨v59, rfl, hv⟩, hb⟩
        have F59r := Lib.hid hv
        have F60 := Lib.hid (F54.out.keep hb)
        clear F54
        have F61 := Lib.hid (F55.out.keep hb)
        clear F55
        have C62 := Lib.hid (cbl HB.out C58.out hb)
        clear C58
        have A63 := Lib.hid (apn (gtr hv) LTx.out)
        have A64 := Lib.hid (apn (gtr hv) LTd.out)
        clear hv hb
        clear LTx LTd 
        go_wp2_with fail
        have LTx := Lib.hid (ltb F60.out)
        have LTd := Lib.hid (ltd F61.out)
        have LTwas := Lib.hid (ltr F59r.out)
        refine (Write_any Bk b21 E O38 off 2 v x59 HI.out.1 HI.out.2.1 HI.out.2.2 F61.out).mono ?_
        rintro z x65 ⟨hz, O65, k1, k2, k3⟩
        rw [write_none HFit.out] at hz
        subst hz
        have F65d := Lib.hid (show Dev Bk x65 b21 E O65 X21 from by have := k1; rw [write_none HFit.out] at this; exact this)
        have F66 := Lib.hid (F60.out.only k2 (A40.out _ rfl))
        clear F60
        have A67 := Lib.hid (apt k3 A40.out LTx.out)
        clear A40
        have F68 := Lib.hid (row_only F59r.out k2 A64.out)
        clear F59r
        have A69 := Lib.hid (apt k3 A64.out LTwas.out)
        clear A64
        have HO70 := Lib.hid (ogt HB.out C62.out k3 HO43.out)
        have C71 := Lib.hid (cto HB.out C62.out k2 HO43.out)
        clear C62 HO43 F61
        clear k1 k2 k3
        clear LTx LTd LTwas 
        go_wp2_with fail
        have LTx := Lib.hid (ltb F66.out)
        have LTd := Lib.hid (ltd F65d.out)
        have LTwas := Lib.hid (ltr F68.out)
        refine (look_row Bk B b21 E O65 x65 (csz HB.out C71.out) F65d.out).mono ?_
        rintro z x72 ⟨⟨v72, rfl, hv⟩, hb⟩
        have F72r := Lib.hid hv
        have F73 := Lib.hid (F66.out.keep hb)
        clear F66
        have F74 := Lib.hid (F65d.out.keep hb)
        clear F65d
        have F75 := Lib.hid (Orow.own_keep F68.out hb)
        clear F68
        have C76 := Lib.hid (cbl HB.out C71.out hb)
        clear C71
        have A77 := Lib.hid (apn (gtr hv) LTx.out)
        have A78 := Lib.hid (apn (gtr hv) LTd.out)
        have A79 := Lib.hid (apn (gtr hv) LTwas.out)
        clear hv hb
        clear LTx LTd LTwas 
        go_wp2_with fail
        refine (same_limbs F72r.out F75.out (by have := (look_len F74.out.ok).2; omega)).mono ?_
        rintro z x80 ⟨rfl, hb⟩
        have F81 := Lib.hid (F73.out.keep hb)
        clear F73
        have F82 := Lib.hid (F74.out.keep hb)
        clear F74
        have F83 := Lib.hid (Orow.own_keep F75.out hb)
        clear F75
        have F84 := Lib.hid (Orow.own_keep F72r.out hb)
        clear F72r
        have C85 := Lib.hid (cbl HB.out C76.out hb)
        clear C76
        clear hb
        go_wp2_with fail
        go_ret
        exact ⟨rfl, C85.out⟩
      ·
       by_cases g15 : size = 1
       ·
        subst g15
        by_cases g16 : 0 ≤ off
        ·
         by_cases g17 : off < S
         ·
          by_cases g18 : off = 0
          ·
           first | have q0 := qt (a := off) (b := 0) (by omega) | have q0 := qf (a := off) (b := 0) (by omega) | skip
           first | have q1 := qt (a := k) (b := 1) (by omega) | have q1 := qf (a := k) (b := 1) (by omega) | skip
           first | have q2 := qt (a := k) (b := 3) (by omega) | have q2 := qf (a := k) (b := 3) (by omega) | skip
           first | have q3 := qt (a := k) (b := 4) (by omega) | have q3 := qf (a := k) (b := 4) (by omega) | skip
           first | have p0 := decide_eq_true (p := 0 ≤ off) (by omega) | have p0 := decide_eq_false (p := 0 ≤ off) (by omega) | skip
           first | have p1 := decide_eq_true (p := off < 32) (by omega) | have p1 := decide_eq_false (p := off < 32) (by omega) | skip
           first | have p2 := decide_eq_true (p := off < S) (by omega) | have p2 := decide_eq_false (p := off < S) (by omega) | skip
           first | have s0 := st (a := off) (n := 4) (by omega) (by omega) | have s0 := sf (a := off) (n := 4) (by omega) (by omega) | skip
           first | have s1 := st (a := off) (n := 2) (by omega) (by omega) | have s1 := sf (a := off) (n := 2) (by omega) (by omega) | skip
           first | have s2 := st (a := off) (n := 1) (by omega) (by omega) | have s2 := sf (a := off) (n := 1) (by omega) (by omega) | skip
           have HFit := Lib.hid (show fitsD E off 1 = true from (fits_ram hzE (by omega) (by omega)).2 ⟨by omega, by omega, by omega, by omega⟩)
           have HSm := Lib.hid (read_same (d := E) (off := off) (size := 1) (by rw [hkE]; omega))
           have HRd := Lib.hid (fun (b : Nat) (O X : Nat → Prop) (W : World) (h : Dev Bk W b E O X) => Read_any Bk b E O off 1 W HI.out.1 HI.out.2.1 h)
           rw [read_fits, HFit.out] at HRd
           rw [HSm.out] at HRd
           obtain ⟨rv, hrv⟩ : ∃ rv, (readD E off 1).1 = rv := ⟨_, rfl⟩
           rw [hrv] at HRd
           clear hrv
           clear hzE hkE hS4 hk6 hk1 g1 g10 g16 g17 g18
           go_wp2_with fail
           have LTx := Lib.hid (ltb F33.out)
           have LTd := Lib.hid (ltd F34.out)
           have LTwas := Lib.hid (ltr F32r.out)
           refine (HRd.out _ _ _ _ F34.out).mono ?_
           rintro z x38 ⟨rfl, O38, k1, k2, k3⟩
           have F38d := Lib.hid (k1)
           have F39 := Lib.hid (F33.out.only k2 (A27.out _ rfl))
           clear F33
           have A40 := Lib.hid (apt k3 A27.out LTx.out)
           clear A27
           have F41 := Lib.hid (row_only F32r.out k2 A37.out)
           clear F32r
           have A42 := Lib.hid (apt k3 A37.out LTwas.out)
           clear A37
           have HO43 := Lib.hid (ogt HB.out C35.out k3 HO28.out)
           have C44 := Lib.hid (cto HB.out C35.out k2 HO28.out)
           clear C35 HO28 F34
           clear k1 k2 k3
           clear LTx LTd LTwas 
           clear e0 e1 e2 e3 e4
           obtain ⟨e0, e1, e2, e3, e4⟩ := five HBw.out F39.out
           go_wp2_with fail
           have LTx := Lib.hid (ltb F39.out)
           have LTd := Lib.hid (ltd F38d.out)
           have LTwas := Lib.hid (ltr F41.out)
           refine (look_row Bk B b21 E O38 x38 (csz HB.out C44.out) F38d.out).mono ?_
           rintro z x45 ⟨⟨v45, rfl, hv⟩, hb⟩
           have F45r := Lib.hid hv
           have F46 := Lib.hid (F39.out.keep hb)
           clear F39
           have F47 := Lib.hid (F38d.out.keep hb)
           clear F38d
           have F48 := Lib.hid (Orow.own_keep F41.out hb)
           clear F41
           have C49 := Lib.hid (cbl HB.out C44.out hb)
           clear C44
           have A50 := Lib.hid (apn (gtr hv) LTx.out)
           have A51 := Lib.hid (apn (gtr hv) LTd.out)
           have A52 := Lib.hid (apn (gtr hv) LTwas.out)
           clear hv hb
           clear LTx LTd LTwas 
           go_wp2_with fail
           refine (same_limbs F45r.out F48.out (by have := (look_len F47.out.ok).2; omega)).mono ?_
           rintro z x53 ⟨rfl, hb⟩
           have F54 := Lib.hid (F46.out.keep hb)
           clear F46
           have F55 := Lib.hid (F47.out.keep hb)
           clear F47
           have F56 := Lib.hid (Orow.own_keep F48.out hb)
           clear F48
           have F57 := Lib.hid (Orow.own_keep F45r.out hb)
           clear F45r
           have C58 := Lib.hid (cbl HB.out C49.out hb)
           clear C49
           clear hb
           clear F57
           clear F56
           go_wp2_with fail
           have LTx := Lib.hid (ltb F54.out)
           have LTd := Lib.hid (ltd F55.out)
           refine (look_row Bk B b21 E O38 x53 (csz HB.out C58.out) F55.out).mono ?_
           rintro z x59 ⟨⟨v59, rfl, hv⟩, hb⟩
           have F59r := Lib.hid hv
           have F60 := Lib.hid (F54.out.keep hb)
           clear F54
           have F61 := Lib.hid (F55.out.keep hb)
           clear F55
           have C62 := Lib.hid (cbl HB.out C58.out hb)
           clear C58
           have A63 := Lib.hid (apn (gtr hv) LTx.out)
           have A64 := Lib.hid (apn (gtr hv) LTd.out)
           clear hv hb
           clear LTx LTd 
           go_wp2_with fail
           have LTx := Lib.hid (ltb F60.out)
           have LTd := Lib.hid (ltd F61.out)
           have LTwas := Lib.hid (ltr F59r.out)
           refine (Write_any Bk b21 E O38 off 1 v x59 HI.out.1 HI.out.2.1 HI.out.2.2 F61.out).mono ?_
           rintro z x65 ⟨hz, O65, k1, k2, k3⟩
           rw [write_fits, HFit.out] at hz
           subst hz
           have F65d := Lib.hid (k1)
           have F66 := Lib.hid (F60.out.only k2 (A40.out _ rfl))
           clear F60
           have A67 := Lib.hid (apt k3 A40.out LTx.out)
           clear A40
           have F68 := Lib.hid (row_only F59r.out k2 A64.out)
           clear F59r
           have A69 := Lib.hid (apt k3 A64.out LTwas.out)
           clear A64
           have HO70 := Lib.hid (ogt HB.out C62.out k3 HO43.out)
           have C71 := Lib.hid (cto HB.out C62.out k2 HO43.out)
           clear C62 HO43 F61
           clear k1 k2 k3
           clear LTx LTd LTwas 
           go_wp2_with fail
           go_ret
           exact ⟨rfl, C71.out⟩
          ·
           first | have q0 := qt (a := off) (b := 0) (by omega) | have q0 := qf (a := off) (b := 0) (by omega) | skip
           first | have q1 := qt (a := k) (b := 1) (by omega) | have q1 := qf (a := k) (b := 1) (by omega) | skip
           first | have q2 := qt (a := k) (b := 3) (by omega) | have q2 := qf (a := k) (b := 3) (by omega) | skip
           first | have q3 := qt (a := k) (b := 4) (by omega) | have q3 := qf (a := k) (b := 4) (by omega) | skip
           first | have p0 := decide_eq_true (p := 0 ≤ off) (by omega) | have p0 := decide_eq_false (p := 0 ≤ off) (by omega) | skip
           first | have p1 := decide_eq_true (p := off < 32) (by omega) | have p1 := decide_eq_false (p := off < 32) (by omega) | skip
           first | have p2 := decide_eq_true (p := off < S) (by omega) | have p2 := decide_eq_false (p := off < S) (by omega) | skip
           first | have s0 := st (a := off) (n := 4) (by omega) (by omega) | have s0 := sf (a := off) (n := 4) (by omega) (by omega) | skip
           first | have s1 := st (a := off) (n := 2) (by omega) (by omega) | have s1 := sf (a := off) (n := 2) (by omega) (by omega) | skip
           first | have s2 := st (a := off) (n := 1) (by omega) (by omega) | have s2 := sf (a := off) (n := 1) (by omega) (by omega) | skip
           have HFit := Lib.hid (show fitsD E off 1 = true from (fits_ram hzE (by omega) (by omega)).2 ⟨by omega, by omega, by omega, by omega⟩)
           have HSm := Lib.hid (read_same (d := E) (off := off) (size := 1) (by rw [hkE]; omega))
           have HRd := Lib.hid (fun (b : Nat) (O X : Nat → Prop) (W : World) (h : Dev Bk W b E O X) => Read_any Bk b E O off 1 W HI.out.1 HI.out.2.1 h)
           rw [read_fits, HFit.out] at HRd
           rw [HSm.out] at HRd
           obtain ⟨rv, hrv⟩ : ∃ rv, (readD E off 1).1 = rv := ⟨_, rfl⟩
           rw [hrv] at HRd
           clear hrv
           clear hzE hkE hS4 hk6 hk1 g1 g10 g16 g17 g18
           go_wp2_with fail
           have LTx := Lib.hid (ltb F33.out)
           have LTd := Lib.hid (ltd F34.out)
           have LTwas := Lib.hid (ltr F32r.out)
           refine (HRd.out _ _ _ _ F34.out).mono ?_
           rintro z x38 ⟨rfl, O38, k1, k2, k3⟩
           have F38d := Lib.hid (k1)
           have F39 := Lib.hid (F33.out.only k2 (A27.out _ rfl))
           clear F33
           have A40 := Lib.hid (apt k3 A27.out LTx.out)
           clear A27
           have F41 := Lib.hid (row_only F32r.out k2 A37.out)
           clear F32r
           have A42 := Lib.hid (apt k3 A37.out LTwas.out)
           clear A37
           have HO43 := Lib.hid (ogt HB.out C35.out k3 HO28.out)
           have C44 := Lib.hid (cto HB.out C35.out k2 HO28.out)
           clear C35 HO28 F34
           clear k1 k2 k3
           clear LTx LTd LTwas 
           clear e0 e1 e2 e3 e4
           obtain ⟨e0, e1, e2, e3, e4⟩ := five HBw.out F39.out
           go_wp2_with fail
           have LTx := Lib.hid (ltb F39.out)
           have LTd := Lib.hid (ltd F38d.out)
           have LTwas := Lib.hid (ltr F41.out)
           refine (look_row Bk B b21 E O38 x38 (csz HB.out C44.out) F38d.out).mono ?_
           rintro z x45 ⟨⟨v45, rfl, hv⟩, hb⟩
           have F45r := Lib.hid hv
           have F46 := Lib.hid (F39.out.keep hb)
           clear F39
           have F47 := Lib.hid (F38d.out.keep hb)
           clear F38d
           have F48 := Lib.hid (Orow.own_keep F41.out hb)
           clear F41
           have C49 := Lib.hid (cbl HB.out C44.out hb)
           clear C44
           have A50 := Lib.hid (apn (gtr hv) LTx.out)
           have A51 := Lib.hid (apn (gtr hv) LTd.out)
           have A52 := Lib.hid (apn (gtr hv) LTwas.out)
           clear hv hb
           clear LTx LTd LTwas 
           go_wp2_with fail
           refine (same_limbs F45r.out F48.out (by have := (look_len F47.out.ok).2; omega)).mono ?_
           rintro z x53 ⟨rfl, hb⟩
           have F54 := Lib.hid (F46.out.keep hb)
           clear F46
           have F55 := Lib.hid (F47.out.keep hb)
           clear F47
           have F56 := Lib.hid (Orow.own_keep F48.out hb)
           clear F48
           have F57 := Lib.hid (Orow.own_keep F45r.out hb)
           clear F45r
           have C58 := Lib.hid (cbl HB.out C49.out hb)
           clear C49
           clear hb
           clear F57
           clear F56
           go_wp2_with fail
           have LTx := Lib.hid (ltb F54.out)
           have LTd := Lib.hid (ltd F55.out)
           refine (look_row Bk B b21 E O38 x53 (csz HB.out C58.out) F55.out).mono ?_
           rintro z x59 ⟨⟨v59, rfl, hv⟩, hb⟩
           have F59r := Lib.hid hv
           have F60 := Lib.hid (F54.out.keep hb)
           clear F54
           have F61 := Lib.hid (F55.out.keep hb)
           clear F55
           have C62 := Lib.hid (cbl HB.out C58.out hb)
           clear C58
           have A63 := Lib.hid (apn (gtr hv) LTx.out)
           have A64 := Lib.hid (apn (gtr hv) LTd.out)
           clear hv hb
           clear LTx LTd 
           go_wp2_with fail
           have LTx := Lib.hid (ltb F60.out)
           have LTd := Lib.hid (ltd F61.out)
           have LTwas := Lib.hid (ltr F59r.out)
           refine (Write_any Bk b21 E O38 off 1 v x59 HI.out.1 HI.out.2.1 HI.out.2.2 F61.out).mono ?_
           rintro z x65 ⟨hz, O65, k1, k2, k3⟩
           rw [write_fits, HFit.out] at hz
           subst hz
           have F65d := Lib.hid (k1)
           have F66 := Lib.hid (F60.out.only k2 (A40.out _ rfl))
           clear F60
           have A67 := Lib.hid (apt k3 A40.out LTx.out)
           clear A40
           have F68 := Lib.hid (row_only F59r.out k2 A64.out)
           clear F59r
           have A69 := Lib.hid (apt k3 A64.out LTwas.out)
           clear A64
           have HO70 := Lib.hid (ogt HB.out C62.out k3 HO43.out)
           have C71 := Lib.hid (cto HB.out C62.out k2 HO43.out)
           clear C62 HO43 F61
           clear k1 k2 k3
           clear LTx LTd LTwas 
           go_wp2_with fail
           go_ret
           exact ⟨rfl, C71.out⟩
         ·
          first | have q0 := qt (a := off) (b := 0) (by omega) | have q0 := qf (a := off) (b := 0) (by omega) | skip
          first | have q1 := qt (a := k) (b := 1) (by omega) | have q1 := qf (a := k) (b := 1) (by omega) | skip
          first | have q2 := qt (a := k) (b := 3) (by omega) | have q2 := qf (a := k) (b := 3) (by omega) | skip
          first | have q3 := qt (a := k) (b := 4) (by omega) | have q3 := qf (a := k) (b := 4) (by omega) | skip
          first | have p0 := decide_eq_true (p := 0 ≤ off) (by omega) | have p0 := decide_eq_false (p := 0 ≤ off) (by omega) | skip
          first | have p1 := decide_eq_true (p := off < 32) (by omega) | have p1 := decide_eq_false (p := off < 32) (by omega) | skip
          first | have p2 := decide_eq_true (p := off < S) (by omega) | have p2 := decide_eq_false (p := off < S) (by omega) | skip
          first | have s0 := st (a := off) (n := 4) (by omega) (by omega) | have s0 := sf (a := off) (n := 4) (by omega) (by omega) | skip
          first | have s1 := st (a := off) (n := 2) (by omega) (by omega) | have s1 := sf (a := off) (n := 2) (by omega) (by omega) | skip
          first | have s2 := st (a := off) (n := 1) (by omega) (by omega) | have s2 := sf (a := off) (n := 1) (by omega) (by omega) | skip
          have HFit := Lib.hid (show fitsD E off 1 = false from Bool.eq_false_iff.2 (fun e => by have := (fits_ram hzE (by omega) (by omega)).1 e; omega))
          have HRd := Lib.hid (fun (b : Nat) (O X : Nat → Prop) (W : World) (h : Dev Bk W b E O X) => Read_any Bk b E O off 1 W HI.out.1 HI.out.2.1 h)
          rw [read_none HFit.out] at HRd
          clear hzE hkE hS4 hk6 hk1 g1 g10 g16 g17
          go_wp2_with fail
          have LTx := Lib.hid (ltb F33.out)
          have LTd := Lib.hid (ltd F34.out)
          have LTwas := Lib.hid (ltr F32r.out)
          refine (HRd.out _ _ _ _ F34.out).mono ?_
          rintro z x38 ⟨rfl, O38, k1, k2, k3⟩
          have F38d := Lib.hid (k1)
          have F39 := Lib.hid (F33.out.only k2 (A27.out _ rfl))
          clear F33
          have A40 := Lib.hid (apt k3 A27.out LTx.out)
          clear A27
          have F41 := Lib.hid (row_only F32r.out k2 A37.out)
          clear F32r
          have A42 := Lib.hid (apt k3 A37.out LTwas.out)
          clear A37
          have HO43 := Lib.hid (ogt HB.out C35.out k3 HO28.out)
          have C44 := Lib.hid (cto HB.out C35.out k2 HO28.out)
          clear C35 HO28 F34
          clear k1 k2 k3
          clear LTx LTd LTwas 
          clear e0 e1 e2 e3 e4
          obtain ⟨e0, e1, e2, e3, e4⟩ := five HBw.out F39.out
          go_wp2_with fail
          have LTx := Lib.hid (ltb F39.out)
          have LTd := Lib.hid (ltd F38d.out)
          have LTwas := Lib.hid (ltr F41.out)
          refine (look_row Bk B b21 E O38 x38 (csz HB.out C44.out) F38d.out).mono ?_
          rintro z x45 ⟨⟨v45, rfl, hv⟩, hb⟩
          have F45r := Lib.hid hv
          have F46 := Lib.hid (F39.out.keep hb)
          clear F39
          have F47 := Lib.hid (F38d.out.keep hb)
          clear F38d
          have F48 := Lib.hid (Orow.own_keep F41.out hb)
          clear F41
          have C49 := Lib.hid (cbl HB.out C44.out hb)
          clear C44
          have A50 := Lib.hid (apn (gtr hv) LTx.out)
          have A51 := Lib.hid (apn (gtr hv) LTd.out)
          have A52 := Lib.hid (apn (gtr hv) LTwas.out)
          clear hv hb
          clear LTx LTd LTwas 
          go_wp2_with fail
          refine (same_limbs F45r.out F48.out (by have := (look_len F47.out.ok).2; omega)).mono ?_
          rintro z x53 ⟨rfl, hb⟩
          have F54 := Lib.hid (F46.out.keep hb)
          clear F46
          have F55 := Lib.hid (F47.out.keep hb)
          clear F47
          have F56 := Lib.hid (Orow.own_keep F48.out hb)
          clear F48
          have F57 := Lib.hid (Orow.own_keep F45r.out hb)
          clear F45r
          have C58 := Lib.hid (cbl HB.out C49.out hb)
          clear C49
          clear hb
          clear F57
          clear F56
          go_wp2_with fail
          have LTx := Lib.hid (ltb F54.out)
          have LTd := Lib.hid (ltd F55.out)
          refine (look_row Bk B b21 E O38 x53 (csz HB.out C58.out) F55.out).mono ?_
          rintro z x59 ⟨⟨v59, rfl, hv⟩, hb⟩
          have F59r := Lib.hid hv
          have F60 := Lib.hid (F54.out.keep hb)
          clear F54
          have F61 := Lib.hid (F55.out.keep hb)
          clear F55
          have C62 := Lib.hid (cbl HB.out C58.out hb)
          clear C58
          have A63 := Lib.hid (apn (gtr hv) LTx.out)
          have A64 := Lib.hid (apn (gtr hv) LTd.out)
          clear hv hb
          clear LTx LTd 
          go_wp2_with fail
          have LTx := Lib.hid (ltb F60.out)
          have LTd := Lib.hid (ltd F61.out)
          have LTwas := Lib.hid (ltr F59r.out)
          refine (Write_any Bk b21 E O38 off 1 v x59 HI.out.1 HI.out.2.1 HI.out.2.2 F61.out).mono ?_
          rintro z x65 ⟨hz, O65, k1, k2, k3⟩
          rw [write_none HFit.out] at hz
          subst hz
          have F65d := Lib.hid (show Dev Bk x65 b21 E O65 X21 from by have := k1; rw [write_none HFit.out] at this; exact this)
          have F66 := Lib.hid (F60.out.only k2 (A40.out _ rfl))
          clear F60
          have A67 := Lib.hid (apt k3 A40.out LTx.out)
          clear A40
          have F68 := Lib.hid (row_only F59r.out k2 A64.out)
          clear F59r
          have A69 := Lib.hid (apt k3 A64.out LTwas.out)
          clear A64
          have HO70 := Lib.hid (ogt HB.out C62.out k3 HO43.out)
          have C71 := Lib.hid (cto HB.out C62.out k2 HO43.out)
          clear C62 HO43 F61
          clear k1 k2 k3
          clear LTx LTd LTwas 
          go_wp2_with fail
          have LTx := Lib.hid (ltb F66.out)
          have LTd := Lib.hid (ltd F65d.out)
          have LTwas := Lib.hid (ltr F68.out)
          refine (look_row Bk B b21 E O65 x65 (csz HB.out C71.out) F65d.out).mono ?_
          rintro z x72 ⟨⟨v72, rfl, hv⟩, hb⟩
          have F72r := Lib.hid hv
          have F73 := Lib.hid (F66.out.keep hb)
          clear F66
          have F74 := Lib.hid (F65d.out.keep hb)
          clear F65d
          have F75 := Lib.hid (Orow.own_keep F68.out hb)
          clear F68
          have C76 := Lib.hid (cbl HB.out C71.out hb)
          clear C71
          have A77 := Lib.hid (apn (gtr hv) LTx.out)
          have A78 := Lib.hid (apn (gtr hv) LTd.out)
          have A79 := Lib.hid (apn (gtr hv) LTwas.out)
          clear hv hb
          clear LTx LTd LTwas 
          go_wp2_with fail
          refine (same_limbs F72r.out F75.out (by have := (look_len F74.out.ok).2; omega)).mono ?_
          rintro z x80 ⟨rfl, hb⟩
          have F81 := Lib.hid (F73.out.keep hb)
          clear F73
          have F82 := Lib.hid (F74.out.keep hb)
          clear F74
          have F83 := Lib.hid (Orow.own_keep F75.out hb)
          clear F75
          have F84 := Lib.hid (Orow.own_keep F72r.out hb)
          clear F72r
          have C85 := Lib.hid (cbl HB.out C76.out hb)
          clear C76
          clear hb
          go_wp2_with fail
          go_ret
          exact ⟨rfl, C85.out⟩
        ·
         first | have q0 := qt (a := off) (b := 0) (by omega) | have q0 := qf (a := off) (b := 0) (by omega) | skip
         first | have q1 := qt (a := k) (b := 1) (by omega) | have q1 := qf (a := k) (b := 1) (by omega) | skip
         first | have q2 := qt (a := k) (b := 3) (by omega) | have q2 := qf (a := k) (b := 3) (by omega) | skip
         first | have q3 := qt (a := k) (b := 4) (by omega) | have q3 := qf (a := k) (b := 4) (by omega) | skip
         first | have p0 := decide_eq_true (p := 0 ≤ off) (by omega) | have p0 := decide_eq_false (p := 0 ≤ off) (by omega) | skip
         first | have p1 := decide_eq_true (p := off < 32) (by omega) | have p1 := decide_eq_false (p := off < 32) (by omega) | skip
         first | have p2 := decide_eq_true (p := off < S) (by omega) | have p2 := decide_eq_false (p := off < S) (by omega) | skip
         first | have s0 := st (a := off) (n := 4) (by omega) (by omega) | have s0 := sf (a := off) (n := 4) (by omega) (by omega) | skip
         first | have s1 := st (a := off) (n := 2) (by omega) (by omega) | have s1 := sf (a := off) (n := 2) (by omega) (by omega) | skip
         first | have s2 := st (a := off) (n := 1) (by omega) (by omega) | have s2 := sf (a := off) (n := 1) (by omega) (by omega) | skip
         have HFit := Lib.hid (show fitsD E off 1 = false from Bool.eq_false_iff.2 (fun e => by have := (fits_ram hzE (by omega) (by omega)).1 e; omega))
         have HRd := Lib.hid (fun (b : Nat) (O X : Nat → Prop) (W : World) (h : Dev Bk W b E O X) => Read_any Bk b E O off 1 W HI.out.1 HI.out.2.1 h)
         rw [read_none HFit.out] at HRd
         clear hzE hkE hS4 hk6 hk1 g1 g10 g16
         go_wp2_with fail
         have LTx := Lib.hid (ltb F33.out)
         have LTd := Lib.hid (ltd F34.out)
         have LTwas := Lib.hid (ltr F32r.out)
         refine (HRd.out _ _ _ _ F34.out).mono ?_
         rintro z x38 ⟨rfl, O38, k1, k2, k3⟩
         have F38d := Lib.hid (k1)
         have F39 := Lib.hid (F33.out.only k2 (A27.out _ rfl))
         clear F33
         have A40 := Lib.hid (apt k3 A27.out LTx.out)
         clear A27
         have F41 := Lib.hid (row_only F32r.out k2 A37.out)
         clear F32r
         have A42 := Lib.hid (apt k3 A37.out LTwas.out)
         clear A37
         have HO43 := Lib.hid (ogt HB.out C35.out k3 HO28.out)
         have C44 := Lib.hid (cto HB.out C35.out k2 HO28.out)
         clear C35 HO28 F34
         clear k1 k2 k3
         clear LTx LTd LTwas 
         clear e0 e1 e2 e3 e4
         obtain ⟨e0, e1, e2, e3, e4⟩ := five HBw.out F39.out
         go_wp2_with fail
         have LTx := Lib.hid (ltb F39.out)
         have LTd := Lib.hid (ltd F38d.out)
         have LTwas := Lib.hid (ltr F41.out)
         refine (look_row Bk B b21 E O38 x38 (csz HB.out C44.out) F38d.out).mono ?_
         rintro z x45 ⟨⟨v45, rfl, hv⟩, hb⟩
         have F45r := Lib.hid hv
         have F46 := Lib.hid (F39.out.keep hb)
         clear F39
         have F47 := Lib.hid (F38d.out.keep hb)
         clear F38d
         have F48 := Lib.hid (Orow.own_keep F41.out hb)
         clear F41
         have C49 := Lib.hid (cbl HB.out C44.out hb)
         clear C44
         have A50 := Lib.hid (apn (gtr hv) LTx.out)
         have A51 := Lib.hid (apn (gtr hv) LTd.out)
         have A52 := Lib.hid (apn (gtr hv) LTwas.out)
         clear hv hb
         clear LTx LTd LTwas 
         go_wp2_with fail
         refine (same_limbs F45r.out F48.out (by have := (look_len F47.out.ok).2; omega)).mono ?_
         rintro z x53 ⟨rfl, hb⟩
         have F54 := Lib.hid (F46.out.keep hb)
         clear F46
         have F55 := Lib.hid (F47.out.keep hb)
         clear F47
         have F56 := Lib.hid (Orow.own_keep F48.out hb)
         clear F48
         have F57 := Lib.hid (Orow.own_keep F45r.out hb)
         clear F45r
         have C58 := Lib.hid (cbl HB.out C49.out hb)
         clear C49
         clear hb
         clear F57
         clear F56
         go_wp2_with fail
         have LTx := Lib.hid (ltb F54.out)
         have LTd := Lib.hid (ltd F55.out)
         refine (look_row Bk B b21 E O38 x53 (csz HB.out C58.out) F55.out).mono ?_
         rintro z x59 ⟨⟨v59, rfl, hv⟩, hb⟩
         have F59r := Lib.hid hv
         have F60 := Lib.hid (F54.out.keep hb)
         clear F54
         have F61 := Lib.hid (F55.out.keep hb)
         clear F55
         have C62 := Lib.hid (cbl HB.out C58.out hb)
         clear C58
         have A63 := Lib.hid (apn (gtr hv) LTx.out)
         have A64 := Lib.hid (apn (gtr hv) LTd.out)
         clear hv hb
         clear LTx LTd 
         go_wp2_with fail
         have LTx := Lib.hid (ltb F60.out)
         have LTd := Lib.hid (ltd F61.out)
         have LTwas := Lib.hid (ltr F59r.out)
         refine (Write_any Bk b21 E O38 off 1 v x59 HI.out.1 HI.out.2.1 HI.out.2.2 F61.out).mono ?_
         rintro z x65 ⟨hz, O65, k1, k2, k3⟩
         rw [write_none HFit.out] at hz
         subst hz
         have F65d := Lib.hid (show Dev Bk x65 b21 E O65 X21 from by have := k1; rw [write_none HFit.out] at this; exact this)
         have F66 := Lib.hid (F60.out.only k2 (A40.out _ rfl))
         clear F60
         have A67 := Lib.hid (apt k3 A40.out LTx.out)
         clear A40
         have F68 := Lib.hid (row_only F59r.out k2 A64.out)
         clear F59r
         have A69 := Lib.hid (apt k3 A64.out LTwas.out)
         clear A64
         have HO70 := Lib.hid (ogt HB.out C62.out k3 HO43.out)
         have C71 := Lib.hid (cto HB.out C62.out k2 HO43.out)
         clear C62 HO43 F61
         clear k1 k2 k3
         clear LTx LTd LTwas 
         go_wp2_with fail
         have LTx := Lib.hid (ltb F66.out)
         have LTd := Lib.hid (ltd F65d.out)
         have LTwas := Lib.hid (ltr F68.out)
         refine (look_row Bk B b21 E O65 x65 (csz HB.out C71.out) F65d.out).mono ?_
         rintro z x72 ⟨⟨v72, rfl, hv⟩, hb⟩
         have F72r := Lib.hid hv
         have F73 := Lib.hid (F66.out.keep hb)
         clear F66
         have F74 := Lib.hid (F65d.out.keep hb)
         clear F65d
         have F75 := Lib.hid (Orow.own_keep F68.out hb)
         clear F68
         have C76 := Lib.hid (cbl HB.out C71.out hb)
         clear C71
         have A77 := Lib.hid (apn (gtr hv) LTx.out)
         have A78 := Lib.hid (apn (gtr hv) LTd.out)
         have A79 := Lib.hid (apn (gtr hv) LTwas.out)
         clear hv hb
         clear LTx LTd LTwas 
         go_wp2_with fail
         refine (same_limbs F72r.out F75.out (by have := (look_len F74.out.ok).2; omega)).mono ?_
         rintro z x80 ⟨rfl, hb⟩
         have F81 := Lib.hid (F73.out.keep hb)
         clear F73
         have F82 := Lib.hid (F74.out.keep hb)
         clear F74
         have F83 := Lib.hid (Orow.own_keep F75.out hb)
         clear F75
         have F84 := Lib.hid (Orow.own_keep F72r.out hb)
         clear F72r
         have C85 := Lib.hid (cbl HB.out C76.out hb)
         clear C76
         clear hb
         go_wp2_with fail
         go_ret
         exact ⟨rfl, C85.out⟩
       ·
        first | have q0 := qt (a := size) (b := 4) (by omega) | have q0 := qf (a := size) (b := 4) (by omega) | skip
        first | have q1 := qt (a := size) (b := 1) (by omega) | have q1 := qf (a := size) (b := 1) (by omega) | skip
        first | have q2 := qt (a := size) (b := 2) (by omega) | have q2 := qf (a := size) (b := 2) (by omega) | skip
        first | have q3 := qt (a := off) (b := 0) (by omega) | have q3 := qf (a := off) (b := 0) (by omega) | skip
        first | have q4 := qt (a := k) (b := 1) (by omega) | have q4 := qf (a := k) (b := 1) (by omega) | skip
        first | have q5 := qt (a := k) (b := 3) (by omega) | have q5 := qf (a := k) (b := 3) (by omega) | skip
        first | have q6 := qt (a := k) (b := 4) (by omega) | have q6 := qf (a := k) (b := 4) (by omega) | skip
        first | have p0 := decide_eq_true (p := 0 ≤ off) (by omega) | have p0 := decide_eq_false (p := 0 ≤ off) (by omega) | skip
        first | have p1 := decide_eq_true (p := off < 32) (by omega) | have p1 := decide_eq_false (p := off < 32) (by omega) | skip
        first | have p2 := decide_eq_true (p := off < S) (by omega) | have p2 := decide_eq_false (p := off < S) (by omega) | skip
        first | have s0 := st (a := off) (n := 4) (by omega) (by omega) | have s0 := sf (a := off) (n := 4) (by omega) (by omega) | skip
        first | have s1 := st (a := off) (n := 2) (by omega) (by omega) | have s1 := sf (a := off) (n := 2) (by omega) (by omega) | skip
        first | have s2 := st (a := off) (n := 1) (by omega) (by omega) | have s2 := sf (a := off) (n := 1) (by omega) (by omega) | skip
        have HFit := Lib.hid (show fitsD E off size = false from Bool.eq_false_iff.2 (fun e => by have := (fits_ram hzE (by omega) (by omega)).1 e; omega))
        have HRd := Lib.hid (fun (b : Nat) (O X : Nat → Prop) (W : World) (h : Dev Bk W b E O X) => Read_any Bk b E O off size W HI.out.1 HI.out.2.1 h)
        rw [read_none HFit.out] at HRd
        clear hzE hkE hS4 hk6 hk1 g1 g10 g15
        go_wp2_with fail
        have LTx := Lib.hid (ltb F33.out)
        have LTd := Lib.hid (ltd F34.out)
        have LTwas := Lib.hid (ltr F32r.out)
        refine (HRd.out _ _ _ _ F34.out).mono ?_
        rintro z x38 ⟨rfl, O38, k1, k2, k3⟩
        have F38d := Lib.hid (k1)
        have F39 := Lib.hid (F33.out.only k2 (A27.out _ rfl))
        clear F33
        have A40 := Lib.hid (apt k3 A27.out LTx.out)
        clear A27
        have F41 := Lib.hid (row_only F32r.out k2 A37.out)
        clear F32r
        have A42 := Lib.hid (apt k3 A37.out LTwas.out)
        clear A37
        have HO43 := Lib.hid (ogt HB.out C35.out k3 HO28.out)
        have C44 := Lib.hid (cto HB.out C35.out k2 HO28.out)
        clear C35 HO28 F34
        clear k1 k2 k3
        clear LTx LTd LTwas 
        clear e0 e1 e2 e3 e4
        obtain ⟨e0, e1, e2, e3, e4⟩ := five HBw.out F39.out
        go_wp2_with fail
        have LTx := Lib.hid (ltb F39.out)
        have LTd := Lib.hid (ltd F38d.out)
        have LTwas := Lib.hid (ltr F41.out)
        refine (look_row Bk B b21 E O38 x38 (csz HB.out C44.out) F38d.out).mono ?_
        rintro z x45 ⟨⟨v45, rfl, hv⟩, hb⟩
        have F45r := Lib.hid hv
        have F46 := Lib.hid (F39.out.keep hb)
        clear F39
        have F47 := Lib.hid (F38d.out.keep hb)
        clear F38d
        have F48 := Lib.hid (Orow.own_keep F41.out hb)
        clear F41
        have C49 := Lib.hid (cbl HB.out C44.out hb)
        clear C44
        have A50 := Lib.hid (apn (gtr hv) LTx.out)
        have A51 := Lib.hid (apn (gtr hv) LTd.out)
        have A52 := Lib.hid (apn (gtr hv) LTwas.out)
        clear hv hb
        clear LTx LTd LTwas 
        go_wp2_with fail
        refine (same_limbs F45r.out F48.out (by have := (look_len F47.out.ok).2; omega)).mono ?_
        rintro z x53 ⟨rfl, hb⟩
        have F54 := Lib.hid (F46.out.keep hb)
        clear F46
        have F55 := Lib.hid (F47.out.keep hb)
        clear F47
        have F56 := Lib.hid (Orow.own_keep F48.out hb)
        clear F48
        have F57 := Lib.hid (Orow.own_keep F45r.out hb)
        clear F45r
        have C58 := Lib.hid (cbl HB.out C49.out hb)
        clear C49
        clear hb
        clear F57
        clear F56
        go_wp2_with fail
        have LTx := Lib.hid (ltb F54.out)
        have LTd := Lib.hid (ltd F55.out)
        refine (look_row Bk B b21 E O38 x53 (csz HB.out C58.out) F55.out).mono ?_
        rintro z x59 ⟨⟨v59, rfl, hv⟩, hb⟩
        have F59r := Lib.hid hv
        have F60 := Lib.hid (F54.out.keep hb)
        clear F54
        have F61 := Lib.hid (F55.out.keep hb)
        clear F55
        have C62 := Lib.hid (cbl HB.out C58.out hb)
        clear C58
        have A63 := Lib.hid (apn (gtr hv) LTx.out)
        have A64 := Lib.hid (apn (gtr hv) LTd.out)
        clear hv hb
        clear LTx LTd 
        go_wp2_with fail
        have LTx := Lib.hid (ltb F60.out)
        have LTd := Lib.hid (ltd F61.out)
        have LTwas := Lib.hid (ltr F59r.out)
        refine (Write_any Bk b21 E O38 off size v x59 HI.out.1 HI.out.2.1 HI.out.2.2 F61.out).mono ?_
        rintro z x65 ⟨hz, O65, k1, k2, k3⟩
        rw [write_none HFit.out] at hz
        subst hz
        have F65d := Lib.hid (show Dev Bk x65 b21 E O65 X21 from by have := k1; rw [write_none HFit.out] at this; exact this)
        have F66 := Lib.hid (F60.out.only k2 (A40.out _ rfl))
        clear F60
        have A67 := Lib.hid (apt k3 A40.out LTx.out)
        clear A40
        have F68 := Lib.hid (row_only F59r.out k2 A64.out)
        clear F59r
        have A69 := Lib.hid (apt k3 A64.out LTwas.out)
        clear A64
        have HO70 := Lib.hid (ogt HB.out C62.out k3 HO43.out)
        have C71 := Lib.hid (cto HB.out C62.out k2 HO43.out)
        clear C62 HO43 F61
        clear k1 k2 k3
        clear LTx LTd LTwas 
        go_wp2_with fail
        have LTx := Lib.hid (ltb F66.out)
        have LTd := Lib.hid (ltd F65d.out)
        have LTwas := Lib.hid (ltr F68.out)
        refine (look_row Bk B b21 E O65 x65 (csz HB.out C71.out) F65d.out).mono ?_
        rintro z x72 ⟨⟨v72, rfl, hv⟩, hb⟩
        have F72r := Lib.hid hv
        have F73 := Lib.hid (F66.out.keep hb)
        clear F66
        have F74 := Lib.hid (F65d.out.keep hb)
        clear F65d
        have F75 := Lib.hid (Orow.own_keep F68.out hb)
        clear F68
        have C76 := Lib.hid (cbl HB.out C71.out hb)
        clear C71
        have A77 := Lib.hid (apn (gtr hv) LTx.out)
        have A78 := Lib.hid (apn (gtr hv) LTd.out)
        have A79 := Lib.hid (apn (gtr hv) LTwas.out)
        clear hv hb
        clear LTx LTd LTwas 
        go_wp2_with fail
        refine (same_limbs F72r.out F75.out (by have := (look_len F74.out.ok).2; omega)).mono ?_
        rintro z x80 ⟨rfl, hb⟩
        have F81 := Lib.hid (F73.out.keep hb)
        clear F73
        have F82 := Lib.hid (F74.out.keep hb)
        clear F74
        have F83 := Lib.hid (Orow.own_keep F75.out hb)
        clear F75
        have F84 := Lib.hid (Orow.own_keep F72r.out hb)
        clear F72r
        have C85 := Lib.hid (cbl HB.out C76.out hb)
        clear C76
        clear hb
        go_wp2_with fail
        go_ret
        exact ⟨rfl, C85.out⟩
    ·
     by_cases g19 : size = 4
     ·
      subst g19
      by_cases g20 : 0 ≤ off
      ·
       by_cases g21 : off < 32
       ·
        by_cases g22 : off % 4 = 0
        ·
         by_cases g23 : off = 0
         ·
          by_cases g24 : k = 3
          ·
           first | have q0 := qt (a := off) (b := 0) (by omega) | have q0 := qf (a := off) (b := 0) (by omega) | skip
           first | have q1 := qt (a := k) (b := 1) (by omega) | have q1 := qf (a := k) (b := 1) (by omega) | skip
           first | have q2 := qt (a := k) (b := 3) (by omega) | have q2 := qf (a := k) (b := 3) (by omega) | skip
           first | have q3 := qt (a := k) (b := 4) (by omega) | have q3 := qf (a := k) (b := 4) (by omega) | skip
           first | have p0 := decide_eq_true (p := 0 ≤ off) (by omega) | have p0 := decide_eq_false (p := 0 ≤ off) (by omega) | skip
           first | have p1 := decide_eq_true (p := off < 32) (by omega) | have p1 := decide_eq_false (p := off < 32) (by omega) | skip
           first | have p2 := decide_eq_true (p := off < S) (by omega) | have p2 := decide_eq_false (p := off < S) (by omega) | skip
           first | have s0 := st (a := off) (n := 4) (by omega) (by omega) | have s0 := sf (a := off) (n := 4) (by omega) (by omega) | skip
           first | have s1 := st (a := off) (n := 2) (by omega) (by omega) | have s1 := sf (a := off) (n := 2) (by omega) (by omega) | skip
           first | have s2 := st (a := off) (n := 1) (by omega) (by omega) | have s2 := sf (a := off) (n := 1) (by omega) (by omega) | skip
           have HFit := Lib.hid (show fitsD E off 4 = true from (fits_reg hzE (by omega) hk6).2 ⟨by omega, by omega, by omega, by omega⟩)
           have HRd := Lib.hid (fun (b : Nat) (O X : Nat → Prop) (W : World) (h : Dev Bk W b E O X) => Read_any Bk b E O off 4 W HI.out.1 HI.out.2.1 h)
           rw [read_fits, HFit.out] at HRd
           obtain ⟨E2, hE2⟩ : ∃ E2, (readD E off 4).2.2 = E2 := ⟨_, rfl⟩
           rw [hE2] at HRd
           have HFit2 := Lib.hid (show fitsD E2 off 4 = true from by rw [← fits_zero, ← hE2, read_zero, fits_zero]; exact HFit.out)
           clear hE2
           obtain ⟨rv, hrv⟩ : ∃ rv, (readD E off 4).1 = rv := ⟨_, rfl⟩
           rw [hrv] at HRd
           clear hrv
           clear hzE hkE hS4 hk6 hk1 g20 g21 g22 g23 g24
           go_wp2_with fail
           have LTx := Lib.hid (ltb F33.out)
           have LTd := Lib.hid (ltd F34.out)
           have LTwas := Lib.hid (ltr F32r.out)
           refine (HRd.out _ _ _ _ F34.out).mono ?_
           rintro z x38 ⟨rfl, O38, k1, k2, k3⟩
           have F38d := Lib.hid (k1)
           have F39 := Lib.hid (F33.out.only k2 (A27.out _ rfl))
           clear F33
           have A40 := Lib.hid (apt k3 A27.out LTx.out)
           clear A27
           have F41 := Lib.hid (row_only F32r.out k2 A37.out)
           clear F32r
           have A42 := Lib.hid (apt k3 A37.out LTwas.out)
           clear A37
           have HO43 := Lib.hid (ogt HB.out C35.out k3 HO28.out)
           have C44 := Lib.hid (cto HB.out C35.out k2 HO28.out)
           clear C35 HO28 F34
           clear k1 k2 k3
           clear LTx LTd LTwas 
           clear e0 e1 e2 e3 e4
           obtain ⟨e0, e1, e2, e3, e4⟩ := five HBw.out F39.out
           clear F41
           go_wp2_with fail
           have LTx := Lib.hid (ltb F39.out)
           have LTd := Lib.hid (ltd F38d.out)
           refine (look_row Bk B b21 E2 O38 x38 (csz HB.out C44.out) F38d.out).mono ?_
           rintro z x45 ⟨⟨v45, rfl, hv⟩, hb⟩
           have F45r := Lib.hid hv
           have F46 := Lib.hid (F39.out.keep hb)
           clear F39
           have F47 := Lib.hid (F38d.out.keep hb)
           clear F38d
           have C48 := Lib.hid (cbl HB.out C44.out hb)
           clear C44
           have A49 := Lib.hid (apn (gtr hv) LTx.out)
           have A50 := Lib.hid (apn (gtr hv) LTd.out)
           clear hv hb
           clear LTx LTd 
           go_wp2_with fail
           have LTx := Lib.hid (ltb F46.out)
           have LTd := Lib.hid (ltd F47.out)
           have LTwas := Lib.hid (ltr F45r.out)
           refine (Write_any Bk b21 E2 O38 off 4 v x45 HI.out.1 HI.out.2.1 HI.out.2.2 F47.out).mono ?_
           rintro z x51 ⟨hz, O51, k1, k2, k3⟩
           rw [write_fits, HFit2.out] at hz
           subst hz
           have F51d := Lib.hid (k1)
           have F52 := Lib.hid (F46.out.only k2 (A40.out _ rfl))
           clear F46
           have A53 := Lib.hid (apt k3 A40.out LTx.out)
           clear A40
           have F54 := Lib.hid (row_only F45r.out k2 A50.out)
           clear F45r
           have A55 := Lib.hid (apt k3 A50.out LTwas.out)
           clear A50
           have HO56 := Lib.hid (ogt HB.out C48.out k3 HO43.out)
           have C57 := Lib.hid (cto HB.out C48.out k2 HO43.out)
           clear C48 HO43 F47
           clear k1 k2 k3
           clear LTx LTd LTwas 
           go_wp2_with fail
           go_ret
           exact ⟨rfl, C57.out⟩
          ·
           by_cases g25 : k = 4
           ·
            first | have q0 := qt (a := off) (b := 0) (by omega) | have q0 := qf (a := off) (b := 0) (by omega) | skip
            first | have q1 := qt (a := k) (b := 1) (by omega) | have q1 := qf (a := k) (b := 1) (by omega) | skip
            first | have q2 := qt (a := k) (b := 3) (by omega) | have q2 := qf (a := k) (b := 3) (by omega) | skip
            first | have q3 := qt (a := k) (b := 4) (by omega) | have q3 := qf (a := k) (b := 4) (by omega) | skip
            first | have p0 := decide_eq_true (p := 0 ≤ off) (by omega) | have p0 := decide_eq_false (p := 0 ≤ off) (by omega) | skip
            first | have p1 := decide_eq_true (p := off < 32) (by omega) | have p1 := decide_eq_false (p := off < 32) (by omega) | skip
            first | have p2 := decide_eq_true (p := off < S) (by omega) | have p2 := decide_eq_false (p := off < S) (by omega) | skip
            first | have s0 := st (a := off) (n := 4) (by omega) (by omega) | have s0 := sf (a := off) (n := 4) (by omega) (by omega) | skip
            first | have s1 := st (a := off) (n := 2) (by omega) (by omega) | have s1 := sf (a := off) (n := 2) (by omega) (by omega) | skip
            first | have s2 := st (a := off) (n := 1) (by omega) (by omega) | have s2 := sf (a := off) (n := 1) (by omega) (by omega) | skip
            have HFit := Lib.hid (show fitsD E off 4 = true from (fits_reg hzE (by omega) hk6).2 ⟨by omega, by omega, by omega, by omega⟩)
            have HRd := Lib.hid (fun (b : Nat) (O X : Nat → Prop) (W : World) (h : Dev Bk W b E O X) => Read_any Bk b E O off 4 W HI.out.1 HI.out.2.1 h)
            rw [read_fits, HFit.out] at HRd
            obtain ⟨E2, hE2⟩ : ∃ E2, (readD E off 4).2.2 = E2 := ⟨_, rfl⟩
            rw [hE2] at HRd
            have HFit2 := Lib.hid (show fitsD E2 off 4 = true from by rw [← fits_zero, ← hE2, read_zero, fits_zero]; exact HFit.out)
            clear hE2
            obtain ⟨rv, hrv⟩ : ∃ rv, (readD E off 4).1 = rv := ⟨_, rfl⟩
            rw [hrv] at HRd
            clear hrv
            clear hzE hkE hS4 hk6 hk1 g20 g21 g22 g23 g24 g25
            go_wp2_with fail
            have LTx := Lib.hid (ltb F33.out)
            have LTd := Lib.hid (ltd F34.out)
            have LTwas := Lib.hid (ltr F32r.out)
            refine (HRd.out _ _ _ _ F34.out).mono ?_
            rintro z x38 ⟨rfl, O38, k1, k2, k3⟩
            have F38d := Lib.hid (k1)
            have F39 := Lib.hid (F33.out.only k2 (A27.out _ rfl))
            clear F33
            have A40 := Lib.hid (apt k3 A27.out LTx.out)
            clear A27
            have F41 := Lib.hid (row_only F32r.out k2 A37.out)
            clear F32r
            have A42 := Lib.hid (apt k3 A37.out LTwas.out)
            clear A37
            have HO43 := Lib.hid (ogt HB.out C35.out k3 HO28.out)
            have C44 := Lib.hid (cto HB.out C35.out k2 HO28.out)
            clear C35 HO28 F34
            clear k1 k2 k3
            clear LTx LTd LTwas 
            clear e0 e1 e2 e3 e4
            obtain ⟨e0, e1, e2, e3, e4⟩ := five HBw.out F39.out
            clear F41
            go_wp2_with fail
            have LTx := Lib.hid (ltb F39.out)
            have LTd := Lib.hid (ltd F38d.out)
            refine (look_row Bk B b21 E2 O38 x38 (csz HB.out C44.out) F38d.out).mono ?_
            rintro z x45 ⟨⟨v45, rfl, hv⟩, hb⟩
            have F45r := Lib.hid hv
            have F46 := Lib.hid (F39.out.keep hb)
            clear F39
            have F47 := Lib.hid (F38d.out.keep hb)
            clear F38d
            have C48 := Lib.hid (cbl HB.out C44.out hb)
            clear C44
            have A49 := Lib.hid (apn (gtr hv) LTx.out)
            have A50 := Lib.hid (apn (gtr hv) LTd.out)
            clear hv hb
            clear LTx LTd 
            go_wp2_with fail
            have LTx := Lib.hid (ltb F46.out)
            have LTd := Lib.hid (ltd F47.out)
            have LTwas := Lib.hid (ltr F45r.out)
            refine (Write_any Bk b21 E2 O38 off 4 v x45 HI.out.1 HI.out.2.1 HI.out.2.2 F47.out).mono ?_
            rintro z x51 ⟨hz, O51, k1, k2, k3⟩
            rw [write_fits, HFit2.out] at hz
            subst hz
            have F51d := Lib.hid (k1)
            have F52 := Lib.hid (F46.out.only k2 (A40.out _ rfl))
            clear F46
            have A53 := Lib.hid (apt k3 A40.out LTx.out)
            clear A40
            have F54 := Lib.hid (row_only F45r.out k2 A50.out)
            clear F45r
            have A55 := Lib.hid (apt k3 A50.out LTwas.out)
            clear A50
            have HO56 := Lib.hid (ogt HB.out C48.out k3 HO43.out)
            have C57 := Lib.hid (cto HB.out C48.out k2 HO43.out)
            clear C48 HO43 F47
            clear k1 k2 k3
            clear LTx LTd LTwas 
            go_wp2_with fail
            go_ret
            exact ⟨rfl, C57.out⟩
           ·
            first | have q0 := qt (a := off) (b := 0) (by omega) | have q0 := qf (a := off) (b := 0) (by omega) | skip
            first | have q1 := qt (a := k) (b := 1) (by omega) | have q1 := qf (a := k) (b := 1) (by omega) | skip
            first | have q2 := qt (a := k) (b := 3) (by omega) | have q2 := qf (a := k) (b := 3) (by omega) | skip
            first | have q3 := qt (a := k) (b := 4) (by omega) | have q3 := qf (a := k) (b := 4) (by omega) | skip
            first | have p0 := decide_eq_true (p := 0 ≤ off) (by omega) | have p0 := decide_eq_false (p := 0 ≤ off) (by omega) | skip
            first | have p1 := decide_eq_true (p := off < 32) (by omega) | have p1 := decide_eq_false (p := off < 32) (by omega) | skip
            first | have p2 := decide_eq_true (p := off < S) (by omega) | have p2 := decide_eq_false (p := off < S) (by omega) | skip
            first | have s0 := st (a := off) (n := 4) (by omega) (by omega) | have s0 := sf (a := off) (n := 4) (by omega) (by omega) | skip
            first | have s1 := st (a := off) (n := 2) (by omega) (by omega) | have s1 := sf (a := off) (n := 2) (by omega) (by omega) | skip
            first | have s2 := st (a := off) (n := 1) (by omega) (by omega) | have s2 := sf (a := off) (n := 1) (by omega) (by omega) | skip
            have HFit := Lib.hid (show fitsD E off 4 = true from (fits_reg hzE (by omega) hk6).2 ⟨by omega, by omega, by omega, by omega⟩)
            have HSm := Lib.hid (read_same (d := E) (off := off) (size := 4) (by rw [hkE]; omega))
            have HRd := Lib.hid (fun (b : Nat) (O X : Nat → Prop) (W : World) (h : Dev Bk W b E O X) => Read_any Bk b E O off 4 W HI.out.1 HI.out.2.1 h)
            rw [read_fits, HFit.out] at HRd
            rw [HSm.out] at HRd
            obtain ⟨rv, hrv⟩ : ∃ rv, (readD E off 4).1 = rv := ⟨_, rfl⟩
            rw [hrv] at HRd
            clear hrv
            clear hzE hkE hS4 hk6 hk1 g20 g21 g22 g23 g24 g25
            go_wp2_with fail
            have LTx := Lib.hid (ltb F33.out)
            have LTd := Lib.hid (ltd F34.out)
            have LTwas := Lib.hid (ltr F32r.out)
            refine (HRd.out _ _ _ _ F34.out).mono ?_
            rintro z x38 ⟨rfl, O38, k1, k2, k3⟩
            have F38d := Lib.hid (k1)
            have F39 := Lib.hid (F33.out.only k2 (A27.out _ rfl))
            clear F33
            have A40 := Lib.hid (apt k3 A27.out LTx.out)
            clear A27
            have F41 := Lib.hid (row_only F32r.out k2 A37.out)
            clear F32r
            have A42 := Lib.hid (apt k3 A37.out LTwas.out)
            clear A37
            have HO43 := Lib.hid (ogt HB.out C35.out k3 HO28.out)
            have C44 := Lib.hid (cto HB.out C35.out k2 HO28.out)
            clear C35 HO28 F34
            clear k1 k2 k3
            clear LTx LTd LTwas 
            clear e0 e1 e2 e3 e4
            obtain ⟨e0, e1, e2, e3, e4⟩ := five HBw.out F39.out
            go_wp2_with fail
            have LTx := Lib.hid (ltb F39.out)
            have LTd := Lib.hid (ltd F38d.out)
            have LTwas := Lib.hid (ltr F41.out)
            refine (look_row Bk B b21 E O38 x38 (csz HB.out C44.out) F38d.out).mono ?_
            rintro z x45 ⟨⟨v45, rfl, hv⟩, hb⟩
            have F45r := Lib.hid hv
            have F46 := Lib.hid (F39.out.keep hb)
            clear F39
            have F47 := Lib.hid (F38d.out.keep hb)
            clear F38d
            have F48 := Lib.hid (Orow.own_keep F41.out hb)
            clear F41
            have C49 := Lib.hid (cbl HB.out C44.out hb)
            clear C44
            have A50 := Lib.hid (apn (gtr hv) LTx.out)
            have A51 := Lib.hid (apn (gtr hv) LTd.out)
            have A52 := Lib.hid (apn (gtr hv) LTwas.out)
            clear hv hb
            clear LTx LTd LTwas 
            go_wp2_with fail
            refine (same_limbs F45r.out F48.out (by have := (look_len F47.out.ok).2; omega)).mono ?_
            rintro z x53 ⟨rfl, hb⟩
            have F54 := Lib.hid (F46.out.keep hb)
            clear F46
            have F55 := Lib.hid (F47.out.keep hb)
            clear F47
            have F56 := Lib.hid (Orow.own_keep F48.out hb)
            clear F48
            have F57 := Lib.hid (Orow.own_keep F45r.out hb)
            clear F45r
            have C58 := Lib.hid (cbl HB.out C49.out hb)
            clear C49
            clear hb
            clear F57
            clear F56
            go_wp2_with fail
            have LTx := Lib.hid (ltb F54.out)
            have LTd := Lib.hid (ltd F55.out)
            refine (look_row Bk B b21 E O38 x53 (csz HB.out C58.out) F55.out).mono ?_
            rintro z x59 ⟨⟨v59, rfl, hv⟩, hb⟩
            have F59r := Lib.hid hv
            have F60 := Lib.hid (F54.out.keep hb)
            clear F54
            have F61 := Lib.hid (F55.out.keep hb)
            clear F55
            have C62 := Lib.hid (cbl HB.out C58.out hb)
            clear C58
            have A63 := Lib.hid (apn (gtr hv) LTx.out)
            have A64 := Lib.hid (apn (gtr hv) LTd.out)
            clear hv hb
            clear LTx LTd 
            go_wp2_with fail
            have LTx := Lib.hid (ltb F60.out)
            have LTd := Lib.hid (ltd F61.out)
            have LTwas := Lib.hid (ltr F59r.out)
            refine (Write_any Bk b21 E O38 off 4 v x59 HI.out.1 HI.out.2.1 HI.out.2.2 F61.out).mono ?_
            rintro z x65 ⟨hz, O65, k1, k2, k3⟩
            rw [write_fits, HFit.out] at hz
            subst hz
            have F65d := Lib.hid (k1)
            have F66 := Lib.hid (F60.out.only k2 (A40.out _ rfl))
            clear F60
            have A67 := Lib.hid (apt k3 A40.out LTx.out)
            clear A40
            have F68 := Lib.hid (row_only F59r.out k2 A64.out)
            clear F59r
            have A69 := Lib.hid (apt k3 A64.out LTwas.out)
            clear A64
            have HO70 := Lib.hid (ogt HB.out C62.out k3 HO43.out)
            have C71 := Lib.hid (cto HB.out C62.out k2 HO43.out)
            clear C62 HO43 F61
            clear k1 k2 k3
            clear LTx LTd LTwas 
            go_wp2_with fail
            go_ret
            exact ⟨rfl, C71.out⟩
         ·
          first | have q0 := qt (a := off) (b := 0) (by omega) | have q0 := qf (a := off) (b := 0) (by omega) | skip
          first | have q1 := qt (a := k) (b := 1) (by omega) | have q1 := qf (a := k) (b := 1) (by omega) | skip
          first | have q2 := qt (a := k) (b := 3) (by omega) | have q2 := qf (a := k) (b := 3) (by omega) | skip
          first | have q3 := qt (a := k) (b := 4) (by omega) | have q3 := qf (a := k) (b := 4) (by omega) | skip
          first | have p0 := decide_eq_true (p := 0 ≤ off) (by omega) | have p0 := decide_eq_false (p := 0 ≤ off) (by omega) | skip
          first | have p1 := decide_eq_true (p := off < 32) (by omega) | have p1 := decide_eq_false (p := off < 32) (by omega) | skip
          first | have p2 := decide_eq_true (p := off < S) (by omega) | have p2 := decide_eq_false (p := off < S) (by omega) | skip
          first | have s0 := st (a := off) (n := 4) (by omega) (by omega) | have s0 := sf (a := off) (n := 4) (by omega) (by omega) | skip
          first | have s1 := st (a := off) (n := 2) (by omega) (by omega) | have s1 := sf (a := off) (n := 2) (by omega) (by omega) | skip
          first | have s2 := st (a := off) (n := 1) (by omega) (by omega) | have s2 := sf (a := off) (n := 1) (by omega) (by omega) | skip
          have HFit := Lib.hid (show fitsD E off 4 = true from (fits_reg hzE (by omega) hk6).2 ⟨by omega, by omega, by omega, by omega⟩)
          have HSm := Lib.hid (read_same (d := E) (off := off) (size := 4) (by rw [hkE]; omega))
          have HRd := Lib.hid (fun (b : Nat) (O X : Nat → Prop) (W : World) (h : Dev Bk W b E O X) => Read_any Bk b E O off 4 W HI.out.1 HI.out.2.1 h)
          rw [read_fits, HFit.out] at HRd
          rw [HSm.out] at HRd
          obtain ⟨rv, hrv⟩ : ∃ rv, (readD E off 4).1 = rv := ⟨_, rfl⟩
          rw [hrv] at HRd
          clear hrv
          clear hzE hkE hS4 hk6 hk1 g20 g21 g22 g23
          go_wp2_with fail
          have LTx := Lib.hid (ltb F33.out)
          have LTd := Lib.hid (ltd F34.out)
          have LTwas := Lib.hid (ltr F32r.out)
          refine (HRd.out _ _ _ _ F34.out).mono ?_
          rintro z x38 ⟨rfl, O38, k1, k2, k3⟩
          have F38d := Lib.hid (k1)
          have F39 := Lib.hid (F33.out.only k2 (A27.out _ rfl))
          clear F33
          have A40 := Lib.hid (apt k3 A27.out LTx.out)
          clear A27
          have F41 := Lib.hid (row_only F32r.out k2 A37.out)
          clear F32r
          have A42 := Lib.hid (apt k3 A37.out LTwas.out)
          clear A37
          have HO43 := Lib.hid (ogt HB.out C35.out k3 HO28.out)
          have C44 := Lib.hid (cto HB.out C35.out k2 HO28.out)
          clear C35 HO28 F34
          clear k1 k2 k3
          clear LTx LTd LTwas 
          clear e0 e1 e2 e3 e4
          obtain ⟨e0, e1, e2, e3, e4⟩ := five HBw.out F39.out
          go_wp2_with fail
          have LTx := Lib.hid (ltb F39.out)
          have LTd := Lib.hid (ltd F38d.out)
          have LTwas := Lib.hid (ltr F41.out)
          refine (look_row Bk B b21 E O38 x38 (csz HB.out C44.out) F38d.out).mono ?_
          rintro z x45 ⟨⟨v45, rfl, hv⟩, hb⟩
          have F45r := Lib.hid hv
          have F46 := Lib.hid (F39.out.keep hb)
          clear F39
          have F47 := Lib.hid (F38d.out.keep hb)
          clear F38d
          have F48 := Lib.hid (Orow.own_keep F41.out hb)
          clear F41
          have C49 := Lib.hid (cbl HB.out C44.out hb)
          clear C44
          have A50 := Lib.hid (apn (gtr hv) LTx.out)
          have A51 := Lib.hid (apn (gtr hv) LTd.out)
          have A52 := Lib.hid (apn (gtr hv) LTwas.out)
          clear hv hb
          clear LTx LTd LTwas 
          go_wp2_with fail
          refine (same_limbs F45r.out F48.out (by have := (look_len F47.out.ok).2; omega)).mono ?_
          rintro z x53 ⟨rfl, hb⟩
          have F54 := Lib.hid (F46.out.keep hb)
          clear F46
          have F55 := Lib.hid (F47.out.keep hb)
          clear F47
          have F56 := Lib.hid (Orow.own_keep F48.out hb)
          clear F48
          have F57 := Lib.hid (Orow.own_keep F45r.out hb)
          clear F45r
          have C58 := Lib.hid (cbl HB.out C49.out hb)
          clear C49
          clear hb
          clear F57
          clear F56
          go_wp2_with fail
          have LTx := Lib.hid (ltb F54.out)
          have LTd := Lib.hid (ltd F55.out)
          refine (look_row Bk B b21 E O38 x53 (csz HB.out C58.out) F55.out).mono ?_
          rintro z x59 ⟨⟨v59, rfl, hv⟩, hb⟩
          have F59r := Lib.hid hv
          have F60 := Lib.hid (F54.out.keep hb)
          clear F54
          have F61 := Lib.hid (F55.out.keep hb)
          clear F55
          have C62 := Lib.hid (cbl HB.out C58.out hb)
          clear C58
          have A63 := Lib.hid (apn (gtr hv) LTx.out)
          have A64 := Lib.hid (apn (gtr hv) LTd.out)
          clear hv hb
          clear LTx LTd 
          go_wp2_with fail
          have LTx := Lib.hid (ltb F60.out)
          have LTd := Lib.hid (ltd F61.out)
          have LTwas := Lib.hid (ltr F59r.out)
          refine (Write_any Bk b21 E O38 off 4 v x59 HI.out.1 HI.out.2.1 HI.out.2.2 F61.out).mono ?_
          rintro z x65 ⟨hz, O65, k1, k2, k3⟩
          rw [write_fits, HFit.out] at hz
          subst hz
          have F65d := Lib.hid (k1)
          have F66 := Lib.hid (F60.out.only k2 (A40.out _ rfl))
          clear F60
          have A67 := Lib.hid (apt k3 A40.out LTx.out)
          clear A40
          have F68 := Lib.hid (row_only F59r.out k2 A64.out)
          clear F59r
          have A69 := Lib.hid (apt k3 A64.out LTwas.out)
          clear A64
          have HO70 := Lib.hid (ogt HB.out C62.out k3 HO43.out)
          have C71 := Lib.hid (cto HB.out C62.out k2 HO43.out)
          clear C62 HO43 F61
          clear k1 k2 k3
          clear LTx LTd LTwas 
          go_wp2_with fail
          go_ret
          exact ⟨rfl, C71.out⟩
        ·
         first | have q0 := qt (a := off) (b := 0) (by omega) | have q0 := qf (a := off) (b := 0) (by omega) | skip
         first | have q1 := qt (a := k) (b := 1) (by omega) | have q1 := qf (a := k) (b := 1) (by omega) | skip
         first | have q2 := qt (a := k) (b := 3) (by omega) | have q2 := qf (a := k) (b := 3) (by omega) | skip
         first | have q3 := qt (a := k) (b := 4) (by omega) | have q3 := qf (a := k) (b := 4) (by omega) | skip
         first | have p0 := decide_eq_true (p := 0 ≤ off) (by omega) | have p0 := decide_eq_false (p := 0 ≤ off) (by omega) | skip
         first | have p1 := decide_eq_true (p := off < 32) (by omega) | have p1 := decide_eq_false (p := off < 32) (by omega) | skip
         first | have p2 := decide_eq_true (p := off < S) (by omega) | have p2 := decide_eq_false (p := off < S) (by omega) | skip
         first | have s0 := st (a := off) (n := 4) (by omega) (by omega) | have s0 := sf (a := off) (n := 4) (by omega) (by omega) | skip
         first | have s1 := st (a := off) (n := 2) (by omega) (by omega) | have s1 := sf (a := off) (n := 2) (by omega) (by omega) | skip
         first | have s2 := st (a := off) (n := 1) (by omega) (by omega) | have s2 := sf (a := off) (n := 1) (by omega) (by omega) | skip
         have HFit := Lib.hid (show fitsD E off 4 = false from Bool.eq_false_iff.2 (fun e => by have := (fits_reg hzE (by omega) hk6).1 e; omega))
         have HRd := Lib.hid (fun (b : Nat) (O X : Nat → Prop) (W : World) (h : Dev Bk W b E O X) => Read_any Bk b E O off 4 W HI.out.1 HI.out.2.1 h)
         rw [read_none HFit.out] at HRd
         clear hzE hkE hS4 hk6 hk1 g20 g21 g22
         go_wp2_with fail
         have LTx := Lib.hid (ltb F33.out)
         have LTd := Lib.hid (ltd F34.out)
         have LTwas := Lib.hid (ltr F32r.out)
         refine (HRd.out _ _ _ _ F34.out).mono ?_
         rintro z x38 ⟨rfl, O38, k1, k2, k3⟩
         have F38d := Lib.hid (k1)
         have F39 := Lib.hid (F33.out.only k2 (A27.out _ rfl))
         clear F33
         have A40 := Lib.hid (apt k3 A27.out LTx.out)
         clear A27
         have F41 := Lib.hid (row_only F32r.out k2 A37.out)
         clear F32r
         have A42 := Lib.hid (apt k3 A37.out LTwas.out)
         clear A37
         have HO43 := Lib.hid (ogt HB.out C35.out k3 HO28.out)
         have C44 := Lib.hid (cto HB.out C35.out k2 HO28.out)
         clear C35 HO28 F34
         clear k1 k2 k3
         clear LTx LTd LTwas 
         clear e0 e1 e2 e3 e4
         obtain ⟨e0, e1, e2, e3, e4⟩ := five HBw.out F39.out
         go_wp2_with fail
         have LTx := Lib.hid (ltb F39.out)
         have LTd := Lib.hid (ltd F38d.out)
         have LTwas := Lib.hid (ltr F41.out)
         refine (look_row Bk B b21 E O38 x38 (csz HB.out C44.out) F38d.out).mono ?_
         rintro z x45 ⟨⟨v45, rfl, hv⟩, hb⟩
         have F45r := Lib.hid hv
         have F46 := Lib.hid (F39.out.keep hb)
         clear F39
         have F47 := Lib.hid (F38d.out.keep hb)
         clear F38d
         have F48 := Lib.hid (Orow.own_keep F41.out hb)
         clear F41
         have C49 := Lib.hid (cbl HB.out C44.out hb)
         clear C44
         have A50 := Lib.hid (apn (gtr hv) LTx.out)
         have A51 := Lib.hid (apn (gtr hv) LTd.out)
         have A52 := Lib.hid (apn (gtr hv) LTwas.out)
         clear hv hb
         clear LTx LTd LTwas 
         go_wp2_with fail
         refine (same_limbs F45r.out F48.out (by have := (look_len F47.out.ok).2; omega)).mono ?_
         rintro z x53 ⟨rfl, hb⟩
         have F54 := Lib.hid (F46.out.keep hb)
         clear F46
         have F55 := Lib.hid (F47.out.keep hb)
         clear F47
         have F56 := Lib.hid (Orow.own_keep F48.out hb)
         clear F48
         have F57 := Lib.hid (Orow.own_keep F45r.out hb)
         clear F45r
         have C58 := Lib.hid (cbl HB.out C49.out hb)
         clear C49
         clear hb
         clear F57
         clear F56
         go_wp2_with fail
         have LTx := Lib.hid (ltb F54.out)
         have LTd := Lib.hid (ltd F55.out)
         refine (look_row Bk B b21 E O38 x53 (csz HB.out C58.out) F55.out).mono ?_
         rintro z x59 ⟨⟨v59, rfl, hv⟩, hb⟩
         have F59r := Lib.hid hv
         have F60 := Lib.hid (F54.out.keep hb)
         clear F54
         have F61 := Lib.hid (F55.out.keep hb)
         clear F55
         have C62 := Lib.hid (cbl HB.out C58.out hb)
         clear C58
         have A63 := Lib.hid (apn (gtr hv) LTx.out)
         have A64 := Lib.hid (apn (gtr hv) LTd.out)
         clear hv hb
         clear LTx LTd 
         go_wp2_with fail
         have LTx := Lib.hid (ltb F60.out)
         have LTd := Lib.hid (ltd F61.out)
         have LTwas := Lib.hid (ltr F59r.out)
         refine (Write_any Bk b21 E O38 off 4 v x59 HI.out.1 HI.out.2.1 HI.out.2.2 F61.out).mono ?_
         rintro z x65 ⟨hz, O65, k1, k2, k3⟩
         rw [write_none HFit.out] at hz
         subst hz
         have F65d := Lib.hid (show Dev Bk x65 b21 E O65 X21 from by have := k1; rw [write_none HFit.out] at this; exact this)
         have F66 := Lib.hid (F60.out.only k2 (A40.out _ rfl))
         clear F60
         have A67 := Lib.hid (apt k3 A40.out LTx.out)
         clear A40
         have F68 := Lib.hid (row_only F59r.out k2 A64.out)
         clear F59r
         have A69 := Lib.hid (apt k3 A64.out LTwas.out)
         clear A64
         have HO70 := Lib.hid (ogt HB.out C62.out k3 HO43.out)
         have C71 := Lib.hid (cto HB.out C62.out k2 HO43.out)
         clear C62 HO43 F61
         clear k1 k2 k3
         clear LTx LTd LTwas 
         go_wp2_with fail
         have LTx := Lib.hid (ltb F66.out)
         have LTd := Lib.hid (ltd F65d.out)
         have LTwas := Lib.hid (ltr F68.out)
         refine (look_row Bk B b21 E O65 x65 (csz HB.out C71.out) F65d.out).mono ?_
         rintro z x72 ⟨⟨v72, rfl, hv⟩, hb⟩
         have F72r := Lib.hid hv
         have F73 := Lib.hid (F66.out.keep hb)
         clear F66
         have F74 := Lib.hid (F65d.out.keep hb)
         clear F65d
         have F75 := Lib.hid (Orow.own_keep F68.out hb)
         clear F68
         have C76 := Lib.hid (cbl HB.out C71.out hb)
         clear C71
         have A77 := Lib.hid (apn (gtr hv) LTx.out)
         have A78 := Lib.hid (apn (gtr hv) LTd.out)
         have A79 := Lib.hid (apn (gtr hv) LTwas.out)
         clear hv hb
         clear LTx LTd LTwas 
         go_wp2_with fail
         refine (same_limbs F72r.out F75.out (by have := (look_len F74.out.ok).2; omega)).mono ?_
         rintro z x80 ⟨rfl, hb⟩
         have F81 := Lib.hid (F73.out.keep hb)
         clear F73
         have F82 := Lib.hid (F74.out.keep hb)
         clear F74
         have F83 := Lib.hid (Orow.own_keep F75.out hb)
         clear F75
         have F84 := Lib.hid (Orow.own_keep F72r.out hb)
         clear F72r
         have C85 := Lib.hid (cbl HB.out C76.out hb)
         clear C76
         clear hb
         go_wp2_with fail
         go_ret
         exact ⟨rfl, C85.out⟩
       ·
        first | have q0 := qt (a := off) (b := 0) (by omega) | have q0 := qf (a := off) (b := 0) (by omega) | skip
        first | have q1 := qt (a := k) (b := 1) (by omega) | have q1 := qf (a := k) (b := 1) (by omega) | skip
        first | have q2 := qt (a := k) (b := 3) (by omega) | have q2 := qf (a := k) (b := 3) (by omega) | skip
        first | have q3 := qt (a := k) (b := 4) (by omega) | have q3 := qf (a := k) (b := 4) (by omega) | skip
        first | have p0 := decide_eq_true (p := 0 ≤ off) (by omega) | have p0 := decide_eq_false (p := 0 ≤ off) (by omega) | skip
        first | have p1 := decide_eq_true (p := off < 32) (by omega) | have p1 := decide_eq_false (p := off < 32) (by omega) | skip
        first | have p2 := decide_eq_true (p := off < S) (by omega) | have p2 := decide_eq_false (p := off < S) (by omega) | skip
        first | have s0 := st (a := off) (n := 4) (by omega) (by omega) | have s0 := sf (a := off) (n := 4) (by omega) (by omega) | skip
        first | have s1 := st (a := off) (n := 2) (by omega) (by omega) | have s1 := sf (a := off) (n := 2) (by omega) (by omega) | skip
        first | have s2 := st (a := off) (n := 1) (by omega) (by omega) | have s2 := sf (a := off) (n := 1) (by omega) (by omega) | skip
        have HFit := Lib.hid (show fitsD E off 4 = false from Bool.eq_false_iff.2 (fun e => by have := (fits_reg hzE (by omega) hk6).1 e; omega))
        have HRd := Lib.hid (fun (b : Nat) (O X : Nat → Prop) (W : World) (h : Dev Bk W b E O X) => Read_any Bk b E O off 4 W HI.out.1 HI.out.2.1 h)
        rw [read_none HFit.out] at HRd
        clear hzE hkE hS4 hk6 hk1 g20 g21
        go_wp2_with fail
        have LTx := Lib.hid (ltb F33.out)
        have LTd := Lib.hid (ltd F34.out)
        have LTwas := Lib.hid (ltr F32r.out)
        refine (HRd.out _ _ _ _ F34.out).mono ?_
        rintro z x38 ⟨rfl, O38, k1, k2, k3⟩
        have F38d := Lib.hid (k1)
        have F39 := Lib.hid (F33.out.only k2 (A27.out _ rfl))
        clear F33
        have A40 := Lib.hid (apt k3 A27.out LTx.out)
        clear A27
        have F41 := Lib.hid (row_only F32r.out k2 A37.out)
        clear F32r
        have A42 := Lib.hid (apt k3 A37.out LTwas.out)
        clear A37
        have HO43 := Lib.hid (ogt HB.out C35.out k3 HO28.out)
        have C44 := Lib.hid (cto HB.out C35.out k2 HO28.out)
        clear C35 HO28 F34
        clear k1 k2 k3
        clear LTx LTd LTwas 
        clear e0 e1 e2 e3 e4
        obtain ⟨e0, e1, e2, e3, e4⟩ := five HBw.out F39.out
        go_wp2_with fail
        have LTx := Lib.hid (ltb F39.out)
        have LTd := Lib.hid (ltd F38d.out)
        have LTwas := Lib.hid (ltr F41.out)
        refine (look_row Bk B b21 E O38 x38 (csz HB.out C44.out) F38d.out).mono ?_
        rintro z x45 ⟨⟨v45, rfl, hv⟩, hb⟩
        have F45r := Lib.hid hv
        have F46 := Lib.hid (F39.out.keep hb)
        clear F39
        have F47 := Lib.hid (F38d.out.keep hb)
        clear F38d
        have F48 := Lib.hid (Orow.own_keep F41.out hb)
        clear F41
        have C49 := Lib.hid (cbl HB.out C44.out hb)
        clear C44
        have A50 := Lib.hid (apn (gtr hv) LTx.out)
        have A51 := Lib.hid (apn (gtr hv) LTd.out)
        have A52 := Lib.hid (apn (gtr hv) LTwas.out)
        clear hv hb
        clear LTx LTd LTwas 
        go_wp2_with fail
        refine (same_limbs F45r.out F48.out (by have := (look_len F47.out.ok).2; omega)).mono ?_
        rintro z x53 ⟨rfl, hb⟩
        have F54 := Lib.hid (F46.out.keep hb)
        clear F46
        have F55 := Lib.hid (F47.out.keep hb)
        clear F47
        have F56 := Lib.hid (Orow.own_keep F48.out hb)
        clear F48
        have F57 := Lib.hid (Orow.own_keep F45r.out hb)
        clear F45r
        have C58 := Lib.hid (cbl HB.out C49.out hb)
        clear C49
        clear hb
        clear F57
        clear F56
        go_wp2_with fail
        have LTx := Lib.hid (ltb F54.out)
        have LTd := Lib.hid (ltd F55.out)
        refine (look_row Bk B b21 E O38 x53 (csz HB.out C58.out) F55.out).mono ?_
        rintro z x59 ⟨⟨v59, rfl, hv⟩, hb⟩
        have F59r := Lib.hid hv
        have F60 := Lib.hid (F54.out.keep hb)
        clear F54
        have F61 := Lib.hid (F55.out.keep hb)
        clear F55
        have C62 := Lib.hid (cbl HB.out C58.out hb)
        clear C58
        have A63 := Lib.hid (apn (gtr hv) LTx.out)
        have A64 := Lib.hid (apn (gtr hv) LTd.out)
        clear hv hb
        clear LTx LTd 
        go_wp2_with fail
        have LTx := Lib.hid (ltb F60.out)
        have LTd := Lib.hid (ltd F61.out)
        have LTwas := Lib.hid (ltr F59r.out)
        refine (Write_any Bk b21 E O38 off 4 v x59 HI.out.1 HI.out.2.1 HI.out.2.2 F61.out).mono ?_
        rintro z x65 ⟨hz, O65, k1, k2, k3⟩
        rw [write_none HFit.out] at hz
        subst hz
        have F65d := Lib.hid (show Dev Bk x65 b21 E O65 X21 from by have := k1; rw [write_none HFit.out] at this; exact this)
        have F66 := Lib.hid (F60.out.only k2 (A40.out _ rfl))
        clear F60
        have A67 := Lib.hid (apt k3 A40.out LTx.out)
        clear A40
        have F68 := Lib.hid (row_only F59r.out k2 A64.out)
        clear F59r
        have A69 := Lib.hid (apt k3 A64.out LTwas.out)
        clear A64
        have HO70 := Lib.hid (ogt HB.out C62.out k3 HO43.out)
        have C71 := Lib.hid (cto HB.out C62.out k2 HO43.out)
        clear C62 HO43 F61
        clear k1 k2 k3
        clear LTx LTd LTwas 
        go_wp2_with fail
        have LTx := Lib.hid (ltb F66.out)
        have LTd := Lib.hid (ltd F65d.out)
        have LTwas := Lib.hid (ltr F68.out)
        refine (look_row Bk B b21 E O65 x65 (csz HB.out C71.out) F65d.out).mono ?_
        rintro z x72 ⟨⟨v72, rfl, hv⟩, hb⟩
        have F72r := Lib.hid hv
        have F73 := Lib.hid (F66.out.keep hb)
        clear F66
        have F74 := Lib.hid (F65d.out.keep hb)
        clear F65d
        have F75 := Lib.hid (Orow.own_keep F68.out hb)
        clear F68
        have C76 := Lib.hid (cbl HB.out C71.out hb)
        clear C71
        have A77 := Lib.hid (apn (gtr hv) LTx.out)
        have A78 := Lib.hid (apn (gtr hv) LTd.out)
        have A79 := Lib.hid (apn (gtr hv) LTwas.out)
        clear hv hb
        clear LTx LTd LTwas 
        go_wp2_with fail
        refine (same_limbs F72r.out F75.out (by have := (look_len F74.out.ok).2; omega)).mono ?_
        rintro z x80 ⟨rfl, hb⟩
        have F81 := Lib.hid (F73.out.keep hb)
        clear F73
        have F82 := Lib.hid (F74.out.keep hb)
        clear F74
        have F83 := Lib.hid (Orow.own_keep F75.out hb)
        clear F75
        have F84 := Lib.hid (Orow.own_keep F72r.out hb)
        clear F72r
        have C85 := Lib.hid (cbl HB.out C76.out hb)
        clear C76
        clear hb
        go_wp2_with fail
        go_ret
        exact ⟨rfl, C85.out⟩
      ·
       first | have q0 := qt (a := off) (b := 0) (by omega) | have q0 := qf (a := off) (b := 0) (by omega) | skip
       first | have q1 := qt (a := k) (b := 1) (by omega) | have q1 := qf (a := k) (b := 1) (by omega) | skip
       first | have q2 := qt (a := k) (b := 3) (by omega) | have q2 := qf (a := k) (b := 3) (by omega) | skip
       first | have q3 := qt (a := k) (b := 4) (by omega) | have q3 := qf (a := k) (b := 4) (by omega) | skip
       first | have p0 := decide_eq_true (p := 0 ≤ off) (by omega) | have p0 := decide_eq_false (p := 0 ≤ off) (by omega) | skip
       first | have p1 := decide_eq_true (p := off < 32) (by omega) | have p1 := decide_eq_false (p := off < 32) (by omega) | skip
       first | have p2 := decide_eq_true (p := off < S) (by omega) | have p2 := decide_eq_false (p := off < S) (by omega) | skip
       first | have s0 := st (a := off) (n := 4) (by omega) (by omega) | have s0 := sf (a := off) (n := 4) (by omega) (by omega) | skip
       first | have s1 := st (a := off) (n := 2) (by omega) (by omega) | have s1 := sf (a := off) (n := 2) (by omega) (by omega) | skip
       first | have s2 := st (a := off) (n := 1) (by omega) (by omega) | have s2 := sf (a := off) (n := 1) (by omega) (by omega) | skip
       have HFit := Lib.hid (show fitsD E off 4 = false from Bool.eq_false_iff.2 (fun e => by have := (fits_reg hzE (by omega) hk6).1 e; omega))
       have HRd := Lib.hid (fun (b : Nat) (O X : Nat → Prop) (W : World) (h : Dev Bk W b E O X) => Read_any Bk b E O off 4 W HI.out.1 HI.out.2.1 h)
       rw [read_none HFit.out] at HRd
       clear hzE hkE hS4 hk6 hk1 g20
       go_wp2_with fail
       have LTx := Lib.hid (ltb F33.out)
       have LTd := Lib.hid (ltd F34.out)
       have LTwas := Lib.hid (ltr F32r.out)
       refine (HRd.out _ _ _ _ F34.out).mono ?_
       rintro z x38 ⟨rfl, O38, k1, k2, k3⟩
       have F38d := Lib.hid (k1)
       have F39 := Lib.hid (F33.out.only k2 (A27.out _ rfl))
       clear F33
       have A40 := Lib.hid (apt k3 A27.out LTx.out)
       clear A27
       have F41 := Lib.hid (row_only F32r.out k2 A37.out)
       clear F32r
       have A42 := Lib.hid (apt k3 A37.out LTwas.out)
       clear A37
       have HO43 := Lib.hid (ogt HB.out C35.out k3 HO28.out)
       have C44 := Lib.hid (cto HB.out C35.out k2 HO28.out)
       clear C35 HO28 F34
       clear k1 k2 k3
       clear LTx LTd LTwas 
       clear e0 e1 e2 e3 e4
       obtain ⟨e0, e1, e2, e3, e4⟩ := five HBw.out F39.out
       go_wp2_with fail
       have LTx := Lib.hid (ltb F39.out)
       have LTd := Lib.hid (ltd F38d.out)
       have LTwas := Lib.hid (ltr F41.out)
       refine (look_row Bk B b21 E O38 x38 (csz HB.out C44.out) F38d.out).mono ?_
       rintro z x45 ⟨⟨v45, rfl, hv⟩, hb⟩
       have F45r := Lib.hid hv
       have F46 := Lib.hid (F39.out.keep hb)
       clear F39
       have F47 := Lib.hid (F38d.out.keep hb)
       clear F38d
       have F48 := Lib.hid (Orow.own_keep F41.out hb)
       clear F41
       have C49 := Lib.hid (cbl HB.out C44.out hb)
       clear C44
       have A50 := Lib.hid (apn (gtr hv) LTx.out)
       have A51 := Lib.hid (apn (gtr hv) LTd.out)
       have A52 := Lib.hid (apn (gtr hv) LTwas.out)
       clear hv hb
       clear LTx LTd LTwas 
       go_wp2_with fail
       refine (same_limbs F45r.out F48.out (by have := (look_len F47.out.ok).2; omega)).mono ?_
       rintro z x53 ⟨rfl, hb⟩
       have F54 := Lib.hid (F46.out.keep hb)
       clear F46
       have F55 := Lib.hid (F47.out.keep hb)
       clear F47
       have F56 := Lib.hid (Orow.own_keep F48.out hb)
       clear F48
       have F57 := Lib.hid (Orow.own_keep F45r.out hb)
       clear F45r
       have C58 := Lib.hid (cbl HB.out C49.out hb)
       clear C49
       clear hb
       clear F57
       clear F56
       go_wp2_with fail
       have LTx := Lib.hid (ltb F54.out)
       have LTd := Lib.hid (ltd F55.out)
       refine (look_row Bk B b21 E O38 x53 (csz HB.out C58.out) F55.out).mono ?_
       rintro z x59 ⟨⟨v59, rfl, hv⟩, hb⟩
       have F59r := Lib.hid hv
       have F60 := Lib.hid (F54.out.keep hb)
       clear F54
       have F61 := Lib.hid (F55.out.keep hb)
       clear F55
       have C62 := Lib.hid (cbl HB.out C58.out hb)
       clear C58
       have A63 := Lib.hid (apn (gtr hv) LTx.out)
       have A64 := Lib.hid (apn (gtr hv) LTd.out)
       clear hv hb
       clear LTx LTd 
       go_wp2_with fail
       have LTx := Lib.hid (ltb F60.out)
       have LTd := Lib.hid (ltd F61.out)
       have LTwas := Lib.hid (ltr F59r.out)
       refine (Write_any Bk b21 E O38 off 4 v x59 HI.out.1 HI.out.2.1 HI.out.2.2 F61.out).mono ?_
       rintro z x65 ⟨hz, O65, k1, k2, k3⟩
       rw [write_none HFit.out] at hz
       subst hz
       have F65d := Lib.hid (show Dev Bk x65 b21 E O65 X21 from by have := k1; rw [write_none HFit.out] at this; exact this)
       have F66 := Lib.hid (F60.out.only k2 (A40.out _ rfl))
       clear F60
       have A67 := Lib.hid (apt k3 A40.out LTx.out)
       clear A40
       have F68 := Lib.hid (row_only F59r.out k2 A64.out)
       clear F59r
       have A69 := Lib.hid (apt k3 A64.out LTwas.out)
       clear A64
       have HO70 := Lib.hid (ogt HB.out C62.out k3 HO43.out)
       have C71 := Lib.hid (cto HB.out C62.out k2 HO43.out)
       clear C62 HO43 F61
       clear k1 k2 k3
       clear LTx LTd LTwas 
       go_wp2_with fail
       have LTx := Lib.hid (ltb F66.out)
       have LTd := Lib.hid (ltd F65d.out)
       have LTwas := Lib.hid (ltr F68.out)
       refine (look_row Bk B b21 E O65 x65 (csz HB.out C71.out) F65d.out).mono ?_
       rintro z x72 ⟨⟨v72, rfl, hv⟩, hb⟩
       have F72r := Lib.hid hv
       have F73 := Lib.hid (F66.out.keep hb)
       clear F66
       have F74 := Lib.hid (F65d.out.keep hb)
       clear F65d
       have F75 := Lib.hid (Orow.own_keep F68.out hb)
       clear F68
       have C76 := Lib.hid (cbl HB.out C71.out hb)
       clear C71
       have A77 := Lib.hid (apn (gtr hv) LTx.out)
       have A78 := Lib.hid (apn (gtr hv) LTd.out)
       have A79 := Lib.hid (apn (gtr hv) LTwas.out)
       clear hv hb
       clear LTx LTd LTwas 
       go_wp2_with fail
       refine (same_limbs F72r.out F75.out (by have := (look_len F74.out.ok).2; omega)).mono ?_
       rintro z x80 ⟨rfl, hb⟩
       have F81 := Lib.hid (F73.out.keep hb)
       clear F73
       have F82 := Lib.hid (F74.out.keep hb)
       clear F74
       have F83 := Lib.hid (Orow.own_keep F75.out hb)
       clear F75
       have F84 := Lib.hid (Orow.own_keep F72r.out hb)
       clear F72r
       have C85 := Lib.hid (cbl HB.out C76.out hb)
       clear C76
       clear hb
       go_wp2_with fail
       go_ret
       exact ⟨rfl, C85.out⟩
     ·
      first | have q0 := qt (a := size) (b := 4) (by omega) | have q0 := qf (a := size) (b := 4) (by omega) | skip
      first | have q1 := qt (a := size) (b := 1) (by omega) | have q1 := qf (a := size) (b := 1) (by omega) | skip
      first | have q2 := qt (a := size) (b := 2) (by omega) | have q2 := qf (a := size) (b := 2) (by omega) | skip
      first | have q3 := qt (a := off) (b := 0) (by omega) | have q3 := qf (a := off) (b := 0) (by omega) | skip
      first | have q4 := qt (a := k) (b := 1) (by omega) | have q4 := qf (a := k) (b := 1) (by omega) | skip
      first | have q5 := qt (a := k) (b := 3) (by omega) | have q5 := qf (a := k) (b := 3) (by omega) | skip
      first | have q6 := qt (a := k) (b := 4) (by omega) | have q6 := qf (a := k) (b := 4) (by omega) | skip
      first | have p0 := decide_eq_true (p := 0 ≤ off) (by omega) | have p0 := decide_eq_false (p := 0 ≤ off) (by omega) | skip
      first | have p1 := decide_eq_true (p := off < 32) (by omega) | have p1 := decide_eq_false (p := off < 32) (by omega) | skip
      first | have p2 := decide_eq_true (p := off < S) (by omega) | have p2 := decide_eq_false (p := off < S) (by omega) | skip
      first | have s0 := st (a := off) (n := 4) (by omega) (by omega) | have s0 := sf (a := off) (n := 4) (by omega) (by omega) | skip
      first | have s1 := st (a := off) (n := 2) (by omega) (by omega) | have s1 := sf (a := off) (n := 2) (by omega) (by omega) | skip
      first | have s2 := st (a := off) (n := 1) (by omega) (by omega) | have s2 := sf (a := off) (n := 1) (by omega) (by omega) | skip
      have HFit := Lib.hid (show fitsD E off size = false from Bool.eq_false_iff.2 (fun e => by have := (fits_reg hzE (by omega) hk6).1 e; omega))
      have HRd := Lib.hid (fun (b : Nat) (O X : Nat → Prop) (W : World) (h : Dev Bk W b E O X) => Read_any Bk b E O off size W HI.out.1 HI.out.2.1 h)
      rw [read_none HFit.out] at HRd
      clear hzE hkE hS4 hk6 hk1 g19
      go_wp2_with fail
      have LTx := Lib.hid (ltb F33.out)
      have LTd := Lib.hid (ltd F34.out)
      have LTwas := Lib.hid (ltr F32r.out)
      refine (HRd.out _ _ _ _ F34.out).mono ?_
      rintro z x38 ⟨rfl, O38, k1, k2, k3⟩
      have F38d := Lib.hid (k1)
      have F39 := Lib.hid (F33.out.only k2 (A27.out _ rfl))
      clear F33
      have A40 := Lib.hid (apt k3 A27.out LTx.out)
      clear A27
      have F41 := Lib.hid (row_only F32r.out k2 A37.out)
      clear F32r
      have A42 := Lib.hid (apt k3 A37.out LTwas.out)
      clear A37
      have HO43 := Lib.hid (ogt HB.out C35.out k3 HO28.out)
      have C44 := Lib.hid (cto HB.out C35.out k2 HO28.out)
      clear C35 HO28 F34
      clear k1 k2 k3
      clear LTx LTd LTwas 
      clear e0 e1 e2 e3 e4
      obtain ⟨e0, e1, e2, e3, e4⟩ := five HBw.out F39.out
      go_wp2_with fail
      have LTx := Lib.hid (ltb F39.out)
      have LTd := Lib.hid (ltd F38d.out)
      have LTwas := Lib.hid (ltr F41.out)
      refine (look_row Bk B b21 E O38 x38 (csz HB.out C44.out) F38d.out).mono ?_
      rintro z x45 ⟨⟨v45, rfl, hv⟩, hb⟩
      have F45r := Lib.hid hv
      have F46 := Lib.hid (F39.out.keep hb)
      clear F39
      have F47 := Lib.hid (F38d.out.keep hb)
      clear F38d
      have F48 := Lib.hid (Orow.own_keep F41.out hb)
      clear F41
      have C49 := Lib.hid (cbl HB.out C44.out hb)
      clear C44
      have A50 := Lib.hid (apn (gtr hv) LTx.out)
      have A51 := Lib.hid (apn (gtr hv) LTd.out)
      have A52 := Lib.hid (apn (gtr hv) LTwas.out)
      clear hv hb
      clear LTx LTd LTwas 
      go_wp2_with fail
      refine (same_limbs F45r.out F48.out (by have := (look_len F47.out.ok).2; omega)).mono ?_
      rintro z x53 ⟨rfl, hb⟩
      have F54 := Lib.hid (F46.out.keep hb)
      clear F46
      have F55 := Lib.hid (F47.out.keep hb)
      clear F47
      have F56 := Lib.hid (Orow.own_keep F48.out hb)
      clear F48
      have F57 := Lib.hid (Orow.own_keep F45r.out hb)
      clear F45r
      have C58 := Lib.hid (cbl HB.out C49.out hb)
      clear C49
      clear hb
      clear F57
      clear F56
      go_wp2_with fail
      have LTx := Lib.hid (ltb F54.out)
      have LTd := Lib.hid (ltd F55.out)
      refine (look_row Bk B b21 E O38 x53 (csz HB.out C58.out) F55.out).mono ?_
      rintro z x59 ⟨⟨v59, rfl, hv⟩, hb⟩
      have F59r := Lib.hid hv
      have F60 := Lib.hid (F54.out.keep hb)
      clear F54
      have F61 := Lib.hid (F55.out.keep hb)
      clear F55
      have C62 := Lib.hid (cbl HB.out C58.out hb)
      clear C58
      have A63 := Lib.hid (apn (gtr hv) LTx.out)
      have A64 := Lib.hid (apn (gtr hv) LTd.out)
      clear hv hb
      clear LTx LTd 
      go_wp2_with fail
      have LTx := Lib.hid (ltb F60.out)
      have LTd := Lib.hid (ltd F61.out)
      have LTwas := Lib.hid (ltr F59r.out)
      refine (Write_any Bk b21 E O38 off size v x59 HI.out.1 HI.out.2.1 HI.out.2.2 F61.out).mono ?_
      rintro z x65 ⟨hz, O65, k1, k2, k3⟩
      rw [write_none HFit.out] at hz
      subst hz
      have F65d := Lib.hid (show Dev Bk x65 b21 E O65 X21 from by have := k1; rw [write_none HFit.out] at this; exact this)
      have F66 := Lib.hid (F60.out.only k2 (A40.out _ rfl))
      clear F60
      have A67 := Lib.hid (apt k3 A40.out LTx.out)
      clear A40
      have F68 := Lib.hid (row_only F59r.out k2 A64.out)
      clear F59r
      have A69 := Lib.hid (apt k3 A64.out LTwas.out)
      clear A64
      have HO70 := Lib.hid (ogt HB.out C62.out k3 HO43.out)
      have C71 := Lib.hid (cto HB.out C62.out k2 HO43.out)
      clear C62 HO43 F61
      clear k1 k2 k3
      clear LTx LTd LTwas 
      go_wp2_with fail
      have LTx := Lib.hid (ltb F66.out)
      have LTd := Lib.hid (ltd F65d.out)
      have LTwas := Lib.hid (ltr F68.out)
      refine (look_row Bk B b21 E O65 x65 (csz HB.out C71.out) F65d.out).mono ?_
      rintro z x72 ⟨⟨v72, rfl, hv⟩, hb⟩
      have F72r := Lib.hid hv
      have F73 := Lib.hid (F66.out.keep hb)
      clear F66
      have F74 := Lib.hid (F65d.out.keep hb)
      clear F65d
      have F75 := Lib.hid (Orow.own_keep F68.out hb)
      clear F68
      have C76 := Lib.hid (cbl HB.out C71.out hb)
      clear C71
      have A77 := Lib.hid (apn (gtr hv) LTx.out)
      have A78 := Lib.hid (apn (gtr hv) LTd.out)
      have A79 := Lib.hid (apn (gtr hv) LTwas.out)
      clear hv hb
      clear LTx LTd LTwas 
      go_wp2_with fail
      refine (same_limbs F72r.out F75.out (by have := (look_len F74.out.ok).2; omega)).mono ?_
      rintro z x80 ⟨rfl, hb⟩
      have F81 := Lib.hid (F73.out.keep hb)
      clear F73
      have F82 := Lib.hid (F74.out.keep hb)
      clear F74
      have F83 := Lib.hid (Orow.own_keep F75.out hb)
      clear F75
      have F84 := Lib.hid (Orow.own_keep F72r.out hb)
      clear F72r
      have C85 := Lib.hid (cbl HB.out C76.out hb)
      clear C76
      clear hb
      go_wp2_with fail
      go_ret
      exact ⟨rfl, C85.out⟩
end Go.Proofs.YtknhgfofmkpnfaaGreat.Devs
