/- DeviceFresh, DeviceApart. -/
import Derived.Test.YtknhgfofmkpnfaaGreatS5l
import Derived.Test.YtknhgfofmkpnfaaGreatS5m
namespace Go.Proofs.YtknhgfofmkpnfaaGreat.Devs
set_option linter.unusedSectionVars false
variable [Inhabited Lane.OTab]
open Go.RowKit Go.Maps Go.ChangeShapes Go.WideShapes Go.ChangeAt Fifo Orow Word Win Mbox
set_option linter.unusedVariables false

theorem calls_letter' {P : Program} {f : Nat} {args : Array Value} {w : World} {Q : Ending → World → Prop} (h : ∀ W, Hid (W = w) → Calls P f args W Q) : Calls P f args w Q := h w (Lib.hid rfl)
set_option maxRecDepth 100000 in
set_option maxHeartbeats 16000000 in
theorem fresh_walk (Bk : Nat) (k Bv S o l : Int) (a1 : Option Addr) (len1 cap1 : Nat) (l1 : List Dd) (a2 : Option Addr) (len2 cap2 : Nat) (l2 : List Dd) (w : World) (hL : Laid w Bk) (hBk0 : Bk ≤ w.heap.size) (hk : I64 k) (hBv : 0 ≤ Bv ∧ Bv < 4294967296) (hS : I64 S) (ho : I64 o) (hl : I64 l) (h1 : RowDd w a1 len1 l1) (h2 : RowDd w a2 len2 l2) :
    Calls Tryz.prog 3 #[devA k Bv S o l, .slice a1 len1 cap1, .slice a2 len2 cap2] w fun z w' => z = .returned (.bool true) ∧ Below w.heap.size w w' := by
  obtain ⟨B, hBe⟩ : ∃ B, w.heap.size = B := ⟨_, rfl⟩
  rw [hBe] at hBk0 ⊢
  have HBw := Lib.hid hBe
  have HB := Lib.hid (show B ≤ w.heap.size by omega)
  have HBk := Lib.hid hBk0
  have HLd := Lib.hid hL
  have HV := Lib.hid (show I64 k ∧ (0 ≤ Bv ∧ Bv < 4294967296) ∧ I64 S ∧ I64 o ∧ I64 l from ⟨hk, hBv, hS, ho, hl⟩)
  have H1 := Lib.hid h1
  have H2 := Lib.hid h2
  clear hBe hBk0 hL hk hBv hS ho hl h1 h2
  go_enter Tryz.func3, Tryz.ntmps3
  go_wp2_with fail
  refine calls_letter' ?_
  intro x0 hx
  have C0 := Lib.hid (show Below B w x0 from by rw [hx.out]; exact (Below.refl _ _).alloc HB.out _)
  have FX := Lib.hid (show Blk x0 B 25 [.int .i64 k, .int .u32 Bv, .int .i64 S, .int .i64 o, .int .i64 l] from by rw [hx.out, ← HBw.out]; exact Blk.new w _ _)
  clear hx
  refine (awake_any Bk x0.heap.size x0 (HLd.out.keep (C0.out.mono HBk.out)) (Nat.le_trans HBk.out (Nat.le_trans HB.out C0.out.size)) (Nat.le_refl _)).mono ?_
  rintro z x1 ⟨rfl, hb⟩
  have C1 := Lib.hid (C0.out.trans (hb.mono (Nat.le_trans HB.out C0.out.size)))
  have FX1 := Lib.hid (FX.out.keep hb)
  clear hb FX C0
  have e0 := FX1.out.at 0 rfl
  have e1 := FX1.out.at 1 rfl
  have e2 := FX1.out.at 2 rfl
  have e3 := FX1.out.at 3 rfl
  have e4 := FX1.out.at 4 rfl
  rw [← HBw.out] at e0 e1 e2 e3 e4
  cases hv : devV k Bv S o l with
  | false =>
    go_wp2_with fail
    refine (New_no k Bv S o l x1 HV.out.1 HV.out.2.1 HV.out.2.2.1 HV.out.2.2.2.1 HV.out.2.2.2.2 hv).mono ?_
    rintro z x21 ⟨rfl, hb⟩
    have F22 := Lib.hid (FX1.out.keep hb)
    clear FX1
    have C23 := Lib.hid (show Below B w x21 from C1.out.trans (hb.mono (Nat.le_trans HB.out C1.out.size)))
    clear C1
    clear hb
    clear e0 e1 e2 e3 e4
    have e0 := F22.out.at 0 rfl
    have e1 := F22.out.at 1 rfl
    have e2 := F22.out.at 2 rfl
    have e3 := F22.out.at 3 rfl
    have e4 := F22.out.at 4 rfl
    rw [← HBw.out] at e0 e1 e2 e3 e4
    go_wp2_with fail
    refine (New_no k Bv S o l x21 HV.out.1 HV.out.2.1 HV.out.2.2.1 HV.out.2.2.2.1 HV.out.2.2.2.2 hv).mono ?_
    rintro z x24 ⟨rfl, hb⟩
    have F25 := Lib.hid (F22.out.keep hb)
    clear F22
    have C26 := Lib.hid (show Below B w x24 from C23.out.trans (hb.mono (Nat.le_trans HB.out C23.out.size)))
    clear C23
    clear hb
    go_wp2_with fail
    go_ret
    exact ⟨rfl, C26.out⟩
  | true =>
    obtain ⟨hk6, -⟩ := dev_parts hv
    have HZ := Lib.hid (zero_newD (S := S) hk6)
    clear hk6
    go_wp2_with fail
    have LTx := Lib.hid (show ∀ j, Eq B j → j < x1.heap.size from fun j h => h ▸ FX1.out.lt)
    refine (New_yes Bk k Bv S o l x1 HV.out.2.1 (HLd.out.keep (C1.out.mono HBk.out)) (Nat.le_trans HBk.out (Nat.le_trans HB.out C1.out.size)) hv).mono ?_
    rintro z x21 ⟨⟨b21, O21, X21, rfl, hd, hn, hx⟩, hb⟩
    have F21d := Lib.hid hd
    have HO21 := Lib.hid (show ∀ j, O21 j → B ≤ j from fun j hj => Nat.le_trans (Nat.le_trans HB.out C1.out.size) (hn j hj))
    have F22 := Lib.hid (FX1.out.keep hb)
    clear FX1
    have C23 := Lib.hid (show Below B w x21 from C1.out.trans (hb.mono (Nat.le_trans HB.out C1.out.size)))
    clear C1
    have A24 := Lib.hid (show ∀ j, O21 j → ¬ Eq B j from fun j h1 h2 => by have e1 := hn j h1; have e2 := LTx.out j h2; omega)
    clear hd hn hx hb
    clear LTx 
    clear e0 e1 e2 e3 e4
    have e0 := F22.out.at 0 rfl
    have e1 := F22.out.at 1 rfl
    have e2 := F22.out.at 2 rfl
    have e3 := F22.out.at 3 rfl
    have e4 := F22.out.at 4 rfl
    rw [← HBw.out] at e0 e1 e2 e3 e4
    go_wp2_with fail
    have LTx := Lib.hid (show ∀ j, Eq B j → j < x21.heap.size from fun j h => h ▸ F22.out.lt)
    have LTd := Lib.hid (show ∀ j, O21 j → j < x21.heap.size from fun j h => (F21d.out.lt j h).2)
    have XTd := Lib.hid F21d.out.xlt
    have XNd := Lib.hid F21d.out.xoff
    refine (New_yes Bk k Bv S o l x21 HV.out.2.1 (HLd.out.keep (C23.out.mono HBk.out)) (Nat.le_trans HBk.out (Nat.le_trans HB.out C23.out.size)) hv).mono ?_
    rintro z x25 ⟨⟨b25, O25, X25, rfl, hd, hn, hx⟩, hb⟩
    have F25d := Lib.hid hd
    have HO25 := Lib.hid (show ∀ j, O25 j → B ≤ j from fun j hj => Nat.le_trans (Nat.le_trans HB.out C23.out.size) (hn j hj))
    have F26 := Lib.hid (F22.out.keep hb)
    clear F22
    have F27 := Lib.hid (F21d.out.keep hb)
    clear F21d
    have C28 := Lib.hid (show Below B w x25 from C23.out.trans (hb.mono (Nat.le_trans HB.out C23.out.size)))
    clear C23
    have A29 := Lib.hid (show ∀ j, O25 j → ¬ Eq B j from fun j h1 h2 => by have e1 := hn j h1; have e2 := LTx.out j h2; omega)
    have A30 := Lib.hid (show ∀ j, O25 j → ¬ O21 j from fun j h1 h2 => by have e1 := hn j h1; have e2 := LTd.out j h2; omega)
    have XA31 := Lib.hid (show ∀ j, X21 j → ¬ O25 j from fun j h1 h2 => by have e1 := hn j h2; have e2 := XTd.out j h1; omega)
    have XA32 := Lib.hid (show ∀ j, X25 j → ¬ O21 j from fun j h1 h2 => by have e1 := hx j h1; have e2 := LTd.out j h2; omega)
    clear hd hn hx hb
    clear LTx LTd XTd XNd
    clear e0 e1 e2 e3 e4
    clear F26
    by_cases h1 : len1 ≤ 120
    rotate_left
    · have d1 : decide ((120 : Int) < (len1 : Int)) = true := decide_eq_true (by omega)
      go_wp2_with fail
      go_ret
      exact ⟨rfl, C28.out⟩
    have d1 : decide ((120 : Int) < (len1 : Int)) = false := decide_eq_false (by omega)
    by_cases h2 : len2 ≤ 120
    rotate_left
    · have d2 : decide ((120 : Int) < (len2 : Int)) = true := decide_eq_true (by omega)
      go_wp2_with fail
      go_ret
      exact ⟨rfl, C28.out⟩
    have d2 : decide ((120 : Int) < (len2 : Int)) = false := decide_eq_false (by omega)
    go_wp2_with fail
    have LTd := Lib.hid (show ∀ j, O21 j → j < x25.heap.size from fun j h => (F27.out.lt j h).2)
    have LTo := Lib.hid (show ∀ j, O25 j → j < x25.heap.size from fun j h => (F25d.out.lt j h).2)
    have XTd := Lib.hid F27.out.xlt
    have XNd := Lib.hid F27.out.xoff
    have XTo := Lib.hid F25d.out.xlt
    have XNo := Lib.hid F25d.out.xoff
    refine (run_any Bk B b21 (newD k S) O21 a1 len1 cap1 l1 w x25 H1.out HBw.out C28.out HO21.out HBk.out h1 F27.out).mono ?_
    rintro z x33 ⟨v33, n33, O33, rfl, hS⟩
    have e := hS.len
    subst e
    have hk2 := hS.only
    have hk3 := hS.own
    have hr := hS.row
    have F33d := Lib.hid hS.dev
    have F33r := Lib.hid hS.row
    have A33a := Lib.hid hS.ap
    have N33 := Lib.hid hS.few
    have F34 := Lib.hid (F25d.out.only hk2 A30.out (fun j hj => Nat.le_trans HBk.out (HO21.out j hj)) XA32.out)
    clear F25d
    have A35 := Lib.hid (show ∀ j, O25 j → ¬ O33 j from fun j h1 h2 => (hk3 j h2).elim (fun e => A30.out j h1 e) (fun e => by have := LTo.out j h1; omega))
    clear A30
    have XA36 := Lib.hid (show ∀ j, X25 j → ¬ O33 j from fun j h1 h2 => (hk3 j h2).elim (fun e => XA32.out j h1 e) (fun e => by have := XTo.out j h1; omega))
    clear XA32
    have HO37 := Lib.hid (show ∀ j, O33 j → B ≤ j from fun j hj => (hk3 j hj).elim (HO21.out j) (fun e => Nat.le_trans (Nat.le_trans HB.out C28.out.size) e))
    have C38 := Lib.hid (show Below B w x33 from C28.out.trans (hk2.below (Nat.le_trans HB.out C28.out.size) HO21.out))
    clear C28 HO21 F27
    have A39 := Lib.hid (show ∀ j, PB v33 j → ¬ O25 j from fun j h1 h2 => by have e1 := (fun j h => (hr.lt j h).1) j h1; have e2 := LTo.out j h2; omega)
    clear hS hk2 hk3 hr
    clear LTd LTo XTd XNd XTo XNo
    clear F33r
    go_wp2_with fail
    have LTd := Lib.hid (show ∀ j, O33 j → j < x33.heap.size from fun j h => (F33d.out.lt j h).2)
    have LTo := Lib.hid (show ∀ j, O25 j → j < x33.heap.size from fun j h => (F34.out.lt j h).2)
    have XTd := Lib.hid F33d.out.xlt
    have XNd := Lib.hid F33d.out.xoff
    have XTo := Lib.hid F34.out.xlt
    have XNo := Lib.hid F34.out.xoff
    refine (Reset_any Bk b21 (runV (newD k S) l1).2 O33 x33 F33d.out).mono ?_
    rintro z x40 ⟨rfl, O40, k1, k2, k3⟩
    have F40d := Lib.hid (show Dev Bk x40 b21 (newD k S) O40 X21 from by have := k1; rw [runV_zero, HZ.out] at this; exact this)
    have F41 := Lib.hid (F34.out.only k2 A35.out (fun j hj => Nat.le_trans HBk.out (HO37.out j hj)) XA36.out)
    clear F34
    have A42 := Lib.hid (show ∀ j, O25 j → ¬ O40 j from fun j h1 h2 => (k3 j h2).elim (fun e => A35.out j h1 e) (fun e => by have := LTo.out j h1; omega))
    clear A35
    have XA43 := Lib.hid (show ∀ j, X25 j → ¬ O40 j from fun j h1 h2 => (k3 j h2).elim (fun e => XA36.out j h1 e) (fun e => by have := XTo.out j h1; omega))
    clear XA36
    have HO44 := Lib.hid (show ∀ j, O40 j → B ≤ j from fun j hj => (k3 j hj).elim (HO37.out j) (fun e => Nat.le_trans (Nat.le_trans HB.out C38.out.size) e))
    have C45 := Lib.hid (show Below B w x40 from C38.out.trans (k2.below (Nat.le_trans HB.out C38.out.size) HO37.out))
    clear C38 HO37 F33d
    clear k1 k2 k3
    clear LTd LTo XTd XNd XTo XNo
    have HF := Lib.hid (show freshD (newD k S) = true from by rw [← HZ.out]; exact fresh_zero _)
    go_wp2_with fail
    refine (Fresh_any Bk b21 (newD k S) O40 x40 F40d.out).mono ?_
    rintro z x46 ⟨hz, hb⟩
    rw [HF.out] at hz
    subst hz
    have F47 := Lib.hid (F40d.out.keep hb)
    clear F40d
    have F48 := Lib.hid (F41.out.keep hb)
    clear F41
    have C49 := Lib.hid (show Below B w x46 from C45.out.trans (hb.mono (Nat.le_trans HB.out C45.out.size)))
    clear C45
    clear hb
    go_wp2_with fail
    refine (Fresh_any Bk b25 (newD k S) O25 x46 F48.out).mono ?_
    rintro z x50 ⟨hz, hb⟩
    rw [HF.out] at hz
    subst hz
    have F51 := Lib.hid (F47.out.keep hb)
    clear F47
    have F52 := Lib.hid (F48.out.keep hb)
    clear F48
    have C53 := Lib.hid (show Below B w x50 from C49.out.trans (hb.mono (Nat.le_trans HB.out C49.out.size)))
    clear C49
    clear hb
    go_wp2_with fail
    have LTd := Lib.hid (show ∀ j, O40 j → j < x50.heap.size from fun j h => (F51.out.lt j h).2)
    have LTo := Lib.hid (show ∀ j, O25 j → j < x50.heap.size from fun j h => (F52.out.lt j h).2)
    have XTd := Lib.hid F51.out.xlt
    have XNd := Lib.hid F51.out.xoff
    have XTo := Lib.hid F52.out.xlt
    have XNo := Lib.hid F52.out.xoff
    refine (look_row Bk B b21 (newD k S) O40 x50 (Nat.le_trans HB.out C53.out.size) F51.out).mono ?_
    rintro z x54 ⟨⟨v54, rfl, hv⟩, hb⟩
    have F54r := Lib.hid hv
    have F55 := Lib.hid (F51.out.keep hb)
    clear F51
    have F56 := Lib.hid (F52.out.keep hb)
    clear F52
    have C57 := Lib.hid (show Below B w x54 from C53.out.trans (hb.mono (Nat.le_trans HB.out C53.out.size)))
    clear C53
    have A58 := Lib.hid (show ∀ j, PB v54 j → ¬ O40 j from fun j h1 h2 => by have e1 := (fun j h => (hv.lt j h).1) j h1; have e2 := LTd.out j h2; omega)
    have A59 := Lib.hid (show ∀ j, PB v54 j → ¬ O25 j from fun j h1 h2 => by have e1 := (fun j h => (hv.lt j h).1) j h1; have e2 := LTo.out j h2; omega)
    clear hv hb
    clear LTd LTo XTd XNd XTo XNo
    go_wp2_with fail
    have LTd := Lib.hid (show ∀ j, O40 j → j < x54.heap.size from fun j h => (F55.out.lt j h).2)
    have LTo := Lib.hid (show ∀ j, O25 j → j < x54.heap.size from fun j h => (F56.out.lt j h).2)
    have LTp := Lib.hid (show ∀ j, PB v54 j → j < x54.heap.size from fun j h => (F54r.out.lt j h).2)
    have XTd := Lib.hid F55.out.xlt
    have XNd := Lib.hid F55.out.xoff
    have XTo := Lib.hid F56.out.xlt
    have XNo := Lib.hid F56.out.xoff
    refine (look_row Bk B b25 (newD k S) O25 x54 (Nat.le_trans HB.out C57.out.size) F56.out).mono ?_
    rintro z x60 ⟨⟨v60, rfl, hv⟩, hb⟩
    have F60r := Lib.hid hv
    have F61 := Lib.hid (F55.out.keep hb)
    clear F55
    have F62 := Lib.hid (F56.out.keep hb)
    clear F56
    have F63 := Lib.hid (Orow.own_keep F54r.out hb)
    clear F54r
    have C64 := Lib.hid (show Below B w x60 from C57.out.trans (hb.mono (Nat.le_trans HB.out C57.out.size)))
    clear C57
    have A65 := Lib.hid (show ∀ j, PB v60 j → ¬ O40 j from fun j h1 h2 => by have e1 := (fun j h => (hv.lt j h).1) j h1; have e2 := LTd.out j h2; omega)
    have A66 := Lib.hid (show ∀ j, PB v60 j → ¬ O25 j from fun j h1 h2 => by have e1 := (fun j h => (hv.lt j h).1) j h1; have e2 := LTo.out j h2; omega)
    have A67 := Lib.hid (show ∀ j, PB v60 j → ¬ PB v54 j from fun j h1 h2 => by have e1 := (fun j h => (hv.lt j h).1) j h1; have e2 := LTp.out j h2; omega)
    clear hv hb
    clear LTd LTo LTp XTd XNd XTo XNo
    go_wp2_with fail
    refine (same_limbs F63.out F60r.out (by have := (look_len F61.out.ok).2; omega)).mono ?_
    rintro z x68 ⟨rfl, hb⟩
    have F69 := Lib.hid (F61.out.keep hb)
    clear F61
    have F70 := Lib.hid (F62.out.keep hb)
    clear F62
    have F71 := Lib.hid (Orow.own_keep F63.out hb)
    clear F63
    have F72 := Lib.hid (Orow.own_keep F60r.out hb)
    clear F60r
    have C73 := Lib.hid (show Below B w x68 from C64.out.trans (hb.mono (Nat.le_trans HB.out C64.out.size)))
    clear C64
    clear hb
    clear F71 F72
    go_wp2_with fail
    have LTd := Lib.hid (show ∀ j, O40 j → j < x68.heap.size from fun j h => (F69.out.lt j h).2)
    have LTo := Lib.hid (show ∀ j, O25 j → j < x68.heap.size from fun j h => (F70.out.lt j h).2)
    have XTd := Lib.hid F69.out.xlt
    have XNd := Lib.hid F69.out.xoff
    have XTo := Lib.hid F70.out.xlt
    have XNo := Lib.hid F70.out.xoff
    refine (run_any Bk B b21 (newD k S) O40 a2 len2 cap2 l2 w x68 H2.out HBw.out C73.out HO44.out HBk.out h2 F69.out).mono ?_
    rintro z x74 ⟨v74, n74, O74, rfl, hS⟩
    have e := hS.len
    subst e
    have hk2 := hS.only
    have hk3 := hS.own
    have hr := hS.row
    have F74d := Lib.hid hS.dev
    have F74r := Lib.hid hS.row
    have A74a := Lib.hid hS.ap
    have N74 := Lib.hid hS.few
    have F75 := Lib.hid (F70.out.only hk2 A42.out (fun j hj => Nat.le_trans HBk.out (HO44.out j hj)) XA43.out)
    clear F70
    have A76 := Lib.hid (show ∀ j, O25 j → ¬ O74 j from fun j h1 h2 => (hk3 j h2).elim (fun e => A42.out j h1 e) (fun e => by have := LTo.out j h1; omega))
    clear A42
    have XA77 := Lib.hid (show ∀ j, X25 j → ¬ O74 j from fun j h1 h2 => (hk3 j h2).elim (fun e => XA43.out j h1 e) (fun e => by have := XTo.out j h1; omega))
    clear XA43
    have HO78 := Lib.hid (show ∀ j, O74 j → B ≤ j from fun j hj => (hk3 j hj).elim (HO44.out j) (fun e => Nat.le_trans (Nat.le_trans HB.out C73.out.size) e))
    have C79 := Lib.hid (show Below B w x74 from C73.out.trans (hk2.below (Nat.le_trans HB.out C73.out.size) HO44.out))
    clear C73 HO44 F69
    have A80 := Lib.hid (show ∀ j, PB v74 j → ¬ O25 j from fun j h1 h2 => by have e1 := (fun j h => (hr.lt j h).1) j h1; have e2 := LTo.out j h2; omega)
    clear hS hk2 hk3 hr
    clear LTd LTo XTd XNd XTo XNo
    go_wp2_with fail
    have LTd := Lib.hid (show ∀ j, O74 j → j < x74.heap.size from fun j h => (F74d.out.lt j h).2)
    have LTo := Lib.hid (show ∀ j, O25 j → j < x74.heap.size from fun j h => (F75.out.lt j h).2)
    have LTp := Lib.hid (show ∀ j, PB v74 j → j < x74.heap.size from fun j h => (F74r.out.lt j h).2)
    have XTd := Lib.hid F74d.out.xlt
    have XNd := Lib.hid F74d.out.xoff
    have XTo := Lib.hid F75.out.xlt
    have XNo := Lib.hid F75.out.xoff
    refine (run_any Bk B b25 (newD k S) O25 a2 len2 cap2 l2 w x74 H2.out HBw.out C79.out HO25.out HBk.out h2 F75.out).mono ?_
    rintro z x81 ⟨v81, n81, O81, rfl, hS⟩
    have e := hS.len
    subst e
    have hk2 := hS.only
    have hk3 := hS.own
    have hr := hS.row
    have F81d := Lib.hid hS.dev
    have F81r := Lib.hid hS.row
    have A81a := Lib.hid hS.ap
    have N81 := Lib.hid hS.few
    have F82 := Lib.hid (F74d.out.only hk2 (fun j h1 h2 => A76.out j h2 h1) (fun j hj => Nat.le_trans HBk.out (HO25.out j hj)) XA31.out)
    clear F74d
    have A83 := Lib.hid (show ∀ j, O74 j → ¬ O81 j from fun j h1 h2 => (hk3 j h2).elim (fun e => (fun j h1 h2 => A76.out j h2 h1) j h1 e) (fun e => by have := LTd.out j h1; omega))
    clear A76
    have XA84 := Lib.hid (show ∀ j, X21 j → ¬ O81 j from fun j h1 h2 => (hk3 j h2).elim (fun e => XA31.out j h1 e) (fun e => by have := XTd.out j h1; omega))
    clear XA31
    have F85 := Lib.hid (row_only F74r.out hk2 A80.out)
    clear F74r
    have A86 := Lib.hid (show ∀ j, PB v74 j → ¬ O81 j from fun j h1 h2 => (hk3 j h2).elim (fun e => A80.out j h1 e) (fun e => by have := LTp.out j h1; omega))
    clear A80
    have HO87 := Lib.hid (show ∀ j, O81 j → B ≤ j from fun j hj => (hk3 j hj).elim (HO25.out j) (fun e => Nat.le_trans (Nat.le_trans HB.out C79.out.size) e))
    have C88 := Lib.hid (show Below B w x81 from C79.out.trans (hk2.below (Nat.le_trans HB.out C79.out.size) HO25.out))
    clear C79 HO25 F75
    have A89 := Lib.hid (show ∀ j, PB v81 j → ¬ O74 j from fun j h1 h2 => by have e1 := (fun j h => (hr.lt j h).1) j h1; have e2 := LTd.out j h2; omega)
    have A90 := Lib.hid (show ∀ j, PB v81 j → ¬ PB v74 j from fun j h1 h2 => by have e1 := (fun j h => (hr.lt j h).1) j h1; have e2 := LTp.out j h2; omega)
    clear hS hk2 hk3 hr
    clear LTd LTo LTp XTd XNd XTo XNo
    go_wp2_with fail
    refine (same_limbs F85.out F81r.out (by have := N74.out; omega)).mono ?_
    rintro z x91 ⟨rfl, hb⟩
    have F92 := Lib.hid (F82.out.keep hb)
    clear F82
    have F93 := Lib.hid (F81d.out.keep hb)
    clear F81d
    have F94 := Lib.hid (Orow.own_keep F85.out hb)
    clear F85
    have F95 := Lib.hid (Orow.own_keep F81r.out hb)
    clear F81r
    have C96 := Lib.hid (show Below B w x91 from C88.out.trans (hb.mono (Nat.le_trans HB.out C88.out.size)))
    clear C88
    clear hb
    go_wp2_with fail
    go_ret
    exact ⟨rfl, C96.out⟩
set_option maxRecDepth 100000 in
set_option maxHeartbeats 16000000 in
theorem apart_walk (Bk : Nat) (k Bv S o l : Int) (a1 : Option Addr) (len1 cap1 : Nat) (l1 : List Dd) (a2 : Option Addr) (len2 cap2 : Nat) (l2 : List Dd) (w : World) (hL : Laid w Bk) (hBk0 : Bk ≤ w.heap.size) (hk : I64 k) (hBv : 0 ≤ Bv ∧ Bv < 4294967296) (hS : I64 S) (ho : I64 o) (hl : I64 l) (h1 : RowDd w a1 len1 l1) (h2 : RowDd w a2 len2 l2) :
    Calls Tryz.prog 5 #[devA k Bv S o l, .slice a1 len1 cap1, .slice a2 len2 cap2] w fun z w' => z = .returned (.bool true) ∧ Below w.heap.size w w' := by
  obtain ⟨B, hBe⟩ : ∃ B, w.heap.size = B := ⟨_, rfl⟩
  rw [hBe] at hBk0 ⊢
  have HBw := Lib.hid hBe
  have HB := Lib.hid (show B ≤ w.heap.size by omega)
  have HBk := Lib.hid hBk0
  have HLd := Lib.hid hL
  have HV := Lib.hid (show I64 k ∧ (0 ≤ Bv ∧ Bv < 4294967296) ∧ I64 S ∧ I64 o ∧ I64 l from ⟨hk, hBv, hS, ho, hl⟩)
  have H1 := Lib.hid h1
  have H2 := Lib.hid h2
  clear hBe hBk0 hL hk hBv hS ho hl h1 h2
  go_enter Tryz.func5, Tryz.ntmps5
  go_wp2_with fail
  refine calls_letter' ?_
  intro x0 hx
  have C0 := Lib.hid (show Below B w x0 from by rw [hx.out]; exact (Below.refl _ _).alloc HB.out _)
  have FX := Lib.hid (show Blk x0 B 25 [.int .i64 k, .int .u32 Bv, .int .i64 S, .int .i64 o, .int .i64 l] from by rw [hx.out, ← HBw.out]; exact Blk.new w _ _)
  clear hx
  refine (awake_any Bk x0.heap.size x0 (HLd.out.keep (C0.out.mono HBk.out)) (Nat.le_trans HBk.out (Nat.le_trans HB.out C0.out.size)) (Nat.le_refl _)).mono ?_
  rintro z x1 ⟨rfl, hb⟩
  have C1 := Lib.hid (C0.out.trans (hb.mono (Nat.le_trans HB.out C0.out.size)))
  have FX1 := Lib.hid (FX.out.keep hb)
  clear hb FX C0
  have e0 := FX1.out.at 0 rfl
  have e1 := FX1.out.at 1 rfl
  have e2 := FX1.out.at 2 rfl
  have e3 := FX1.out.at 3 rfl
  have e4 := FX1.out.at 4 rfl
  rw [← HBw.out] at e0 e1 e2 e3 e4
  cases hv : devV k Bv S o l with
  | false =>
    go_wp2_with fail
    refine (New_no k Bv S o l x1 HV.out.1 HV.out.2.1 HV.out.2.2.1 HV.out.2.2.2.1 HV.out.2.2.2.2 hv).mono ?_
    rintro z x21 ⟨rfl, hb⟩
    have F22 := Lib.hid (FX1.out.keep hb)
    clear FX1
    have C23 := Lib.hid (show Below B w x21 from C1.out.trans (hb.mono (Nat.le_trans HB.out C1.out.size)))
    clear C1
    clear hb
    go_wp2_with fail
    go_ret
    exact ⟨rfl, C23.out⟩
  | true =>
    obtain ⟨hk6, -⟩ := dev_parts hv
    have HZ := Lib.hid (zero_newD (S := S) hk6)
    clear hk6
    go_wp2_with fail
    have LTx := Lib.hid (show ∀ j, Eq B j → j < x1.heap.size from fun j h => h ▸ FX1.out.lt)
    refine (New_yes Bk k Bv S o l x1 HV.out.2.1 (HLd.out.keep (C1.out.mono HBk.out)) (Nat.le_trans HBk.out (Nat.le_trans HB.out C1.out.size)) hv).mono ?_
    rintro z x21 ⟨⟨b21, O21, X21, rfl, hd, hn, hx⟩, hb⟩
    have F21d := Lib.hid hd
    have HO21 := Lib.hid (show ∀ j, O21 j → B ≤ j from fun j hj => Nat.le_trans (Nat.le_trans HB.out C1.out.size) (hn j hj))
    have F22 := Lib.hid (FX1.out.keep hb)
    clear FX1
    have C23 := Lib.hid (show Below B w x21 from C1.out.trans (hb.mono (Nat.le_trans HB.out C1.out.size)))
    clear C1
    have A24 := Lib.hid (show ∀ j, O21 j → ¬ Eq B j from fun j h1 h2 => by have e1 := hn j h1; have e2 := LTx.out j h2; omega)
    clear hd hn hx hb
    clear LTx 
    clear e0 e1 e2 e3 e4
    clear F22
    by_cases h1 : len1 ≤ 120
    rotate_left
    · have d1 : decide ((120 : Int) < (len1 : Int)) = true := decide_eq_true (by omega)
      go_wp2_with fail
      go_ret
      exact ⟨rfl, C23.out⟩
    have d1 : decide ((120 : Int) < (len1 : Int)) = false := decide_eq_false (by omega)
    by_cases h2 : len2 ≤ 120
    rotate_left
    · have d2 : decide ((120 : Int) < (len2 : Int)) = true := decide_eq_true (by omega)
      go_wp2_with fail
      go_ret
      exact ⟨rfl, C23.out⟩
    have d2 : decide ((120 : Int) < (len2 : Int)) = false := decide_eq_false (by omega)
    go_wp2_with fail
    have LTd := Lib.hid (show ∀ j, O21 j → j < x21.heap.size from fun j h => (F21d.out.lt j h).2)
    have XTd := Lib.hid F21d.out.xlt
    have XNd := Lib.hid F21d.out.xoff
    refine (run_any Bk B b21 (newD k S) O21 a1 len1 cap1 l1 w x21 H1.out HBw.out C23.out HO21.out HBk.out h1 F21d.out).mono ?_
    rintro z x25 ⟨v25, n25, O25, rfl, hS⟩
    have e := hS.len
    subst e
    have hk2 := hS.only
    have hk3 := hS.own
    have hr := hS.row
    have F25d := Lib.hid hS.dev
    have F25r := Lib.hid hS.row
    have A25a := Lib.hid hS.ap
    have N25 := Lib.hid hS.few
    have HO26 := Lib.hid (show ∀ j, O25 j → B ≤ j from fun j hj => (hk3 j hj).elim (HO21.out j) (fun e => Nat.le_trans (Nat.le_trans HB.out C23.out.size) e))
    have C27 := Lib.hid (show Below B w x25 from C23.out.trans (hk2.below (Nat.le_trans HB.out C23.out.size) HO21.out))
    clear C23 HO21 F21d
    clear hS hk2 hk3 hr
    clear LTd XTd XNd
    clear F25r
    obtain ⟨E, hE⟩ : ∃ E, (runV (newD k S) l1).2 = E := ⟨_, rfl⟩
    have HZ2 := Lib.hid (show zeroD E = newD k S from by rw [← hE, runV_zero, HZ.out])
    have F28 := Lib.hid (show Dev Bk x25 b21 E O25 X21 from by have := F25d.out; rw [hE] at this; exact this)
    clear F25d
    clear hE
    go_wp2_with fail
    have LTd := Lib.hid (show ∀ j, O25 j → j < x25.heap.size from fun j h => (F28.out.lt j h).2)
    have XTd := Lib.hid F28.out.xlt
    have XNd := Lib.hid F28.out.xoff
    refine (look_row Bk B b21 E O25 x25 (Nat.le_trans HB.out C27.out.size) F28.out).mono ?_
    rintro z x29 ⟨⟨v29, rfl, hv⟩, hb⟩
    have F29r := Lib.hid hv
    have F30 := Lib.hid (F28.out.keep hb)
    clear F28
    have C31 := Lib.hid (show Below B w x29 from C27.out.trans (hb.mono (Nat.le_trans HB.out C27.out.size)))
    clear C27
    have A32 := Lib.hid (show ∀ j, PB v29 j → ¬ O25 j from fun j h1 h2 => by have e1 := (fun j h => (hv.lt j h).1) j h1; have e2 := LTd.out j h2; omega)
    clear hv hb
    clear LTd XTd XNd
    go_wp2_with fail
    have LTd := Lib.hid (show ∀ j, O25 j → j < x29.heap.size from fun j h => (F30.out.lt j h).2)
    have LTwas := Lib.hid (show ∀ j, PB v29 j → j < x29.heap.size from fun j h => (F29r.out.lt j h).2)
    have XTd := Lib.hid F30.out.xlt
    have XNd := Lib.hid F30.out.xoff
    refine (Copy_any Bk b21 E O25 x29 F30.out).mono ?_
    rintro z x33 ⟨⟨b33, O33, rfl, hd, hn⟩, hb⟩
    have F33d := Lib.hid hd
    have HO33 := Lib.hid (show ∀ j, O33 j → B ≤ j from fun j hj => Nat.le_trans (Nat.le_trans HB.out C31.out.size) (hn j hj))
    have F34 := Lib.hid (F30.out.keep hb)
    clear F30
    have F35 := Lib.hid (Orow.own_keep F29r.out hb)
    clear F29r
    have C36 := Lib.hid (show Below B w x33 from C31.out.trans (hb.mono (Nat.le_trans HB.out C31.out.size)))
    clear C31
    have A37 := Lib.hid (show ∀ j, O33 j → ¬ O25 j from fun j h1 h2 => by have e1 := hn j h1; have e2 := LTd.out j h2; omega)
    have XA38 := Lib.hid (show ∀ j, X21 j → ¬ O33 j from fun j h1 h2 => by have e1 := hn j h2; have e2 := XTd.out j h1; omega)
    have XA39 := Lib.hid (show ∀ j, X21 j → ¬ O25 j from XNd.out)
    have A40 := Lib.hid (show ∀ j, O33 j → ¬ PB v29 j from fun j h1 h2 => by have e1 := hn j h1; have e2 := LTwas.out j h2; omega)
    clear hd hn hb
    clear LTd LTwas XTd XNd
    go_wp2_with fail
    have LTd := Lib.hid (show ∀ j, O25 j → j < x33.heap.size from fun j h => (F34.out.lt j h).2)
    have LTwas := Lib.hid (show ∀ j, PB v29 j → j < x33.heap.size from fun j h => (F35.out.lt j h).2)
    have LTc := Lib.hid (show ∀ j, O33 j → j < x33.heap.size from fun j h => (F33d.out.lt j h).2)
    have XTd := Lib.hid F34.out.xlt
    have XNd := Lib.hid F34.out.xoff
    have XTc := Lib.hid F33d.out.xlt
    have XNc := Lib.hid F33d.out.xoff
    refine (Copy_any Bk b21 E O25 x33 F34.out).mono ?_
    rintro z x41 ⟨⟨b41, O41, rfl, hd, hn⟩, hb⟩
    have F41d := Lib.hid hd
    have HO41 := Lib.hid (show ∀ j, O41 j → B ≤ j from fun j hj => Nat.le_trans (Nat.le_trans HB.out C36.out.size) (hn j hj))
    have F42 := Lib.hid (F34.out.keep hb)
    clear F34
    have F43 := Lib.hid (Orow.own_keep F35.out hb)
    clear F35
    have F44 := Lib.hid (F33d.out.keep hb)
    clear F33d
    have C45 := Lib.hid (show Below B w x41 from C36.out.trans (hb.mono (Nat.le_trans HB.out C36.out.size)))
    clear C36
    have A46 := Lib.hid (show ∀ j, O41 j → ¬ O25 j from fun j h1 h2 => by have e1 := hn j h1; have e2 := LTd.out j h2; omega)
    have XA47 := Lib.hid (show ∀ j, X21 j → ¬ O41 j from fun j h1 h2 => by have e1 := hn j h2; have e2 := XTd.out j h1; omega)
    have XA48 := Lib.hid (show ∀ j, X21 j → ¬ O25 j from XNd.out)
    have A49 := Lib.hid (show ∀ j, O41 j → ¬ PB v29 j from fun j h1 h2 => by have e1 := hn j h1; have e2 := LTwas.out j h2; omega)
    have A50 := Lib.hid (show ∀ j, O41 j → ¬ O33 j from fun j h1 h2 => by have e1 := hn j h1; have e2 := LTc.out j h2; omega)
    have XA51 := Lib.hid (show ∀ j, X21 j → ¬ O41 j from fun j h1 h2 => by have e1 := hn j h2; have e2 := XTc.out j h1; omega)
    have XA52 := Lib.hid XA38.out
    clear hd hn hb
    clear LTd LTwas LTc XTd XNd XTc XNc
    go_wp2_with fail
    have LTd := Lib.hid (show ∀ j, O25 j → j < x41.heap.size from fun j h => (F42.out.lt j h).2)
    have LTwas := Lib.hid (show ∀ j, PB v29 j → j < x41.heap.size from fun j h => (F43.out.lt j h).2)
    have LTc := Lib.hid (show ∀ j, O33 j → j < x41.heap.size from fun j h => (F44.out.lt j h).2)
    have LTo := Lib.hid (show ∀ j, O41 j → j < x41.heap.size from fun j h => (F41d.out.lt j h).2)
    have XTd := Lib.hid F42.out.xlt
    have XNd := Lib.hid F42.out.xoff
    have XTc := Lib.hid F44.out.xlt
    have XNc := Lib.hid F44.out.xoff
    have XTo := Lib.hid F41d.out.xlt
    have XNo := Lib.hid F41d.out.xoff
    refine (run_any Bk B b21 E O25 a2 len2 cap2 l2 w x41 H2.out HBw.out C45.out HO26.out HBk.out h2 F42.out).mono ?_
    rintro z x53 ⟨v53, n53, O53, rfl, hS⟩
    have e := hS.len
    subst e
    have hk2 := hS.only
    have hk3 := hS.own
    have hr := hS.row
    have F53d := Lib.hid hS.dev
    have F53r := Lib.hid hS.row
    have A53a := Lib.hid hS.ap
    have N53 := Lib.hid hS.few
    have F54 := Lib.hid (row_only F43.out hk2 A32.out)
    clear F43
    have A55 := Lib.hid (show ∀ j, PB v29 j → ¬ O53 j from fun j h1 h2 => (hk3 j h2).elim (fun e => A32.out j h1 e) (fun e => by have := LTwas.out j h1; omega))
    clear A32
    have F56 := Lib.hid (F44.out.only hk2 A37.out (fun j hj => Nat.le_trans HBk.out (HO26.out j hj)) XA39.out)
    clear F44
    have A57 := Lib.hid (show ∀ j, O33 j → ¬ O53 j from fun j h1 h2 => (hk3 j h2).elim (fun e => A37.out j h1 e) (fun e => by have := LTc.out j h1; omega))
    clear A37
    have XA58 := Lib.hid (show ∀ j, X21 j → ¬ O53 j from fun j h1 h2 => (hk3 j h2).elim (fun e => XA39.out j h1 e) (fun e => by have := XTc.out j h1; omega))
    clear XA39
    have F59 := Lib.hid (F41d.out.only hk2 A46.out (fun j hj => Nat.le_trans HBk.out (HO26.out j hj)) XA48.out)
    clear F41d
    have A60 := Lib.hid (show ∀ j, O41 j → ¬ O53 j from fun j h1 h2 => (hk3 j h2).elim (fun e => A46.out j h1 e) (fun e => by have := LTo.out j h1; omega))
    clear A46
    have XA61 := Lib.hid (show ∀ j, X21 j → ¬ O53 j from fun j h1 h2 => (hk3 j h2).elim (fun e => XA48.out j h1 e) (fun e => by have := XTo.out j h1; omega))
    clear XA48
    have HO62 := Lib.hid (show ∀ j, O53 j → B ≤ j from fun j hj => (hk3 j hj).elim (HO26.out j) (fun e => Nat.le_trans (Nat.le_trans HB.out C45.out.size) e))
    have C63 := Lib.hid (show Below B w x53 from C45.out.trans (hk2.below (Nat.le_trans HB.out C45.out.size) HO26.out))
    clear C45 HO26 F42
    have A64 := Lib.hid (show ∀ j, PB v53 j → ¬ PB v29 j from fun j h1 h2 => by have e1 := (fun j h => (hr.lt j h).1) j h1; have e2 := LTwas.out j h2; omega)
    have A65 := Lib.hid (show ∀ j, PB v53 j → ¬ O33 j from fun j h1 h2 => by have e1 := (fun j h => (hr.lt j h).1) j h1; have e2 := LTc.out j h2; omega)
    have A66 := Lib.hid (show ∀ j, PB v53 j → ¬ O41 j from fun j h1 h2 => by have e1 := (fun j h => (hr.lt j h).1) j h1; have e2 := LTo.out j h2; omega)
    clear hS hk2 hk3 hr
    clear LTd LTwas LTc LTo XTd XNd XTc XNc XTo XNo
    go_wp2_with fail
    have LTd := Lib.hid (show ∀ j, O53 j → j < x53.heap.size from fun j h => (F53d.out.lt j h).2)
    have LTwas := Lib.hid (show ∀ j, PB v29 j → j < x53.heap.size from fun j h => (F54.out.lt j h).2)
    have LTc := Lib.hid (show ∀ j, O33 j → j < x53.heap.size from fun j h => (F56.out.lt j h).2)
    have LTo := Lib.hid (show ∀ j, O41 j → j < x53.heap.size from fun j h => (F59.out.lt j h).2)
    have LTa := Lib.hid (show ∀ j, PB v53 j → j < x53.heap.size from fun j h => (F53r.out.lt j h).2)
    have XTd := Lib.hid F53d.out.xlt
    have XNd := Lib.hid F53d.out.xoff
    have XTc := Lib.hid F56.out.xlt
    have XNc := Lib.hid F56.out.xoff
    have XTo := Lib.hid F59.out.xlt
    have XNo := Lib.hid F59.out.xoff
    refine (look_row Bk B b33 E O33 x53 (Nat.le_trans HB.out C63.out.size) F56.out).mono ?_
    rintro z x67 ⟨⟨v67, rfl, hv⟩, hb⟩
    have F67r := Lib.hid hv
    have F68 := Lib.hid (F53d.out.keep hb)
    clear F53d
    have F69 := Lib.hid (Orow.own_keep F54.out hb)
    clear F54
    have F70 := Lib.hid (F56.out.keep hb)
    clear F56
    have F71 := Lib.hid (F59.out.keep hb)
    clear F59
    have F72 := Lib.hid (Orow.own_keep F53r.out hb)
    clear F53r
    have C73 := Lib.hid (show Below B w x67 from C63.out.trans (hb.mono (Nat.le_trans HB.out C63.out.size)))
    clear C63
    have A74 := Lib.hid (show ∀ j, PB v67 j → ¬ O53 j from fun j h1 h2 => by have e1 := (fun j h => (hv.lt j h).1) j h1; have e2 := LTd.out j h2; omega)
    have A75 := Lib.hid (show ∀ j, PB v67 j → ¬ PB v29 j from fun j h1 h2 => by have e1 := (fun j h => (hv.lt j h).1) j h1; have e2 := LTwas.out j h2; omega)
    have A76 := Lib.hid (show ∀ j, PB v67 j → ¬ O33 j from fun j h1 h2 => by have e1 := (fun j h => (hv.lt j h).1) j h1; have e2 := LTc.out j h2; omega)
    have A77 := Lib.hid (show ∀ j, PB v67 j → ¬ O41 j from fun j h1 h2 => by have e1 := (fun j h => (hv.lt j h).1) j h1; have e2 := LTo.out j h2; omega)
    have A78 := Lib.hid (show ∀ j, PB v67 j → ¬ PB v53 j from fun j h1 h2 => by have e1 := (fun j h => (hv.lt j h).1) j h1; have e2 := LTa.out j h2; omega)
    clear hv hb
    clear LTd LTwas LTc LTo LTa XTd XNd XTc XNc XTo XNo
    go_wp2_with fail
    refine (same_limbs F67r.out F69.out (by have := (look_len F70.out.ok).2; omega)).mono ?_
    rintro z x79 ⟨rfl, hb⟩
    have F80 := Lib.hid (F68.out.keep hb)
    clear F68
    have F81 := Lib.hid (Orow.own_keep F69.out hb)
    clear F69
    have F82 := Lib.hid (F70.out.keep hb)
    clear F70
    have F83 := Lib.hid (F71.out.keep hb)
    clear F71
    have F84 := Lib.hid (Orow.own_keep F72.out hb)
    clear F72
    have F85 := Lib.hid (Orow.own_keep F67r.out hb)
    clear F67r
    have C86 := Lib.hid (show Below B w x79 from C73.out.trans (hb.mono (Nat.le_trans HB.out C73.out.size)))
    clear C73
    clear hb
    clear F85
    go_wp2_with fail
    have LTd := Lib.hid (show ∀ j, O53 j → j < x79.heap.size from fun j h => (F80.out.lt j h).2)
    have LTwas := Lib.hid (show ∀ j, PB v29 j → j < x79.heap.size from fun j h => (F81.out.lt j h).2)
    have LTc := Lib.hid (show ∀ j, O33 j → j < x79.heap.size from fun j h => (F82.out.lt j h).2)
    have LTo := Lib.hid (show ∀ j, O41 j → j < x79.heap.size from fun j h => (F83.out.lt j h).2)
    have LTa := Lib.hid (show ∀ j, PB v53 j → j < x79.heap.size from fun j h => (F84.out.lt j h).2)
    have XTd := Lib.hid F80.out.xlt
    have XNd := Lib.hid F80.out.xoff
    have XTc := Lib.hid F82.out.xlt
    have XNc := Lib.hid F82.out.xoff
    have XTo := Lib.hid F83.out.xlt
    have XNo := Lib.hid F83.out.xoff
    refine (look_row Bk B b41 E O41 x79 (Nat.le_trans HB.out C86.out.size) F83.out).mono ?_
    rintro z x87 ⟨⟨v87, rfl, hv⟩, hb⟩
    have F87r := Lib.hid hv
    have F88 := Lib.hid (F80.out.keep hb)
    clear F80
    have F89 := Lib.hid (Orow.own_keep F81.out hb)
    clear F81
    have F90 := Lib.hid (F82.out.keep hb)
    clear F82
    have F91 := Lib.hid (F83.out.keep hb)
    clear F83
    have F92 := Lib.hid (Orow.own_keep F84.out hb)
    clear F84
    have C93 := Lib.hid (show Below B w x87 from C86.out.trans (hb.mono (Nat.le_trans HB.out C86.out.size)))
    clear C86
    have A94 := Lib.hid (show ∀ j, PB v87 j → ¬ O53 j from fun j h1 h2 => by have e1 := (fun j h => (hv.lt j h).1) j h1; have e2 := LTd.out j h2; omega)
    have A95 := Lib.hid (show ∀ j, PB v87 j → ¬ PB v29 j from fun j h1 h2 => by have e1 := (fun j h => (hv.lt j h).1) j h1; have e2 := LTwas.out j h2; omega)
    have A96 := Lib.hid (show ∀ j, PB v87 j → ¬ O33 j from fun j h1 h2 => by have e1 := (fun j h => (hv.lt j h).1) j h1; have e2 := LTc.out j h2; omega)
    have A97 := Lib.hid (show ∀ j, PB v87 j → ¬ O41 j from fun j h1 h2 => by have e1 := (fun j h => (hv.lt j h).1) j h1; have e2 := LTo.out j h2; omega)
    have A98 := Lib.hid (show ∀ j, PB v87 j → ¬ PB v53 j from fun j h1 h2 => by have e1 := (fun j h => (hv.lt j h).1) j h1; have e2 := LTa.out j h2; omega)
    clear hv hb
    clear LTd LTwas LTc LTo LTa XTd XNd XTc XNc XTo XNo
    go_wp2_with fail
    refine (same_limbs F87r.out F89.out (by have := (look_len F91.out.ok).2; omega)).mono ?_
    rintro z x99 ⟨rfl, hb⟩
    have F100 := Lib.hid (F88.out.keep hb)
    clear F88
    have F101 := Lib.hid (Orow.own_keep F89.out hb)
    clear F89
    have F102 := Lib.hid (F90.out.keep hb)
    clear F90
    have F103 := Lib.hid (F91.out.keep hb)
    clear F91
    have F104 := Lib.hid (Orow.own_keep F92.out hb)
    clear F92
    have F105 := Lib.hid (Orow.own_keep F87r.out hb)
    clear F87r
    have C106 := Lib.hid (show Below B w x99 from C93.out.trans (hb.mono (Nat.le_trans HB.out C93.out.size)))
    clear C93
    clear hb
    clear F105
    go_wp2_with fail
    have LTd := Lib.hid (show ∀ j, O53 j → j < x99.heap.size from fun j h => (F100.out.lt j h).2)
    have LTwas := Lib.hid (show ∀ j, PB v29 j → j < x99.heap.size from fun j h => (F101.out.lt j h).2)
    have LTc := Lib.hid (show ∀ j, O33 j → j < x99.heap.size from fun j h => (F102.out.lt j h).2)
    have LTo := Lib.hid (show ∀ j, O41 j → j < x99.heap.size from fun j h => (F103.out.lt j h).2)
    have LTa := Lib.hid (show ∀ j, PB v53 j → j < x99.heap.size from fun j h => (F104.out.lt j h).2)
    have XTd := Lib.hid F100.out.xlt
    have XNd := Lib.hid F100.out.xoff
    have XTc := Lib.hid F102.out.xlt
    have XNc := Lib.hid F102.out.xoff
    have XTo := Lib.hid F103.out.xlt
    have XNo := Lib.hid F103.out.xoff
    refine (Reset_any Bk b21 (runV E l2).2 O53 x99 F100.out).mono ?_
    rintro z x107 ⟨rfl, O107, k1, k2, k3⟩
    have F107d := Lib.hid (show Dev Bk x107 b21 (newD k S) O107 X21 from by have := k1; rw [runV_zero, HZ2.out] at this; exact this)
    have F108 := Lib.hid (row_only F101.out k2 A55.out)
    clear F101
    have A109 := Lib.hid (show ∀ j, PB v29 j → ¬ O107 j from fun j h1 h2 => (k3 j h2).elim (fun e => A55.out j h1 e) (fun e => by have := LTwas.out j h1; omega))
    clear A55
    have F110 := Lib.hid (F102.out.only k2 A57.out (fun j hj => Nat.le_trans HBk.out (HO62.out j hj)) XA58.out)
    clear F102
    have A111 := Lib.hid (show ∀ j, O33 j → ¬ O107 j from fun j h1 h2 => (k3 j h2).elim (fun e => A57.out j h1 e) (fun e => by have := LTc.out j h1; omega))
    clear A57
    have XA112 := Lib.hid (show ∀ j, X21 j → ¬ O107 j from fun j h1 h2 => (k3 j h2).elim (fun e => XA58.out j h1 e) (fun e => by have := XTc.out j h1; omega))
    clear XA58
    have F113 := Lib.hid (F103.out.only k2 A60.out (fun j hj => Nat.le_trans HBk.out (HO62.out j hj)) XA61.out)
    clear F103
    have A114 := Lib.hid (show ∀ j, O41 j → ¬ O107 j from fun j h1 h2 => (k3 j h2).elim (fun e => A60.out j h1 e) (fun e => by have := LTo.out j h1; omega))
    clear A60
    have XA115 := Lib.hid (show ∀ j, X21 j → ¬ O107 j from fun j h1 h2 => (k3 j h2).elim (fun e => XA61.out j h1 e) (fun e => by have := XTo.out j h1; omega))
    clear XA61
    have F116 := Lib.hid (row_only F104.out k2 A53a.out)
    clear F104
    have A117 := Lib.hid (show ∀ j, PB v53 j → ¬ O107 j from fun j h1 h2 => (k3 j h2).elim (fun e => A53a.out j h1 e) (fun e => by have := LTa.out j h1; omega))
    clear A53a
    have HO118 := Lib.hid (show ∀ j, O107 j → B ≤ j from fun j hj => (k3 j hj).elim (HO62.out j) (fun e => Nat.le_trans (Nat.le_trans HB.out C106.out.size) e))
    have C119 := Lib.hid (show Below B w x107 from C106.out.trans (k2.below (Nat.le_trans HB.out C106.out.size) HO62.out))
    clear C106 HO62 F100
    clear k1 k2 k3
    clear LTd LTwas LTc LTo LTa XTd XNd XTc XNc XTo XNo
    go_wp2_with fail
    have LTd := Lib.hid (show ∀ j, O107 j → j < x107.heap.size from fun j h => (F107d.out.lt j h).2)
    have LTwas := Lib.hid (show ∀ j, PB v29 j → j < x107.heap.size from fun j h => (F108.out.lt j h).2)
    have LTc := Lib.hid (show ∀ j, O33 j → j < x107.heap.size from fun j h => (F110.out.lt j h).2)
    have LTo := Lib.hid (show ∀ j, O41 j → j < x107.heap.size from fun j h => (F113.out.lt j h).2)
    have LTa := Lib.hid (show ∀ j, PB v53 j → j < x107.heap.size from fun j h => (F116.out.lt j h).2)
    have XTd := Lib.hid F107d.out.xlt
    have XNd := Lib.hid F107d.out.xoff
    have XTc := Lib.hid F110.out.xlt
    have XNc := Lib.hid F110.out.xoff
    have XTo := Lib.hid F113.out.xlt
    have XNo := Lib.hid F113.out.xoff
    refine (run_any Bk B b33 E O33 a2 len2 cap2 l2 w x107 H2.out HBw.out C119.out HO33.out HBk.out h2 F110.out).mono ?_
    rintro z x120 ⟨v120, n120, O120, rfl, hS⟩
    have e := hS.len
    subst e
    have hk2 := hS.only
    have hk3 := hS.own
    have hr := hS.row
    have F120d := Lib.hid hS.dev
    have F120r := Lib.hid hS.row
    have A120a := Lib.hid hS.ap
    have N120 := Lib.hid hS.few
    have F121 := Lib.hid (F107d.out.only hk2 (fun j h1 h2 => A111.out j h2 h1) (fun j hj => Nat.le_trans HBk.out (HO33.out j hj)) XA38.out)
    clear F107d
    have A122 := Lib.hid (show ∀ j, O107 j → ¬ O120 j from fun j h1 h2 => (hk3 j h2).elim (fun e => (fun j h1 h2 => A111.out j h2 h1) j h1 e) (fun e => by have := LTd.out j h1; omega))
    clear A111
    have XA123 := Lib.hid (show ∀ j, X21 j → ¬ O120 j from fun j h1 h2 => (hk3 j h2).elim (fun e => XA38.out j h1 e) (fun e => by have := XTd.out j h1; omega))
    clear XA38
    have F124 := Lib.hid (row_only F108.out hk2 (fun j h1 h2 => A40.out j h2 h1))
    clear F108
    have A125 := Lib.hid (show ∀ j, PB v29 j → ¬ O120 j from fun j h1 h2 => (hk3 j h2).elim (fun e => (fun j h1 h2 => A40.out j h2 h1) j h1 e) (fun e => by have := LTwas.out j h1; omega))
    clear A40
    have F126 := Lib.hid (F113.out.only hk2 A50.out (fun j hj => Nat.le_trans HBk.out (HO33.out j hj)) XA52.out)
    clear F113
    have A127 := Lib.hid (show ∀ j, O41 j → ¬ O120 j from fun j h1 h2 => (hk3 j h2).elim (fun e => A50.out j h1 e) (fun e => by have := LTo.out j h1; omega))
    clear A50
    have XA128 := Lib.hid (show ∀ j, X21 j → ¬ O120 j from fun j h1 h2 => (hk3 j h2).elim (fun e => XA52.out j h1 e) (fun e => by have := XTo.out j h1; omega))
    clear XA52
    have F129 := Lib.hid (row_only F116.out hk2 A65.out)
    clear F116
    have A130 := Lib.hid (show ∀ j, PB v53 j → ¬ O120 j from fun j h1 h2 => (hk3 j h2).elim (fun e => A65.out j h1 e) (fun e => by have := LTa.out j h1; omega))
    clear A65
    have HO131 := Lib.hid (show ∀ j, O120 j → B ≤ j from fun j hj => (hk3 j hj).elim (HO33.out j) (fun e => Nat.le_trans (Nat.le_trans HB.out C119.out.size) e))
    have C132 := Lib.hid (show Below B w x120 from C119.out.trans (hk2.below (Nat.le_trans HB.out C119.out.size) HO33.out))
    clear C119 HO33 F110
    have A133 := Lib.hid (show ∀ j, PB v120 j → ¬ O107 j from fun j h1 h2 => by have e1 := (fun j h => (hr.lt j h).1) j h1; have e2 := LTd.out j h2; omega)
    have A134 := Lib.hid (show ∀ j, PB v120 j → ¬ PB v29 j from fun j h1 h2 => by have e1 := (fun j h => (hr.lt j h).1) j h1; have e2 := LTwas.out j h2; omega)
    have A135 := Lib.hid (show ∀ j, PB v120 j → ¬ O41 j from fun j h1 h2 => by have e1 := (fun j h => (hr.lt j h).1) j h1; have e2 := LTo.out j h2; omega)
    have A136 := Lib.hid (show ∀ j, PB v120 j → ¬ PB v53 j from fun j h1 h2 => by have e1 := (fun j h => (hr.lt j h).1) j h1; have e2 := LTa.out j h2; omega)
    clear hS hk2 hk3 hr
    clear LTd LTwas LTc LTo LTa XTd XNd XTc XNc XTo XNo
    go_wp2_with fail
    refine (same_limbs F129.out F120r.out (by have := N53.out; omega)).mono ?_
    rintro z x137 ⟨rfl, hb⟩
    have F138 := Lib.hid (F121.out.keep hb)
    clear F121
    have F139 := Lib.hid (Orow.own_keep F124.out hb)
    clear F124
    have F140 := Lib.hid (F120d.out.keep hb)
    clear F120d
    have F141 := Lib.hid (F126.out.keep hb)
    clear F126
    have F142 := Lib.hid (Orow.own_keep F129.out hb)
    clear F129
    have F143 := Lib.hid (Orow.own_keep F120r.out hb)
    clear F120r
    have C144 := Lib.hid (show Below B w x137 from C132.out.trans (hb.mono (Nat.le_trans HB.out C132.out.size)))
    clear C132
    clear hb
    go_wp2_with fail
    have LTd := Lib.hid (show ∀ j, O107 j → j < x137.heap.size from fun j h => (F138.out.lt j h).2)
    have LTwas := Lib.hid (show ∀ j, PB v29 j → j < x137.heap.size from fun j h => (F139.out.lt j h).2)
    have LTc := Lib.hid (show ∀ j, O120 j → j < x137.heap.size from fun j h => (F140.out.lt j h).2)
    have LTo := Lib.hid (show ∀ j, O41 j → j < x137.heap.size from fun j h => (F141.out.lt j h).2)
    have LTa := Lib.hid (show ∀ j, PB v53 j → j < x137.heap.size from fun j h => (F142.out.lt j h).2)
    have LTb := Lib.hid (show ∀ j, PB v120 j → j < x137.heap.size from fun j h => (F143.out.lt j h).2)
    have XTd := Lib.hid F138.out.xlt
    have XNd := Lib.hid F138.out.xoff
    have XTc := Lib.hid F140.out.xlt
    have XNc := Lib.hid F140.out.xoff
    have XTo := Lib.hid F141.out.xlt
    have XNo := Lib.hid F141.out.xoff
    refine (look_row Bk B b41 E O41 x137 (Nat.le_trans HB.out C144.out.size) F141.out).mono ?_
    rintro z x145 ⟨⟨v145, rfl, hv⟩, hb⟩
    have F145r := Lib.hid hv
    have F146 := Lib.hid (F138.out.keep hb)
    clear F138
    have F147 := Lib.hid (Orow.own_keep F139.out hb)
    clear F139
    have F148 := Lib.hid (F140.out.keep hb)
    clear F140
    have F149 := Lib.hid (F141.out.keep hb)
    clear F141
    have F150 := Lib.hid (Orow.own_keep F142.out hb)
    clear F142
    have F151 := Lib.hid (Orow.own_keep F143.out hb)
    clear F143
    have C152 := Lib.hid (show Below B w x145 from C144.out.trans (hb.mono (Nat.le_trans HB.out C144.out.size)))
    clear C144
    have A153 := Lib.hid (show ∀ j, PB v145 j → ¬ O107 j from fun j h1 h2 => by have e1 := (fun j h => (hv.lt j h).1) j h1; have e2 := LTd.out j h2; omega)
    have A154 := Lib.hid (show ∀ j, PB v145 j → ¬ PB v29 j from fun j h1 h2 => by have e1 := (fun j h => (hv.lt j h).1) j h1; have e2 := LTwas.out j h2; omega)
    have A155 := Lib.hid (show ∀ j, PB v145 j → ¬ O120 j from fun j h1 h2 => by have e1 := (fun j h => (hv.lt j h).1) j h1; have e2 := LTc.out j h2; omega)
    have A156 := Lib.hid (show ∀ j, PB v145 j → ¬ O41 j from fun j h1 h2 => by have e1 := (fun j h => (hv.lt j h).1) j h1; have e2 := LTo.out j h2; omega)
    have A157 := Lib.hid (show ∀ j, PB v145 j → ¬ PB v53 j from fun j h1 h2 => by have e1 := (fun j h => (hv.lt j h).1) j h1; have e2 := LTa.out j h2; omega)
    have A158 := Lib.hid (show ∀ j, PB v145 j → ¬ PB v120 j from fun j h1 h2 => by have e1 := (fun j h => (hv.lt j h).1) j h1; have e2 := LTb.out j h2; omega)
    clear hv hb
    clear LTd LTwas LTc LTo LTa LTb XTd XNd XTc XNc XTo XNo
    go_wp2_with fail
    refine (same_limbs F145r.out F147.out (by have := (look_len F149.out.ok).2; omega)).mono ?_
    rintro z x159 ⟨rfl, hb⟩
    have F160 := Lib.hid (F146.out.keep hb)
    clear F146
    have F161 := Lib.hid (Orow.own_keep F147.out hb)
    clear F147
    have F162 := Lib.hid (F148.out.keep hb)
    clear F148
    have F163 := Lib.hid (F149.out.keep hb)
    clear F149
    have F164 := Lib.hid (Orow.own_keep F150.out hb)
    clear F150
    have F165 := Lib.hid (Orow.own_keep F151.out hb)
    clear F151
    have F166 := Lib.hid (Orow.own_keep F145r.out hb)
    clear F145r
    have C167 := Lib.hid (show Below B w x159 from C152.out.trans (hb.mono (Nat.le_trans HB.out C152.out.size)))
    clear C152
    clear hb
    have HF := Lib.hid (show freshD (newD k S) = true from by rw [← HZ.out]; exact fresh_zero _)
    go_wp2_with fail
    refine (Fresh_any Bk b21 (newD k S) O107 x159 F160.out).mono ?_
    rintro z x168 ⟨hz, hb⟩
    rw [HF.out] at hz
    subst hz
    have F169 := Lib.hid (F160.out.keep hb)
    clear F160
    have F170 := Lib.hid (Orow.own_keep F161.out hb)
    clear F161
    have F171 := Lib.hid (F162.out.keep hb)
    clear F162
    have F172 := Lib.hid (F163.out.keep hb)
    clear F163
    have F173 := Lib.hid (Orow.own_keep F164.out hb)
    clear F164
    have F174 := Lib.hid (Orow.own_keep F165.out hb)
    clear F165
    have F175 := Lib.hid (Orow.own_keep F166.out hb)
    clear F166
    have C176 := Lib.hid (show Below B w x168 from C167.out.trans (hb.mono (Nat.le_trans HB.out C167.out.size)))
    clear C167
    clear hb
    go_wp2_with fail
    go_ret
    exact ⟨rfl, C176.out⟩
end Go.Proofs.YtknhgfofmkpnfaaGreat.Devs
