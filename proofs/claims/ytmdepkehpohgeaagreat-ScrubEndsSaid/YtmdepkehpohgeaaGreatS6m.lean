/- The example. -/
import Derived.Test.YtmdepkehpohgeaaGreatS6g
namespace Go.Proofs.YtmdepkehpohgeaaGreat.Scr
open Go.RowKit Go.Maps Go.ChangeShapes Go.WideShapes Go.ChangeAt Fifo Orow Word
set_option linter.unusedVariables false

theorem pb_of_ba {j n c : Nat} {a : Option Addr} (h : BA a j) : PB (.slice a n c) j := pb_ba h
theorem row_only {S : Nat → Prop} {w w' : World} {B n : Nat} {v : Value} {L : List Value} (h : w.ownsRow B 3 1 v n L) (ho : Only S w w') (hn : ∀ j, PB v j → ¬ S j) : w'.ownsRow B 3 1 v n L := by
  obtain ⟨a, c, hv, _⟩ := Orow.own_shape h
  subst hv
  exact own_only h ho (fun j hj => hn j (pb_of_ba hj))
def l0 : List Win.Dv := [⟨2, 0, 32, 1, -1⟩, ⟨1, 64, 8, -1, -1⟩]
theorem devices_any (w : World) : Calls Tryz.prog 23 #[] w fun e w' => e = .returned (.slice (some ⟨w.heap.size, 0, none⟩) 2 2) ∧ Win.RowV w' (some ⟨w.heap.size, 0, none⟩) 2 l0 ∧ Below w.heap.size w w' := by
  go_enter Tryz.func23, Tryz.ntmps23
  go_wp2_with fail
  go_ret
  refine ⟨rfl, ⟨rfl, fun j hj => ?_, fun j hj => ⟨w.heap.size, 0, rfl, ?_⟩⟩, (Below.refl _ _).alloc (Nat.le_refl _) _⟩
  · match j, hj with
    | 0, _ => exact ⟨by decide, by decide, by decide, by decide, by decide⟩
    | 1, _ => exact ⟨by decide, by decide, by decide, by decide, by decide⟩
  · match j, hj with
    | 0, _ => exact ⟨World.cell?_alloc_at _ _ _ _ rfl, World.cell?_alloc_at _ _ _ _ rfl, World.cell?_alloc_at _ _ _ _ rfl, World.cell?_alloc_at _ _ _ _ rfl, World.cell?_alloc_at _ _ _ _ rfl⟩
    | 1, _ => exact ⟨World.cell?_alloc_at _ _ _ _ rfl, World.cell?_alloc_at _ _ _ _ rfl, World.cell?_alloc_at _ _ _ _ rfl, World.cell?_alloc_at _ _ _ _ rfl, World.cell?_alloc_at _ _ _ _ rfl⟩
def a0 : RS := newS l0
def a1 : RS := (moveV a0 0 2).2
def a2 : RS := (takeV a1 0).2
def a3 : RS := tickV a2
def a4 : RS := tickV a3
def a5 : RS := (giveV a4 0 3).2
def a6 : RS := (takeV a5 0).2
def a7 : RS := tickV a6
def a8 : RS := tickV a7
def a9 : RS := (giveV a8 0 3).2
theorem ok0 : Win.rowB l0 = true := by decide +kernel
theorem r1 : (moveV a0 0 2).1 = 0 := by decide +kernel
theorem o1a : (ownerV a1 0).1 = 0 := by decide +kernel
theorem o1b : (ownerV a1 0).2 = false := by decide +kernel
theorem r2 : (takeV a1 0).1 = 14 := by decide +kernel
theorem t3 : doneV a2 = [] := by decide +kernel
theorem h3a : (holdV a3 0).1.o = -1 := by decide +kernel
theorem h3b : (holdV a3 0).1.l = 1 := by decide +kernel
theorem h3c : (holdV a3 0).1.n = 2 := by decide +kernel
theorem h3d : (holdV a3 0).2 = true := by decide +kernel
theorem t4 : doneV a3 = [0] := by decide +kernel
theorem o4a : (ownerV a4 0).1 = 2 := by decide +kernel
theorem o4b : (ownerV a4 0).2 = true := by decide +kernel
theorem r5 : (giveV a4 0 3).1 = 14 := by decide +kernel
theorem r6 : (takeV a5 0).1 = 0 := by decide +kernel
theorem t7 : doneV a6 = [] := by decide +kernel
theorem t8 : doneV a7 = [0] := by decide +kernel
theorem r9 : (giveV a8 0 3).1 = 0 := by decide +kernel
set_option maxRecDepth 100000 in
set_option maxHeartbeats 16000000 in
theorem awake_any (Bk B : Nat) (w : World) (hL : Laid w Bk) (hBk0 : Bk ≤ B) (hB0 : B ≤ w.heap.size) :
    Calls Tryz.prog 5 #[] w fun z w' => z = .returned (.bool true) ∧ Below B w w' := by
  have HB := Lib.hid hB0
  have HBk := Lib.hid hBk0
  have HLd := Lib.hid hL
  have C0 := Lib.hid (Below.refl B w)
  clear hB0 hBk0 hL
  go_enter Tryz.func5, Tryz.ntmps5
  go_wp2_with fail
  refine (devices_any w).mono ?_
  rintro z y0 ⟨rfl, hr, hb⟩
  have R0 := Lib.hid hr
  have C1 := Lib.hid (show Below B w y0 from C0.out.trans (hb.mono HB.out))
  clear hr hb C0
  go_wp2_with fail
  refine (New_yes Bk _ 2 2 l0 y0 (by omega) (by omega) R0.out (HLd.out.keep (C1.out.mono HBk.out)) (Nat.le_trans HBk.out (Nat.le_trans HB.out C1.out.size)) ok0).mono ?_
  rintro z x0 ⟨⟨b0, O0, rfl, hd, hn⟩, hb⟩
  have F0 := Lib.hid (show Row Bk x0 b0 a0 O0 from hd)
  have HO0 := Lib.hid (show ∀ j, O0 j → B ≤ j from fun j hj => Nat.le_trans (Nat.le_trans HB.out C1.out.size) (hn j hj))
  have C2 := Lib.hid (show Below B w x0 from C1.out.trans (hb.mono (Nat.le_trans HB.out C1.out.size)))
  clear hd hn hb C1 R0
  go_wp2_with fail
  have LTd := Lib.hid (show ∀ j, O0 j → j < x0.heap.size from fun j h => (F0.out.lt j h).2)
  refine (Move_any Bk b0 a0 O0 0 2 x0 ⟨by omega, by omega⟩ ⟨by omega, by omega⟩ F0.out).mono ?_
  rintro z x11 ⟨hz, O11, k1, k2, k3⟩
  rw [r1] at hz
  subst hz
  have F11d := Lib.hid (show Row Bk x11 b0 a1 O11 from k1)
  have HO12 := Lib.hid (show ∀ j, O11 j → B ≤ j from fun j hj => (k3 j hj).elim (HO0.out j) (fun e => Nat.le_trans (Nat.le_trans HB.out C2.out.size) e))
  have C13 := Lib.hid (show Below B w x11 from C2.out.trans (k2.below (Nat.le_trans HB.out C2.out.size) HO0.out))
  clear C2 HO0 F0
  clear k1 k2 k3
  clear LTd
  go_wp2_with fail
  refine (Owner_any Bk b0 a1 O11 0 x11 ⟨by omega, by omega⟩ F11d.out).mono ?_
  rintro z x14 ⟨hz, hb⟩
  rw [o1a, o1b] at hz
  subst hz
  have F15 := Lib.hid (F11d.out.keep hb)
  clear F11d
  have C16 := Lib.hid (show Below B w x14 from C13.out.trans (hb.mono (Nat.le_trans HB.out C13.out.size)))
  clear C13
  clear hb
  go_wp2_with fail
  have LTd := Lib.hid (show ∀ j, O11 j → j < x14.heap.size from fun j h => (F15.out.lt j h).2)
  refine (Take_any Bk b0 a1 O11 0 x14 ⟨by omega, by omega⟩ F15.out).mono ?_
  rintro z x17 ⟨hz, O17, k1, k2, k3⟩
  rw [r2] at hz
  subst hz
  have F17d := Lib.hid (show Row Bk x17 b0 a2 O17 from k1)
  have HO18 := Lib.hid (show ∀ j, O17 j → B ≤ j from fun j hj => (k3 j hj).elim (HO12.out j) (fun e => Nat.le_trans (Nat.le_trans HB.out C16.out.size) e))
  have C19 := Lib.hid (show Below B w x17 from C16.out.trans (k2.below (Nat.le_trans HB.out C16.out.size) HO12.out))
  clear C16 HO12 F15
  clear k1 k2 k3
  clear LTd
  go_wp2_with fail
  have LTd := Lib.hid (show ∀ j, O17 j → j < x17.heap.size from fun j h => (F17d.out.lt j h).2)
  refine (Tick_any Bk b0 a2 O17 x17 F17d.out).mono ?_
  rintro z x20 ⟨t20, c20, O20, hz, hr, k1, k2, k3, k4⟩
  rw [t3] at hz hr k4
  subst hz
  have F20d := Lib.hid (show Row Bk x20 b0 a3 O20 from k1)
  have F20r := Lib.hid (show x20.ownsRow _ 3 1 (.slice t20 0 c20) 0 (iv []) from hr)
  have A20a := Lib.hid (show ∀ j, PB (.slice t20 0 c20) j → ¬ O20 j from k4)
  have HO21 := Lib.hid (show ∀ j, O20 j → B ≤ j from fun j hj => (k3 j hj).elim (HO18.out j) (fun e => Nat.le_trans (Nat.le_trans HB.out C19.out.size) e))
  have C22 := Lib.hid (show Below B w x20 from C19.out.trans (k2.below (Nat.le_trans HB.out C19.out.size) HO18.out))
  clear C19 HO18 F17d
  clear hr k1 k2 k3 k4
  clear LTd
  go_wp2_with fail
  refine (Hold_any Bk b0 a3 O20 0 x20 ⟨by omega, by omega⟩ F20d.out).mono ?_
  rintro z x23 ⟨hz, hb⟩
  rw [h3a, h3b, h3c, h3d] at hz
  subst hz
  have F24 := Lib.hid (F20d.out.keep hb)
  clear F20d
  have F25 := Lib.hid (Orow.own_keep F20r.out hb)
  clear F20r
  have C26 := Lib.hid (show Below B w x23 from C22.out.trans (hb.mono (Nat.le_trans HB.out C22.out.size)))
  clear C22
  clear hb
  have LTd := Lib.hid (show ∀ j, O20 j → j < x23.heap.size from fun j h => (F24.out.lt j h).2)
  have LTc := Lib.hid (show ∀ j, PB (.slice t20 0 c20) j → j < x23.heap.size from fun j h => (F25.out.lt j h).2)
  obtain ⟨gh, hgh⟩ : ∃ g, x23.heap.size = g := ⟨_, rfl⟩
  go_wp2_with (with_reducible refine at_store _ _ _ rfl ?_)
  refine Lib.hid ?_
  have hnew := Blk.new x23 52 [.int .i64 0, .int .i64 0, .int .i64 0]
  rw [hgh] at hnew
  refine store_all rfl _ _ _ rfl gh [.int .i64 (-1), .int .i64 1, .int .i64 2] rfl rfl _ _ hnew (by kernel_rfl) rfl (by simp [Value.oneCell']) ?_
  intro y1 hX hoX
  have hal := (Below.refl x23.heap.size x23).alloc (Nat.le_refl _) (.cells #[.int .i64 0, .int .i64 0, .int .i64 0] 52)
  have hbX : Below x23.heap.size x23 y1 := hal.trans (hoX.below hal.size (fun j e => by rw [e, ← hgh]; exact Nat.le_refl _))
  have FH := Lib.hid hX
  have F27 := Lib.hid (F24.out.keep hbX)
  clear F24
  have F28 := Lib.hid (Orow.own_keep F25.out hbX)
  clear F25
  have C29 := Lib.hid (show Below B w y1 from C26.out.trans (hbX.mono (Nat.le_trans HB.out C26.out.size)))
  clear C26
  have low := fun (j : Nat) (h : gh = j) => (show x23.heap.size ≤ j by omega)
  have A30 := Lib.hid (show ∀ j, Eq gh j → ¬ O20 j from fun j h1 h2 => by have e1 := low j h1; have e2 := LTd.out j h2; omega)
  have A31 := Lib.hid (show ∀ j, Eq gh j → ¬ PB (.slice t20 0 c20) j from fun j h1 h2 => by have e1 := low j h1; have e2 := LTc.out j h2; omega)
  clear hX hoX hal hbX hnew low hgh
  clear LTd LTc
  go_wp2_with fail
  have LTd := Lib.hid (show ∀ j, O20 j → j < y1.heap.size from fun j h => (F27.out.lt j h).2)
  have LTc := Lib.hid (show ∀ j, PB (.slice t20 0 c20) j → j < y1.heap.size from fun j h => (F28.out.lt j h).2)
  have LTh := Lib.hid (show ∀ j, Eq gh j → j < y1.heap.size from fun j h => h ▸ FH.out.lt)
  refine (Tick_any Bk b0 a3 O20 y1 F27.out).mono ?_
  rintro z x32 ⟨t32, c32, O32, hz, hr, k1, k2, k3, k4⟩
  rw [t4] at hz hr k4
  subst hz
  have F32d := Lib.hid (show Row Bk x32 b0 a4 O32 from k1)
  have F32r := Lib.hid (show x32.ownsRow _ 3 1 (.slice t32 1 c32) 1 (iv [0]) from hr)
  have A32a := Lib.hid (show ∀ j, PB (.slice t32 1 c32) j → ¬ O32 j from k4)
  have F33 := Lib.hid (row_only F28.out k2 A20a.out)
  clear F28
  have A34 := Lib.hid (show ∀ j, PB (.slice t20 0 c20) j → ¬ O32 j from fun j h1 h2 => (k3 j h2).elim (fun e => A20a.out j h1 e) (fun e => by have := LTc.out j h1; omega))
  clear A20a
  have F35 := Lib.hid (FH.out.only k2 (A30.out _ rfl))
  clear FH
  have A36 := Lib.hid (show ∀ j, Eq gh j → ¬ O32 j from fun j h1 h2 => (k3 j h2).elim (fun e => A30.out j h1 e) (fun e => by have := LTh.out j h1; omega))
  clear A30
  have HO37 := Lib.hid (show ∀ j, O32 j → B ≤ j from fun j hj => (k3 j hj).elim (HO21.out j) (fun e => Nat.le_trans (Nat.le_trans HB.out C29.out.size) e))
  have C38 := Lib.hid (show Below B w x32 from C29.out.trans (k2.below (Nat.le_trans HB.out C29.out.size) HO21.out))
  clear C29 HO21 F27
  have A39 := Lib.hid (show ∀ j, PB (.slice t32 1 c32) j → ¬ PB (.slice t20 0 c20) j from fun j h1 h2 => by have e1 := (fun j h => (hr.lt j h).1) j h1; have e2 := LTc.out j h2; omega)
  have A40 := Lib.hid (show ∀ j, PB (.slice t32 1 c32) j → ¬ Eq gh j from fun j h1 h2 => by have e1 := (fun j h => (hr.lt j h).1) j h1; have e2 := LTh.out j h2; omega)
  clear hr k1 k2 k3 k4
  clear LTd LTc LTh
  go_wp2_with fail
  refine (Owner_any Bk b0 a4 O32 0 x32 ⟨by omega, by omega⟩ F32d.out).mono ?_
  rintro z x41 ⟨hz, hb⟩
  rw [o4a, o4b] at hz
  subst hz
  have F42 := Lib.hid (F32d.out.keep hb)
  clear F32d
  have F43 := Lib.hid (Orow.own_keep F33.out hb)
  clear F33
  have F44 := Lib.hid (F35.out.keep hb)
  clear F35
  have F45 := Lib.hid (Orow.own_keep F32r.out hb)
  clear F32r
  have C46 := Lib.hid (show Below B w x41 from C38.out.trans (hb.mono (Nat.le_trans HB.out C38.out.size)))
  clear C38
  clear hb
  go_wp2_with fail
  have LTd := Lib.hid (show ∀ j, O32 j → j < x41.heap.size from fun j h => (F42.out.lt j h).2)
  have LTc := Lib.hid (show ∀ j, PB (.slice t20 0 c20) j → j < x41.heap.size from fun j h => (F43.out.lt j h).2)
  have LTh := Lib.hid (show ∀ j, Eq gh j → j < x41.heap.size from fun j h => h ▸ F44.out.lt)
  have LTe := Lib.hid (show ∀ j, PB (.slice t32 1 c32) j → j < x41.heap.size from fun j h => (F45.out.lt j h).2)
  refine (Give_any Bk b0 a4 O32 0 3 x41 ⟨by omega, by omega⟩ ⟨by omega, by omega⟩ F42.out).mono ?_
  rintro z x47 ⟨hz, O47, k1, k2, k3⟩
  rw [r5] at hz
  subst hz
  have F47d := Lib.hid (show Row Bk x47 b0 a5 O47 from k1)
  have F48 := Lib.hid (row_only F43.out k2 A34.out)
  clear F43
  have A49 := Lib.hid (show ∀ j, PB (.slice t20 0 c20) j → ¬ O47 j from fun j h1 h2 => (k3 j h2).elim (fun e => A34.out j h1 e) (fun e => by have := LTc.out j h1; omega))
  clear A34
  have F50 := Lib.hid (F44.out.only k2 (A36.out _ rfl))
  clear F44
  have A51 := Lib.hid (show ∀ j, Eq gh j → ¬ O47 j from fun j h1 h2 => (k3 j h2).elim (fun e => A36.out j h1 e) (fun e => by have := LTh.out j h1; omega))
  clear A36
  have F52 := Lib.hid (row_only F45.out k2 A32a.out)
  clear F45
  have A53 := Lib.hid (show ∀ j, PB (.slice t32 1 c32) j → ¬ O47 j from fun j h1 h2 => (k3 j h2).elim (fun e => A32a.out j h1 e) (fun e => by have := LTe.out j h1; omega))
  clear A32a
  have HO54 := Lib.hid (show ∀ j, O47 j → B ≤ j from fun j hj => (k3 j hj).elim (HO37.out j) (fun e => Nat.le_trans (Nat.le_trans HB.out C46.out.size) e))
  have C55 := Lib.hid (show Below B w x47 from C46.out.trans (k2.below (Nat.le_trans HB.out C46.out.size) HO37.out))
  clear C46 HO37 F42
  clear k1 k2 k3
  clear LTd LTc LTh LTe
  go_wp2_with fail
  have LTd := Lib.hid (show ∀ j, O47 j → j < x47.heap.size from fun j h => (F47d.out.lt j h).2)
  have LTc := Lib.hid (show ∀ j, PB (.slice t20 0 c20) j → j < x47.heap.size from fun j h => (F48.out.lt j h).2)
  have LTh := Lib.hid (show ∀ j, Eq gh j → j < x47.heap.size from fun j h => h ▸ F50.out.lt)
  have LTe := Lib.hid (show ∀ j, PB (.slice t32 1 c32) j → j < x47.heap.size from fun j h => (F52.out.lt j h).2)
  refine (Take_any Bk b0 a5 O47 0 x47 ⟨by omega, by omega⟩ F47d.out).mono ?_
  rintro z x56 ⟨hz, O56, k1, k2, k3⟩
  rw [r6] at hz
  subst hz
  have F56d := Lib.hid (show Row Bk x56 b0 a6 O56 from k1)
  have F57 := Lib.hid (row_only F48.out k2 A49.out)
  clear F48
  have A58 := Lib.hid (show ∀ j, PB (.slice t20 0 c20) j → ¬ O56 j from fun j h1 h2 => (k3 j h2).elim (fun e => A49.out j h1 e) (fun e => by have := LTc.out j h1; omega))
  clear A49
  have F59 := Lib.hid (F50.out.only k2 (A51.out _ rfl))
  clear F50
  have A60 := Lib.hid (show ∀ j, Eq gh j → ¬ O56 j from fun j h1 h2 => (k3 j h2).elim (fun e => A51.out j h1 e) (fun e => by have := LTh.out j h1; omega))
  clear A51
  have F61 := Lib.hid (row_only F52.out k2 A53.out)
  clear F52
  have A62 := Lib.hid (show ∀ j, PB (.slice t32 1 c32) j → ¬ O56 j from fun j h1 h2 => (k3 j h2).elim (fun e => A53.out j h1 e) (fun e => by have := LTe.out j h1; omega))
  clear A53
  have HO63 := Lib.hid (show ∀ j, O56 j → B ≤ j from fun j hj => (k3 j hj).elim (HO54.out j) (fun e => Nat.le_trans (Nat.le_trans HB.out C55.out.size) e))
  have C64 := Lib.hid (show Below B w x56 from C55.out.trans (k2.below (Nat.le_trans HB.out C55.out.size) HO54.out))
  clear C55 HO54 F47d
  clear k1 k2 k3
  clear LTd LTc LTh LTe
  go_wp2_with fail
  have LTd := Lib.hid (show ∀ j, O56 j → j < x56.heap.size from fun j h => (F56d.out.lt j h).2)
  have LTc := Lib.hid (show ∀ j, PB (.slice t20 0 c20) j → j < x56.heap.size from fun j h => (F57.out.lt j h).2)
  have LTh := Lib.hid (show ∀ j, Eq gh j → j < x56.heap.size from fun j h => h ▸ F59.out.lt)
  have LTe := Lib.hid (show ∀ j, PB (.slice t32 1 c32) j → j < x56.heap.size from fun j h => (F61.out.lt j h).2)
  refine (Tick_any Bk b0 a6 O56 x56 F56d.out).mono ?_
  rintro z x65 ⟨t65, c65, O65, hz, hr, k1, k2, k3, k4⟩
  rw [t7] at hz hr k4
  subst hz
  have F65d := Lib.hid (show Row Bk x65 b0 a7 O65 from k1)
  have F66 := Lib.hid (row_only F57.out k2 A58.out)
  clear F57
  have A67 := Lib.hid (show ∀ j, PB (.slice t20 0 c20) j → ¬ O65 j from fun j h1 h2 => (k3 j h2).elim (fun e => A58.out j h1 e) (fun e => by have := LTc.out j h1; omega))
  clear A58
  have F68 := Lib.hid (F59.out.only k2 (A60.out _ rfl))
  clear F59
  have A69 := Lib.hid (show ∀ j, Eq gh j → ¬ O65 j from fun j h1 h2 => (k3 j h2).elim (fun e => A60.out j h1 e) (fun e => by have := LTh.out j h1; omega))
  clear A60
  have F70 := Lib.hid (row_only F61.out k2 A62.out)
  clear F61
  have A71 := Lib.hid (show ∀ j, PB (.slice t32 1 c32) j → ¬ O65 j from fun j h1 h2 => (k3 j h2).elim (fun e => A62.out j h1 e) (fun e => by have := LTe.out j h1; omega))
  clear A62
  have HO72 := Lib.hid (show ∀ j, O65 j → B ≤ j from fun j hj => (k3 j hj).elim (HO63.out j) (fun e => Nat.le_trans (Nat.le_trans HB.out C64.out.size) e))
  have C73 := Lib.hid (show Below B w x65 from C64.out.trans (k2.below (Nat.le_trans HB.out C64.out.size) HO63.out))
  clear C64 HO63 F56d
  clear hr k1 k2 k3 k4
  clear LTd LTc LTh LTe
  go_wp2_with fail
  have LTd := Lib.hid (show ∀ j, O65 j → j < x65.heap.size from fun j h => (F65d.out.lt j h).2)
  have LTc := Lib.hid (show ∀ j, PB (.slice t20 0 c20) j → j < x65.heap.size from fun j h => (F66.out.lt j h).2)
  have LTh := Lib.hid (show ∀ j, Eq gh j → j < x65.heap.size from fun j h => h ▸ F68.out.lt)
  have LTe := Lib.hid (show ∀ j, PB (.slice t32 1 c32) j → j < x65.heap.size from fun j h => (F70.out.lt j h).2)
  refine (Tick_any Bk b0 a7 O65 x65 F65d.out).mono ?_
  rintro z x74 ⟨t74, c74, O74, hz, hr, k1, k2, k3, k4⟩
  rw [t8] at hz hr k4
  subst hz
  have F74d := Lib.hid (show Row Bk x74 b0 a8 O74 from k1)
  have F75 := Lib.hid (row_only F66.out k2 A67.out)
  clear F66
  have A76 := Lib.hid (show ∀ j, PB (.slice t20 0 c20) j → ¬ O74 j from fun j h1 h2 => (k3 j h2).elim (fun e => A67.out j h1 e) (fun e => by have := LTc.out j h1; omega))
  clear A67
  have F77 := Lib.hid (F68.out.only k2 (A69.out _ rfl))
  clear F68
  have A78 := Lib.hid (show ∀ j, Eq gh j → ¬ O74 j from fun j h1 h2 => (k3 j h2).elim (fun e => A69.out j h1 e) (fun e => by have := LTh.out j h1; omega))
  clear A69
  have F79 := Lib.hid (row_only F70.out k2 A71.out)
  clear F70
  have A80 := Lib.hid (show ∀ j, PB (.slice t32 1 c32) j → ¬ O74 j from fun j h1 h2 => (k3 j h2).elim (fun e => A71.out j h1 e) (fun e => by have := LTe.out j h1; omega))
  clear A71
  have HO81 := Lib.hid (show ∀ j, O74 j → B ≤ j from fun j hj => (k3 j hj).elim (HO72.out j) (fun e => Nat.le_trans (Nat.le_trans HB.out C73.out.size) e))
  have C82 := Lib.hid (show Below B w x74 from C73.out.trans (k2.below (Nat.le_trans HB.out C73.out.size) HO72.out))
  clear C73 HO72 F65d
  clear hr k1 k2 k3 k4
  clear LTd LTc LTh LTe
  go_wp2_with fail
  have LTd := Lib.hid (show ∀ j, O74 j → j < x74.heap.size from fun j h => (F74d.out.lt j h).2)
  have LTc := Lib.hid (show ∀ j, PB (.slice t20 0 c20) j → j < x74.heap.size from fun j h => (F75.out.lt j h).2)
  have LTh := Lib.hid (show ∀ j, Eq gh j → j < x74.heap.size from fun j h => h ▸ F77.out.lt)
  have LTe := Lib.hid (show ∀ j, PB (.slice t32 1 c32) j → j < x74.heap.size from fun j h => (F79.out.lt j h).2)
  refine (Give_any Bk b0 a8 O74 0 3 x74 ⟨by omega, by omega⟩ ⟨by omega, by omega⟩ F74d.out).mono ?_
  rintro z x83 ⟨hz, O83, k1, k2, k3⟩
  rw [r9] at hz
  subst hz
  have F83d := Lib.hid (show Row Bk x83 b0 a9 O83 from k1)
  have F84 := Lib.hid (row_only F75.out k2 A76.out)
  clear F75
  have A85 := Lib.hid (show ∀ j, PB (.slice t20 0 c20) j → ¬ O83 j from fun j h1 h2 => (k3 j h2).elim (fun e => A76.out j h1 e) (fun e => by have := LTc.out j h1; omega))
  clear A76
  have F86 := Lib.hid (F77.out.only k2 (A78.out _ rfl))
  clear F77
  have A87 := Lib.hid (show ∀ j, Eq gh j → ¬ O83 j from fun j h1 h2 => (k3 j h2).elim (fun e => A78.out j h1 e) (fun e => by have := LTh.out j h1; omega))
  clear A78
  have F88 := Lib.hid (row_only F79.out k2 A80.out)
  clear F79
  have A89 := Lib.hid (show ∀ j, PB (.slice t32 1 c32) j → ¬ O83 j from fun j h1 h2 => (k3 j h2).elim (fun e => A80.out j h1 e) (fun e => by have := LTe.out j h1; omega))
  clear A80
  have HO90 := Lib.hid (show ∀ j, O83 j → B ≤ j from fun j hj => (k3 j hj).elim (HO81.out j) (fun e => Nat.le_trans (Nat.le_trans HB.out C82.out.size) e))
  have C91 := Lib.hid (show Below B w x83 from C82.out.trans (k2.below (Nat.le_trans HB.out C82.out.size) HO81.out))
  clear C82 HO81 F74d
  clear k1 k2 k3
  clear LTd LTc LTh LTe
  have e0 := F86.out.at 0 rfl
  have e1 := F86.out.at 1 rfl
  have e2 := F86.out.at 2 rfl
  obtain ⟨ge, hge⟩ := own_some F88.out (.inl (by omega))
  have e3 := F88.out
  rw [hge] at e3
  have e3 := e3.cellAt 0 (by omega)
  have e3 : x83.cell? ⟨ge, 0, none⟩ = some (.int .i64 0) := e3.trans rfl
  have hge' := hge
  subst hge
  go_wp2_with fail
  go_ret
  exact ⟨rfl, C91.out⟩
end Go.Proofs.YtmdepkehpohgeaaGreat.Scr
