/- The example; DeviceFresh, DeviceApart. -/
import Derived.Test.YtknhgfofmkpnfaaGreatS5w
import Derived.Test.YtknhgfofmkpnfaaGreatS5r
import Derived.Test.YtknhgfofmkpnfaaGreatJs
namespace Go.Proofs.YtknhgfofmkpnfaaGreat.Devs
set_option linter.unusedSectionVars false
variable [Inhabited Lane.OTab]
open Go.RowKit Go.Maps Go.ChangeShapes Go.WideShapes Go.ChangeAt Fifo Orow Word Win Mbox
set_option linter.unusedVariables false

theorem pb_of_ba {j n c : Nat} {a : Option Addr} (h : BA a j) : PB (.slice a n c) j := by
  first | exact h | (unfold BA at h; unfold PB Value.ownBlock; obtain ⟨q, rfl, rfl⟩ := h; rfl)
theorem row_only {S : Nat → Prop} {w w' : World} {B n : Nat} {v : Value} {L : List Value} (h : w.ownsRow B 23 1 v n L) (ho : Only S w w') (hn : ∀ j, PB v j → ¬ S j) : w'.ownsRow B 23 1 v n L := by
  obtain ⟨a, c, hv, _⟩ := own_shape h
  subst hv
  exact own_only h ho (fun j hj => hn j (pb_of_ba hj))
theorem same_limbs {w : World} {B B' n : Nat} {v v' : Value} {l : List Int} (h : w.ownsRow B 23 1 v n (lv l)) (h' : w.ownsRow B' 23 1 v' n (lv l)) (hn2 : n ≤ 1000000) :
    Calls Tryz.prog 11 #[v, v'] w fun e w' => e = .returned (.bool true) ∧ Below w.heap.size w w' := by
  have hn : l.length = n := by have := h.1; simpa [lv] using this
  obtain ⟨a, c, rfl, _, ha⟩ := own_shape h
  obtain ⟨a', c', rfl, _, ha'⟩ := own_shape h'
  by_cases h0 : n = 0
  · subst h0
    exact same_none a a' c c' w
  · obtain ⟨g, rfl⟩ := own_some h (.inl (by omega))
    obtain ⟨g', rfl⟩ := own_some h' (.inl (by omega))
    exact same_cells g 0 g' 0 n c c' l w (by omega) (own_words h hn) (own_words h' hn)
/-- A look, as a row from B on. -/
theorem look_row (Bk B b : Nat) (d : Dv) (O : Nat → Prop) {X : Nat → Prop} (w : World) (hB : B ≤ w.heap.size) (h : Dev Bk w b d O X) :
    Calls Tryz.prog 12 #[.pointer (some ⟨b, 0, none⟩)] w fun z w' => (∃ v, z = .returned v ∧ w'.ownsRow w.heap.size 23 1 v (lookD d).length (lv (lookD d))) ∧ Below w.heap.size w w' := by
  refine (Look_any Bk b d O w h).mono ?_
  rintro z w' ⟨⟨a, c, rfl, ho⟩, hb⟩
  exact ⟨⟨_, rfl, ho⟩, hb⟩
def a1 : Dv := (writeD (newD 2 32) 4 4 2).2
def a2 : Dv := (writeD a1 8 4 7).2
def a3 : Dv := (tickD a2).2.2
def a4 : Dv := (tickD a3).2.2
def a5 : Dv := (readD a4 12 4).2.2
def a6 : Dv := (readD a5 12 2).2.2
theorem r1 : (writeD (newD 2 32) 4 4 2).1 = true := by kernel_rfl
theorem r2 : (writeD a1 8 4 7).1 = true := by kernel_rfl
theorem r5 : (readD a4 12 4).1 = 1 := by kernel_rfl
theorem r5b : (readD a4 12 4).2.1 = true := by kernel_rfl
theorem r6b : (readD a5 12 2).2.1 = false := by kernel_rfl
theorem r7 : lineD a6 = true := by kernel_rfl
theorem r8 : lookD a6 = [0, 2, 7, 1] := by kernel_rfl
theorem r9 : freshD (zeroD a6) = true := by kernel_rfl
theorem same_lit {w : World} {B n c : Nat} {v : Value} {l : List Int} (h : w.ownsRow B 23 1 v n (lv l)) (hn2 : n ≤ 1000000) (h0 : 0 < n) (l' : List Int) (t : Array Value) (he : l' = l) (ht : t = (lv l).toArray := by rfl) :
    Calls Tryz.prog 11 #[v, .slice (some ⟨w.heap.size, 0, none⟩) n c] (w.alloc (.cells t 23)) fun e w' => e = .returned (.bool true) ∧ Below w.heap.size w w' := by
  subst ht
  have hb := (Below.refl w.heap.size w).alloc (Nat.le_refl _) (.cells (lv l).toArray 23)
  have h2 := own_keep h hb
  have hn : l.length = n := by have := h.1; simpa [lv] using this
  obtain ⟨a, c2, rfl, _, ha⟩ := own_shape h
  obtain ⟨g, rfl⟩ := own_some h (.inl (by omega))
  refine (same_cells g 0 w.heap.size 0 n c2 c l _ (by omega) (own_words h2 hn) (fun i hi => ?_)).mono ?_
  · rw [Nat.zero_add]
    rw [(Blk.new w 23 (lv l)).cell]
    simp [lv, List.getD_eq_getElem?_getD, show i < l.length by omega]
  · rintro z w' ⟨rfl, hb2⟩
    exact ⟨rfl, hb.trans (hb2.mono hb.size)⟩
set_option maxRecDepth 100000 in
set_option maxHeartbeats 16000000 in
theorem awake_any (Bk B : Nat) (w : World) (hL : Laid w Bk) (hBk0 : Bk ≤ B) (hB0 : B ≤ w.heap.size) :
    Calls Tryz.prog 6 #[] w fun z w' => z = .returned (.bool true) ∧ Below B w w' := by
  have HB := Lib.hid hB0
  have HBk := Lib.hid hBk0
  have HLd := Lib.hid hL
  have C0 := Lib.hid (Below.refl B w)
  clear hB0 hBk0 hL
  go_enter Tryz.func6, Tryz.ntmps6
  go_wp2_with fail
  refine (New_yes Bk 2 0 32 0 0 w ⟨by omega, by omega⟩ HLd.out (Nat.le_trans HBk.out HB.out) (by decide)).mono ?_
  rintro z x0 ⟨⟨b0, O0, X0, rfl, hd, hn, -⟩, hb⟩
  have F0 := Lib.hid hd
  have HO0 := Lib.hid (show ∀ j, O0 j → B ≤ j from fun j hj => Nat.le_trans HB.out (hn j hj))
  have C1 := Lib.hid (C0.out.trans (hb.mono HB.out))
  clear hd hn hb
  go_wp2_with fail
  have LTd := Lib.hid (show ∀ j, O0 j → j < x0.heap.size from fun j h => (F0.out.lt j h).2)
  refine (Write_any Bk b0 (newD 2 32) O0 4 4 2 x0 ⟨by omega, by omega⟩ ⟨by omega, by omega⟩ ⟨by omega, by omega⟩ F0.out).mono ?_
  rintro z x11 ⟨hz, O11, k1, k2, k3⟩
  rw [r1] at hz
  subst hz
  have F11d := Lib.hid (show Dev Bk x11 b0 a1 O11 X0 from k1)
  have HO12 := Lib.hid (show ∀ j, O11 j → B ≤ j from fun j hj => (k3 j hj).elim (HO0.out j) (fun e => Nat.le_trans (Nat.le_trans HB.out C1.out.size) e))
  have C13 := Lib.hid (show Below B w x11 from C1.out.trans (k2.below (Nat.le_trans HB.out C1.out.size) HO0.out))
  clear k1 k2 k3 LTd
  go_wp2_with fail
  have LTd := Lib.hid (show ∀ j, O11 j → j < x11.heap.size from fun j h => (F11d.out.lt j h).2)
  refine (Write_any Bk b0 a1 O11 8 4 7 x11 ⟨by omega, by omega⟩ ⟨by omega, by omega⟩ ⟨by omega, by omega⟩ F11d.out).mono ?_
  rintro z x14 ⟨hz, O14, k1, k2, k3⟩
  rw [r2] at hz
  subst hz
  have F14d := Lib.hid (show Dev Bk x14 b0 a2 O14 X0 from k1)
  have HO15 := Lib.hid (show ∀ j, O14 j → B ≤ j from fun j hj => (k3 j hj).elim (HO12.out j) (fun e => Nat.le_trans (Nat.le_trans HB.out C13.out.size) e))
  have C16 := Lib.hid (show Below B w x14 from C13.out.trans (k2.below (Nat.le_trans HB.out C13.out.size) HO12.out))
  clear k1 k2 k3 LTd
  go_wp2_with fail
  have LTd := Lib.hid (show ∀ j, O14 j → j < x14.heap.size from fun j h => (F14d.out.lt j h).2)
  refine (Tick_any Bk b0 a2 O14 x14 F14d.out).mono ?_
  rintro z x17 ⟨hz, O17, k1, k2, k3⟩
  subst hz
  have F17d := Lib.hid (show Dev Bk x17 b0 a3 O17 X0 from k1)
  have HO18 := Lib.hid (show ∀ j, O17 j → B ≤ j from fun j hj => (k3 j hj).elim (HO15.out j) (fun e => Nat.le_trans (Nat.le_trans HB.out C16.out.size) e))
  have C19 := Lib.hid (show Below B w x17 from C16.out.trans (k2.below (Nat.le_trans HB.out C16.out.size) HO15.out))
  clear k1 k2 k3 LTd
  go_wp2_with fail
  have LTd := Lib.hid (show ∀ j, O17 j → j < x17.heap.size from fun j h => (F17d.out.lt j h).2)
  refine (Tick_any Bk b0 a3 O17 x17 F17d.out).mono ?_
  rintro z x20 ⟨hz, O20, k1, k2, k3⟩
  subst hz
  have F20d := Lib.hid (show Dev Bk x20 b0 a4 O20 X0 from k1)
  have HO21 := Lib.hid (show ∀ j, O20 j → B ≤ j from fun j hj => (k3 j hj).elim (HO18.out j) (fun e => Nat.le_trans (Nat.le_trans HB.out C19.out.size) e))
  have C22 := Lib.hid (show Below B w x20 from C19.out.trans (k2.below (Nat.le_trans HB.out C19.out.size) HO18.out))
  clear k1 k2 k3 LTd
  go_wp2_with fail
  have LTd := Lib.hid (show ∀ j, O20 j → j < x20.heap.size from fun j h => (F20d.out.lt j h).2)
  refine (Read_any Bk b0 a4 O20 12 4 x20 ⟨by omega, by omega⟩ ⟨by omega, by omega⟩ F20d.out).mono ?_
  rintro z x23 ⟨hz, O23, k1, k2, k3⟩
  rw [r5, r5b] at hz
  subst hz
  have F23d := Lib.hid (show Dev Bk x23 b0 a5 O23 X0 from k1)
  have HO24 := Lib.hid (show ∀ j, O23 j → B ≤ j from fun j hj => (k3 j hj).elim (HO21.out j) (fun e => Nat.le_trans (Nat.le_trans HB.out C22.out.size) e))
  have C25 := Lib.hid (show Below B w x23 from C22.out.trans (k2.below (Nat.le_trans HB.out C22.out.size) HO21.out))
  clear k1 k2 k3 LTd
  go_wp2_with fail
  have LTd := Lib.hid (show ∀ j, O23 j → j < x23.heap.size from fun j h => (F23d.out.lt j h).2)
  refine (Read_any Bk b0 a5 O23 12 2 x23 ⟨by omega, by omega⟩ ⟨by omega, by omega⟩ F23d.out).mono ?_
  rintro z x26 ⟨hz, O26, k1, k2, k3⟩
  rw [r6b] at hz
  subst hz
  have F26d := Lib.hid (show Dev Bk x26 b0 a6 O26 X0 from k1)
  have HO27 := Lib.hid (show ∀ j, O26 j → B ≤ j from fun j hj => (k3 j hj).elim (HO24.out j) (fun e => Nat.le_trans (Nat.le_trans HB.out C25.out.size) e))
  have C28 := Lib.hid (show Below B w x26 from C25.out.trans (k2.below (Nat.le_trans HB.out C25.out.size) HO24.out))
  clear k1 k2 k3 LTd
  go_wp2_with fail
  refine (Line_any Bk b0 a6 O26 x26 F26d.out).mono ?_
  rintro z x29 ⟨hz, hb⟩
  rw [r7] at hz
  subst hz
  have F30 := Lib.hid (F26d.out.keep hb)
  clear F26d
  have C31 := Lib.hid (show Below B w x29 from C28.out.trans (hb.mono (Nat.le_trans HB.out C28.out.size)))
  clear hb
  go_wp2_with fail
  have LTd := Lib.hid (show ∀ j, O26 j → j < x29.heap.size from fun j h => (F30.out.lt j h).2)
  refine (look_row Bk B b0 a6 O26 x29 (Nat.le_trans HB.out C31.out.size) F30.out).mono ?_
  rintro z x32 ⟨⟨v32, rfl, hv⟩, hb⟩
  have F32r := Lib.hid hv
  have F33 := Lib.hid (F30.out.keep hb)
  clear F30
  have C34 := Lib.hid (show Below B w x32 from C31.out.trans (hb.mono (Nat.le_trans HB.out C31.out.size)))
  have A35 := Lib.hid (show ∀ j, PB v32 j → ¬ O26 j from fun j h1 h2 => by have e1 := (F32r.out.lt j h1).1; have e2 := LTd.out j h2; omega)
  clear hv hb LTd
  have FL := Lib.hid (show x32.ownsRow _ 23 1 v32 4 (lv [0, 2, 7, 1]) from by have := F32r.out; rw [r8] at this; exact this)
  clear F32r
  go_wp2_with fail
  have LTd := Lib.hid (show ∀ j, O26 j → j < x32.heap.size from fun j h => (F33.out.lt j h).2)
  have LTl := Lib.hid (show ∀ j, PB v32 j → j < x32.heap.size from fun j h => (FL.out.lt j h).2)
  refine (Reset_any Bk b0 a6 O26 x32 F33.out).mono ?_
  rintro z x36 ⟨hz, O36, k1, k2, k3⟩
  subst hz
  have F36d := Lib.hid (show Dev Bk x36 b0 (zeroD a6) O36 X0 from k1)
  have F37 := Lib.hid (row_only FL.out k2 A35.out)
  have A38 := Lib.hid (show ∀ j, PB v32 j → ¬ O36 j from fun j h1 h2 => (k3 j h2).elim (fun e => A35.out j h1 e) (fun e => by have := LTl.out j h1; omega))
  have HO39 := Lib.hid (show ∀ j, O36 j → B ≤ j from fun j hj => (k3 j hj).elim (HO27.out j) (fun e => Nat.le_trans (Nat.le_trans HB.out C34.out.size) e))
  have C40 := Lib.hid (show Below B w x36 from C34.out.trans (k2.below (Nat.le_trans HB.out C34.out.size) HO27.out))
  clear k1 k2 k3 LTd LTl
  go_wp2_with fail
  refine (same_lit F37.out (by omega) (by omega) [0, 2, 7, 1] _ rfl).mono ?_
  rintro z x41 ⟨rfl, hb⟩
  have F42 := Lib.hid (F36d.out.keep hb)
  clear F36d
  have F43 := Lib.hid (Orow.own_keep F37.out hb)
  clear F37
  have C44 := Lib.hid (show Below B w x41 from C40.out.trans (hb.mono (Nat.le_trans HB.out C40.out.size)))
  clear hb
  go_wp2_with fail
  refine (Fresh_any Bk b0 (zeroD a6) O36 x41 F42.out).mono ?_
  rintro z x45 ⟨hz, hb⟩
  rw [r9] at hz
  subst hz
  have F46 := Lib.hid (F42.out.keep hb)
  clear F42
  have C47 := Lib.hid (show Below B w x45 from C44.out.trans (hb.mono (Nat.le_trans HB.out C44.out.size)))
  clear hb
  go_wp2_with fail
  refine (Time_any 3 x45 ⟨by omega, by omega⟩).mono ?_
  rintro z x48 ⟨rfl, hb⟩
  have F49 := Lib.hid (F46.out.keep hb)
  clear F46
  have C50 := Lib.hid (show Below B w x48 from C47.out.trans (hb.mono (Nat.le_trans HB.out C47.out.size)))
  clear hb
  go_wp2_with fail
  go_ret
  exact ⟨rfl, C50.out⟩
end Go.Proofs.YtknhgfofmkpnfaaGreat.Devs
