/- Package device's contracts. Dev Bk w b d O X: the device in block b has d; O: the blocks that are its own; X: those that are kept for good; below Bk lies what must stay (the table). -/
import Derived.Test.YtknhgfofmkpnfaaGreatS5wf
import Derived.Test.YtknhgfofmkpnfaaGreatS5r
import Derived.Handy
import Derived.LaidEqlPtr
import Derived.Deep.RegionHeld3
namespace Go.Proofs.YtknhgfofmkpnfaaGreat.Devs
set_option linter.unusedSectionVars false
variable [Inhabited Lane.OTab]
open Go.RowKit Go.Maps Go.ChangeShapes Go.WideShapes Go.ChangeAt Fifo Orow Word
set_option linter.unusedVariables false
set_option linter.unusedSimpArgs false

set_option maxRecDepth 100000 in
set_option maxHeartbeats 8000000 in
theorem Read_any (Bk b : Nat) (d : Dv) (O : Nat → Prop) {X : Nat → Prop} (off size : Int) (w : World) (h1 : I64 off) (h2 : I64 size) (h : Dev Bk w b d O X) :
    Calls Tryz.prog 13 #[.pointer (some ⟨b, 0, none⟩), .int .i64 off, .int .i64 size] w fun e w' => e = .returned (.tuple #[.int .u32 (readD d off size).1, .bool (readD d off size).2.1]) ∧ Left Bk w w' b (readD d off size).2.2 O X := by
  obtain ⟨m, k, Q, h⟩ := h
  have DV := Lib.hid (device_yes b w (h.blk.at 2 rfl))
  have FIN := Lib.hid (fun w' (l : ObjLeft w w' m (readD d off size).2.2 Q) => h.turned l (read_zero d off size))
  obtain ⟨v, hv⟩ : ∃ v, (readD d off size).1 = v := ⟨_, rfl⟩
  obtain ⟨is, hi⟩ : ∃ v, (readD d off size).2.1 = v := ⟨_, rfl⟩
  obtain ⟨d2, hd⟩ : ∃ v, (readD d off size).2.2 = v := ⟨_, rfl⟩
  rw [hd] at FIN
  rw [hv, hi, hd]
  cases d with
  | ram bs =>
    have c0 := h.blk.at 0 rfl
    simp only [partV] at c0
    have MT := Lib.hid (ram_read m bs Q off size w h1 h2 h.obj)
    rw [hv, hi, hd] at MT
    clear h h1 h2 hv hi hd
    go_enter Tryz.func13, Tryz.ntmps13
    go_wp2_with fail
    refine DV.out.mono ?_
    rintro z w1 ⟨rfl, rfl⟩
    go_wp2_with fail
    refine MT.out.mono ?_
    rintro z w2 ⟨rfl, k⟩
    have K := Lib.hid (FIN.out _ k)
    clear k
    go_wp2_with fail
    go_ret2
    exact ⟨rfl, K.out⟩
  | tim s =>
    have c0 := h.blk.at 0 rfl
    simp only [partV] at c0
    have MT := Lib.hid (tim_read m s Q off size w h1 h2 h.obj)
    rw [hv, hi, hd] at MT
    clear h h1 h2 hv hi hd
    go_enter Tryz.func13, Tryz.ntmps13
    go_wp2_with fail
    refine DV.out.mono ?_
    rintro z w1 ⟨rfl, rfl⟩
    go_wp2_with fail
    refine MT.out.mono ?_
    rintro z w2 ⟨rfl, k⟩
    have K := Lib.hid (FIN.out _ k)
    clear k
    go_wp2_with fail
    go_ret2
    exact ⟨rfl, K.out⟩
  | uar u =>
    have c0 := h.blk.at 0 rfl
    simp only [partV] at c0
    have MT := Lib.hid (uar_read m u Q off size w h1 h2 h.obj)
    rw [hv, hi, hd] at MT
    clear h h1 h2 hv hi hd
    go_enter Tryz.func13, Tryz.ntmps13
    go_wp2_with fail
    refine DV.out.mono ?_
    rintro z w1 ⟨rfl, rfl⟩
    go_wp2_with fail
    refine MT.out.mono ?_
    rintro z w2 ⟨rfl, k⟩
    have K := Lib.hid (FIN.out _ k)
    clear k
    go_wp2_with fail
    go_ret2
    exact ⟨rfl, K.out⟩
  | box x =>
    have c0 := h.blk.at 0 rfl
    simp only [partV] at c0
    have MT := Lib.hid (box_read m x Q off size w h1 h2 h.obj)
    rw [hv, hi, hd] at MT
    clear h h1 h2 hv hi hd
    go_enter Tryz.func13, Tryz.ntmps13
    go_wp2_with fail
    refine DV.out.mono ?_
    rintro z w1 ⟨rfl, rfl⟩
    go_wp2_with fail
    refine MT.out.mono ?_
    rintro z w2 ⟨rfl, k⟩
    have K := Lib.hid (FIN.out _ k)
    clear k
    go_wp2_with fail
    go_ret2
    exact ⟨rfl, K.out⟩
  | rot s =>
    have c0 := h.blk.at 0 rfl
    simp only [partV] at c0
    have MT := Lib.hid (rot_read m s Q off size w h1 h2 h.obj)
    rw [hv, hi, hd] at MT
    clear h h1 h2 hv hi hd
    go_enter Tryz.func13, Tryz.ntmps13
    go_wp2_with fail
    refine DV.out.mono ?_
    rintro z w1 ⟨rfl, rfl⟩
    go_wp2_with fail
    refine MT.out.mono ?_
    rintro z w2 ⟨rfl, k⟩
    have K := Lib.hid (FIN.out _ k)
    clear k
    go_wp2_with fail
    go_ret2
    exact ⟨rfl, K.out⟩
  | eng e =>
    have c0 := h.blk.at 0 rfl
    simp only [partV] at c0
    have MT := Lib.hid (eng_read m e Q off size w h1 h2 h.obj)
    rw [hv, hi, hd] at MT
    clear h h1 h2 hv hi hd
    go_enter Tryz.func13, Tryz.ntmps13
    go_wp2_with fail
    refine DV.out.mono ?_
    rintro z w1 ⟨rfl, rfl⟩
    go_wp2_with fail
    refine MT.out.mono ?_
    rintro z w2 ⟨rfl, k⟩
    have K := Lib.hid (FIN.out _ k)
    clear k
    go_wp2_with fail
    go_ret2
    exact ⟨rfl, K.out⟩
set_option maxRecDepth 100000 in
set_option maxHeartbeats 8000000 in
theorem Write_any (Bk b : Nat) (d : Dv) (O : Nat → Prop) {X : Nat → Prop} (off size v : Int) (w : World) (h1 : I64 off) (h2 : I64 size) (h3 : 0 ≤ v ∧ v < 4294967296) (h : Dev Bk w b d O X) :
    Calls Tryz.prog 14 #[.pointer (some ⟨b, 0, none⟩), .int .i64 off, .int .i64 size, .int .u32 v] w fun e w' => e = .returned (.bool (writeD d off size v).1) ∧ Left Bk w w' b (writeD d off size v).2 O X := by
  obtain ⟨m, k, Q, h⟩ := h
  have DV := Lib.hid (device_yes b w (h.blk.at 2 rfl))
  have FIN := Lib.hid (fun w' (l : ObjLeft w w' m (writeD d off size v).2 Q) => h.turned l (write_zero d off size v))
  obtain ⟨is, hi⟩ : ∃ q, (writeD d off size v).1 = q := ⟨_, rfl⟩
  obtain ⟨d2, hd⟩ : ∃ q, (writeD d off size v).2 = q := ⟨_, rfl⟩
  rw [hd] at FIN
  rw [hi, hd]
  cases d with
  | ram bs =>
    have c0 := h.blk.at 0 rfl
    simp only [partV] at c0
    have MT := Lib.hid (ram_write m bs Q off size v w h1 h2 h3 h.obj)
    rw [hi, hd] at MT
    clear h h1 h2 h3 hi hd
    go_enter Tryz.func14, Tryz.ntmps14
    go_wp2_with fail
    refine DV.out.mono ?_
    rintro z w1 ⟨rfl, rfl⟩
    go_wp2_with fail
    refine MT.out.mono ?_
    rintro z w2 ⟨rfl, k⟩
    have K := Lib.hid (FIN.out _ k)
    clear k
    go_wp2_with fail
    go_ret
    exact ⟨rfl, K.out⟩
  | tim s =>
    have c0 := h.blk.at 0 rfl
    simp only [partV] at c0
    have MT := Lib.hid (tim_write m s Q off size v w h1 h2 h3 h.obj)
    rw [hi, hd] at MT
    clear h h1 h2 h3 hi hd
    go_enter Tryz.func14, Tryz.ntmps14
    go_wp2_with fail
    refine DV.out.mono ?_
    rintro z w1 ⟨rfl, rfl⟩
    go_wp2_with fail
    refine MT.out.mono ?_
    rintro z w2 ⟨rfl, k⟩
    have K := Lib.hid (FIN.out _ k)
    clear k
    go_wp2_with fail
    go_ret
    exact ⟨rfl, K.out⟩
  | uar u =>
    have c0 := h.blk.at 0 rfl
    simp only [partV] at c0
    have MT := Lib.hid (uar_write m u Q off size v w h1 h2 h3 h.obj)
    rw [hi, hd] at MT
    clear h h1 h2 h3 hi hd
    go_enter Tryz.func14, Tryz.ntmps14
    go_wp2_with fail
    refine DV.out.mono ?_
    rintro z w1 ⟨rfl, rfl⟩
    go_wp2_with fail
    refine MT.out.mono ?_
    rintro z w2 ⟨rfl, k⟩
    have K := Lib.hid (FIN.out _ k)
    clear k
    go_wp2_with fail
    go_ret
    exact ⟨rfl, K.out⟩
  | box x =>
    have c0 := h.blk.at 0 rfl
    simp only [partV] at c0
    have MT := Lib.hid (box_write m x Q off size v w h1 h2 h3 h.obj)
    rw [hi, hd] at MT
    clear h h1 h2 h3 hi hd
    go_enter Tryz.func14, Tryz.ntmps14
    go_wp2_with fail
    refine DV.out.mono ?_
    rintro z w1 ⟨rfl, rfl⟩
    go_wp2_with fail
    refine MT.out.mono ?_
    rintro z w2 ⟨rfl, k⟩
    have K := Lib.hid (FIN.out _ k)
    clear k
    go_wp2_with fail
    go_ret
    exact ⟨rfl, K.out⟩
  | rot s =>
    have c0 := h.blk.at 0 rfl
    simp only [partV] at c0
    have MT := Lib.hid (rot_write m s Q off size v w h1 h2 h3 h.obj)
    rw [hi, hd] at MT
    clear h h1 h2 h3 hi hd
    go_enter Tryz.func14, Tryz.ntmps14
    go_wp2_with fail
    refine DV.out.mono ?_
    rintro z w1 ⟨rfl, rfl⟩
    go_wp2_with fail
    refine MT.out.mono ?_
    rintro z w2 ⟨rfl, k⟩
    have K := Lib.hid (FIN.out _ k)
    clear k
    go_wp2_with fail
    go_ret
    exact ⟨rfl, K.out⟩
  | eng e =>
    have c0 := h.blk.at 0 rfl
    simp only [partV] at c0
    have MT := Lib.hid (eng_write m e Q off size v w h1 h2 h3 h.obj)
    rw [hi, hd] at MT
    clear h h1 h2 h3 hi hd
    go_enter Tryz.func14, Tryz.ntmps14
    go_wp2_with fail
    refine DV.out.mono ?_
    rintro z w1 ⟨rfl, rfl⟩
    go_wp2_with fail
    refine MT.out.mono ?_
    rintro z w2 ⟨rfl, k⟩
    have K := Lib.hid (FIN.out _ k)
    clear k
    go_wp2_with fail
    go_ret
    exact ⟨rfl, K.out⟩
set_option maxRecDepth 100000 in
set_option maxHeartbeats 8000000 in
theorem Line_any (Bk b : Nat) (d : Dv) (O : Nat → Prop) {X : Nat → Prop} (w : World) (h : Dev Bk w b d O X) :
    Calls Tryz.prog 17 #[.pointer (some ⟨b, 0, none⟩)] w fun e w' => e = .returned (.bool (lineD d)) ∧ Below w.heap.size w w' := by
  obtain ⟨m, k, Q, h⟩ := h
  have DV := Lib.hid (device_yes b w (h.blk.at 2 rfl))
  obtain ⟨r, hl⟩ : ∃ r, lineD d = r := ⟨_, rfl⟩
  rw [hl]
  cases d with
  | ram bs =>
    have c0 := h.blk.at 0 rfl
    simp only [partV] at c0
    have MT := Lib.hid (ram_line m w)
    have hl : false = r := hl
    rw [hl] at MT
    clear h hl
    go_enter Tryz.func17, Tryz.ntmps17
    go_wp2_with fail
    refine DV.out.mono ?_
    rintro z w1 ⟨rfl, rfl⟩
    go_wp2_with fail
    refine MT.out.mono ?_
    rintro z w2 ⟨rfl, hb⟩
    have K := Lib.hid hb
    clear hb
    go_wp2_with fail
    go_ret
    exact ⟨rfl, K.out⟩
  | tim s =>
    have c0 := h.blk.at 0 rfl
    simp only [partV] at c0
    have MT := Lib.hid (tim_line m s Q w h.obj)
    rw [hl] at MT
    clear h hl
    go_enter Tryz.func17, Tryz.ntmps17
    go_wp2_with fail
    refine DV.out.mono ?_
    rintro z w1 ⟨rfl, rfl⟩
    go_wp2_with fail
    refine MT.out.mono ?_
    rintro z w2 ⟨rfl, hb⟩
    have K := Lib.hid hb
    clear hb
    go_wp2_with fail
    go_ret
    exact ⟨rfl, K.out⟩
  | uar u =>
    have c0 := h.blk.at 0 rfl
    simp only [partV] at c0
    have MT := Lib.hid (uar_line m u Q w h.obj)
    rw [hl] at MT
    clear h hl
    go_enter Tryz.func17, Tryz.ntmps17
    go_wp2_with fail
    refine DV.out.mono ?_
    rintro z w1 ⟨rfl, rfl⟩
    go_wp2_with fail
    refine MT.out.mono ?_
    rintro z w2 ⟨rfl, hb⟩
    have K := Lib.hid hb
    clear hb
    go_wp2_with fail
    go_ret
    exact ⟨rfl, K.out⟩
  | box x =>
    have c0 := h.blk.at 0 rfl
    simp only [partV] at c0
    have MT := Lib.hid (box_line m x Q w h.obj)
    rw [hl] at MT
    clear h hl
    go_enter Tryz.func17, Tryz.ntmps17
    go_wp2_with fail
    refine DV.out.mono ?_
    rintro z w1 ⟨rfl, rfl⟩
    go_wp2_with fail
    refine MT.out.mono ?_
    rintro z w2 ⟨rfl, hb⟩
    have K := Lib.hid hb
    clear hb
    go_wp2_with fail
    go_ret
    exact ⟨rfl, K.out⟩
  | rot s =>
    have c0 := h.blk.at 0 rfl
    simp only [partV] at c0
    have MT := Lib.hid (rot_line m w)
    have hl : false = r := hl
    rw [hl] at MT
    clear h hl
    go_enter Tryz.func17, Tryz.ntmps17
    go_wp2_with fail
    refine DV.out.mono ?_
    rintro z w1 ⟨rfl, rfl⟩
    go_wp2_with fail
    refine MT.out.mono ?_
    rintro z w2 ⟨rfl, hb⟩
    have K := Lib.hid hb
    clear hb
    go_wp2_with fail
    go_ret
    exact ⟨rfl, K.out⟩
  | eng e =>
    have c0 := h.blk.at 0 rfl
    simp only [partV] at c0
    have MT := Lib.hid (eng_line m e Q w h.obj)
    rw [hl] at MT
    clear h hl
    go_enter Tryz.func17, Tryz.ntmps17
    go_wp2_with fail
    refine DV.out.mono ?_
    rintro z w1 ⟨rfl, rfl⟩
    go_wp2_with fail
    refine MT.out.mono ?_
    rintro z w2 ⟨rfl, hb⟩
    have K := Lib.hid hb
    clear hb
    go_wp2_with fail
    go_ret
    exact ⟨rfl, K.out⟩
set_option maxRecDepth 100000 in
set_option maxHeartbeats 8000000 in
theorem Input_any (Bk b : Nat) (d : Dv) (O : Nat → Prop) {X : Nat → Prop} (x : Int) (w : World) (h2 : 0 ≤ x ∧ x < 256) (h : Dev Bk w b d O X) :
    Calls Tryz.prog 23 #[.pointer (some ⟨b, 0, none⟩), .int .u8 x] w fun e w' => e = .returned (.bool (inputD d x).1) ∧ Left Bk w w' b (inputD d x).2 O X := by
  obtain ⟨m, k, Q, h⟩ := h
  have DV := Lib.hid (device_yes b w (h.blk.at 2 rfl))
  have FIN := Lib.hid (fun w' (l : ObjLeft w w' m (inputD d x).2 Q) => h.turned l (input_zero d x))
  obtain ⟨is, hi⟩ : ∃ q, (inputD d x).1 = q := ⟨_, rfl⟩
  obtain ⟨d2, hd⟩ : ∃ q, (inputD d x).2 = q := ⟨_, rfl⟩
  rw [hd] at FIN
  rw [hi, hd]
  cases d with
  | ram bs =>
    have c0 := h.blk.at 0 rfl
    simp only [partV] at c0
    have hi : false = is := hi
    subst hi
    have hd : _ = d2 := hd
    subst hd
    have HD := Lib.hid (show Dev Bk w b _ O X from ⟨m, k, Q, h⟩)
    clear h h2
    have TA := ta_ram_uar m
    go_enter Tryz.func23, Tryz.ntmps23
    go_wp2_with fail
    refine DV.out.mono ?_
    rintro z w1 ⟨rfl, rfl⟩
    go_wp2_with fail
    go_ret
    exact ⟨rfl, HD.out.still ((Below.refl _ _).alloc (Nat.le_refl _) _)⟩
  | tim s =>
    have c0 := h.blk.at 0 rfl
    simp only [partV] at c0
    have hi : false = is := hi
    subst hi
    have hd : _ = d2 := hd
    subst hd
    have HD := Lib.hid (show Dev Bk w b _ O X from ⟨m, k, Q, h⟩)
    clear h h2
    have TA := ta_tim_uar m
    go_enter Tryz.func23, Tryz.ntmps23
    go_wp2_with fail
    refine DV.out.mono ?_
    rintro z w1 ⟨rfl, rfl⟩
    go_wp2_with fail
    go_ret
    exact ⟨rfl, HD.out.still ((Below.refl _ _).alloc (Nat.le_refl _) _)⟩
  | uar u =>
    have c0 := h.blk.at 0 rfl
    simp only [partV] at c0
    have MT := Lib.hid (fun w h => Uart.Input_any m u Q x w h2 h)
    have hi : (Uart.inputU u x).1 = is := hi
    rw [hi] at MT
    have HQ := Lib.hid h.obj
    clear h h2
    have TA := ta_uar_uar m
    have hd : Dv.uar (Uart.inputU u x).2 = d2 := hd
    subst hd
    go_enter Tryz.func23, Tryz.ntmps23
    go_wp2_with fail
    refine DV.out.mono ?_
    rintro z w1 ⟨rfl, rfl⟩
    go_wp2_with fail
    refine (MT.out _ (HQ.out.keep ((Below.refl _ _).alloc (Nat.le_refl _) _))).mono ?_
    rintro z w2 ⟨rfl, k⟩
    have K := Lib.hid (show ObjLeft _ w2 m (.uar (Uart.inputU u x).2) Q from k)
    clear k
    go_wp2_with fail
    go_ret
    exact ⟨rfl, FIN.out _ (ObjLeft.behind ((Below.refl _ _).alloc (Nat.le_refl _) _) K.out)⟩
  | box x =>
    have c0 := h.blk.at 0 rfl
    simp only [partV] at c0
    have hi : false = is := hi
    subst hi
    have hd : _ = d2 := hd
    subst hd
    have HD := Lib.hid (show Dev Bk w b _ O X from ⟨m, k, Q, h⟩)
    clear h h2
    have TA := ta_box_uar m
    go_enter Tryz.func23, Tryz.ntmps23
    go_wp2_with fail
    refine DV.out.mono ?_
    rintro z w1 ⟨rfl, rfl⟩
    go_wp2_with fail
    go_ret
    exact ⟨rfl, HD.out.still ((Below.refl _ _).alloc (Nat.le_refl _) _)⟩
  | rot s =>
    have c0 := h.blk.at 0 rfl
    simp only [partV] at c0
    have hi : false = is := hi
    subst hi
    have hd : _ = d2 := hd
    subst hd
    have HD := Lib.hid (show Dev Bk w b _ O X from ⟨m, k, Q, h⟩)
    clear h h2
    have TA := ta_rot_uar m
    go_enter Tryz.func23, Tryz.ntmps23
    go_wp2_with fail
    refine DV.out.mono ?_
    rintro z w1 ⟨rfl, rfl⟩
    go_wp2_with fail
    go_ret
    exact ⟨rfl, HD.out.still ((Below.refl _ _).alloc (Nat.le_refl _) _)⟩
  | eng e =>
    have c0 := h.blk.at 0 rfl
    simp only [partV] at c0
    have hi : false = is := hi
    subst hi
    have hd : _ = d2 := hd
    subst hd
    have HD := Lib.hid (show Dev Bk w b _ O X from ⟨m, k, Q, h⟩)
    clear h h2
    have TA := ta_eng_uar m
    go_enter Tryz.func23, Tryz.ntmps23
    go_wp2_with fail
    refine DV.out.mono ?_
    rintro z w1 ⟨rfl, rfl⟩
    go_wp2_with fail
    go_ret
    exact ⟨rfl, HD.out.still ((Below.refl _ _).alloc (Nat.le_refl _) _)⟩
end Go.Proofs.YtknhgfofmkpnfaaGreat.Devs
