/- Package device's contracts. Dev Bk w b d O X: the device in block b has d; O: the blocks that are its own; X: those that are kept for good; below Bk lies what must stay (the table). -/
import Derived.Test.YtknhgfofmkpnfaaGreatS5wf
import Derived.Test.YtknhgfofmkpnfaaGreatS5r
import Derived.Handy
import Derived.LaidEqlPtr
import Derived.Deep.RegionHeld3
namespace Go.Proofs.YtknhgfofmkpnfaaGreat.Devs
set_option linter.unusedSectionVars false
variable [Inhabited Lane.OTab]
open Go.RowKit Go.Maps Go.ChangeShapes Go.WideShapes Go.ChangeAt Fifo Orow Word
set_option linter.unusedVariables false
set_option linter.unusedSimpArgs false

set_option maxRecDepth 100000 in
set_option maxHeartbeats 8000000 in
theorem Look_any (Bk b : Nat) (d : Dv) (O : Nat → Prop) {X : Nat → Prop} (w : World) (h : Dev Bk w b d O X) :
    Calls Tryz.prog 12 #[.pointer (some ⟨b, 0, none⟩)] w fun e w' => (∃ a c, e = .returned (.slice a (lookD d).length c) ∧ w'.ownsRow w.heap.size 23 1 (.slice a (lookD d).length c) (lookD d).length (Mbox.lv (lookD d))) ∧ Below w.heap.size w w' := by
  obtain ⟨m, k, Q, h⟩ := h
  have DV := Lib.hid (device_yes b w (h.blk.at 2 rfl))
  obtain ⟨l, hl⟩ : ∃ r, lookD d = r := ⟨_, rfl⟩
  rw [hl]
  cases d with
  | ram bs =>
    have c0 := h.blk.at 0 rfl
    simp only [partV] at c0
    have MT := Lib.hid (ram_look m bs Q w h.obj)
    rw [hl] at MT
    clear h hl
    go_enter Tryz.func12, Tryz.ntmps12
    go_wp2_with fail
    refine DV.out.mono ?_
    rintro z w1 ⟨rfl, rfl⟩
    go_wp2_with fail
    refine MT.out.mono ?_
    rintro z w2 ⟨⟨a, c, rfl, ho⟩, hb⟩
    have K := Lib.hid hb
    have HO := Lib.hid ho
    clear hb ho
    go_wp2_with fail
    go_ret
    exact ⟨⟨a, c, rfl, HO.out⟩, K.out⟩
  | tim s =>
    have c0 := h.blk.at 0 rfl
    simp only [partV] at c0
    have MT := Lib.hid (tim_look m s Q w h.obj)
    rw [hl] at MT
    clear h hl
    go_enter Tryz.func12, Tryz.ntmps12
    go_wp2_with fail
    refine DV.out.mono ?_
    rintro z w1 ⟨rfl, rfl⟩
    go_wp2_with fail
    refine MT.out.mono ?_
    rintro z w2 ⟨⟨a, c, rfl, ho⟩, hb⟩
    have K := Lib.hid hb
    have HO := Lib.hid ho
    clear hb ho
    go_wp2_with fail
    go_ret
    exact ⟨⟨a, c, rfl, HO.out⟩, K.out⟩
  | uar u =>
    have c0 := h.blk.at 0 rfl
    simp only [partV] at c0
    have MT := Lib.hid (uar_look m u Q w h.obj)
    rw [hl] at MT
    clear h hl
    go_enter Tryz.func12, Tryz.ntmps12
    go_wp2_with fail
    refine DV.out.mono ?_
    rintro z w1 ⟨rfl, rfl⟩
    go_wp2_with fail
    refine MT.out.mono ?_
    rintro z w2 ⟨⟨a, c, rfl, ho⟩, hb⟩
    have K := Lib.hid hb
    have HO := Lib.hid ho
    clear hb ho
    go_wp2_with fail
    go_ret
    exact ⟨⟨a, c, rfl, HO.out⟩, K.out⟩
  | box x =>
    have c0 := h.blk.at 0 rfl
    simp only [partV] at c0
    have MT := Lib.hid (box_look m x Q w h.obj)
    rw [hl] at MT
    clear h hl
    go_enter Tryz.func12, Tryz.ntmps12
    go_wp2_with fail
    refine DV.out.mono ?_
    rintro z w1 ⟨rfl, rfl⟩
    go_wp2_with fail
    refine MT.out.mono ?_
    rintro z w2 ⟨⟨a, c, rfl, ho⟩, hb⟩
    have K := Lib.hid hb
    have HO := Lib.hid ho
    clear hb ho
    go_wp2_with fail
    go_ret
    exact ⟨⟨a, c, rfl, HO.out⟩, K.out⟩
  | rot s =>
    have c0 := h.blk.at 0 rfl
    simp only [partV] at c0
    have MT := Lib.hid (rot_look m s Q w h.obj)
    rw [hl] at MT
    clear h hl
    go_enter Tryz.func12, Tryz.ntmps12
    go_wp2_with fail
    refine DV.out.mono ?_
    rintro z w1 ⟨rfl, rfl⟩
    go_wp2_with fail
    refine MT.out.mono ?_
    rintro z w2 ⟨⟨a, c, rfl, ho⟩, hb⟩
    have K := Lib.hid hb
    have HO := Lib.hid ho
    clear hb ho
    go_wp2_with fail
    go_ret
    exact ⟨⟨a, c, rfl, HO.out⟩, K.out⟩
  | eng e =>
    have c0 := h.blk.at 0 rfl
    simp only [partV] at c0
    have MT := Lib.hid (eng_look m e Q w h.obj)
    rw [hl] at MT
    clear h hl
    go_enter Tryz.func12, Tryz.ntmps12
    go_wp2_with fail
    refine DV.out.mono ?_
    rintro z w1 ⟨rfl, rfl⟩
    go_wp2_with fail
    refine MT.out.mono ?_
    rintro z w2 ⟨⟨a, c, rfl, ho⟩, hb⟩
    have K := Lib.hid hb
    have HO := Lib.hid ho
    clear hb ho
    go_wp2_with fail
    go_ret
    exact ⟨⟨a, c, rfl, HO.out⟩, K.out⟩
set_option maxRecDepth 100000 in
set_option maxHeartbeats 8000000 in
theorem Tick_any (Bk b : Nat) (d : Dv) (O : Nat → Prop) {X : Nat → Prop} (w : World) (h : Dev Bk w b d O X) :
    Calls Tryz.prog 16 #[.pointer (some ⟨b, 0, none⟩)] w fun e w' => e = .returned (.tuple #[.int .u8 (tickD d).1, .bool (tickD d).2.1]) ∧ Left Bk w w' b (tickD d).2.2 O X := by
  obtain ⟨m, k, Q, h⟩ := h
  have DV := Lib.hid (device_yes b w (h.blk.at 2 rfl))
  have FIN := Lib.hid (fun w' (l : ObjLeft w w' m (tickD d).2.2 Q) => h.turned l (tick_zero d))
  obtain ⟨xv, hv⟩ : ∃ q, (tickD d).1 = q := ⟨_, rfl⟩
  obtain ⟨is, hi⟩ : ∃ q, (tickD d).2.1 = q := ⟨_, rfl⟩
  obtain ⟨d2, hd⟩ : ∃ q, (tickD d).2.2 = q := ⟨_, rfl⟩
  rw [hd] at FIN
  rw [hv, hi, hd]
  cases d with
  | ram bs =>
    have c0 := h.blk.at 0 rfl
    simp only [partV] at c0
    have hv : (0 : Int) = xv := hv
    subst hv
    have hi : false = is := hi
    subst hi
    have hd : _ = d2 := hd
    subst hd
    have HD := Lib.hid (show Dev Bk w b _ O X from ⟨m, k, Q, h⟩)
    have TA := ta_ram_tim m
    have TB := ta_ram_uar m
    clear h
    go_enter Tryz.func16, Tryz.ntmps16
    go_wp2_with fail
    refine DV.out.mono ?_
    rintro z w1 ⟨rfl, rfl⟩
    go_wp2_with fail
    go_ret2
    exact ⟨rfl, HD.out.still (Below.refl _ _)⟩
  | tim s =>
    have c0 := h.blk.at 0 rfl
    simp only [partV] at c0
    have hv : (0 : Int) = xv := hv
    subst hv
    have hi : false = is := hi
    subst hi
    have MT := Lib.hid (fun w h => Timer.Tick_any m s Q w h)
    have HQ := Lib.hid h.obj
    have TA := ta_tim_tim m
    have hd : Dv.tim (Timer.tickS s) = d2 := hd
    subst hd
    clear h
    go_enter Tryz.func16, Tryz.ntmps16
    go_wp2_with fail
    refine DV.out.mono ?_
    rintro z w1 ⟨rfl, rfl⟩
    go_wp2_with fail
    refine (MT.out _ (HQ.out.keep ((Below.refl _ _).alloc (Nat.le_refl _) _))).mono ?_
    rintro z w2 ⟨rfl, k⟩
    have K := Lib.hid (show ObjLeft _ w2 m (.tim (Timer.tickS s)) Q from k)
    clear k
    go_wp2_with fail
    go_ret2
    exact ⟨rfl, FIN.out _ (ObjLeft.behind ((Below.refl _ _).alloc (Nat.le_refl _) _) K.out)⟩
  | uar u =>
    have c0 := h.blk.at 0 rfl
    simp only [partV] at c0
    have MT := Lib.hid (fun w h => Uart.Tick_any m u Q w h)
    have HQ := Lib.hid h.obj
    have TA := ta_uar_tim m
    have TB := ta_uar_uar m
    have hv : (Uart.tickU u).1 = xv := hv
    have hi : (Uart.tickU u).2.1 = is := hi
    have hd : Dv.uar (Uart.tickU u).2.2 = d2 := hd
    rw [hv, hi] at MT
    subst hd
    clear h
    go_enter Tryz.func16, Tryz.ntmps16
    go_wp2_with fail
    refine DV.out.mono ?_
    rintro z w1 ⟨rfl, rfl⟩
    go_wp2_with fail
    refine (MT.out _ (HQ.out.keep ((Below.refl _ _).alloc (Nat.le_refl _) _))).mono ?_
    rintro z w2 ⟨rfl, k⟩
    have K := Lib.hid (show ObjLeft _ w2 m (.uar (Uart.tickU u).2.2) Q from k)
    clear k
    go_wp2_with fail
    go_ret2
    exact ⟨rfl, FIN.out _ (ObjLeft.behind ((Below.refl _ _).alloc (Nat.le_refl _) _) K.out)⟩
  | box x =>
    have c0 := h.blk.at 0 rfl
    simp only [partV] at c0
    have hv : (0 : Int) = xv := hv
    subst hv
    have hi : false = is := hi
    subst hi
    have hd : _ = d2 := hd
    subst hd
    have HD := Lib.hid (show Dev Bk w b _ O X from ⟨m, k, Q, h⟩)
    have TA := ta_box_tim m
    have TB := ta_box_uar m
    clear h
    go_enter Tryz.func16, Tryz.ntmps16
    go_wp2_with fail
    refine DV.out.mono ?_
    rintro z w1 ⟨rfl, rfl⟩
    go_wp2_with fail
    go_ret2
    exact ⟨rfl, HD.out.still (Below.refl _ _)⟩
  | rot s =>
    have c0 := h.blk.at 0 rfl
    simp only [partV] at c0
    have hv : (0 : Int) = xv := hv
    subst hv
    have hi : false = is := hi
    subst hi
    have hd : _ = d2 := hd
    subst hd
    have HD := Lib.hid (show Dev Bk w b _ O X from ⟨m, k, Q, h⟩)
    have TA := ta_rot_tim m
    have TB := ta_rot_uar m
    clear h
    go_enter Tryz.func16, Tryz.ntmps16
    go_wp2_with fail
    refine DV.out.mono ?_
    rintro z w1 ⟨rfl, rfl⟩
    go_wp2_with fail
    go_ret2
    exact ⟨rfl, HD.out.still (Below.refl _ _)⟩
  | eng e =>
    have c0 := h.blk.at 0 rfl
    simp only [partV] at c0
    have hv : (0 : Int) = xv := hv
    subst hv
    have hi : false = is := hi
    subst hi
    have hd : _ = d2 := hd
    subst hd
    have HD := Lib.hid (show Dev Bk w b _ O X from ⟨m, k, Q, h⟩)
    have TA := ta_eng_tim m
    have TB := ta_eng_uar m
    clear h
    go_enter Tryz.func16, Tryz.ntmps16
    go_wp2_with fail
    refine DV.out.mono ?_
    rintro z w1 ⟨rfl, rfl⟩
    go_wp2_with fail
    go_ret2
    exact ⟨rfl, HD.out.still (Below.refl _ _)⟩
set_option maxRecDepth 100000 in
set_option maxHeartbeats 8000000 in
theorem Reset_any (Bk b : Nat) (d : Dv) (O : Nat → Prop) {X : Nat → Prop} (w : World) (h : Dev Bk w b d O X) :
    Calls Tryz.prog 9 #[.pointer (some ⟨b, 0, none⟩)] w fun e w' => e = .returned (.tuple #[]) ∧ Left Bk w w' b (zeroD d) O X := by
  obtain ⟨m, k, Q, h⟩ := h
  have IS := Lib.hid (is_yes b w (h.blk.at 2 rfl))
  cases d with
  | ram bs =>
    have c1 := h.blk.at 1 rfl
    simp only [begV] at c1
    have HS := Lib.hid (zero_size h.obj.ok bs rfl)
    have HT := Lib.hid h.laid.1
    have HKb := Lib.hid h.beg.1
    have HB := Lib.hid h.blk
    have FIN := Lib.hid (fun w2 m' Q' hb hq hn => dev_reset (w2 := w2) (m' := m') (Q' := Q') h hb hq hn)
    clear h
    go_enter Tryz.func9, Tryz.ntmps9
    go_wp2_with fail
    refine IS.out.mono ?_
    rintro z w1 ⟨rfl, rfl⟩
    go_wp2_with fail
    refine (beg_ram k bs.length _ HS.out HT.out HKb.out).mono ?_
    rintro z w2 ⟨⟨m', Q', rfl, hq, hn⟩, hb⟩
    have F := Lib.hid (FIN.out w2 m' Q' hb hq hn)
    have K2 := HB.out.keep hb
    have c0 := K2.at 0 rfl
    have fz := K2.frozen 0
    simp only [partV, zeroD] at F c0 ⊢
    clear hb hq hn K2 FIN
    go_wp2_with fail
    go_end0
    exact ⟨rfl, F.out⟩
  | tim s =>
    have c1 := h.blk.at 1 rfl
    simp only [begV] at c1
    have HB := Lib.hid h.blk
    have FIN := Lib.hid (fun w2 m' Q' hb hq hn => dev_reset (w2 := w2) (m' := m') (Q' := Q') h hb hq hn)
    clear h
    go_enter Tryz.func9, Tryz.ntmps9
    go_wp2_with fail
    refine IS.out.mono ?_
    rintro z w1 ⟨rfl, rfl⟩
    go_wp2_with fail
    refine (beg_tim _).mono ?_
    rintro z w2 ⟨⟨m', Q', rfl, hq, hn⟩, hb⟩
    have F := Lib.hid (FIN.out w2 m' Q' hb hq hn)
    have K2 := HB.out.keep hb
    have c0 := K2.at 0 rfl
    have fz := K2.frozen 0
    simp only [partV, zeroD] at F c0 ⊢
    clear hb hq hn K2 FIN
    go_wp2_with fail
    go_end0
    exact ⟨rfl, F.out⟩
  | uar u =>
    have c1 := h.blk.at 1 rfl
    simp only [begV] at c1
    have HB := Lib.hid h.blk
    have FIN := Lib.hid (fun w2 m' Q' hb hq hn => dev_reset (w2 := w2) (m' := m') (Q' := Q') h hb hq hn)
    clear h
    go_enter Tryz.func9, Tryz.ntmps9
    go_wp2_with fail
    refine IS.out.mono ?_
    rintro z w1 ⟨rfl, rfl⟩
    go_wp2_with fail
    refine (beg_uar _).mono ?_
    rintro z w2 ⟨⟨m', Q', rfl, hq, hn⟩, hb⟩
    have F := Lib.hid (FIN.out w2 m' Q' hb hq hn)
    have K2 := HB.out.keep hb
    have c0 := K2.at 0 rfl
    have fz := K2.frozen 0
    simp only [partV, zeroD] at F c0 ⊢
    clear hb hq hn K2 FIN
    go_wp2_with fail
    go_end0
    exact ⟨rfl, F.out⟩
  | box x =>
    have c1 := h.blk.at 1 rfl
    simp only [begV] at c1
    have HB := Lib.hid h.blk
    have FIN := Lib.hid (fun w2 m' Q' hb hq hn => dev_reset (w2 := w2) (m' := m') (Q' := Q') h hb hq hn)
    clear h
    go_enter Tryz.func9, Tryz.ntmps9
    go_wp2_with fail
    refine IS.out.mono ?_
    rintro z w1 ⟨rfl, rfl⟩
    go_wp2_with fail
    refine (beg_box _).mono ?_
    rintro z w2 ⟨⟨m', Q', rfl, hq, hn⟩, hb⟩
    have F := Lib.hid (FIN.out w2 m' Q' hb hq hn)
    have K2 := HB.out.keep hb
    have c0 := K2.at 0 rfl
    have fz := K2.frozen 0
    simp only [partV, zeroD] at F c0 ⊢
    clear hb hq hn K2 FIN
    go_wp2_with fail
    go_end0
    exact ⟨rfl, F.out⟩
  | rot s =>
    have c1 := h.blk.at 1 rfl
    simp only [begV] at c1
    have HB := Lib.hid h.blk
    have FIN := Lib.hid (fun w2 m' Q' hb hq hn => dev_reset (w2 := w2) (m' := m') (Q' := Q') h hb hq hn)
    clear h
    go_enter Tryz.func9, Tryz.ntmps9
    go_wp2_with fail
    refine IS.out.mono ?_
    rintro z w1 ⟨rfl, rfl⟩
    go_wp2_with fail
    refine (beg_rot _).mono ?_
    rintro z w2 ⟨⟨m', Q', rfl, hq, hn⟩, hb⟩
    have F := Lib.hid (FIN.out w2 m' Q' hb hq hn)
    have K2 := HB.out.keep hb
    have c0 := K2.at 0 rfl
    have fz := K2.frozen 0
    simp only [partV, zeroD] at F c0 ⊢
    clear hb hq hn K2 FIN
    go_wp2_with fail
    go_end0
    exact ⟨rfl, F.out⟩
  | eng e =>
    have c1 := h.blk.at 1 rfl
    simp only [begV] at c1
    have HB := Lib.hid h.blk
    have FIN := Lib.hid (fun w2 m' Q' hb hq hn => dev_reset (w2 := w2) (m' := m') (Q' := Q') h hb hq hn)
    clear h
    go_enter Tryz.func9, Tryz.ntmps9
    go_wp2_with fail
    refine IS.out.mono ?_
    rintro z w1 ⟨rfl, rfl⟩
    go_wp2_with fail
    refine (beg_eng _).mono ?_
    rintro z w2 ⟨⟨m', Q', rfl, hq, hn⟩, hb⟩
    have F := Lib.hid (FIN.out w2 m' Q' hb hq hn)
    have K2 := HB.out.keep hb
    have c0 := K2.at 0 rfl
    have fz := K2.frozen 0
    simp only [partV, zeroD] at F c0 ⊢
    clear hb hq hn K2 FIN
    go_wp2_with fail
    go_end0
    exact ⟨rfl, F.out⟩
end Go.Proofs.YtknhgfofmkpnfaaGreat.Devs
