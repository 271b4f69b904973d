/- Package device's contracts. Dev Bk w b d O X: the device in block b has d; O: the blocks that are its own; X: those that are kept for good; below Bk lies what must stay (the table). -/
import Derived.Test.YtknhgfofmkpnfaaGreatS5wf
import Derived.Test.YtknhgfofmkpnfaaGreatS5r
import Derived.Handy
import Derived.LaidEqlPtr
import Derived.Deep.RegionHeld3
namespace Go.Proofs.YtknhgfofmkpnfaaGreat.Devs
set_option linter.unusedSectionVars false
variable [Inhabited Lane.OTab]
open Go.RowKit Go.Maps Go.ChangeShapes Go.WideShapes Go.ChangeAt Fifo Orow Word
set_option linter.unusedVariables false
set_option linter.unusedSimpArgs false

set_option maxRecDepth 100000 in
set_option maxHeartbeats 8000000 in
theorem Fresh_any (Bk b : Nat) (d : Dv) (O : Nat → Prop) {X : Nat → Prop} (w : World) (h : Dev Bk w b d O X) :
    Calls Tryz.prog 10 #[.pointer (some ⟨b, 0, none⟩)] w fun e w' => e = .returned (.bool (freshD d)) ∧ Below w.heap.size w w' := by
  have HN := Lib.hid (show (lookD d).length ≤ 1000000 by have := (look_len h.ok).2; omega)
  obtain ⟨m, k, Q, h⟩ := h
  unfold freshD
  obtain ⟨l, hl⟩ : ∃ l, lookD d = l := ⟨_, rfl⟩
  obtain ⟨lz, hlz⟩ : ∃ l, lookD (zeroD d) = l := ⟨_, rfl⟩
  rw [hl] at HN
  rw [hl, hlz]
  cases d with
  | ram bs =>
    have c0 : ∀ w', Below w.heap.size w w' → w'.cell? ⟨b, 0, none⟩ = some (.iface 80 (.agg #[ptr m])) := fun w' hb => (h.blk.keep hb).at 0 rfl
    have c1 : ∀ w', Below w.heap.size w w' → w'.cell? ⟨b, 1, none⟩ = some (begV (.ram bs) k) := fun w' hb => (h.blk.keep hb).at 1 rfl
    simp only [begV] at c1
    have IS := Lib.hid (fun W (hb : Below w.heap.size w W) => is_yes b W ((h.blk.keep hb).at 2 rfl))
    have LK := Lib.hid (fun W (hb : Below w.heap.size w W) => ram_look m bs Q W (h.obj.keep hb))
    have LZ := Lib.hid (fun m' Q' W (hq : ObjAt W m' (.ram (Ram.zerosB bs.length)) Q') => ram_look m' (Ram.zerosB bs.length) Q' W hq)
    have BG := Lib.hid (show ∀ W, Below w.heap.size w W → Calls Tryz.prog 33 #[ptr k] W fun z w' => (∃ m' Q', z = .returned (.iface 80 (.agg #[ptr m'])) ∧ ObjAt w' m' (.ram (Ram.zerosB bs.length)) Q' ∧ ∀ j, Q' j → W.heap.size ≤ j) ∧ Below W.heap.size W w' from fun W hb => beg_ram k bs.length W (zero_size h.obj.ok bs rfl) (h.laid.1.below hb) (h.beg.1.keep hb))
    have hlz : lookD (.ram (Ram.zerosB bs.length)) = lz := hlz
    rw [hl] at LK
    rw [hlz] at LZ
    clear h hl hlz
    go_enter Tryz.func10, Tryz.ntmps10
    go_wp2_with fail
    go_region_held3 (fun w' => Below w.heap.size w w')
      (first | assumption | exact (Below.refl _ _).drew | exact Below.refl _ _)
      (first
        | (go_at_call 26; refine (IS.out _ (by assumption)).mono ?_; rintro z w2 ⟨rfl, rfl⟩)
        | (go_at_call 27; refine (equal_any (own_keep (own_keep ho hb2) hb3) ho3 HN.out).mono ?_; rintro z w5 ⟨rfl, hb5⟩; have hbS5 : Below w.heap.size w w5 := Below.trans (by assumption) (Below.mono hb5 (Below.size (by assumption))))
        | (go_at_call 187; refine (LZ.out _ _ _ hq).mono ?_; rintro z w4 ⟨⟨a3, c3, rfl, ho3⟩, hb3⟩; have hbS4 : Below w.heap.size w w4 := Below.trans (by assumption) (Below.mono hb3 (Below.size (by assumption))))
        | (go_at_call 33; refine (BG.out _ (by assumption)).mono ?_; rintro z w3 ⟨⟨m', Q', rfl, hq, hn⟩, hb2⟩; have hbS3 : Below w.heap.size w w3 := Below.trans (by assumption) (Below.mono hb2 (Below.size (by assumption))))
        | (go_at_call 187; refine (LK.out _ (by assumption)).mono ?_; rintro z w2 ⟨⟨a, c, rfl, ho⟩, hb⟩; have hbS2 : Below w.heap.size w w2 := Below.trans (by assumption) (Below.mono hb (Below.size (by assumption)))))
    have F := Lib.hid hbS5
    clear ho ho3 hb hb2 hb3 hb5 hbS2 hbS3 hbS4 hbS5 hq hn c0 c1 BG LZ LK
    go_wp2_with fail
    go_ret
    exact ⟨rfl, F.out⟩
  | tim s =>
    have c0 : ∀ w', Below w.heap.size w w' → w'.cell? ⟨b, 0, none⟩ = some (.iface 68 (.agg #[ptr m])) := fun w' hb => (h.blk.keep hb).at 0 rfl
    have c1 : ∀ w', Below w.heap.size w w' → w'.cell? ⟨b, 1, none⟩ = some (begV (.tim s) k) := fun w' hb => (h.blk.keep hb).at 1 rfl
    simp only [begV] at c1
    have IS := Lib.hid (fun W (hb : Below w.heap.size w W) => is_yes b W ((h.blk.keep hb).at 2 rfl))
    have LK := Lib.hid (fun W (hb : Below w.heap.size w W) => tim_look m s Q W (h.obj.keep hb))
    have LZ := Lib.hid (fun m' Q' W (hq : ObjAt W m' (.tim Timer.zeroS) Q') => tim_look m' Timer.zeroS Q' W hq)
    have BG := Lib.hid (show ∀ W, Below w.heap.size w W → Calls Tryz.prog 35 #[] W fun z w' => (∃ m' Q', z = .returned (.iface 68 (.agg #[ptr m'])) ∧ ObjAt w' m' (.tim Timer.zeroS) Q' ∧ ∀ j, Q' j → W.heap.size ≤ j) ∧ Below W.heap.size W w' from fun W hb => beg_tim W)
    have hlz : lookD (.tim Timer.zeroS) = lz := hlz
    rw [hl] at LK
    rw [hlz] at LZ
    clear h hl hlz
    go_enter Tryz.func10, Tryz.ntmps10
    go_wp2_with fail
    go_region_held3 (fun w' => Below w.heap.size w w')
      (first | assumption | exact (Below.refl _ _).drew | exact Below.refl _ _)
      (first
        | (go_at_call 26; refine (IS.out _ (by assumption)).mono ?_; rintro z w2 ⟨rfl, rfl⟩)
        | (go_at_call 27; refine (equal_any (own_keep (own_keep ho hb2) hb3) ho3 HN.out).mono ?_; rintro z w5 ⟨rfl, hb5⟩; have hbS5 : Below w.heap.size w w5 := Below.trans (by assumption) (Below.mono hb5 (Below.size (by assumption))))
        | (go_at_call 126; refine (LZ.out _ _ _ hq).mono ?_; rintro z w4 ⟨⟨a3, c3, rfl, ho3⟩, hb3⟩; have hbS4 : Below w.heap.size w w4 := Below.trans (by assumption) (Below.mono hb3 (Below.size (by assumption))))
        | (go_at_call 35; refine (BG.out _ (by assumption)).mono ?_; rintro z w3 ⟨⟨m', Q', rfl, hq, hn⟩, hb2⟩; have hbS3 : Below w.heap.size w w3 := Below.trans (by assumption) (Below.mono hb2 (Below.size (by assumption))))
        | (go_at_call 126; refine (LK.out _ (by assumption)).mono ?_; rintro z w2 ⟨⟨a, c, rfl, ho⟩, hb⟩; have hbS2 : Below w.heap.size w w2 := Below.trans (by assumption) (Below.mono hb (Below.size (by assumption)))))
    have F := Lib.hid hbS5
    clear ho ho3 hb hb2 hb3 hb5 hbS2 hbS3 hbS4 hbS5 hq hn c0 c1 BG LZ LK
    go_wp2_with fail
    go_ret
    exact ⟨rfl, F.out⟩
  | uar u =>
    have c0 : ∀ w', Below w.heap.size w w' → w'.cell? ⟨b, 0, none⟩ = some (.iface 73 (.agg #[ptr m])) := fun w' hb => (h.blk.keep hb).at 0 rfl
    have c1 : ∀ w', Below w.heap.size w w' → w'.cell? ⟨b, 1, none⟩ = some (begV (.uar u) k) := fun w' hb => (h.blk.keep hb).at 1 rfl
    simp only [begV] at c1
    have IS := Lib.hid (fun W (hb : Below w.heap.size w W) => is_yes b W ((h.blk.keep hb).at 2 rfl))
    have LK := Lib.hid (fun W (hb : Below w.heap.size w W) => uar_look m u Q W (h.obj.keep hb))
    have LZ := Lib.hid (fun m' Q' W (hq : ObjAt W m' (.uar Uart.zeroU) Q') => uar_look m' Uart.zeroU Q' W hq)
    have BG := Lib.hid (show ∀ W, Below w.heap.size w W → Calls Tryz.prog 38 #[] W fun z w' => (∃ m' Q', z = .returned (.iface 73 (.agg #[ptr m'])) ∧ ObjAt w' m' (.uar Uart.zeroU) Q' ∧ ∀ j, Q' j → W.heap.size ≤ j) ∧ Below W.heap.size W w' from fun W hb => beg_uar W)
    have hlz : lookD (.uar Uart.zeroU) = lz := hlz
    rw [hl] at LK
    rw [hlz] at LZ
    clear h hl hlz
    go_enter Tryz.func10, Tryz.ntmps10
    go_wp2_with fail
    go_region_held3 (fun w' => Below w.heap.size w w')
      (first | assumption | exact (Below.refl _ _).drew | exact Below.refl _ _)
      (first
        | (go_at_call 26; refine (IS.out _ (by assumption)).mono ?_; rintro z w2 ⟨rfl, rfl⟩)
        | (go_at_call 27; refine (equal_any (own_keep (own_keep ho hb2) hb3) ho3 HN.out).mono ?_; rintro z w5 ⟨rfl, hb5⟩; have hbS5 : Below w.heap.size w w5 := Below.trans (by assumption) (Below.mono hb5 (Below.size (by assumption))))
        | (go_at_call 147; refine (LZ.out _ _ _ hq).mono ?_; rintro z w4 ⟨⟨a3, c3, rfl, ho3⟩, hb3⟩; have hbS4 : Below w.heap.size w w4 := Below.trans (by assumption) (Below.mono hb3 (Below.size (by assumption))))
        | (go_at_call 38; refine (BG.out _ (by assumption)).mono ?_; rintro z w3 ⟨⟨m', Q', rfl, hq, hn⟩, hb2⟩; have hbS3 : Below w.heap.size w w3 := Below.trans (by assumption) (Below.mono hb2 (Below.size (by assumption))))
        | (go_at_call 147; refine (LK.out _ (by assumption)).mono ?_; rintro z w2 ⟨⟨a, c, rfl, ho⟩, hb⟩; have hbS2 : Below w.heap.size w w2 := Below.trans (by assumption) (Below.mono hb (Below.size (by assumption)))))
    have F := Lib.hid hbS5
    clear ho ho3 hb hb2 hb3 hb5 hbS2 hbS3 hbS4 hbS5 hq hn c0 c1 BG LZ LK
    go_wp2_with fail
    go_ret
    exact ⟨rfl, F.out⟩
  | box x =>
    have c0 : ∀ w', Below w.heap.size w w' → w'.cell? ⟨b, 0, none⟩ = some (.iface 92 (.agg #[ptr m])) := fun w' hb => (h.blk.keep hb).at 0 rfl
    have c1 : ∀ w', Below w.heap.size w w' → w'.cell? ⟨b, 1, none⟩ = some (begV (.box x) k) := fun w' hb => (h.blk.keep hb).at 1 rfl
    simp only [begV] at c1
    have IS := Lib.hid (fun W (hb : Below w.heap.size w W) => is_yes b W ((h.blk.keep hb).at 2 rfl))
    have LK := Lib.hid (fun W (hb : Below w.heap.size w W) => box_look m x Q W (h.obj.keep hb))
    have LZ := Lib.hid (fun m' Q' W (hq : ObjAt W m' (.box Mbox.zeroX) Q') => box_look m' Mbox.zeroX Q' W hq)
    have BG := Lib.hid (show ∀ W, Below w.heap.size w W → Calls Tryz.prog 41 #[] W fun z w' => (∃ m' Q', z = .returned (.iface 92 (.agg #[ptr m'])) ∧ ObjAt w' m' (.box Mbox.zeroX) Q' ∧ ∀ j, Q' j → W.heap.size ≤ j) ∧ Below W.heap.size W w' from fun W hb => beg_box W)
    have hlz : lookD (.box Mbox.zeroX) = lz := hlz
    rw [hl] at LK
    rw [hlz] at LZ
    clear h hl hlz
    go_enter Tryz.func10, Tryz.ntmps10
    go_wp2_with fail
    go_region_held3 (fun w' => Below w.heap.size w w')
      (first | assumption | exact (Below.refl _ _).drew | exact Below.refl _ _)
      (first
        | (go_at_call 26; refine (IS.out _ (by assumption)).mono ?_; rintro z w2 ⟨rfl, rfl⟩)
        | (go_at_call 27; refine (equal_any (own_keep (own_keep ho hb2) hb3) ho3 HN.out).mono ?_; rintro z w5 ⟨rfl, hb5⟩; have hbS5 : Below w.heap.size w w5 := Below.trans (by assumption) (Below.mono hb5 (Below.size (by assumption))))
        | (go_at_call 230; refine (LZ.out _ _ _ hq).mono ?_; rintro z w4 ⟨⟨a3, c3, rfl, ho3⟩, hb3⟩; have hbS4 : Below w.heap.size w w4 := Below.trans (by assumption) (Below.mono hb3 (Below.size (by assumption))))
        | (go_at_call 41; refine (BG.out _ (by assumption)).mono ?_; rintro z w3 ⟨⟨m', Q', rfl, hq, hn⟩, hb2⟩; have hbS3 : Below w.heap.size w w3 := Below.trans (by assumption) (Below.mono hb2 (Below.size (by assumption))))
        | (go_at_call 230; refine (LK.out _ (by assumption)).mono ?_; rintro z w2 ⟨⟨a, c, rfl, ho⟩, hb⟩; have hbS2 : Below w.heap.size w w2 := Below.trans (by assumption) (Below.mono hb (Below.size (by assumption)))))
    have F := Lib.hid hbS5
    clear ho ho3 hb hb2 hb3 hb5 hbS2 hbS3 hbS4 hbS5 hq hn c0 c1 BG LZ LK
    go_wp2_with fail
    go_ret
    exact ⟨rfl, F.out⟩
  | rot s =>
    have c0 : ∀ w', Below w.heap.size w w' → w'.cell? ⟨b, 0, none⟩ = some (.iface 99 (.agg #[ptr m])) := fun w' hb => (h.blk.keep hb).at 0 rfl
    have c1 : ∀ w', Below w.heap.size w w' → w'.cell? ⟨b, 1, none⟩ = some (begV (.rot s) k) := fun w' hb => (h.blk.keep hb).at 1 rfl
    simp only [begV] at c1
    have IS := Lib.hid (fun W (hb : Below w.heap.size w W) => is_yes b W ((h.blk.keep hb).at 2 rfl))
    have LK := Lib.hid (fun W (hb : Below w.heap.size w W) => rot_look m s Q W (h.obj.keep hb))
    have LZ := Lib.hid (fun m' Q' W (hq : ObjAt W m' (.rot Rotor.zeroR) Q') => rot_look m' Rotor.zeroR Q' W hq)
    have BG := Lib.hid (show ∀ W, Below w.heap.size w W → Calls Tryz.prog 44 #[] W fun z w' => (∃ m' Q', z = .returned (.iface 99 (.agg #[ptr m'])) ∧ ObjAt w' m' (.rot Rotor.zeroR) Q' ∧ ∀ j, Q' j → W.heap.size ≤ j) ∧ Below W.heap.size W w' from fun W hb => beg_rot W)
    have hlz : lookD (.rot Rotor.zeroR) = lz := hlz
    rw [hl] at LK
    rw [hlz] at LZ
    clear h hl hlz
    go_enter Tryz.func10, Tryz.ntmps10
    go_wp2_with fail
    go_region_held3 (fun w' => Below w.heap.size w w')
      (first | assumption | exact (Below.refl _ _).drew | exact Below.refl _ _)
      (first
        | (go_at_call 26; refine (IS.out _ (by assumption)).mono ?_; rintro z w2 ⟨rfl, rfl⟩)
        | (go_at_call 27; refine (equal_any (own_keep (own_keep ho hb2) hb3) ho3 HN.out).mono ?_; rintro z w5 ⟨rfl, hb5⟩; have hbS5 : Below w.heap.size w w5 := Below.trans (by assumption) (Below.mono hb5 (Below.size (by assumption))))
        | (go_at_call 265; refine (LZ.out _ _ _ hq).mono ?_; rintro z w4 ⟨⟨a3, c3, rfl, ho3⟩, hb3⟩; have hbS4 : Below w.heap.size w w4 := Below.trans (by assumption) (Below.mono hb3 (Below.size (by assumption))))
        | (go_at_call 44; refine (BG.out _ (by assumption)).mono ?_; rintro z w3 ⟨⟨m', Q', rfl, hq, hn⟩, hb2⟩; have hbS3 : Below w.heap.size w w3 := Below.trans (by assumption) (Below.mono hb2 (Below.size (by assumption))))
        | (go_at_call 265; refine (LK.out _ (by assumption)).mono ?_; rintro z w2 ⟨⟨a, c, rfl, ho⟩, hb⟩; have hbS2 : Below w.heap.size w w2 := Below.trans (by assumption) (Below.mono hb (Below.size (by assumption)))))
    have F := Lib.hid hbS5
    clear ho ho3 hb hb2 hb3 hb5 hbS2 hbS3 hbS4 hbS5 hq hn c0 c1 BG LZ LK
    go_wp2_with fail
    go_ret
    exact ⟨rfl, F.out⟩
  | eng e =>
    have c0 : ∀ w', Below w.heap.size w w' → w'.cell? ⟨b, 0, none⟩ = some (.iface 106 (.agg #[ptr m])) := fun w' hb => (h.blk.keep hb).at 0 rfl
    have c1 : ∀ w', Below w.heap.size w w' → w'.cell? ⟨b, 1, none⟩ = some (begV (.eng e) k) := fun w' hb => (h.blk.keep hb).at 1 rfl
    simp only [begV] at c1
    have IS := Lib.hid (fun W (hb : Below w.heap.size w W) => is_yes b W ((h.blk.keep hb).at 2 rfl))
    have LK := Lib.hid (fun W (hb : Below w.heap.size w W) => eng_look m e Q W (h.obj.keep hb))
    have LZ := Lib.hid (fun m' Q' W (hq : ObjAt W m' (.eng Dma.zeroE) Q') => eng_look m' Dma.zeroE Q' W hq)
    have BG := Lib.hid (show ∀ W, Below w.heap.size w W → Calls Tryz.prog 47 #[] W fun z w' => (∃ m' Q', z = .returned (.iface 106 (.agg #[ptr m'])) ∧ ObjAt w' m' (.eng Dma.zeroE) Q' ∧ ∀ j, Q' j → W.heap.size ≤ j) ∧ Below W.heap.size W w' from fun W hb => beg_eng W)
    have hlz : lookD (.eng Dma.zeroE) = lz := hlz
    rw [hl] at LK
    rw [hlz] at LZ
    clear h hl hlz
    go_enter Tryz.func10, Tryz.ntmps10
    go_wp2_with fail
    go_region_held3 (fun w' => Below w.heap.size w w')
      (first | assumption | exact (Below.refl _ _).drew | exact Below.refl _ _)
      (first
        | (go_at_call 26; refine (IS.out _ (by assumption)).mono ?_; rintro z w2 ⟨rfl, rfl⟩)
        | (go_at_call 27; refine (equal_any (own_keep (own_keep ho hb2) hb3) ho3 HN.out).mono ?_; rintro z w5 ⟨rfl, hb5⟩; have hbS5 : Below w.heap.size w w5 := Below.trans (by assumption) (Below.mono hb5 (Below.size (by assumption))))
        | (go_at_call 287; refine (LZ.out _ _ _ hq).mono ?_; rintro z w4 ⟨⟨a3, c3, rfl, ho3⟩, hb3⟩; have hbS4 : Below w.heap.size w w4 := Below.trans (by assumption) (Below.mono hb3 (Below.size (by assumption))))
        | (go_at_call 47; refine (BG.out _ (by assumption)).mono ?_; rintro z w3 ⟨⟨m', Q', rfl, hq, hn⟩, hb2⟩; have hbS3 : Below w.heap.size w w3 := Below.trans (by assumption) (Below.mono hb2 (Below.size (by assumption))))
        | (go_at_call 287; refine (LK.out _ (by assumption)).mono ?_; rintro z w2 ⟨⟨a, c, rfl, ho⟩, hb⟩; have hbS2 : Below w.heap.size w w2 := Below.trans (by assumption) (Below.mono hb (Below.size (by assumption)))))
    have F := Lib.hid hbS5
    clear ho ho3 hb hb2 hb3 hb5 hbS2 hbS3 hbS4 hbS5 hq hn c0 c1 BG LZ LK
    go_wp2_with fail
    go_ret
    exact ⟨rfl, F.out⟩
end Go.Proofs.YtknhgfofmkpnfaaGreat.Devs
