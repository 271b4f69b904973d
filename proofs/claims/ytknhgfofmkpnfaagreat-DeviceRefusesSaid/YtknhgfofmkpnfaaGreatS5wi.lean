/- Package device's contracts. Dev Bk w b d O X: the device in block b has d; O: the blocks that are its own; X: those that are kept for good; below Bk lies what must stay (the table). -/
import Derived.Test.YtknhgfofmkpnfaaGreatS5wf
import Derived.Test.YtknhgfofmkpnfaaGreatS5r
import Derived.Handy
import Derived.LaidEqlPtr
import Derived.Deep.RegionHeld3
namespace Go.Proofs.YtknhgfofmkpnfaaGreat.Devs
set_option linter.unusedSectionVars false
variable [Inhabited Lane.OTab]
open Go.RowKit Go.Maps Go.ChangeShapes Go.WideShapes Go.ChangeAt Fifo Orow Word
set_option linter.unusedVariables false
set_option linter.unusedSimpArgs false

set_option maxRecDepth 100000 in
set_option maxHeartbeats 8000000 in
theorem Copy_any (Bk b : Nat) (d : Dv) (O : Nat → Prop) {X : Nat → Prop} (w : World) (h : Dev Bk w b d O X) :
    Calls Tryz.prog 15 #[.pointer (some ⟨b, 0, none⟩)] w fun e w' => (∃ c O', e = .returned (.pointer (some ⟨c, 0, none⟩)) ∧ Dev Bk w' c d O' X ∧ ∀ j, O' j → w.heap.size ≤ j) ∧ Below w.heap.size w w' := by
  obtain ⟨m, k, Q, h⟩ := h
  have IS := Lib.hid (is_yes b w (h.blk.at 2 rfl))
  cases d with
  | ram bs =>
    have c0 : ∀ w', Below w.heap.size w w' → w'.cell? ⟨b, 0, none⟩ = some (.iface 80 (.agg #[ptr m])) := fun w' hb => (h.blk.keep hb).at 0 rfl
    have c1 : ∀ w', Below w.heap.size w w' → w'.cell? ⟨b, 1, none⟩ = some (begV (.ram bs) k) := fun w' hb => (h.blk.keep hb).at 1 rfl
    simp only [begV] at c1
    have AP := Lib.hid (fun W (hb : Below w.heap.size w W) => ram_apart m bs Q W (h.obj.keep hb))
    have LD := Lib.hid (laid_any (.ram bs))
    simp only [partV, begV] at LD
    have FIN := Lib.hid (fun w3 w4 mm QQ (h3 : Below w.heap.size w w3) hq hn h4 hb4 => dev_made (w2 := w) (w3 := w3) (w4 := w4) (m := mm) (k := k) (Q := QQ) (X := X) (d := .ram bs) h.laid (Nat.le_trans (h.bk b ((h.own b).2 (.inl rfl))) (Nat.le_of_lt h.blk.lt)) (Below.refl _ _) h.beg h3 hq hn h4 hb4)
    clear h
    go_enter Tryz.func15, Tryz.ntmps15
    go_wp2_with fail
    refine IS.out.mono ?_
    rintro z w1 ⟨rfl, rfl⟩
    go_wp2_with fail
    go_region_held3 (fun w' => Below w.heap.size w w')
      (first | assumption | exact (Below.refl _ _).drew | exact Below.refl _ _)
      (first
        | (go_at_call 185; refine (AP.out _ (by assumption)).mono ?_; rintro z w2 ⟨⟨mm, QQ, rfl, hq, hn⟩, hb⟩; have hbS : Below w.heap.size w w2 := Below.trans (by assumption) (Below.mono hb (Below.size (by assumption))))
        | (go_at_call 21; refine (LD.out mm k _).mono ?_; rintro z w4 ⟨rfl, h4, hb4⟩; have hbS4 : Below w.heap.size w w4 := Below.trans (by assumption) (Below.mono hb4 (Below.size (by assumption)))))
    have F := Lib.hid (FIN.out w2 w4 mm QQ hbS hq (fun j hj => by have := hn j hj; simpa using this) h4 hb4)
    clear hq hn hb h4 hb4 hbS hbS4 c0 c1 FIN
    go_wp2_with fail
    go_ret
    obtain ⟨⟨O', f1, f2⟩, f3⟩ := F.out
    exact ⟨⟨_, O', rfl, f1, f2⟩, f3⟩
  | tim s =>
    have c0 : ∀ w', Below w.heap.size w w' → w'.cell? ⟨b, 0, none⟩ = some (.iface 68 (.agg #[ptr m])) := fun w' hb => (h.blk.keep hb).at 0 rfl
    have c1 : ∀ w', Below w.heap.size w w' → w'.cell? ⟨b, 1, none⟩ = some (begV (.tim s) k) := fun w' hb => (h.blk.keep hb).at 1 rfl
    simp only [begV] at c1
    have AP := Lib.hid (fun W (hb : Below w.heap.size w W) => tim_apart m s Q W (h.obj.keep hb))
    have LD := Lib.hid (laid_any (.tim s))
    simp only [partV, begV] at LD
    have FIN := Lib.hid (fun w3 w4 mm QQ (h3 : Below w.heap.size w w3) hq hn h4 hb4 => dev_made (w2 := w) (w3 := w3) (w4 := w4) (m := mm) (k := k) (Q := QQ) (X := X) (d := .tim s) h.laid (Nat.le_trans (h.bk b ((h.own b).2 (.inl rfl))) (Nat.le_of_lt h.blk.lt)) (Below.refl _ _) h.beg h3 hq hn h4 hb4)
    clear h
    go_enter Tryz.func15, Tryz.ntmps15
    go_wp2_with fail
    refine IS.out.mono ?_
    rintro z w1 ⟨rfl, rfl⟩
    go_wp2_with fail
    go_region_held3 (fun w' => Below w.heap.size w w')
      (first | assumption | exact (Below.refl _ _).drew | exact Below.refl _ _)
      (first
        | (go_at_call 124; refine (AP.out _ (by assumption)).mono ?_; rintro z w2 ⟨⟨mm, QQ, rfl, hq, hn⟩, hb⟩; have hbS : Below w.heap.size w w2 := Below.trans (by assumption) (Below.mono hb (Below.size (by assumption))))
        | (go_at_call 21; refine (LD.out mm k _).mono ?_; rintro z w4 ⟨rfl, h4, hb4⟩; have hbS4 : Below w.heap.size w w4 := Below.trans (by assumption) (Below.mono hb4 (Below.size (by assumption)))))
    have F := Lib.hid (FIN.out w2 w4 mm QQ hbS hq (fun j hj => by have := hn j hj; simpa using this) h4 hb4)
    clear hq hn hb h4 hb4 hbS hbS4 c0 c1 FIN
    go_wp2_with fail
    go_ret
    obtain ⟨⟨O', f1, f2⟩, f3⟩ := F.out
    exact ⟨⟨_, O', rfl, f1, f2⟩, f3⟩
  | uar u =>
    have c0 : ∀ w', Below w.heap.size w w' → w'.cell? ⟨b, 0, none⟩ = some (.iface 73 (.agg #[ptr m])) := fun w' hb => (h.blk.keep hb).at 0 rfl
    have c1 : ∀ w', Below w.heap.size w w' → w'.cell? ⟨b, 1, none⟩ = some (begV (.uar u) k) := fun w' hb => (h.blk.keep hb).at 1 rfl
    simp only [begV] at c1
    have AP := Lib.hid (fun W (hb : Below w.heap.size w W) => uar_apart m u Q W (h.obj.keep hb))
    have LD := Lib.hid (laid_any (.uar u))
    simp only [partV, begV] at LD
    have FIN := Lib.hid (fun w3 w4 mm QQ (h3 : Below w.heap.size w w3) hq hn h4 hb4 => dev_made (w2 := w) (w3 := w3) (w4 := w4) (m := mm) (k := k) (Q := QQ) (X := X) (d := .uar u) h.laid (Nat.le_trans (h.bk b ((h.own b).2 (.inl rfl))) (Nat.le_of_lt h.blk.lt)) (Below.refl _ _) h.beg h3 hq hn h4 hb4)
    clear h
    go_enter Tryz.func15, Tryz.ntmps15
    go_wp2_with fail
    refine IS.out.mono ?_
    rintro z w1 ⟨rfl, rfl⟩
    go_wp2_with fail
    go_region_held3 (fun w' => Below w.heap.size w w')
      (first | assumption | exact (Below.refl _ _).drew | exact Below.refl _ _)
      (first
        | (go_at_call 145; refine (AP.out _ (by assumption)).mono ?_; rintro z w2 ⟨⟨mm, QQ, rfl, hq, hn⟩, hb⟩; have hbS : Below w.heap.size w w2 := Below.trans (by assumption) (Below.mono hb (Below.size (by assumption))))
        | (go_at_call 21; refine (LD.out mm k _).mono ?_; rintro z w4 ⟨rfl, h4, hb4⟩; have hbS4 : Below w.heap.size w w4 := Below.trans (by assumption) (Below.mono hb4 (Below.size (by assumption)))))
    have F := Lib.hid (FIN.out w2 w4 mm QQ hbS hq (fun j hj => by have := hn j hj; simpa using this) h4 hb4)
    clear hq hn hb h4 hb4 hbS hbS4 c0 c1 FIN
    go_wp2_with fail
    go_ret
    obtain ⟨⟨O', f1, f2⟩, f3⟩ := F.out
    exact ⟨⟨_, O', rfl, f1, f2⟩, f3⟩
  | box x =>
    have c0 : ∀ w', Below w.heap.size w w' → w'.cell? ⟨b, 0, none⟩ = some (.iface 92 (.agg #[ptr m])) := fun w' hb => (h.blk.keep hb).at 0 rfl
    have c1 : ∀ w', Below w.heap.size w w' → w'.cell? ⟨b, 1, none⟩ = some (begV (.box x) k) := fun w' hb => (h.blk.keep hb).at 1 rfl
    simp only [begV] at c1
    have AP := Lib.hid (fun W (hb : Below w.heap.size w W) => box_apart m x Q W (h.obj.keep hb))
    have LD := Lib.hid (laid_any (.box x))
    simp only [partV, begV] at LD
    have FIN := Lib.hid (fun w3 w4 mm QQ (h3 : Below w.heap.size w w3) hq hn h4 hb4 => dev_made (w2 := w) (w3 := w3) (w4 := w4) (m := mm) (k := k) (Q := QQ) (X := X) (d := .box x) h.laid (Nat.le_trans (h.bk b ((h.own b).2 (.inl rfl))) (Nat.le_of_lt h.blk.lt)) (Below.refl _ _) h.beg h3 hq hn h4 hb4)
    clear h
    go_enter Tryz.func15, Tryz.ntmps15
    go_wp2_with fail
    refine IS.out.mono ?_
    rintro z w1 ⟨rfl, rfl⟩
    go_wp2_with fail
    go_region_held3 (fun w' => Below w.heap.size w w')
      (first | assumption | exact (Below.refl _ _).drew | exact Below.refl _ _)
      (first
        | (go_at_call 228; refine (AP.out _ (by assumption)).mono ?_; rintro z w2 ⟨⟨mm, QQ, rfl, hq, hn⟩, hb⟩; have hbS : Below w.heap.size w w2 := Below.trans (by assumption) (Below.mono hb (Below.size (by assumption))))
        | (go_at_call 21; refine (LD.out mm k _).mono ?_; rintro z w4 ⟨rfl, h4, hb4⟩; have hbS4 : Below w.heap.size w w4 := Below.trans (by assumption) (Below.mono hb4 (Below.size (by assumption)))))
    have F := Lib.hid (FIN.out w2 w4 mm QQ hbS hq (fun j hj => by have := hn j hj; simpa using this) h4 hb4)
    clear hq hn hb h4 hb4 hbS hbS4 c0 c1 FIN
    go_wp2_with fail
    go_ret
    obtain ⟨⟨O', f1, f2⟩, f3⟩ := F.out
    exact ⟨⟨_, O', rfl, f1, f2⟩, f3⟩
  | rot s =>
    have c0 : ∀ w', Below w.heap.size w w' → w'.cell? ⟨b, 0, none⟩ = some (.iface 99 (.agg #[ptr m])) := fun w' hb => (h.blk.keep hb).at 0 rfl
    have c1 : ∀ w', Below w.heap.size w w' → w'.cell? ⟨b, 1, none⟩ = some (begV (.rot s) k) := fun w' hb => (h.blk.keep hb).at 1 rfl
    simp only [begV] at c1
    have AP := Lib.hid (fun W (hb : Below w.heap.size w W) => rot_apart m s Q W (h.obj.keep hb))
    have LD := Lib.hid (laid_any (.rot s))
    simp only [partV, begV] at LD
    have FIN := Lib.hid (fun w3 w4 mm QQ (h3 : Below w.heap.size w w3) hq hn h4 hb4 => dev_made (w2 := w) (w3 := w3) (w4 := w4) (m := mm) (k := k) (Q := QQ) (X := X) (d := .rot s) h.laid (Nat.le_trans (h.bk b ((h.own b).2 (.inl rfl))) (Nat.le_of_lt h.blk.lt)) (Below.refl _ _) h.beg h3 hq hn h4 hb4)
    clear h
    go_enter Tryz.func15, Tryz.ntmps15
    go_wp2_with fail
    refine IS.out.mono ?_
    rintro z w1 ⟨rfl, rfl⟩
    go_wp2_with fail
    go_region_held3 (fun w' => Below w.heap.size w w')
      (first | assumption | exact (Below.refl _ _).drew | exact Below.refl _ _)
      (first
        | (go_at_call 263; refine (AP.out _ (by assumption)).mono ?_; rintro z w2 ⟨⟨mm, QQ, rfl, hq, hn⟩, hb⟩; have hbS : Below w.heap.size w w2 := Below.trans (by assumption) (Below.mono hb (Below.size (by assumption))))
        | (go_at_call 21; refine (LD.out mm k _).mono ?_; rintro z w4 ⟨rfl, h4, hb4⟩; have hbS4 : Below w.heap.size w w4 := Below.trans (by assumption) (Below.mono hb4 (Below.size (by assumption)))))
    have F := Lib.hid (FIN.out w2 w4 mm QQ hbS hq (fun j hj => by have := hn j hj; simpa using this) h4 hb4)
    clear hq hn hb h4 hb4 hbS hbS4 c0 c1 FIN
    go_wp2_with fail
    go_ret
    obtain ⟨⟨O', f1, f2⟩, f3⟩ := F.out
    exact ⟨⟨_, O', rfl, f1, f2⟩, f3⟩
  | eng e =>
    have c0 : ∀ w', Below w.heap.size w w' → w'.cell? ⟨b, 0, none⟩ = some (.iface 106 (.agg #[ptr m])) := fun w' hb => (h.blk.keep hb).at 0 rfl
    have c1 : ∀ w', Below w.heap.size w w' → w'.cell? ⟨b, 1, none⟩ = some (begV (.eng e) k) := fun w' hb => (h.blk.keep hb).at 1 rfl
    simp only [begV] at c1
    have AP := Lib.hid (fun W (hb : Below w.heap.size w W) => eng_apart m e Q W (h.obj.keep hb))
    have LD := Lib.hid (laid_any (.eng e))
    simp only [partV, begV] at LD
    have FIN := Lib.hid (fun w3 w4 mm QQ (h3 : Below w.heap.size w w3) hq hn h4 hb4 => dev_made (w2 := w) (w3 := w3) (w4 := w4) (m := mm) (k := k) (Q := QQ) (X := X) (d := .eng e) h.laid (Nat.le_trans (h.bk b ((h.own b).2 (.inl rfl))) (Nat.le_of_lt h.blk.lt)) (Below.refl _ _) h.beg h3 hq hn h4 hb4)
    clear h
    go_enter Tryz.func15, Tryz.ntmps15
    go_wp2_with fail
    refine IS.out.mono ?_
    rintro z w1 ⟨rfl, rfl⟩
    go_wp2_with fail
    go_region_held3 (fun w' => Below w.heap.size w w')
      (first | assumption | exact (Below.refl _ _).drew | exact Below.refl _ _)
      (first
        | (go_at_call 285; refine (AP.out _ (by assumption)).mono ?_; rintro z w2 ⟨⟨mm, QQ, rfl, hq, hn⟩, hb⟩; have hbS : Below w.heap.size w w2 := Below.trans (by assumption) (Below.mono hb (Below.size (by assumption))))
        | (go_at_call 21; refine (LD.out mm k _).mono ?_; rintro z w4 ⟨rfl, h4, hb4⟩; have hbS4 : Below w.heap.size w w4 := Below.trans (by assumption) (Below.mono hb4 (Below.size (by assumption)))))
    have F := Lib.hid (FIN.out w2 w4 mm QQ hbS hq (fun j hj => by have := hn j hj; simpa using this) h4 hb4)
    clear hq hn hb h4 hb4 hbS hbS4 c0 c1 FIN
    go_wp2_with fail
    go_ret
    obtain ⟨⟨O', f1, f2⟩, f3⟩ := F.out
    exact ⟨⟨_, O', rfl, f1, f2⟩, f3⟩
end Go.Proofs.YtknhgfofmkpnfaaGreat.Devs
