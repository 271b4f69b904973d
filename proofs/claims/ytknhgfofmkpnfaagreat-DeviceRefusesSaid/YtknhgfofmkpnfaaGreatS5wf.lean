/- Package device's contracts. Dev Bk w b d O X: the device in block b has d; O: the blocks that are its own; X: those that are kept for good; below Bk lies what must stay (the table). -/
import Derived.Test.YtknhgfofmkpnfaaGreatS5we
import Derived.Test.YtknhgfofmkpnfaaGreatS5r
import Derived.Handy
import Derived.LaidEqlPtr
import Derived.Deep.RegionHeld3
namespace Go.Proofs.YtknhgfofmkpnfaaGreat.Devs
set_option linter.unusedSectionVars false
variable [Inhabited Lane.OTab]
open Go.RowKit Go.Maps Go.ChangeShapes Go.WideShapes Go.ChangeAt Fifo Orow Word
set_option linter.unusedVariables false
set_option linter.unusedSimpArgs false

theorem dev_info : (Tryz.prog.info? 63).isSome = true := by kernel_rfl
theorem eq_own (a : Addr) (w : World) : (binOp .eql 28 (.pointer (some a)) (.pointer (some a))).run Tryz.prog w = .ok (.bool true) w := by
  obtain ⟨j, hj⟩ := Option.isSome_iff_exists.1 dev_info
  exact run_eql_ptr_same w a Tryz.underlying28 hj
theorem is_yes (b : Nat) (w : World) (h : w.cell? ⟨b, 2, none⟩ = some (ptr b)) :
    Calls Tryz.prog 26 #[ptr b] w fun e w' => e = .returned (.bool true) ∧ w = w' := by
  have he := eq_own ⟨b, 0, none⟩ w
  go_enter Tryz.func26, Tryz.ntmps26
  go_wp2_with fail
  go_ret
  exact ⟨rfl, rfl⟩
theorem device_yes (b : Nat) (w : World) (h : w.cell? ⟨b, 2, none⟩ = some (ptr b)) :
    Calls Tryz.prog 28 #[ptr b] w fun e w' => e = .returned (ptr b) ∧ w = w' := by
  have H := Lib.hid (is_yes b w h)
  clear h
  go_enter Tryz.func28, Tryz.ntmps28
  go_wp2_with fail
  refine H.out.mono ?_
  rintro e w1 ⟨rfl, rfl⟩
  go_wp2_with fail
  go_ret
  exact ⟨rfl, rfl⟩
theorem part_same {d d' : Dv} (e : zeroD d' = zeroD d) (m : Nat) : partV d' m = partV d m := by
  cases d <;> cases d' <;> first | rfl | (simp [zeroD] at e; done)
theorem DevS.turned {Bk : Nat} {w w' : World} {b m k : Nat} {d d' : Dv} {O X Q : Nat → Prop} (h : DevS Bk w b m k d O X Q) (l : ObjLeft w w' m d' Q) (ez : zeroD d' = zeroD d) : Left Bk w w' b d' O X := by
  obtain ⟨Q', h1, h2, h3⟩ := l
  exact h.turn (Below.refl _ _) h2 h1 h3 (part_same ez m) ez
theorem ta_ram_tim (m : Nat) (w : World) : (Instr.typeAssert (.iface 80 (.agg #[ptr m])) 51 68 true).run Tryz.prog w = .ok (.tuple #[.agg #[.pointer none], .bool false]) w := by kernel_rfl
theorem ta_ram_uar (m : Nat) (w : World) : (Instr.typeAssert (.iface 80 (.agg #[ptr m])) 51 73 true).run Tryz.prog w = .ok (.tuple #[.agg #[.pointer none], .bool false]) w := by kernel_rfl
theorem ta_ram_eng (m : Nat) (w : World) : (Instr.typeAssert (.iface 80 (.agg #[ptr m])) 51 106 true).run Tryz.prog w = .ok (.tuple #[.agg #[.pointer none], .bool false]) w := by kernel_rfl
theorem ta_tim_tim (m : Nat) (w : World) : (Instr.typeAssert (.iface 68 (.agg #[ptr m])) 51 68 true).run Tryz.prog w = .ok (.tuple #[.agg #[ptr m], .bool true]) w := by kernel_rfl
theorem ta_tim_uar (m : Nat) (w : World) : (Instr.typeAssert (.iface 68 (.agg #[ptr m])) 51 73 true).run Tryz.prog w = .ok (.tuple #[.agg #[.pointer none], .bool false]) w := by kernel_rfl
theorem ta_tim_eng (m : Nat) (w : World) : (Instr.typeAssert (.iface 68 (.agg #[ptr m])) 51 106 true).run Tryz.prog w = .ok (.tuple #[.agg #[.pointer none], .bool false]) w := by kernel_rfl
theorem ta_uar_tim (m : Nat) (w : World) : (Instr.typeAssert (.iface 73 (.agg #[ptr m])) 51 68 true).run Tryz.prog w = .ok (.tuple #[.agg #[.pointer none], .bool false]) w := by kernel_rfl
theorem ta_uar_uar (m : Nat) (w : World) : (Instr.typeAssert (.iface 73 (.agg #[ptr m])) 51 73 true).run Tryz.prog w = .ok (.tuple #[.agg #[ptr m], .bool true]) w := by kernel_rfl
theorem ta_uar_eng (m : Nat) (w : World) : (Instr.typeAssert (.iface 73 (.agg #[ptr m])) 51 106 true).run Tryz.prog w = .ok (.tuple #[.agg #[.pointer none], .bool false]) w := by kernel_rfl
theorem ta_box_tim (m : Nat) (w : World) : (Instr.typeAssert (.iface 92 (.agg #[ptr m])) 51 68 true).run Tryz.prog w = .ok (.tuple #[.agg #[.pointer none], .bool false]) w := by kernel_rfl
theorem ta_box_uar (m : Nat) (w : World) : (Instr.typeAssert (.iface 92 (.agg #[ptr m])) 51 73 true).run Tryz.prog w = .ok (.tuple #[.agg #[.pointer none], .bool false]) w := by kernel_rfl
theorem ta_box_eng (m : Nat) (w : World) : (Instr.typeAssert (.iface 92 (.agg #[ptr m])) 51 106 true).run Tryz.prog w = .ok (.tuple #[.agg #[.pointer none], .bool false]) w := by kernel_rfl
theorem ta_rot_tim (m : Nat) (w : World) : (Instr.typeAssert (.iface 99 (.agg #[ptr m])) 51 68 true).run Tryz.prog w = .ok (.tuple #[.agg #[.pointer none], .bool false]) w := by kernel_rfl
theorem ta_rot_uar (m : Nat) (w : World) : (Instr.typeAssert (.iface 99 (.agg #[ptr m])) 51 73 true).run Tryz.prog w = .ok (.tuple #[.agg #[.pointer none], .bool false]) w := by kernel_rfl
theorem ta_rot_eng (m : Nat) (w : World) : (Instr.typeAssert (.iface 99 (.agg #[ptr m])) 51 106 true).run Tryz.prog w = .ok (.tuple #[.agg #[.pointer none], .bool false]) w := by kernel_rfl
theorem ta_eng_tim (m : Nat) (w : World) : (Instr.typeAssert (.iface 106 (.agg #[ptr m])) 51 68 true).run Tryz.prog w = .ok (.tuple #[.agg #[.pointer none], .bool false]) w := by kernel_rfl
theorem ta_eng_uar (m : Nat) (w : World) : (Instr.typeAssert (.iface 106 (.agg #[ptr m])) 51 73 true).run Tryz.prog w = .ok (.tuple #[.agg #[.pointer none], .bool false]) w := by kernel_rfl
theorem ta_eng_eng (m : Nat) (w : World) : (Instr.typeAssert (.iface 106 (.agg #[ptr m])) 51 106 true).run Tryz.prog w = .ok (.tuple #[.agg #[ptr m], .bool true]) w := by kernel_rfl
theorem dev_reset {Bk : Nat} {w w2 : World} {b m m' k : Nat} {d : Dv} {O X Q Q' : Nat → Prop} (h : DevS Bk w b m k d O X Q) (hb : Below w.heap.size w w2) (hq : ObjAt w2 m' (zeroD d) Q') (hn : ∀ j, Q' j → w.heap.size ≤ j) :
    Left Bk w (w2.setCell ⟨b, 0, none⟩ (partV (zeroD d) m')) b (zeroD d) O X := by
  have hl := h.blk.lt
  have l2 := hq.lt
  have Ob := (h.own b).2 (.inl rfl)
  have Bb := h.bk b Ob
  have ho := (Only.refl (fun j => j = b) w2).setCell (p := ⟨b, 0, none⟩) rfl (partV (zeroD d) m')
  have o1 : Only O w (w2.setCell ⟨b, 0, none⟩ (partV (zeroD d) m')) := (Only.of_below hb).trans (ho.mono (fun j _ e => by have e : j = b := e; rw [e]; exact Ob))
  have hbg := (h.beg.keep hb).only ho (fun j hj e => h.off j hj (by have e : j = b := e; rw [e]; exact Ob))
  obtain ⟨e1, e2⟩ := hbg.same (zero_zero d)
  refine ⟨fun j => j = b ∨ Q' j, ⟨m', k, Q', ?_, hq.only ho (fun j hj e => by have := hn j hj; have e : j = b := e; omega) (fun e => by have := h.laid.2; have e : Ram.tabB = b := e; omega), e1, fun j => Iff.rfl, fun e => by have := hn b e; omega, fun j hj e => ?_, fun j hj => ?_, h.laid.only o1 h.bk⟩, o1, fun j hj => ?_⟩
  · have := (h.blk.keep hb).set 0 (partV (zeroD d) m')
    rw [e2]
    exact this
  · have hx := h.beg.lt j hj
    rcases e with e | e
    · exact h.off j hj (by rw [e]; exact Ob)
    · have := hn j e; omega
  · rcases hj with e | e
    · omega
    · have := hn j e; omega
  · rcases hj with e | e
    · exact .inl (by rw [e]; exact Ob)
    · exact .inr (hn j e)
end Go.Proofs.YtknhgfofmkpnfaaGreat.Devs
