/- Package device's contracts. Dev Bk w b d O X: the device in block b has d; O: the blocks that are its own; X: those that are kept for good; below Bk lies what must stay (the table). -/
import Derived.Test.YtknhgfofmkpnfaaGreatS5wg
import Derived.Test.YtknhgfofmkpnfaaGreatS5wh
import Derived.Test.YtknhgfofmkpnfaaGreatS5wi
import Derived.Test.YtknhgfofmkpnfaaGreatS5wj
import Derived.Test.YtknhgfofmkpnfaaGreatS5r
import Derived.Handy
import Derived.LaidEqlPtr
import Derived.Deep.RegionHeld3
namespace Go.Proofs.YtknhgfofmkpnfaaGreat.Devs
set_option linter.unusedSectionVars false
variable [Inhabited Lane.OTab]
open Go.RowKit Go.Maps Go.ChangeShapes Go.WideShapes Go.ChangeAt Fifo Orow Word
set_option linter.unusedVariables false
set_option linter.unusedSimpArgs false

set_option maxRecDepth 100000 in
set_option maxHeartbeats 8000000 in
theorem Step_idle (Bk b : Nat) (d : Dv) (O : Nat → Prop) {X : Nat → Prop} (world : Int) (f : Value) (w : World) (h1 : I64 world) (h : Dev Bk w b d O X) (hf : f = .nilFunc ∨ (busyD d = false ∧ ∃ g rv lb, f = .func (.func g) rv lb)) :
    Calls Tryz.prog 24 #[.pointer (some ⟨b, 0, none⟩), .int .i64 world, f] w fun e w' => e = .returned (.bool false) ∧ Below w.heap.size w w' := by
  obtain ⟨m, k, Q, h⟩ := h
  have DV := Lib.hid (device_yes b w (h.blk.at 2 rfl))
  have HF := Lib.hid (show f = .nilFunc ∨ ∃ g rv lb, f = .func (.func g) rv lb from hf.imp id (fun q => q.2))
  cases d with
  | ram bs =>
    have c0 := h.blk.at 0 rfl
    simp only [partV] at c0
    have TA := ta_ram_eng m
    clear h hf
    rcases HF.out with rfl | ⟨g, rv, lb, rfl⟩
    all_goals (
      go_enter Tryz.func24, Tryz.ntmps24
      go_wp2_with fail
      refine DV.out.mono ?_
      rintro z w1 ⟨rfl, rfl⟩
      go_wp2_with fail
      go_ret
      exact ⟨rfl, (Below.refl _ _).alloc (Nat.le_refl _) _⟩)
  | tim s =>
    have c0 := h.blk.at 0 rfl
    simp only [partV] at c0
    have TA := ta_tim_eng m
    clear h hf
    rcases HF.out with rfl | ⟨g, rv, lb, rfl⟩
    all_goals (
      go_enter Tryz.func24, Tryz.ntmps24
      go_wp2_with fail
      refine DV.out.mono ?_
      rintro z w1 ⟨rfl, rfl⟩
      go_wp2_with fail
      go_ret
      exact ⟨rfl, (Below.refl _ _).alloc (Nat.le_refl _) _⟩)
  | uar u =>
    have c0 := h.blk.at 0 rfl
    simp only [partV] at c0
    have TA := ta_uar_eng m
    clear h hf
    rcases HF.out with rfl | ⟨g, rv, lb, rfl⟩
    all_goals (
      go_enter Tryz.func24, Tryz.ntmps24
      go_wp2_with fail
      refine DV.out.mono ?_
      rintro z w1 ⟨rfl, rfl⟩
      go_wp2_with fail
      go_ret
      exact ⟨rfl, (Below.refl _ _).alloc (Nat.le_refl _) _⟩)
  | box x =>
    have c0 := h.blk.at 0 rfl
    simp only [partV] at c0
    have TA := ta_box_eng m
    clear h hf
    rcases HF.out with rfl | ⟨g, rv, lb, rfl⟩
    all_goals (
      go_enter Tryz.func24, Tryz.ntmps24
      go_wp2_with fail
      refine DV.out.mono ?_
      rintro z w1 ⟨rfl, rfl⟩
      go_wp2_with fail
      go_ret
      exact ⟨rfl, (Below.refl _ _).alloc (Nat.le_refl _) _⟩)
  | rot s =>
    have c0 := h.blk.at 0 rfl
    simp only [partV] at c0
    have TA := ta_rot_eng m
    clear h hf
    rcases HF.out with rfl | ⟨g, rv, lb, rfl⟩
    all_goals (
      go_enter Tryz.func24, Tryz.ntmps24
      go_wp2_with fail
      refine DV.out.mono ?_
      rintro z w1 ⟨rfl, rfl⟩
      go_wp2_with fail
      go_ret
      exact ⟨rfl, (Below.refl _ _).alloc (Nat.le_refl _) _⟩)
  | eng e =>
    have c0 := h.blk.at 0 rfl
    simp only [partV] at c0
    have TA := ta_eng_eng m
    have HQ := Lib.hid h.obj
    have ST := Lib.hid (fun w h => Dma.Step_idle m e Q world f w h1 h hf)
    clear h hf
    rcases HF.out with rfl | ⟨g, rv, lb, rfl⟩
    all_goals (
      go_enter Tryz.func24, Tryz.ntmps24
      go_wp2_with fail
      refine DV.out.mono ?_
      rintro z w1 ⟨rfl, rfl⟩
      go_wp2_with fail
      refine (ST.out _ (HQ.out.keep ((Below.refl _ _).alloc (Nat.le_refl _) _))).mono ?_
      rintro z w2 ⟨rfl, hb⟩
      have K := Lib.hid (((Below.refl w.heap.size w).alloc (Nat.le_refl _) _).trans (hb.mono (by simp)))
      clear hb
      go_wp2_with fail
      go_ret
      exact ⟨rfl, K.out⟩)
/-- Behind a step that was answered: what it leaves. -/
theorem step_left {Bk : Nat} {w wA W W1 w' : World} {b m k : Nat} {e : Dma.En} {O X Q Q' S : Nat → Prop} {v err : Int} (h : DevS Bk w b m k (.eng e) O X Q) (hA : Below w.heap.size w wA) (hS : ∀ j, S j → ¬ O j ∧ ¬ X j ∧ Bk ≤ j ∧ j < w.heap.size)
    (k1 : Only Q wA W) (k2 : Only S W W1) (k3 : Only (fun j => Q j ∨ (wA.heap.size ≤ j ∧ j < W.heap.size)) W1 w') (k4 : Dma.Eng w' m (Dma.toldE e v err) Q') (k5 : ∀ j, Q' j → Q j ∨ (wA.heap.size ≤ j ∧ j < W.heap.size) ∨ W1.heap.size ≤ j) :
    Only O w W ∧ Only (fun j => O j ∨ (w.heap.size ≤ j ∧ j < W.heap.size)) W1 w' ∧ ∃ O', Dev Bk w' b (.eng (Dma.toldE e v err)) O' X ∧ ∀ j, O' j → O j ∨ (w.heap.size ≤ j ∧ j < W.heap.size) ∨ W1.heap.size ≤ j := by
  have s0 := hA.size
  have s1 := k1.size
  have s2 := k2.size
  have bl := h.blk.lt
  have Ob := (h.own b).2 (.inl rfl)
  have OQ : ∀ j, Q j → O j := fun j e => (h.own j).2 (.inr e)
  have Bb := h.bk b Ob
  have lq := h.obj.lt
  have lx := h.beg.lt
  have tb := Ram.tab_lt h.laid.1
  have hT := h.laid.2
  -- the device's block, its begin, the table: through all three
  have KB : Blk w' b 63 [partV (.eng e) m, begV (.eng e) k, ptr b] := (((h.blk.keep hA).only k1 h.nb).only k2 (fun e => (hS b e).1 Ob)).only k3 (fun e => e.elim h.nb (fun e => by omega))
  have hx : BegAt w' k (.eng (Dma.toldE e v err)) X := h.beg
  have lw : Laid w' Bk := ((h.laid.only (S := fun _ => False) (Only.of_below hA) (fun j e => e.elim)).only k1 (fun j e => h.bk j (OQ j e))).only k2 (fun j e => (hS j e).2.2.1) |>.only k3 (fun j e => e.elim (fun e => h.bk j (OQ j e)) (fun e => by omega))
  refine ⟨(Only.of_below hA).trans (k1.mono (fun j _ e => OQ j e)), k3.mono (fun j _ e => e.imp (OQ j) (fun e => ⟨by omega, e.2⟩)), fun j => j = b ∨ Q' j, ⟨m, k, Q', KB, k4, hx, fun j => Iff.rfl, fun q => ?_, fun j hj q => ?_, fun j hj => ?_, lw⟩, fun j hj => ?_⟩
  · rcases k5 b q with q | q | q
    · exact h.nb q
    · omega
    · omega
  · exact h.beg j hj
  · rcases hj with q | q
    · omega
    · rcases k5 j q with q | q | q
      · exact h.bk j (OQ j q)
      · omega
      · omega
  · rcases hj with q | q
    · exact .inl (by rw [q]; exact Ob)
    · rcases k5 j q with q | q | q
      · exact .inl (OQ j q)
      · exact .inr (.inl ⟨by omega, q.2⟩)
      · exact .inr (.inr q)
set_option maxRecDepth 100000 in
set_option maxHeartbeats 8000000 in
theorem Step_busy (Bk b : Nat) (d : Dv) (O : Nat → Prop) {X : Nat → Prop} (world : Int) (g : Nat) (rv lb : Array Value) (S : Nat → Prop) (T : World → Int → Int → World → Prop) (w : World) (h1 : I64 world) (h : Dev Bk w b d O X) (hb : busyD d = true)
    (hS : ∀ j, S j → ¬ O j ∧ ¬ X j ∧ Bk ≤ j ∧ j < w.heap.size) (eg : ∀ args w, (callFunc g args).run Tryz.prog w = .ok (.enter g args) w)
    (ha : ∀ W, Only O w W → Calls Tryz.prog g (rv ++ #[nextD d world] ++ lb) W fun e w' => ∃ v err, e = .returned (.agg #[.int .u32 v, .int .i64 err]) ∧ (0 ≤ v ∧ v < 4294967296) ∧ I64 err ∧ T W v err w' ∧ Only S W w') :
    Calls Tryz.prog 24 #[.pointer (some ⟨b, 0, none⟩), .int .i64 world, .func (.func g) rv lb] w fun e w' => e = .returned (.bool true) ∧ ∃ v err W W1 O', (0 ≤ v ∧ v < 4294967296) ∧ I64 err ∧ Only O w W ∧ T W v err W1 ∧ Only S W W1 ∧ Only (fun j => O j ∨ (w.heap.size ≤ j ∧ j < W.heap.size)) W1 w' ∧ Dev Bk w' b (toldD d v err) O' X ∧ ∀ j, O' j → O j ∨ (w.heap.size ≤ j ∧ j < W.heap.size) ∨ W1.heap.size ≤ j := by
  obtain ⟨m, k, Q, h⟩ := h
  have DV := Lib.hid (device_yes b w (h.blk.at 2 rfl))
  cases d with
  | eng e =>
    have c0 := h.blk.at 0 rfl
    simp only [partV] at c0
    have TA := ta_eng_eng m
    have hA : Below w.heap.size w (w.alloc (.cells #[ptr m] 106)) := (Below.refl _ _).alloc (Nat.le_refl _) _
    have ST := Lib.hid (Dma.Step_busy m e Q world g rv lb S T (w.alloc (.cells #[ptr m] 106)) h1 (h.obj.keep hA) hb (fun j e => ⟨fun q => (hS j e).1 ((h.own j).2 (.inr q)), by have := (hS j e).2.2.2; simp; omega⟩) eg (fun W hW => ha W ((Only.of_below hA).trans (hW.mono (fun j _ q => (h.own j).2 (.inr q))))))
    have FIN := Lib.hid (fun W W1 w' Q' v err k1 k2 k3 k4 k5 => step_left (W := W) (W1 := W1) (w' := w') (Q' := Q') (v := v) (err := err) h hA hS k1 k2 k3 k4 k5)
    clear h hS ha hA hb
    go_enter Tryz.func24, Tryz.ntmps24
    go_wp2_with fail
    refine DV.out.mono ?_
    rintro z w1 ⟨rfl, rfl⟩
    go_wp2_with fail
    refine ST.out.mono ?_
    rintro z w' ⟨rfl, v, err, W, W1, Q', q1, q2, q3, q4, q5, q6, q7, q8⟩
    have F := Lib.hid (FIN.out W W1 w' Q' v err q3 q5 q6 q7 q8)
    have R := Lib.hid (show (0 ≤ v ∧ v < 4294967296) ∧ I64 err ∧ T W v err W1 ∧ Only S W W1 from ⟨q1, q2, q4, q5⟩)
    clear q1 q2 q3 q4 q5 q6 q7 q8 FIN ST
    go_wp2_with fail
    go_ret
    obtain ⟨f1, f2, O', f3, f4⟩ := F.out
    exact ⟨rfl, v, err, W, W1, O', R.out.1, R.out.2.1, f1, R.out.2.2.1, R.out.2.2.2, f2, f3, f4⟩
  | _ => exact absurd hb (by simp [busyD])
end Go.Proofs.YtknhgfofmkpnfaaGreat.Devs
