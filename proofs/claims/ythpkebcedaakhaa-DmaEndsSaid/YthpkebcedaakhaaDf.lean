/- steps: a step of both, what is asked, what comes of the answer. -/
import Derived.Test.YthpkebcedaakhaaDe
namespace Go.Proofs.Ythpkebcedaakhaa.Dma
open Go.RowKit Go.Maps Fifo Orow
set_option linter.unusedVariables false

def stepE (s : En) (v err : Int) : En := if s.busy then toldE s v err else s
theorem eg_ask : ∀ args w, (callFunc 33 args).run Try.prog w = .ok (.enter 33 args) w := fun args w => rfl
set_option maxHeartbeats 2000000 in
theorem steps_idle (K : Nat → Prop) (b r : Nat) (s : En) (world v err : Int) (w : World) (hw : I64 world) (hv : 0 ≤ v ∧ v < 4294967296) (he : I64 err) (h : PairE K w b r s s) (hb : s.busy = false) :
    Calls Try.prog 16 #[.pointer (some ⟨b, 0, none⟩), .pointer (some ⟨r, 0, none⟩), .int .i64 world, .agg #[.int .u32 v, .int .i64 err]] w fun e w' => e = .returned (.bool true) ∧ Below w.heap.size w w' := by
  have hmf : ∀ w f r c, (Instr.makeFunc (.func f) r c).run Try.prog w = .ok (.func (.func f) r c) w := fun w f r c => rfl
  have H := Lib.hid h
  have Hb := Lib.hid hb
  have Hv := Lib.hid hv
  have He := Lib.hid he
  clear h hb hv he
  go_enter Try.func16, Try.ntmps16
  go_wp2_with fail
  refine calls_letter ?_
  intro W hW
  have B0 := Lib.hid (show Below w.heap.size w W by rw [hW.out]; exact (Below.refl _ _).alloc (Nat.le_refl _) _)
  have A0 := Lib.hid (show Blk W w.heap.size 41 [.int .u32 v, .int .i64 err] by rw [hW.out]; exact Blk.new w _ _)
  obtain ⟨g0, hg0⟩ : ∃ g, w.heap.size = g := ⟨_, rfl⟩
  have HG0 := Lib.hid hg0
  rw [hg0] at A0
  clear hW
  have P0 := Lib.hid (H.out.keep B0.out)
  obtain ⟨O, a1, a2, a3⟩ := P0.out
  refine (rNext_idle r s world W a2.1 Hb.out).mono ?_
  rintro e w1 ⟨rfl, hb⟩
  have B1 := Lib.hid (B0.out.trans (hb.mono B0.out.size))
  have A1 := Lib.hid (A0.out.keep hb)
  clear hb a1 a2 a3 O P0 B0 A0
  obtain ⟨g1, hg1⟩ : ∃ g, w1.heap.size = g := ⟨_, rfl⟩
  have l1 : g0 < g1 := by rw [← hg1]; exact A1.out.lt
  go_wp2_with (with_reducible refine at_store _ _ _ rfl ?_)
  refine Lib.hid ?_
  have hnew := Blk.new w1 53 [.int .i64 0, .bool false, .int .u32 0, .int .i64 0, .int .u32 0]
  rw [hg1] at hnew
  have hal := (Below.refl w1.heap.size w1).alloc (Nat.le_refl _) (.cells #[.int .i64 0, .bool false, .int .u32 0, .int .i64 0, .int .u32 0] 53)
  have A2 := Lib.hid (A1.out.keep hal)
  refine store_all rfl _ _ _ rfl g1 [.int .i64 0, .bool false, .int .u32 0, .int .i64 0, .int .u32 0] rfl rfl _ _ hnew (by kernel_rfl) rfl (by simp [Value.oneCell']) ?_
  intro X hX hoX
  have BX1 := Lib.hid (show Below w1.heap.size w1 X from hal.trans (hoX.below hal.size (fun j e => by rw [e, ← hg1]; exact Nat.le_refl _)))
  have B2 := Lib.hid (B1.out.trans (BX1.out.mono B1.out.size))
  have A3 := Lib.hid (A2.out.only hoX (by show ¬ g0 = g1; omega))
  have C3 := Lib.hid hX
  clear hX hoX hal hnew A1 A2 B1 BX1 hg1
  obtain ⟨g2, hg2⟩ : ∃ g, X.heap.size = g := ⟨_, rfl⟩
  have HG2 := Lib.hid hg2
  have l2 : g1 < g2 := by rw [← hg2]; exact C3.out.lt
  go_wp2_with fail
  refine calls_letter ?_
  intro V hV
  have BV := Lib.hid (show Below X.heap.size X V by rw [hV.out]; exact (Below.refl _ _).alloc (Nat.le_refl _) _)
  have D4 := Lib.hid (show Blk V g2 3 [.int .i64 0] by rw [hV.out, ← HG2.out]; exact Blk.new X _ _)
  have A4 := Lib.hid (A3.out.keep BV.out)
  have C4 := Lib.hid (C3.out.keep BV.out)
  have B4 := Lib.hid (B2.out.trans (BV.out.mono B2.out.size))
  have P4 := Lib.hid (H.out.keep B4.out)
  clear hV hmf hg2 A3 C3 B2 BV
  obtain ⟨O, a1, a2, a3, a4, a5⟩ := P4.out
  refine (Step_idle b s O world _ V hw a1 (.inr ⟨Hb.out, _, _, _, rfl⟩)).mono ?_
  rintro e w5 ⟨rfl, hb⟩
  have B5 := Lib.hid (B4.out.trans (hb.mono B4.out.size))
  have c0 := (D4.out.keep hb).at 0 rfl
  clear hb a1 a2 a3 a4 a5
  go_wp2_with fail
  go_ret
  exact ⟨rfl, B5.out⟩
set_option maxHeartbeats 4000000 in
theorem steps_busy (K : Nat → Prop) (b r : Nat) (s : En) (world v err : Int) (w : World) (hw : I64 world) (hv : 0 ≤ v ∧ v < 4294967296) (he : I64 err) (h : PairE K w b r s s) (hb : s.busy = true) (W0 : Int) (wr : Bool) (A S D : Int) (hn : nextE s world = accV W0 wr A S D) :
    Calls Try.prog 16 #[.pointer (some ⟨b, 0, none⟩), .pointer (some ⟨r, 0, none⟩), .int .i64 world, .agg #[.int .u32 v, .int .i64 err]] w fun e w' => e = .returned (.bool true) ∧ PairE K w' b r (toldE s v err) (toldE s v err) ∧ Only (fun j => ¬ K j) w w' := by
  have HN := Lib.hid hn
  have nx : ∀ W, Blk W r 31 (cellsE s) → s.busy = true → Calls Try.prog 32 #[.pointer (some ⟨r, 0, none⟩), .int .i64 world] W fun e w' => e = .returned (.tuple #[accV W0 wr A S D, .bool true]) ∧ Below W.heap.size W w' := fun W h hb => by rw [← hn]; exact rNext_busy r s world W h hb
  clear hn
  have hmf : ∀ w f r c, (Instr.makeFunc (.func f) r c).run Try.prog w = .ok (.func (.func f) r c) w := fun w f r c => rfl
  have H := Lib.hid h
  have Hb := Lib.hid hb
  have Hv := Lib.hid hv
  have He := Lib.hid he
  clear h hb hv he
  go_enter Try.func16, Try.ntmps16
  go_wp2_with fail
  refine calls_letter ?_
  intro W hW
  have B0 := Lib.hid (show Below w.heap.size w W by rw [hW.out]; exact (Below.refl _ _).alloc (Nat.le_refl _) _)
  have A0 := Lib.hid (show Blk W w.heap.size 41 [.int .u32 v, .int .i64 err] by rw [hW.out]; exact Blk.new w _ _)
  obtain ⟨g0, hg0⟩ : ∃ g, w.heap.size = g := ⟨_, rfl⟩
  have HG0 := Lib.hid hg0
  rw [hg0] at A0
  clear hW
  have P0 := Lib.hid (H.out.keep B0.out)
  obtain ⟨O, a1, a2, a3⟩ := P0.out
  refine (nx W a2.1 Hb.out).mono ?_
  rintro e w1 ⟨rfl, hb⟩
  have B1 := Lib.hid (B0.out.trans (hb.mono B0.out.size))
  have A1 := Lib.hid (A0.out.keep hb)
  clear hb a1 a2 a3 O P0 B0 A0
  obtain ⟨g1, hg1⟩ : ∃ g, w1.heap.size = g := ⟨_, rfl⟩
  have l1 : g0 < g1 := by rw [← hg1]; exact A1.out.lt
  go_wp2_with (with_reducible refine at_store _ _ _ rfl ?_)
  refine Lib.hid ?_
  have hnew := Blk.new w1 53 [.int .i64 0, .bool false, .int .u32 0, .int .i64 0, .int .u32 0]
  rw [hg1] at hnew
  have hal := (Below.refl w1.heap.size w1).alloc (Nat.le_refl _) (.cells #[.int .i64 0, .bool false, .int .u32 0, .int .i64 0, .int .u32 0] 53)
  have A2 := Lib.hid (A1.out.keep hal)
  refine store_all rfl _ _ _ rfl g1 [.int .i64 W0, .bool wr, .int .u32 A, .int .i64 S, .int .u32 D] rfl rfl _ _ hnew (by kernel_rfl) rfl (by simp [Value.oneCell']) ?_
  intro X hX hoX
  have BX1 := Lib.hid (show Below w1.heap.size w1 X from hal.trans (hoX.below hal.size (fun j e => by rw [e, ← hg1]; exact Nat.le_refl _)))
  have B2 := Lib.hid (B1.out.trans (BX1.out.mono B1.out.size))
  have A3 := Lib.hid (A2.out.only hoX (by show ¬ g0 = g1; omega))
  have C3 := Lib.hid hX
  clear hX hoX hal hnew A1 A2 B1 BX1 hg1
  obtain ⟨g2, hg2⟩ : ∃ g, X.heap.size = g := ⟨_, rfl⟩
  have HG2 := Lib.hid hg2
  have l2 : g1 < g2 := by rw [← hg2]; exact C3.out.lt
  go_wp2_with fail
  refine calls_letter ?_
  intro V hV
  have BV := Lib.hid (show Below X.heap.size X V by rw [hV.out]; exact (Below.refl _ _).alloc (Nat.le_refl _) _)
  have D4 := Lib.hid (show Blk V g2 3 [.int .i64 0] by rw [hV.out, ← HG2.out]; exact Blk.new X _ _)
  have A4 := Lib.hid (A3.out.keep BV.out)
  have C4 := Lib.hid (C3.out.keep BV.out)
  have B4 := Lib.hid (B2.out.trans (BV.out.mono B2.out.size))
  have P4 := Lib.hid (H.out.keep B4.out)
  clear hV hmf hg2 A3 C3 B2 BV
  obtain ⟨O, a1, a2, a3, a4, a5⟩ := P4.out
  have e1 := H.out
  obtain ⟨O0, e1, e2, e3, e4, e5⟩ := e1
  have ll := e1.lt
  have lr := e2.lt
  have hOw : ∀ j, K j → j < g0 := fun j hj => by rw [← HG0.out]; exact e5 j hj
  have hrw : r < g0 := by rw [← HG0.out]; exact lr
  have P5 := Lib.hid (show PairE K V b r s s from P4.out)
  clear a1 a2 a3 a4 a5 O
  -- the engine's blocks are those of before
  have Q4 := Lib.hid (show Eng V b s O0 from e1.keep B4.out)
  have R4 := Lib.hid (show RefE V r s from e2.keep B4.out)
  have hO0 : ∀ j, O0 j → j < g0 := fun j hj => by rw [← HG0.out]; exact ll j hj
  have lV := D4.out.lt
  refine (Step_busy b s O0 world 33 #[] #[.pointer (some ⟨g1, 0, none⟩), .pointer (some ⟨g2, 0, none⟩), .pointer (some ⟨g0, 0, none⟩)] (fun j => j = g2) (fun W v' err' w' => v' = v ∧ err' = err ∧ Blk w' g2 3 [.int .i64 1]) V hw Q4.out Hb.out (fun j e => ⟨fun o => by have := hO0 j o; have : j = g2 := e; omega, by have : j = g2 := e; rw [this]; exact lV⟩) eg_ask ?_).mono ?_
  · intro W hW
    have hno : ∀ g, g0 ≤ g → ¬ O0 g := fun g hg o => by have := hO0 g o; omega
    rw [HN.out]
    refine (ask_any W0 wr A S D v err 0 g0 g1 g2 W (by omega) (A4.out.only hW (hno g0 (Nat.le_refl _))) (C4.out.only hW (hno g1 (by omega))) (D4.out.only hW (hno g2 (by omega))) (by omega)).mono ?_
    rintro e w' ⟨rfl, k1, k2⟩
    exact ⟨v, err, rfl, Hv.out, He.out, ⟨rfl, rfl, k1⟩, k2⟩
  · rintro e w6 ⟨rfl, v', err', W, W1, O', _, _, k1, ⟨rfl, rfl, k2⟩, k3, k4, k5, k6⟩
    have hVW := k1.size
    have hWW := k3.size
    have HO' := Lib.hid (show ∀ j, O' j → O0 j ∨ g0 ≤ j from fun j hj => (k6 j hj).elim .inl (fun e => .inr (by omega)))
    have oT : Only (fun j => O0 j ∨ g0 ≤ j) V w6 := (k1.mono (fun j _ o => .inl o)).trans ((k3.mono (fun j _ e => .inr (by have : j = g2 := e; omega))).trans (k4.mono (fun j _ e => e.elim .inl (fun e => .inr (by omega)))))
    have hnr : ¬ O0 r := fun o => (e3 r o).2 rfl
    have R6 := Lib.hid (R4.out.only oT (fun e => e.elim hnr (fun e => by omega)))
    have D6 := Lib.hid (k2.only k4 (fun e => e.elim (fun o => by have := hO0 g2 o; omega) (fun e => by omega)))
    have A6 := Lib.hid (((A4.out.only k1 (fun o => by have := hO0 g0 o; omega)).only k3 (by show ¬ g0 = g2; omega)).only k4 (fun e => e.elim (fun o => by have := hO0 g0 o; omega) (fun e => by omega)))
    have Q6 := Lib.hid k5
    have O6 := Lib.hid (show Only (fun j => O0 j) w w6 from (Only.of_below B4.out).far oT (fun j hj e => e.elim (fun o => o) (fun e => by have := HG0.out; omega)))
    clear k1 k2 k3 k4 k5 k6 oT hVW hWW A4 C4 D4 B4 P4 P5 Q4 R4
    have c0 := A6.out.at 0 rfl
    have c1 := A6.out.at 1 rfl
    have d0 := D6.out.at 0 rfl
    go_wp2_with fail
    refine (rTold_any r s v' err' w6 R6.out.2 Hv.out R6.out.1).mono ?_
    rintro e w7 ⟨rfl, k1, k2⟩
    have d0' := only_cell k2 (by show ¬ g2 = r; omega) d0
    have hr' : ∀ j, O' j → j ≠ r := fun j hj e => (HO'.out j hj).elim (fun o => hnr (by rw [← e]; exact o)) (fun x => by omega)
    have P7 := Lib.hid (show PairE K w7 b r (toldE s v' err') (toldE s v' err') from ⟨O', Q6.out.only k2 (fun j hj e => hr' j hj e), ⟨k1, ok_told R6.out.2 v' err' Hv.out⟩, fun j hj => ⟨fun kk => (HO'.out j hj).elim (fun o => (e3 j o).1 kk) (fun x => by have := hOw j kk; omega), hr' j hj⟩, e4, fun j hj => by have := hOw j hj; have := O6.out.size; have := k2.size; have := HG0.out; omega⟩)
    have O7 := Lib.hid (show Only (fun j => ¬ K j) w w7 from (O6.out.mono (fun j _ o => (e3 j o).1)).trans (k2.mono (fun j _ e => by have : j = r := e; rw [this]; exact e4)))
    clear k1 k2 c0 c1 d0
    go_wp2_with fail
    go_ret
    exact ⟨rfl, P7.out, O7.out⟩
theorem next_is (s : En) (world : Int) : ∃ W0 wr A S D, nextE s world = accV W0 wr A S D := by
  unfold nextE
  split
  · exact ⟨_, _, _, _, _, rfl⟩
  · exact ⟨_, _, _, _, _, rfl⟩
theorem steps_any (K : Nat → Prop) (b r : Nat) (s : En) (world v err : Int) (w : World) (hw : I64 world) (hv : 0 ≤ v ∧ v < 4294967296) (he : I64 err) (h : PairE K w b r s s) :
    Calls Try.prog 16 #[.pointer (some ⟨b, 0, none⟩), .pointer (some ⟨r, 0, none⟩), .int .i64 world, .agg #[.int .u32 v, .int .i64 err]] w fun e w' => e = .returned (.bool true) ∧ PairE K w' b r (stepE s v err) (stepE s v err) ∧ Only (fun j => ¬ K j) w w' := by
  unfold stepE
  cases hb : s.busy
  · rw [if_neg (by decide)]
    refine (steps_idle K b r s world v err w hw hv he h hb).mono ?_
    rintro e w' ⟨rfl, hb⟩
    exact ⟨rfl, h.keep hb, Only.of_below hb⟩
  · rw [if_pos rfl]
    obtain ⟨W0, wr, A, S, D, hn⟩ := next_is s world
    exact steps_busy K b r s world v err w hw hv he h hb W0 wr A S D hn
end Go.Proofs.Ythpkebcedaakhaa.Dma
