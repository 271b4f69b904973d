/- The chapter's example: an asker that keeps what it was asked. -/
import Derived.Test.YthpkebcedaakhaaDf
import Derived.Maps.AppendAt
namespace Go.Proofs.Ythpkebcedaakhaa.Dma
open Go.RowKit Go.Maps Fifo Orow
set_option linter.unusedVariables false

/-- The cell p has a row of so many accesses. -/
structure LogA (w : World) (p n : Nat) (L : List Value) (v : Value) : Prop where
  cell : Blk w p 58 [v]
  row : w.ownsRow (p + 1) 53 5 v n L
theorem pb_own_lt {w : World} {B n sz : Nat} {e : TypeId} {v : Value} {L : List Value} (h : w.ownsRow B e sz v n L) : ∀ j, PB v j → B ≤ j ∧ j < w.heap.size := by
  obtain ⟨a, c, rfl, _⟩ := own_shape h
  exact fun j hj => own_lt h j (pb_ba.1 hj)
theorem own_only' {S : Nat → Prop} {w w' : World} {B n sz : Nat} {e : TypeId} {v : Value} {L : List Value} (h : w.ownsRow B e sz v n L) (ho : Only S w w') (hn : ∀ j, PB v j → ¬ S j) : w'.ownsRow B e sz v n L := by
  obtain ⟨a, c, rfl, _⟩ := own_shape h
  exact own_only h ho (fun j hj => hn j (pb_ba.2 hj))
theorem LogA.only {S : Nat → Prop} {w w' : World} {p n : Nat} {L : List Value} {v : Value} (h : LogA w p n L v) (ho : Only S w w') (hn : ∀ j, j = p ∨ PB v j → ¬ S j) : LogA w' p n L v :=
  ⟨h.cell.only ho (hn p (.inl rfl)), own_only' h.row ho (fun j hj => hn j (.inr hj))⟩
theorem LogA.keep {w w' : World} {p n : Nat} {L : List Value} {v : Value} (h : LogA w p n L v) (hb : Below w.heap.size w w') : LogA w' p n L v := ⟨h.cell.keep hb, own_keep h.row hb⟩
theorem at_append {P : Program} {ops : Array Oper} {Q : Exit → Act → World → Prop} {rest : List Oper} {op : Oper} {a : Act} {w : World} (x y : Operand) (t u : TypeId) (ho : op.op = .call { callee := .builtin .append, args := #[x, y], argTypes := #[t, u] }) (h : Hid (wpList P ops Q (op :: rest) a w)) : wpList P ops Q (op :: rest) a w := h.out
theorem info_acc : (Try.prog.info? 53).map (fun i => (i.zero, i.size, i.bytes)) = some (some (.agg #[.int .i64 0, .bool false, .int .u32 0, .int .i64 0, .int .u32 0]), 5, 32) := by kernel_rfl
set_option maxHeartbeats 1000000 in
theorem log_any (W0 : Int) (wr : Bool) (A S D : Int) (p n : Nat) (L : List Value) (v : Value) (w : World) (hn : n < 10) (h : LogA w p n L v) :
    Calls Try.prog 24 #[accV W0 wr A S D, .pointer (some ⟨p, 0, none⟩)] w fun e w' => e = .returned (.agg #[.int .u32 7, .int .i64 0]) ∧ ∃ v', LogA w' p (n + 1) (L ++ accL W0 wr A S D) v' ∧ Only (fun j => j = p ∨ PB v j) w w' ∧ ∀ j, PB v' j → PB v j ∨ w.heap.size ≤ j := by
  obtain ⟨i0, hi, hz0, hz1, hz2⟩ := info_parts info_acc
  have Hi := Lib.hid hi
  have Hz0 := Lib.hid hz0
  have Hz1 := Lib.hid hz1
  have Hz2 := Lib.hid hz2
  have H := Lib.hid h
  have hp := h.cell.lt
  obtain ⟨g, hg⟩ : ∃ g, w.heap.size = g := ⟨_, rfl⟩
  have HG := Lib.hid hg
  have a0 := fun o o' => ((h.cell.alloc o).alloc o').at 0 rfl
  clear h hi hz0 hz1 hz2
  go_enter Try.func24, Try.ntmps24
  go_wp2_with (with_reducible refine at_append _ _ _ _ rfl ?_)
  refine Lib.hid ?_
  refine list_letter ?_
  intro X hX
  obtain ⟨W1, hW1⟩ : ∃ W1, W1 = (w.alloc (.cells #[.int .i64 W0, .bool wr, .int .u32 A, .int .i64 S, .int .u32 D] 53)).alloc (.cells #[.int .u32 0, .int .i64 0] 41) := ⟨_, rfl⟩
  have hsz : W1.heap.size = g + 2 := by rw [hW1, ← HG.out]; simp
  have BW1 : Below w.heap.size w W1 := by rw [hW1]; exact ((Below.refl _ _).alloc (Nat.le_refl _) _).alloc (by simp) _
  have Z1 : Blk W1 (g + 1) 41 [.int .u32 0, .int .i64 0] := by
    rw [hW1]
    have e : ∀ Y : World, Y.heap.size = g + 1 → Blk (Y.alloc (.cells #[.int .u32 0, .int .i64 0] 41)) (g + 1) 41 [.int .u32 0, .int .i64 0] := fun Y h => by rw [← h]; exact Blk.new Y _ _
    exact e _ (by simp [HG.out])
  have eX : X = W1.alloc (.cells #[.int .i64 W0, .bool wr, .int .u32 A, .int .i64 S, .int .u32 D] 53) := by rw [hX.out, hW1]
  have bX := (Below.refl W1.heap.size W1).alloc (Nat.le_refl _) (.cells #[.int .i64 W0, .bool wr, .int .u32 A, .int .i64 S, .int .u32 D] 53)
  have BX := Lib.hid (show Below w.heap.size w X by rw [eX]; exact BW1.trans (bX.mono BW1.size))
  have ZX := Lib.hid (show Blk X (g + 1) 41 [.int .u32 0, .int .i64 0] by rw [eX]; exact Z1.keep bX)
  have CX : Blk X (g + 1 + 1) 53 (accL W0 wr A S D) := by rw [eX, show g + 1 + 1 = W1.heap.size from hsz.symm]; exact Blk.new W1 _ _
  have hXs : X.heap.size = g + 3 := by rw [eX]; simp [hsz]
  have LX := Lib.hid (H.out.keep BX.out)
  have hnews : ∀ j u, (accL W0 wr A S D)[j]? = some u → X.cell? ((⟨g + 1 + 1, 0, none⟩ : Addr).add j) = some u := fun j u hj => by
    rw [Go.WideShapes.add_plain, Nat.zero_add]
    exact CX.at j hj
  have HNs := Lib.hid hnews
  have HXs := Lib.hid hXs
  clear hX hW1 hsz BW1 Z1 eX bX CX hnews a0 hg hXs
  refine wpList_append_own_at _ rfl _ _ 58 rfl (p + 1) 53 i0 (.agg #[.int .i64 0, .bool false, .int .u32 0, .int .i64 0, .int .u32 0]) 5 32 Try.underlying58 Hi.out Hz0.out Hz1.out Hz2.out rfl (by decide) v n L rfl LX.out.row ⟨g + 1 + 1, 0, none⟩ 1 1 (accL W0 wr A S D) rfl rfl HNs.out (by simp [Value.oneCell']) (by unfold maxLen; omega) (by omega) (by have := HXs.out; have := HG.out; omega) ?_
  intro v' X2 r1 r2 r3 r4
  obtain ⟨a', c', hv', _⟩ := own_shape r1
  subst hv'
  have ho1 : Only (PB v) X X2 := ⟨r2.os, r2.tape, r2.output, r2.size, fun k hk hn => r2.block k hk (fun e => hn e.symm)⟩
  have plt := pb_own_lt LX.out.row
  have plt2 := pb_own_lt r1
  have hw := HG.out
  have hb1 := pb_own_lt H.out.row
  have CP := Lib.hid (LX.out.cell.only ho1 (fun e => by have := (plt p e).1; omega))
  have ZP := Lib.hid (ZX.out.only ho1 (fun e => by have := hb1 _ e; omega))
  have HR := Lib.hid r1
  have HP := Lib.hid (show ∀ j, PB (.slice a' (n + 1) c') j → PB v j ∨ g + 3 ≤ j from fun j hj => by
    rcases r4 with e | e
    · exact .inl (by unfold PB at hj ⊢; rw [← e]; exact hj)
    · refine .inr ?_
      unfold PB at hj
      rw [e] at hj
      injection hj with hj
      have := HXs.out
      omega)
  have O2 := Lib.hid (show Only (fun j => j = p ∨ PB v j) w X2 from (Only.of_below BX.out).trans (ho1.mono (fun j _ e => .inr e)))
  clear r1 r2 r3 r4 ho1 plt plt2 hb1 hw LX ZX BX
  go_wp2_with (with_reducible refine at_store _ _ _ rfl ?_)
  refine Lib.hid ?_
  refine store_one rfl _ _ _ rfl p 0 (.slice a' (n + 1) c') rfl rfl _ _ CP.out (by kernel_rfl) (by simp) (by simp [Value.oneCell']) rfl ?_
  intro Y hY hoY
  have hpp : ∀ j, PB (.slice a' (n + 1) c') j → ¬ j = p := fun j hj e => by have := (pb_own_lt HR.out j hj).1; omega
  have LY := Lib.hid (show LogA Y p (n + 1) (L ++ accL W0 wr A S D) (.slice a' (n + 1) c') from ⟨hY, own_only' HR.out hoY hpp⟩)
  have ZY := Lib.hid (ZP.out.only hoY (by show ¬ g + 1 = p; have := HG.out; omega))
  have OY := Lib.hid (O2.out.trans (hoY.mono (fun j _ e => .inl e)))
  clear hY hoY hpp
  go_wp2_with (with_reducible refine at_store _ _ _ rfl ?_)
  refine Lib.hid ?_
  refine store_all rfl _ _ _ rfl (g + 1) [.int .u32 7, .int .i64 0] rfl rfl _ _ ZY.out (by kernel_rfl) rfl (by simp [Value.oneCell']) ?_
  intro V hV hoV
  have hng : ∀ j, j = p ∨ PB (.slice a' (n + 1) c') j → ¬ j = g + 1 := fun j hj e => by
    have hw := HG.out
    rcases hj with rfl | hj
    · omega
    · rcases HP.out j hj with k | k
      · have := pb_own_lt H.out.row j k; omega
      · omega
  have LV := Lib.hid (LY.out.only hoV hng)
  have OV := Lib.hid (show Only (fun j => j = p ∨ PB v j) w V from OY.out.far hoV (fun i hi e => by have := HG.out; have : i = g + 1 := e; omega))
  have q0 := hV.at 0 rfl
  have q1 := hV.at 1 rfl
  clear hV hoV hng
  go_wp2_with fail
  refine bodyPost_ret (v := .agg #[.int .u32 7, .int .i64 0]) ?_ rfl ⟨rfl, _, LV.out, OV.out, fun j hj => (HP.out j hj).elim .inl (fun e => .inr (by have := HG.out; omega))⟩
  simp [results, Try.results24, go_sem, q0, q1]
theorem eg_log : ∀ args w, (callFunc 24 args).run Try.prog w = .ok (.enter 24 args) w := fun args w => rfl
theorem next_list (s : En) (world : Int) : ∃ W0 wr A S D, nextE s world = accV W0 wr A S D ∧ nextL s world = accL W0 wr A S D := by
  unfold nextE nextL
  split
  · exact ⟨_, _, _, _, _, rfl, rfl⟩
  · exact ⟨_, _, _, _, _, rfl, rfl⟩
/-- A step, kept in the log; the engine's blocks, and the log's, lie from B on. -/
theorem Step_log (B b p n : Nat) (s : En) (O : Nat → Prop) (L : List Value) (v : Value) (w : World) (hn : n < 10) (hb : s.busy = true) (h : Eng w b s O) (hl : LogA w p n L v) (hd : ∀ j, j = p ∨ PB v j → ¬ O j) (hB : ∀ j, O j → B ≤ j) (hp : B ≤ p) (hBw : B ≤ w.heap.size) :
    Calls Try.prog 17 #[.pointer (some ⟨b, 0, none⟩), .int .i64 1, .func (.func 24) #[] #[.pointer (some ⟨p, 0, none⟩)]] w fun e w' => e = .returned (.bool true) ∧ Below B w w' ∧ ∃ O' v', Eng w' b (toldE s 7 0) O' ∧ LogA w' p (n + 1) (L ++ nextL s 1) v' ∧ (∀ j, j = p ∨ PB v' j → ¬ O' j) ∧ ∀ j, O' j → B ≤ j := by
  obtain ⟨W0, wr, A, S, D, e1, e2⟩ := next_list s 1
  have plt := pb_own_lt hl.row
  have lp := hl.cell.lt
  have lO := h.lt
  refine (Step_busy b s O 1 24 #[] #[.pointer (some ⟨p, 0, none⟩)] (fun j => j = p ∨ PB v j) (fun W v' err' w' => v' = 7 ∧ err' = 0 ∧ ∃ u, LogA w' p (n + 1) (L ++ nextL s 1) u ∧ ∀ j, PB u j → PB v j ∨ W.heap.size ≤ j) w ⟨by omega, by omega⟩ h hb (fun j e => ⟨hd j e, e.elim (fun e => by rw [e]; exact lp) (fun e => (plt j e).2)⟩) eg_log ?_).mono ?_
  · intro W hW
    rw [e1, e2]
    refine (log_any W0 wr A S D p n L v W hn (hl.only hW hd)).mono ?_
    rintro e w' ⟨rfl, u, k1, k2, k3⟩
    exact ⟨7, 0, rfl, by omega, ⟨by omega, by omega⟩, ⟨rfl, rfl, u, k1, k3⟩, k2⟩
  · rintro e w' ⟨rfl, v', err', W, W1, O', _, _, k1, ⟨rfl, rfl, u, k2, k2'⟩, k3, k4, k5, k6⟩
    have hW := k1.size
    have hW1 := k3.size
    have plu := pb_own_lt k2.row
    have hdu : ∀ j, j = p ∨ PB u j → ¬ (O j ∨ (w.heap.size ≤ j ∧ j < W.heap.size)) := fun j hj e => by
      rcases hj with rfl | hj
      · exact e.elim (hd j (.inl rfl)) (fun e => by omega)
      · rcases k2' j hj with k | k
        · exact e.elim (hd j (.inr k)) (fun e => by have := (plt j k).2; omega)
        · exact e.elim (fun o => by have := lO j o; omega) (fun e => by omega)
    refine ⟨rfl, ?_, O', u, k5, k2.only k4 hdu, fun j hj o => ?_, fun j hj => ?_⟩
    · have t1 : Only (fun j => B ≤ j) w w' := (k1.mono (fun j _ o => hB j o)).trans ((k3.mono (fun j _ e => e.elim (fun e => by rw [e]; exact hp) (fun e => by have := (plt j e).1; omega))).trans (k4.mono (fun j _ e => e.elim (hB j) (fun e => by omega))))
      exact t1.below hBw (fun j e => e)
    · rcases k6 j o with k | k | k
      · exact hdu j hj (.inl k)
      · exact hdu j hj (.inr k)
      · rcases hj with rfl | hj
        · have := k2.cell.lt; omega
        · have := (plu j hj).2; omega
    · rcases k6 j hj with k | k | k
      · exact hB j k
      · omega
      · omega
end Go.Proofs.Ythpkebcedaakhaa.Dma
