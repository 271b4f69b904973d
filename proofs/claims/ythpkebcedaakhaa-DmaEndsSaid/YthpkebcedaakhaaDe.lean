/- A step, answered by hand: what is asked is counted. -/
import Derived.Test.YthpkebcedaakhaaDc
import Derived.LoopN
namespace Go.Proofs.Ythpkebcedaakhaa.Dma
open Go.RowKit Go.Maps Fifo Orow
set_option linter.unusedVariables false

theorem list_letter {P : Program} {ops : Array Oper} {Q : Exit → Act → World → Prop} {l : List Oper} {a : Act} {w : World} (h : ∀ W, Hid (W = w) → wpList P ops Q l a W) : wpList P ops Q l a w := h w (Lib.hid rfl)
/-- A store of one cell into a block that is known. -/
theorem store_one {P : Program} {ops : Array Oper} {rest : List Oper} {op : Oper} {a : Act} {w : World} {Q : Exit → Act → World → Prop} (hgd : op.guard = none) (ty : TypeId) (x y : Operand) (ho : op.op = .store ty x y)
    (g off : Nat) (v : Value) (hx : a.eval x = .pointer (some ⟨g, off, none⟩)) (hy : a.eval y = v) (t : TypeId) (cur : List Value) (hg : Blk w g t cur) (hi : (P.info? ty).map (·.size) = some 1) (hoff : off < cur.length) (h1 : v.oneCell' = true) (hv : v.cells = #[v])
    (h : ∀ X, Blk X g t (cur.set off v) → Only (fun j => j = g) w X → wpList P ops Q rest (a.put op.dst undef) X) : wpList P ops Q (op :: rest) a w := by
  have hrun : (storeVar ty ⟨g, off, none⟩ v).run P w = .ok () (w.setRow g (cur.take off ++ [v] ++ cur.drop (off + 1)).toArray) := by
    have := run_storeCells_at P g off t [v] 0 cur.toArray w hg (by simp; omega) (fun u hu => by simp at hu; subst hu; exact h1)
    cases hq : P.info? ty with
    | none => simp [hq] at hi
    | some i =>
      have hs : i.size = 1 := by simp [hq] at hi; omega
      simp [storeVar, sizeOf, typeInfo, hq, hv, hs] at this ⊢
      exact this
  have hb : Blk (w.setRow g (cur.take off ++ [v] ++ cur.drop (off + 1)).toArray) g t (cur.set off v) := by
    have e : cur.take off ++ [v] ++ cur.drop (off + 1) = cur.set off v := by rw [List.set_eq_take_append_cons_drop, if_pos hoff]; simp
    rw [← e]
    exact set_blk hg
  refine wpList_plain hgd fun K hK => ?_
  unfold Oper.wp execOp
  simp only [ho, hx, hy, Instr.storeAt, Instr.sureAddr, Sem.run_bind, Sem.run_pure, Result.andThen_ok, hrun]
  exact hK _ _ (h _ hb (set_only w g _))
abbrev accL (W : Int) (wr : Bool) (A S D : Int) : List Value := [.int .i64 W, .bool wr, .int .u32 A, .int .i64 S, .int .u32 D]
def nextL (s : En) (world : Int) : List Value := if s.has then accL world true s.T 4 s.H else accL world false s.F 4 0
set_option maxHeartbeats 1000000 in
/-- The asker: what is asked is what was wanted. -/
theorem ask_any (W : Int) (wr : Bool) (A S D : Int) (v err n : Int) (g0 g1 g2 : Nat) (w : World) (hn : 0 ≤ n ∧ n < 100)
    (h0 : Blk w g0 41 [.int .u32 v, .int .i64 err]) (h1 : Blk w g1 53 (accL W wr A S D)) (h2 : Blk w g2 3 [.int .i64 n]) (hne : g1 ≠ g2 ∧ g0 ≠ g2) :
    Calls Try.prog 33 #[accV W wr A S D, .pointer (some ⟨g1, 0, none⟩), .pointer (some ⟨g2, 0, none⟩), .pointer (some ⟨g0, 0, none⟩)] w fun e w' => e = .returned (.agg #[.int .u32 v, .int .i64 err]) ∧ Blk w' g2 3 [.int .i64 (n + 1)] ∧ Only (fun j => j = g2) w w' := by
  have e1 : (W == W) = true := by simp
  have e2 : (A == A) = true := by simp
  have e3 : (S == S) = true := by simp
  have e4 : (D == D) = true := by simp
  have e5 : IntKind.i64.wrap (n + 1) = n + 1 := i64w (by omega)
  obtain ⟨g, hg⟩ : ∃ g, w.heap.size = g := ⟨_, rfl⟩
  have HG := Lib.hid hg
  have H0 := Lib.hid h0
  have H1 := Lib.hid h1
  have H2 := Lib.hid h2
  have l0 := h0.lt
  have l1 := h1.lt
  have l2 := h2.lt
  have b0 := fun o o' => ((h1.alloc o).alloc o').at 0 rfl
  have b1 := fun o o' => ((h1.alloc o).alloc o').at 1 rfl
  have b2 := fun o o' => ((h1.alloc o).alloc o').at 2 rfl
  have b3 := fun o o' => ((h1.alloc o).alloc o').at 3 rfl
  have b4 := fun o o' => ((h1.alloc o).alloc o').at 4 rfl
  have c0 := fun o o' => ((h2.alloc o).alloc o').at 0 rfl
  clear h0 h1 h2
  go_enter Try.func33, Try.ntmps33
  go_wp2_with (with_reducible refine at_store _ _ _ rfl ?_)
  refine Lib.hid ?_
  refine list_letter ?_
  intro X hX
  have BX := Lib.hid (show Below w.heap.size w X by rw [hX.out]; exact ((Below.refl _ _).alloc (Nat.le_refl _) _).alloc (by simp) _)
  have Z := Lib.hid (show Blk X (g + 1) 41 [.int .u32 0, .int .i64 0] by
    rw [hX.out]
    have e : ∀ Y : World, Y.heap.size = g + 1 → Blk (Y.alloc (.cells #[.int .u32 0, .int .i64 0] 41)) (g + 1) 41 [.int .u32 0, .int .i64 0] := fun Y h => by rw [← h]; exact Blk.new Y _ _
    exact e _ (by simp [HG.out]))
  have K0 := Lib.hid (H0.out.keep BX.out)
  have K2 := Lib.hid (H2.out.keep BX.out)
  have HN := Lib.hid (show g0 ≠ g2 ∧ g2 ≠ g + 1 ∧ g0 < g ∧ g2 < g by omega)
  clear hX b0 b1 b2 b3 b4 c0 hne l0 l1 l2 hg
  refine store_one rfl _ _ _ rfl g2 0 (.int .i64 (n + 1)) rfl rfl _ _ K2.out (by kernel_rfl) (by simp) (by simp [Value.oneCell']) rfl ?_
  intro Y hY hoY
  have Y2 := Lib.hid (show Blk Y g2 3 [.int .i64 (n + 1)] from hY)
  have Y0 := Lib.hid (K0.out.only hoY (by show ¬ g0 = g2; exact HN.out.1))
  have YZ := Lib.hid (Z.out.only hoY (by show ¬ g + 1 = g2; exact fun e => HN.out.2.1 e.symm))
  have OY := Lib.hid (show Only (fun j => j = g2) w Y from (Only.of_below BX.out).trans hoY)
  clear hY hoY
  have a0 := Y0.out.at 0 rfl
  have a1 := Y0.out.at 1 rfl
  go_wp2_with (with_reducible refine at_store _ _ _ rfl ?_)
  refine Lib.hid ?_
  refine store_all rfl _ _ _ rfl (g + 1) [.int .u32 v, .int .i64 err] rfl rfl _ _ YZ.out (by kernel_rfl) rfl (by simp [Value.oneCell']) ?_
  intro V hV hoV
  have V2 := Lib.hid (Y2.out.only hoV (by show ¬ g2 = g + 1; exact HN.out.2.1))
  have OV := Lib.hid (show Only (fun j => j = g2) w V from OY.out.far hoV (fun i hi e => by have := HG.out; have : i = g + 1 := e; omega))
  have r0 := hV.at 0 rfl
  have r1 := hV.at 1 rfl
  clear hV hoV a0 a1
  go_wp2_with fail
  refine bodyPost_ret (v := .agg #[.int .u32 v, .int .i64 err]) ?_ rfl ⟨rfl, V2.out, OV.out⟩
  simp [results, Try.results33, go_sem, r0, r1]
end Go.Proofs.Ythpkebcedaakhaa.Dma
