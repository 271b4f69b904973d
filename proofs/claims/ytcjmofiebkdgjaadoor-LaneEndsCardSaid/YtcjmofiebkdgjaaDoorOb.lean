/- Contracts of package word's First and Ones: a range over a function. -/
import Derived.RangeFuncBox
import Derived.RangeFuncLeaves
import Derived.Shelf.Abstract
import Derived.WalkKit
import Derived.OwnWalkIn
import Derived.TacticsInMore
import Derived.LoopNIn
import Derived.LoopIn
import Derived.Maps.AppendAt
import Derived.Test.YtcjmofiebkdgjaaDoorProg
import Derived.Test.YtcjmofiebkdgjaaDoorOa
import Derived.Lib.Hide
import Derived.Outline
namespace Go.Proofs.YtcjmofiebkdgjaaDoor.Word
open Go.RowKit Go.Shelf
set_option linter.unusedVariables false
attribute [local go_sem] Oper.semAt_some

/-- The library's table for the trailing zeros. -/
def TabZ (w : World) : Prop := ∀ i : Nat, i < 32 → w.cell? ⟨1, i, none⟩ = some (.int .u8 (Lib.deBruijn32tab.getD i 0))
theorem TabZ.below {w w' : World} (h : TabZ w) (hb : Below w.heap.size w w') : TabZ w' := fun i hi => by
  have c := h i hi
  rw [hb.cell (World.block_lt_of_cell? w _ c)]
  exact c

theorem tz_core (x k idx : Nat) (w : World) (hx0 : ((x : Int) == 0) = false)
    (key : bits BinOp.and IntKind.u32 (x : Int) (-(x : Int) % 4294967296) * 125613361 % 4294967296 / 134217728 = (idx : Int))
    (hi : idx < 32) (hk : k < 32) (hcell : w.cell? ⟨1, idx, none⟩ = some (.int .u8 k)) :
    Calls Tryd.prog 41 #[.int .u32 x] w fun e w' => e = .returned (.int .i64 k) ∧ w = w' := by
  go_enter Tryd.func41, Tryd.ntmps41
  go_wp2_with (simp only [key])
  go_ret
  exact ⟨rfl, rfl⟩
theorem tz_any (x : Nat) (hx : x < 4294967296) (h0 : x ≠ 0) (w : World) (hT : TabZ w) :
    Calls Tryd.prog 41 #[.int .u32 x] w fun e w' => e = .returned (.int .i64 (Lib.ctz 32 x)) ∧ w = w' := by
  obtain ⟨hlow, hk⟩ := Lib.lowest_bit 32 x h0 hx
  obtain ⟨hi, htab⟩ := Lib.deBruijn32_at _ hk
  have hcell := hT _ hi
  rw [htab] at hcell
  exact tz_core x _ _ w (by simp; omega) (tz_key x _ hx hlow h0) hi hk hcell

set_option maxRecDepth 100000 in
set_option maxHeartbeats 1000000 in
/-- The iterator: for every loop body that keeps what lay below n₀. -/
theorem ones1_in (n : Nat) (hn : 1 ≤ n) (l Bn n₀ : Nat) (x : Nat) (hx : x < 4294967296) (J Jx : List Nat → World → Prop)
    (hY : ∀ pre b W, J pre W → pre.length < (onesL x).length → YieldAt Fence.wide (n - 1) Tryd.prog l #[.int .i64 (b : Nat)] W fun e W' =>
      (e = .returned (.bool true) ∧ J (pre ++ [b]) W' ∧ Below n₀ W W') ∨ (e = .returned (.bool false) ∧ Jx (pre ++ [b]) W'))
    (W : World) (hBn : W.cell? ⟨Bn, 0, none⟩ = some (.int .u32 x)) (hT : TabZ W) (hn₀ : 1 < n₀) (h0 : J [] W) :
    CallsIn Fence.wide n Tryd.prog 40 #[.func (.yield l) #[] #[], .pointer (some ⟨Bn, 0, none⟩)] W fun e W' => (∃ v, e = .returned v) ∧
      ((∃ ys, ys = onesL x ∧ J ys W') ∨ (∃ pre, pre <+: onesL x ∧ Jx pre W')) := by
  refine callsIn_of_wp Tryd.func40 rfl trivial ?_ rfl
  simp only [Tryd.ntmps40, List.size_toArray, List.length_cons, List.length_nil, Nat.reduceAdd, Nat.reduceSub, Array.replicate_succ, Array.replicate_zero, List.push_toArray, List.append_toArray, List.nil_append, List.cons_append]
  gi_wp2
  gi_loopw [3] (fun p wr => ∃ (pre : List Nat) (z : Nat), p = .int .u32 z ∧ z < 4294967296 ∧ onesL x = pre ++ onesL z ∧ Below n₀ W wr ∧ J pre wr)
    (fun p wr => (intOf p).toNat)
  case atStart => exact ⟨[], x, rfl, hx, rfl, Below.refl _ _, h0⟩
  case round =>
    obtain ⟨pre, z, rfl, hz, hpre, hb, hJs⟩ := hrel
    by_cases hz0 : z = 0
    · subst hz0
      gi_wp2
      go_end0
      exact ⟨⟨_, rfl⟩, .inl ⟨pre, by rw [hpre, onesL_zero, List.append_nil], hJs⟩⟩
    · have hstep := onesL_step hz0 (by omega)
      have hap := and_pred hz0 (by omega)
      have hlen : pre.length < (onesL x).length := by rw [hpre, hstep]; simp
      obtain ⟨b, hbb⟩ : ∃ b, Lib.ctz 32 z = b := ⟨_, rfl⟩
      rw [hbb] at hstep
      obtain ⟨fn, tmps, assign, body, hy, hR⟩ := hY pre b wr hJs hlen
      have hTr : Hid (TabZ wr) := fun i hi => by
        have c := hT i hi
        rw [hb.cell (p := ⟨1, i, none⟩) hn₀]
        exact c
      have hzb : ((z : Int) == 0) = false := beq_eq_false_iff_ne.2 (by omega)
      have hpa := pred_and z hz hz0
      obtain ⟨z', hz'⟩ : ∃ z', z &&& (z - 1) = z' := ⟨_, rfl⟩
      rw [hz'] at hpa hstep hap
      have hlt' : z' < z := hap.2.1
      have Hstep := Lib.hid hstep
      have Hpre := Lib.hid hpre
      have Hbb := Lib.hid hbb
      have Hb := Lib.hid hb
      clear hstep hpre hbb hb hap hz'
      gi_wp2_with (refine ⟨trivial, ?_⟩; gi_at_call 41; refine (callsIn_wide.2 (tz_any z hz hz0 _ hTr.out)).mono ?_; rintro e w' ⟨rfl, rfl⟩; rw [Hbb.out])
      refine hR.mono ?_
      rintro e W3 (⟨rfl, hJ3, hk3⟩ | ⟨rfl, hJx3⟩)
      · gi_wp2
        go_roundw
        case rel => exact ⟨pre ++ [b], z', rfl, by omega, by rw [Hpre.out, Hstep.out]; simp, Hb.out.trans hk3, hJ3⟩
        case measure => simp [intOf]; omega
      · gi_wp2
        refine bodyPost_ret (results_none rfl _ _ _) rfl ?_
        exact ⟨⟨_, rfl⟩, .inr ⟨pre ++ [b], ⟨onesL z', by rw [Hpre.out, Hstep.out]; simp⟩, hJx3⟩⟩

theorem ones_in (n : Nat) (x : Int) (w : World) :
    CallsIn Fence.wide n Tryd.prog 31 #[.int .u32 x] w fun e w' => e = .returned (.func (.func 40) #[] #[.pointer (some ⟨w.heap.size, 0, none⟩)]) ∧ w' = w.alloc (.cells #[.int .u32 x] 22) := by
  refine callsIn_of_wp Tryd.func31 rfl trivial ?_ rfl
  simp only [Tryd.ntmps31, List.size_toArray, List.length_cons, List.length_nil, Nat.reduceAdd, Nat.reduceSub, Array.replicate_succ, Array.replicate_zero, List.push_toArray, List.append_toArray, List.nil_append, List.cons_append]
  gi_wp2
  go_ret
  exact ⟨rfl, rfl⟩

theorem ones_stops (n : Nat) (hn : 1 ≤ n) (Bn n₀ : Nat) (x : Nat) (hx : x < 4294967296) (w : World) (hBn : Bn < w.heap.size) (hn₀ : n₀ ≤ w.heap.size) (hg : 1 < n₀)
    (hc : w.cell? ⟨Bn, 0, none⟩ = some (.int .u32 x)) (hT : TabZ w) :
    SeqStopsK Fence.wide n Tryd.prog 40 #[.pointer (some ⟨Bn, 0, none⟩)] (fun b : Nat => #[Value.int .i64 b]) (Below n₀) (fun ys => ys = onesL x) (fun pre => pre <+: onesL x) (onesL x).length w := fun l J Jx W hW _ _ hY h0 =>
  ones1_in n hn l Bn n₀ x hx J Jx hY W ((hW.cell (p := ⟨Bn, 0, none⟩) hBn).trans hc) (hT.below hW) hg h0

theorem info_int : (Tryd.prog.info? 3).map (fun i => (i.zero, i.size, i.bytes)) = some (some (.int .i64 0), 1, 8) := by kernel_rfl
/-- What Ones answers lies in new memory. -/
def OnesPost (x : Nat) (w : World) (e : Ending) (W' : World) : Prop := ∃ v, e = .returned v ∧ W'.ownsRow w.heap.size 3 1 v (onesL x).length ((onesL x).map (fun b => Value.int .i64 (b : Nat))) ∧ Below w.heap.size w W'

set_option maxRecDepth 100000 in
set_option maxHeartbeats 2000000 in
theorem ones_any (x : Nat) (hx : x < 4294967296) (w : World) (hT : TabZ w) :
    Calls Tryd.prog 20 #[.int .u32 x] w (OnesPost x w) := by
  have hg : 1 < w.heap.size := World.block_lt_of_cell? w _ (hT 0 (by omega))
  have hlen := onesL_len x
  obtain ⟨i0, hi, hz0, hz1, hz2⟩ := info_parts info_int
  refine (callsIn_wide (n := 4)).1 ?_
  refine callsIn_of_wp_marks Tryd.func20 rfl trivial ?_ rfl
  simp only [Tryd.ntmps20, List.size_toArray, List.length_cons, List.length_nil, Nat.reduceAdd, Nat.reduceSub, Array.replicate_succ, Array.replicate_zero, List.push_toArray, List.append_toArray, List.nil_append, List.cons_append]
  gi_wp2_with (refine ⟨trivial, ?_⟩; gi_at_call 31; refine (ones_in 3 _ _).mono ?_; rintro e w' ⟨rfl, rfl⟩)
  have bO := Boxed.new w 29 (.slice none 0 0)
  have bN := Boxed.new (w.alloc (.cells #[.slice none 0 0] 29)) 22 (.int .u32 x)
  rw [World.size_alloc] at bN
  have hB0 : Below w.heap.size w ((w.alloc (.cells #[.slice none 0 0] 29)).alloc (.cells #[.int .u32 x] 22)) := ((Below.refl _ w).alloc (Nat.le_refl _) _).alloc (by simp) _
  refine wpIn_rangeFunc_ownG rfl (by omega) (gf := 40) (lb := #[.pointer (some ⟨w.heap.size + 1, 0, none⟩)]) rfl trivial (enters_of Tryd.func40 (by kernel_rfl) rfl)
    (ones_stops 3 (by omega) (w.heap.size + 1) w.heap.size x hx _ (by simp) (by simp; omega) hg bN.cell (hT.below hB0)) belowK_t (belowK_b (by simp; omega)) (Below.refl _ _) (fun _ => rfl)
    (fun (pre : List Nat) W => (∃ v, Boxed W w.heap.size 29 v ∧ W.ownsRow w.heap.size 3 1 v pre.length (pre.map (fun b => Value.int .i64 (b : Nat))) ∧ True) ∧ Below w.heap.size w W)
    (fun _ _ _ => False)
    (OwnFrom.and (Own.from (holdsRow_own w.heap.size w.heap.size 29 3 1 (fun pre : List Nat => pre.length) (fun pre => pre.map (fun b => Value.int .i64 (b : Nat))) (fun _ _ => True)) _) (ownFrom_below (Nat.le_refl _) (by simp; omega)))
    (fun _ _ _ _ _ hs _ _ => hs)
    ⟨⟨_, bO.alloc _, World.ownsRow_nil _ _ _ _, trivial⟩, hB0⟩
    (fun b => { tmps := #[.int .u32 x, undef, .slice none 0 0, .pointer (some ⟨w.heap.size, 0, none⟩), .int .i64 (b : Nat), .int .u32 x, .func (.func 40) #[] #[.pointer (some ⟨w.heap.size + 1, 0, none⟩)], .int .i64 (b : Nat), undef, undef, undef, undef, undef], defers := [] }) ?assign ?body ?done ?stop
  case assign =>
    intro l b W K hK
    gi_wp2
    exact hK
  case body =>
    rintro l pre b W ⟨⟨v, hv, hrow, _⟩, hB⟩ hlt
    have hc := hv.cell
    gi_wp2_with (gi_at_builtin; refine wpListIn_append_own _ rfl _ _ 29 rfl w.heap.size 3 i0 (.int .i64 0) 1 8 Tryd.underlying29 hi hz0 hz1 hz2 rfl (by decide) _ _ _ rfl (hrow.alloc _) ⟨W.heap.size, 0, none⟩ 1 1 [.int .i64 (b : Nat)] rfl rfl (cell_one_new _ _ _) (by simp [Value.oneCell']) (by unfold maxLen; omega) (by omega) (by have := hB.size; simp; omega) ?_; intro v' w1 hown' hgrow _; obtain ⟨g', cap', rfl⟩ := ownsRow_succ hown'; obtain ⟨hv1, hv2, hr2, hk2, hb2⟩ := hv.appended (by decide) hrow hB.size (Nat.le_refl _) hown' hgrow; have hc1 := hv1.cell; have hf1 := hv1.frozen)
    exact ⟨hk2.from _, hb2, ⟨_, hv2, by simpa using hr2, trivial⟩, hB.trans hb2⟩
  case done =>
    rintro D ys W hD rfl ⟨⟨v, hv, hrow, _⟩, hB⟩ hK
    have hc := hv.cell
    gi_wp2
    refine ⟨by simp, .inl ⟨_, _, rfl, run_takeDeferred hK, ?_⟩⟩
    exact ⟨_, results_tmp rfl _ _ _, v, rfl, ownsRow_putObj hrow _ hK rfl, hB.trans (belowK_b (w := w) (Nat.le_refl _) W D _ _ (by simp at hD; omega) hK rfl rfl)⟩
  case stop =>
    rintro D c pre W _ _ h _
    exact h.elim
end Go.Proofs.YtcjmofiebkdgjaaDoor.Word
