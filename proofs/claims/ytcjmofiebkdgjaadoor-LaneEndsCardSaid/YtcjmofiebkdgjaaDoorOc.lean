/- Contract of package word's First: a range over a function whose body returns. -/
import Derived.Test.YtcjmofiebkdgjaaDoorOb
import Derived.RangeFuncNested
namespace Go.Proofs.YtcjmofiebkdgjaaDoor.Word
open Go.RowKit Go.Shelf
set_option linter.unusedVariables false
attribute [local go_sem] Oper.semAt_some

def firstV (x : Nat) : Nat := if x = 0 then 0 else Lib.ctz 32 x
def firstB (x : Nat) : Bool := decide (x ≠ 0)
theorem firstV_head {x b : Nat} {r : List Nat} (hx : x < 4294967296) (h : onesL x = b :: r) : firstV x = b ∧ firstB x = true := by
  by_cases h0 : x = 0
  · subst h0; rw [onesL_zero] at h; cases h
  · rw [onesL_step h0 (by omega)] at h
    simp only [List.cons.injEq] at h
    exact ⟨by unfold firstV; rw [if_neg h0]; exact h.1, by simp [firstB, h0]⟩
theorem firstV_nil {x : Nat} (hx : x < 4294967296) (h : onesL x = []) : firstV x = 0 ∧ firstB x = false := by
  by_cases h0 : x = 0
  · subst h0; exact ⟨rfl, rfl⟩
  · exact absurd h (onesL_ne h0 (by omega))

set_option maxRecDepth 100000 in
set_option maxHeartbeats 2000000 in
theorem first_any (x : Nat) (hx : x < 4294967296) (w : World) (hT : TabZ w) :
    Calls Tryd.prog 19 #[.int .u32 x] w fun e W' => e = .returned (.tuple #[.int .i64 (firstV x), .bool (firstB x)]) ∧ Below w.heap.size w W' := by
  have hg : 1 < w.heap.size := World.block_lt_of_cell? w _ (hT 0 (by omega))
  refine (callsIn_wide (n := 4)).1 ?_
  refine callsIn_of_wp_marks Tryd.func19 rfl trivial ?_ rfl
  simp only [Tryd.ntmps19, List.size_toArray, List.length_cons, List.length_nil, Nat.reduceAdd, Nat.reduceSub, Array.replicate_succ, Array.replicate_zero, List.push_toArray, List.append_toArray, List.nil_append, List.cons_append]
  gi_wp2_with (refine ⟨trivial, ?_⟩; gi_at_call 31; refine (ones_in 3 _ _).mono ?_; rintro e w' ⟨rfl, rfl⟩)
  have c0 := Boxed.new w 3 (.int .i64 0)
  have c1 := Boxed.new (w.alloc (.cells #[.int .i64 0] 3)) 4 (.bool false)
  have c2 := Boxed.new ((w.alloc (.cells #[.int .i64 0] 3)).alloc (.cells #[.bool false] 4)) 22 (.int .u32 x)
  simp only [World.size_alloc] at c1 c2
  have hB0 : Below w.heap.size w (((w.alloc (.cells #[.int .i64 0] 3)).alloc (.cells #[.bool false] 4)).alloc (.cells #[.int .u32 x] 22)) := (((Below.refl _ w).alloc (Nat.le_refl _) _).alloc (by simp) _).alloc (by simp; omega) _
  refine wpIn_rangeFunc_ownF rfl (by omega) (gf := 40) (lb := #[.pointer (some ⟨w.heap.size + 1 + 1, 0, none⟩)]) rfl trivial (enters_of Tryd.func40 (by kernel_rfl) rfl)
    (ones_stops 3 (by omega) (w.heap.size + 1 + 1) w.heap.size x hx _ (by simp) (by simp; omega) hg c2.cell (hT.below hB0)) belowK_t (belowK_b (by simp; omega)) (Below.refl _ _) (fun _ => rfl)
    (fun (pre : List Nat) W => (pre = [] ∧ Boxed W w.heap.size 3 (.int .i64 0) ∧ Boxed W (w.heap.size + 1) 4 (.bool false)) ∧ Below w.heap.size w W)
    (fun c pre W => (c = .ret ∧ ∃ b : Nat, pre = [b] ∧ Boxed W w.heap.size 3 (.int .i64 b) ∧ Boxed W (w.heap.size + 1) 4 (.bool true)) ∧ Below w.heap.size w W)
    (OwnFrom.and (Own.from (fun s A B row hs hg hr => ⟨hs.1, boxed_own w.heap.size 3 (fun _ : List Nat => .int .i64 0) s A B row hs.2.1 hg hr, boxed_own (w.heap.size + 1) 4 (fun _ : List Nat => .bool false) s A B row hs.2.2 hg hr⟩) _) (ownFrom_below (Nat.le_refl _) (by simp; omega)))
    (fun c => OwnFrom.and (Own.from (fun s A B row hs hg hr => by
      obtain ⟨h1, b, h2, h3, h4⟩ := hs
      exact ⟨h1, b, h2, boxed_own w.heap.size 3 (fun _ : List Nat => .int .i64 (b : Nat)) s A B row h3 hg hr, boxed_own (w.heap.size + 1) 4 (fun _ : List Nat => .bool true) s A B row h4 hg hr⟩) _) (ownFrom_below (Nat.le_refl _) (by simp; omega)))
    ⟨⟨rfl, (c0.alloc _).alloc _, c1.alloc _⟩, hB0⟩
    (fun b => { tmps := #[.int .u32 x, undef, .pointer (some ⟨w.heap.size, 0, none⟩), .pointer (some ⟨w.heap.size + 1, 0, none⟩), .int .i64 (b : Nat), .int .u32 x, .func (.func 40) #[] #[.pointer (some ⟨w.heap.size + 1 + 1, 0, none⟩)], .int .i64 (b : Nat), undef], defers := [] }) ?assign ?body ?done ?stop
  case assign =>
    intro l b W K hK
    gi_wp2
    exact hK
  case body =>
    rintro l pre b W ⟨⟨rfl, h0, h1⟩, hB⟩ hlt
    have k0 := h0.cell
    have k1 := h1.cell
    have f0 := h0.frozen
    have f1 := h1.frozen
    gi_wp2
    have k2 : W.setCell ⟨w.heap.size, 0, none⟩ (.int .i64 b) = W.setCell ⟨w.heap.size, 0, none⟩ (.int .i64 b) := rfl
    exact ⟨(KeepsOthers.setCell _ _ _).trans (KeepsOthers.setCell _ _ _), ⟨rfl, b, rfl, (h0.set (.int .i64 b)).other (show w.heap.size ≠ w.heap.size + 1 by omega) _, (h1.other (show w.heap.size + 1 ≠ w.heap.size by omega) _).set _⟩, (hB.setCell (p := ⟨w.heap.size, 0, none⟩) (by simp) _).setCell (p := ⟨w.heap.size + 1, 0, none⟩) (by simp) _⟩
  case done =>
    rintro D ys W hD rfl ⟨⟨hnil, h0, h1⟩, hB⟩ hK
    have k0 := h0.cell
    have k1 := h1.cell
    have f0 := h0.frozen
    have f1 := h1.frozen
    obtain ⟨e0, e1⟩ := firstV_nil hx hnil
    gi_wp2
    have g0 := (h0.set (.int .i64 0)).other (show w.heap.size ≠ w.heap.size + 1 by omega) (.bool false)
    have g1 := (h1.other (show w.heap.size + 1 ≠ w.heap.size by omega) (.int .i64 0)).set (.bool false)
    have hK' := ((KeepsOthers.setCell W ⟨w.heap.size, 0, none⟩ (.int .i64 0)).trans (KeepsOthers.setCell _ ⟨w.heap.size + 1, 0, none⟩ (.bool false))).same D _ hK rfl
    refine ⟨by simp, .inl ⟨_, _, rfl, run_takeDeferred hK', ?_⟩⟩
    have c5 := cell_kept g0.cell (grownBy_putObj' _ D (.deferred none)) (fun r e => by cases e; exact ⟨_, hK', rfl⟩)
    have c6 := cell_kept g1.cell (grownBy_putObj' _ D (.deferred none)) (fun r e => by cases e; exact ⟨_, hK', rfl⟩)
    refine ⟨.tuple #[.int .i64 0, .bool false], ?_, by rw [e0, e1]; rfl, ((hB.setCell (p := ⟨w.heap.size, 0, none⟩) (by simp) _).setCell (p := ⟨w.heap.size + 1, 0, none⟩) (by simp) _).trans (belowK_b (w := w) (Nat.le_refl _) _ D _ _ (by simp at hD; omega) hK' rfl rfl)⟩
    simp [results, Tryd.f19, go_sem, c5, c6]
  case stop =>
    rintro D c pre W hD hpre ⟨⟨rfl, b, rfl, h0, h1⟩, hB⟩ hK
    obtain ⟨r, hr⟩ := hpre
    obtain ⟨e0, e1⟩ := firstV_head (b := b) (r := r) hx (by rw [← hr]; rfl)
    gi_wp2
    refine ⟨by simp, .inl ⟨_, _, rfl, run_takeDeferred hK, ?_⟩⟩
    have c5 := cell_kept h0.cell (grownBy_putObj' _ D (.deferred none)) (fun r e => by cases e; exact ⟨_, hK, rfl⟩)
    have c6 := cell_kept h1.cell (grownBy_putObj' _ D (.deferred none)) (fun r e => by cases e; exact ⟨_, hK, rfl⟩)
    refine ⟨.tuple #[.int .i64 b, .bool true], ?_, by rw [e0, e1], hB.trans (belowK_b (w := w) (Nat.le_refl _) W D _ _ (by simp at hD; omega) hK rfl rfl)⟩
    simp [results, Tryd.f19, go_sem, c5, c6]
end Go.Proofs.YtcjmofiebkdgjaaDoor.Word
