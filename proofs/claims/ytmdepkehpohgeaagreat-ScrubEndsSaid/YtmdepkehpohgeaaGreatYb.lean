/- What must hold of a device: the map of sizes is made, and asked. -/
import Derived.Test.YtmdepkehpohgeaaGreatYa
import Derived.Test.YtmdepkehpohgeaaGreatVb
namespace Go.Proofs.YtmdepkehpohgeaaGreat.Win
open Go.RowKit Go.Maps Fifo Orow
open Go.Proofs.YtmdepkehpohgeaaGreat.Reach (ret_bool)
set_option linter.unusedVariables false

theorem list_letter {P : Program} {ops : Array Oper} {Q : Exit → Act → World → Prop} {l : List Oper} {a : Act} {w : World} (h : ∀ W, Hid (W = w) → wpList P ops Q l a W) : wpList P ops Q l a w := h w (Lib.hid rfl)
theorem blk_grown {w w' : World} {g b : Nat} {t : TypeId} {vs : List Value} (h : Blk w g t vs) (hg : w.grownBy w' (some b)) (hn : g ≠ b) : Blk w' g t vs := (hg.block g h.lt (by simpa using hn)).trans h
theorem below_grown {B b : Nat} {w w1 w2 : World} (h : Below B w w1) (hg : w1.grownBy w2 (some b)) (hb : B ≤ b) (hB : B ≤ w1.heap.size) : Below B w w2 := h.grown hg hB (fun k e => by injection e with e; omega)
set_option maxHeartbeats 1000000 in
theorem sizesOf_any (w : World) : Calls Tryz.prog 139 #[] w fun e w' => (∃ g, e = .returned (.map (some g)) ∧ Kinds w' g) ∧ Below w.heap.size w w' := by
  have hmm := @run_makeMap Tryz.prog
  go_enter Tryz.func139, Tryz.ntmps139
  go_wp2_with (with_reducible refine at_insert _ _ _ _ rfl ?_)
  refine Lib.hid ?_
  refine list_letter ?_
  intro W hW
  have hsz : W.heap.size = w.heap.size + 2 := by rw [hW.out]; simp
  have B0 := Lib.hid (show Below w.heap.size w W by rw [hW.out]; exact ((Below.refl w.heap.size w).alloc (Nat.le_refl _) _).alloc (by simp) _)
  have K0 := Lib.hid (show Blk W w.heap.size 222 [.int .i64 32, .int .i64 32] by rw [hW.out]; exact (Blk.new w 222 [.int .i64 32, .int .i64 32]).alloc _)
  have H0 := Lib.hid (show W.ownsMap Tryz.prog 42 szR (w.heap.size + 1) 0 (.map []) by
    rw [hW.out]
    have e : ∀ X : World, X.heap.size = w.heap.size + 1 → (X.alloc (.map #[] 0)).ownsMap Tryz.prog 42 szR (w.heap.size + 1) 0 (.map []) := fun X h => by rw [← h]; exact World.ownsMap_made X _ _ _
    exact e _ (by simp))
  have hw0 : W.heap.size = w.heap.size + 2 := hsz
  obtain ⟨g, hg⟩ : ∃ g, w.heap.size = g := ⟨_, rfl⟩
  rw [hg] at B0 K0 H0 hsz
  rw [hg]
  clear hW hmm
  refine wpList_insert_own _ rfl _ _ _ _ rfl 42 222 keyK Tryz.underlying224 szR _ 0 _ rfl H0.out (by unfold maxLen; omega) _ _ _ rfl rfl (keyOf_int_mk Tryz.underlying42 (by decide)) (szD 4 4096) [] (szR_mk _ _) ?_
  intro w1 hown hgr
  have H1 := Lib.hid hown
  have K1 := Lib.hid (blk_grown K0.out hgr (by omega))
  have B1 := Lib.hid (below_grown B0.out hgr (by omega) (by omega))
  have hs1 := hgr.size
  have hw1 : g + 2 ≤ w1.heap.size := by omega
  clear hown hgr hs1
  have c0 := K1.out.at 0 rfl
  have c1 := K1.out.at 1 rfl
  go_wp2_with (with_reducible refine at_insert _ _ _ _ rfl ?_)
  refine Lib.hid ?_
  clear c0 c1
  refine wpList_insert_own _ rfl _ _ _ _ rfl 42 222 keyK Tryz.underlying224 szR _ 1 _ rfl H1.out (by unfold maxLen; omega) _ _ _ rfl rfl (keyOf_int_mk Tryz.underlying42 (by decide)) (szD 32 32) [] (szR_mk _ _) ?_
  intro w2 hown hgr
  have H2 := Lib.hid hown
  have K2 := Lib.hid (blk_grown K1.out hgr (by omega))
  have B2 := Lib.hid (below_grown B1.out hgr (by omega) (by omega))
  have hs2 := hgr.size
  have hw2 : g + 2 ≤ w2.heap.size := by omega
  clear hown hgr hs2
  have c0 := K2.out.at 0 rfl
  have c1 := K2.out.at 1 rfl
  go_wp2_with (with_reducible refine at_insert _ _ _ _ rfl ?_)
  refine Lib.hid ?_
  clear c0 c1
  refine wpList_insert_own _ rfl _ _ _ _ rfl 42 222 keyK Tryz.underlying224 szR _ 2 _ rfl H2.out (by unfold maxLen; omega) _ _ _ rfl rfl (keyOf_int_mk Tryz.underlying42 (by decide)) (szD 32 32) [] (szR_mk _ _) ?_
  intro w3 hown hgr
  have H3 := Lib.hid hown
  have K3 := Lib.hid (blk_grown K2.out hgr (by omega))
  have B3 := Lib.hid (below_grown B2.out hgr (by omega) (by omega))
  have hs3 := hgr.size
  have hw3 : g + 2 ≤ w3.heap.size := by omega
  clear hown hgr hs3
  have c0 := K3.out.at 0 rfl
  have c1 := K3.out.at 1 rfl
  go_wp2_with (with_reducible refine at_insert _ _ _ _ rfl ?_)
  refine Lib.hid ?_
  clear c0 c1
  refine wpList_insert_own _ rfl _ _ _ _ rfl 42 222 keyK Tryz.underlying224 szR _ 3 _ rfl H3.out (by unfold maxLen; omega) _ _ _ rfl rfl (keyOf_int_mk Tryz.underlying42 (by decide)) (szD 32 32) [] (szR_mk _ _) ?_
  intro w4 hown hgr
  have H4 := Lib.hid hown
  have K4 := Lib.hid (blk_grown K3.out hgr (by omega))
  have B4 := Lib.hid (below_grown B3.out hgr (by omega) (by omega))
  have hs4 := hgr.size
  have hw4 : g + 2 ≤ w4.heap.size := by omega
  clear hown hgr hs4
  have c0 := K4.out.at 0 rfl
  have c1 := K4.out.at 1 rfl
  go_wp2_with (with_reducible refine at_insert _ _ _ _ rfl ?_)
  refine Lib.hid ?_
  clear c0 c1
  refine wpList_insert_own _ rfl _ _ _ _ rfl 42 222 keyK Tryz.underlying224 szR _ 4 _ rfl H4.out (by unfold maxLen; omega) _ _ _ rfl rfl (keyOf_int_mk Tryz.underlying42 (by decide)) (szD 32 32) [] (szR_mk _ _) ?_
  intro w5 hown hgr
  have H5 := Lib.hid hown
  have K5 := Lib.hid (blk_grown K4.out hgr (by omega))
  have B5 := Lib.hid (below_grown B4.out hgr (by omega) (by omega))
  have hs5 := hgr.size
  have hw5 : g + 2 ≤ w5.heap.size := by omega
  clear hown hgr hs5
  have c0 := K5.out.at 0 rfl
  have c1 := K5.out.at 1 rfl
  go_wp2_with (with_reducible refine at_insert _ _ _ _ rfl ?_)
  refine Lib.hid ?_
  clear c0 c1
  refine wpList_insert_own _ rfl _ _ _ _ rfl 42 222 keyK Tryz.underlying224 szR _ 5 _ rfl H5.out (by unfold maxLen; omega) _ _ _ rfl rfl (keyOf_int_mk Tryz.underlying42 (by decide)) (szD 32 32) [] (szR_mk _ _) ?_
  intro w6 hown hgr
  have H6 := Lib.hid hown
  have K6 := Lib.hid (blk_grown K5.out hgr (by omega))
  have B6 := Lib.hid (below_grown B5.out hgr (by omega) (by omega))
  have hs6 := hgr.size
  have hw6 : g + 2 ≤ w6.heap.size := by omega
  clear hown hgr hs6
  have c0 := K6.out.at 0 rfl
  have c1 := K6.out.at 1 rfl
  go_wp2_with fail
  go_ret
  exact ⟨⟨g + 1, rfl, H6.out⟩, by rw [hg]; exact B6.out⟩
theorem load_below5 {X : World} {g p : Nat} {d : Dv} (h : AtD X g p d) : (∀ w', Below X.heap.size X w' → w'.cell? ⟨g, p, none⟩ = some (.int .i64 d.k)) := fun w' hb => (h.keep hb).c0
set_option maxHeartbeats 4000000 in
theorem sized_core (k B S O L lo hi : Int) (is b : Bool) (w : World) (hk : -9223372036854775808 ≤ k) (hk' : k ≤ 9223372036854775807) (hlo : loV k = lo) (hhi : hiV k = hi) (his : isV k = is) :
    Calls Tryz.prog 123 #[dv k B S O L] w fun e w' => e = .returned (.bool (is && decide (lo ≤ S) && decide (S ≤ hi))) ∧ Below w.heap.size w w' := by
  have look : ∀ (W : World) (g : Nat), Kinds W g → (Instr.lookup 224 (.map (some g)) (.int .i64 k) true).run Tryz.prog W = .ok (.tuple #[.agg #[.int .i64 lo, .int .i64 hi], .bool is]) W := fun W g h => by rw [← hlo, ← hhi, ← his]; exact h.look k hk hk'
  have Look := Lib.hid look
  clear look hlo hhi his
  obtain ⟨g0, hg0⟩ : ∃ g, w.heap.size = g := ⟨_, rfl⟩
  go_enter Tryz.func123, Tryz.ntmps123
  go_wp2_with fail
  refine code_letter ?_
  intro X hX
  have D := Lib.hid (show AtD X g0 0 ⟨k, B, S, O, L⟩ by rw [hX.out, ← hg0]; exact atD_new w k B S O L _)
  have BX := Lib.hid (show Below g0 w X by rw [hX.out, ← hg0]; exact (Below.refl _ _).alloc (Nat.le_refl _) _)
  have HG := Lib.hid hg0
  clear hg0
  clear hX
  have a0 := load_below5 D.out
  go_region_held3 (fun w' => Below X.heap.size X w')
    (first | assumption | exact (Below.refl _ _).drew | exact Below.alloc (by assumption) (Below.size (by assumption)) _ | (refine Below.setCell (Below.setCell ?_ ?_ _) ?_ _; assumption; exact Nat.le_refl _; exact Nat.le_refl _))
    (first | (go_at_call 139; refine (sizesOf_any _).mono ?_; rintro e w' ⟨⟨g, rfl, hr⟩, hb⟩; have hbS : Below X.heap.size X w' := Below.trans (by assumption) (Below.mono hb (Below.size (by assumption))); have hr0 := Look.out _ _ hr; have hr1 := fun o => Look.out _ _ (hr.alloc o); try (obtain ⟨hc, hf⟩ := Reach.bcell hb; have h0 := hc X.heap.size 0 (by simp); have h1 := hc X.heap.size 1 (by simp); have f0 := hf X.heap.size 0 (by simp); have f1 := hf X.heap.size 1 (by simp); simp [go_sem] at h0 h1 f0 f1; have hlt : X.heap.size < w'.heap.size := by (have hq := hb.size; simp at hq; omega))))
  rotate_left 2
  · refine exit_letter ?_
    intro Z hZ
    have HS : Below X.heap.size X Z := by rw [hZ.out]; assumption
    have l0 := cell_lt D.out.c2
    have z0 : Z.cell? ⟨X.heap.size, 0, none⟩ = some (.int .i64 lo) := by rw [hZ.out]; simp [go_sem, h0]
    have z1 : Z.cell? ⟨X.heap.size, 1, none⟩ = some (.int .i64 hi) := by rw [hZ.out]; simp [go_sem, h1]
    have d2 := (D.out.keep HS).c2
    simp only [Nat.zero_add] at d2
    have HS := Lib.hid HS
    clear a0 hr0 hr1 hr hZ h0 h1 f0 f1 hlt hb hbS
    cases is
    · go_wp2_with fail
      go_ret
      refine ⟨rfl, by rw [HG.out]; exact BX.out.trans (Below.mono HS.out (Nat.le_of_lt l0))⟩
    · by_cases h1 : lo ≤ S
      · have e1 : decide (lo ≤ S) = true := decide_eq_true h1
        by_cases h2 : S ≤ hi
        · have e2 : decide (S ≤ hi) = true := decide_eq_true h2
          go_wp2_with fail
          go_ret
          refine ⟨by first | rfl | exact ret_bool (by simp [h1, h2]), by rw [HG.out]; exact BX.out.trans (Below.mono HS.out (Nat.le_of_lt l0))⟩
        · have e2 : decide (S ≤ hi) = false := decide_eq_false h2
          go_wp2_with fail
          go_ret
          refine ⟨by first | rfl | exact ret_bool (by simp [h1, h2]), by rw [HG.out]; exact BX.out.trans (Below.mono HS.out (Nat.le_of_lt l0))⟩
      · have e1 : decide (lo ≤ S) = false := decide_eq_false h1
        go_wp2_with fail
        go_ret
        refine ⟨by first | rfl | exact ret_bool (by simp [h1]), by rw [HG.out]; exact BX.out.trans (Below.mono HS.out (Nat.le_of_lt l0))⟩
  all_goals (
    have d2 := (D.out.keep hbS).c2
    simp only [Nat.zero_add] at d2
    have l0 := cell_lt D.out.c2
    have l1 := hbS.size
    have n1 : ¬ g0 = X.heap.size := by simp at l0; omega
    have n2 : ¬ g0 = w'.heap.size := by simp at l0; omega
    have l2 : g0 < w'.heap.size := Nat.lt_of_lt_of_le l0 l1
    clear a0 hr0 hr1 hr
    cases is
    · go_wp2_with fail
      go_ret
      refine ⟨rfl, by rw [HG.out]; exact BX.out.trans (Below.mono (by assumption) (Nat.le_of_lt l0))⟩
    · by_cases h1 : lo ≤ S
      · have e1 : decide (lo ≤ S) = true := decide_eq_true h1
        by_cases h2 : S ≤ hi
        · have e2 : decide (S ≤ hi) = true := decide_eq_true h2
          go_wp2_with fail
          go_ret
          refine ⟨by first | rfl | exact ret_bool (by simp [h1, h2]), by rw [HG.out]; exact BX.out.trans (Below.mono (by assumption) (Nat.le_of_lt l0))⟩
        · have e2 : decide (S ≤ hi) = false := decide_eq_false h2
          go_wp2_with fail
          go_ret
          refine ⟨by first | rfl | exact ret_bool (by simp [h1, h2]), by rw [HG.out]; exact BX.out.trans (Below.mono (by assumption) (Nat.le_of_lt l0))⟩
      · have e1 : decide (lo ≤ S) = false := decide_eq_false h1
        go_wp2_with fail
        go_ret
        refine ⟨by first | rfl | exact ret_bool (by simp [h1]), by rw [HG.out]; exact BX.out.trans (Below.mono (by assumption) (Nat.le_of_lt l0))⟩)
end Go.Proofs.YtmdepkehpohgeaaGreat.Win
