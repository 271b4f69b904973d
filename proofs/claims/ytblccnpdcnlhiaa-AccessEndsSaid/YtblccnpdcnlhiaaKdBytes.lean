/- The kit's apartness of two lists of uint8: the walk of flat. -/
import Derived.Test.YtblccnpdcnlhiaaKcBytes
namespace Go.Proofs.Ytblccnpdcnlhiaa.KitBytes
open Go.RowKit Go.Maps Go.Proofs.Ytblccnpdcnlhiaa.Kit
set_option linter.unusedVariables false

set_option maxRecDepth 100000 in
set_option maxHeartbeats 4000000 in
theorem flat_two (G capG nx cx ny cy : Nat) (ax ay : Option Addr) (xs ys : List Value) (w : World)
    (hx : R w ax nx cx xs) (hy : R w ay ny cy ys) (hne : ∀ k, SA ax k → ¬ SA ay k) (hGx : ¬ SA ax G) (hGy : ¬ SA ay G)
    (hnx : nx ≤ 1000000) (hny : ny ≤ 1000000)
    (hg0 : w.cell? ⟨G, 0, none⟩ = some (.slice ax nx cx)) (hg1 : w.cell? ⟨G, 1, none⟩ = some (.slice ay ny cy)) :
    Calls Try.prog 58 #[.slice (some ⟨G, 0, none⟩) 2 capG] w fun e w' => e = .returned (.bool true) ∧ Only (fun k => SA ax k ∨ SA ay k) w w' := by
  have Hne := Lib.hid hne
  have HGx := Lib.hid hGx
  have HGy := Lib.hid hGy
  have Rx0 := Lib.hid hx
  have Ry0 := Lib.hid hy
  have O0 := Lib.hid (Only.refl (fun k => SA ax k ∨ SA ay k) w)
  have Hg0 := Lib.hid hg0
  have Hg1 := Lib.hid hg1
  have HGS : Hid (¬ (SA ax G ∨ SA ay G)) := fun h => h.elim hGx hGy
  obtain ⟨i0, hi, hz0, hz1, hz2⟩ := info_parts info_e
  have Hi := Lib.hid hi
  have Hz0 := Lib.hid hz0
  have Hz1 := Lib.hid hz1
  have Hz2 := Lib.hid hz2
  clear hne hGx hGy hx hy hg0 hg1 hi hz0 hz1 hz2
  have hm := make_ll
  go_enter Try.func58, Try.ntmps58
  go_wp2_with fail
  refine wp_loop_rounds 3 ?_
  rw [rounds_succ]
  have g0 := O0.out.cell (p := ⟨G, 0, none⟩) HGS.out Hg0.out
  go_wp2_with fail
  clear g0
  go_loopw [4] (fun i wr => ∃ k : Nat, k ≤ nx ∧ i = .int .i64 k ∧ R wr ax nx cx (marks 0 k ++ xs.drop k) ∧ Only (SA ax) w wr) (fun i _ => nx - (intOf i).toNat)
  case atStart => exact ⟨0, Nat.zero_le _, rfl, Rx0.out, Only.refl _ _⟩
  case round =>
    obtain ⟨k, hk, rfl, hrow, ho⟩ := hrel
    have c0 := ho.cell (p := ⟨G, 0, none⟩) HGx.out (O0.out.cell (p := ⟨G, 0, none⟩) HGS.out Hg0.out)
    by_cases hlt : k < nx
    · obtain ⟨g, rfl⟩ := r_some hrow (.inl (by omega))
      have hl := Rx0.out.1
      obtain ⟨u, hu⟩ : ∃ u, (marks 0 k ++ xs.drop k)[k]? = some u := ⟨_, List.getElem?_eq_getElem (by simp [marks_len]; omega)⟩
      have hcell := (r_cell hrow hlt).trans hu
      have hfr := hrow.frozenAt k
      have hst := r_store (j := k) hrow (.int .u8 (mk 0 (k : Nat)))
      rw [set_mark 0 k xs (by omega)] at hst
      have Hst := Lib.hid hst
      have HO := Lib.hid ho
      clear hu ho hrow hst hl
      go_wp2_with fail
      go_region_with (go_at_call 40; refine (mark_any _ _ _ (by omega) (by omega) (by omega) (by omega)).mono ?_; rintro e w' ⟨rfl, rfl⟩)
      all_goals go_wp2_with fail
      all_goals exact ⟨⟨k + 1, by omega, by go_num, Hst.out.1, HO.out.trans Hst.out.2⟩, by simp [intOf]; omega⟩
    · obtain rfl : nx = k := by omega
      have Rx1 : Hid (R wr ax nx cx (marks 0 nx)) := by
        have e : xs.drop nx = [] := List.drop_eq_nil_iff.2 (by have := Rx0.out.1; omega)
        rw [e, List.append_nil] at hrow
        exact hrow
      have Ry1 := Lib.hid (own_only Ry0.out ho (own_sa (fun k h1 h2 => Hne.out k h2 h1)))
      have O1 := Lib.hid (O0.out.trans (ho.mono (fun k _ h => .inl h)))
      clear hrow ho
      obtain ⟨w1, rfl⟩ : ∃ W : World, W = wr := ⟨_, rfl⟩
      go_wp2_with fail
      rw [rounds_succ]
      have g0 := O1.out.cell (p := ⟨G, 1, none⟩) HGS.out Hg1.out
      go_wp2_with fail
      clear g0
      go_loopw [4] (fun i wr => ∃ k : Nat, k ≤ ny ∧ i = .int .i64 k ∧ R wr ay ny cy (marks 1 k ++ ys.drop k) ∧ Only (SA ay) w1 wr) (fun i _ => ny - (intOf i).toNat)
      case atStart => exact ⟨0, Nat.zero_le _, rfl, Ry1.out, Only.refl _ _⟩
      case round =>
        obtain ⟨k, hk, rfl, hrow, ho⟩ := hrel
        have c0 := ho.cell (p := ⟨G, 1, none⟩) HGy.out (O1.out.cell (p := ⟨G, 1, none⟩) HGS.out Hg1.out)
        by_cases hlt : k < ny
        · obtain ⟨g, rfl⟩ := r_some hrow (.inl (by omega))
          have hl := Ry1.out.1
          obtain ⟨u, hu⟩ : ∃ u, (marks 1 k ++ ys.drop k)[k]? = some u := ⟨_, List.getElem?_eq_getElem (by simp [marks_len]; omega)⟩
          have hcell := (r_cell hrow hlt).trans hu
          have hfr := hrow.frozenAt k
          have hst := r_store (j := k) hrow (.int .u8 (mk 1 (k : Nat)))
          rw [set_mark 1 k ys (by omega)] at hst
          have Hst := Lib.hid hst
          have HO := Lib.hid ho
          clear hu ho hrow hst hl
          go_wp2_with fail
          go_region_with (go_at_call 40; refine (mark_any _ _ _ (by omega) (by omega) (by omega) (by omega)).mono ?_; rintro e w' ⟨rfl, rfl⟩)
          all_goals go_wp2_with fail
          all_goals exact ⟨⟨k + 1, by omega, by go_num, Hst.out.1, HO.out.trans Hst.out.2⟩, by simp [intOf]; omega⟩
        · obtain rfl : ny = k := by omega
          have Ry2 : Hid (R wr ay ny cy (marks 1 ny)) := by
            have e : ys.drop ny = [] := List.drop_eq_nil_iff.2 (by have := Ry1.out.1; omega)
            rw [e, List.append_nil] at hrow
            exact hrow
          have Rx2 := Lib.hid (own_only Rx1.out ho (own_sa (fun k h1 h2 => Hne.out k h1 h2)))
          have O2 := Lib.hid (O1.out.trans (ho.mono (fun k _ h => .inr h)))
          clear hrow ho
          obtain ⟨w2, rfl⟩ : ∃ W : World, W = wr := ⟨_, rfl⟩
          go_wp2_with fail
          rw [rounds_succ]
          go_wp2_with fail
          obtain ⟨w3, hw⟩ : ∃ W : World, w2.alloc (.cells #[.slice none 0 0, .slice none 0 0] 27) = W := ⟨_, rfl⟩
          obtain ⟨H, hH⟩ : ∃ H, w2.heap.size = H := ⟨_, rfl⟩
          rw [hw, hH]
          have HB3 : Hid (Box2 w3 H (.slice none 0 0) (.slice none 0 0)) := by
            rw [← hw, ← hH]
            exact World.alloc_heap_new _ _
          have ho : Only (fun _ => False) w2 w3 := by
            rw [← hw]
            exact (Only.refl _ _).grown (World.grownBy_alloc _ _ none) (fun k h => by cases h)
          have Rx3 := Lib.hid (own_only Rx2.out ho (fun _ _ h => h))
          have Ry3 := Lib.hid (own_only Ry2.out ho (fun _ _ h => h))
          have O3 := Lib.hid (O2.out.trans (ho.mono (fun _ _ h => h.elim)))
          have HHx : Hid (∀ k, SA ax k → k < H) := fun k h => by rw [← hH]; exact (r_lt Rx2.out k h).2
          have HHy : Hid (∀ k, SA ay k → k < H) := fun k h => by rw [← hH]; exact (r_lt Ry2.out k h).2
          have HHw : Hid (w.heap.size ≤ H) := by rw [← hH]; exact O2.out.size
          have HHl3 : Hid (H < w3.heap.size) := by rw [← hw, World.size_alloc, hH]; exact Nat.lt_succ_self _
          clear hw hH ho hm
          refine wp_loop_rounds 3 ?_
          rw [rounds_succ]
          have g0 := O3.out.cell (p := ⟨G, 0, none⟩) HGS.out Hg0.out
          go_wp2_with fail
          clear g0
          go_loopw [7, 8] (fun gv i wr => ∃ j : Nat, j ≤ 64 ∧ i = .int .i64 j ∧ G2 w3.heap.size wr ax nx cx 0 j gv ∧ R wr ax nx cx (marks 0 nx) ∧ Only (SA ax) w3 wr) (fun _ i _ => 64 - (intOf i).toNat)
          case atStart => exact ⟨0, by omega, rfl, .inl ⟨rfl, Rx3.out⟩, Rx3.out, Only.refl _ _⟩
          case round =>
            obtain ⟨j, hj, rfl, hg2, hrow, ho⟩ := hrel
            have c0 := ho.cell (p := ⟨G, 0, none⟩) HGx.out (O3.out.cell (p := ⟨G, 0, none⟩) HGS.out Hg0.out)
            have HO := Lib.hid ho
            have HR := Lib.hid hrow
            clear ho hrow
            by_cases hlt : j < 64
            · rcases hg2 with ⟨rfl, hown⟩ | ⟨g2, c2, rfl, hown⟩
              · have hle := r_le hown
                have Hown := Lib.hid hown
                clear hown
                by_cases hroom : nx + j < cx
                · obtain ⟨g, rfl⟩ := r_some Hown.out (.inr (by omega))
                  go_wp2_with (first | (go_at_call 40; refine (mark_any _ _ _ (by omega) (by omega) (by omega) (by omega)).mono ?_; rintro e w' ⟨rfl, rfl⟩) | (at_builtin; refine wpList_append_fits (wr.alloc (.cells #[.int .u8 (mk 0 ((nx : Int) + (j : Int)))] 5)) rfl _ _ 27 rfl 0 5 i0 1 Try.underlying27 Hi.out Hz1.out g (nx + j) cx (marks 0 (nx + j)) rfl (Hown.out.alloc _) ⟨wr.heap.size, 0, none⟩ 1 1 [.int .u8 (mk 0 ((nx : Int) + (j : Int)))] rfl rfl (cell_one_new _ _ _) (by simp [Value.oneCell']) (by omega) ?_; intro w1' hown1 hgrow))
                  obtain ⟨s1, s2, s3⟩ := step2_fits HO.out hown1 hgrow
                  exact ⟨⟨j + 1, by omega, by go_num, s1, s2, s3⟩, by simp [intOf]; omega⟩
                · have hmax := r_max Hown.out
                  have Hcells := Lib.hid (r_cells (Hown.out.alloc (.cells #[.int .u8 (mk 0 ((nx : Int) + (j : Int)))] 5)))
                  have Hnone : Hid (ax = none → nx + j = 0 ∧ cx = 0) := fun h => by
                    rcases Hown.out.2 with ⟨h2, h0⟩ | ⟨g, cap, cur, h2, _⟩
                    · simp only [Value.slice.injEq] at h2; omega
                    · rw [h] at h2; cases h2
                  go_wp2_with (first | (go_at_call 40; refine (mark_any _ _ _ (by omega) (by omega) (by omega) (by omega)).mono ?_; rintro e w' ⟨rfl, rfl⟩) | (at_builtin; refine wpList_append_grows (wr.alloc (.cells #[.int .u8 (mk 0 ((nx : Int) + (j : Int)))] 5)) rfl _ _ 27 rfl 5 i0 (.int .u8 0) 1 1 Try.underlying27 Hi.out Hz0.out Hz1.out Hz2.out rfl (by decide) ax (nx + j) cx (marks 0 (nx + j)) rfl Hnone.out (by rw [marks_len]; omega) Hcells.out ⟨wr.heap.size, 0, none⟩ 1 1 [.int .u8 (mk 0 ((nx : Int) + (j : Int)))] rfl rfl (cell_one_new _ _ _) (by simp [Value.oneCell']) (by omega) (by unfold maxLen; omega) (by omega) ?_; intro v' w1' hown1 hgrow))
                  obtain ⟨s1, s2, s3⟩ := step2_grows HO.out HR.out hown1 hgrow
                  exact ⟨⟨j + 1, by omega, by go_num, s1, s2, s3⟩, by simp [intOf]; omega⟩
              · have Hown := Lib.hid hown
                have HsO := HO.out.size
                clear hown
                go_wp2_with (first | (go_at_call 40; refine (mark_any _ _ _ (by omega) (by omega) (by omega) (by omega)).mono ?_; rintro e w' ⟨rfl, rfl⟩) | (at_builtin; refine wpList_append_own _ rfl _ _ 27 rfl w3.heap.size 5 i0 (.int .u8 0) 1 1 Try.underlying27 Hi.out Hz0.out Hz1.out Hz2.out rfl (by decide) (.slice (some ⟨g2, 0, none⟩) (nx + j) c2) (nx + j) (marks 0 (nx + j)) rfl (Hown.out.alloc _) ⟨wr.heap.size, 0, none⟩ 1 1 [.int .u8 (mk 0 ((nx : Int) + (j : Int)))] rfl rfl (cell_one_new _ _ _) (by simp [Value.oneCell']) (by unfold maxLen; omega) (by omega) (by simp; omega) ?_; intro v' w1' hown1 hgrow _))
                obtain ⟨s1, s2, s3⟩ := step2_own HO.out HR.out (fun k h => (r_lt Rx3.out k h).2) Hown.out hown1 hgrow
                exact ⟨⟨j + 1, by omega, by go_num, s1, s2, s3⟩, by simp [intOf]; omega⟩
            · obtain rfl : j = 64 := by omega
              obtain ⟨g', c', rfl, hgo, hgn⟩ := hg2.done (S := fun q => q = H ∨ SA ay q) (fun q h1 h2 => h2.elim (fun e => by have := HHx.out q h1; omega) (fun h2 => (fun k h1 h2 => Hne.out k h1 h2) q h1 h2)) (fun q h => h.elim (fun e => by rw [e]; exact HHl3.out) (fun h => (r_lt Ry3.out q h).2))
              have hbox : Box2 wr H (.slice none 0 0) (.slice none 0 0) := HO.out.heap HB3.out (fun h => by have := HHx.out H h; omega)
              have e0 := hbox.cell0
              have f0 := hbox.free 0
              have ho2 := only_set wr H 0 (.slice (some ⟨g', 0, none⟩) (nx + 64) c')
              have hb2 := hbox.set0 (.slice (some ⟨g', 0, none⟩) (nx + 64) c')
              obtain ⟨w4, hw⟩ : ∃ W : World, wr.setCell ⟨H, 0, none⟩ (.slice (some ⟨g', 0, none⟩) (nx + 64) c') = W := ⟨_, rfl⟩
              rw [hw] at ho2 hb2
              have HB4 := Lib.hid hb2
              have Rx4 := Lib.hid (own_only HR.out ho2 (own_sa (fun q h e => by have := HHx.out q h; omega)))
              have Ry4 := Lib.hid (own_only (own_only Ry3.out HO.out (own_sa (fun k h1 h2 => Hne.out k h2 h1))) ho2 (own_sa (fun q h e => by have := HHy.out q h; omega)))
              have O4 := Lib.hid ((O3.out.trans (HO.out.mono (fun k _ h => .inl h))).far ho2 (fun q e => by rw [e]; exact HHw.out))
              have GC0_4 : Hid (GC w4 (.slice (some ⟨g', 0, none⟩) (nx + 64) c') (nx + 64) (marks 0 (nx + 64)) (fun q => q = H ∨ SA ay q)) := GC.only ⟨g', c', rfl, hgo, hgn⟩ ho2 (fun q e => .inl e)
              have HHl4 : Hid (H < w4.heap.size) := Nat.lt_of_lt_of_le HHl3.out (Nat.le_trans HO.out.size ho2.size)
              have hw2 := Lib.hid hw
              clear hgo hgn hbox ho2 hb2 hw
              go_wp2_with fail
              rw [hw2.out]
              clear e0 f0 hw2
              obtain ⟨ga, ca, heq⟩ : ∃ g c : _, g = g' ∧ c = c' := ⟨_, _, rfl, rfl⟩
              obtain ⟨rfl, rfl⟩ := heq
              clear HO HR hg2
              rw [rounds_succ]
              have g0 := O4.out.cell (p := ⟨G, 1, none⟩) HGS.out Hg1.out
              go_wp2_with fail
              clear g0
              go_loopw [7, 8] (fun gv i wr => ∃ j : Nat, j ≤ 64 ∧ i = .int .i64 j ∧ G2 w4.heap.size wr ay ny cy 1 j gv ∧ R wr ay ny cy (marks 1 ny) ∧ Only (SA ay) w4 wr) (fun _ i _ => 64 - (intOf i).toNat)
              case atStart => exact ⟨0, by omega, rfl, .inl ⟨rfl, Ry4.out⟩, Ry4.out, Only.refl _ _⟩
              case round =>
                obtain ⟨j, hj, rfl, hg2, hrow, ho⟩ := hrel
                have c0 := ho.cell (p := ⟨G, 1, none⟩) HGy.out (O4.out.cell (p := ⟨G, 1, none⟩) HGS.out Hg1.out)
                have HO := Lib.hid ho
                have HR := Lib.hid hrow
                clear ho hrow
                by_cases hlt : j < 64
                · rcases hg2 with ⟨rfl, hown⟩ | ⟨g2, c2, rfl, hown⟩
                  · have hle := r_le hown
                    have Hown := Lib.hid hown
                    clear hown
                    by_cases hroom : ny + j < cy
                    · obtain ⟨g, rfl⟩ := r_some Hown.out (.inr (by omega))
                      go_wp2_with (first | (go_at_call 40; refine (mark_any _ _ _ (by omega) (by omega) (by omega) (by omega)).mono ?_; rintro e w' ⟨rfl, rfl⟩) | (at_builtin; refine wpList_append_fits (wr.alloc (.cells #[.int .u8 (mk 1 ((ny : Int) + (j : Int)))] 5)) rfl _ _ 27 rfl 0 5 i0 1 Try.underlying27 Hi.out Hz1.out g (ny + j) cy (marks 1 (ny + j)) rfl (Hown.out.alloc _) ⟨wr.heap.size, 0, none⟩ 1 1 [.int .u8 (mk 1 ((ny : Int) + (j : Int)))] rfl rfl (cell_one_new _ _ _) (by simp [Value.oneCell']) (by omega) ?_; intro w1' hown1 hgrow))
                      obtain ⟨s1, s2, s3⟩ := step2_fits HO.out hown1 hgrow
                      exact ⟨⟨j + 1, by omega, by go_num, s1, s2, s3⟩, by simp [intOf]; omega⟩
                    · have hmax := r_max Hown.out
                      have Hcells := Lib.hid (r_cells (Hown.out.alloc (.cells #[.int .u8 (mk 1 ((ny : Int) + (j : Int)))] 5)))
                      have Hnone : Hid (ay = none → ny + j = 0 ∧ cy = 0) := fun h => by
                        rcases Hown.out.2 with ⟨h2, h0⟩ | ⟨g, cap, cur, h2, _⟩
                        · simp only [Value.slice.injEq] at h2; omega
                        · rw [h] at h2; cases h2
                      go_wp2_with (first | (go_at_call 40; refine (mark_any _ _ _ (by omega) (by omega) (by omega) (by omega)).mono ?_; rintro e w' ⟨rfl, rfl⟩) | (at_builtin; refine wpList_append_grows (wr.alloc (.cells #[.int .u8 (mk 1 ((ny : Int) + (j : Int)))] 5)) rfl _ _ 27 rfl 5 i0 (.int .u8 0) 1 1 Try.underlying27 Hi.out Hz0.out Hz1.out Hz2.out rfl (by decide) ay (ny + j) cy (marks 1 (ny + j)) rfl Hnone.out (by rw [marks_len]; omega) Hcells.out ⟨wr.heap.size, 0, none⟩ 1 1 [.int .u8 (mk 1 ((ny : Int) + (j : Int)))] rfl rfl (cell_one_new _ _ _) (by simp [Value.oneCell']) (by omega) (by unfold maxLen; omega) (by omega) ?_; intro v' w1' hown1 hgrow))
                      obtain ⟨s1, s2, s3⟩ := step2_grows HO.out HR.out hown1 hgrow
                      exact ⟨⟨j + 1, by omega, by go_num, s1, s2, s3⟩, by simp [intOf]; omega⟩
                  · have Hown := Lib.hid hown
                    have HsO := HO.out.size
                    clear hown
                    go_wp2_with (first | (go_at_call 40; refine (mark_any _ _ _ (by omega) (by omega) (by omega) (by omega)).mono ?_; rintro e w' ⟨rfl, rfl⟩) | (at_builtin; refine wpList_append_own _ rfl _ _ 27 rfl w4.heap.size 5 i0 (.int .u8 0) 1 1 Try.underlying27 Hi.out Hz0.out Hz1.out Hz2.out rfl (by decide) (.slice (some ⟨g2, 0, none⟩) (ny + j) c2) (ny + j) (marks 1 (ny + j)) rfl (Hown.out.alloc _) ⟨wr.heap.size, 0, none⟩ 1 1 [.int .u8 (mk 1 ((ny : Int) + (j : Int)))] rfl rfl (cell_one_new _ _ _) (by simp [Value.oneCell']) (by unfold maxLen; omega) (by omega) (by simp; omega) ?_; intro v' w1' hown1 hgrow _))
                    obtain ⟨s1, s2, s3⟩ := step2_own HO.out HR.out (fun k h => (r_lt Ry4.out k h).2) Hown.out hown1 hgrow
                    exact ⟨⟨j + 1, by omega, by go_num, s1, s2, s3⟩, by simp [intOf]; omega⟩
                · obtain rfl : j = 64 := by omega
                  obtain ⟨g', c', rfl, hgo, hgn⟩ := hg2.done (S := fun q => q = H ∨ SA ax q) (fun q h1 h2 => h2.elim (fun e => by have := HHy.out q h1; omega) (fun h2 => (fun k h1 h2 => Hne.out k h2 h1) q h1 h2)) (fun q h => h.elim (fun e => by rw [e]; exact HHl4.out) (fun h => (r_lt Rx4.out q h).2))
                  have hbox : Box2 wr H (.slice (some ⟨ga, 0, none⟩) (nx + 64) ca) (.slice none 0 0) := HO.out.heap HB4.out (fun h => by have := HHy.out H h; omega)
                  have e0 := hbox.cell1
                  have f0 := hbox.free 1
                  have ho2 := only_set wr H 1 (.slice (some ⟨g', 0, none⟩) (ny + 64) c')
                  have hb2 := hbox.set1 (.slice (some ⟨g', 0, none⟩) (ny + 64) c')
                  obtain ⟨w5, hw⟩ : ∃ W : World, wr.setCell ⟨H, 1, none⟩ (.slice (some ⟨g', 0, none⟩) (ny + 64) c') = W := ⟨_, rfl⟩
                  rw [hw] at ho2 hb2
                  have HB5 := Lib.hid hb2
                  have Ry5 := Lib.hid (own_only HR.out ho2 (own_sa (fun q h e => by have := HHy.out q h; omega)))
                  have Rx5 := Lib.hid (own_only (own_only Rx4.out HO.out (own_sa (fun k h1 h2 => Hne.out k h1 h2))) ho2 (own_sa (fun q h e => by have := HHx.out q h; omega)))
                  have O5 := Lib.hid ((O4.out.trans (HO.out.mono (fun k _ h => .inr h))).far ho2 (fun q e => by rw [e]; exact HHw.out))
                  have GC1_5 : Hid (GC w5 (.slice (some ⟨g', 0, none⟩) (ny + 64) c') (ny + 64) (marks 1 (ny + 64)) (fun q => q = H ∨ SA ax q)) := GC.only ⟨g', c', rfl, hgo, hgn⟩ ho2 (fun q e => .inl e)
                  have HHl5 : Hid (H < w5.heap.size) := Nat.lt_of_lt_of_le HHl4.out (Nat.le_trans HO.out.size ho2.size)
                  have GC0_5 := Lib.hid ((GC0_4.out.only HO.out (fun q h => .inr h)).only ho2 (fun q e => .inl e))
                  have hw2 := Lib.hid hw
                  clear hgo hgn hbox ho2 hb2 hw
                  go_wp2_with fail
                  rw [hw2.out]
                  clear e0 f0 hw2
                  obtain ⟨gb, cb, heq⟩ : ∃ g c : _, g = g' ∧ c = c' := ⟨_, _, rfl, rfl⟩
                  obtain ⟨rfl, rfl⟩ := heq
                  clear HO HR hg2
                  rw [rounds_succ]
                  go_wp2_with fail
                  refine wp_loop_rounds 3 ?_
                  rw [rounds_succ]
                  have hH := HB5.out.cell0
                  have hG := O5.out.cell (p := ⟨G, 0, none⟩) HGS.out Hg0.out
                  have Hgc : Hid (∀ j, j < nx + 64 → w5.cell? ⟨ga, j, none⟩ = some (.int .u8 (mk 0 (j : Nat)))) := fun j hj => by
                    obtain ⟨g9, c9, e9, h9, _⟩ := GC0_5.out
                    cases e9
                    exact (r_cell h9 hj).trans (marks_at 0 hj)
                  go_wp2_with fail
                  go_loopw [10] (fun i wr => ∃ j d : Nat, j ≤ nx + 64 ∧ i = .int .i64 j ∧ wr = w5.drewN d) (fun i _ => nx + 64 - (intOf i).toNat)
                  case atStart => exact ⟨0, 0, by omega, rfl, rfl⟩
                  case round =>
                    obtain ⟨j, d, hj, rfl, rfl⟩ := hrel
                    by_cases hlt : j < nx + 64
                    · have cg := Hgc.out j hlt
                      by_cases hn : j < nx
                      · obtain ⟨g, rfl⟩ := r_some Rx5.out (.inl (by omega))
                        have cx0 := (r_cell Rx5.out hn).trans (marks_at 0 hn)
                        have d1 : decide ((j : Int) < (nx : Int)) = true := decide_eq_true (by omega)
                        go_wp2_with fail
                        go_quiet ((go_at_call 40; exact mark_q _ _ _ _ _ (by omega) (by omega) (by omega) (by omega)))
                        go_wp2_with fail
                        exact ⟨⟨j + 1, _, by omega, by go_num, rfl⟩, by simp [intOf]; omega⟩
                      · have d1 : decide ((j : Int) < (nx : Int)) = false := decide_eq_false (by omega)
                        go_wp2_with fail
                        go_quiet ((go_at_call 40; exact mark_q _ _ _ _ _ (by omega) (by omega) (by omega) (by omega)))
                        go_wp2_with fail
                        exact ⟨⟨j + 1, _, by omega, by go_num, rfl⟩, by simp [intOf]; omega⟩
                    · obtain rfl : j = nx + 64 := by omega
                      have ho : Only (fun _ => False) w5 (w5.drewN d) := (Only.refl _ _).drewN d
                      obtain ⟨w6, hw⟩ : ∃ W : World, w5.drewN d = W := ⟨_, rfl⟩
                      rw [hw] at ho
                      have GC0_6 := Lib.hid (GC0_5.out.only ho (fun _ h => h.elim))
                      have GC1_6 := Lib.hid (GC1_5.out.only ho (fun _ h => h.elim))
                      have HB6 : Hid (Box2 w6 H (.slice (some ⟨ga, 0, none⟩) (nx + 64) ca) (.slice (some ⟨gb, 0, none⟩) (ny + 64) cb)) := ho.heap HB5.out (fun h => h)
                      have Rx6 := Lib.hid (own_only Rx5.out ho (fun _ _ h => h))
                      have Ry6 := Lib.hid (own_only Ry5.out ho (fun _ _ h => h))
                      have O6 := Lib.hid (O5.out.trans (ho.mono (fun _ _ h => h.elim)))
                      have HHl6 : Hid (H < w6.heap.size) := Nat.lt_of_lt_of_le HHl5.out ho.size
                      have hw2 := Lib.hid hw
                      clear Hgc ho hw
                      go_wp2_with fail
                      rw [hw2.out]
                      clear hw2 hH hG
                      rw [rounds_succ]
                      have hH := HB6.out.cell1
                      have hG := O6.out.cell (p := ⟨G, 1, none⟩) HGS.out Hg1.out
                      have Hgc : Hid (∀ j, j < ny + 64 → w6.cell? ⟨gb, j, none⟩ = some (.int .u8 (mk 1 (j : Nat)))) := fun j hj => by
                        obtain ⟨g9, c9, e9, h9, _⟩ := GC1_6.out
                        cases e9
                        exact (r_cell h9 hj).trans (marks_at 1 hj)
                      go_wp2_with fail
                      go_loopw [10] (fun i wr => ∃ j d : Nat, j ≤ ny + 64 ∧ i = .int .i64 j ∧ wr = w6.drewN d) (fun i _ => ny + 64 - (intOf i).toNat)
                      case atStart => exact ⟨0, 0, by omega, rfl, rfl⟩
                      case round =>
                        obtain ⟨j, d, hj, rfl, rfl⟩ := hrel
                        by_cases hlt : j < ny + 64
                        · have cg := Hgc.out j hlt
                          by_cases hn : j < ny
                          · obtain ⟨g, rfl⟩ := r_some Ry6.out (.inl (by omega))
                            have cx0 := (r_cell Ry6.out hn).trans (marks_at 1 hn)
                            have d1 : decide ((j : Int) < (ny : Int)) = true := decide_eq_true (by omega)
                            go_wp2_with fail
                            go_quiet ((go_at_call 40; exact mark_q _ _ _ _ _ (by omega) (by omega) (by omega) (by omega)))
                            go_wp2_with fail
                            exact ⟨⟨j + 1, _, by omega, by go_num, rfl⟩, by simp [intOf]; omega⟩
                          · have d1 : decide ((j : Int) < (ny : Int)) = false := decide_eq_false (by omega)
                            go_wp2_with fail
                            go_quiet ((go_at_call 40; exact mark_q _ _ _ _ _ (by omega) (by omega) (by omega) (by omega)))
                            go_wp2_with fail
                            exact ⟨⟨j + 1, _, by omega, by go_num, rfl⟩, by simp [intOf]; omega⟩
                        · obtain rfl : j = ny + 64 := by omega
                          have ho : Only (fun _ => False) w6 (w6.drewN d) := (Only.refl _ _).drewN d
                          obtain ⟨w7, hw⟩ : ∃ W : World, w6.drewN d = W := ⟨_, rfl⟩
                          rw [hw] at ho
                          have GC0_7 := Lib.hid (GC0_6.out.only ho (fun _ h => h.elim))
                          have GC1_7 := Lib.hid (GC1_6.out.only ho (fun _ h => h.elim))
                          have HB7 : Hid (Box2 w7 H (.slice (some ⟨ga, 0, none⟩) (nx + 64) ca) (.slice (some ⟨gb, 0, none⟩) (ny + 64) cb)) := ho.heap HB6.out (fun h => h)
                          have Rx7 := Lib.hid (own_only Rx6.out ho (fun _ _ h => h))
                          have Ry7 := Lib.hid (own_only Ry6.out ho (fun _ _ h => h))
                          have O7 := Lib.hid (O6.out.trans (ho.mono (fun _ _ h => h.elim)))
                          have HHl7 : Hid (H < w7.heap.size) := Nat.lt_of_lt_of_le HHl6.out ho.size
                          have hw2 := Lib.hid hw
                          clear Hgc ho hw
                          go_wp2_with fail
                          rw [hw2.out]
                          clear hw2 hH hG
                          rw [rounds_succ]
                          go_wp2_with fail
                          clear GC0_4 GC0_5 GC1_5 GC0_6 GC1_6 GC0_7 GC1_7
                          refine wp_loop_rounds 3 ?_
                          rw [rounds_succ]
                          go_wp2_with (at_make; refine wpList_make_full w7 rfl _ _ 27 rfl w7.heap.size 5 i0 (.int .u8 0) 1 Try.underlying27 Hi.out Hz0.out Hz1.out .i64 .i64 64 64 64 rfl rfl rfl rfl (by rw [Hz2.out]; omega) (by unfold maxLen; omega) (Nat.le_refl _) ?_; intro wm0 hown hgrow)
                          have hom : Only (fun _ => False) w7 wm0 := (Only.refl _ _).grown hgrow (fun k e => by cases e)
                          obtain ⟨zs, hzs⟩ : ∃ zs, (madeCells (Value.int .u8 0).cells (64 * 1)).toList = zs := ⟨_, rfl⟩
                          rw [hzs] at hown
                          obtain ⟨M, hM⟩ : ∃ M, w7.heap.size = M := ⟨_, rfl⟩
                          rw [hM] at hown ⊢
                          have HM := Lib.hid hM
                          have Hom := Lib.hid hom
                          have Rm := Lib.hid (own_base hown (Nat.zero_le _))
                          clear hom hzs hM hown hgrow
                          go_loopw [13] (fun i wr => ∃ j : Nat, j ≤ 64 ∧ i = .int .i64 j ∧ R wr (some ⟨M, 0, none⟩) 64 64 (marks 2 j ++ zs.drop j) ∧ Only (SA (some ⟨M, 0, none⟩)) wm0 wr) (fun i _ => 64 - (intOf i).toNat)
                          case atStart => exact ⟨0, by omega, rfl, Rm.out, Only.refl _ _⟩
                          case round =>
                            obtain ⟨k, hk, rfl, hrow, ho⟩ := hrel
                            by_cases hlt : k < 64
                            · have hl := Rm.out.1
                              obtain ⟨u, hu⟩ : ∃ u, (marks 2 k ++ zs.drop k)[k]? = some u := ⟨_, List.getElem?_eq_getElem (by simp [marks_len]; omega)⟩
                              have hcell := (r_cell hrow hlt).trans hu
                              have hfr := hrow.frozenAt k
                              have hst := r_store0 (j := k) hrow (.int .u8 (mk 2 (k : Nat)))
                              rw [set_mark 2 k zs (by omega)] at hst
                              have Hst := Lib.hid hst
                              have HO := Lib.hid ho
                              clear hu ho hrow hst hl
                              go_wp2_with (go_at_call 40; refine (mark_any _ _ _ (by omega) (by omega) (by omega) (by omega)).mono ?_; rintro e w' ⟨rfl, rfl⟩)
                              exact ⟨⟨k + 1, by omega, by go_num, Hst.out.1, HO.out.trans Hst.out.2⟩, by simp [intOf]; omega⟩
                            · obtain rfl : 64 = k := by omega
                              have Rmm : Hid (R wr (some ⟨M, 0, none⟩) 64 64 (marks 2 64)) := by
                                have e : zs.drop 64 = [] := List.drop_eq_nil_iff.2 (by have := Rm.out.1; omega)
                                rw [e, List.append_nil] at hrow
                                exact hrow
                              have hoo : Only (fun _ => False) w7 wr := ((Hom.out.mono (fun _ _ h => h.elim)).trans (ho.mono (fun _ _ h => h))).weak (fun q h => by
                                obtain ⟨b, hb, rfl⟩ := h
                                cases hb
                                exact Nat.le_of_eq HM.out)
                              obtain ⟨wq0, rfl⟩ : ∃ W : World, W = wr := ⟨_, rfl⟩
                              have HBq : Hid (Box2 wq0 H (.slice (some ⟨ga, 0, none⟩) (nx + 64) ca) (.slice (some ⟨gb, 0, none⟩) (ny + 64) cb)) := hoo.heap HB7.out (fun h => h)
                              have Rxq := Lib.hid (own_only Rx7.out hoo (fun _ _ h => h))
                              have Ryq := Lib.hid (own_only Ry7.out hoo (fun _ _ h => h))
                              have Oq := Lib.hid (O7.out.trans (hoo.mono (fun _ _ h => h.elim)))
                              have HHlq : Hid (H < wq0.heap.size) := Nat.lt_of_lt_of_le HHl7.out hoo.size
                              have Hcm := Lib.hid (r_cells Rmm.out _ rfl)
                              have hG := Oq.out.cell (p := ⟨G, 0, none⟩) HGS.out Hg0.out
                              clear hrow ho hoo
                              go_wp2_with (at_builtin; refine append_any wq0 rfl _ _ rfl ax nx cx (marks 0 nx) rfl Rxq.out M 64 (marks 2 64) rfl (marks_len _ _) Hcm.out (marks_one _ _) (by omega) (by omega) ?_; intro gc cc wp0 hown1 hrow1 ho1 hgor; have hbox : Box2 wp0 H (.slice (some ⟨ga, 0, none⟩) (nx + 64) ca) (.slice (some ⟨gb, 0, none⟩) (ny + 64) cb) := ho1.heap HBq.out (fun h => by have := HHx.out H h; omega); have e0 := hbox.cell0; have f0 := hbox.free 0)
                              have ho2 := only_set wp0 H 0 (.slice (some ⟨gc, 0, none⟩) (nx + 64) cc)
                              have hb2 := hbox.set0 (.slice (some ⟨gc, 0, none⟩) (nx + 64) cc)
                              obtain ⟨w8, hw⟩ : ∃ W : World, wp0.setCell ⟨H, 0, none⟩ (.slice (some ⟨gc, 0, none⟩) (nx + 64) cc) = W := ⟨_, rfl⟩
                              rw [hw] at ho2 hb2 ⊢
                              have HB8 : Hid (Box2 w8 H (.slice (some ⟨gc, 0, none⟩) (nx + 64) cc) (.slice (some ⟨gb, 0, none⟩) (ny + 64) cb)) := hb2
                              have Rx8 := Lib.hid (own_only hrow1 ho2 (own_sa (fun q h e => by have := HHx.out q h; omega)))
                              have Ry8 := Lib.hid (own_only (own_only Ryq.out ho1 (own_sa (fun k h1 h2 => Hne.out k h2 h1))) ho2 (own_sa (fun q h e => by have := HHy.out q h; omega)))
                              have O8 := Lib.hid ((Oq.out.trans (ho1.mono (fun k _ h => .inl h))).far ho2 (fun q e => by rw [e]; exact HHw.out))
                              have GD0_8 : Hid (GC w8 (.slice (some ⟨gc, 0, none⟩) (nx + 64) cc) (nx + 64) (marks 0 nx ++ marks 2 64) (fun q => q = H ∨ SA ay q)) := GC.only ⟨gc, cc, rfl, hown1, fun h => hgor.elim (fun hg => h.elim (fun e => by have := HHx.out _ hg; omega) (fun h2 => (fun k h1 h2 => Hne.out k h1 h2) _ hg h2)) (fun hg => h.elim (fun e => by have := HHlq.out; omega) (fun h2 => by have := (r_lt Ryq.out _ h2).2; omega))⟩ ho2 (fun q e => .inl e)
                              have HHl8 : Hid (H < w8.heap.size) := Nat.lt_of_lt_of_le HHlq.out (Nat.le_trans ho1.size ho2.size)
                              clear hown1 hrow1 ho1 hgor hbox e0 f0 ho2 hb2 hw hG HBq Rxq Ryq Oq HHlq Hcm Rmm Rm Hom HM
                              rw [rounds_succ]
                              go_wp2_with (at_make; refine wpList_make_full w8 rfl _ _ 27 rfl w8.heap.size 5 i0 (.int .u8 0) 1 Try.underlying27 Hi.out Hz0.out Hz1.out .i64 .i64 64 64 64 rfl rfl rfl rfl (by rw [Hz2.out]; omega) (by unfold maxLen; omega) (Nat.le_refl _) ?_; intro wm1 hown hgrow)
                              have hom : Only (fun _ => False) w8 wm1 := (Only.refl _ _).grown hgrow (fun k e => by cases e)
                              obtain ⟨zs, hzs⟩ : ∃ zs, (madeCells (Value.int .u8 0).cells (64 * 1)).toList = zs := ⟨_, rfl⟩
                              rw [hzs] at hown
                              obtain ⟨M, hM⟩ : ∃ M, w8.heap.size = M := ⟨_, rfl⟩
                              rw [hM] at hown ⊢
                              have HM := Lib.hid hM
                              have Hom := Lib.hid hom
                              have Rm := Lib.hid (own_base hown (Nat.zero_le _))
                              clear hom hzs hM hown hgrow
                              go_loopw [13] (fun i wr => ∃ j : Nat, j ≤ 64 ∧ i = .int .i64 j ∧ R wr (some ⟨M, 0, none⟩) 64 64 (marks 3 j ++ zs.drop j) ∧ Only (SA (some ⟨M, 0, none⟩)) wm1 wr) (fun i _ => 64 - (intOf i).toNat)
                              case atStart => exact ⟨0, by omega, rfl, Rm.out, Only.refl _ _⟩
                              case round =>
                                obtain ⟨k, hk, rfl, hrow, ho⟩ := hrel
                                by_cases hlt : k < 64
                                · have hl := Rm.out.1
                                  obtain ⟨u, hu⟩ : ∃ u, (marks 3 k ++ zs.drop k)[k]? = some u := ⟨_, List.getElem?_eq_getElem (by simp [marks_len]; omega)⟩
                                  have hcell := (r_cell hrow hlt).trans hu
                                  have hfr := hrow.frozenAt k
                                  have hst := r_store0 (j := k) hrow (.int .u8 (mk 3 (k : Nat)))
                                  rw [set_mark 3 k zs (by omega)] at hst
                                  have Hst := Lib.hid hst
                                  have HO := Lib.hid ho
                                  clear hu ho hrow hst hl
                                  go_wp2_with (go_at_call 40; refine (mark_any _ _ _ (by omega) (by omega) (by omega) (by omega)).mono ?_; rintro e w' ⟨rfl, rfl⟩)
                                  exact ⟨⟨k + 1, by omega, by go_num, Hst.out.1, HO.out.trans Hst.out.2⟩, by simp [intOf]; omega⟩
                                · obtain rfl : 64 = k := by omega
                                  have Rmm : Hid (R wr (some ⟨M, 0, none⟩) 64 64 (marks 3 64)) := by
                                    have e : zs.drop 64 = [] := List.drop_eq_nil_iff.2 (by have := Rm.out.1; omega)
                                    rw [e, List.append_nil] at hrow
                                    exact hrow
                                  have hoo : Only (fun _ => False) w8 wr := ((Hom.out.mono (fun _ _ h => h.elim)).trans (ho.mono (fun _ _ h => h))).weak (fun q h => by
                                    obtain ⟨b, hb, rfl⟩ := h
                                    cases hb
                                    exact Nat.le_of_eq HM.out)
                                  obtain ⟨wq1, rfl⟩ : ∃ W : World, W = wr := ⟨_, rfl⟩
                                  have GD0q := Lib.hid (GD0_8.out.only hoo (fun _ h => h.elim))
                                  have HBq : Hid (Box2 wq1 H (.slice (some ⟨gc, 0, none⟩) (nx + 64) cc) (.slice (some ⟨gb, 0, none⟩) (ny + 64) cb)) := hoo.heap HB8.out (fun h => h)
                                  have Rxq := Lib.hid (own_only Rx8.out hoo (fun _ _ h => h))
                                  have Ryq := Lib.hid (own_only Ry8.out hoo (fun _ _ h => h))
                                  have Oq := Lib.hid (O8.out.trans (hoo.mono (fun _ _ h => h.elim)))
                                  have HHlq : Hid (H < wq1.heap.size) := Nat.lt_of_lt_of_le HHl8.out hoo.size
                                  have Hcm := Lib.hid (r_cells Rmm.out _ rfl)
                                  have hG := Oq.out.cell (p := ⟨G, 1, none⟩) HGS.out Hg1.out
                                  clear hrow ho hoo
                                  go_wp2_with (at_builtin; refine append_any wq1 rfl _ _ rfl ay ny cy (marks 1 ny) rfl Ryq.out M 64 (marks 3 64) rfl (marks_len _ _) Hcm.out (marks_one _ _) (by omega) (by omega) ?_; intro gd cd wp1 hown1 hrow1 ho1 hgor; have hbox : Box2 wp1 H (.slice (some ⟨gc, 0, none⟩) (nx + 64) cc) (.slice (some ⟨gb, 0, none⟩) (ny + 64) cb) := ho1.heap HBq.out (fun h => by have := HHy.out H h; omega); have e0 := hbox.cell1; have f0 := hbox.free 1)
                                  have ho2 := only_set wp1 H 1 (.slice (some ⟨gd, 0, none⟩) (ny + 64) cd)
                                  have hb2 := hbox.set1 (.slice (some ⟨gd, 0, none⟩) (ny + 64) cd)
                                  obtain ⟨w9, hw⟩ : ∃ W : World, wp1.setCell ⟨H, 1, none⟩ (.slice (some ⟨gd, 0, none⟩) (ny + 64) cd) = W := ⟨_, rfl⟩
                                  rw [hw] at ho2 hb2 ⊢
                                  have HB9 : Hid (Box2 w9 H (.slice (some ⟨gc, 0, none⟩) (nx + 64) cc) (.slice (some ⟨gd, 0, none⟩) (ny + 64) cd)) := hb2
                                  have Ry9 := Lib.hid (own_only hrow1 ho2 (own_sa (fun q h e => by have := HHy.out q h; omega)))
                                  have Rx9 := Lib.hid (own_only (own_only Rxq.out ho1 (own_sa (fun k h1 h2 => Hne.out k h1 h2))) ho2 (own_sa (fun q h e => by have := HHx.out q h; omega)))
                                  have O9 := Lib.hid ((Oq.out.trans (ho1.mono (fun k _ h => .inr h))).far ho2 (fun q e => by rw [e]; exact HHw.out))
                                  have GD1_9 : Hid (GC w9 (.slice (some ⟨gd, 0, none⟩) (ny + 64) cd) (ny + 64) (marks 1 ny ++ marks 3 64) (fun q => q = H ∨ SA ax q)) := GC.only ⟨gd, cd, rfl, hown1, fun h => hgor.elim (fun hg => h.elim (fun e => by have := HHy.out _ hg; omega) (fun h2 => (fun k h1 h2 => Hne.out k h2 h1) _ hg h2)) (fun hg => h.elim (fun e => by have := HHlq.out; omega) (fun h2 => by have := (r_lt Rxq.out _ h2).2; omega))⟩ ho2 (fun q e => .inl e)
                                  have HHl9 : Hid (H < w9.heap.size) := Nat.lt_of_lt_of_le HHlq.out (Nat.le_trans ho1.size ho2.size)
                                  have GD0_9 := Lib.hid ((GD0q.out.only ho1 (fun q h => .inr h)).only ho2 (fun q e => .inl e))
                                  clear hown1 hrow1 ho1 hgor hbox e0 f0 ho2 hb2 hw hG HBq Rxq Ryq Oq HHlq Hcm Rmm Rm Hom HM GD0q
                                  rw [rounds_succ]
                                  go_wp2_with fail
                                  refine wp_loop_rounds 3 ?_
                                  rw [rounds_succ]
                                  have hH := HB9.out.cell0
                                  have hG := O9.out.cell (p := ⟨G, 0, none⟩) HGS.out Hg0.out
                                  have Hgc : Hid (∀ j, j < nx → w9.cell? ⟨gc, j, none⟩ = some (.int .u8 (mk 0 (j : Nat)))) := fun j hj => by
                                    obtain ⟨g9, c9, e9, h9, _⟩ := GD0_9.out
                                    cases e9
                                    exact (r_cell h9 (by omega)).trans ((List.getElem?_append_left (by rw [marks_len]; exact hj)).trans (marks_at 0 hj))
                                  go_wp2_with fail
                                  go_loopw [15] (fun i wr => ∃ j d : Nat, j ≤ nx ∧ i = .int .i64 j ∧ wr = w9.drewN d) (fun i _ => nx - (intOf i).toNat)
                                  case atStart => exact ⟨0, 0, by omega, rfl, rfl⟩
                                  case round =>
                                    obtain ⟨j, d, hj, rfl, rfl⟩ := hrel
                                    by_cases hn : j < nx
                                    · have cg := Hgc.out j hn
                                      obtain ⟨g, rfl⟩ := r_some Rx9.out (.inl (by omega))
                                      have cx0 := (r_cell Rx9.out hn).trans (marks_at 0 hn)
                                      go_wp2_with fail
                                      go_quiet ((go_at_call 40; exact mark_q _ _ _ _ _ (by omega) (by omega) (by omega) (by omega)))
                                      go_wp2_with fail
                                      exact ⟨⟨j + 1, _, by omega, by go_num, rfl⟩, by simp [intOf]; omega⟩
                                    · obtain rfl : nx = j := by omega
                                      have ho : Only (fun _ => False) w9 (w9.drewN d) := (Only.refl _ _).drewN d
                                      obtain ⟨w10, hw⟩ : ∃ W : World, w9.drewN d = W := ⟨_, rfl⟩
                                      rw [hw] at ho
                                      have GD0_10 := Lib.hid (GD0_9.out.only ho (fun _ h => h.elim))
                                      have GD1_10 := Lib.hid (GD1_9.out.only ho (fun _ h => h.elim))
                                      have HB10 : Hid (Box2 w10 H (.slice (some ⟨gc, 0, none⟩) (nx + 64) cc) (.slice (some ⟨gd, 0, none⟩) (ny + 64) cd)) := ho.heap HB9.out (fun h => h)
                                      have Rx10 := Lib.hid (own_only Rx9.out ho (fun _ _ h => h))
                                      have Ry10 := Lib.hid (own_only Ry9.out ho (fun _ _ h => h))
                                      have O10 := Lib.hid (O9.out.trans (ho.mono (fun _ _ h => h.elim)))
                                      have HHl10 : Hid (H < w10.heap.size) := Nat.lt_of_lt_of_le HHl9.out ho.size
                                      have hw2 := Lib.hid hw
                                      clear Hgc ho hw
                                      go_wp2_with fail
                                      rw [hw2.out]
                                      clear hw2 hH hG
                                      rw [rounds_succ]
                                      have hH := HB10.out.cell1
                                      have hG := O10.out.cell (p := ⟨G, 1, none⟩) HGS.out Hg1.out
                                      have Hgc : Hid (∀ j, j < ny → w10.cell? ⟨gd, j, none⟩ = some (.int .u8 (mk 1 (j : Nat)))) := fun j hj => by
                                        obtain ⟨g9, c9, e9, h9, _⟩ := GD1_10.out
                                        cases e9
                                        exact (r_cell h9 (by omega)).trans ((List.getElem?_append_left (by rw [marks_len]; exact hj)).trans (marks_at 1 hj))
                                      go_wp2_with fail
                                      go_loopw [15] (fun i wr => ∃ j d : Nat, j ≤ ny ∧ i = .int .i64 j ∧ wr = w10.drewN d) (fun i _ => ny - (intOf i).toNat)
                                      case atStart => exact ⟨0, 0, by omega, rfl, rfl⟩
                                      case round =>
                                        obtain ⟨j, d, hj, rfl, rfl⟩ := hrel
                                        by_cases hn : j < ny
                                        · have cg := Hgc.out j hn
                                          obtain ⟨g, rfl⟩ := r_some Ry10.out (.inl (by omega))
                                          have cx0 := (r_cell Ry10.out hn).trans (marks_at 1 hn)
                                          go_wp2_with fail
                                          go_quiet ((go_at_call 40; exact mark_q _ _ _ _ _ (by omega) (by omega) (by omega) (by omega)))
                                          go_wp2_with fail
                                          exact ⟨⟨j + 1, _, by omega, by go_num, rfl⟩, by simp [intOf]; omega⟩
                                        · obtain rfl : ny = j := by omega
                                          have ho : Only (fun _ => False) w10 (w10.drewN d) := (Only.refl _ _).drewN d
                                          obtain ⟨w11, hw⟩ : ∃ W : World, w10.drewN d = W := ⟨_, rfl⟩
                                          rw [hw] at ho
                                          have GD0_11 := Lib.hid (GD0_10.out.only ho (fun _ h => h.elim))
                                          have GD1_11 := Lib.hid (GD1_10.out.only ho (fun _ h => h.elim))
                                          have HB11 : Hid (Box2 w11 H (.slice (some ⟨gc, 0, none⟩) (nx + 64) cc) (.slice (some ⟨gd, 0, none⟩) (ny + 64) cd)) := ho.heap HB10.out (fun h => h)
                                          have Rx11 := Lib.hid (own_only Rx10.out ho (fun _ _ h => h))
                                          have Ry11 := Lib.hid (own_only Ry10.out ho (fun _ _ h => h))
                                          have O11 := Lib.hid (O10.out.trans (ho.mono (fun _ _ h => h.elim)))
                                          have HHl11 : Hid (H < w11.heap.size) := Nat.lt_of_lt_of_le HHl10.out ho.size
                                          have hw2 := Lib.hid hw
                                          clear Hgc ho hw
                                          go_wp2_with fail
                                          rw [hw2.out]
                                          clear hw2 hH hG
                                          rw [rounds_succ]
                                          go_wp2_with fail
                                          go_ret
                                          exact ⟨rfl, O11.out⟩
end Go.Proofs.Ytblccnpdcnlhiaa.KitBytes
