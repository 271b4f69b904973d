/- The walk of AccessEnds. -/
import Derived.Test.YtblccnpdcnlhiaaCp
import Derived.Deep.RegionLaw
namespace Go.Proofs.Ytblccnpdcnlhiaa.Access
open Go.RowKit Go.Maps Go.ChangeShapes Go.WideShapes Go.ChangeAt Kit Word
set_option linter.unusedVariables false

theorem sizes_at (w : World) (t : TypeId) : ∀ i : Nat, i < 7 → ∃ z, (w.alloc (.cells #[.int .i64 (-1), .int .i64 0, .int .i64 1, .int .i64 2, .int .i64 3, .int .i64 4, .int .i64 8] t)).cell? ⟨w.heap.size, i, none⟩ = some (.int .i64 z) := by
  intro i hi
  have h : i = 0 ∨ i = 1 ∨ i = 2 ∨ i = 3 ∨ i = 4 ∨ i = 5 ∨ i = 6 := by omega
  rcases h with rfl | rfl | rfl | rfl | rfl | rfl | rfl <;> exact ⟨_, World.cell?_alloc_at _ _ _ _ rfl⟩
theorem data_at (w : World) (t : TypeId) : ∀ i : Nat, i < 7 → ∃ z, (0 ≤ z ∧ z < 4294967296) ∧ (w.alloc (.cells #[.int .u32 0, .int .u32 1, .int .u32 255, .int .u32 256, .int .u32 65535, .int .u32 65536, .int .u32 4294967295] t)).cell? ⟨w.heap.size, i, none⟩ = some (.int .u32 z) := by
  intro i hi
  have h : i = 0 ∨ i = 1 ∨ i = 2 ∨ i = 3 ∨ i = 4 ∨ i = 5 ∨ i = 6 := by omega
  rcases h with rfl | rfl | rfl | rfl | rfl | rfl | rfl
  · exact ⟨0, by decide, World.cell?_alloc_at _ _ _ _ rfl⟩
  · exact ⟨1, by decide, World.cell?_alloc_at _ _ _ _ rfl⟩
  · exact ⟨255, by decide, World.cell?_alloc_at _ _ _ _ rfl⟩
  · exact ⟨256, by decide, World.cell?_alloc_at _ _ _ _ rfl⟩
  · exact ⟨65535, by decide, World.cell?_alloc_at _ _ _ _ rfl⟩
  · exact ⟨65536, by decide, World.cell?_alloc_at _ _ _ _ rfl⟩
  · exact ⟨4294967295, by decide, World.cell?_alloc_at _ _ _ _ rfl⟩
abbrev exL : List Int := [3, 3, 0, 0, 0, 1, 0, 0, 52, 18, 0, 0]
theorem own_unfrozen {w : World} {b g n c : Nat} {L : List Value} (h : w.ownsRow b 5 1 (.slice (some ⟨g, 0, none⟩) n c) n L) (i : Nat) : w.frozen? ⟨g, i, none⟩ = false := by
  rcases h.2 with ⟨h2, _⟩ | ⟨g', cap, cur, h2, _, hh, _⟩
  · cases h2
  · simp only [Value.slice.injEq, Option.some.injEq, Addr.mk.injEq, and_true, true_and] at h2
    obtain ⟨rfl, rfl⟩ := h2
    simp [World.frozen?, hh]
theorem own_set {w : World} {b g n c : Nat} {l : List Int} (h : w.ownsRow b 5 1 (.slice (some ⟨g, 0, none⟩) n c) n (bv l)) (i : Nat) (v : Int) : (w.setCell ⟨g, i, none⟩ (.int .u8 v)).ownsRow 0 5 1 (.slice (some ⟨g, 0, none⟩) n c) n (bv (l.set i v)) := by
  have := (KitBytes.r_store0 (j := i) (KitBytes.own_base h (Nat.zero_le _)) (.int .u8 v)).1
  rw [show bv (l.set i v) = (bv l).set i (.int .u8 v) by simp [bv, List.map_set]]
  exact this
theorem set_bd {l : List Int} (h : ∀ x ∈ l, 0 ≤ x ∧ x < 256) {i : Nat} {v : Int} (h0 : 0 ≤ v) (h1 : v < 256) : ∀ x ∈ l.set i v, 0 ≤ x ∧ x < 256 := fun x hx => by
  rcases List.mem_or_eq_of_mem_set hx with hx | rfl
  · exact h x hx
  · exact ⟨h0, h1⟩
theorem take_own {w : World} {b g n c i : Nat} {l : List Int} (h : w.ownsRow b 5 1 (.slice (some ⟨g, 0, none⟩) n c) n ((bv l).take i)) : w.ownsRow b 5 1 (.slice (some ⟨g, 0, none⟩) n c) n (bv (l.take i)) := by
  rw [show bv (l.take i) = (bv l).take i by simp [bv, List.map_take]]
  exact h
theorem take_bd {l : List Int} (h : ∀ x ∈ l, 0 ≤ x ∧ x < 256) (i : Nat) : ∀ x ∈ l.take i, 0 ≤ x ∧ x < 256 := fun x hx => h x (List.mem_of_mem_take hx)
theorem two_own {w : World} {b g n c i : Nat} {l : List Int} (h : w.ownsRow b 5 1 (.slice (some ⟨g, 0, none⟩) n c) n (([] ++ bv l) ++ (bv l).take i)) : w.ownsRow b 5 1 (.slice (some ⟨g, 0, none⟩) n c) n (bv (l ++ l.take i)) := by
  rw [show bv (l ++ l.take i) = ([] ++ bv l) ++ (bv l).take i by simp [bv, List.map_take]]
  exact h
theorem two_bd {l : List Int} (h : ∀ x ∈ l, 0 ≤ x ∧ x < 256) (i : Nat) : ∀ x ∈ l ++ l.take i, 0 ≤ x ∧ x < 256 := fun x hx => by
  rcases List.mem_append.1 hx with hx | hx
  · exact h x hx
  · exact h x (List.mem_of_mem_take hx)
set_option maxRecDepth 100000 in
set_option maxHeartbeats 2000000 in
theorem ends_walk (w : World) :
    Calls Try.prog 5 #[] w fun e w' => e = .returned (.bool true) ∧ Below w.heap.size w w' := by
  obtain ⟨i0, hi, hz0, hz1, hz2⟩ := info_parts KitBytes.info_e
  have Hi := Lib.hid hi
  have Hz0 := Lib.hid hz0
  have Hz1 := Lib.hid hz1
  have Hz2 := Lib.hid hz2
  clear hi hz0 hz1 hz2
  go_enter Try.func5, Try.ntmps5
  go_wp2_with fail
  refine code_letter ?_
  intro W0 hW0
  have B0 := Lib.hid (show Below w.heap.size w W0 by rw [hW0.out]; exact ((Below.refl _ _).alloc (Nat.le_refl _) _).alloc (by simp) _)
  have Sz : Hid (∀ i : Nat, i < 7 → ∃ z, W0.cell? ⟨w.heap.size, i, none⟩ = some (.int .i64 z)) := by
    intro i hi
    obtain ⟨z, hz⟩ := sizes_at w 3 i hi
    exact ⟨z, by rw [hW0.out]; exact cell_keep ((Below.refl _ _).alloc (Nat.le_refl _) _) hz⟩
  have Da : Hid (∀ i : Nat, i < 7 → ∃ z, (0 ≤ z ∧ z < 4294967296) ∧ W0.cell? ⟨w.heap.size + 1, i, none⟩ = some (.int .u32 z)) := by
    intro i hi
    obtain ⟨z, hz, hc⟩ := data_at (w.alloc (.cells #[.int .i64 (-1), .int .i64 0, .int .i64 1, .int .i64 2, .int .i64 3, .int .i64 4, .int .i64 8] 3)) 22 i hi
    refine ⟨z, hz, ?_⟩
    rw [hW0.out]
    simpa using hc
  obtain ⟨G, hG⟩ : ∃ G, w.heap.size = G := ⟨_, rfl⟩
  obtain ⟨H, hH⟩ : ∃ H, w.heap.size + 1 = H := ⟨_, rfl⟩
  rw [hH] at Da
  rw [hG] at Sz
  rw [hH, hG]
  clear hG hH hW0
  go_loopw [3] (fun i wr => ∃ k : Nat, k ≤ 11 ∧ i = .int .i64 ((k : Int) - 1) ∧ Below W0.heap.size W0 wr) (fun i _ => (10 - intOf i).toNat)
  case atStart => exact ⟨0, by omega, rfl, Below.refl _ _⟩
  case round =>
    obtain ⟨k, hk, rfl, hb⟩ := hrel
    have B := Lib.hid hb
    clear hb
    by_cases hlk : k < 11
    · have d1 : decide ((k : Int) - 1 < 10) = true := decide_eq_true (by omega)
      go_wp2_with fail
      go_loopw [4] (fun i wr => ∃ j : Nat, j ≤ 49 ∧ i = .int .i64 j ∧ Below W0.heap.size W0 wr) (fun i _ => (49 - intOf i).toNat)
      case atStart => exact ⟨0, by omega, rfl, B.out⟩
      case round =>
        clear B
        obtain ⟨j, hj, rfl, hb⟩ := hrel
        have B := Lib.hid hb
        clear hb
        by_cases hlj : j < 49
        · have d2 : decide ((j : Int) < 49) = true := decide_eq_true (by omega)
          obtain ⟨q, hq⟩ : ∃ q : Nat, j / 7 = q := ⟨_, rfl⟩
          obtain ⟨s, hs⟩ : ∃ s : Nat, j % 7 = s := ⟨_, rfl⟩
          obtain ⟨z, hz⟩ := Sz.out q (by omega)
          obtain ⟨x, hx, hxc⟩ := Da.out s (by omega)
          have Zc := Lib.hid hz
          have Xc := Lib.hid hxc
          have e1 : (j : Int) / 7 = (q : Int) := by omega
          have e2 : (j : Int).tdiv 7 = (q : Int) := by rw [Int.tdiv_eq_ediv_of_nonneg (by omega)]; omega
          have e3 : (j : Int) % 7 = (s : Int) := by omega
          have e4 : (j : Int).tmod 7 = (s : Int) := by rw [Int.tmod_eq_emod_of_nonneg (by omega)]; omega
          have wq : IntKind.i64.wrap (q : Int) = (q : Int) := wrap_i64 (by omega) (by omega)
          have ws : IntKind.i64.wrap (s : Int) = (s : Int) := wrap_i64 (by omega) (by omega)
          have q0 : (0 : Int) ≤ (q : Int) := by omega
          have s0 : (0 : Int) ≤ (s : Int) := by omega
          have q7' : (q : Int) < 7 := by omega
          have s7' : (s : Int) < 7 := by omega
          have q7 : q < 7 := by omega
          have s7 : s < 7 := by omega
          clear hz hxc hq hs
          go_wp2_with fail
          go_loopw [5] (fun i wr => ∃ m : Nat, m ≤ 5 ∧ i = .int .u32 m ∧ Below W0.heap.size W0 wr) (fun i _ => (5 - intOf i).toNat)
          case atStart => exact ⟨0, by omega, rfl, B.out⟩
          case round =>
            clear B
            obtain ⟨m, hm, rfl, hb⟩ := hrel
            have B := Lib.hid hb
            have c1 := cell_keep hb Zc.out
            have c2 := cell_keep hb Xc.out
            have l1 := World.block_lt_of_cell? wr _ c1
            have l2 := World.block_lt_of_cell? wr _ c2
            simp only at l1 l2
            clear hb
            by_cases hlm : m < 5
            · have d3 : decide ((m : Int) < 5) = true := decide_eq_true (by omega)
              go_wp2_with fail
              go_region
              obtain ⟨r, hr⟩ : ∃ r, ((m : Int) % 2 == 1) = r := ⟨_, rfl⟩
              obtain ⟨y, hy⟩ : ∃ y : Int, 4294967291 + (m : Int) = y := ⟨_, rfl⟩
              rw [hr, hy]
              have y0 : 0 ≤ y := by omega
              have y1 : y < 4294967296 := by omega
              have As := fun w => asks_any ((k : Int) - 1) r y z x w y0 y1 hx.1 hx.2
              clear hr hy y0 y1 c1 c2 l1 l2
              refine exit_letter ?_
              intro W3 hW3
              have hk3 : Below wr.heap.size wr W3 := by rw [hW3.out]; exact ((Below.refl _ _).alloc (Nat.le_refl _) _).drew
              have F := Lib.hid (show Five W3 wr.heap.size ((k : Int) - 1) r y z x by rw [hW3.out]; exact (five_new wr _ r y z x _).keep (Below.refl _ _).drew)
              have B3 := Lib.hid (B.out.trans (hk3.mono B.out.size))
              obtain ⟨C, hC⟩ : ∃ C, wr.heap.size = C := ⟨_, rfl⟩
              rw [hC] at F
              rw [hC]
              clear hk3 hW3 hC B
              obtain ⟨k0, k1, k2, k3, k4⟩ := F.out
              go_wp2_with fail
              refine (As _).mono ?_
              rintro e W4 ⟨rfl, hb⟩
              have B4 := Lib.hid (B3.out.trans (hb.mono B3.out.size))
              clear hb k0 k1 k2 k3 k4 F B3
              go_wp2_with fail
              exact ⟨⟨m + 1, by omega, by go_num, B4.out⟩, by simp [intOf]; omega⟩
            · obtain rfl : m = 5 := by omega
              clear c1 c2 l1 l2
              go_wp2_with fail
              exact ⟨⟨j + 1, by omega, by go_num, B.out⟩, by simp [intOf]; omega⟩
        · obtain rfl : j = 49 := by omega
          go_wp2_with fail
          exact ⟨⟨k + 1, by omega, by go_num, B.out⟩, by simp [intOf]; omega⟩
    · obtain rfl : k = 11 := by omega
      go_wp2_with fail
      refine (example_any _).mono ?_
      rintro e w1 ⟨rfl, hb⟩
      have B1 := Lib.hid (B.out.trans (hb.mono B.out.size))
      clear hb
      go_wp2_with fail
      refine (rEncode_any 3 true 256 2 4660 true 12 _ 0 _ (by omega) (by omega) (by omega) (by omega) exL_right exL_enc).mono ?_
      rintro e w2 ⟨a, c, rfl, hown, hb⟩
      obtain ⟨g, rfl⟩ := KitBytes.r_some hown (.inl (by omega))
      have O2 := Lib.hid hown
      have B2 := Lib.hid (B0.out.trans ((B1.out.trans (hb.mono B1.out.size)).mono B0.out.size))
      have hc12 := KitBytes.r_le hown
      clear hown hb B1 B Sz Da
      go_wp2_with fail
      go_loopw [9] (fun i wr => ∃ k : Nat, k ≤ 12 ∧ i = .int .i64 k ∧ Below w2.heap.size w2 wr) (fun i _ => (12 - intOf i).toNat)
      case atStart => exact ⟨0, by omega, rfl, Below.refl _ _⟩
      case round =>
        obtain ⟨i, hi, rfl, hb⟩ := hrel
        have B := Lib.hid hb
        clear hb
        by_cases hli : i < 12
        · have d1 : decide ((i : Int) < 12) = true := decide_eq_true (by omega)
          go_wp2_with fail
          go_loopw [10] (fun v wr => ∃ j : Nat, j ≤ 256 ∧ v = .int .i64 j ∧ Below w2.heap.size w2 wr) (fun v _ => (256 - intOf v).toNat)
          case atStart => exact ⟨0, by omega, rfl, B.out⟩
          case round =>
            clear B
            obtain ⟨v, hv, rfl, hb⟩ := hrel
            have B := Lib.hid hb
            have O3 := Lib.hid (bown_below O2.out (hb.mono (Nat.le_refl _)))
            clear hb
            by_cases hlv : v < 256
            · have d2 : decide ((v : Int) < 256) = true := decide_eq_true (by omega)
              have wv : IntKind.u8.wrap (v : Int) = (v : Int) := wrap_u8 (by omega) (by omega)
              have i1 : (0 : Int) ≤ (i : Int) := by omega
              have i2 : (i : Int) < 12 := by omega
              go_wp2_with (at_builtin; refine wpList_append_own _ rfl _ _ 27 rfl wr.heap.size 5 i0 (.int .u8 0) 1 1 Try.underlying27 Hi.out Hz0.out Hz1.out Hz2.out rfl (by decide) _ _ _ rfl (new_own wr 0 #[] rfl (by omega)) ⟨g, 0, none⟩ 12 c (bv exL) rfl rfl (KitBytes.r_cells (bown_below O3.out ((Below.refl _ _).alloc (Nat.le_refl _) _)) _ rfl) (bv_one _) (by unfold maxLen; omega) (by omega) (by simp) ?_; intro v' w3 hown3 hgrow3 _; obtain ⟨h, ch, rfl⟩ := KitBytes.own_pos hown3 (by omega); have R3 := Lib.hid hown3; have B3 := Lib.hid (((Below.refl wr.heap.size wr).alloc (Nat.le_refl _) _).grown hgrow3 (by simp) (fun k e => by cases e; exact Nat.le_refl _)); clear hown3 hgrow3; have c1 := R3.out.cellAt i (by omega); have f1 := own_unfrozen R3.out i)
              have Rs := own_set R3.out i v
              have bel3 : Below wr.heap.size wr (w3.setCell ⟨h, i, none⟩ (.int .u8 v)) := B3.out.setCell (R3.out.lt h rfl).1 _
              have Rd := reads_any (some ⟨h, 0, none⟩) 12 ch _ _ (row_own Rs (set_bd exL_bd (by omega) (by omega))) (fun e => by cases e) (KitBytes.r_le R3.out) (by omega)
              refine Rd.mono ?_
              rintro e w5 ⟨rfl, hb⟩
              have B5 := Lib.hid ((B.out.trans (bel3.mono B.out.size)).trans (hb.mono (B.out.trans (bel3.mono B.out.size)).size))
              clear hb Rs bel3 Rd c1 f1 R3 B3 wv i1 i2
              go_wp2_with fail
              exact ⟨⟨v + 1, by omega, by go_num, B5.out⟩, by simp [intOf]; omega⟩
            · obtain rfl : v = 256 := by omega
              go_wp2_with fail
              have O4 := Lib.hid (bown_below O2.out (B.out.mono (Nat.le_refl _)))
              have P4 := Lib.hid (KitBytes.own_prefix O4.out (Nat.le_of_lt hli))
              have hic : i ≤ c := by omega
              have i1 : (0 : Int) ≤ (i : Int) := by omega
              have i2 : (i : Int) ≤ (c : Int) := by omega
              have Rd := reads_any (some ⟨g, 0, none⟩) i c (exL.take i) wr.drew (row_own (bown_below (take_own P4.out) (Below.refl _ _).drew) (take_bd exL_bd i)) (fun e => by cases e) hic (by omega)
              go_region_law (first
                | (go_simp; go_at_call 10; refine (reads_any (some ⟨h2, 0, none⟩) (0 + 12 + i) ch2 (exL ++ exL.take i) _ (row_own (two_own R7.out) (two_bd exL_bd i)) (fun e => by cases e) (KitBytes.r_le R7.out) (by omega)).mono ?_; rintro e w8 ⟨rfl, hb⟩; have D8 := Lib.hid (D7.out.trans (hb.mono D7.out.size)); clear hb)
                | (go_simp; go_at_call 10; refine Rd.mono ?_; rintro e w5 ⟨rfl, hb⟩; have C5 := Lib.hid ((Below.refl _ _).drew.trans hb); have O5 := Lib.hid (bown_below O4.out C5.out); have P5 := Lib.hid (bown_below P4.out C5.out); clear hb)
                | (refine (if_pos (by rfl)).mpr ?_; refine wp_append_own _ _ _ 27 rfl w5.heap.size 5 i0 (.int .u8 0) 1 1 Try.underlying27 Hi.out Hz0.out Hz1.out Hz2.out rfl (by decide) (.slice (some ⟨h, 0, none⟩) (0 + 12) ch) _ _ rfl R6.out ⟨g, 0, none⟩ i c ((bv exL).take i) rfl (by simp [bv]; omega) (KitBytes.r_cells P6.out _ rfl) (fun u hu => bv_one _ u (List.mem_of_mem_take hu)) (by unfold maxLen; omega) (by omega) D6.out.size ?_; intro v' w7 hown7 hgrow7 _; obtain ⟨h2, ch2, rfl⟩ := KitBytes.own_pos hown7 (by omega); have R7 := Lib.hid hown7; have D7 := Lib.hid (D6.out.grown hgrow7 D6.out.size (fun k e => (R6.out.lt k e).1)); clear hown7 hgrow7)
                | (refine (if_pos (by rfl)).mpr ?_; refine wp_append_own _ _ _ 27 rfl w5.heap.size 5 i0 (.int .u8 0) 1 1 Try.underlying27 Hi.out Hz0.out Hz1.out Hz2.out rfl (by decide) (.slice (some ⟨w5.heap.size, 0, none⟩) 0 0) _ _ rfl (new_own w5 0 #[] rfl (by omega)) ⟨g, 0, none⟩ 12 c (bv exL) rfl rfl (KitBytes.r_cells (bown_below O5.out ((Below.refl _ _).alloc (Nat.le_refl _) _)) _ rfl) (bv_one _) (by unfold maxLen; omega) (by omega) (by simp) ?_; intro v' w6 hown6 hgrow6 _; obtain ⟨h, ch, rfl⟩ := KitBytes.own_pos hown6 (by omega); have R6 := Lib.hid hown6; have D6 := Lib.hid (((Below.refl w5.heap.size w5).alloc (Nat.le_refl _) _).grown hgrow6 (by simp) (fun k e => by cases e; exact Nat.le_refl _)); have P6 := Lib.hid (bown_below P5.out D6.out); clear hown6 hgrow6))
              have B8 := Lib.hid (B.out.trans ((C5.out.trans (D8.out.mono C5.out.size)).mono B.out.size))
              clear C5 D8 D7 D6 R6 R7 P4 P5 P6 O4 O5 Rd i1 i2
              go_wp2_with fail
              exact ⟨⟨i + 1, by omega, by go_num, B8.out⟩, by simp [intOf]; omega⟩
        · obtain rfl : i = 12 := by omega
          go_wp2_with fail
          refine (awake_any _).mono ?_
          rintro e w8 ⟨rfl, hb⟩
          have B8 := Lib.hid ((B2.out.trans (B.out.mono B2.out.size)).trans (hb.mono (B2.out.trans (B.out.mono B2.out.size)).size))
          clear hb
          go_wp2_with fail
          go_ret
          exact ⟨rfl, B8.out⟩
end Go.Proofs.Ytblccnpdcnlhiaa.Access
