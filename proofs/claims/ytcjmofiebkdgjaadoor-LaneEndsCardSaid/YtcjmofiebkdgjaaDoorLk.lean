/- The walk of LaneEnds. -/
import Derived.Test.YtcjmofiebkdgjaaDoorLe
namespace Go.Proofs.YtcjmofiebkdgjaaDoor.Lane
open Go.RowKit
set_option linter.unusedVariables false

theorem sizes_at (w : World) (t : TypeId) : ∀ i : Nat, i < 12 → ∃ z, (w.alloc (.cells #[.int .i64 (-9223372036854775808), .int .i64 (-4), .int .i64 (-1), .int .i64 0, .int .i64 1, .int .i64 2, .int .i64 3, .int .i64 4, .int .i64 5, .int .i64 8, .int .i64 9, .int .i64 9223372036854775807] t)).cell? ⟨w.heap.size, i, none⟩ = some (.int .i64 z) := by
  intro i hi
  have h : i = 0 ∨ i = 1 ∨ i = 2 ∨ i = 3 ∨ i = 4 ∨ i = 5 ∨ i = 6 ∨ i = 7 ∨ i = 8 ∨ i = 9 ∨ i = 10 ∨ i = 11 := by omega
  rcases h with rfl | rfl | rfl | rfl | rfl | rfl | rfl | rfl | rfl | rfl | rfl | rfl <;> exact ⟨_, World.cell?_alloc_at _ _ _ _ rfl⟩
theorem below_cell {W0 wr : World} {g i : Nat} {v : Value} (hb : Below W0.heap.size W0 wr) (h : W0.cell? ⟨g, i, none⟩ = some v) : wr.cell? ⟨g, i, none⟩ = some v := (hb.cell (p := ⟨g, i, none⟩) (World.block_lt_of_cell? _ _ h)).trans h

set_option maxRecDepth 100000 in
set_option maxHeartbeats 4000000 in
theorem ends_walk (w : World) (ht : Tab w) :
    Calls Tryd.prog 5 #[] w fun e w' => e = .returned (.bool true) ∧ Below w.heap.size w w' := by
  have H := Lib.hid ht
  clear ht
  go_enter Tryd.func5, Tryd.ntmps5
  go_wp2_with fail
  obtain ⟨W0, hW0⟩ : ∃ W0, w.alloc (.cells #[.int .i64 (-9223372036854775808), .int .i64 (-4), .int .i64 (-1), .int .i64 0, .int .i64 1, .int .i64 2, .int .i64 3, .int .i64 4, .int .i64 5, .int .i64 8, .int .i64 9, .int .i64 9223372036854775807] 3) = W0 := ⟨_, rfl⟩
  have Sz := Lib.hid (sizes_at w 3)
  have B0 : Below w.heap.size w W0 := by rw [← hW0]; exact (Below.refl _ _).alloc (Nat.le_refl _) _
  rw [hW0] at Sz ⊢
  clear hW0
  obtain ⟨g, hg⟩ : ∃ g, w.heap.size = g := ⟨_, rfl⟩
  rw [hg] at Sz B0 ⊢
  have T0 := Lib.hid (H.out.below (hg ▸ B0))
  have B0' := Lib.hid B0
  have hgl : g ≤ W0.heap.size := hg ▸ B0.size
  have Hg := Lib.hid hg
  clear H B0 hg
  go_loopw [2] (fun i wr => ∃ k : Nat, k ≤ 12 ∧ i = .int .i64 k ∧ Below W0.heap.size W0 wr) (fun i _ => 12 - (intOf i).toNat)
  case atStart => exact ⟨0, by omega, rfl, Below.refl _ _⟩
  case round =>
    obtain ⟨i, hi, rfl, hb⟩ := hrel
    have B := Lib.hid hb
    clear hb
    by_cases hlt : i < 12
    · have d1 : decide ((i : Int) < 12) = true := decide_eq_true (by omega)
      obtain ⟨z, hz⟩ := Sz.out i hlt
      have Z := Lib.hid hz
      clear hz
      go_wp2_with fail
      go_loopw [3] (fun k wr => ∃ j : Nat, j ≤ 12 ∧ k = .int .i64 j ∧ Below W0.heap.size W0 wr) (fun k _ => 12 - (intOf k).toNat)
      case atStart => exact ⟨0, by omega, rfl, B.out⟩
      case round =>
        obtain ⟨j, hj, rfl, hb⟩ := hrel
        have B := Lib.hid hb
        have c := below_cell hb Z.out
        have T := Lib.hid (T0.out.below hb)
        clear hb
        by_cases hlj : j < 12
        · have d2 : decide ((j : Int) < 12) = true := decide_eq_true (by omega)
          by_cases h7 : j > 7
          · go_wp2_with fail
            refine (lanes_any _ z _ (by omega) (by omega) T.out).mono ?_
            rintro e w1 ⟨rfl, hb⟩
            have B := Lib.hid (B.out.trans (hb.mono B.out.size))
            clear hb c T
            go_wp2_with fail
            go_loopw [5] (fun n wr => ∃ b : Nat, b ≤ 32 ∧ n = .int .i64 b ∧ Below W0.heap.size W0 wr) (fun n _ => 32 - (intOf n).toNat)
            case atStart => exact ⟨0, by omega, rfl, B.out⟩
            case round =>
              obtain ⟨b, hbl, rfl, hb⟩ := hrel
              have B := Lib.hid hb
              clear hb
              by_cases hlb : b < 32
              · go_wp2_with fail
                refine wp_region_ext (by kernel_rfl) (by kernel_rfl) ?_
                intro W hW
                have hBW : Below W0.heap.size W0 W := by rw [hW.out]; exact B.out
                have c0 := ext_cell (below_cell hBW Z.out)
                have T1 : Hid (∀ p, Tab (ext W p)) := fun p => T0.out.below (hBW.trans ((ext_below W p).mono hBW.size))
                have HbW := Lib.hid hBW
                clear hBW
                repeat (go_big_quiet_step ((go_at_call 13; exact ext_of (moves_any _ _ _ _ _ (by omega) (by omega) (by omega) (by omega) (by omega) (by omega) (T1.out _)))))
                refine wpQuiet_nil ?_
                intro w' hw'
                obtain ⟨p, rfl⟩ := hw'
                go_wp2_with fail
                exact ⟨⟨b + 1, by omega, by go_num, HbW.out.trans ((ext_below W p).mono HbW.out.size)⟩, by simp [intOf]; omega⟩
              · go_wp2_with fail
                exact ⟨⟨j + 1, by omega, by go_num, B.out⟩, by simp [intOf]; omega⟩
          · go_wp2_with fail
            refine (lanes_any _ z _ (by omega) (by omega) T.out).mono ?_
            rintro e w1 ⟨rfl, hb⟩
            have B := Lib.hid (B.out.trans (hb.mono B.out.size))
            clear hb c T
            go_wp2_with fail
            go_loopw [5] (fun n wr => ∃ b : Nat, b ≤ 32 ∧ n = .int .i64 b ∧ Below W0.heap.size W0 wr) (fun n _ => 32 - (intOf n).toNat)
            case atStart => exact ⟨0, by omega, rfl, B.out⟩
            case round =>
              obtain ⟨b, hbl, rfl, hb⟩ := hrel
              have B := Lib.hid hb
              clear hb
              by_cases hlb : b < 32
              · go_wp2_with fail
                refine wp_region_ext (by kernel_rfl) (by kernel_rfl) ?_
                intro W hW
                have hBW : Below W0.heap.size W0 W := by rw [hW.out]; exact B.out
                have c0 := ext_cell (below_cell hBW Z.out)
                have T1 : Hid (∀ p, Tab (ext W p)) := fun p => T0.out.below (hBW.trans ((ext_below W p).mono hBW.size))
                have HbW := Lib.hid hBW
                clear hBW
                repeat (go_big_quiet_step ((go_at_call 13; exact ext_of (moves_any _ _ _ _ _ (by omega) (by omega) (by omega) (by omega) (by omega) (by omega) (T1.out _)))))
                refine wpQuiet_nil ?_
                intro w' hw'
                obtain ⟨p, rfl⟩ := hw'
                go_wp2_with fail
                exact ⟨⟨b + 1, by omega, by go_num, HbW.out.trans ((ext_below W p).mono HbW.out.size)⟩, by simp [intOf]; omega⟩
              · go_wp2_with fail
                exact ⟨⟨j + 1, by omega, by go_num, B.out⟩, by simp [intOf]; omega⟩
        · obtain rfl : j = 12 := by omega
          go_wp2_with fail
          exact ⟨⟨i + 1, by omega, by go_num, B.out⟩, by simp [intOf]; omega⟩
    · go_wp2_with fail
      go_loopw [6] (fun m wr => ∃ j : Nat, j ≤ 40 ∧ m = .int .u32 j ∧ Below W0.heap.size W0 wr) (fun m _ => 40 - (intOf m).toNat)
      case atStart => exact ⟨0, by omega, rfl, B.out⟩
      case round =>
        obtain ⟨j, hj, rfl, hb⟩ := hrel
        have B := Lib.hid hb
        have T := Lib.hid (T0.out.below hb)
        clear hb
        by_cases hlj : j < 40
        · obtain ⟨x, hx⟩ : ∃ x, wideV j = x := ⟨_, rfl⟩
          have rW := fun w => rWide_any j w (by omega) (by omega)
          rw [hx] at rW
          have W1 := fun w ht => Wide_val j x w (by omega) (by omega) ht hx
          clear hx
          go_wp2_with fail
          refine (W1 _ T.out).mono ?_
          rintro e w1 ⟨rfl, rfl⟩
          go_wp2_with fail
          refine (rW _).mono ?_
          rintro e w1 ⟨rfl, rfl⟩
          go_wp2_with fail
          exact ⟨⟨j + 1, by omega, by go_num, B.out⟩, by simp [intOf]; omega⟩
        · obtain rfl : j = 40 := by omega
          go_wp2_with fail
          refine (Wide_val 4294967295 4294967295 _ (by omega) (by omega) T.out (by decide)).mono ?_
          rintro e w1 ⟨rfl, rfl⟩
          go_wp2_with fail
          refine (awake_any _ T.out).mono ?_
          rintro e w1 ⟨rfl, hb⟩
          have B := Lib.hid (B.out.trans (hb.mono B.out.size))
          clear hb
          go_wp2_with fail
          go_ret
          exact ⟨rfl, by rw [Hg.out]; exact B0'.out.trans (B.out.mono hgl)⟩
end Go.Proofs.YtcjmofiebkdgjaaDoor.Lane
