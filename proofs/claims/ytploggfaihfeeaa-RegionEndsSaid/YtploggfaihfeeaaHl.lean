/- The ends: the walk of RegionEnds. -/
import Derived.Test.YtploggfaihfeeaaHk
namespace Go.Proofs.Ytploggfaihfeeaa.Region
open Go.RowKit Go.Proofs.Ytploggfaihfeeaa.Access
set_option linter.unusedVariables false

def szL4 : List Int := [1, 2, 4, 3]
theorem size_cell (w : World) (p : Nat) (hp : p < 4) (t : TypeId) : (w.alloc (.cells #[.int .i64 1, .int .i64 2, .int .i64 4, .int .i64 3] t)).cell? ⟨w.heap.size, p, none⟩ = some (.int .i64 (szL4.getD p 0)) := by
  rw [World.cell?_alloc_at _ _ _ _ rfl]
  match p, hp with
  | 0, _ | 1, _ | 2, _ | 3, _ => rfl
  | p + 4, hp => omega

set_option maxRecDepth 100000 in
set_option maxHeartbeats 4000000 in
theorem ends_walk (w : World) :
    Calls Try.prog 4 #[] w fun e w' => e = .returned (.bool true) ∧ Below w.heap.size w w' := by
  go_enter Try.func4, Try.ntmps4
  go_wp2_with fail
  go_loopw [1] (fun a wr => ∃ n : Nat, n ≤ 10 ∧ a = .int .i64 n ∧ Below w.heap.size w wr) (fun a _ => 10 - (intOf a).toNat)
  case atStart => exact ⟨0, by omega, rfl, Below.refl _ _⟩
  case round =>
    obtain ⟨n, hn, rfl, hb⟩ := hrel
    have B := Lib.hid hb
    clear hb
    by_cases hlt : n < 10
    · have d1 : decide ((n : Int) < 10) = true := decide_eq_true (by omega)
      go_wp2_with fail
      go_loopw [2] (fun a wr => ∃ v : Nat, v ≤ 12 ∧ a = .int .i64 v ∧ Below w.heap.size w wr) (fun a _ => 12 - (intOf a).toNat)
      case atStart => exact ⟨0, by omega, rfl, B.out⟩
      case round =>
        clear B
        obtain ⟨v, hv, rfl, hb⟩ := hrel
        have B := Lib.hid hb
        clear hb
        by_cases hlv : v < 12
        · obtain ⟨o, W, F, T, rd, we, K, lk, Tu⟩ := turned_ex n v (by omega) (by omega) (by omega) (by omega)
          have d2 : decide ((v : Int) < 12) = true := decide_eq_true (by omega)
          go_wp2_with fail
          refine (Tu _).mono ?_
          rintro e w1 ⟨rfl, hb⟩
          have B1 := Lib.hid (B.out.trans (hb.mono B.out.size))
          clear hb B Tu
          go_wp2_with fail
          refine code_letter ?_
          intro X hX
          have P := Lib.hid (show Eight X w1.heap.size o W F T rd we K lk by rw [hX.out]; exact eight_new _ _ _ _ _ _ _ _ _ _)
          have BX := Lib.hid (show Below w.heap.size w X by rw [hX.out]; exact B1.out.alloc B1.out.size _)
          obtain ⟨R, hR⟩ : ∃ R, w1.heap.size = R := ⟨_, rfl⟩
          rw [hR] at P
          rw [hR]
          clear hR hX B1
          go_loopw [4] (fun a wr => ∃ k : Nat, k ≤ 36 ∧ a = .int .i64 k ∧ Eight wr R o W F T rd we K lk ∧ Below w.heap.size w wr) (fun a _ => 36 - (intOf a).toNat)
          case atStart => exact ⟨0, by omega, rfl, P.out, BX.out⟩
          case round =>
            clear P BX
            obtain ⟨k, hk, rfl, hp, hb⟩ := hrel
            have B := Lib.hid hb
            have P := Lib.hid hp
            clear hb hp
            by_cases hlk : k < 36
            · obtain ⟨p, hp⟩ : ∃ p, k % 4 = p := ⟨_, rfl⟩
              have hp4 : p < 4 := by omega
              have tm4 : (k : Int).tmod 4 = (p : Int) := by rw [Int.tmod_eq_emod_of_nonneg (by omega)]; omega
              have wq : IntKind.i64.wrap (p : Int) = (p : Int) := IntWalk.i64_in _ (by omega)
              have c4 := size_cell wr p hp4 3
              obtain ⟨z, hz⟩ : ∃ z, szL4.getD p 0 = z := ⟨_, rfl⟩
              rw [hz] at c4
              have j0 : (0 : Int) ≤ (p : Int) := by omega
              have j1 : (p : Int) < 4 := by omega
              clear hp hz
              have d3 : decide ((k : Int) < 36) = true := decide_eq_true (by omega)
              go_wp2_with fail
              refine wp_region_ext (by kernel_rfl) (by kernel_rfl) ?_
              intro X hX
              have hb : Below wr.heap.size wr X := by rw [hX.out]; exact ((Below.refl _ _).alloc (Nat.le_refl _) _).alloc (by simp) _
              have P1 := Lib.hid (P.out.keep hb)
              have B1 := Lib.hid (B.out.trans (hb.mono B.out.size))
              have A1 := Lib.hid (show Five X (wr.heap.size + 1) ((k : Int) % 3 - (v : Int) % 2) ((k : Int) % 2 == 0) (248 + (k : Int) / 12 * 132 + (k : Int) % 12) z 0 by rw [hX.out]; have := five_new (wr.alloc (.cells #[.int .i64 1, .int .i64 2, .int .i64 4, .int .i64 3] 3)) ((k : Int) % 3 - (v : Int) % 2) ((k : Int) % 2 == 0) (248 + (k : Int) / 12 * 132 + (k : Int) % 12) z 0 28; simpa using this)
              obtain ⟨o2, W2, F2, T2, rd2, we2, K2, lk2, Tu2⟩ := turned_ex ((k : Int) % 10) ((k : Int) % 12) (by omega) (by omega) (by omega) (by omega)
              obtain ⟨o3, W3, F3, T3, rd3, we3, K3, lk3, Tu3⟩ := turned_ex ((k : Int) % 10) ((k : Int) / 3) (by omega) (by omega) (by omega) (by omega)
              have As2 := fun w => asks_any o W F T rd we K lk ((k : Int) % 3 - (v : Int) % 2) ((k : Int) % 2 == 0) (248 + (k : Int) / 12 * 132 + (k : Int) % 12) z 0 o2 W2 F2 T2 rd2 we2 K2 lk2 (by omega) (by omega) (by omega) (by omega) w
              have As3 := fun w => asks_any o3 W3 F3 T3 rd3 we3 K3 lk3 ((k : Int) % 3 - (v : Int) % 2) ((k : Int) % 2 == 0) (248 + (k : Int) / 12 * 132 + (k : Int) % 12) z 0 o W F T rd we K lk (by omega) (by omega) (by omega) (by omega) w
              clear hX hb P B c4 tm4 wq d1 d2 d3
              have k0 := ext_cell P1.out.c0
              have k1 := ext_cell P1.out.c1
              have k2 := ext_cell P1.out.c2
              have k3 := ext_cell P1.out.c3
              have k4 := ext_cell P1.out.c4
              have k5 := ext_cell P1.out.c5
              have k6 := ext_cell P1.out.c6
              have k7 := ext_cell P1.out.c7
              have m0 := ext_cell A1.out.c0
              have m1 := ext_cell A1.out.c1
              have m2 := ext_cell A1.out.c2
              have m3 := ext_cell A1.out.c3
              have m4 := ext_cell A1.out.c4
              repeat (go_big_quiet_step ((first
                | (go_at_call 9; with_reducible exact ext_of (Tu2 _))
                | (go_at_call 9; with_reducible exact ext_of (Tu3 _))
                | (go_at_call 7; with_reducible exact ext_of (As2 _))
                | (go_at_call 7; with_reducible exact ext_of (As3 _)))))
              refine wpQuiet_nil ?_
              intro w' hw'
              obtain ⟨q, rfl⟩ := hw'
              clear k0 k1 k2 k3 k4 k5 k6 k7 m0 m1 m2 m3 m4
              have P2 := Lib.hid (P1.out.keep (ext_below X q))
              have B2 := Lib.hid (B1.out.trans ((ext_below X q).mono B1.out.size))
              clear Tu2 Tu3 As2 As3 P1 B1 A1
              go_wp2_with fail
              exact ⟨⟨k + 1, by omega, by go_num, P2.out, B2.out⟩, by simp [intOf]; omega⟩
            · obtain rfl : k = 36 := by omega
              go_wp2_with fail
              exact ⟨⟨v + 1, by omega, by go_num, B.out⟩, by simp [intOf]; omega⟩
        · obtain rfl : v = 12 := by omega
          go_wp2_with fail
          exact ⟨⟨n + 1, by omega, by go_num, B.out⟩, by simp [intOf]; omega⟩
    · obtain rfl : n = 10 := by omega
      go_wp2_with fail
      refine (example_any _).mono ?_
      rintro e w1 ⟨rfl, hb⟩
      have B1 := Lib.hid (B.out.trans (hb.mono B.out.size))
      clear hb B
      go_wp2_with fail
      refine wp_region_ext (by kernel_rfl) (by kernel_rfl) ?_
      intro X hX
      have BX := Lib.hid (show Below w.heap.size w X by rw [hX.out]; exact B1.out.alloc B1.out.size _)
      have P1 := Lib.hid (show Eight X w1.heap.size true 1 256 4294967295 true false 3 false by rw [hX.out]; exact eight_new _ _ _ _ _ _ _ _ _ _)
      have As2 := fun w => asks_any true 1 256 4294967295 true false 3 false 1 false 4294967292 4 0 true 1 256 4294967295 true false 3 false (by omega) (by omega) (by omega) (by omega) w
      have As3 := fun w => asks_any true 1 256 4294967295 true false 3 false 1 false 4294967295 1 0 true 1 256 511 true false 3 false (by omega) (by omega) (by omega) (by omega) w
      clear hX B1
      have k0 := ext_cell P1.out.c0
      have k1 := ext_cell P1.out.c1
      have k2 := ext_cell P1.out.c2
      have k3 := ext_cell P1.out.c3
      have k4 := ext_cell P1.out.c4
      have k5 := ext_cell P1.out.c5
      have k6 := ext_cell P1.out.c6
      have k7 := ext_cell P1.out.c7
      repeat (go_big_quiet_step ((first
        | (go_at_call 7; with_reducible exact ext_of (As2 _))
        | (go_at_call 7; with_reducible exact ext_of (As3 _))
        | (go_at_call 10; with_reducible exact ext_of (example_any _))
        | (go_at_call 8; with_reducible exact ext_of (awake_any _)))))
      refine wpQuiet_nil ?_
      intro w' hw'
      obtain ⟨q, rfl⟩ := hw'
      go_wp2_with fail
      go_ret
      exact ⟨rfl, BX.out.trans ((ext_below X q).mono BX.out.size)⟩
end Go.Proofs.Ytploggfaihfeeaa.Region
