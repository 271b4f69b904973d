/- The ends of words: the walk of WordEnds. -/
import Derived.Test.YteahocaogkhddaaDoorEb
import Derived.Deep.RegionHeld3
namespace Go.Proofs.YteahocaogkhddaaDoor.Word
open Go.RowKit Go.Maps Go.ChangeShapes Go.WideShapes Go.ChangeAt
set_option linter.unusedVariables false

set_option maxRecDepth 100000 in
set_option maxHeartbeats 8000000 in
theorem ends_walk (w : World) (hT : TabZ w) (ht : Tab w) :
    Calls Tryd.prog 3 #[] w fun e w' => e = .returned (.bool true) ∧ Below w.heap.size w w' := by
  have Ht := Lib.hid ht
  have HT := Lib.hid hT
  clear ht hT
  go_enter Tryd.func3, Tryd.ntmps3
  go_wp2_with fail
  go_loopw [3] (fun a wr => ∃ k : Nat, k ≤ 1331 ∧ a = .int .i64 k ∧ Heads wr w.heap.size ∧ Below w.heap.size w wr) (fun a _ => 1331 - (intOf a).toNat)
  case atStart => exact ⟨0, by omega, rfl, heads_new w, (Below.refl _ _).alloc (Nat.le_refl _) _⟩
  case round =>
    obtain ⟨k, hk, rfl, hh, hb⟩ := hrel
    have Hh := Lib.hid hh
    have Hb := Lib.hid hb
    have hsz := hb.size
    clear hh hb
    by_cases hlt : k < 1331
    · obtain ⟨p, hp⟩ : ∃ p, k % 11 = p := ⟨_, rfl⟩
      obtain ⟨m, hm⟩ : ∃ p, k / 11 = p := ⟨_, rfl⟩
      obtain ⟨q, hq⟩ : ∃ p, m % 11 = p := ⟨_, rfl⟩
      obtain ⟨r, hr⟩ : ∃ p, k / 121 = p := ⟨_, rfl⟩
      have p0 : (0 : Int) ≤ (p : Int) := by omega
      have p1 : (p : Int) + 1 ≤ 11 := by omega
      have q0 : (0 : Int) ≤ (q : Int) := by omega
      have q1 : (q : Int) + 1 ≤ 11 := by omega
      have r0 : (0 : Int) ≤ (r : Int) := by omega
      have r1 : (r : Int) + 1 ≤ 11 := by omega
      have t1 : (k : Int).tmod 11 = (p : Int) := by rw [Int.tmod_eq_emod_of_nonneg (by omega)]; omega
      have t2 : (k : Int).tdiv 11 = (m : Int) := by rw [Int.tdiv_eq_ediv_of_nonneg (by omega)]; omega
      have t3 : (m : Int).tmod 11 = (q : Int) := by rw [Int.tmod_eq_emod_of_nonneg (by omega)]; omega
      have t4 : (k : Int).tdiv 121 = (r : Int) := by rw [Int.tdiv_eq_ediv_of_nonneg (by omega)]; omega
      have w1 : IntKind.i64.wrap (p : Int) = (p : Int) := IntWalk.i64_in _ (by omega)
      have w2 : IntKind.i64.wrap (m : Int) = (m : Int) := IntWalk.i64_in _ (by omega)
      have w3 : IntKind.i64.wrap (q : Int) = (q : Int) := IntWalk.i64_in _ (by omega)
      have w4 : IntKind.i64.wrap (r : Int) = (r : Int) := IntWalk.i64_in _ (by omega)
      have w5 : IntKind.i64.wrap ((p : Int) + 1) = (p : Int) + 1 := IntWalk.i64_in _ (by omega)
      have w6 : IntKind.i64.wrap ((q : Int) + 1) = (q : Int) + 1 := IntWalk.i64_in _ (by omega)
      have w7 : IntKind.i64.wrap ((r : Int) + 1) = (r : Int) + 1 := IntWalk.i64_in _ (by omega)
      obtain ⟨A, hA, sA⟩ := sg_at p (by omega)
      obtain ⟨B, hB, sB⟩ := sg_at q (by omega)
      obtain ⟨C, hC, sC⟩ := sg_at r (by omega)
      have l1 : ¬ (9223372036854775807 < A.size + B.size) := by omega
      have l2 : ¬ (9223372036854775807 < A.size + B.size + C.size) := by omega
      have l3 : Hid ((A ++ B ++ C).size = 3) := Lib.hid (by simp [ByteArray.size_append, hA, hB, hC])
      clear hp hm hq hr hA hB hC
      go_wp2_with fail
      refine wp_region_ext (by kernel_rfl) (by kernel_rfl) ?_
      intro W hW
      have HW := Lib.hid (show Below wr.heap.size wr W by rw [hW.out]; exact Below.refl _ _)
      clear hW
      repeat (go_big_quiet_step (fail))
      refine wpQuiet_nil ?_
      intro w' hw'
      obtain ⟨v, rfl⟩ := hw'
      go_wp2_with fail
      clear l1 l2 sA sB sC t1 t2 t3 t4 w1 w2 w3 w4 w5 w6 w7 p0 p1 q0 q1 r0 r1
      generalize A ++ B ++ C = T at l3 ⊢
      have Hv := Lib.hid (Hb.out.trans ((HW.out.trans ((ext_below W v).mono HW.out.size)).mono hsz))
      have Hh1 := Lib.hid (Hh.out.keep (HW.out.trans ((ext_below W v).mono HW.out.size)))
      generalize ext W v = W1 at Hv Hh1 ⊢
      clear HW Hb Hh
      go_loopw [5] (fun a wr => ∃ k : Nat, k ≤ 6 ∧ a = .int .i64 k ∧ Heads wr w.heap.size ∧ Below w.heap.size w wr) (fun a _ => 6 - (intOf a).toNat)
      case atStart => exact ⟨0, by omega, rfl, Hh1.out, Hv.out⟩
      case round =>
        clear Hh1 Hv
        obtain ⟨i, hi, rfl, hh, hb⟩ := hrel
        have Hh := Lib.hid hh
        have Hb := Lib.hid hb
        have hsz := hb.size
        clear hh hb
        by_cases hlt2 : i < 6
        · go_wp2_with fail
          go_loopw [6] (fun a wr => ∃ k : Nat, k ≤ 4 ∧ a = .int .i64 k ∧ Heads wr w.heap.size ∧ Below w.heap.size w wr) (fun a _ => 4 - (intOf a).toNat)
          case atStart => exact ⟨0, by omega, rfl, Hh.out, Hb.out⟩
          case round =>
            clear Hh Hb
            obtain ⟨j, hj, rfl, hh, hb⟩ := hrel
            have Hh := Lib.hid hh
            have Hb := Lib.hid hb
            have hsz := hb.size
            clear hh hb
            by_cases hlt3 : j < 4
            · have lt := l3.out
              have sT := slice_to T j (by omega)
              have hD : (T.extract 0 j).size ≤ 3 := by simp [ByteArray.size_extract]; omega
              generalize T.extract 0 j = D at sT hD
              have hE := hdV_size i
              have c := Hh.out i hlt2
              generalize hdV i = E at hE c
              have l1 : ¬ (9223372036854775807 < E.size + D.size) := by omega
              have l2 : Hid ((E ++ D).size ≤ maxLen) := Lib.hid (by rw [ByteArray.size_append]; unfold maxLen; omega)
              have i0 : (0 : Int) ≤ (i : Int) := by omega
              have i1 : (i : Int) < 6 := by omega
              have j0 : (0 : Int) ≤ (j : Int) := by omega
              clear lt
              go_wp2_with fail
              refine wp_region_ext (by kernel_rfl) (by kernel_rfl) ?_
              intro W hW
              have HW := Lib.hid (show Below wr.heap.size wr W by rw [hW.out]; exact Below.refl _ _)
              rw [← hW.out] at c
              clear hW
              have HBW := Lib.hid (Hb.out.trans (HW.out.mono hsz))
              have e0 := ext_cell c
              repeat (go_big_quiet_step ((go_at_call 4; exact ext_of (reads_any _ _ l2.out (Ht.out.below (HBW.out.trans ((ext_below W _).mono HBW.out.size)))))))
              refine wpQuiet_nil ?_
              intro w' hw'
              obtain ⟨v, rfl⟩ := hw'
              have HV := Lib.hid (HW.out.trans ((ext_below W v).mono HW.out.size))
              clear e0 sT
              go_wp2_with fail
              exact ⟨⟨j + 1, by omega, by go_num, Hh.out.keep HV.out, Hb.out.trans (HV.out.mono hsz)⟩, by simp [intOf]; omega⟩
            · obtain rfl : j = 4 := by omega
              go_wp2_with fail
              exact ⟨⟨i + 1, by omega, by go_num, Hh.out, Hb.out⟩, by simp [intOf]; omega⟩
        · obtain rfl : i = 6 := by omega
          go_wp2_with fail
          exact ⟨⟨k + 1, by omega, by go_num, Hh.out, Hb.out⟩, by simp [intOf]; omega⟩
    · obtain rfl : k = 1331 := by omega
      clear Hh
      go_wp2_with fail
      go_loopw [7] (fun a wr => ∃ k : Nat, k ≤ 32 ∧ a = .int .i64 k ∧ Below w.heap.size w wr) (fun a _ => 32 - (intOf a).toNat)
      case atStart => exact ⟨0, by omega, rfl, Hb.out⟩
      case round =>
        clear Hb
        obtain ⟨i, hi, rfl, hb⟩ := hrel
        have Hb := Lib.hid hb
        have hsz := hb.size
        clear hb
        by_cases hlt2 : i < 32
        · obtain ⟨x, hx⟩ : ∃ x : Nat, 2 ^ i = x := ⟨_, rfl⟩
          have x0 : 1 ≤ x := by rw [← hx]; exact Nat.one_le_two_pow
          have x1 : x ≤ 2147483648 := by rw [← hx]; exact Nat.pow_le_pow_right (n := 2) (by omega) (show i ≤ 31 by omega)
          have ev : (2 : Int) ^ i % 4294967296 = (x : Int) := by
            have : (2 : Int) ^ i = ((2 ^ i : Nat) : Int) := by push_cast; rfl
            rw [this, hx]; omega
          have Hev := Lib.hid ev
          clear hx ev
          obtain ⟨a1, ha⟩ : ∃ a : Nat, 4294967295 - x = a := ⟨_, rfl⟩
          obtain ⟨b1, hb1⟩ : ∃ a : Nat, (x + x) % 4294967296 = a := ⟨_, rfl⟩
          obtain ⟨c1, hc⟩ : ∃ a : Nat, x - 1 = a := ⟨_, rfl⟩
          obtain ⟨m6, h6⟩ : ∃ a : Nat, i % 6 = a := ⟨_, rfl⟩
          obtain ⟨m4, h4⟩ : ∃ a : Nat, i % 4 = a := ⟨_, rfl⟩
          have wA : IntKind.u32.wrap (4294967295 - (x : Int)) = (a1 : Int) := by simp [IntKind.wrap, IntKind.bits, IntKind.signed]; omega
          have wB : IntKind.u32.wrap ((x : Int) + (x : Int)) = (b1 : Int) := by simp [IntKind.wrap, IntKind.bits, IntKind.signed]; omega
          have wC : IntKind.u32.wrap ((x : Int) - 1) = (c1 : Int) := by simp [IntKind.wrap, IntKind.bits, IntKind.signed]; omega
          have t6 : (i : Int).tmod 6 = (m6 : Int) := by rw [Int.tmod_eq_emod_of_nonneg (by omega)]; omega
          have t4 : (i : Int).tmod 4 = (m4 : Int) := by rw [Int.tmod_eq_emod_of_nonneg (by omega)]; omega
          have w6 : IntKind.i64.wrap (m6 : Int) = (m6 : Int) := IntWalk.i64_in _ (by omega)
          have w4 : IntKind.i64.wrap (m4 : Int) = (m4 : Int) := IntWalk.i64_in _ (by omega)
          have a0 : a1 < 4294967296 := by omega
          have b0 : b1 < 4294967296 := by omega
          have c0 : c1 < 4294967296 := by omega
          have m0 : (0 : Int) ≤ (m4 : Int) := by omega
          have m1 : (m4 : Int) < 4 := by omega
          obtain ⟨mk, hmk⟩ := make_zero i (by omega)
          have mk1 := fun W => (hmk W).1
          have Hmk := Lib.hid hmk
          have i0 : (0 : Int) ≤ (i : Int) := by omega
          have i1 : (i : Int) < 32 := by omega
          obtain ⟨sh, hsh⟩ : ∃ s : ByteArray, ⟨(showF x).toArray⟩ = s := ⟨_, rfl⟩
          have Hsh := Lib.hid hsh
          have Hsz := Lib.hid (show sh.size ≤ maxLen by rw [← hsh]; show (showF x).toArray.size ≤ maxLen; simp [showF_len]; unfold maxLen; omega)
          clear ha hb1 hc h6 h4 hmk hsh
          go_wp2_with fail
          rw [Hev.out]
          go_region_held3 (fun w' => Below wr.heap.size wr w')
            (first | assumption | exact (Below.refl _ _).drew | exact Below.grown (by assumption) (Hmk.out _).2.2 (Below.size (by assumption)) (fun k h => by cases h))
            (first
              | (go_at_call 5; first
                  | ((with_reducible refine (sums_walk0 x a1 _ (by omega) (by omega) (by omega) (Ht.out.below (Below.trans Hb.out (Below.mono (by assumption) hsz))) (HT.out.below (Below.trans Hb.out (Below.mono (by assumption) hsz)))).mono ?_); rintro e w' ⟨rfl, hb⟩; have hbS : Below wr.heap.size wr w' := Below.trans (by assumption) (Below.mono hb (Below.size (by assumption))))
                  | ((with_reducible refine (sums_walk0 a1 b1 _ (by omega) (by omega) (by omega) (Ht.out.below (Below.trans Hb.out (Below.mono (by assumption) hsz))) (HT.out.below (Below.trans Hb.out (Below.mono (by assumption) hsz)))).mono ?_); rintro e w' ⟨rfl, hb⟩; have hbS : Below wr.heap.size wr w' := Below.trans (by assumption) (Below.mono hb (Below.size (by assumption)))))
              | (go_at_call 7; refine (show_any x _ (by omega) (by omega) (Ht.out.below (Below.trans Hb.out (Below.mono (by assumption) hsz)))).mono ?_; rw [Hsh.out]; rintro e w' ⟨rfl, hb⟩; have hbS : Below wr.heap.size wr w' := Below.trans (by assumption) (Below.mono hb (Below.size (by assumption))))
              | (go_at_call 6; refine (reads_walk sh c1 _ Hsz.out (u32_wf (by omega) (by omega)) (Ht.out.below (Below.trans Hb.out (Below.mono (by assumption) hsz)))).mono ?_; rintro e w' ⟨rfl, hb⟩; have hbS : Below wr.heap.size wr w' := Below.trans (by assumption) (Below.mono hb (Below.size (by assumption))))
              | (go_at_call 9; refine (bytes_row x 4 (by omega) rfl _).mono ?_; rintro e w' ⟨ax, cx, rfl, hox, hb⟩; obtain ⟨gx, rfl⟩ := KitBytes.r_some hox (.inl (by omega)); have hbS : Below wr.heap.size wr w' := Below.trans (by assumption) (Below.mono hb (Below.size (by assumption))))
              | (go_at_call 8; first
                  | ((with_reducible refine (parts_any c1 _ gx 4 cx (bK x 4) _ (by omega) (bK_wf _ _) (bK_row hox)).mono ?_); rintro e w' ⟨rfl, hb⟩; have hbS : Below wr.heap.size wr w' := Below.trans (by assumption) (Below.mono hb (Below.size (by assumption))))
                  | ((with_reducible refine (parts_any x _ _ i i (List.replicate i 0) _ (by omega) (zero_wf _) (Hmk.out _).2.1).mono ?_); rintro e w' ⟨rfl, hb⟩; have hbS : Below wr.heap.size wr w' := Below.trans (by assumption) (Below.mono hb (Below.size (by assumption))))))
          all_goals
            rename_i hH
            have HH := Lib.hid (Hb.out.trans (Below.mono hH hsz))
            clear hH mk1 wA wB wC t6 t4 w6 w4 m0 m1
            go_wp2_with fail
            first
              | exact ⟨⟨i + 1, by omega, by go_num, HH.out⟩, by simp [intOf]; omega⟩
              | (refine ⟨?_, by simp [intOf]; omega⟩
                 (repeat apply Exists.intro)
                 exact ⟨⟨i + 1, by omega, by go_num, HH.out⟩, rfl⟩)
        · obtain rfl : i = 32 := by omega
          go_wp2_with fail
          have T0 := ten_new wr
          have B0 := Hb.out.alloc hsz (.cells #[.int .i64 (-9223372036854775808), .int .i64 (-1), .int .i64 0, .int .i64 1, .int .i64 2, .int .i64 3, .int .i64 4, .int .i64 5, .int .i64 8, .int .i64 9223372036854775807] 3)
          have HT0 := Lib.hid T0
          have HB0 := Lib.hid B0
          clear T0 B0 Hb
          obtain ⟨G, hG⟩ : ∃ G, wr.heap.size = G := ⟨_, rfl⟩
          rw [hG] at HT0
          rw [hG]
          have HG := Lib.hid hG
          clear hG
          go_loopw [10] (fun a wr => ∃ k : Nat, k ≤ 10 ∧ a = .int .i64 k ∧ Ten wr G ∧ Below w.heap.size w wr) (fun a _ => 10 - (intOf a).toNat)
          case atStart => exact ⟨0, by omega, rfl, HT0.out, HB0.out⟩
          case round =>
            clear HT0 HB0
            obtain ⟨j, hj, rfl, h10, hb⟩ := hrel
            have H10 := Lib.hid h10
            have Hb := Lib.hid hb
            have hsz := hb.size
            clear hb h10
            by_cases hlt3 : j < 10
            · have c := H10.out j hlt3
              generalize e10 j = z at c
              have j0 : (0 : Int) ≤ (j : Int) := by omega
              have j1 : (j : Int) < 10 := by omega
              go_wp2_with fail
              refine (parts_nil 4275878552 z _ (by omega)).mono ?_
              rintro e w1 ⟨rfl, hb⟩
              have H2 := Lib.hid (H10.out.keep hb)
              have Hb2 := Lib.hid (Hb.out.trans (hb.mono hsz))
              clear hb c
              go_wp2_with fail
              first
                | exact ⟨⟨j + 1, by omega, by go_num, H2.out, Hb2.out⟩, by simp [intOf]; omega⟩
                | (refine ⟨?_, by simp [intOf]; omega⟩
                   (repeat apply Exists.intro)
                   exact ⟨⟨j + 1, by omega, by go_num, H2.out, Hb2.out⟩, rfl⟩)
            · obtain rfl : j = 10 := by omega
              go_wp2_with fail
              refine (sums_walk0 0 0 _ (by omega) (by omega) (by omega) (Ht.out.below Hb.out) (HT.out.below Hb.out)).mono ?_
              rintro e w1 ⟨rfl, hb⟩
              have Hb2 := Lib.hid (Hb.out.trans (hb.mono hsz))
              clear hb
              go_wp2_with fail
              refine (awake_any _ (Ht.out.below Hb2.out)).mono ?_
              rintro e w2 ⟨rfl, hb⟩
              have Hb3 := Lib.hid (Hb2.out.trans (hb.mono Hb2.out.size))
              clear hb
              go_wp2_with fail
              go_ret
              exact ⟨rfl, Hb3.out⟩
end Go.Proofs.YteahocaogkhddaaDoor.Word
