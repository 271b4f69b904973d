/- The chapter's example: awake. -/
import Derived.Test.YtmkponhhinjpkaaGreatTk
import Derived.Test.YtmkponhhinjpkaaGreatTr
import Derived.Test.YtmkponhhinjpkaaGreatTl
namespace Go.Proofs.YtmkponhhinjpkaaGreat.Table
open Go.RowKit Fifo Go.Maps Go.ChangeShapes Go.WideShapes Go.ChangeAt Go.Proofs.YtmkponhhinjpkaaGreat.Access
set_option linter.unusedVariables false

def exD : List Rg := [⟨true, 1, 0, 4095, true, true, 1, false⟩, ⟨true, 1, 256, 511, true, false, 2, false⟩]
theorem example_any (w : World) : Calls Tryz.prog 17 #[] w fun e w' => e = .returned (.slice (some ⟨w.heap.size, 0, none⟩) 2 2) ∧ RowG w' (some ⟨w.heap.size, 0, none⟩) 2 exD ∧ Below w.heap.size w w' := by
  have B := Lib.hid (Blk.new w 37 (flG exD))
  have HL := Lib.hid ((Below.refl w.heap.size w).alloc (Nat.le_refl _) (.cells (flG exD).toArray 37))
  go_enter Tryz.func17, Tryz.ntmps17
  go_wp2_with fail
  go_ret
  exact ⟨rfl, rowG_of_own rfl (own_of_blk (B := w.heap.size) B.out rfl (Nat.le_refl _) (by unfold maxLen; omega)), HL.out⟩
theorem example_at (w : World) : Calls Tryz.prog 17 #[] w fun e w' => ∃ g, e = .returned (.slice (some ⟨g, 0, none⟩) 2 2) ∧ RowG w' (some ⟨g, 0, none⟩) 2 exD ∧ Below w.heap.size w w' :=
  (example_any w).mono fun e w' h => ⟨_, h⟩
theorem ex_map : (mapL exD 1).length = 2 := by
  have ht : tabB exD = true := by decide
  unfold mapL
  rw [if_pos ht, ← rnums_fst, List.length_map, rnums_length (tabB_iff.1 ht)]
  decide
theorem ex_d1 : (dec exD ⟨1, true, 256, 4, 0⟩).getD 0 = 1 ∧ (dec exD ⟨1, true, 256, 4, 0⟩).isSome = true := by decide
theorem ex_d2 : (dec exD ⟨1, true, 252, 4, 0⟩).getD 0 = 0 ∧ (dec exD ⟨1, true, 252, 4, 0⟩).isSome = true := by decide
theorem ex_m1 : may exD ⟨1, true, 256, 4, 0⟩ = false := by decide
theorem ex_m2 : may exD ⟨1, true, 252, 4, 0⟩ = true := by decide
theorem ex_s : setE exD 2 ⟨true, 2, 2048, 2303, false, false, 0, false⟩ = 13 ∧ setR exD 2 ⟨true, 2, 2048, 2303, false, false, 0, false⟩ = [] := by decide
set_option maxRecDepth 100000 in
set_option maxHeartbeats 4000000 in
theorem awake_any (w : World) : Calls Tryz.prog 6 #[] w fun e w' => e = .returned (.bool true) ∧ Below w.heap.size w w' := by
  go_enter Tryz.func6, Tryz.ntmps6
  go_wp2_with fail
  refine code_letter ?_
  intro X hX
  obtain ⟨b0, hb0⟩ : ∃ b0, w.heap.size = b0 := ⟨_, rfl⟩
  have BX := Lib.hid (show Below w.heap.size w X by rw [hX.out]; exact (Below.refl _ _).alloc (Nat.le_refl _) _)
  have F1 := Lib.hid (show Five X b0 1 true 256 4 0 by rw [hX.out, ← hb0]; exact five_new w 1 true 256 4 0 25)
  clear hX
  have a0 := load_below (B := 0) F1.out.c0
  have a1 := load_below (B := 0) F1.out.c1
  have a2 := load_below (B := 0) F1.out.c2
  have a3 := load_below (B := 0) F1.out.c3
  have a4 := load_below (B := 0) F1.out.c4
  go_region_held3 (fun w' => Below X.heap.size X w')
    (first | assumption | exact (Below.refl _ _).drew)
    (first | (go_at_call 17; refine (example_at _).mono ?_; rintro e w' ⟨g, rfl, hr, hb⟩; have hbS : Below X.heap.size X w' := Below.trans (by assumption) (Below.mono hb (Below.size (by assumption)))) | (go_at_call 16; refine (Decides_any _ 2 2 exD 1 true 256 4 0 1 true _ (by omega) (by omega) (by omega) (by omega) (by omega) (by omega) (by assumption) ex_d1.1 ex_d1.2).mono ?_; rintro e w' ⟨rfl, hb⟩; have hbS : Below X.heap.size X w' := Below.trans (by assumption) (Below.mono hb (Below.size (by assumption)))))
  have BB := Lib.hid (BX.out.trans (hbS.mono BX.out.size))
  have G1 := Lib.hid (F1.out.keep hbS)
  clear hr a0 a1 a2 a3 a4 F1 BX
  go_wp2_with fail
  obtain ⟨b1, hb1⟩ : ∃ b1, w'.heap.size = b1 := ⟨_, rfl⟩
  rw [hb1]
  refine code_letter ?_
  intro Y hY
  have BY := Lib.hid (show Below w.heap.size w Y by rw [hY.out]; exact BB.out.alloc BB.out.size _)
  have F1 := Lib.hid (show Five Y b0 1 true 256 4 0 by rw [hY.out]; exact G1.out.alloc _)
  have F2 := Lib.hid (show Five Y b1 1 true 252 4 0 by rw [hY.out, ← hb1]; exact five_new w' 1 true 252 4 0 25)
  clear hY hbS hb BB G1
  have a0 := load_below (B := 0) F2.out.c0
  have a1 := load_below (B := 0) F2.out.c1
  have a2 := load_below (B := 0) F2.out.c2
  have a3 := load_below (B := 0) F2.out.c3
  have a4 := load_below (B := 0) F2.out.c4
  go_region_held3 (fun w' => Below Y.heap.size Y w')
    (first | assumption | exact (Below.refl _ _).drew)
    (first | (go_at_call 17; refine (example_at _).mono ?_; rintro e w' ⟨g, rfl, hr, hb⟩; have hbS : Below Y.heap.size Y w' := Below.trans (by assumption) (Below.mono hb (Below.size (by assumption)))) | (go_at_call 16; refine (Decides_any _ 2 2 exD 1 true 252 4 0 0 true _ (by omega) (by omega) (by omega) (by omega) (by omega) (by omega) (by assumption) ex_d2.1 ex_d2.2).mono ?_; rintro e w' ⟨rfl, hb⟩; have hbS : Below Y.heap.size Y w' := Below.trans (by assumption) (Below.mono hb (Below.size (by assumption)))))
  have BB := Lib.hid (BY.out.trans (hbS.mono BY.out.size))
  have G1 := Lib.hid (F1.out.keep hbS)
  have G2 := Lib.hid (F2.out.keep hbS)
  clear hr a0 a1 a2 a3 a4 F1 F2 BY hbS hb
  go_wp2_with fail
  refine (example_any _).mono ?_
  rintro e w3 ⟨rfl, hr, hb⟩
  have hb' := hb
  have B3 := Lib.hid (BB.out.trans (hb.mono BB.out.size))
  have F1 := Lib.hid (G1.out.keep hb)
  have F2 := Lib.hid (G2.out.keep hb)
  have Hr3 := Lib.hid hr
  clear hb hb' hr BB G1 G2
  go_wp2_with fail
  refine (Set_any _ 2 2 exD 2 true 2 2048 2303 false false 0 false 13 [] _ (by omega) (by omega) Hr3.out ex_s.1 ex_s.2).mono ?_
  rintro e w4 ⟨v, rfl, hv, hb⟩
  obtain ⟨av, cv, hve, _⟩ := ok_shape hv
  subst hve
  have B4 := Lib.hid (B3.out.trans (hb.mono B3.out.size))
  have G1 := Lib.hid (F1.out.keep hb)
  have G2 := Lib.hid (F2.out.keep hb)
  clear hb hv Hr3 B3 F1 F2
  go_wp2_with fail
  refine code_letter ?_
  intro Z hZ
  obtain rfl := hZ.out
  clear hZ
  have a0 := load_below (B := 0) G1.out.c0
  have a1 := load_below (B := 0) G1.out.c1
  have a2 := load_below (B := 0) G1.out.c2
  have a3 := load_below (B := 0) G1.out.c3
  have a4 := load_below (B := 0) G1.out.c4
  have c0 := load_below (B := 0) G2.out.c0
  have c1 := load_below (B := 0) G2.out.c1
  have c2 := load_below (B := 0) G2.out.c2
  have c3 := load_below (B := 0) G2.out.c3
  have c4 := load_below (B := 0) G2.out.c4
  go_region_held3 (fun w' => Below Z.heap.size Z w')
    (first | assumption | exact (Below.refl _ _).drew)
    (first
      | (go_at_call 17; refine (example_at _).mono ?_; rintro e w' ⟨g, rfl, hr, hb⟩; have hbS : Below Z.heap.size Z w' := Below.trans (by assumption) (Below.mono hb (Below.size (by assumption))))
      | (go_at_call 19; with_reducible refine (May_any _ 2 2 exD 1 true 256 4 0 false _ (by omega) (by omega) (by omega) (by omega) (by omega) (by omega) (by assumption) ex_m1).mono ?_; rintro e w' ⟨rfl, hb⟩; have hbS : Below Z.heap.size Z w' := Below.trans (by assumption) (Below.mono hb (Below.size (by assumption))))
      | (go_at_call 19; with_reducible refine (May_any _ 2 2 exD 1 true 252 4 0 true _ (by omega) (by omega) (by omega) (by omega) (by omega) (by omega) (by assumption) ex_m2).mono ?_; rintro e w' ⟨rfl, hb⟩; have hbS : Below Z.heap.size Z w' := Below.trans (by assumption) (Below.mono hb (Below.size (by assumption))))
      | (go_at_call 8; refine (Map_any _ 2 2 exD 1 _ (by omega) (by omega) (by assumption)).mono ?_; rintro e w' ⟨v, rfl, ho, hb⟩; rw [ex_map] at ho; obtain ⟨am, cm, hvm, _⟩ := ok_shape ho; subst hvm; have hbS : Below Z.heap.size Z w' := Below.trans (by assumption) (Below.mono hb (Below.size (by assumption)))))
  have B9 := Lib.hid (B4.out.trans (hbS.mono B4.out.size))
  clear hbS
  go_wp2_with fail
  go_ret
  exact ⟨rfl, B9.out⟩
end Go.Proofs.YtmkponhhinjpkaaGreat.Table
