/- The kit's bag: asked whether all lie apart, where the kind Regions alone has lists. -/
import Derived.Test.YtmkponhhinjpkaaGreatBa
namespace Go.Proofs.YtmkponhhinjpkaaGreat.Kit
open Go.RowKit
set_option linter.unusedVariables false

set_option maxRecDepth 100000 in
set_option maxHeartbeats 1000000 in
theorem apart_Regions (S : Nat → Prop) (B : Nat) (v : Value) (w : World) (hB : ¬ S B)
    (hflat : ∀ W, Below w.heap.size w W → Calls Tryz.prog 64 #[v] W fun e w' => e = .returned (.bool true) ∧ Only S W w')
    (hc : ∀ i, i < 17 → w.cell? ⟨B, i, none⟩ = some (if i = 10 then v else .slice none 0 0)) :
    Calls Tryz.prog 32 #[.pointer (some ⟨B, 0, none⟩)] w fun e w' => e = .returned (.bool true) ∧ Only S w w' := by
  have HF := Lib.hid hflat
  have HC := Lib.hid hc
  have HB := Lib.hid hB
  clear hflat hc hB
  have HO0 := Lib.hid (Only.refl S w)
  have HL0 := Lib.hid (Below.refl w.heap.size w)
  have c0 : w.cell? ⟨B, 0, none⟩ = some (.slice none 0 0) := HO0.out.cell (p := ⟨B, 0, none⟩) HB.out (HC.out 0 (by omega))
  go_enter Tryz.func32, Tryz.ntmps32
  go_wp2_with fail
  refine (flatLimbs_nil _).mono ?_
  rintro e w1 ⟨rfl, hb⟩
  have HO1 := Lib.hid (HO0.out.trans (Only.of_below hb))
  have HL1 := Lib.hid (HL0.out.trans (hb.mono HL0.out.size))
  clear hb c0
  have c1 : w1.cell? ⟨B, 1, none⟩ = some (.slice none 0 0) := HO1.out.cell (p := ⟨B, 1, none⟩) HB.out (HC.out 1 (by omega))
  go_wp2_with fail
  refine (flatWords_nil _).mono ?_
  rintro e w2 ⟨rfl, hb⟩
  have HO2 := Lib.hid (HO1.out.trans (Only.of_below hb))
  have HL2 := Lib.hid (HL1.out.trans (hb.mono HL1.out.size))
  clear hb c1
  have c2 : w2.cell? ⟨B, 2, none⟩ = some (.slice none 0 0) := HO2.out.cell (p := ⟨B, 2, none⟩) HB.out (HC.out 2 (by omega))
  go_wp2_with fail
  refine (flatInts_nil _).mono ?_
  rintro e w3 ⟨rfl, hb⟩
  have HO3 := Lib.hid (HO2.out.trans (Only.of_below hb))
  have HL3 := Lib.hid (HL2.out.trans (hb.mono HL2.out.size))
  clear hb c2
  have c3 : w3.cell? ⟨B, 3, none⟩ = some (.slice none 0 0) := HO3.out.cell (p := ⟨B, 3, none⟩) HB.out (HC.out 3 (by omega))
  go_wp2_with fail
  refine (flatLongs_nil _).mono ?_
  rintro e w4 ⟨rfl, hb⟩
  have HO4 := Lib.hid (HO3.out.trans (Only.of_below hb))
  have HL4 := Lib.hid (HL3.out.trans (hb.mono HL3.out.size))
  clear hb c3
  have c4 : w4.cell? ⟨B, 4, none⟩ = some (.slice none 0 0) := HO4.out.cell (p := ⟨B, 4, none⟩) HB.out (HC.out 4 (by omega))
  go_wp2_with fail
  refine (flatTexts_nil _).mono ?_
  rintro e w5 ⟨rfl, hb⟩
  have HO5 := Lib.hid (HO4.out.trans (Only.of_below hb))
  have HL5 := Lib.hid (HL4.out.trans (hb.mono HL4.out.size))
  clear hb c4
  have c5 : w5.cell? ⟨B, 5, none⟩ = some (.slice none 0 0) := HO5.out.cell (p := ⟨B, 5, none⟩) HB.out (HC.out 5 (by omega))
  go_wp2_with fail
  refine (flatBytes_nil _).mono ?_
  rintro e w6 ⟨rfl, hb⟩
  have HO6 := Lib.hid (HO5.out.trans (Only.of_below hb))
  have HL6 := Lib.hid (HL5.out.trans (hb.mono HL5.out.size))
  clear hb c5
  have c6 : w6.cell? ⟨B, 6, none⟩ = some (.slice none 0 0) := HO6.out.cell (p := ⟨B, 6, none⟩) HB.out (HC.out 6 (by omega))
  go_wp2_with fail
  refine (flatTruths_nil _).mono ?_
  rintro e w7 ⟨rfl, hb⟩
  have HO7 := Lib.hid (HO6.out.trans (Only.of_below hb))
  have HL7 := Lib.hid (HL6.out.trans (hb.mono HL6.out.size))
  clear hb c6
  have c7 : w7.cell? ⟨B, 7, none⟩ = some (.slice none 0 0) := HO7.out.cell (p := ⟨B, 7, none⟩) HB.out (HC.out 7 (by omega))
  go_wp2_with fail
  refine (flatReaches_nil _).mono ?_
  rintro e w8 ⟨rfl, hb⟩
  have HO8 := Lib.hid (HO7.out.trans (Only.of_below hb))
  have HL8 := Lib.hid (HL7.out.trans (hb.mono HL7.out.size))
  clear hb c7
  have c8 : w8.cell? ⟨B, 8, none⟩ = some (.slice none 0 0) := HO8.out.cell (p := ⟨B, 8, none⟩) HB.out (HC.out 8 (by omega))
  go_wp2_with fail
  refine (flatAccesses_nil _).mono ?_
  rintro e w9 ⟨rfl, hb⟩
  have HO9 := Lib.hid (HO8.out.trans (Only.of_below hb))
  have HL9 := Lib.hid (HL8.out.trans (hb.mono HL8.out.size))
  clear hb c8
  have c9 : w9.cell? ⟨B, 9, none⟩ = some (.slice none 0 0) := HO9.out.cell (p := ⟨B, 9, none⟩) HB.out (HC.out 9 (by omega))
  go_wp2_with fail
  refine (flatReplies_nil _).mono ?_
  rintro e w10 ⟨rfl, hb⟩
  have HO10 := Lib.hid (HO9.out.trans (Only.of_below hb))
  have HL10 := Lib.hid (HL9.out.trans (hb.mono HL9.out.size))
  clear hb c9
  have c10 : w10.cell? ⟨B, 10, none⟩ = some v := HO10.out.cell (p := ⟨B, 10, none⟩) HB.out (HC.out 10 (by omega))
  go_wp2_with fail
  refine (HF.out _ HL10.out).mono ?_
  rintro e w11 ⟨rfl, ho⟩
  have HO11 := Lib.hid (HO10.out.trans ho)
  clear ho c10
  have c11 : w11.cell? ⟨B, 11, none⟩ = some (.slice none 0 0) := HO11.out.cell (p := ⟨B, 11, none⟩) HB.out (HC.out 11 (by omega))
  go_wp2_with fail
  refine (flatDevices_nil _).mono ?_
  rintro e w12 ⟨rfl, hb⟩
  have HO12 := Lib.hid (HO11.out.trans (Only.of_below hb))
  clear hb c11
  have c12 : w12.cell? ⟨B, 12, none⟩ = some (.slice none 0 0) := HO12.out.cell (p := ⟨B, 12, none⟩) HB.out (HC.out 12 (by omega))
  go_wp2_with fail
  refine (flatHolds_nil _).mono ?_
  rintro e w13 ⟨rfl, hb⟩
  have HO13 := Lib.hid (HO12.out.trans (Only.of_below hb))
  clear hb c12
  have c13 : w13.cell? ⟨B, 13, none⟩ = some (.slice none 0 0) := HO13.out.cell (p := ⟨B, 13, none⟩) HB.out (HC.out 13 (by omega))
  go_wp2_with fail
  refine (flatConfs_nil _).mono ?_
  rintro e w14 ⟨rfl, hb⟩
  have HO14 := Lib.hid (HO13.out.trans (Only.of_below hb))
  clear hb c13
  have c14 : w14.cell? ⟨B, 14, none⟩ = some (.slice none 0 0) := HO14.out.cell (p := ⟨B, 14, none⟩) HB.out (HC.out 14 (by omega))
  go_wp2_with fail
  refine (flatProgram_nil _).mono ?_
  rintro e w15 ⟨rfl, hb⟩
  have HO15 := Lib.hid (HO14.out.trans (Only.of_below hb))
  clear hb c14
  have c15 : w15.cell? ⟨B, 15, none⟩ = some (.slice none 0 0) := HO15.out.cell (p := ⟨B, 15, none⟩) HB.out (HC.out 15 (by omega))
  go_wp2_with fail
  refine (flatInputs_nil _).mono ?_
  rintro e w16 ⟨rfl, hb⟩
  have HO16 := Lib.hid (HO15.out.trans (Only.of_below hb))
  clear hb c15
  have c16 : w16.cell? ⟨B, 16, none⟩ = some (.slice none 0 0) := HO16.out.cell (p := ⟨B, 16, none⟩) HB.out (HC.out 16 (by omega))
  go_wp2_with fail
  refine (flatEvents_nil _).mono ?_
  rintro e w17 ⟨rfl, hb⟩
  have HO17 := Lib.hid (HO16.out.trans (Only.of_below hb))
  clear hb c16
  go_wp2_with fail
  go_ret
  exact ⟨rfl, HO17.out⟩
end Go.Proofs.YtmkponhhinjpkaaGreat.Kit
