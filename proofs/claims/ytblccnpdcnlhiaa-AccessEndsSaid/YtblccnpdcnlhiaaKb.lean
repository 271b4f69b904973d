/- The kit's bag: asked whether all lie apart, where one kind alone has lists. -/
import Derived.Test.YtblccnpdcnlhiaaKa
namespace Go.Proofs.Ytblccnpdcnlhiaa.Kit
open Go.RowKit
set_option linter.unusedVariables false

/-- Of what was there nothing has turned but the blocks that S names. -/
structure Only (S : Nat → Prop) (w w' : World) : Prop where
  os : w'.os = w.os
  tape : w'.tape = w.tape
  output : w'.output = w.output
  size : w.heap.size ≤ w'.heap.size
  block : ∀ k, k < w.heap.size → ¬ S k → w'.heap[k]? = w.heap[k]?
theorem Only.refl (S : Nat → Prop) (w : World) : Only S w w := ⟨rfl, rfl, rfl, Nat.le_refl _, fun _ _ _ => rfl⟩
theorem Only.trans {S : Nat → Prop} {a b c : World} (h : Only S a b) (k : Only S b c) : Only S a c :=
  ⟨k.os.trans h.os, k.tape.trans h.tape, k.output.trans h.output, Nat.le_trans h.size k.size, fun i hi hn => (k.block i (Nat.lt_of_lt_of_le hi h.size) hn).trans (h.block i hi hn)⟩
theorem Only.of_below {S : Nat → Prop} {w w' : World} (h : Below w.heap.size w w') : Only S w w' := ⟨h.os, h.tape, h.output, h.size, fun k hk _ => h.block k hk⟩
theorem Only.below {S : Nat → Prop} {B : Nat} {w w' : World} (h : Only S w w') (hB : B ≤ w.heap.size) (hS : ∀ k, S k → B ≤ k) : Below B w w' :=
  ⟨h.os, h.tape, h.output, h.size, fun k hk => h.block k (by omega) (fun hs => by have := hS k hs; omega)⟩
theorem Only.cell {S : Nat → Prop} {w w' : World} (h : Only S w w') {p : Addr} {v : Value} (hn : ¬ S p.block) (hc : w.cell? p = some v) : w'.cell? p = some v := by
  rw [World.cell?_of_block (w := w) (h.block p.block (World.block_lt_of_cell? w _ hc) hn)]
  exact hc
theorem Only.mono {S T : Nat → Prop} {w w' : World} (h : Only S w w') (hs : ∀ k, k < w.heap.size → S k → T k) : Only T w w' :=
  ⟨h.os, h.tape, h.output, h.size, fun k hk hn => h.block k hk (fun hS => hn (hs k hk hS))⟩

set_option maxRecDepth 100000 in
set_option maxHeartbeats 1000000 in
theorem apart_Ints (S : Nat → Prop) (B : Nat) (v : Value) (w : World) (hB : ¬ S B)
    (hflat : ∀ W, Below w.heap.size w W → Calls Try.prog 55 #[v] W fun e w' => e = .returned (.bool true) ∧ Only S W w')
    (hc : ∀ i, i < 17 → w.cell? ⟨B, i, none⟩ = some (if i = 2 then v else .slice none 0 0)) :
    Calls Try.prog 39 #[.pointer (some ⟨B, 0, none⟩)] w fun e w' => e = .returned (.bool true) ∧ Only S w w' := by
  have HF := Lib.hid hflat
  have HC := Lib.hid hc
  have HB := Lib.hid hB
  clear hflat hc hB
  have HO0 := Lib.hid (Only.refl S w)
  have HL0 := Lib.hid (Below.refl w.heap.size w)
  have c0 : w.cell? ⟨B, 0, none⟩ = some (.slice none 0 0) := HO0.out.cell (p := ⟨B, 0, none⟩) HB.out (HC.out 0 (by omega))
  go_enter Try.func39, Try.ntmps39
  go_wp2_with fail
  refine (flatLimbs_nil _).mono ?_
  rintro e w1 ⟨rfl, hb⟩
  have HO1 := Lib.hid (HO0.out.trans (Only.of_below hb))
  have HL1 := Lib.hid (HL0.out.trans (hb.mono HL0.out.size))
  clear hb c0
  have c1 : w1.cell? ⟨B, 1, none⟩ = some (.slice none 0 0) := HO1.out.cell (p := ⟨B, 1, none⟩) HB.out (HC.out 1 (by omega))
  go_wp2_with fail
  refine (flatWords_nil _).mono ?_
  rintro e w2 ⟨rfl, hb⟩
  have HO2 := Lib.hid (HO1.out.trans (Only.of_below hb))
  have HL2 := Lib.hid (HL1.out.trans (hb.mono HL1.out.size))
  clear hb c1
  have c2 : w2.cell? ⟨B, 2, none⟩ = some v := HO2.out.cell (p := ⟨B, 2, none⟩) HB.out (HC.out 2 (by omega))
  go_wp2_with fail
  refine (HF.out _ HL2.out).mono ?_
  rintro e w3 ⟨rfl, ho⟩
  have HO3 := Lib.hid (HO2.out.trans ho)
  clear ho c2
  have c3 : w3.cell? ⟨B, 3, none⟩ = some (.slice none 0 0) := HO3.out.cell (p := ⟨B, 3, none⟩) HB.out (HC.out 3 (by omega))
  go_wp2_with fail
  refine (flatLongs_nil _).mono ?_
  rintro e w4 ⟨rfl, hb⟩
  have HO4 := Lib.hid (HO3.out.trans (Only.of_below hb))
  clear hb c3
  have c4 : w4.cell? ⟨B, 4, none⟩ = some (.slice none 0 0) := HO4.out.cell (p := ⟨B, 4, none⟩) HB.out (HC.out 4 (by omega))
  go_wp2_with fail
  refine (flatTexts_nil _).mono ?_
  rintro e w5 ⟨rfl, hb⟩
  have HO5 := Lib.hid (HO4.out.trans (Only.of_below hb))
  clear hb c4
  have c5 : w5.cell? ⟨B, 5, none⟩ = some (.slice none 0 0) := HO5.out.cell (p := ⟨B, 5, none⟩) HB.out (HC.out 5 (by omega))
  go_wp2_with fail
  refine (flatBytes_nil _).mono ?_
  rintro e w6 ⟨rfl, hb⟩
  have HO6 := Lib.hid (HO5.out.trans (Only.of_below hb))
  clear hb c5
  have c6 : w6.cell? ⟨B, 6, none⟩ = some (.slice none 0 0) := HO6.out.cell (p := ⟨B, 6, none⟩) HB.out (HC.out 6 (by omega))
  go_wp2_with fail
  refine (flatTruths_nil _).mono ?_
  rintro e w7 ⟨rfl, hb⟩
  have HO7 := Lib.hid (HO6.out.trans (Only.of_below hb))
  clear hb c6
  have c7 : w7.cell? ⟨B, 7, none⟩ = some (.slice none 0 0) := HO7.out.cell (p := ⟨B, 7, none⟩) HB.out (HC.out 7 (by omega))
  go_wp2_with fail
  refine (flatReaches_nil _).mono ?_
  rintro e w8 ⟨rfl, hb⟩
  have HO8 := Lib.hid (HO7.out.trans (Only.of_below hb))
  clear hb c7
  have c8 : w8.cell? ⟨B, 8, none⟩ = some (.slice none 0 0) := HO8.out.cell (p := ⟨B, 8, none⟩) HB.out (HC.out 8 (by omega))
  go_wp2_with fail
  refine (flatAccesses_nil _).mono ?_
  rintro e w9 ⟨rfl, hb⟩
  have HO9 := Lib.hid (HO8.out.trans (Only.of_below hb))
  clear hb c8
  have c9 : w9.cell? ⟨B, 9, none⟩ = some (.slice none 0 0) := HO9.out.cell (p := ⟨B, 9, none⟩) HB.out (HC.out 9 (by omega))
  go_wp2_with fail
  refine (flatReplies_nil _).mono ?_
  rintro e w10 ⟨rfl, hb⟩
  have HO10 := Lib.hid (HO9.out.trans (Only.of_below hb))
  clear hb c9
  have c10 : w10.cell? ⟨B, 10, none⟩ = some (.slice none 0 0) := HO10.out.cell (p := ⟨B, 10, none⟩) HB.out (HC.out 10 (by omega))
  go_wp2_with fail
  refine (flatRegions_nil _).mono ?_
  rintro e w11 ⟨rfl, hb⟩
  have HO11 := Lib.hid (HO10.out.trans (Only.of_below hb))
  clear hb c10
  have c11 : w11.cell? ⟨B, 11, none⟩ = some (.slice none 0 0) := HO11.out.cell (p := ⟨B, 11, none⟩) HB.out (HC.out 11 (by omega))
  go_wp2_with fail
  refine (flatDevices_nil _).mono ?_
  rintro e w12 ⟨rfl, hb⟩
  have HO12 := Lib.hid (HO11.out.trans (Only.of_below hb))
  clear hb c11
  have c12 : w12.cell? ⟨B, 12, none⟩ = some (.slice none 0 0) := HO12.out.cell (p := ⟨B, 12, none⟩) HB.out (HC.out 12 (by omega))
  go_wp2_with fail
  refine (flatHolds_nil _).mono ?_
  rintro e w13 ⟨rfl, hb⟩
  have HO13 := Lib.hid (HO12.out.trans (Only.of_below hb))
  clear hb c12
  have c13 : w13.cell? ⟨B, 13, none⟩ = some (.slice none 0 0) := HO13.out.cell (p := ⟨B, 13, none⟩) HB.out (HC.out 13 (by omega))
  go_wp2_with fail
  refine (flatConfs_nil _).mono ?_
  rintro e w14 ⟨rfl, hb⟩
  have HO14 := Lib.hid (HO13.out.trans (Only.of_below hb))
  clear hb c13
  have c14 : w14.cell? ⟨B, 14, none⟩ = some (.slice none 0 0) := HO14.out.cell (p := ⟨B, 14, none⟩) HB.out (HC.out 14 (by omega))
  go_wp2_with fail
  refine (flatProgram_nil _).mono ?_
  rintro e w15 ⟨rfl, hb⟩
  have HO15 := Lib.hid (HO14.out.trans (Only.of_below hb))
  clear hb c14
  have c15 : w15.cell? ⟨B, 15, none⟩ = some (.slice none 0 0) := HO15.out.cell (p := ⟨B, 15, none⟩) HB.out (HC.out 15 (by omega))
  go_wp2_with fail
  refine (flatInputs_nil _).mono ?_
  rintro e w16 ⟨rfl, hb⟩
  have HO16 := Lib.hid (HO15.out.trans (Only.of_below hb))
  clear hb c15
  have c16 : w16.cell? ⟨B, 16, none⟩ = some (.slice none 0 0) := HO16.out.cell (p := ⟨B, 16, none⟩) HB.out (HC.out 16 (by omega))
  go_wp2_with fail
  refine (flatEvents_nil _).mono ?_
  rintro e w17 ⟨rfl, hb⟩
  have HO17 := Lib.hid (HO16.out.trans (Only.of_below hb))
  clear hb c16
  go_wp2_with fail
  go_ret
  exact ⟨rfl, HO17.out⟩

set_option maxRecDepth 100000 in
set_option maxHeartbeats 1000000 in
theorem apart_Bytes (S : Nat → Prop) (B : Nat) (v : Value) (w : World) (hB : ¬ S B)
    (hflat : ∀ W, Below w.heap.size w W → Calls Try.prog 58 #[v] W fun e w' => e = .returned (.bool true) ∧ Only S W w')
    (hc : ∀ i, i < 17 → w.cell? ⟨B, i, none⟩ = some (if i = 5 then v else .slice none 0 0)) :
    Calls Try.prog 39 #[.pointer (some ⟨B, 0, none⟩)] w fun e w' => e = .returned (.bool true) ∧ Only S w w' := by
  have HF := Lib.hid hflat
  have HC := Lib.hid hc
  have HB := Lib.hid hB
  clear hflat hc hB
  have HO0 := Lib.hid (Only.refl S w)
  have HL0 := Lib.hid (Below.refl w.heap.size w)
  have c0 : w.cell? ⟨B, 0, none⟩ = some (.slice none 0 0) := HO0.out.cell (p := ⟨B, 0, none⟩) HB.out (HC.out 0 (by omega))
  go_enter Try.func39, Try.ntmps39
  go_wp2_with fail
  refine (flatLimbs_nil _).mono ?_
  rintro e w1 ⟨rfl, hb⟩
  have HO1 := Lib.hid (HO0.out.trans (Only.of_below hb))
  have HL1 := Lib.hid (HL0.out.trans (hb.mono HL0.out.size))
  clear hb c0
  have c1 : w1.cell? ⟨B, 1, none⟩ = some (.slice none 0 0) := HO1.out.cell (p := ⟨B, 1, none⟩) HB.out (HC.out 1 (by omega))
  go_wp2_with fail
  refine (flatWords_nil _).mono ?_
  rintro e w2 ⟨rfl, hb⟩
  have HO2 := Lib.hid (HO1.out.trans (Only.of_below hb))
  have HL2 := Lib.hid (HL1.out.trans (hb.mono HL1.out.size))
  clear hb c1
  have c2 : w2.cell? ⟨B, 2, none⟩ = some (.slice none 0 0) := HO2.out.cell (p := ⟨B, 2, none⟩) HB.out (HC.out 2 (by omega))
  go_wp2_with fail
  refine (flatInts_nil _).mono ?_
  rintro e w3 ⟨rfl, hb⟩
  have HO3 := Lib.hid (HO2.out.trans (Only.of_below hb))
  have HL3 := Lib.hid (HL2.out.trans (hb.mono HL2.out.size))
  clear hb c2
  have c3 : w3.cell? ⟨B, 3, none⟩ = some (.slice none 0 0) := HO3.out.cell (p := ⟨B, 3, none⟩) HB.out (HC.out 3 (by omega))
  go_wp2_with fail
  refine (flatLongs_nil _).mono ?_
  rintro e w4 ⟨rfl, hb⟩
  have HO4 := Lib.hid (HO3.out.trans (Only.of_below hb))
  have HL4 := Lib.hid (HL3.out.trans (hb.mono HL3.out.size))
  clear hb c3
  have c4 : w4.cell? ⟨B, 4, none⟩ = some (.slice none 0 0) := HO4.out.cell (p := ⟨B, 4, none⟩) HB.out (HC.out 4 (by omega))
  go_wp2_with fail
  refine (flatTexts_nil _).mono ?_
  rintro e w5 ⟨rfl, hb⟩
  have HO5 := Lib.hid (HO4.out.trans (Only.of_below hb))
  have HL5 := Lib.hid (HL4.out.trans (hb.mono HL4.out.size))
  clear hb c4
  have c5 : w5.cell? ⟨B, 5, none⟩ = some v := HO5.out.cell (p := ⟨B, 5, none⟩) HB.out (HC.out 5 (by omega))
  go_wp2_with fail
  refine (HF.out _ HL5.out).mono ?_
  rintro e w6 ⟨rfl, ho⟩
  have HO6 := Lib.hid (HO5.out.trans ho)
  clear ho c5
  have c6 : w6.cell? ⟨B, 6, none⟩ = some (.slice none 0 0) := HO6.out.cell (p := ⟨B, 6, none⟩) HB.out (HC.out 6 (by omega))
  go_wp2_with fail
  refine (flatTruths_nil _).mono ?_
  rintro e w7 ⟨rfl, hb⟩
  have HO7 := Lib.hid (HO6.out.trans (Only.of_below hb))
  clear hb c6
  have c7 : w7.cell? ⟨B, 7, none⟩ = some (.slice none 0 0) := HO7.out.cell (p := ⟨B, 7, none⟩) HB.out (HC.out 7 (by omega))
  go_wp2_with fail
  refine (flatReaches_nil _).mono ?_
  rintro e w8 ⟨rfl, hb⟩
  have HO8 := Lib.hid (HO7.out.trans (Only.of_below hb))
  clear hb c7
  have c8 : w8.cell? ⟨B, 8, none⟩ = some (.slice none 0 0) := HO8.out.cell (p := ⟨B, 8, none⟩) HB.out (HC.out 8 (by omega))
  go_wp2_with fail
  refine (flatAccesses_nil _).mono ?_
  rintro e w9 ⟨rfl, hb⟩
  have HO9 := Lib.hid (HO8.out.trans (Only.of_below hb))
  clear hb c8
  have c9 : w9.cell? ⟨B, 9, none⟩ = some (.slice none 0 0) := HO9.out.cell (p := ⟨B, 9, none⟩) HB.out (HC.out 9 (by omega))
  go_wp2_with fail
  refine (flatReplies_nil _).mono ?_
  rintro e w10 ⟨rfl, hb⟩
  have HO10 := Lib.hid (HO9.out.trans (Only.of_below hb))
  clear hb c9
  have c10 : w10.cell? ⟨B, 10, none⟩ = some (.slice none 0 0) := HO10.out.cell (p := ⟨B, 10, none⟩) HB.out (HC.out 10 (by omega))
  go_wp2_with fail
  refine (flatRegions_nil _).mono ?_
  rintro e w11 ⟨rfl, hb⟩
  have HO11 := Lib.hid (HO10.out.trans (Only.of_below hb))
  clear hb c10
  have c11 : w11.cell? ⟨B, 11, none⟩ = some (.slice none 0 0) := HO11.out.cell (p := ⟨B, 11, none⟩) HB.out (HC.out 11 (by omega))
  go_wp2_with fail
  refine (flatDevices_nil _).mono ?_
  rintro e w12 ⟨rfl, hb⟩
  have HO12 := Lib.hid (HO11.out.trans (Only.of_below hb))
  clear hb c11
  have c12 : w12.cell? ⟨B, 12, none⟩ = some (.slice none 0 0) := HO12.out.cell (p := ⟨B, 12, none⟩) HB.out (HC.out 12 (by omega))
  go_wp2_with fail
  refine (flatHolds_nil _).mono ?_
  rintro e w13 ⟨rfl, hb⟩
  have HO13 := Lib.hid (HO12.out.trans (Only.of_below hb))
  clear hb c12
  have c13 : w13.cell? ⟨B, 13, none⟩ = some (.slice none 0 0) := HO13.out.cell (p := ⟨B, 13, none⟩) HB.out (HC.out 13 (by omega))
  go_wp2_with fail
  refine (flatConfs_nil _).mono ?_
  rintro e w14 ⟨rfl, hb⟩
  have HO14 := Lib.hid (HO13.out.trans (Only.of_below hb))
  clear hb c13
  have c14 : w14.cell? ⟨B, 14, none⟩ = some (.slice none 0 0) := HO14.out.cell (p := ⟨B, 14, none⟩) HB.out (HC.out 14 (by omega))
  go_wp2_with fail
  refine (flatProgram_nil _).mono ?_
  rintro e w15 ⟨rfl, hb⟩
  have HO15 := Lib.hid (HO14.out.trans (Only.of_below hb))
  clear hb c14
  have c15 : w15.cell? ⟨B, 15, none⟩ = some (.slice none 0 0) := HO15.out.cell (p := ⟨B, 15, none⟩) HB.out (HC.out 15 (by omega))
  go_wp2_with fail
  refine (flatInputs_nil _).mono ?_
  rintro e w16 ⟨rfl, hb⟩
  have HO16 := Lib.hid (HO15.out.trans (Only.of_below hb))
  clear hb c15
  have c16 : w16.cell? ⟨B, 16, none⟩ = some (.slice none 0 0) := HO16.out.cell (p := ⟨B, 16, none⟩) HB.out (HC.out 16 (by omega))
  go_wp2_with fail
  refine (flatEvents_nil _).mono ?_
  rintro e w17 ⟨rfl, hb⟩
  have HO17 := Lib.hid (HO16.out.trans (Only.of_below hb))
  clear hb c16
  go_wp2_with fail
  go_ret
  exact ⟨rfl, HO17.out⟩
end Go.Proofs.Ytblccnpdcnlhiaa.Kit
