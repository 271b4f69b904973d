/- The chapter's example of engines. -/
import Derived.Test.YthpkebcedaakhaaDg
namespace Go.Proofs.Ythpkebcedaakhaa.Dma
open Go.RowKit Go.Maps Fifo Orow
set_option linter.unusedVariables false

theorem Write_b (B b : Nat) (s : En) (O : Nat → Prop) (reg v : Int) (w : World) (h1 : I64 reg) (h2 : 0 ≤ v ∧ v < 4294967296) (h : Eng w b s O) (hB : ∀ j, O j → B ≤ j) (hBw : B ≤ w.heap.size) :
    Calls Try.prog 14 #[.pointer (some ⟨b, 0, none⟩), .int .i64 reg, .int .u32 v] w fun e w' => e = .returned (.tuple #[]) ∧ Below B w w' ∧ ∃ O', Eng w' b (writeE s reg v) O' ∧ ∀ j, O' j → B ≤ j := by
  refine (Write_any b s O reg v w h1 h2 h).mono ?_
  rintro e w' ⟨rfl, O', k1, k2, k3⟩
  exact ⟨rfl, k2.below hBw hB, O', k1, fun j hj => (k3 j hj).elim (hB j) (fun e => by omega)⟩
theorem ex_s : writeE (writeE (writeE (writeE zeroE 0 16) 1 32) 2 1) 3 1 = ⟨16, 32, 1, 0, false, true, false, false, false⟩ := by simp [writeE, ctrlE, zeroE]
theorem ex_t1 : toldE ⟨16, 32, 1, 0, false, true, false, false, false⟩ 7 0 = ⟨20, 32, 1, 7, true, true, false, false, false⟩ := by simp [toldE, plus4]
theorem ex_t2 : toldE ⟨20, 32, 1, 7, true, true, false, false, false⟩ 7 0 = ⟨20, 36, 0, 0, false, false, false, true, false⟩ := by simp [toldE, plus4]
theorem ex_o : writeE zeroE 3 1 = ⟨0, 0, 0, 0, false, false, false, true, false⟩ := by simp [writeE, ctrlE, zeroE]
set_option maxHeartbeats 2000000 in
theorem awake_any (w : World) : Calls Try.prog 7 #[] w fun e w' => e = .returned (.bool true) ∧ Below w.heap.size w w' := by
  have hmf : ∀ w f r c, (Instr.makeFunc (.func f) r c).run Try.prog w = .ok (.func (.func f) r c) w := fun w f r c => rfl
  have i64 : ∀ x : Int, 0 ≤ x → x ≤ 100 → I64 x := fun x h1 h2 => ⟨by omega, by omega⟩
  obtain ⟨B, hB⟩ : ∃ B, w.heap.size = B := ⟨_, rfl⟩
  have HB := Lib.hid hB
  have B0 := Lib.hid (show Below B w w from Below.refl _ _)
  have sz : ∀ W, Below B w W → B ≤ W.heap.size := fun W h => by have := h.size; have := HB.out; omega
  have SZ := Lib.hid sz
  clear hB sz
  go_enter Try.func7, Try.ntmps7
  go_wp2_with fail
  refine (New_any w).mono ?_
  rintro e w1 ⟨⟨b, O, rfl, hm, hO⟩, hb1⟩
  have B1 := Lib.hid (show Below B w w1 by rw [← HB.out]; exact hb1)
  have T1 := Lib.hid hm
  have K1 := Lib.hid (show ∀ j, O j → B ≤ j from fun j hj => by have := hO j hj; have := HB.out; omega)
  clear hb1 hm hO
  go_wp2_with fail
  refine (Write_b B b _ _ 0 16 w1 (i64 _ (by omega) (by omega)) ⟨by omega, by omega⟩ T1.out K1.out (SZ.out _ B1.out)).mono ?_
  rintro e w2 ⟨rfl, hb, O2, h1, h2⟩
  have B2 := Lib.hid (B1.out.trans hb)
  have T2 := Lib.hid h1
  have K2 := Lib.hid h2
  clear hb h1 h2
  go_wp2_with fail
  refine (Write_b B b _ _ 1 32 w2 (i64 _ (by omega) (by omega)) ⟨by omega, by omega⟩ T2.out K2.out (SZ.out _ B2.out)).mono ?_
  rintro e w3 ⟨rfl, hb, O3, h1, h2⟩
  have B3 := Lib.hid (B2.out.trans hb)
  have T3 := Lib.hid h1
  have K3 := Lib.hid h2
  clear hb h1 h2
  go_wp2_with fail
  refine (Write_b B b _ _ 2 1 w3 (i64 _ (by omega) (by omega)) ⟨by omega, by omega⟩ T3.out K3.out (SZ.out _ B3.out)).mono ?_
  rintro e w4 ⟨rfl, hb, O4, h1, h2⟩
  have B4 := Lib.hid (B3.out.trans hb)
  have T4 := Lib.hid h1
  have K4 := Lib.hid h2
  clear hb h1 h2
  go_wp2_with fail
  refine (Write_b B b _ _ 3 1 w4 (i64 _ (by omega) (by omega)) ⟨by omega, by omega⟩ T4.out K4.out (SZ.out _ B4.out)).mono ?_
  rintro e w5 ⟨rfl, hb, O5, h1, h2⟩
  have B5 := Lib.hid (B4.out.trans hb)
  have T5 := Lib.hid h1
  have K5 := Lib.hid h2
  clear hb h1 h2
  rw [ex_s] at T5
  obtain ⟨p, hp⟩ : ∃ p, w5.heap.size = p := ⟨_, rfl⟩
  have HP := Lib.hid hp
  go_wp2_with fail
  refine calls_letter ?_
  intro W hW
  have BW := Lib.hid (show Below w5.heap.size w5 W by rw [hW.out]; exact (Below.refl _ _).alloc (Nat.le_refl _) _)
  have LW := Lib.hid (show LogA W p 0 [] (.slice none 0 0) from ⟨by rw [hW.out, ← HP.out]; exact Blk.new w5 _ _, World.ownsRow_nil _ _ _ _⟩)
  have B6 := Lib.hid (B5.out.trans (BW.out.mono (SZ.out _ B5.out)))
  have T6 := Lib.hid (T5.out.keep BW.out)
  have hBp : B ≤ p := by rw [← hp]; exact SZ.out _ B5.out
  have D6 := Lib.hid (show ∀ j, j = p ∨ PB (.slice none 0 0) j → ¬ O5 j from fun j hj o => by
    have := T5.out.lt j o
    rcases hj with rfl | hj
    · omega
    · simp [PB, Value.ownBlock] at hj)
  have HBp := Lib.hid hBp
  clear hW hp BW hBp B1 B2 B3 B4 B5 T1 T2 T3 T4 T5 K1 K2 K3 K4
  refine (Step_log B b p 0 _ O5 [] _ W (by omega) rfl T6.out LW.out D6.out K5.out HBp.out (SZ.out _ B6.out)).mono ?_
  rintro e w7 ⟨rfl, hb, O7, v7, h1, h2, h3, h4⟩
  rw [ex_t1] at h1
  have B7 := Lib.hid (B6.out.trans hb)
  have T7 := Lib.hid h1
  have L7 := Lib.hid h2
  have D7 := Lib.hid h3
  have K7 := Lib.hid h4
  clear hb h1 h2 h3 h4
  go_wp2_with fail
  refine (Step_log B b p 1 _ O7 _ v7 w7 (by omega) rfl T7.out L7.out D7.out K7.out HBp.out (SZ.out _ B7.out)).mono ?_
  rintro e w8 ⟨rfl, hb, O8, v8, h1, h2, h3, h4⟩
  rw [ex_t2] at h1
  have B8 := Lib.hid (B7.out.trans hb)
  have T8 := Lib.hid h1
  have L8 := Lib.hid (show LogA w8 p 2 (accL 1 false 16 4 0 ++ accL 1 true 32 4 7) v8 from h2)
  have K8 := Lib.hid h4
  clear hb h1 h2 h3 h4 L7 D7 K7 T7 B7 LW D6 T6 K5 B6
  go_wp2_with fail
  refine (Step_idle b _ O8 1 _ w8 (i64 _ (by omega) (by omega)) T8.out (.inr ⟨rfl, _, _, _, rfl⟩)).mono ?_
  rintro e w9 ⟨rfl, hb⟩
  have B9 := Lib.hid (B8.out.trans (hb.mono (SZ.out _ B8.out)))
  have T9 := Lib.hid (T8.out.keep hb)
  have L9 := Lib.hid (L8.out.keep hb)
  clear hb T8 L8 B8
  go_wp2_with fail
  refine (New_any w9).mono ?_
  rintro e w10 ⟨⟨q, Oq, rfl, hm, hO⟩, hb⟩
  have B10 := Lib.hid (B9.out.trans (hb.mono (SZ.out _ B9.out)))
  have T10 := Lib.hid (T9.out.keep hb)
  have L10 := Lib.hid (L9.out.keep hb)
  have Q10 := Lib.hid hm
  have X10 := Lib.hid (show ∀ j, Oq j → w9.heap.size ≤ j from hO)
  have S9 := Lib.hid (show w9.heap.size ≤ w10.heap.size from hb.size)
  have M9 := Lib.hid (show (∀ j, j = p ∨ PB v8 j → j < w9.heap.size) ∧ ∀ j, O8 j → j < w9.heap.size from ⟨fun j hj => hj.elim (fun e => by rw [e]; exact L9.out.cell.lt) (fun e => (pb_own_lt L9.out.row j e).2), T9.out.lt⟩)
  clear hb hm hO T9 L9
  go_wp2_with fail
  refine (Write_any q _ Oq 3 1 w10 (i64 _ (by omega) (by omega)) ⟨by omega, by omega⟩ Q10.out).mono ?_
  rintro e w11 ⟨rfl, Or, h1, h2, h3⟩
  rw [ex_o] at h1
  have B11 := Lib.hid (B10.out.trans (h2.below (SZ.out _ B10.out) (fun j hj => Nat.le_trans (SZ.out _ B9.out) (X10.out j hj))))
  have T11 := Lib.hid (T10.out.only h2 (fun j hj o => by have := M9.out.2 j hj; have := X10.out j o; omega))
  have L11 := Lib.hid (L10.out.only h2 (fun j hj o => by have := M9.out.1 j hj; have := X10.out j o; omega))
  have Q11 := Lib.hid h1
  clear h1 h2 h3 T10 L10 Q10 B10 X10 S9 M9
  obtain ⟨a8, c8, rfl, hle, _⟩ := own_shape L11.out.row
  obtain ⟨g, rfl⟩ := own_some L11.out.row (.inl (by omega))
  have cl := fun W (hb : Below w11.heap.size w11 W) => own_cells (L11.out.keep hb).row ⟨g, 0, none⟩ rfl
  have CL := Lib.hid (show ∀ W, Below w11.heap.size w11 W → ∀ j u, (accL 1 false 16 4 0 ++ accL 1 true 32 4 7)[j]? = some u → W.cell? ⟨g, j, none⟩ = some u from fun W hb j u hu => by
    have := own_cells (L11.out.keep hb).row _ rfl j u hu
    rwa [Go.WideShapes.add_plain, Nat.zero_add] at this)
  have r := Below.refl w11.heap.size w11
  have s0 := CL.out w11 r 0 _ rfl
  have s1 := CL.out w11 r 1 _ rfl
  have s2 := CL.out w11 r 2 _ rfl
  have s3 := CL.out w11 r 3 _ rfl
  have s4 := CL.out w11 r 4 _ rfl
  have s5 := CL.out w11 r 5 _ rfl
  have s6 := CL.out w11 r 6 _ rfl
  have s7 := CL.out w11 r 7 _ rfl
  have s8 := CL.out w11 r 8 _ rfl
  have s9 := CL.out w11 r 9 _ rfl
  have sp := L11.out.cell.at 0 rfl
  clear cl r
  have r1 : readE ⟨20, 36, 0, 0, false, false, false, true, false⟩ 3 = 4 := by simp [readE, bitV]
  have r2 : readE ⟨0, 0, 0, 0, false, false, false, true, false⟩ 3 = 4 := by simp [readE, bitV]
  have RA := Lib.hid (fun W h => Read_any b _ O8 3 W (i64 _ (by omega) (by omega)) (T11.out.keep h))
  have RB := Lib.hid (fun W h => Read_any q _ Or 3 W (i64 _ (by omega) (by omega)) (Q11.out.keep h))
  simp only [r1] at RA
  simp only [r2] at RB
  clear r1 r2
  go_wp2_with fail
  refine (RA.out w11 (Below.refl _ _)).mono ?_
  rintro e w12 ⟨rfl, hb⟩
  have HB12 := Lib.hid hb
  have B12 := Lib.hid (B11.out.trans (hb.mono (SZ.out _ B11.out)))
  clear hb s0 s1 s2 s3 s4 s5 s6 s7 s8 s9 sp
  go_wp2_with fail
  refine (RB.out w12 HB12.out).mono ?_
  rintro e w13 ⟨rfl, hb⟩
  have B13 := Lib.hid (B12.out.trans (hb.mono (SZ.out _ B12.out)))
  clear hb
  go_wp2_with fail
  go_ret
  exact ⟨rfl, by rw [HB.out]; exact B13.out⟩
end Go.Proofs.Ythpkebcedaakhaa.Dma
