/- The walk of TimerEnds. -/
import Derived.Test.YthfckoemldhoaaaNf
namespace Go.Proofs.Ythfckoemldhoaaa.Timer
open Go.RowKit Go.Maps Go.ChangeShapes Go.WideShapes Go.ChangeAt Fifo Orow Word
set_option linter.unusedVariables false

def endL : List Value := [.int .u32 0, .int .u32 1, .int .u32 2, .int .u32 4294967294, .int .u32 4294967295]
theorem end_at {i : Nat} (h : i < 5) : ∃ z, endL[i]? = some (.int .u32 z) ∧ 0 ≤ z ∧ z < 4294967296 := by
  match i, h with
  | 0, _ => exact ⟨_, rfl, by omega⟩
  | 1, _ => exact ⟨_, rfl, by omega⟩
  | 2, _ => exact ⟨_, rfl, by omega⟩
  | 3, _ => exact ⟨_, rfl, by omega⟩
  | 4, _ => exact ⟨_, rfl, by omega⟩
def dsL (n : Nat) : List Dd := [⟨2, 0, 1, 0⟩, ⟨2, 0, 1, 0⟩, ⟨2, 0, 1, 0⟩, ⟨0, (n : Int) % 12 - 2, 0, n⟩, ⟨2, 0, 3, 0⟩, ⟨0, 3, 0, 1⟩, ⟨0, 2, 0, 4294967295⟩, ⟨2, 0, 2, 0⟩]
theorem ok_mk {p q r s : Int} (h1 : I64 p) (h2 : I64 q) (h3 : I64 r) (h4 : 0 ≤ s ∧ s < 4294967296) : okDd ⟨p, q, r, s⟩ := ⟨h1, h2, h3, h4⟩
theorem ds_ok (n : Nat) (hn : n < 125) : ∀ j, j < (dsL n).length → okDd (dsL n)[j]! := by
  intro j hj
  have hj : j < 8 := hj
  have h : j = 0 ∨ j = 1 ∨ j = 2 ∨ j = 3 ∨ j = 4 ∨ j = 5 ∨ j = 6 ∨ j = 7 := by omega
  rcases h with rfl | rfl | rfl | rfl | rfl | rfl | rfl | rfl
  · exact (ok_mk (by unfold I64; omega) (by unfold I64; omega) (by unfold I64; omega) (by omega) : okDd ⟨2, 0, 1, 0⟩)
  · exact (ok_mk (by unfold I64; omega) (by unfold I64; omega) (by unfold I64; omega) (by omega) : okDd ⟨2, 0, 1, 0⟩)
  · exact (ok_mk (by unfold I64; omega) (by unfold I64; omega) (by unfold I64; omega) (by omega) : okDd ⟨2, 0, 1, 0⟩)
  · exact (ok_mk (by unfold I64; omega) (by unfold I64; omega) (by unfold I64; omega) (by omega) : okDd ⟨0, (n : Int) % 12 - 2, 0, (n : Int)⟩)
  · exact (ok_mk (by unfold I64; omega) (by unfold I64; omega) (by unfold I64; omega) (by omega) : okDd ⟨2, 0, 3, 0⟩)
  · exact (ok_mk (by unfold I64; omega) (by unfold I64; omega) (by unfold I64; omega) (by omega) : okDd ⟨0, 3, 0, 1⟩)
  · exact (ok_mk (by unfold I64; omega) (by unfold I64; omega) (by unfold I64; omega) (by omega) : okDd ⟨0, 2, 0, 4294967295⟩)
  · exact (ok_mk (by unfold I64; omega) (by unfold I64; omega) (by unfold I64; omega) (by omega) : okDd ⟨2, 0, 2, 0⟩)
theorem ds_row (w : World) (n : Nat) (hn : n < 125) : RowDd (w.alloc (.cells #[.int .i64 2, .int .i64 0, .int .i64 1, .int .u32 0, .int .i64 2, .int .i64 0, .int .i64 1, .int .u32 0, .int .i64 2, .int .i64 0, .int .i64 1, .int .u32 0, .int .i64 0, .int .i64 ((n : Int) % 12 - 2), .int .i64 0, .int .u32 (n : Int), .int .i64 2, .int .i64 0, .int .i64 3, .int .u32 0, .int .i64 0, .int .i64 3, .int .i64 0, .int .u32 1, .int .i64 0, .int .i64 2, .int .i64 0, .int .u32 4294967295, .int .i64 2, .int .i64 0, .int .i64 2, .int .u32 0] 33)) (some ⟨w.heap.size, 0, none⟩) 8 (dsL n) := rowDd_new w (dsL n) _ (ds_ok n hn)
def lastL : List Dd := [⟨0, -9223372036854775808, 0, 1⟩, ⟨0, 9223372036854775807, 0, 1⟩]
theorem last_ok : ∀ j, j < lastL.length → okDd lastL[j]! := by
  intro j hj
  have hj : j < 2 := hj
  have h : j = 0 ∨ j = 1 := by omega
  rcases h with rfl | rfl <;> exact ⟨by decide, by decide, by decide, by decide⟩
theorem last_row (w : World) : RowDd (w.alloc (.cells #[.int .i64 0, .int .i64 (-9223372036854775808), .int .i64 0, .int .u32 1, .int .i64 0, .int .i64 9223372036854775807, .int .i64 0, .int .u32 1] 33)) (some ⟨w.heap.size, 0, none⟩) 2 lastL := rowDd_new w lastL _ last_ok
set_option maxRecDepth 100000 in
set_option maxHeartbeats 8000000 in
theorem ends_walk (w : World) : Calls Try.prog 4 #[] w fun e w' => e = .returned (.bool true) ∧ Below w.heap.size w w' := by
  go_enter Try.func4, Try.ntmps4
  go_wp2_with fail
  obtain ⟨s1, hs1⟩ : ∃ s, w.heap.size = s := ⟨_, rfl⟩
  rw [hs1]
  refine code_letter ?_
  intro W hW
  have CS := Lib.hid (show Blk W s1 22 endL by rw [hW.out, ← hs1]; exact Blk.new w 22 endL)
  have BW := Lib.hid (show Below w.heap.size w W by rw [hW.out]; exact (Below.refl _ _).alloc (Nat.le_refl _) _)
  clear hW hs1
  go_loopw [2] (fun i wr => ∃ i' : Nat, i' ≤ 125 ∧ i = .int .i64 i' ∧ Below W.heap.size W wr) (fun i _ => 125 - (intOf i).toNat)
  case atStart => exact ⟨0, by omega, rfl, Below.refl _ _⟩
  case round =>
  obtain ⟨i, hi, rfl, hb⟩ := hrel
  obtain ⟨v1, rfl⟩ : ∃ V : World, V = wr := ⟨_, rfl⟩
  have Hb := Lib.hid hb
  have CS1 := Lib.hid (CS.out.keep hb)
  clear hb
  by_cases hlt : i < 125
  · have u0 : decide ((i : Int) < 125) = true := decide_eq_true (by omega)
    go_wp2_with fail
    go_loopw [3] (fun k wr => ∃ (k' : Nat), k' ≤ 9 ∧ k = .int .u32 k' ∧ Below v1.heap.size v1 wr) (fun k _ => 9 - (intOf k).toNat)
    case atStart => exact ⟨0, by omega, rfl, Below.refl _ _⟩
    case round =>
    obtain ⟨k, hk, rfl, hb⟩ := hrel
    obtain ⟨v2, rfl⟩ : ∃ V : World, V = wr := ⟨_, rfl⟩
    have Hb1 := Lib.hid hb
    clear hb
    by_cases hlk : k < 9
    · have u1 : decide ((k : Int) < 9) = true := decide_eq_true (by omega)
      obtain ⟨z1, hz1, hy1⟩ := end_at (i := i % 5) (by omega)
      obtain ⟨z2, hz2, hy2⟩ := end_at (i := i / 5 % 5) (by omega)
      obtain ⟨z3, hz3, hy3⟩ := end_at (i := i / 25) (by omega)
      have q1 := (CS1.out.keep Hb1.out).at _ hz1
      have q2 := (CS1.out.keep Hb1.out).at _ hz2
      have q3 := (CS1.out.keep Hb1.out).at _ hz3
      have b1 : (0 : Int) ≤ (i : Int) % 5 := by omega
      have b2 : (i : Int) % 5 < 5 := by omega
      have b3 : (0 : Int) ≤ (i : Int) / 5 % 5 := by omega
      have b4 : (i : Int) / 5 % 5 < 5 := by omega
      have b5 : (0 : Int) ≤ (i : Int) / 25 := by omega
      have b6 : (i : Int) / 25 < 5 := by omega
      have hyy := Lib.hid (And.intro hy1 (And.intro hy2 hy3))
      have Hba := ((Below.refl v2.heap.size v2).alloc (Nat.le_refl _) (.cells #[.int .u32 0, .int .u32 0, .int .u32 0, .int .u32 0] 24)).drew
      have r1 := cell_keep Hba q1
      have r2 := cell_keep Hba q2
      have r3 := cell_keep Hba q3
      clear hz1 hz2 hz3 hy1 hy2 hy3 Hba
      go_wp2_with fail
      go_region
      clear b1 b2 b3 b4 b5 b6 r1 r2 r3 q1 q2 q3
      obtain ⟨g, hg⟩ : ∃ g, v2.heap.size = g := ⟨_, rfl⟩
      rw [hg]
      refine exit_letter ?_
      intro X hX
      have AX := Lib.hid (show AtS X g ⟨z1, z2, (k : Int), z3⟩ by rw [hX.out, ← hg]; exact (AtS.of (Blk.new v2 _ _)).keep (Below.refl _ _).drew)
      have hs2 := Hb1.out.size
      have BX := Lib.hid (show Below v1.heap.size v1 X by rw [hX.out]; exact Hb1.out.trans (((Below.refl _ _).alloc (Nat.le_refl _) _).drew.mono hs2))
      have hsk : OkS ⟨z1, z2, (k : Int), z3⟩ := ⟨hyy.out.1, hyy.out.2.1, by show (0 : Int) ≤ k ∧ (k : Int) < _; omega, hyy.out.2.2⟩
      have Hsk := Lib.hid hsk
      have hal := (Below.refl X.heap.size X).alloc (Nat.le_refl _) (.cells #[.int .i64 2, .int .i64 0, .int .i64 1, .int .u32 0, .int .i64 2, .int .i64 0, .int .i64 1, .int .u32 0, .int .i64 2, .int .i64 0, .int .i64 1, .int .u32 0, .int .i64 0, .int .i64 ((i : Int) % 12 - 2), .int .i64 0, .int .u32 (i : Int), .int .i64 2, .int .i64 0, .int .i64 3, .int .u32 0, .int .i64 0, .int .i64 3, .int .i64 0, .int .u32 1, .int .i64 0, .int .i64 2, .int .i64 0, .int .u32 4294967295, .int .i64 2, .int .i64 0, .int .i64 2, .int .u32 0] 33)
      obtain ⟨a0, a1, a2, a3⟩ := AX.out.keep hal
      have hs3 := BX.out.size
      have BA := Lib.hid (BX.out.trans (hal.mono hs3))
      have HR := Lib.hid (ds_row X i hlt)
      clear hX hg hs2 hsk hyy Hb1 hal hs3
      have m0 : (0 : Int) ≤ (i : Int) := by omega
      go_wp2_with fail
      refine (does_any ⟨z1, z2, (k : Int), z3⟩ _ 8 8 (dsL i) _ Hsk.out HR.out).mono ?_
      rintro e w5 ⟨rfl, hb5⟩
      have hs4 := BA.out.size
      have B5 := Lib.hid (BA.out.trans (hb5.mono hs4))
      clear hb5 hs4 BA BX a0 a1 a2 a3 HR Hsk AX
      go_wp2_with fail
      exact ⟨⟨k + 1, by omega, by go_num, B5.out⟩, by simp [intOf]; omega⟩
    · have H9 := Lib.hid (show k = 9 by omega)
      have u1 : decide ((k : Int) < 9) = false := decide_eq_false (by omega)
      go_wp2_with fail
      exact ⟨⟨i + 1, by omega, by go_num, Hb.out.trans (Hb1.out.mono Hb.out.size)⟩, by simp [intOf]; omega⟩
  · have H13 := Lib.hid (show i = 125 by omega)
    have u0 : decide ((i : Int) < 125) = false := decide_eq_false (by omega)
    clear hlt hi
    go_wp2_with fail
    have hsw := BW.out.size
    have B0 := Lib.hid (BW.out.trans (Hb.out.mono hsw))
    refine (does_any ⟨0, 0, 0, 0⟩ _ 2 2 lastL _ ⟨by show (0 : Int) ≤ 0 ∧ (0 : Int) < _; omega, by show (0 : Int) ≤ 0 ∧ (0 : Int) < _; omega, by show (0 : Int) ≤ 0 ∧ (0 : Int) < _; omega, by show (0 : Int) ≤ 0 ∧ (0 : Int) < _; omega⟩ (last_row v1)).mono ?_
    rintro e w2 ⟨rfl, hb⟩
    have hs0 := B0.out.size
    have hal := B0.out.alloc hs0 (.cells #[.int .i64 0, .int .i64 (-9223372036854775808), .int .i64 0, .int .u32 1, .int .i64 0, .int .i64 9223372036854775807, .int .i64 0, .int .u32 1] 33)
    have hs1' := hal.size
    have B2 := Lib.hid (hal.trans (hb.mono hs1'))
    clear hb hal hs1' hs0 hsw
    go_wp2_with fail
    refine (New_any w2).mono ?_
    rintro e w3 ⟨⟨b, O, rfl, hT, -⟩, hb⟩
    have hs0 := B2.out.size
    have B3 := Lib.hid (B2.out.trans (hb.mono hs0))
    have T3 := Lib.hid hT
    clear hb hT hs0
    go_wp2_with fail
    refine (State_any b zeroS O w3 T3.out).mono ?_
    rintro e w4 ⟨rfl, hb⟩
    have hs0 := B3.out.size
    have B4 := Lib.hid (B3.out.trans (hb.mono hs0))
    clear hb hs0 T3 B3 B2 B0 Hb CS1 CS BW
    unfold stv zeroS
    go_wp2_with fail
    obtain ⟨zb, hzb⟩ : ∃ s, w4.heap.size = s := ⟨_, rfl⟩
    rw [hzb]
    refine code_letter ?_
    intro V hV
    have hzl : (w4.alloc (.cells zeroCells 45)).heap.size = zb + 1 := by simp [hzb]
    have NV := Lib.hid (show Non V (.pointer (some ⟨zb, 0, none⟩)) by
      refine .inr ⟨zb, rfl, ?_⟩
      rw [hV.out, ← hzb]
      exact (zero_new w4).keep ((Below.refl _ _).alloc (Nat.le_refl _) _))
    have CP := Lib.hid (show Blk V (zb + 1) 27 [.pointer none, .pointer (some ⟨zb, 0, none⟩)] by
      rw [hV.out, ← hzl]
      exact Blk.new (w4.alloc (.cells zeroCells 45)) 27 [.pointer none, .pointer (some ⟨zb, 0, none⟩)])
    have BV := Lib.hid (show Below w.heap.size w V by
      have h1 := B4.out
      rw [hV.out]
      exact (h1.alloc h1.size _).alloc (by have := h1.size; simp; omega) _)
    clear hV hzl hzb B4
    go_loopw [7] (fun i wr => ∃ i' : Nat, i' ≤ 2 ∧ i = .int .i64 i' ∧ Below V.heap.size V wr) (fun i _ => 2 - (intOf i).toNat)
    case atStart => exact ⟨0, by omega, rfl, Below.refl _ _⟩
    case round =>
    obtain ⟨k, hk, rfl, hb⟩ := hrel
    have Hb := Lib.hid hb
    clear hb
    by_cases hlk : k < 2
    · have u1 : decide ((k : Int) < 2) = true := decide_eq_true (by omega)
      obtain ⟨v, hv, hN⟩ : ∃ v, [Value.pointer none, .pointer (some ⟨zb, 0, none⟩)][k]? = some v ∧ Non V v := by
        have : k = 0 ∨ k = 1 := by omega
        rcases this with rfl | rfl
        · exact ⟨_, rfl, .inl rfl⟩
        · exact ⟨_, rfl, NV.out⟩
      have q0 := (CP.out.keep Hb.out).at k hv
      have q1 : (0 : Int) ≤ (k : Int) := by omega
      have q2 : (k : Int) < 2 := by omega
      have HN := Lib.hid (hN.keep Hb.out)
      have i0' : I64 0 := ⟨by omega, by omega⟩
      have i2' : I64 2 := ⟨by omega, by omega⟩
      have hsz : V.heap.size ≤ wr.heap.size := Hb.out.size
      clear hv hN
      go_wp2_with fail
      refine (Write_non v 0 1 wr i0' (by omega) HN.out).mono ?_
      rintro e y1 ⟨rfl, hb⟩
      have B1 := Lib.hid hb
      have N1 := Lib.hid (HN.out.keep hb)
      clear hb
      go_wp2_with fail
      refine (Write_non v 2 3 y1 i2' (by omega) N1.out).mono ?_
      rintro e y2 ⟨rfl, hb⟩
      have B2 := Lib.hid (B1.out.trans (hb.mono B1.out.size))
      have N2 := Lib.hid (N1.out.keep hb)
      clear hb
      go_wp2_with fail
      refine (Tick_non v y2 N2.out).mono ?_
      rintro e y3 ⟨rfl, hb⟩
      have B3 := Lib.hid (B2.out.trans (hb.mono B2.out.size))
      have N3 := Lib.hid (N2.out.keep hb)
      clear hb
      go_wp2_with fail
      refine (Read_non v 0 y3 i0' N3.out).mono ?_
      rintro e y4 ⟨rfl, hb⟩
      have B4 := Lib.hid (B3.out.trans (hb.mono B3.out.size))
      have N4 := Lib.hid (N3.out.keep hb)
      clear hb
      go_wp2_with fail
      refine (Read_non v 2 y4 i2' N4.out).mono ?_
      rintro e y5 ⟨rfl, hb⟩
      have B5 := Lib.hid (B4.out.trans (hb.mono B4.out.size))
      have N5 := Lib.hid (N4.out.keep hb)
      clear hb
      go_wp2_with fail
      refine (Line_non v y5 N5.out).mono ?_
      rintro e y6 ⟨rfl, hb⟩
      have B6 := Lib.hid (B5.out.trans (hb.mono B5.out.size))
      have N6 := Lib.hid (N5.out.keep hb)
      clear hb
      go_wp2_with fail
      refine (State_non v y6 N6.out).mono ?_
      rintro e y7 ⟨rfl, hb⟩
      have B7 := Lib.hid (B6.out.trans (hb.mono B6.out.size))
      have N7 := Lib.hid (N6.out.keep hb)
      clear hb
      unfold stv zeroS
      go_wp2_with fail
      exact ⟨⟨k + 1, by omega, by go_num, Hb.out.trans (B7.out.mono hsz)⟩, by simp [intOf]; omega⟩
    · have H2 := Lib.hid (show k = 2 by omega)
      have u1 : decide ((k : Int) < 2) = false := decide_eq_false (by omega)
      go_wp2_with fail
      refine (awake_any _).mono ?_
      rintro e w5 ⟨rfl, hb4⟩
      have hs1 : w.heap.size ≤ V.heap.size := BV.out.size
      have B1 := Lib.hid (BV.out.trans (Hb.out.mono hs1))
      have B4 := Lib.hid (B1.out.trans (hb4.mono B1.out.size))
      clear hb4
      go_wp2_with fail
      go_ret
      exact ⟨rfl, B4.out⟩
end Go.Proofs.Ythfckoemldhoaaa.Timer
