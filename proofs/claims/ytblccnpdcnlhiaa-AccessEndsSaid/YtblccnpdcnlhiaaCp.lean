/- The walks of AccessAsks and AccessReads. -/
import Derived.Test.YtblccnpdcnlhiaaCo
namespace Go.Proofs.Ytblccnpdcnlhiaa.Access
open Go.RowKit Go.Maps Go.ChangeShapes Go.WideShapes Go.ChangeAt Kit Word
set_option linter.unusedVariables false

theorem asks_walk (W : Int) (r : Bool) (A S D : Int) (w : World) (hW : (Lit.int .i64 W).wf = true) (hA : (Lit.int .u32 A).wf = true) (hS : (Lit.int .i64 S).wf = true) (hD : (Lit.int .u32 D).wf = true) :
    Calls Try.prog 3 #[acc W r A S D] w fun e w' => e = .returned (.bool true) ∧ Below w.heap.size w w' := by
  have a := bounds_u32 hA
  have d := bounds_u32 hD
  have As := fun w => asks_any W r A S D w (by omega) (by omega) (by omega) (by omega)
  clear a d hW hA hS hD
  go_enter Try.func3, Try.ntmps3
  go_wp2_with fail
  refine (As _).mono ?_
  rintro e w1 ⟨rfl, hb⟩
  have B1 := Lib.hid (((Below.refl w.heap.size w).alloc (Nat.le_refl _) _).trans (hb.mono (by simp)))
  clear hb
  go_wp2_with fail
  refine (awake_any _).mono ?_
  rintro e w2 ⟨rfl, hb⟩
  have B2 := Lib.hid (B1.out.trans (hb.mono B1.out.size))
  clear hb
  go_wp2_with fail
  go_ret
  exact ⟨rfl, B2.out⟩

theorem lent_row {w : World} {B g n c : Nat} {l : List Int} {M : List Value} (h : w.ownsRow B 5 1 (.slice (some ⟨g, 0, none⟩) (n + 12) c) (n + 12) (bv l ++ M)) (hrow : ∀ x ∈ l, (Lit.int .u8 x).wf = true) (hl : l.length = n) : Row .u8 w (some ⟨g, 0, none⟩) n l := by
  have hc := lent_left h hl
  refine ⟨hl, Nat.le_trans (Nat.le_trans (Nat.le_add_right n 12) (KitBytes.r_le h)) (KitBytes.r_max h), hrow, ?_⟩
  exact .inr ⟨g, 0, rfl, (KitBytes.r_lt h g ⟨_, rfl, rfl⟩).2, fun i hi => by rw [Nat.zero_add]; exact hc i hi⟩
set_option maxHeartbeats 1000000 in
theorem reads_any (a : Option Addr) (n cap : Nat) (l : List Int) (w : World) (hrow : Row .u8 w a n l) (hnone : a = none → cap = 0) (hcap : n ≤ cap) (hn : n ≤ 1000) :
    Calls Try.prog 10 #[.slice a n cap] w fun e w' => e = .returned (.bool true) ∧ Below w.heap.size w w' := by
  obtain ⟨W, r, A, S, D, er, hd⟩ := dec_is n l
  have Hrow := Lib.hid hrow
  have Hd := Lib.hid hd
  have Hnone := Lib.hid hnone
  clear hrow hd hnone
  go_enter Try.func10, Try.ntmps10
  go_wp2_with fail
  refine (lent_any a n cap l _ Hrow.out Hnone.out hn).mono ?_
  rintro e w1 ⟨g, rfl, hown, hb1⟩
  have O1 := Lib.hid hown
  have B1 := Lib.hid hb1
  clear hown hb1
  go_wp2_with fail
  refine (Decode_any _ n (n + 12) l W r A S D er _ (lent_row O1.out Hrow.out.2.2.1 Hrow.out.1) (by omega) Hd.out).mono ?_
  rintro e w2 ⟨rfl, hb⟩
  have O2 := Lib.hid (bown_below O1.out hb)
  have B2 := Lib.hid (B1.out.trans (hb.mono B1.out.size))
  clear hb O1 B1
  have hk := (Below.refl w2.heap.size w2).alloc (Nat.le_refl _) (.cells #[.int .i64 W, .bool r, .int .u32 A, .int .i64 S, .int .u32 D] 24)
  have F2 := Lib.hid (five_new w2 W r A S D 24)
  have O3 := Lib.hid (bown_below O2.out hk)
  have B3 := Lib.hid (B2.out.trans (hk.mono B2.out.size))
  clear hk O2
  go_wp2_with fail
  refine (rDecode_any a n cap l W r A S D er _ (Hrow.out.below B3.out) hcap Hd.out).mono ?_
  rintro e w3 ⟨rfl, hb⟩
  have F3 := Lib.hid (F2.out.keep hb)
  have O4 := Lib.hid (bown_below O3.out hb)
  have B4 := Lib.hid (B3.out.trans (hb.mono B3.out.size))
  obtain ⟨C, hC⟩ : ∃ C, w2.heap.size = C := ⟨_, rfl⟩
  rw [hC] at F3
  rw [hC]
  clear hb hC O3 B3 B2 F2
  have hk := (Below.refl w3.heap.size w3).alloc (Nat.le_refl _) (.cells #[.int .i64 W, .bool r, .int .u32 A, .int .i64 S, .int .u32 D] 24)
  have O5 := Lib.hid (bown_below O4.out hk)
  have B5 := Lib.hid (B4.out.trans (hk.mono B4.out.size))
  obtain ⟨k0, k1, k2, k3, k4⟩ := F3.out.keep hk
  clear hk O4
  go_wp2_with fail
  refine (kept_any _ g n cap 0 a l _ hn (Hrow.out.below B5.out) O5.out).mono ?_
  rintro e w' ⟨rfl, j, rfl⟩
  go_wp2_with fail
  go_ret
  exact ⟨rfl, below_drewN B5.out j⟩
theorem reads_walk (a : Option Addr) (n cap : Nat) (l : List Int) (w : World) (hrow : Row .u8 w a n l) (hnone : a = none → cap = 0) (hcap : n ≤ cap) :
    Calls Try.prog 4 #[.slice a n cap] w fun e w' => e = .returned (.bool true) ∧ Below w.heap.size w w' := by
  by_cases hn : n ≤ 1000
  · have d1 : decide ((1000 : Int) < (n : Int)) = false := decide_eq_false (by omega)
    have Rd := fun w hrow => reads_any a n cap l w hrow hnone hcap hn
    have Hrow := Lib.hid hrow
    clear hrow hnone
    go_enter Try.func4, Try.ntmps4
    go_wp2_with fail
    refine (Rd _ Hrow.out).mono ?_
    rintro e w1 ⟨rfl, hb⟩
    have B1 := Lib.hid hb
    clear hb
    go_wp2_with fail
    refine (awake_any _).mono ?_
    rintro e w2 ⟨rfl, hb⟩
    have B2 := Lib.hid (B1.out.trans (hb.mono B1.out.size))
    clear hb
    go_wp2_with fail
    go_ret
    exact ⟨rfl, B2.out⟩
  · have d1 : decide ((1000 : Int) < (n : Int)) = true := decide_eq_true (by omega)
    have d2 : decide (1000 < n) = true := decide_eq_true (by omega)
    clear hrow hnone hcap
    go_enter Try.func4, Try.ntmps4
    go_wp2_with fail
    refine (awake_any _).mono ?_
    rintro e w1 ⟨rfl, hb⟩
    have B1 := Lib.hid hb
    clear hb
    go_wp2_with fail
    go_ret
    exact ⟨rfl, B1.out⟩
end Go.Proofs.Ytblccnpdcnlhiaa.Access
