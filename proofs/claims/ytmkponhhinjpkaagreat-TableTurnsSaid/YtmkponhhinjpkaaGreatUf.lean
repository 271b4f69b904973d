/- The walk of TableTurns. -/
import Derived.Test.YtmkponhhinjpkaaGreatUe
import Derived.Test.YtmkponhhinjpkaaGreatTs
namespace Go.Proofs.YtmkponhhinjpkaaGreat.Table
open Go.RowKit Fifo Go.Maps Go.ChangeShapes Go.WideShapes Go.ChangeAt Go.Proofs.YtmkponhhinjpkaaGreat.Access
open Go.Proofs.YtmkponhhinjpkaaGreat.Region (Eight eight_new)
set_option linter.unusedVariables false

theorem tmod_bound (x : Int) (n : Nat) (hn : 0 < n) : -(n : Int) < Int.tmod x n ∧ Int.tmod x n < n := by
  rcases Int.le_total 0 x with h | h
  · rw [Int.tmod_eq_emod_of_nonneg h]
    have h1 := Int.emod_nonneg x (show (n : Int) ≠ 0 by omega)
    have h2 := Int.emod_lt_of_pos x (show (0 : Int) < n by omega)
    omega
  · have e : Int.tmod x n = -(Int.tmod (-x) n) := by rw [Int.neg_tmod]; omega
    rw [e, Int.tmod_eq_emod_of_nonneg (show 0 ≤ -x by omega)]
    have h1 := Int.emod_nonneg (-x) (show (n : Int) ≠ 0 by omega)
    have h2 := Int.emod_lt_of_pos (-x) (show (0 : Int) < n by omega)
    omega
theorem pick_is (x : Int) (n : Nat) (hn : 0 < n) (hn2 : n < 1000) : ∃ p : Nat, p < n ∧ ∀ w, Calls Tryz.prog 15 #[.int .i64 x, .int .i64 (n : Nat)] w fun e w' => e = .returned (.int .i64 (p : Nat)) ∧ w = w' := by
  obtain ⟨t1, t2⟩ := tmod_bound x n hn
  obtain ⟨r, hr⟩ : ∃ r, Int.tmod x n = r := ⟨_, rfl⟩
  rw [hr] at t1 t2
  have e0 : decide ((n : Int) < 1) = false := decide_eq_false (by omega)
  have e1 : ¬ ((n : Int) = 0) := by omega
  by_cases hneg : r < 0
  · obtain ⟨p, hp⟩ := Int.eq_ofNat_of_zero_le (show 0 ≤ r + n by omega)
    refine ⟨p, by omega, fun w => ?_⟩
    have d1 : decide (r < 0) = true := decide_eq_true hneg
    have d2 : IntKind.i64.wrap (r + (n : Int)) = (p : Int) := by rw [i64w (by omega)]; exact hp
    clear hneg hp t1 t2 hn hn2
    go_enter Tryz.func15, Tryz.ntmps15
    go_wp2_with fail
    go_ret
    exact ⟨rfl, rfl⟩
  · obtain ⟨p, hp⟩ := Int.eq_ofNat_of_zero_le (show 0 ≤ r by omega)
    refine ⟨p, by omega, fun w => ?_⟩
    have d1 : decide (r < 0) = false := decide_eq_false hneg
    rw [← hp]
    clear hneg hp t1 t2 hn hn2
    go_enter Tryz.func15, Tryz.ntmps15
    go_wp2_with fail
    go_ret
    exact ⟨rfl, rfl⟩


set_option maxRecDepth 100000 in
set_option maxHeartbeats 2000000 in
theorem turns_core (a : Option Addr) (n cap : Nat) (d : List Rg) (m : Int) (o : Bool) (W F T : Int) (rd wt : Bool) (K : Int) (lk : Bool) (w : World) (hn : n ≤ 100) (hno : a = none → n = 0 ∧ cap = 0) (h : RowG w a n d) :
    Calls Tryz.prog 4 #[.slice a n cap, .int .i64 m, Region.reg o W F T rd wt K lk] w fun e w' => e = .returned (.bool true) ∧ Below w.heap.size w w' := by
  have d1 : decide ((100 : Int) < (n : Int)) = false := decide_eq_false (by omega)
  obtain ⟨p, hp, hpick⟩ := pick_is m 34 (by omega) (by omega)
  obtain ⟨b0, hb0⟩ : ∃ b0, w.heap.size = b0 := ⟨_, rfl⟩
  have h8 := eight_new w o W F T rd wt K lk 37
  rw [hb0] at h8
  have H8 := Lib.hid h8
  have H0 := Lib.hid ((Below.refl w.heap.size w).alloc (Nat.le_refl _) (.cells #[.bool o, .int .i64 W, .int .u32 F, .int .u32 T, .bool rd, .bool wt, .int .i64 K, .bool lk] 37))
  have Hr := Lib.hid h
  have Hp := Lib.hid hpick
  have Hno := Lib.hid hno
  clear h h8 hpick hno
  go_enter Tryz.func4, Tryz.ntmps4
  go_wp2_with fail
  refine wp_region_ext (by kernel_rfl) (by kernel_rfl) ?_
  intro Y hY
  have BY := Lib.hid (show Below w.heap.size w Y by rw [hY.out]; exact H0.out)
  have FY := Lib.hid (show Eight Y b0 o W F T rd wt K lk by rw [hY.out]; exact H8.out)
  have HR := Lib.hid (fun q => (Hr.out.keep BY.out).keep (ext_below Y q))
  clear hY H0 H8 hb0
  have k0 := ext_cell FY.out.c0
  have k1 := ext_cell FY.out.c1
  have k2 := ext_cell FY.out.c2
  have k3 := ext_cell FY.out.c3
  have k4 := ext_cell FY.out.c4
  have k5 := ext_cell FY.out.c5
  have k6 := ext_cell FY.out.c6
  have k7 := ext_cell FY.out.c7
  repeat (go_big_quiet_step ((first
    | (go_at_call 14; with_reducible exact ext_of (turns_any a n cap d m o W F T rd wt K lk _ (by omega) Hno.out (HR.out _)))
    | (go_at_call 14; with_reducible exact ext_of (turns_any a n cap d (p : Nat) o W F T rd wt K lk _ (by omega) Hno.out (HR.out _)))
    | (go_at_call 15; exact ext_same (Hp.out _))
    | (go_at_call 6; with_reducible exact ext_of (awake_any _)))))
  refine wpQuiet_nil ?_
  intro w9 hw9
  have h9 : Below Y.heap.size Y w9 := by obtain ⟨p9, rfl⟩ := hw9; exact ext_below Y p9
  have H9 := Lib.hid (BY.out.trans (h9.mono BY.out.size))
  clear hw9 h9 k0 k1 k2 k3 k4 k5 k6 k7
  go_wp2_with fail
  go_ret
  exact ⟨rfl, H9.out⟩
set_option maxRecDepth 100000 in
set_option maxHeartbeats 1000000 in
theorem turns_walk (a : Option Addr) (n cap : Nat) (d : List Rg) (m : Int) (o : Bool) (W F T : Int) (rd wt : Bool) (K : Int) (lk : Bool) (w : World) (h : RowG w a n d) (hno : a = none → n = 0 ∧ cap = 0) (hc : n ≤ cap) (hm : n ≤ maxLen) (hmw : (Lit.int .i64 m).wf = true)
    (hW : (Lit.int .i64 W).wf = true) (hF : (Lit.int .u32 F).wf = true) (hT : (Lit.int .u32 T).wf = true) (hK : (Lit.int .i64 K).wf = true) :
    Calls Tryz.prog 4 #[.slice a n cap, .int .i64 m, Region.reg o W F T rd wt K lk] w fun e w' => e = .returned (.bool true) ∧ Below w.heap.size w w' := by
  by_cases hn : n ≤ 100
  · exact turns_core a n cap d m o W F T rd wt K lk w hn hno h
  · have d1 : decide ((100 : Int) < (n : Int)) = true := decide_eq_true (by omega)
    have H0 := Lib.hid ((Below.refl w.heap.size w).alloc (Nat.le_refl _) (.cells #[.bool o, .int .i64 W, .int .u32 F, .int .u32 T, .bool rd, .bool wt, .int .i64 K, .bool lk] 37))
    clear hmw hW hF hT hK hm hno h hc
    go_enter Tryz.func4, Tryz.ntmps4
    go_wp2_with fail
    refine (awake_any _).mono ?_
    rintro e w1 ⟨rfl, hb1⟩
    have B1 := Lib.hid (H0.out.trans (hb1.mono H0.out.size))
    clear hb1
    go_wp2_with fail
    go_ret
    exact ⟨rfl, B1.out⟩
end Go.Proofs.YtmkponhhinjpkaaGreat.Table
