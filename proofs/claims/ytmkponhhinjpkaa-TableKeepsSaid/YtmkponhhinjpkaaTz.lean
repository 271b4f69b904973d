/- The walk of TableKeeps: joined. -/
import Derived.Test.YtmkponhhinjpkaaTx
namespace Go.Proofs.Ytmkponhhinjpkaa.Table
open Go.RowKit Fifo Go.Maps Go.ChangeShapes Go.WideShapes Go.ChangeAt Go.Proofs.Ytmkponhhinjpkaa.Access
set_option linter.unusedVariables false

theorem setE_cases {d : List Rg} {m : Int} {r : Rg} (h : openE d m = 0) : setE d m r = 4 ∨ setE d m r = 13 ∨ setE d m r = 0 := by
  unfold setE
  rw [if_pos h]
  split
  · split
    · exact .inr (.inl rfl)
    · exact .inr (.inr rfl)
  · exact .inl rfl
set_option maxRecDepth 100000 in
set_option maxHeartbeats 1000000 in
theorem keeps_walk (a : Option Addr) (n cap : Nat) (d : List Rg) (m : Int) (o : Bool) (W F T : Int) (rd wt : Bool) (K : Int) (lk : Bool) (V : Int) (w : World) (h : RowG w a n d) (hno : a = none → n = 0 ∧ cap = 0) (hc : n ≤ cap) (hm : n ≤ maxLen) (hmw : (Lit.int .i64 m).wf = true)
    (hW : (Lit.int .i64 W).wf = true) (hF : (Lit.int .u32 F).wf = true) (hT : (Lit.int .u32 T).wf = true) (hK : (Lit.int .i64 K).wf = true) (hV : (Lit.int .i64 V).wf = true) :
    Calls Try.prog 4 #[.slice a n cap, .int .i64 m, Region.reg o W F T rd wt K lk, .int .i64 V] w fun e w' => e = .returned (.bool true) ∧ Below w.heap.size w w' := by
  by_cases hn : n ≤ 100
  · by_cases h0 : openE d m = 0
    · obtain ⟨k, rfl⟩ := Int.eq_ofNat_of_zero_le (open_ok h0).2.1
      rcases setE_cases (r := ⟨o, W, F, T, rd, wt, K, lk⟩) h0 with h1 | h1 | h1
      · exact keeps_some a n cap d k o W F T rd wt K lk V 4 w hn hc (fun e => (hno e).2) h h0 h1 (.inl rfl)
      · exact keeps_some a n cap d k o W F T rd wt K lk V 13 w hn hc (fun e => (hno e).2) h h0 h1 (.inr rfl)
      · exact keeps_told a n cap d k o W F T rd wt K lk V w hn hc (fun e => (hno e).2) h h0 h1
    · exact keeps_shut a n cap d m o W F T rd wt K lk V (openE d m) w hn hc (fun e => (hno e).2) h rfl (by simpa using h0)
  · have d1 : decide ((100 : Int) < (n : Int)) = true := decide_eq_true (by omega)
    have H0 := Lib.hid ((Below.refl w.heap.size w).alloc (Nat.le_refl _) (.cells #[.bool o, .int .i64 W, .int .u32 F, .int .u32 T, .bool rd, .bool wt, .int .i64 K, .bool lk] 36))
    clear hmw hW hF hT hK hV hm hno h hc
    go_enter Try.func4, Try.ntmps4
    go_wp2_with fail
    refine (awake_any _).mono ?_
    rintro e w1 ⟨rfl, hb1⟩
    have B1 := Lib.hid (H0.out.trans (hb1.mono H0.out.size))
    clear hb1
    go_wp2_with fail
    go_ret
    exact ⟨rfl, B1.out⟩
end Go.Proofs.Ytmkponhhinjpkaa.Table
