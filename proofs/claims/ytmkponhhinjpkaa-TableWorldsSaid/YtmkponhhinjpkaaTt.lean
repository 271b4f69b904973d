/- The walk of TableWorlds. -/
import Derived.Test.YtmkponhhinjpkaaTs
namespace Go.Proofs.Ytmkponhhinjpkaa.Table
open Go.RowKit Fifo Go.Maps Go.ChangeShapes Go.WideShapes Go.ChangeAt Go.Proofs.Ytmkponhhinjpkaa.Access
set_option linter.unusedVariables false

/-- What is known of the world that has the address: of none so far, or of the one of a region. -/
def Who (d : List Rg) (p : Int) (k : Nat) (v : Int) : Prop := v = -1 ∨ ∃ j, j < k ∧ d[j]!.o = true ∧ Reach.hasB d[j]!.F d[j]!.T p = true ∧ v = d[j]!.W
theorem Who.step {d : List Rg} {p : Int} {k : Nat} {v : Int} (h : Who d p k v) : Who d p (k + 1) v := by
  rcases h with h | ⟨j, h1, h2⟩
  · exact .inl h
  · exact .inr ⟨j, by omega, h2⟩

set_option maxRecDepth 100000 in
set_option maxHeartbeats 4000000 in
theorem worlds_core (a : Option Addr) (n cap : Nat) (d : List Rg) (p : Int) (w : World) (hn : n ≤ 100) (hc : n ≤ cap) (h : RowG w a n d) :
    Calls Try.prog 5 #[.slice a n cap, .int .u32 p] w fun e w' => e = .returned (.bool true) ∧ Below w.heap.size w w' := by
  have d1 : decide ((100 : Int) < (n : Int)) = false := decide_eq_false (by omega)
  have Hr := Lib.hid h
  obtain ⟨tb, htb⟩ : ∃ tb, tabB d = tb := ⟨_, rfl⟩
  have Htb := Lib.hid htb
  clear h htb
  go_enter Try.func5, Try.ntmps5
  go_wp2_with fail
  refine (awake_any _).mono ?_
  rintro e w1 ⟨rfl, hb1⟩
  have B1 := Lib.hid hb1
  clear hb1
  go_wp2_with fail
  refine (Right_any a n cap d tb _ (by omega) hc (Hr.out.keep B1.out) Htb.out).mono ?_
  rintro e w2 ⟨rfl, hb2⟩
  have B2 := Lib.hid (B1.out.trans (hb2.mono B1.out.size))
  clear hb2 B1
  cases tb with
  | false =>
    go_wp2_with fail
    go_ret
    exact ⟨rfl, B2.out⟩
  | true =>
    go_wp2_with fail
    go_loopw [5, 6] (fun v i wr => ∃ (k : Nat) (x : Int), k ≤ n ∧ i = .int .i64 k ∧ v = .int .i64 x ∧ Hid (Who d p k x) ∧ Below w.heap.size w wr) (fun _ i _ => n - (intOf i).toNat)
    case atStart => exact ⟨0, -1, Nat.zero_le _, rfl, rfl, Lib.hid (.inl rfl), B2.out⟩
    case round =>
      obtain ⟨k, x, hk, rfl, rfl, hwho, hb⟩ := hrel
      have Hb := Lib.hid hb
      have hsz := hb.size
      clear hb
      by_cases hlt : k < n
      · obtain ⟨b, off, rfl, ce⟩ := Hr.out.2 k hlt
        have ce := ce.keep Hb.out
        obtain ⟨y, hy⟩ : ∃ y, d[k]! = y := ⟨_, rfl⟩
        rw [hy] at ce
        have Hy := Lib.hid hy
        clear hy
        obtain ⟨o, V, F, T, rd, wt, K, lk⟩ := y
        obtain ⟨e0, e1, e2, e3, e4, e5, e6, e7⟩ := ce
        have i1 : (0 : Int) ≤ (k : Int) := by omega
        have i2 : (k : Int) < (n : Int) := by omega
        clear e4 e5 e6 e7
        cases o with
        | false =>
          go_wp2_with fail
          exact ⟨⟨k + 1, x, by omega, by go_num, rfl, Lib.hid hwho.out.step, Hb.out⟩, by simp [intOf]; omega⟩
        | true =>
          obtain ⟨q, hq⟩ : ∃ q, Reach.hasB F T p = q := ⟨_, rfl⟩
          have Hq := Lib.hid hq
          clear hq
          go_wp2_with fail
          refine (Go.Proofs.Ytmkponhhinjpkaa.Reach.Has_val F T p q _ Hq.out).mono ?_
          rintro e w3 ⟨rfl, hb3⟩
          have Hb3 := Lib.hid (Hb.out.trans (hb3.mono hsz))
          have e1 := cell_keep hb3 e1
          clear hb3 e0 e2 e3
          cases q with
          | false =>
            go_wp2_with fail
            exact ⟨⟨k + 1, x, by omega, by go_num, rfl, Lib.hid hwho.out.step, Hb3.out⟩, by simp [intOf]; omega⟩
          | true =>
            have hkd : k < d.length := by rw [Hr.out.1]; exact hlt
            have hon : d[k]!.o = true := by rw [Hy.out]
            have hst := stand_parts (right_on ((tabB_iff.1 Htb.out).2 k hkd).1 hon)
            have hV0 : 0 ≤ V := by have := hst.2.1; rw [Hy.out] at this; exact this
            have hnew : Who d p (k + 1) V := .inr ⟨k, by omega, hon, by rw [Hy.out]; exact Hq.out, by rw [Hy.out]⟩
            have Hnew := Lib.hid hnew
            have hx : x = -1 ∨ x = V := by
              rcases hwho.out with h | ⟨j, h1, h2, h3, h4⟩
              · exact .inl h
              · refine .inr ?_
                have := one_world (tabB_iff.1 Htb.out) (i := j) (k := k) (by omega) hkd (p := p) h2 hon h3 (by rw [Hy.out]; exact Hq.out)
                rw [Hy.out] at this
                rw [h4]; exact this
            clear hnew hst hon hkd hwho
            rcases hx with rfl | rfl
            · go_wp2_with fail
              exact ⟨⟨k + 1, V, by omega, by go_num, rfl, Lib.hid Hnew.out, Hb3.out⟩, by simp [intOf]; omega⟩
            · have d2 : decide (0 ≤ x) = true := decide_eq_true hV0
              have d3 : (x != x) = false := by simp
              go_wp2_with fail
              exact ⟨⟨k + 1, x, by omega, by go_num, rfl, Lib.hid Hnew.out, Hb3.out⟩, by simp [intOf]; omega⟩
      · obtain rfl : k = n := by omega
        go_wp2_with fail
        go_ret
        exact ⟨rfl, Hb.out⟩
theorem worlds_walk (a : Option Addr) (n cap : Nat) (d : List Rg) (p : Int) (w : World) (h : RowG w a n d) (hno : a = none → n = 0 ∧ cap = 0) (hc : n ≤ cap) (hm : n ≤ maxLen) (hp : (Lit.int .u32 p).wf = true) :
    Calls Try.prog 5 #[.slice a n cap, .int .u32 p] w fun e w' => e = .returned (.bool true) ∧ Below w.heap.size w w' := by
  by_cases hn : n ≤ 100
  · exact worlds_core a n cap d p w hn hc h
  · have d1 : decide ((100 : Int) < (n : Int)) = true := decide_eq_true (by omega)
    go_enter Try.func5, Try.ntmps5
    go_wp2_with fail
    refine (awake_any _).mono ?_
    rintro e w1 ⟨rfl, hb1⟩
    have B1 := Lib.hid hb1
    clear hb1
    go_wp2_with fail
    go_ret
    exact ⟨rfl, B1.out⟩
end Go.Proofs.Ytmkponhhinjpkaa.Table
