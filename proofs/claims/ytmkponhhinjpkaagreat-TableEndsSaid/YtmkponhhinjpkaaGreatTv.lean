/- Two rows of like regions are the same. -/
import Derived.Test.YtmkponhhinjpkaaGreatTc
namespace Go.Proofs.YtmkponhhinjpkaaGreat.Table
open Go.RowKit Go.Maps Go.ChangeShapes Go.WideShapes Go.ChangeAt
set_option linter.unusedVariables false

set_option maxRecDepth 100000 in
set_option maxHeartbeats 1000000 in
theorem same_any (a a' : Option Addr) (n cap cap' : Nat) (d : List Rg) (w : World) (hn : n ≤ 1000000) (h : RowG w a n d) (h' : RowG w a' n d) :
    Calls Tryz.prog 10 #[.slice a n cap, .slice a' n cap'] w fun e w' => e = .returned (.bool true) ∧ Below w.heap.size w w' := by
  have Hr := Lib.hid h
  have Hs := Lib.hid h'
  clear h h'
  go_enter Tryz.func10, Tryz.ntmps10
  go_wp2_with fail
  go_loopw [5] (fun i wr => ∃ k : Nat, k ≤ n ∧ i = .int .i64 k ∧ Below w.heap.size w wr) (fun i _ => n - (intOf i).toNat)
  case atStart => exact ⟨0, Nat.zero_le _, rfl, Below.refl _ _⟩
  case round =>
    obtain ⟨k, hk, rfl, hb⟩ := hrel
    have Hb := Lib.hid hb
    have hsz := hb.size
    clear hb
    by_cases hlt : k < n
    · obtain ⟨b, off, rfl, ce⟩ := Hr.out.2 k hlt
      obtain ⟨b', off', rfl, cf⟩ := Hs.out.2 k hlt
      have ce := ce.keep Hb.out
      have cf := cf.keep Hb.out
      obtain ⟨x, hx⟩ : ∃ x, d[k]! = x := ⟨_, rfl⟩
      rw [hx] at ce cf
      clear hx
      obtain ⟨o, W, F, T, rd, wt, K, lk⟩ := x
      obtain ⟨e0, e1, e2, e3, e4, e5, e6, e7⟩ := ce
      obtain ⟨f0, f1, f2, f3, f4, f5, f6, f7⟩ := cf
      have i1 : (0 : Int) ≤ (k : Int) := by omega
      have i2 : (k : Int) < (n : Int) := by omega
      go_wp2_with fail
      refine wp_region_ext (by kernel_rfl) (by kernel_rfl) ?_
      intro X hX
      obtain rfl := hX.out
      clear hX
      have x0 := ext_cell e0
      have x1 := ext_cell e1
      have x2 := ext_cell e2
      have x3 := ext_cell e3
      have x4 := ext_cell e4
      have x5 := ext_cell e5
      have x6 := ext_cell e6
      have x7 := ext_cell e7
      have y0 := ext_cell f0
      have y1 := ext_cell f1
      have y2 := ext_cell f2
      have y3 := ext_cell f3
      have y4 := ext_cell f4
      have y5 := ext_cell f5
      have y6 := ext_cell f6
      have y7 := ext_cell f7
      clear e0 e1 e2 e3 e4 e5 e6 e7 f0 f1 f2 f3 f4 f5 f6 f7
      repeat (go_big_quiet_step (fail))
      refine wpQuiet_nil ?_
      intro w9 hw9
      obtain ⟨p9, rfl⟩ := hw9
      have h9 := ext_below X p9
      have H9 := Lib.hid (Hb.out.trans (h9.mono hsz))
      clear h9 x0 x1 x2 x3 x4 x5 x6 x7 y0 y1 y2 y3 y4 y5 y6 y7
      go_wp2_with fail
      exact ⟨⟨k + 1, by omega, by go_num, H9.out⟩, by simp [intOf]; omega⟩
    · obtain rfl : k = n := by omega
      go_wp2_with fail
      go_ret
      exact ⟨rfl, Hb.out⟩
end Go.Proofs.YtmkponhhinjpkaaGreat.Table
