/- The walk of WindowApart. (ht: what of laid variables package window needs.) -/
import Derived.Test.YtfpammfcchboaaaVk
namespace Go.Proofs.Ytfpammfcchboaaa.Win
open Go.RowKit Fifo Go.Maps Go.ChangeShapes Go.WideShapes Go.ChangeAt Go.Proofs.Ytfpammfcchboaaa.Access
open Go.Proofs.Ytfpammfcchboaaa.Reach (Two two_new)
set_option linter.unusedVariables false

set_option maxRecDepth 100000 in
set_option maxHeartbeats 4000000 in
theorem wapart_of (a : Option Addr) (n cap : Nat) (l : List Dv) (p m : Int) (w : World) (h : RowV w a n l) (hno : a = none → n = 0 ∧ cap = 0) (hc : n ≤ cap) (hm : n ≤ maxLen) (hp : (Lit.int .u32 p).wf = true) (hmw : (Lit.int .i64 m).wf = true) (ht : WT w) :
    Calls Try.prog 6 #[.slice a n cap, .int .u32 p, .int .i64 m] w fun e w' => e = .returned (.bool true) ∧ Below w.heap.size w w' := by
  have Hr := Lib.hid h
  have Ht := Lib.hid ht
  have Hno := Lib.hid hno
  clear h ht hno
  by_cases hn : n ≤ 100
  · have d1 : decide ((100 : Int) < (n : Int)) = false := decide_eq_false (by omega)
    have Right := Lib.hid (fun w (h1 : WT w) (h2 : RowV w a n l) => Right_any a n cap l (rowB l) w (by omega) hc h1 h2 rfl)
    cases hb : rowB l with
    | false =>
      rw [hb] at Right
      go_enter Try.func6, Try.ntmps6
      go_wp2_with fail
      refine (awake_any _ Ht.out).mono ?_
      rintro e w1 ⟨rfl, hb1⟩
      have B1 := Lib.hid hb1
      clear hb1
      go_wp2_with fail
      refine (Right.out _ (Ht.out.keep B1.out) (Hr.out.keep B1.out)).mono ?_
      rintro e w2 ⟨rfl, hb2⟩
      have B2 := Lib.hid (B1.out.trans (hb2.mono B1.out.size))
      clear hb2
      go_wp2_with fail
      go_ret
      exact ⟨rfl, B2.out⟩
    | true =>
      have hl16 : n ≤ 16 := by have := (rowB_iff.1 hb).1; rw [Hr.out.1] at this; exact this
      have Hrow := Lib.hid hb
      rw [hb] at Right
      obtain ⟨j, hj⟩ : ∃ j, (atV l p).getD 0 = j := ⟨_, rfl⟩
      obtain ⟨b, hjb⟩ : ∃ b, (atV l p).isSome = b := ⟨_, rfl⟩
      have At := Lib.hid (fun w (h1 : WT w) (h2 : RowV w a n l) => At_any a n cap l p j b w (by omega) hc h1 h2 hj hjb)
      have Hj := Lib.hid hj
      have Hjb := Lib.hid hjb
      clear hj hjb hb
      go_enter Try.func6, Try.ntmps6
      go_wp2_with fail
      refine (awake_any _ Ht.out).mono ?_
      rintro e w1 ⟨rfl, hb1⟩
      have B1 := Lib.hid hb1
      clear hb1
      go_wp2_with fail
      refine (Right.out _ (Ht.out.keep B1.out) (Hr.out.keep B1.out)).mono ?_
      rintro e w2 ⟨rfl, hb2⟩
      have B2 := Lib.hid (B1.out.trans (hb2.mono B1.out.size))
      clear hb2 B1
      go_wp2_with fail
      refine (At.out _ (Ht.out.keep B2.out) (Hr.out.keep B2.out)).mono ?_
      rintro e w3 ⟨rfl, hb3⟩
      have B3 := Lib.hid (B2.out.trans (hb3.mono B2.out.size))
      clear hb3 B2 At
      go_wp2_with fail
      go_loopw [9] (fun i wr => ∃ k : Nat, k ≤ n ∧ i = .int .i64 k ∧ Below w.heap.size w wr) (fun i _ => n - (intOf i).toNat)
      case atStart => exact ⟨0, Nat.zero_le _, rfl, B3.out⟩
      case round =>
      obtain ⟨k, hk, rfl, hb⟩ := hrel
      have Hb := Lib.hid hb
      have hsz := hb.size
      clear hb B3
      by_cases hlt : k < n
      · obtain ⟨b0, off, rfl, ce⟩ := Hr.out.2.2 k hlt
        have ce := ce.keep Hb.out
        have hok := Hr.out.2.1 k hlt
        obtain ⟨r1, r2, r3, r4, r5, r6, r7, r8, r9⟩ := row_at Hrow.out (by rw [Hr.out.1]; exact hlt) hok
        have hh := at_has Hrow.out p (show k < l.length by rw [Hr.out.1]; exact hlt)
        rw [Hj.out, Hjb.out] at hh
        obtain ⟨x, hx⟩ : ∃ x, l[k]! = x := ⟨_, rfl⟩
        rw [hx] at ce hok r1 r2 r3 r4 r5 r6 r7 r8 r9 hh
        obtain ⟨f, hf⟩ : ∃ f, x.F = f := ⟨_, rfl⟩
        obtain ⟨t, ht⟩ : ∃ t, x.T = t := ⟨_, rfl⟩
        have hh2 : Reach.hasB f t p = (b && j == k) := by rw [← hf, ← ht]; exact hh
        have RX := Lib.hid (fun w (h1 : WT w) => Reach_any x.k x.B x.S x.O x.L f t true w hok.1.1 hok.1.2 hok.2.1.1 hok.2.1.2 hok.2.2.1.1 hok.2.2.1.2 r1 (by rw [← hf]; unfold Dv.F; rw [r1]) (by rw [← ht]; unfold Dv.T; rw [r1]))
        rw [hf] at r2 r4 r5 r7 r9
        rw [ht] at r3 r5 r6 r8 r9
        obtain ⟨xk, xB, xS, xO, xL⟩ := x
        simp only [] at r9
        have SX := Lib.hid (fun w => Reach.Size_val f t xS w r4 (by omega) (by omega) r6 r9)
        have HX := Lib.hid (fun w => Reach.Has_val f t p _ w hh2)
        obtain ⟨e0, e1, e2, e3, e4⟩ := ce
        have i1 : (0 : Int) ≤ (k : Int) := by omega
        have i2 : (k : Int) < (n : Int) := by omega
        clear hx hok hh hh2 r1 r2 r3 r9 hf ht
        go_wp2_with fail
        refine (RX.out _ (Ht.out.keep Hb.out)).mono ?_
        rintro e w4 ⟨rfl, hb4⟩
        have B4 := Lib.hid (Hb.out.trans (hb4.mono hsz))
        have T4 := Lib.hid (two_new w4 f t 41)
        have E2 := cell_keep hb4 e2
        have E2' := Lib.hid (cell_keep (below_new (w := w4) (.cells #[.int .u32 f, .int .u32 t] 41)) E2)
        have B5 := Lib.hid (B4.out.alloc B4.out.size (.cells #[.int .u32 f, .int .u32 t] 41))
        clear hb4 e0 e1 e2 e3 e4 E2 B4 RX
        obtain ⟨c, hc2⟩ : ∃ c, (j == k) = c := ⟨_, rfl⟩
        rw [hc2] at HX
        have hck : ((j : Int) == (k : Int)) = c := by
          rw [← hc2]
          by_cases hjk : j = k
          · subst hjk; simp
          · rw [show (j == k) = false by simpa using hjk]
            have : ¬ ((j : Int) = (k : Int)) := by omega
            simpa using this
        have q1 : (xS == xS) = true := by simp
        have q2 : (c == c) = true := by simp
        clear hc2
        go_wp2_with fail
        cases b
        all_goals (
          simp only [Bool.true_and, Bool.false_and] at HX
          refine wp_region_ext (by kernel_rfl) (by kernel_rfl) ?_
          intro Y hY
          obtain rfl := hY.out
          clear hY
          have t0 := ext_cell T4.out.1
          have t1 := ext_cell T4.out.2
          have y2 := ext_cell E2'.out
          try simp only [Act.put]
          repeat (go_big_quiet_step ((first
            | (go_at_call 20; with_reducible exact ext_of (SX.out _))
            | (go_at_call 21; with_reducible exact ext_of (HX.out _)))))
          refine wpQuiet_nil ?_
          intro w9 hw9
          obtain ⟨p9, rfl⟩ := hw9
          have H9 := Lib.hid (B5.out.trans ((ext_below _ p9).mono B5.out.size))
          clear t0 t1 y2
          go_wp2_with fail
          exact ⟨⟨k + 1, by omega, by go_num, H9.out⟩, by simp [intOf]; omega⟩)
      · obtain rfl : k = n := by omega
        obtain ⟨q, hq, Pk⟩ := pick_is m (k + 1) (by omega) (by omega)
        have Pk := Lib.hid Pk
        have Hl := Lib.hid Hr.out.1
        go_wp2_with fail
        refine (Pk.out _).mono ?_
        rintro e w4 ⟨rfl, rfl⟩
        have i1 : (0 : Int) ≤ (q : Int) := by omega
        have i2 : (q : Int) ≤ (k : Int) := by omega
        have i3 : (q : Int) ≤ (cap : Int) := by omega
        have i4 : (k : Int) ≤ (cap : Int) := by omega
        have HR4 := Lib.hid (Hr.out.keep Hb.out)
        go_wp2_with fail
        refine (Right_any a q cap (l.take q) true _ (by omega) (by omega) (Ht.out.keep Hb.out) (HR4.out.take (by omega)) (row_take Hrow.out q)).mono ?_
        rintro e w5 ⟨rfl, hb5⟩
        have B5 := Lib.hid (Hb.out.trans (hb5.mono hsz))
        have HR5 := Lib.hid (HR4.out.keep hb5)
        have d16 : decide ((k : Int) ≤ 16) = true := decide_eq_true (by omega)
        clear hb5 HR4
        cases a with
        | none =>
          obtain ⟨rfl, rfl⟩ := Hno.out rfl
          obtain rfl : q = 0 := by omega
          go_wp2_with fail
          · refine (Right_any _ 0 0 [] true _ (by omega) (by omega) (Ht.out.keep B5.out) (RowV.empty _ _) (by decide)).mono ?_
            rintro e w6 ⟨rfl, hb6⟩
            have B6 := Lib.hid (B5.out.trans (hb6.mono B5.out.size))
            clear hb6
            go_wp2_with fail
            go_ret
            exact ⟨rfl, B6.out⟩
        | some ad =>
          go_wp2_with fail
          · refine (Right_any _ (k - q) _ (l.drop q) true _ (by omega) (by omega) (Ht.out.keep B5.out) (HR5.out.tail0 (by omega)) (row_drop Hrow.out q)).mono ?_
            rintro e w6 ⟨rfl, hb6⟩
            have B6 := Lib.hid (B5.out.trans (hb6.mono B5.out.size))
            clear hb6
            go_wp2_with fail
            go_ret
            exact ⟨rfl, B6.out⟩
          · refine (Right_any _ (k - q) _ (l.drop q) true _ (by omega) (by omega) (Ht.out.keep B5.out) (HR5.out.tail (by omega)) (row_drop Hrow.out q)).mono ?_
            rintro e w6 ⟨rfl, hb6⟩
            have B6 := Lib.hid (B5.out.trans (hb6.mono B5.out.size))
            clear hb6
            go_wp2_with fail
            go_ret
            exact ⟨rfl, B6.out⟩
  · have d1 : decide ((100 : Int) < (n : Int)) = true := decide_eq_true (by omega)
    go_enter Try.func6, Try.ntmps6
    go_wp2_with fail
    refine (awake_any _ Ht.out).mono ?_
    rintro e w1 ⟨rfl, hb1⟩
    have B1 := Lib.hid hb1
    clear hb1
    go_wp2_with fail
    go_ret
    exact ⟨rfl, B1.out⟩
theorem wapart_walk (a : Option Addr) (n cap : Nat) (l : List Dv) (p m : Int) (w : World) (h : RowV w a n l) (hno : a = none → n = 0 ∧ cap = 0) (hc : n ≤ cap) (hm : n ≤ maxLen) (hp : (Lit.int .u32 p).wf = true) (hmw : (Lit.int .i64 m).wf = true) :
    Calls Try.prog 6 #[.slice a n cap, .int .u32 p, .int .i64 m] w fun e w' => e = .returned (.bool true) ∧ Below w.heap.size w w' :=
  wapart_of a n cap l p m w h hno hc hm hp hmw trivial
end Go.Proofs.Ytfpammfcchboaaa.Win
